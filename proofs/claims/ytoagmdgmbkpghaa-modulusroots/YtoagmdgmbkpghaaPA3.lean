/- A11, A12, C0, A17, A18, A19, A20, A21, A25, A26 in one text -/
import Derived.Test.YtoagmdgmbkpghaaPA1
import Derived.Test.YtoagmdgmbkpghaaB0
import Derived.Test.YtoagmdgmbkpghaaPA2
import Derived.BigQuiet
import Derived.Laws.StructEq
import Derived.Deep.RegionHeld3
import Derived.Deep.DeepCutAuto
import Derived.Test.YtoagmdgmbkpghaaA5
/- words.Shift, words.lower, words.shiftLong -/
namespace Go.Proofs.Ytoagmdgmbkpghaa
open Go.RowKit

/-- What Shift tells. -/
def shv (a : Nat) (n : Int) : Nat := if 384 ≤ n ∨ n ≤ -384 then 0 else if n < 0 then a / 2 ^ (-n).toNat else a * 2 ^ n.toNat % big
theorem bcell {W w1 : World} (hb : Below W.heap.size W w1) : (∀ b o, b < W.heap.size → w1.cell? ⟨b, o, none⟩ = W.cell? ⟨b, o, none⟩) ∧ (∀ b o, b < W.heap.size → w1.frozen? ⟨b, o, none⟩ = W.frozen? ⟨b, o, none⟩) :=
  ⟨fun b o h => hb.cell (p := ⟨b, o, none⟩) h, fun b o h => hb.frozen (p := ⟨b, o, none⟩) h⟩
theorem wd_zero (j : Nat) : wd 0 j = 0 := by unfold wd; rw [Nat.zero_div]; rfl

set_option maxHeartbeats 400000 in
theorem shift_none (a : Nat) (n : Int) (h : 384 ≤ n ∨ n ≤ -384) (w : World) :
    Calls Try.prog 18 #[N a, .int .i64 n] w fun e w' => e = .returned (N 0) ∧ Below w.heap.size w w' := by
  by_cases h1 : 384 ≤ n
  · have hd : decide (384 ≤ n) = true := decide_eq_true h1
    clear h
    go_enter Try.func18, Try.ntmps18
    go_wp2
    refine bodyPost_ret (v := N 0) ?_ rfl ⟨rfl, ?_⟩
    · simp [results, Try.results18, go_sem, wd_zero]
    · exact ((Below.refl _ _).alloc (Nat.le_refl _) _).alloc (by first | omega | (simp <;> omega)) _
  · have h2 : n ≤ -384 := by omega
    have hd : decide (384 ≤ n) = false := decide_eq_false h1
    have hd2 : decide (n ≤ -384) = true := decide_eq_true h2
    clear h h1
    go_enter Try.func18, Try.ntmps18
    go_wp2
    refine bodyPost_ret (v := N 0) ?_ rfl ⟨rfl, ?_⟩
    · simp [results, Try.results18, go_sem, wd_zero]
    · exact ((Below.refl _ _).alloc (Nat.le_refl _) _).alloc (by first | omega | (simp <;> omega)) _

set_option maxHeartbeats 400000 in
theorem shift_up (a m : Nat) (h : m < 384) (w : World) :
    Calls Try.prog 18 #[N a, .int .i64 m] w fun e w' => e = .returned (N (a * 2 ^ m % big)) ∧ Below w.heap.size w w' := by
  have hd : decide (384 ≤ (m : Int)) = false := decide_eq_false (by omega)
  have hd2 : decide ((m : Int) ≤ -384) = false := decide_eq_false (by omega)
  go_enter Try.func18, Try.ntmps18
  go_wp2_with (go_at_call 36; refine (shiftUp_any a m h _).mono ?_; rintro e w1 ⟨rfl, hb⟩; obtain ⟨hc, hf⟩ := bcell hb)
  have hz : w.heap.size + 2 ≤ w1.heap.size := by have := hb.size; simp at this; omega
  refine bodyPost_ret (v := N (a * 2 ^ m % big)) ?_ rfl ⟨rfl, ?_⟩
  · simp [results, Try.results18, go_sem, hc]
  · exact below6 ((((Below.refl _ _).alloc (Nat.le_refl _) _).alloc (by first | omega | (simp <;> omega)) _).trans (hb.mono (by simp <;> omega))) (by omega) _ _ _ _ _ _

set_option maxHeartbeats 400000 in
theorem shift_down (a : Nat) (n : Int) (ha : a < big) (h : -384 < n) (h0 : n < 0) (w : World) :
    Calls Try.prog 18 #[N a, .int .i64 n] w fun e w' => e = .returned (N (a / 2 ^ (-n).toNat)) ∧ Below w.heap.size w w' := by
  have hd : decide (384 ≤ n) = false := decide_eq_false (by omega)
  have hd2 : decide (n ≤ -384) = false := decide_eq_false (by omega)
  have hc := fun w => shiftDown_any a (-n).toNat ha (by omega) w
  rw [Int.toNat_of_nonneg (show 0 ≤ -n by omega)] at hc
  have HC : Hid _ := hc
  generalize a / 2 ^ (-n).toNat = R at HC ⊢
  clear ha hc
  go_enter Try.func18, Try.ntmps18
  go_wp2_with (go_at_call 35; refine (HC.out _).mono ?_; rintro e w1 ⟨rfl, hb⟩; obtain ⟨hc, hf⟩ := bcell hb)
  refine bodyPost_ret (v := N R) ?_ rfl ⟨rfl, ?_⟩
  · simp [results, Try.results18, go_sem, hc]
  · exact below6 ((((Below.refl _ _).alloc (Nat.le_refl _) _).alloc (by first | omega | (simp <;> omega)) _).trans (hb.mono (by simp <;> omega))) (by omega) _ _ _ _ _ _

theorem shift_any (a : Nat) (n : Int) (ha : a < big) (w : World) :
    Calls Try.prog 18 #[N a, .int .i64 n] w fun e w' => e = .returned (N (shv a n)) ∧ Below w.heap.size w w' := by
  unfold shv
  by_cases h : 384 ≤ n ∨ n ≤ -384
  · rw [if_pos h]; exact shift_none a n h w
  · rw [if_neg h]
    by_cases h2 : n < 0
    · rw [if_pos h2]
      exact shift_down a n ha (by omega) h2 w
    · rw [if_neg h2]
      obtain ⟨m, rfl⟩ := Int.eq_ofNat_of_zero_le (show 0 ≤ n by omega)
      rw [Int.toNat_natCast]
      exact shift_up a m (by omega) w

end Go.Proofs.Ytoagmdgmbkpghaa
/- words.shiftLong -/
namespace Go.Proofs.Ytoagmdgmbkpghaa
open Go.RowKit

theorem div_zero_of (a m : Nat) (ha : a < big) (hm : 384 ≤ m) : a / 2 ^ m = 0 := Nat.div_eq_of_lt (Nat.lt_of_lt_of_le ha (big_le m hm))
theorem shv_high (a n : Nat) (ha : a < big) (hn : n < 64) : shv a ((n : Int) - 384) = a / 2 ^ (384 - n) := by
  unfold shv
  by_cases h : n = 0
  · rw [if_pos (by omega)]
    exact (div_zero_of a (384 - n) ha (by omega)).symm
  · rw [if_neg (by omega), if_pos (by omega)]
    have e : (-((n : Int) - 384)).toNat = 384 - n := by omega
    rw [e]
theorem long_top (a n : Nat) (hn : n < 64) : wd (a / 2 ^ (384 - n)) 0 = wd (a * 2 ^ n) 6 := by
  unfold wd
  rw [Nat.mul_zero, Nat.pow_zero, Nat.div_one]
  have e : 64 * 6 = n + (384 - n) := by omega
  rw [e, Nat.pow_add, ← Nat.div_div_eq_div_mul, Nat.mul_div_cancel _ (Nat.two_pow_pos n)]

end Go.Proofs.Ytoagmdgmbkpghaa
/- Numbers in memory, by the list; the operations of a region on numbers of six words. -/
namespace Go.Proofs.Ytoagmdgmbkpghaa
open Go.RowKit

abbrev O6 (v : Nat) : Obj := .cells #[.int .u64 (wd v 0), .int .u64 (wd v 1), .int .u64 (wd v 2), .int .u64 (wd v 3), .int .u64 (wd v 4), .int .u64 (wd v 5)] 24
abbrev Z6 : Obj := .cells #[.int .u64 0, .int .u64 0, .int .u64 0, .int .u64 0, .int .u64 0, .int .u64 0] 24
/-- The blocks of the list hold its numbers. -/
def Rws (wr : World) (l : List (Nat × Nat)) : Prop := ∀ g v, (g, v) ∈ l → g < wr.heap.size ∧ Row wr g 6 (wd v)
theorem Rws.nil (w : World) : Rws w [] := fun _ _ h => by cases h
theorem Rws.below {wr w1 : World} {l : List (Nat × Nat)} (h : Rws wr l) (hb : Below wr.heap.size wr w1) : Rws w1 l :=
  fun g v hm => ⟨Nat.lt_of_lt_of_le (h g v hm).1 hb.size, Row.below hb (h g v hm).2 (h g v hm).1⟩
theorem Rws.alloc {wr : World} {l : List (Nat × Nat)} (h : Rws wr l) (v : Nat) {g : Nat} (hg : g = wr.heap.size) : Rws (wr.alloc (O6 v)) ((g, v) :: l) := by
  intro g' v' hm
  rcases List.mem_cons.1 hm with h1 | h1
  · injection h1 with h2 h3
    subst h2 h3 hg
    exact ⟨by simp, Row.new wr _ 24 rfl (six_lt rfl)⟩
  · exact ⟨by simp; have := (h g' v' h1).1; omega, (h g' v' h1).2.alloc (h g' v' h1).1 _⟩
theorem Rws.drew {wr : World} {l : List (Nat × Nat)} (h : Rws wr l) : Rws wr.drew l := fun g v hm => ⟨(h g v hm).1, (h g v hm).2.drew⟩
theorem Rws.at {wr : World} {l : List (Nat × Nat)} (h : Rws wr l) {g v : Nat} (hm : (g, v) ∈ l) : g < wr.heap.size ∧ wr.cell? ⟨g, 0, none⟩ = some (.int .u64 (wd v 0)) ∧ wr.cell? ⟨g, 1, none⟩ = some (.int .u64 (wd v 1)) ∧ wr.cell? ⟨g, 2, none⟩ = some (.int .u64 (wd v 2)) ∧ wr.cell? ⟨g, 3, none⟩ = some (.int .u64 (wd v 3)) ∧ wr.cell? ⟨g, 4, none⟩ = some (.int .u64 (wd v 4)) ∧ wr.cell? ⟨g, 5, none⟩ = some (.int .u64 (wd v 5)) :=
  ⟨(h g v hm).1, (h g v hm).2.reads⟩

abbrev cells6 (v : Nat) : List Value := [.int .u64 (wd v 0), .int .u64 (wd v 1), .int .u64 (wd v 2), .int .u64 (wd v 3), .int .u64 (wd v 4), .int .u64 (wd v 5)]
abbrev zero6 : List Value := [.int .u64 0, .int .u64 0, .int .u64 0, .int .u64 0, .int .u64 0, .int .u64 0]
theorem Blk.row {w : World} {g v : Nat} (h : Blk w g (cells6 v)) : Row w g 6 (wd v) := fun j hj => by
  match j, hj with
  | 0, _ => exact h 0 _ rfl
  | 1, _ => exact h 1 _ rfl
  | 2, _ => exact h 2 _ rfl
  | 3, _ => exact h 3 _ rfl
  | 4, _ => exact h 4 _ rfl
  | 5, _ => exact h 5 _ rfl
theorem Rws.cons {wr : World} {l : List (Nat × Nat)} (h : Rws wr l) {g v : Nat} (hb : Blk wr g (cells6 v) ∧ g < wr.heap.size) : Rws wr ((g, v) :: l) := by
  intro g' v' hm
  rcases List.mem_cons.1 hm with e | hm
  · injection e with e1 e2
    subst e1 e2
    exact ⟨hb.2, hb.1.row⟩
  · exact h g' v' hm
theorem exec_load6 {ρ : Operand → Value} {o : Oper} {x : Operand} {g v : Nat} {w : World} {l : List (Nat × Nat)} (h : Rws w l) (hm : (g, v) ∈ l) (ho : o.op = .load 24 x) (hx : ρ x = .pointer (some ⟨g, 0, none⟩)) :
    (execOp ρ o).run Try.prog w = .ok (.value (N v)) w := by
  obtain ⟨h0, c0, c1, c2, c3, c4, c5⟩ := h.at hm
  clear h hm
  simp only [execOp, ho, hx]
  go_simp
theorem exec_made6 {ρ : Operand → Value} {o : Oper} {w : World} (ho : o.op = .alloc 24) :
    (execOp ρ o).run Try.prog w = .ok (.value (.pointer (some ⟨w.heap.size, 0, none⟩))) (w.alloc (.cells zero6.toArray 24)) := by
  simp only [execOp, ho]
  go_simp
theorem exec_laid6 {ρ : Operand → Value} {o : Oper} {x y : Operand} {g v : Nat} {w : World} (h : Blk w g zero6) (ho : o.op = .store 24 x y) (hx : ρ x = .pointer (some ⟨g, 0, none⟩)) (hy : ρ y = N v) :
    (execOp ρ o).run Try.prog w = .ok .skip (w.setCells g 0 (cells6 v)) := by
  obtain ⟨c0, f0⟩ := h 0 _ rfl
  obtain ⟨c1, f1⟩ := h 1 _ rfl
  obtain ⟨c2, f2⟩ := h 2 _ rfl
  obtain ⟨c3, f3⟩ := h 3 _ rfl
  obtain ⟨c4, f4⟩ := h 4 _ rfl
  obtain ⟨c5, f5⟩ := h 5 _ rfl
  clear h
  simp only [execOp, ho, hx, hy]
  go_simp
  simp [World.setCells]
theorem exec_call {P : Program} {ρ : Operand → Value} {o : Oper} {f : FuncId} {xs : Array Operand} {ts : Array TypeId} {args : Array Value} {w : World} (ho : o.op = .call { callee := .value (.func f), args := xs, argTypes := ts }) (hc : ∀ args w, (callFunc f args).run P w = .ok (.enter f args) w) (hf : ρ (.func f) = .func (.func f) #[] #[]) (hx : xs.map ρ = args) :
    (execOp ρ o).run P w = .ok (.enter f args) w := by
  subst hx
  simp only [execOp, ho, resolve, hf]
  simp [go_sem, Deferred.ofValue, invoke, hc]
theorem call16 : ∀ args w, (callFunc 16 args).run Try.prog w = .ok (.enter 16 args) w := by intro args w; go_simp
theorem call30 : ∀ args w, (callFunc 30 args).run Try.prog w = .ok (.enter 30 args) w := by intro args w; go_simp
theorem call22 : ∀ args w, (callFunc 22 args).run Try.prog w = .ok (.enter 22 args) w := by intro args w; go_simp
theorem call18 : ∀ args w, (callFunc 18 args).run Try.prog w = .ok (.enter 18 args) w := by intro args w; go_simp
theorem call34 : ∀ args w, (callFunc 34 args).run Try.prog w = .ok (.enter 34 args) w := by intro args w; go_simp
theorem call12 : ∀ args w, (callFunc 12 args).run Try.prog w = .ok (.enter 12 args) w := by intro args w; go_simp
theorem call11 : ∀ args w, (callFunc 11 args).run Try.prog w = .ok (.enter 11 args) w := by intro args w; go_simp
theorem AllOk.cons {P : Program} {ops : Array Oper} {S : World → Prop} {F : (Nat → Nat) → Act} {o : Oper} {os : List Oper} {k : Kind} {ks : List Kind} (h : KindOk P ops S F o k) (hs : AllOk P ops S F os ks) : AllOk P ops S F (o :: os) (k :: ks) := ⟨h, hs⟩
/-- The law, with the frame behind the region written out. -/
theorem region_law {P : Program} {ops : Array Oper} {Q : Exit → Act → World → Prop} {id : Nat} {a : Act} {w : World} (hm : P.follows .mixedOrders = true) (ks : List Kind) (S : World → Prop) (F : (Nat → Nat) → Act)
    (hF : ∀ γ, fill γ 0 ops.toList ks a = F γ) (hor : orderly ops ks a.tmps.size = true) (hL : LaidOk ks ks) (hS : ∀ w', Below w.heap.size w w' → S w') (hops : AllOk P ops S F ops.toList ks)
    (hend : ∀ γ w' l, Mem ks w l γ w' → (∀ i, i < ops.size → l.getD i false = true) → Q .normal (F γ) w') : (Code.region id ops true).wp P Q a w := by
  obtain rfl : (fun γ => fill γ 0 ops.toList ks a) = F := funext hF
  exact region_inv hm ks S hor hL hS hops hend
end Go.Proofs.Ytoagmdgmbkpghaa
/- words.divideStep -/
namespace Go.Proofs.Ytoagmdgmbkpghaa
open Go.RowKit

theorem Row.store6 {w : World} {g : Nat} {f0 : Nat → Int} (h : Row w g 6 f0) (f : Nat → Int) : Row ((((((w.setCell ⟨g, 0, none⟩ (.int .u64 (f 0))).setCell ⟨g, 1, none⟩ (.int .u64 (f 1))).setCell ⟨g, 2, none⟩ (.int .u64 (f 2))).setCell ⟨g, 3, none⟩ (.int .u64 (f 3))).setCell ⟨g, 4, none⟩ (.int .u64 (f 4))).setCell ⟨g, 5, none⟩ (.int .u64 (f 5))) g 6 f := by
  refine ((((((h.set (k := 0) (f 0)).set (k := 1) (f 1)).set (k := 2) (f 2)).set (k := 3) (f 3)).set (k := 4) (f 4)).set (k := 5) (f 5)).congr ?_
  intro j hj
  match j, hj with
  | 0, _ | 1, _ | 2, _ | 3, _ | 4, _ | 5, _ => simp [upd]
theorem Row.store7 {w : World} {g : Nat} {f0 : Nat → Int} (h : Row w g 7 f0) (f : Nat → Int) : Row (((((((w.setCell ⟨g, 0, none⟩ (.int .u64 (f 0))).setCell ⟨g, 1, none⟩ (.int .u64 (f 1))).setCell ⟨g, 2, none⟩ (.int .u64 (f 2))).setCell ⟨g, 3, none⟩ (.int .u64 (f 3))).setCell ⟨g, 4, none⟩ (.int .u64 (f 4))).setCell ⟨g, 5, none⟩ (.int .u64 (f 5))).setCell ⟨g, 6, none⟩ (.int .u64 (f 6))) g 7 f := by
  refine (((((((h.set (k := 0) (f 0)).set (k := 1) (f 1)).set (k := 2) (f 2)).set (k := 3) (f 3)).set (k := 4) (f 4)).set (k := 5) (f 5)).set (k := 6) (f 6)).congr ?_
  intro j hj
  match j, hj with
  | 0, _ | 1, _ | 2, _ | 3, _ | 4, _ | 5, _ | 6, _ => simp [upd]
theorem Row.past7 {w : World} {g g' n : Nat} {f : Nat → Int} (h : Row w g' n f) (hne : g ≠ g') (v0 v1 v2 v3 v4 v5 v6 : Value) : Row (((((((w.setCell ⟨g, 0, none⟩ v0).setCell ⟨g, 1, none⟩ v1).setCell ⟨g, 2, none⟩ v2).setCell ⟨g, 3, none⟩ v3).setCell ⟨g, 4, none⟩ v4).setCell ⟨g, 5, none⟩ v5).setCell ⟨g, 6, none⟩ v6) g' n f :=
  ((((((h.set_other (a := ⟨g, 0, none⟩) _ hne).set_other (a := ⟨g, 1, none⟩) _ hne).set_other (a := ⟨g, 2, none⟩) _ hne).set_other (a := ⟨g, 3, none⟩) _ hne).set_other (a := ⟨g, 4, none⟩) _ hne).set_other (a := ⟨g, 5, none⟩) _ hne).set_other (a := ⟨g, 6, none⟩) _ hne
theorem Row.past6 {w : World} {g g' n : Nat} {f : Nat → Int} (h : Row w g' n f) (hne : g ≠ g') (v0 v1 v2 v3 v4 v5 : Value) : Row ((((((w.setCell ⟨g, 0, none⟩ v0).setCell ⟨g, 1, none⟩ v1).setCell ⟨g, 2, none⟩ v2).setCell ⟨g, 3, none⟩ v3).setCell ⟨g, 4, none⟩ v4).setCell ⟨g, 5, none⟩ v5) g' n f :=
  (((((h.set_other (a := ⟨g, 0, none⟩) _ hne).set_other (a := ⟨g, 1, none⟩) _ hne).set_other (a := ⟨g, 2, none⟩) _ hne).set_other (a := ⟨g, 3, none⟩) _ hne).set_other (a := ⟨g, 4, none⟩) _ hne).set_other (a := ⟨g, 5, none⟩) _ hne
theorem size7 (w : World) (g : Nat) (v0 v1 v2 v3 v4 v5 v6 : Value) : (((((((w.setCell ⟨g, 0, none⟩ v0).setCell ⟨g, 1, none⟩ v1).setCell ⟨g, 2, none⟩ v2).setCell ⟨g, 3, none⟩ v3).setCell ⟨g, 4, none⟩ v4).setCell ⟨g, 5, none⟩ v5).setCell ⟨g, 6, none⟩ v6).heap.size = w.heap.size := by simp [World.setCell]
theorem size6 (w : World) (g : Nat) (v0 v1 v2 v3 v4 v5 : Value) : ((((((w.setCell ⟨g, 0, none⟩ v0).setCell ⟨g, 1, none⟩ v1).setCell ⟨g, 2, none⟩ v2).setCell ⟨g, 3, none⟩ v3).setCell ⟨g, 4, none⟩ v4).setCell ⟨g, 5, none⟩ v5).heap.size = w.heap.size := by simp [World.setCell]

/-- The guess is not too small. -/
theorem gs_ge (X d s : Nat) (hd0 : 0 < d) (hd : d < 2 ^ (64 * (s + 1))) (hX : X < d * 18446744073709551616) : X / d ≤ gs (wn X (s + 1)) (wn X s) (wn d s) := by
  unfold gs
  have hq : X / d < 18446744073709551616 := (Nat.div_lt_iff_lt_mul hd0).2 (by rw [Nat.mul_comm]; exact hX)
  by_cases c : wn d s ≤ wn X (s + 1)
  · rw [if_pos c]; omega
  · rw [if_neg c]
    rw [Nat.le_div_iff_mul_le (by omega)]
    have hp := pow_pos' s
    -- the divisor's top word
    have td : wn d s = d / 2 ^ (64 * s) := by
      unfold wn
      rw [Nat.mod_eq_of_lt]
      rw [Nat.div_lt_iff_lt_mul hp, Nat.mul_comm, ← pow_step]; exact hd
    have tX : wn X (s + 1) * 18446744073709551616 + wn X s = X / 2 ^ (64 * s) := by
      unfold wn
      rw [pow_step, ← Nat.div_div_eq_div_mul]
      have hlt : X / 2 ^ (64 * s) / 18446744073709551616 < 18446744073709551616 := by
        rw [Nat.div_div_eq_div_mul, ← pow_step, Nat.div_lt_iff_lt_mul (pow_pos' _)]
        calc X < d * 18446744073709551616 := hX
          _ ≤ 2 ^ (64 * (s + 1)) * 18446744073709551616 := Nat.mul_le_mul_right _ (Nat.le_of_lt hd)
          _ = 18446744073709551616 * 2 ^ (64 * (s + 1)) := Nat.mul_comm _ _
      rw [Nat.mod_eq_of_lt hlt]
      omega
    rw [tX, td, Nat.le_div_iff_mul_le hp]
    calc X / d * (d / 2 ^ (64 * s)) * 2 ^ (64 * s) = X / d * (d / 2 ^ (64 * s) * 2 ^ (64 * s)) := Nat.mul_assoc _ _ _
      _ ≤ X / d * d := Nat.mul_le_mul_left _ (Nat.div_mul_le_self _ _)
      _ ≤ X := Nat.div_mul_le_self _ _

/-- What a step of mending does. -/
theorem mend (X d o M : Nat) (hX : X < (o + 1) * d) (ho : (o + 1) * d ≤ M) :
    (X + M - (o + 1) * d) % M = X + M - (o + 1) * d ∧ (X + M - (o + 1) * d + d) % M = (X + M - o * d) % M ∧ decide (M ≤ X + M - (o + 1) * d + d) = decide (o * d ≤ X) := by
  rw [Nat.add_mul, Nat.one_mul] at hX ho ⊢
  refine ⟨Nat.mod_eq_of_lt (by omega), by congr 1; omega, ?_⟩
  by_cases c : o * d ≤ X
  · rw [decide_eq_true c]; exact decide_eq_true (by omega)
  · rw [decide_eq_false c]; exact decide_eq_false (by omega)
theorem mended (X d o M : Nat) (hd0 : 0 < d) (hle : o * d ≤ X) (hge : X / d ≤ o) (hXM : X < M) : o = X / d ∧ (X + M - o * d) % M = X % d := by
  have h1 : o ≤ X / d := (Nat.le_div_iff_mul_le hd0).2 hle
  have h2 : o = X / d := by omega
  refine ⟨h2, ?_⟩
  have e : X + M - o * d = (X - o * d) + M := by omega
  rw [e, Nat.add_mod_right, Nat.mod_eq_of_lt (by omega)]
  have := Nat.div_add_mod X d
  rw [Nat.mul_comm, ← h2] at this
  omega
end Go.Proofs.Ytoagmdgmbkpghaa
/- words.divideStep -/
namespace Go.Proofs.Ytoagmdgmbkpghaa
open Go.RowKit

end Go.Proofs.Ytoagmdgmbkpghaa
/- equality of arrays -/
namespace Go.Proofs.Ytoagmdgmbkpghaa
open Go.RowKit

theorem run_eq6' (D : Nat) (hin : ∀ (a b : Int) (w : World), (Op.equalIn D 22 (.int .u64 a) (.int .u64 b)).run Try.prog w = .ok (a == b) w) (x0 x1 x2 x3 x4 x5 y0 y1 y2 y3 y4 y5 : Int) (w : World) :
    (Op.equalIn (D + 1) 24 (.agg #[.int .u64 x0, .int .u64 x1, .int .u64 x2, .int .u64 x3, .int .u64 x4, .int .u64 x5]) (.agg #[.int .u64 y0, .int .u64 y1, .int .u64 y2, .int .u64 y3, .int .u64 y4, .int .u64 y5])).run Try.prog w =
      .ok (x0 == y0 && (x1 == y1 && (x2 == y2 && (x3 == y3 && (x4 == y4 && x5 == y5))))) w := by
  have h24 : Try.prog.underlying 24 = some (.array 6 22) := by kernel_rfl
  have hsz : ∀ w, (sizeOf 22).run Try.prog w = .ok 1 w := fun w => by kernel_rfl
  have hp : ∀ (a b c d e f : Int) (w : World), (Go.part 22 #[.int .u64 a, .int .u64 b, .int .u64 c, .int .u64 d, .int .u64 e, .int .u64 f] 0).run Try.prog w = .ok (.int .u64 a) w ∧ (Go.part 22 #[.int .u64 a, .int .u64 b, .int .u64 c, .int .u64 d, .int .u64 e, .int .u64 f] 1).run Try.prog w = .ok (.int .u64 b) w ∧ (Go.part 22 #[.int .u64 a, .int .u64 b, .int .u64 c, .int .u64 d, .int .u64 e, .int .u64 f] 2).run Try.prog w = .ok (.int .u64 c) w ∧ (Go.part 22 #[.int .u64 a, .int .u64 b, .int .u64 c, .int .u64 d, .int .u64 e, .int .u64 f] 3).run Try.prog w = .ok (.int .u64 d) w ∧ (Go.part 22 #[.int .u64 a, .int .u64 b, .int .u64 c, .int .u64 d, .int .u64 e, .int .u64 f] 4).run Try.prog w = .ok (.int .u64 e) w ∧ (Go.part 22 #[.int .u64 a, .int .u64 b, .int .u64 c, .int .u64 d, .int .u64 e, .int .u64 f] 5).run Try.prog w = .ok (.int .u64 f) w := fun a b c d e f w => ⟨by kernel_rfl, by kernel_rfl, by kernel_rfl, by kernel_rfl, by kernel_rfl, by kernel_rfl⟩
  simp only [Op.equalIn, Sem.run_bind, run_underlying h24, Result.andThen_ok, hsz]
  simp [Std.Legacy.Range.forIn_eq_forIn_range', List.range', List.forIn_cons, hin, hp]
  repeat' split
  all_goals simp_all
theorem run_eq6 (x0 x1 x2 x3 x4 x5 y0 y1 y2 y3 y4 y5 : Int) (w : World) :
    (Op.equalIn 10000 24 (.agg #[.int .u64 x0, .int .u64 x1, .int .u64 x2, .int .u64 x3, .int .u64 x4, .int .u64 x5]) (.agg #[.int .u64 y0, .int .u64 y1, .int .u64 y2, .int .u64 y3, .int .u64 y4, .int .u64 y5])).run Try.prog w =
      .ok (x0 == y0 && (x1 == y1 && (x2 == y2 && (x3 == y3 && (x4 == y4 && x5 == y5))))) w :=
  run_eq6' 9999 (fun a b w => run_equalIn_int w 9998 22 .u64 .u64 a b (by kernel_rfl)) x0 x1 x2 x3 x4 x5 y0 y1 y2 y3 y4 y5 w
theorem num_ext' (a b : Nat) : ∀ m, (∀ j, j < m → wd a j = wd b j) → a % 2 ^ (64 * m) = b % 2 ^ (64 * m) := by
  intro m
  induction m with
  | zero => intro _; rw [Nat.mul_zero, Nat.pow_zero, Nat.mod_one, Nat.mod_one]
  | succ m ih =>
    intro h
    have h2 : wn a m = wn b m := Int.ofNat.inj (h m (by omega))
    rw [mod_step, mod_step, ih (fun j hj => h j (by omega)), h2]
theorem num_ext (a b : Nat) (ha : a < big) (hb : b < big) (h : ∀ j, j < 6 → wd a j = wd b j) : a = b := by
  have h2 := num_ext' a b 6 h
  rw [← big_eq, Nat.mod_eq_of_lt ha, Nat.mod_eq_of_lt hb] at h2
  exact h2
theorem num_eq (a b : Nat) (ha : a < big) (hb : b < big) : (wd a 0 == wd b 0 && (wd a 1 == wd b 1 && (wd a 2 == wd b 2 && (wd a 3 == wd b 3 && (wd a 4 == wd b 4 && wd a 5 == wd b 5))))) = decide (a = b) := by
  by_cases h : a = b
  · subst h; simp
  · rw [decide_eq_false h]
    apply Bool.eq_false_iff.2
    intro hh
    simp only [Bool.and_eq_true, beq_iff_eq] at hh
    obtain ⟨h0, h1, h2, h3, h4, h5⟩ := hh
    apply h
    apply num_ext a b ha hb
    intro j hj
    match j, hj with
    | 0, _ => exact h0
    | 1, _ => exact h1
    | 2, _ => exact h2
    | 3, _ => exact h3
    | 4, _ => exact h4
    | 5, _ => exact h5
theorem run_eqN (a b : Nat) (ha : a < big) (hb : b < big) (w : World) :
    (Op.equalIn 10000 24 (N a) (N b)).run Try.prog w = .ok (decide (a = b)) w := by rw [run_eq6, num_eq a b ha hb]
theorem big_pos : 0 < big := by rw [big_eq]; exact pow_pos' 6
theorem run_eqZ (a : Nat) (ha : a < big) (w : World) :
    (Op.equalIn 10000 24 (N a) (.agg #[.int .u64 0, .int .u64 0, .int .u64 0, .int .u64 0, .int .u64 0, .int .u64 0])).run Try.prog w = .ok (decide (a = 0)) w := by
  have h := run_eqN a 0 ha big_pos w
  unfold N at h
  simp only [wd_zero] at h
  exact h

theorem wd_small (n j : Nat) (hn : n < 18446744073709551616) : wd n (j + 1) = 0 := wd_top' n 1 (j + 1) (by simpa using hn) (by omega)
theorem wd_small0 (n : Nat) (hn : n < 18446744073709551616) : wd n 0 = n := by unfold wd; rw [Nat.mul_zero, Nat.pow_zero, Nat.div_one, Nat.mod_eq_of_lt hn]
set_option maxHeartbeats 400000 in
theorem of_any (n : Nat) (hn : n < 18446744073709551616) (w : World) :
    Calls Try.prog 11 #[.int .u64 n] w fun e w' => e = .returned (N n) ∧ Below w.heap.size w w' := by
  have h1 : wd n 1 = 0 := wd_small n 0 hn
  have h2 : wd n 2 = 0 := wd_small n 1 hn
  have h3 : wd n 3 = 0 := wd_small n 2 hn
  have h4 : wd n 4 = 0 := wd_small n 3 hn
  have h5 : wd n 5 = 0 := wd_small n 4 hn
  have h0 := wd_small0 n hn
  unfold N
  rw [h0, h1, h2, h3, h4, h5]
  clear h0 h1 h2 h3 h4 h5 hn
  go_enter Try.func11, Try.ntmps11
  go_wp2
  refine bodyPost_ret (v := .agg #[.int .u64 n, .int .u64 0, .int .u64 0, .int .u64 0, .int .u64 0, .int .u64 0]) ?_ rfl ⟨rfl, ?_⟩
  · simp [results, Try.results11, go_sem]
  · exact (Below.refl _ _).alloc (Nat.le_refl _) _

/-- What Compare tells. -/
def cmpv (a b : Nat) : Int := if a = b then 0 else if a < b then -1 else 1
set_option maxHeartbeats 400000 in
set_option maxRecDepth 100000 in
theorem compare_any (a b : Nat) (ha : a < big) (hb : b < big) (w : World) :
    Calls Try.prog 22 #[N a, N b] w fun e w' => e = .returned (.int .i64 (cmpv a b)) ∧ Below w.heap.size w w' := by
  have he := fun w => run_eqN a b ha hb w
  have hs := fun w => sub_any a b ha hb w
  have HS : Hid _ := hs
  clear hs ha hb
  unfold cmpv
  by_cases c : a = b
  · have hd : decide (a = b) = true := decide_eq_true c
    rw [if_pos c]
    simp only [hd] at he
    clear c hd
    go_enter Try.func22, Try.ntmps22
    go_wp2
    go_ret
    exact ⟨rfl, ((Below.refl _ _).alloc (Nat.le_refl _) _).alloc (by first | omega | (simp <;> omega)) _⟩
  · have hd : decide (a = b) = false := decide_eq_false c
    rw [if_neg c]
    simp only [hd] at he
    clear c hd
    by_cases c2 : a < b
    · rw [if_pos c2]
      have hd2 : decide (a < b) = true := decide_eq_true c2
      simp only [hd2] at HS
      clear hd2 c2
      go_enter Try.func22, Try.ntmps22
      go_wp2_with fail
      refine (HS.out _).mono ?_
      rintro e w1 ⟨rfl, hb1⟩
      go_wp2
      go_ret
      refine ⟨rfl, ?_⟩
      exact (((((Below.refl _ _).alloc (Nat.le_refl _) _).alloc (by first | omega | (simp <;> omega)) _).trans (hb1.mono (by simp <;> omega))).alloc (by have := hb1.size; simp at this; omega) _)
    · rw [if_neg c2]
      have hd2 : decide (a < b) = false := decide_eq_false c2
      simp only [hd2] at HS
      clear hd2 c2
      go_enter Try.func22, Try.ntmps22
      go_wp2_with fail
      refine (HS.out _).mono ?_
      rintro e w1 ⟨rfl, hb1⟩
      go_wp2
      go_ret
      refine ⟨rfl, ?_⟩
      exact (((((Below.refl _ _).alloc (Nat.le_refl _) _).alloc (by first | omega | (simp <;> omega)) _).trans (hb1.mono (by simp <;> omega))).alloc (by have := hb1.size; simp at this; omega) _)
end Go.Proofs.Ytoagmdgmbkpghaa
/- The plain arithmetic of words.Divide. -/
namespace Go.Proofs.Ytoagmdgmbkpghaa
open Go.RowKit

/-- What Divide makes of its divisor: s + 1 words, shifted by sh. -/
theorem div_parts (b : Nat) (hb : b < big) (h0 : b ≠ 0) : ∃ s sh : Nat, s ≤ 5 ∧ sh < 64 ∧ bl b + sh = 64 * (s + 1) ∧ (bl b + 63) / 64 = s + 1 ∧ 0 < b * 2 ^ sh ∧ b * 2 ^ sh < 2 ^ (64 * (s + 1)) ∧ 2 ^ (64 * (s + 1) - 1) ≤ b * 2 ^ sh := by
  have hlt : bl b ≤ 384 := by
    obtain ⟨n, hn, e⟩ := big_pow
    rw [e] at hb
    have := bl_le_of b _ hb
    omega
  have hp := bl_pos b h0
  have h1 := bl_lt b
  have h2 := bl_le b h0
  refine ⟨(bl b + 63) / 64 - 1, 64 * ((bl b + 63) / 64) - bl b, by omega, by omega, by omega, by omega, Nat.mul_pos (by omega) (Nat.two_pow_pos _), ?_, ?_⟩
  · have e : 64 * ((bl b + 63) / 64 - 1 + 1) = bl b + (64 * ((bl b + 63) / 64) - bl b) := by omega
    rw [e, Nat.pow_add]
    exact Nat.mul_lt_mul_of_pos_right h1 (Nat.two_pow_pos _)
  · have e : 64 * ((bl b + 63) / 64 - 1 + 1) - 1 = (bl b - 1) + (64 * ((bl b + 63) / 64) - bl b) := by omega
    rw [e, Nat.pow_add]
    exact Nat.mul_le_mul_right _ h2
/-- The words of v from place k on, noughts below. -/
def topPart (v k j : Nat) : Int := if k ≤ j then wd v j else 0
theorem topPart_step {v k : Nat} {x : Int} (h : x = wd v k) (j : Nat) : upd (topPart v (k + 1)) k x j = topPart v k j := by
  unfold upd topPart
  by_cases h1 : j = k
  · subst h1; simp [h]
  · rw [if_neg h1]
    by_cases h2 : k ≤ j
    · rw [if_pos h2, if_pos (by omega)]
    · rw [if_neg h2, if_neg (by omega)]
theorem step_quo (A d i : Nat) : A % (d * 2 ^ (64 * (i + 1))) / 2 ^ (64 * i) / d = wn (A / d) i := by
  rw [pow_step, ← Nat.mul_assoc, Nat.div_div_eq_div_mul, Nat.mul_comm (2 ^ (64 * i)) d, Nat.mod_mul_right_div_self]
  unfold wn
  rw [Nat.div_div_eq_div_mul]
theorem step_rest (A d i : Nat) : glue (A % (d * 2 ^ (64 * (i + 1)))) i (A % (d * 2 ^ (64 * (i + 1))) / 2 ^ (64 * i) % d) = A % (d * 2 ^ (64 * i)) := by
  unfold glue
  rw [← Nat.mod_mul, Nat.mul_comm (2 ^ (64 * i)) d, pow_step, ← Nat.mul_assoc, Nat.mod_mul_right_mod]
theorem step_lt (A d i : Nat) (hd : 0 < d) : A % (d * 2 ^ (64 * (i + 1))) / 2 ^ (64 * i) < d * 18446744073709551616 := by
  have hp := pow_pos' i
  rw [Nat.div_lt_iff_lt_mul hp, Nat.mul_assoc, Nat.mul_comm 18446744073709551616, ← pow_step]
  exact Nat.mod_lt _ (Nat.mul_pos hd (pow_pos' _))
theorem start_rest (a d s sh : Nat) (ha : a < big) (hs : s ≤ 5) (hsh : sh < 64) (hd : 2 ^ (64 * (s + 1) - 1) ≤ d) : a * 2 ^ sh < d * 2 ^ (64 * (6 - s)) := by
  have h1 : a * 2 ^ sh < big * 2 ^ sh := Nat.mul_lt_mul_of_pos_right ha (Nat.two_pow_pos sh)
  obtain ⟨n, hn, e⟩ := big_pow
  rw [e, ← Nat.pow_add] at h1
  have h2 : 2 ^ (64 * (s + 1) - 1) * 2 ^ (64 * (6 - s)) ≤ d * 2 ^ (64 * (6 - s)) := Nat.mul_le_mul_right _ hd
  rw [← Nat.pow_add] at h2
  exact Nat.lt_of_lt_of_le h1 (Nat.le_trans (pow_le' _ _ (by omega)) h2)
theorem quo_high (Q A d k j : Nat) (hQ : Q = A / d) (hd : 0 < d) (h : A < d * 2 ^ (64 * k)) (hj : k ≤ j) : wd Q j = 0 :=
  wd_top' Q k j (by rw [hQ, Nat.div_lt_iff_lt_mul hd, Nat.mul_comm]; exact h) hj
theorem shv_back (x sh : Nat) (hx : x < big) (hsh : sh < 64) : shv x (-(sh : Int)) = x / 2 ^ sh := by
  unfold shv
  rw [if_neg (by omega)]
  by_cases h : sh = 0
  · subst h
    rw [if_neg (by omega), Int.natCast_zero, Int.neg_zero, Int.toNat_zero, Nat.pow_zero, Nat.mul_one, Nat.div_one, Nat.mod_eq_of_lt hx]
  · rw [if_pos (by omega), Int.neg_neg, Int.toNat_natCast]
theorem mod_back (a b sh : Nat) : a * 2 ^ sh % (b * 2 ^ sh) / 2 ^ sh = a % b := by
  rw [Nat.mul_mod_mul_right, Nat.mul_div_cancel _ (Nat.two_pow_pos sh)]
end Go.Proofs.Ytoagmdgmbkpghaa
/- words.Divide -/
namespace Go.Proofs.Ytoagmdgmbkpghaa
open Go.RowKit

/-- What stands in memory while Divide runs: a, b, two results. -/
structure DM (w wr : World) (a b : Nat) : Prop where
  ra : Row wr w.heap.size 6 (wd a)
  rb : Row wr (w.heap.size + 1) 6 (wd b)
  r2 : Row wr (w.heap.size + 1 + 1) 6 (fun _ => 0)
  r3 : Row wr (w.heap.size + 1 + 1 + 1) 6 (fun _ => 0)
  bl : Below w.heap.size w wr
  sz : w.heap.size + 1 + 1 + 1 < wr.heap.size
theorem DM.start (w : World) (a b : Nat) : DM w ((((w.alloc (O6 a)).alloc (O6 b)).alloc Z6).alloc Z6) a b :=
  ⟨(((Row.new w _ 24 rfl (six_lt rfl)).alloc (by first | omega | (simp <;> omega)) _).alloc (by first | omega | (simp <;> omega)) _).alloc (by first | omega | (simp <;> omega)) _,
   ((Row.new _ _ 24 (by first | omega | (simp <;> omega)) (six_lt rfl)).alloc (by first | omega | (simp <;> omega)) _).alloc (by first | omega | (simp <;> omega)) _,
   (Row.new _ _ 24 (by first | omega | (simp <;> omega)) (six_lt (f := fun _ => 0) rfl)).alloc (by first | omega | (simp <;> omega)) _,
   Row.new _ _ 24 (by first | omega | (simp <;> omega)) (six_lt (f := fun _ => 0) rfl),
   ((((Below.refl _ _).alloc (Nat.le_refl _) _).alloc (by first | omega | (simp <;> omega)) _).alloc (by first | omega | (simp <;> omega)) _).alloc (by first | omega | (simp <;> omega)) _,
   by simp⟩
theorem DM.below {w wr w1 : World} {a b : Nat} (h : DM w wr a b) (hb : Below wr.heap.size wr w1) : DM w w1 a b :=
  have := h.sz
  ⟨Row.below hb h.ra (by omega), Row.below hb h.rb (by omega), Row.below hb h.r2 (by omega), Row.below hb h.r3 (by omega), h.bl.trans (hb.mono (by omega)), Nat.lt_of_lt_of_le h.sz hb.size⟩
theorem DM.alloc {w wr : World} {a b : Nat} (h : DM w wr a b) (o : Obj) : DM w (wr.alloc o) a b :=
  have := h.sz
  ⟨h.ra.alloc (by omega) o, h.rb.alloc (by omega) o, h.r2.alloc (by omega) o, h.r3.alloc (by omega) o, h.bl.alloc (by omega) o, by simp; omega⟩
theorem DM.drew {w wr : World} {a b : Nat} (h : DM w wr a b) : DM w wr.drew a b := ⟨h.ra.drew, h.rb.drew, h.r2.drew, h.r3.drew, h.bl.drew, h.sz⟩
theorem DM.set {w wr : World} {a b : Nat} (h : DM w wr a b) {p : Addr} (hp : w.heap.size + 1 + 1 + 1 < p.block) (v : Value) : DM w (wr.setCell p v) a b :=
  ⟨h.ra.set_other _ (by omega), h.rb.set_other _ (by omega), h.r2.set_other _ (by omega), h.r3.set_other _ (by omega), h.bl.setCell (by omega) _, by simpa [World.setCell] using h.sz⟩
theorem DM.past7 {w wr : World} {a b : Nat} (h : DM w wr a b) {g : Nat} (hp : w.heap.size + 1 + 1 + 1 < g) (v0 v1 v2 v3 v4 v5 v6 : Value) : DM w (((((((wr.setCell ⟨g, 0, none⟩ v0).setCell ⟨g, 1, none⟩ v1).setCell ⟨g, 2, none⟩ v2).setCell ⟨g, 3, none⟩ v3).setCell ⟨g, 4, none⟩ v4).setCell ⟨g, 5, none⟩ v5).setCell ⟨g, 6, none⟩ v6) a b :=
  ((((((h.set (p := ⟨g, 0, none⟩) hp _).set (p := ⟨g, 1, none⟩) hp _).set (p := ⟨g, 2, none⟩) hp _).set (p := ⟨g, 3, none⟩) hp _).set (p := ⟨g, 4, none⟩) hp _).set (p := ⟨g, 5, none⟩) hp _).set (p := ⟨g, 6, none⟩) hp _

end Go.Proofs.Ytoagmdgmbkpghaa
/- reliquarylaw01.awake -/
namespace Go.Proofs.Ytoagmdgmbkpghaa
open Go.RowKit

theorem of_int (x : Int) (h0 : 0 ≤ x) (h1 : x < 18446744073709551616) (w : World) :
    Calls Try.prog 11 #[.int .u64 x] w fun e w' => e = .returned (N x.toNat) ∧ Below w.heap.size w w' := by
  obtain ⟨n, rfl⟩ := Int.eq_ofNat_of_zero_le h0
  rw [Int.toNat_natCast]
  exact of_any n (by omega) w
theorem small_big (n : Nat) (h : n < 18446744073709551616) : n < big := Nat.lt_of_lt_of_le (show n < 2 ^ 64 from h) (by
  obtain ⟨m, hm, e⟩ := big_pow
  rw [e]; exact pow_le' _ _ (by omega))
theorem eq_same (n : Nat) (hn : n < 18446744073709551616) (w : World) : (Op.equalIn 10000 24 (N n) (N n)).run Try.prog w = .ok true w := by
  rw [run_eqN n n (small_big n hn) (small_big n hn), decide_eq_true rfl]

end Go.Proofs.Ytoagmdgmbkpghaa
/- The law WordsBack, walked. -/
namespace Go.Proofs.Ytoagmdgmbkpghaa
open Go.RowKit

/-! The plain law. -/
theorem back_sub (a b : Nat) (ha : a < big) (hb : b < big) : ((a + b) % big + big - b) % big = a ∧ decide ((a + b) % big < b) = decide (big ≤ a + b) := by
  by_cases c : big ≤ a + b
  · have e : (a + b) % big = a + b - big := by rw [Nat.mod_eq_sub_mod c, Nat.mod_eq_of_lt (by omega)]
    rw [e, decide_eq_true c, show a + b - big + big - b = a by omega, Nat.mod_eq_of_lt ha]
    exact ⟨rfl, decide_eq_true (by omega)⟩
  · rw [Nat.mod_eq_of_lt (show a + b < big by omega), decide_eq_false c, show a + b + big - b = a + big by omega, Nat.add_mod_right, Nat.mod_eq_of_lt ha]
    exact ⟨rfl, decide_eq_false (by omega)⟩
theorem mod_big (n : Nat) : n % big < big := Nat.mod_lt _ big_pos

end Go.Proofs.Ytoagmdgmbkpghaa
