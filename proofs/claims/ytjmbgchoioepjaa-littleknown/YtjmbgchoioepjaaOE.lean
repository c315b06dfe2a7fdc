/- What is handed in, opened. -/
import Derived.Test.YtjmbgchoioepjaaRows
import Derived.Test.YtjmbgchoioepjaaU1
import Derived.ProofKit
import Derived.OpenShut
namespace Go.Proofs.Ytjmbgchoioepjaa
open Go.ChangeShapes Go.WideShapes Go.ChangeAt Go.RowKit
theorem Try.own : ownKnob Try.prog.godebug = none := by kernel_rfl
theorem Try.laidOut : laidOutB Try.prog = true := by kernel_rfl
section
variable {H : Type} {enc : TypeId × Value → H} {w : World} {base : Nat} {sp : Nat → Bool} {held : Bool}
set_option maxRecDepth 100000 in
theorem cells_U {fuel : Nat} {cs : List Value} {x : DataW H × List MemPlace} (h : DataW.trod enc Try.prog w base sp held fuel 23 cs = some x) : (∃ a : Nat, a < 18446744073709551616 ∧ cs = [Rg.U a]) ∧ x.2 = [] := by
  obtain ⟨n, e1, e2, e3⟩ := DataW.trod_int Try.underlying23 h
  have hb := bounds_u64 e3
  exact ⟨⟨n.toNat, by omega, by rw [e1, Rg.U, Int.toNat_of_nonneg hb.1]⟩, by rw [e2]⟩
set_option maxRecDepth 100000 in
theorem cells_L1 {fuel : Nat} {cs : List Value} {x : DataW H × List MemPlace} (h : DataW.trod enc Try.prog w base sp held fuel 25 cs = some x) : (∃ a b z, a < 18446744073709551616 ∧ b < 18446744073709551616 ∧ cs = Rg.pt a b z) ∧ x.2 = [] := by
  obtain ⟨xs, n, -, hx, hl, hn, hel⟩ := DataW.trod_struct Try.underlying25 h
  have hl' : cs.length = 3 := hl.trans (by kernel_rfl)
  have hn' : xs.length = 3 := hn
  obtain ⟨c0, c1, c2, rfl⟩ : ∃ c0 c1 c2, cs = [c0, c1, c2] := by
    match cs, hl' with
    | [c0, c1, c2], _ => exact ⟨c0, c1, c2, rfl⟩
  match xs, hn' with
  | [x0, x1, x2], _ =>
    have f0 : DataW.trod enc Try.prog w base sp held n 23 [c0] = some x0 := by
      have f : DataW.trod enc Try.prog w base sp held n 23 ((([c0, c1, c2] : List Value).drop 0).take (Try.prog.cellsOf 23)) = some x0 := hel 0 _ rfl
      rw [show Try.prog.cellsOf 23 = 1 by kernel_rfl] at f
      exact f
    have f1 : DataW.trod enc Try.prog w base sp held n 23 [c1] = some x1 := by
      have f : DataW.trod enc Try.prog w base sp held n 23 ((([c0, c1, c2] : List Value).drop 1).take (Try.prog.cellsOf 23)) = some x1 := hel 1 _ rfl
      rw [show Try.prog.cellsOf 23 = 1 by kernel_rfl] at f
      exact f
    have f2 : DataW.trod enc Try.prog w base sp held n 4 [c2] = some x2 := by
      have f : DataW.trod enc Try.prog w base sp held n 4 ((([c0, c1, c2] : List Value).drop 2).take (Try.prog.cellsOf 4)) = some x2 := hel 2 _ rfl
      rw [show Try.prog.cellsOf 4 = 1 by kernel_rfl] at f
      exact f
    obtain ⟨⟨a, ha, e0⟩, q0⟩ := cells_U f0
    obtain ⟨⟨b, hb, e1⟩, q1⟩ := cells_U f1
    obtain ⟨z, e2, q2⟩ := DataW.trod_bool Try.underlying4 f2
    refine ⟨⟨a, b, z, ha, hb, ?_⟩, ?_⟩
    · injection e0 with e0 _
      injection e1 with e1 _
      injection e2 with e2 _
      rw [e0, e1, e2]
    · rw [hx]
      show x0.2 ++ (x1.2 ++ (x2.2 ++ [])) = []
      rw [q0, q1, q2]
      rfl
end
section
variable {H : Type} {enc : TypeId × Value → H} {w : World} {base : Nat} {sp : Nat → Bool} {held : Bool} {r : Reach} {b0 : Nat} {v : Value} {d : DataW H} {ps : List MemPlace}
set_option maxRecDepth 100000 in
theorem open_L1 (hval : Value.okWide Try.prog w r b0 25 v) (hd : DataW.Trod enc Try.prog w base sp held 25 v d ps) : ∃ a b z, a < 18446744073709551616 ∧ b < 18446744073709551616 ∧ v = Rg.V (Rg.pt a b z) ∧ ps = [] := by
  unfold Value.okWide at hval
  rw [Try.underlying25] at hval
  obtain ⟨cs, rfl, hsz, _⟩ := hval
  obtain ⟨fuel, hf⟩ := hd
  obtain ⟨⟨a, b, z, ha, hb, e⟩, hx⟩ := cells_L1 hf
  refine ⟨a, b, z, ha, hb, ?_, hx⟩
  have e2 : cs.toList = Rg.pt a b z := e
  rw [Rg.V, ← e2, Array.toArray_toList]
set_option maxRecDepth 100000 in
theorem open_U (hval : Value.okWide Try.prog w r b0 23 v) (hd : DataW.Trod enc Try.prog w base sp held 23 v d ps) : ∃ a : Nat, a < 18446744073709551616 ∧ v = Rg.U a ∧ ps = [] := by
  obtain ⟨n, rfl, rfl, rfl, hn⟩ := open_int Try.underlying23 hval hd
  have hb := bounds_u64 hn
  exact ⟨n.toNat, by omega, by rw [Rg.U, Int.toNat_of_nonneg hb.1], rfl⟩
end
section
variable {H : Type} {enc : TypeId × Value → H} {w : World} {base : Nat} {sp : Nat → Bool} {held : Bool} {r : Reach} {b0 : Nat} {v : Value} {d : DataW H} {ps : List MemPlace}
set_option maxRecDepth 100000 in
theorem open_W (hval : Value.okWide Try.prog w r b0 68 v) (hd : DataW.Trod enc Try.prog w base sp held 68 v d ps) : ∃ a : Nat, a < 4294967296 ∧ v = .int .u32 (a : Int) ∧ ps = [] := by
  obtain ⟨n, rfl, rfl, rfl, hn⟩ := open_int Try.underlying68 hval hd
  have hb := bounds_u32 hn
  exact ⟨n.toNat, by omega, by rw [Int.toNat_of_nonneg hb.1], rfl⟩
end
theorem u_stays {H : Type} {enc : TypeId × Value → H} {W W' : World} {v : Value} {d : DataW H}
    (h : DataW.Trod enc Try.prog W 0 (fun _ => true) true 23 v d []) (hb : Below W.heap.size W W') :
    DataW.Trod enc Try.prog W' 0 (fun b => decide (b < W.heap.size)) true 23 v d [] :=
  Below.trod Try.laidOut (by kernel_rfl) (by decide +kernel) h hb (fun _ hx => by cases hx)
theorem l1_stays {H : Type} {enc : TypeId × Value → H} {W W' : World} {v : Value} {d : DataW H}
    (h : DataW.Trod enc Try.prog W 0 (fun _ => true) true 25 v d []) (hb : Below W.heap.size W W') :
    DataW.Trod enc Try.prog W' 0 (fun b => decide (b < W.heap.size)) true 25 v d [] :=
  Below.trod Try.laidOut (by kernel_rfl) (by decide +kernel) h hb (fun _ hx => by cases hx)
theorem s_stays {H : Type} {enc : TypeId × Value → H} {W W' : World} {v : Value} {d : DataW H}
    (h : DataW.Trod enc Try.prog W 0 (fun _ => true) true 22 v d []) (hb : Below W.heap.size W W') :
    DataW.Trod enc Try.prog W' 0 (fun b => decide (b < W.heap.size)) true 22 v d [] :=
  Below.trod Try.laidOut (by kernel_rfl) (by decide +kernel) h hb (fun _ hx => by cases hx)
theorem w_stays {H : Type} {enc : TypeId × Value → H} {W W' : World} {v : Value} {d : DataW H}
    (h : DataW.Trod enc Try.prog W 0 (fun _ => true) true 68 v d []) (hb : Below W.heap.size W W') :
    DataW.Trod enc Try.prog W' 0 (fun b => decide (b < W.heap.size)) true 68 v d [] :=
  Below.trod Try.laidOut (by kernel_rfl) (by decide +kernel) h hb (fun _ hx => by cases hx)
section
variable {H : Type} {enc : TypeId × Value → H} {P : Program} {w : World} {base : Nat} {spare : Nat → Bool} {held : Bool}
theorem trodAll_six {t0 t1 t2 t3 t4 t5 : TypeId} {args : Array Value} {ds : List (DataW H)} {ps : List MemPlace} (h : DataW.TrodAll enc P w base spare held [t0, t1, t2, t3, t4, t5] args.toList ds ps) :
    ∃ v0 v1 v2 v3 v4 v5 d0 d1 d2 d3 d4 d5 p0 p1 p2 p3 p4 p5, args = #[v0, v1, v2, v3, v4, v5] ∧ ds = [d0, d1, d2, d3, d4, d5] ∧ ps = p0 ++ p1 ++ p2 ++ p3 ++ p4 ++ p5 ∧ DataW.Trod enc P w base spare held t0 v0 d0 p0 ∧ DataW.Trod enc P w base spare held t1 v1 d1 p1 ∧ DataW.Trod enc P w base spare held t2 v2 d2 p2 ∧ DataW.Trod enc P w base spare held t3 v3 d3 p3 ∧ DataW.Trod enc P w base spare held t4 v4 d4 p4 ∧ DataW.Trod enc P w base spare held t5 v5 d5 p5 := by
  obtain ⟨v0, vs, d0, ds', p0, q, hargs, rfl, rfl, h0, r0⟩ := trodAll_cons h
  obtain ⟨v1, vs', d1, ds'', p1, q', rfl, rfl, rfl, h1, r1⟩ := trodAll_cons r0
  obtain ⟨v2, vs'', d2, ds3, p2, q'', rfl, rfl, rfl, h2, r2⟩ := trodAll_cons r1
  obtain ⟨v3, vs3, d3, ds4, p3, q3, rfl, rfl, rfl, h3, r3⟩ := trodAll_cons r2
  obtain ⟨v4, vs4, d4, ds5, p4, q4, rfl, rfl, rfl, h4, r4⟩ := trodAll_cons r3
  obtain ⟨v5, vs5, d5, ds6, p5, q5, rfl, rfl, rfl, h5, r5⟩ := trodAll_cons r4
  obtain ⟨rfl, rfl, rfl⟩ := trodAll_nil r5
  exact ⟨v0, v1, v2, v3, v4, v5, d0, d1, d2, d3, d4, d5, p0, p1, p2, p3, p4, p5, by cases args; simp_all, rfl, by simp, h0, h1, h2, h3, h4, h5⟩
theorem trodAll_mk6 {t0 t1 t2 t3 t4 t5 : TypeId} {v0 v1 v2 v3 v4 v5 : Value} {d0 d1 d2 d3 d4 d5 : DataW H} {p0 p1 p2 p3 p4 p5 : List MemPlace} (h0 : DataW.Trod enc P w base spare held t0 v0 d0 p0) (h1 : DataW.Trod enc P w base spare held t1 v1 d1 p1) (h2 : DataW.Trod enc P w base spare held t2 v2 d2 p2) (h3 : DataW.Trod enc P w base spare held t3 v3 d3 p3) (h4 : DataW.Trod enc P w base spare held t4 v4 d4 p4) (h5 : DataW.Trod enc P w base spare held t5 v5 d5 p5) : DataW.TrodAll enc P w base spare held [t0, t1, t2, t3, t4, t5] [v0, v1, v2, v3, v4, v5] [d0, d1, d2, d3, d4, d5] (p0 ++ (p1 ++ (p2 ++ (p3 ++ (p4 ++ p5))))) :=
  ⟨p0, _, h0, ⟨p1, _, h1, trodAll_mk4 h2 h3 h4 h5, rfl⟩, rfl⟩
end
end Go.Proofs.Ytjmbgchoioepjaa
