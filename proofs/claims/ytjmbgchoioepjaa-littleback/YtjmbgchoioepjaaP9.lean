/- Texts of the proof, joined. -/
import Derived.Test.YtjmbgchoioepjaaP8
import Derived.ProofKit
import Derived.OpenShut
import Derived.Test.YtjmbgchoioepjaaRows
import Derived.ChangeSlices
section
namespace Go.Proofs.Ytjmbgchoioepjaa
open Go.ChangeShapes Go.WideShapes Go.ChangeAt Go.RowKit
theorem Try.own : ownKnob Try.prog.godebug = none := by kernel_rfl
theorem Try.laidOut : laidOutB Try.prog = true := by kernel_rfl
section
variable {H : Type} {enc : TypeId × Value → H} {w : World} {base : Nat} {sp : Nat → Bool} {held : Bool}
set_option maxRecDepth 100000 in
theorem cells_U {fuel : Nat} {cs : List Value} {x : DataW H × List MemPlace} (h : DataW.trod enc Try.prog w base sp held fuel 23 cs = some x) : (∃ a : Nat, a < 18446744073709551616 ∧ cs = [Rg.U a]) ∧ x.2 = [] := by
  obtain ⟨n, e1, e2, e3⟩ := DataW.trod_int Try.underlying23 h
  have hb := bounds_u64 e3
  exact ⟨⟨n.toNat, by omega, by rw [e1, Rg.U, Int.toNat_of_nonneg hb.1]⟩, by rw [e2]⟩
set_option maxRecDepth 100000 in
theorem cells_L1 {fuel : Nat} {cs : List Value} {x : DataW H × List MemPlace} (h : DataW.trod enc Try.prog w base sp held fuel 25 cs = some x) : (∃ a b z, a < 18446744073709551616 ∧ b < 18446744073709551616 ∧ cs = Rg.pt a b z) ∧ x.2 = [] := by
  obtain ⟨xs, n, -, hx, hl, hn, hel⟩ := DataW.trod_struct Try.underlying25 h
  have hl' : cs.length = 3 := hl.trans (by kernel_rfl)
  have hn' : xs.length = 3 := hn
  obtain ⟨c0, c1, c2, rfl⟩ : ∃ c0 c1 c2, cs = [c0, c1, c2] := by
    match cs, hl' with
    | [c0, c1, c2], _ => exact ⟨c0, c1, c2, rfl⟩
  match xs, hn' with
  | [x0, x1, x2], _ =>
    have f0 : DataW.trod enc Try.prog w base sp held n 23 [c0] = some x0 := by
      have f : DataW.trod enc Try.prog w base sp held n 23 ((([c0, c1, c2] : List Value).drop 0).take (Try.prog.cellsOf 23)) = some x0 := hel 0 _ rfl
      rw [show Try.prog.cellsOf 23 = 1 by kernel_rfl] at f
      exact f
    have f1 : DataW.trod enc Try.prog w base sp held n 23 [c1] = some x1 := by
      have f : DataW.trod enc Try.prog w base sp held n 23 ((([c0, c1, c2] : List Value).drop 1).take (Try.prog.cellsOf 23)) = some x1 := hel 1 _ rfl
      rw [show Try.prog.cellsOf 23 = 1 by kernel_rfl] at f
      exact f
    have f2 : DataW.trod enc Try.prog w base sp held n 4 [c2] = some x2 := by
      have f : DataW.trod enc Try.prog w base sp held n 4 ((([c0, c1, c2] : List Value).drop 2).take (Try.prog.cellsOf 4)) = some x2 := hel 2 _ rfl
      rw [show Try.prog.cellsOf 4 = 1 by kernel_rfl] at f
      exact f
    obtain ⟨⟨a, ha, e0⟩, q0⟩ := cells_U f0
    obtain ⟨⟨b, hb, e1⟩, q1⟩ := cells_U f1
    obtain ⟨z, e2, q2⟩ := DataW.trod_bool Try.underlying4 f2
    refine ⟨⟨a, b, z, ha, hb, ?_⟩, ?_⟩
    · injection e0 with e0 _
      injection e1 with e1 _
      injection e2 with e2 _
      rw [e0, e1, e2]
    · rw [hx]
      show x0.2 ++ (x1.2 ++ (x2.2 ++ [])) = []
      rw [q0, q1, q2]
      rfl
end
section
variable {H : Type} {enc : TypeId × Value → H} {w : World} {base : Nat} {sp : Nat → Bool} {held : Bool} {r : Reach} {b0 : Nat} {v : Value} {d : DataW H} {ps : List MemPlace}
set_option maxRecDepth 100000 in
theorem open_L1 (hval : Value.okWide Try.prog w r b0 25 v) (hd : DataW.Trod enc Try.prog w base sp held 25 v d ps) : ∃ a b z, a < 18446744073709551616 ∧ b < 18446744073709551616 ∧ v = Rg.V (Rg.pt a b z) ∧ ps = [] := by
  unfold Value.okWide at hval
  rw [Try.underlying25] at hval
  obtain ⟨cs, rfl, hsz, _⟩ := hval
  obtain ⟨fuel, hf⟩ := hd
  obtain ⟨⟨a, b, z, ha, hb, e⟩, hx⟩ := cells_L1 hf
  refine ⟨a, b, z, ha, hb, ?_, hx⟩
  have e2 : cs.toList = Rg.pt a b z := e
  rw [Rg.V, ← e2, Array.toArray_toList]
end
section
variable {H : Type} {enc : TypeId × Value → H} {w : World} {base : Nat} {sp : Nat → Bool} {held : Bool} {r : Reach} {b0 : Nat} {v : Value} {d : DataW H} {ps : List MemPlace}
end
theorem l1_stays {H : Type} {enc : TypeId × Value → H} {W W' : World} {v : Value} {d : DataW H}
    (h : DataW.Trod enc Try.prog W 0 (fun _ => true) true 25 v d []) (hb : Below W.heap.size W W') :
    DataW.Trod enc Try.prog W' 0 (fun b => decide (b < W.heap.size)) true 25 v d [] :=
  Below.trod Try.laidOut (by kernel_rfl) (by decide +kernel) h hb (fun _ hx => by cases hx)
section
variable {H : Type} {enc : TypeId × Value → H} {P : Program} {w : World} {base : Nat} {spare : Nat → Bool} {held : Bool}
end
end Go.Proofs.Ytjmbgchoioepjaa
end
section
namespace Go.Proofs.Ytjmbgchoioepjaa
open Go.ChangeShapes Go.WideShapes Go.ChangeAt Go.RowKit
theorem Try.cells5 : Try.prog.cellsOf 5 = 1 := by kernel_rfl
set_option maxRecDepth 100000 in
theorem open_bytes {H : Type} {enc : TypeId × Value → H} {w : World} {base : Nat} {sp : Nat → Bool} {held : Bool} {r : Reach} {b0 : Nat} {v : Value} {d : DataW H} {ps : List MemPlace}
    (hval : Value.okWide Try.prog w r b0 59 v) (hd : DataW.Trod enc Try.prog w base sp held 59 v d ps) :
    ∃ xs c, BSl w xs c v ∧ (∀ x ∈ xs, 0 ≤ x ∧ x < 256) ∧ ∀ x ∈ ps, x.block < w.heap.size := by
  obtain ⟨a0, len, cap, rfl⟩ := okWide_slice Try.underlying59 hval
  obtain ⟨fuel, hf⟩ := hd
  rcases open_ints Try.underlying59 Try.underlying5 Try.cells5 hf with ⟨hcs, hx⟩ | ⟨a, len', cap', zs, hcs, _, hl, hm, hz, hx, hcell, hwz⟩
  · simp [Value.cells] at hcs
    obtain ⟨rfl, rfl, rfl⟩ := hcs
    simp only [Prod.mk.injEq] at hx
    obtain ⟨_, rfl⟩ := hx
    exact ⟨[], 0, .void none rfl, by simp, by simp⟩
  · simp [Value.cells] at hcs
    obtain ⟨rfl, rfl, rfl⟩ := hcs
    simp only [Prod.mk.injEq] at hx
    obtain ⟨_, rfl⟩ := hx
    have hlz : len ≤ zs.length := by rw [hz]; split <;> omega
    have hps : ∀ x ∈ MemPlace.row a zs.length, x.block < w.heap.size := fun x hx => by
      obtain ⟨i, hi, rfl⟩ := MemPlace.mem_row.1 hx
      have := World.block_lt_of_cell? w _ (hcell i hi)
      obtain ⟨b, off, rfl, _⟩ := ints_at hcell (by omega)
      exact World.block_lt_of_cell? w _ (hcell 0 (by omega))
    have hb : ∀ x ∈ zs, 0 ≤ x ∧ x < 256 := fun x hx => by
      have := bounds_u8 (hwz x hx)
      omega
    by_cases h0 : len = 0
    · subst h0
      exact ⟨[], cap, .void (some a) rfl, by simp, hps⟩
    · obtain ⟨b, off, rfl, hc⟩ := ints_at hcell (by omega)
      refine ⟨zs.take len, cap, ?_, fun x hx => hb x (List.mem_of_mem_take hx), hps⟩
      have hlen : (zs.take len).length = len := by simp; omega
      have hf : BSl w (zs.take len) cap (.slice (some ⟨b, off, none⟩) (zs.take len).length cap) := .full b off (World.block_lt_of_cell? w _ (hc 0 (by omega))) (by rw [hlen]; exact hl) (fun i hi => by
        rw [hlen] at hi
        rw [hc i (by omega)]
        simp [hi])
      rw [hlen] at hf
      exact hf
end Go.Proofs.Ytjmbgchoioepjaa
end
