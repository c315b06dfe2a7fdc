/- Texts of the proof, joined. -/
import Derived.Test.YtolflfjfegngnaaDoorP6
import Derived.LaidMore
import Derived.Stop.Joined
import Derived.Lib.LaidTab
import Derived.ProofKit
import Derived.OpenShut
import Derived.ChangeSlices
import Derived.Test.YtolflfjfegngnaaDoorRows
import Derived.Test.YtolflfjfegngnaaDoorTie
import Derived.ChangeMaps5
import Derived.ChangeSame
section
namespace Go.Proofs.YtolflfjfegngnaaDoor
open Go.ChangeShapes Go.WideShapes Go.ChangeAt Go.RowKit
theorem Tryd.own : ownKnob Tryd.prog.godebug = none := by kernel_rfl
theorem Tryd.laidOut : laidOutB Tryd.prog = true := by kernel_rfl
theorem Tryd.cells5 : Tryd.prog.cellsOf 5 = 1 := by kernel_rfl
namespace Rg
abbrev laidL : List (String × DataW Unit) := Rows.digestSumsRow.laid
abbrev laidN : List (String × DataW Unit) := Rows.digestNilRow.laid
abbrev nmA : String := match laidL with
  | (n, _) :: _ => n
  | [] => Tryd.f3.name
abbrev nmB : String := match laidN with
  | (n, _) :: _ => n
  | [] => Tryd.f3.name
theorem gA' : Tryd.prog.globalNamed nmA = some 0 := by kernel_rfl
theorem gB' : Tryd.prog.globalNamed nmB = some 1 := by kernel_rfl
theorem tA : (Tryd.prog.globals[0]?).map (·.type) = some 53 := by kernel_rfl
theorem tB : (Tryd.prog.globals[1]?).map (·.type) = some 78 := by kernel_rfl
theorem datA : (Rows.laid_reliquary_digest_first : DataW Unit) = Lib.tabData .u32 ((List.range 8).map fun j => (fT j : Int)) := by kernel_rfl
theorem datB : (Rows.laid_reliquary_digest_rounds : DataW Unit) = Lib.tabData .u32 ((List.range 64).map fun j => (kT j : Int)) := by kernel_rfl
theorem map_ints (f : Nat → Nat) (n : Nat) : (((List.range n).map fun j => (f j : Int)).map fun z => Value.int .u32 z) = ints .u32 f n := by
  unfold ints
  rw [List.map_map]
  rfl
theorem blk_of {W : World} {g n : Nat} {f : Nat → Nat} {nm : String} {cs : Array Value} (hg : Tryd.prog.globalNamed nm = some g) (hv : W.var? Tryd.prog nm = some cs) (hcs : cs.toList = ints .u32 f n) (hn : 0 < n) {ps : List MemPlace} (hpl : ∀ i, i < n → MemPlace.cell g i ∈ ps)
    (hc : ∀ b off, MemPlace.cell b off ∈ ps → (∃ c t, W.heap[b]? = some (.cells c t (0, 0))) ∧ ∀ u v, W.cell? ⟨b, off, Option.none⟩ = some (.iface u v) → Value.okWide Tryd.prog W .any 0 u v) : g < W.heap.size ∧ Blk W g (ints .u32 f n) := by
  obtain ⟨⟨c0, t0, hheap⟩, _⟩ := hc g 0 (hpl 0 hn)
  refine ⟨?_, fun j v hj => ⟨?_, ?_⟩⟩
  · rcases Nat.lt_or_ge g W.heap.size with h' | h'
    · exact h'
    · rw [Array.getElem?_eq_none (by omega)] at hheap; cases hheap
  · rw [World.var?_cell hg hv j]
    rw [← hcs] at hj
    simpa using hj
  · unfold World.frozen?
    rw [hheap]
    simp
set_option maxRecDepth 100000 in
theorem tabs_of_laid {W : World} (h : laidMetH Tryd.prog laidL W) : Mm W [(0, ints .u32 fT 8), (1, ints .u32 kT 64)] := by
  rw [MakeChecks.laidMetH_plain _ _ _ (by kernel_rfl)] at h
  obtain ⟨ps, ⟨g, t, cs, fuel, p, q, hg, ht, hv, hd, ⟨g2, t2, cs2, fuel2, p2, q2, hg2, ht2, hv2, hd2, hq2, hps2⟩, hps⟩, hnd, hc⟩ := h
  obtain rfl := Option.some.inj (gA'.symm.trans hg)
  obtain rfl := Option.some.inj (tA.symm.trans ht)
  obtain rfl := Option.some.inj (gB'.symm.trans hg2)
  obtain rfl := Option.some.inj (tB.symm.trans ht2)
  rw [datA] at hd
  rw [datB] at hd2
  have e1 := Lib.cells_of_tab (P := Tryd.prog) (t := 53) (e := 51) (n := 8) (k := .u32) (by kernel_rfl) (by kernel_rfl) (by kernel_rfl) (by kernel_rfl) hd
  have e2 := Lib.cells_of_tab (P := Tryd.prog) (t := 78) (e := 51) (n := 64) (k := .u32) (by kernel_rfl) (by kernel_rfl) (by kernel_rfl) (by kernel_rfl) hd2
  rw [map_ints] at e1 e2
  have s1 : cs.size = 8 := by rw [← Array.length_toList, e1, ints_len]
  have s2 : cs2.size = 64 := by rw [← Array.length_toList, e2, ints_len]
  have b1 := blk_of (f := fT) (n := 8) hg hv e1 (by decide) (ps := ps) (fun i hi => by
    rw [hps]
    refine List.mem_append_left _ (List.mem_append_left _ ?_)
    unfold MemPlace.row
    simp [s1]
    omega) hc
  have b2 := blk_of (f := kT) (n := 64) hg2 hv2 e2 (by decide) (ps := ps) (fun i hi => by
    rw [hps, hps2]
    refine List.mem_append_right _ (List.mem_append_left _ (List.mem_append_left _ ?_))
    unfold MemPlace.row
    simp [s2]
    omega) hc
  refine ⟨fun pq hpq => ?_, ?_⟩
  · rcases List.mem_cons.1 hpq with rfl | hpq
    · exact b1
    · rw [List.mem_singleton.1 hpq]; exact b2
  · simp
theorem door_met (os : Os) (args : Array Value) : laidMetH Tryd.prog laidL ((World.doorLaid Tryd.prog 400 os).forCall (fun _ _ => 0) ⟨#[], args, []⟩).memory :=
  laidMetH_of_parts3 (fuel := 8) (laidMet_of_run' 8 (by kernel_rfl) (by kernel_rfl)) (by kernel_rfl) (by kernel_rfl)
end Rg
end Go.Proofs.YtolflfjfegngnaaDoor
end
section
namespace Go.Proofs.YtolflfjfegngnaaDoor
open Go.ChangeMaps Go.ChangeShapes Go.WideShapes Go.ChangeAt Go.RowKit
theorem Tryd.cells22 : Tryd.prog.cellsOf 22 = 1 := by kernel_rfl
theorem Tryd.cells45 : Tryd.prog.cellsOf 45 = 2 := by kernel_rfl
theorem under40 : Tryd.prog.underlying 40 = some (.slice 45) := by kernel_rfl
theorem open_bpart {H : Type} {enc : TypeId × Value → H} {w : World} {base : Nat} {sp : Nat → Bool} {held : Bool} {fuel : Nat} {cs : List Value} {y : DataW H × List MemPlace}
    (hf : DataW.trod enc Tryd.prog w base sp held fuel 22 cs = some y) :
    ∃ (q : Rg.Pt8) (xs : List Int), cs = [.slice q.p q.n q.cp] ∧ Rg.Ar xs q ∧ q.bs xs w ∧ ∀ x ∈ y.2, x.block < w.heap.size := by
  rcases open_ints Tryd.underlying22 Tryd.underlying5 Tryd.cells5 hf with ⟨hcs, hx⟩ | ⟨a, len, cap, zs, hcs, _, hl, hm, hz, hx, hcell, hwz⟩
  · subst hcs hx
    obtain ⟨q, e, h1, h2⟩ := Rg.bsl_ar (w := w) (xs := []) (c := 0) (v := .slice none 0 0) (by simp) (.void none rfl) (.inl rfl)
    exact ⟨q, [], by rw [e], h1, h2, by simp⟩
  · subst hcs hx
    have hlz : len ≤ zs.length := by rw [hz]; split <;> omega
    have hlen : (zs.take len).length = len := by simp; omega
    have hps : ∀ x ∈ MemPlace.row a zs.length, x.block < w.heap.size := fun x hx => by
      obtain ⟨i, hi, rfl⟩ := MemPlace.mem_row.1 hx
      have := World.block_lt_of_cell? w _ (hcell i hi)
      obtain ⟨b, off, rfl, _⟩ := ints_at hcell (by omega)
      exact World.block_lt_of_cell? w _ (hcell 0 (by omega))
    have hb : ∀ x ∈ zs.take len, 0 ≤ x ∧ x < 256 := fun x hx => by
      have := bounds_u8 (hwz x (List.mem_of_mem_take hx))
      omega
    have hB : BSl w (zs.take len) cap (.slice (some a) len cap) := by
      by_cases h0 : len = 0
      · subst h0
        exact .void (some a) (by simp)
      · obtain ⟨b, off, rfl, hc⟩ := ints_at hcell (by omega)
        have hh := BSl.full (w := w) (xs := zs.take len) (c := cap) b off (World.block_lt_of_cell? w _ (hc 0 (by omega))) (by rw [hlen]; exact hl) (fun i hi => by
          rw [hlen] at hi
          rw [hc i (by omega)]
          simp [hi])
        rw [hlen] at hh
        exact hh
    obtain ⟨q, e, h1, h2⟩ := Rg.bsl_ar hb hB (.inr ⟨_, _, _, rfl⟩)
    exact ⟨q, zs.take len, by rw [e], h1, h2, hps⟩
theorem Rg.add_add (a : Addr) (i j : Nat) : (a.add i).add j = a.add (i + j) := by
  unfold Addr.add
  by_cases hj : j = 0
  · subst hj
    simp
  · by_cases hi : i = 0
    · subst hi
      simp [hj]
    · simp [hi, hj, Nat.add_assoc]
theorem open_act {H : Type} {enc : TypeId × Value → H} {w : World} {base : Nat} {sp : Nat → Bool} {held : Bool} {fuel : Nat} {cs : List Value} {y : DataW H × List MemPlace}
    (hf : DataW.trod enc Tryd.prog w base sp held fuel 45 cs = some y) :
    ∃ x : Rg.Ac, cs = Rg.ac x ∧ Rg.Ar x.xs x.q ∧ x.q.bs x.xs w ∧ ∀ p ∈ y.2, p.block < w.heap.size := by
  obtain ⟨xs, n, -, hx, hl, hn, hel⟩ := DataW.trod_struct Tryd.underlying45 hf
  have hl' : cs.length = 2 := hl.trans Tryd.cells45
  have hn' : xs.length = 2 := hn
  obtain ⟨c0, c1, rfl⟩ : ∃ c0 c1, cs = [c0, c1] := by
    match cs, hl' with
    | [c0, c1], _ => exact ⟨c0, c1, rfl⟩
  match xs, hn' with
  | [x0, x1], _ =>
    have f0 : DataW.trod enc Tryd.prog w base sp held n 5 [c0] = some x0 := by
      have f : DataW.trod enc Tryd.prog w base sp held n 5 ((([c0, c1] : List Value).drop 0).take (Tryd.prog.cellsOf 5)) = some x0 := hel 0 _ rfl
      rw [Tryd.cells5] at f
      exact f
    have f1 : DataW.trod enc Tryd.prog w base sp held n 22 [c1] = some x1 := by
      have f : DataW.trod enc Tryd.prog w base sp held n 22 ((([c0, c1] : List Value).drop 1).take (Tryd.prog.cellsOf 22)) = some x1 := hel 1 _ rfl
      rw [Tryd.cells22] at f
      exact f
    obtain ⟨z, e1, e2, e3⟩ := DataW.trod_int Tryd.underlying5 f0
    have hb := bounds_u8 e3
    obtain ⟨q, ys, e4, h1, h2, h3⟩ := open_bpart f1
    refine ⟨⟨z.toNat, q, ys⟩, ?_, h1, h2, fun p hp => ?_⟩
    · injection e1 with e1 _
      injection e4 with e4 _
      rw [e1, e4]
      show [Value.int .u8 z, _] = [Value.int .u8 ((z.toNat : Nat) : Int), _]
      rw [Int.toNat_of_nonneg hb.1]
    · rw [hx] at hp
      have hp' : p ∈ x0.2 ++ (x1.2 ++ []) := hp
      rw [e2] at hp'
      simp at hp'
      exact h3 p hp'
theorem open_acts {H : Type} {enc : TypeId × Value → H} {w : World} {base : Nat} {sp : Nat → Bool} {held : Bool} {r : Reach} {b0 : Nat} {v : Value} {d : DataW H} {ps : List MemPlace}
    (hval : Value.okWide Tryd.prog w r b0 40 v) (hd : DataW.Trod enc Tryd.prog w base sp held 40 v d ps) :
    ∃ pl X m c, v = .slice pl m c ∧ (0 < m → ∃ g o, pl = some ⟨g, o, none⟩) ∧ (∀ i, i < m → Rg.Ar (X i).xs (X i).q) ∧ Rg.Lc pl X m w ∧ ∀ x ∈ ps, x.block < w.heap.size := by
  obtain ⟨a0, len0, cap0, rfl⟩ := okWide_slice under40 hval
  obtain ⟨fuel, hf⟩ := hd
  rcases DataW.trod_slice under40 hf with ⟨hcs, hx⟩ | ⟨a, len, cap, elems, rest, n, _, hcs, hx, hb, hl, hm, hlen, hel, hsp, hns⟩
  · simp [Value.cells] at hcs
    obtain ⟨rfl, rfl, rfl⟩ := hcs
    simp only [Prod.mk.injEq] at hx
    obtain ⟨_, rfl⟩ := hx
    exact ⟨none, fun _ => ⟨0, Rg.pno, []⟩, 0, 0, rfl, fun h => absurd h (by decide), fun i hi => absurd hi (by omega), fun g o e => (by cases e), by simp⟩
  · simp [Value.cells] at hcs
    obtain ⟨rfl, rfl, rfl⟩ := hcs
    simp only [Prod.mk.injEq] at hx
    obtain ⟨rfl, rfl⟩ := hx
    rw [Tryd.cells45] at hel hsp
    have two : ∀ {i : Nat} {x : Rg.Ac}, w.cells? base (a.add (i * 2)) 2 = some (Rg.ac x) → w.cell? (a.add (2 * i)) = some (Rg.Z8 x.kd) ∧ w.cell? (a.add (2 * i + 1)) = some (.slice x.q.p x.q.n x.q.cp) := fun {i x} h => by
      have hc := (World.cells?_some h).2.2
      have c0 := hc 0 (by omega)
      have c1 := hc 1 (by omega)
      rw [Rg.add_add, Nat.mul_comm] at c0 c1
      exact ⟨c0, c1⟩
    have part : ∀ i, ∃ x : Rg.Ac, i < len0 → w.cell? (a.add (2 * i)) = some (Rg.Z8 x.kd) ∧ w.cell? (a.add (2 * i + 1)) = some (.slice x.q.p x.q.n x.q.cp) ∧ Rg.Ar x.xs x.q ∧ x.q.bs x.xs w := fun i => by
      by_cases hi : i < len0
      · have h1 := hel i hi
        have hi2 : i < elems.length := by omega
        rw [List.getElem?_eq_getElem hi2, Option.bind_eq_some_iff] at h1
        obtain ⟨cs', hc', hy⟩ := h1
        obtain ⟨x, rfl, h2, h3, _⟩ := open_act hy
        exact ⟨x, fun _ => ⟨(two hc').1, (two hc').2, h2, h3⟩⟩
      · exact ⟨⟨0, Rg.pno, []⟩, fun h => absurd h hi⟩
    obtain ⟨X, hX⟩ := Classical.axiomOfChoice part
    have hall : ∀ i, i < elems.length + rest.length → (∃ c, w.cell? (a.add (2 * i)) = some c) ∧ ∃ c, w.cell? (a.add (2 * i + 1)) = some c := fun i hi => by
      by_cases h : i < len0
      · exact ⟨⟨_, (hX i h).1⟩, ⟨_, (hX i h).2.1⟩⟩
      · cases hs : sp a.block with
        | false => rw [hns hs] at hi; simp at hi; omega
        | true =>
          obtain ⟨hrl, hr⟩ := hsp hs
          have h1 := hr (i - len0) (by omega)
          rw [List.getElem?_eq_getElem (by omega : i - len0 < rest.length), Option.bind_eq_some_iff, show len0 + (i - len0) = i by omega] at h1
          obtain ⟨cs', hc', hy⟩ := h1
          obtain ⟨x, rfl, _⟩ := open_act hy
          exact ⟨⟨_, (two hc').1⟩, ⟨_, (two hc').2⟩⟩
    have hrest : ∀ y ∈ elems ++ rest, ∀ x ∈ y.2, x.block < w.heap.size := fun y hy => by
      rcases List.mem_append.1 hy with h | h
      · obtain ⟨i, hi, rfl⟩ := List.getElem_of_mem h
        have h1 := hel i (by omega)
        rw [List.getElem?_eq_getElem hi, Option.bind_eq_some_iff] at h1
        obtain ⟨cs', _, hy'⟩ := h1
        obtain ⟨x, _, _, _, h6⟩ := open_act hy'
        exact h6
      · cases hs : sp a.block with
        | false => rw [hns hs] at h; cases h
        | true =>
          obtain ⟨hrl, hr⟩ := hsp hs
          obtain ⟨i, hi, rfl⟩ := List.getElem_of_mem h
          have h1 := hr i (by omega)
          rw [List.getElem?_eq_getElem hi, Option.bind_eq_some_iff] at h1
          obtain ⟨cs', _, hy'⟩ := h1
          obtain ⟨x, _, _, _, h6⟩ := open_act hy'
          exact h6
    have hps : ∀ x ∈ MemPlace.row a ((elems.length + rest.length) * Tryd.prog.cellsOf 45) ++ (elems ++ rest).flatMap (·.2), x.block < w.heap.size := fun x hx => by
      rcases List.mem_append.1 hx with h | h
      · rw [Tryd.cells45] at h
        obtain ⟨i, hi, rfl⟩ := MemPlace.mem_row.1 h
        have hc := (hall (i / 2) (by omega)).1
        obtain ⟨c, hc⟩ := hc
        have := World.block_lt_of_cell? w _ hc
        rw [Rg.add_block] at this
        exact this
      · obtain ⟨y, hy, hxy⟩ := List.mem_flatMap.1 h
        exact hrest y hy x hxy
    by_cases h0 : len0 = 0
    · subst h0
      exact ⟨some a, X, 0, cap0, rfl, fun h => absurd h (by decide), fun i hi => absurd hi (by omega), fun g o _ i hi => absurd hi (by omega), hps⟩
    · obtain ⟨b, off, spot⟩ := a
      have hspot : spot = none := by simpa [Addr.add] using World.cell?_spot (hX 0 (by omega)).1
      subst hspot
      refine ⟨some ⟨b, off, none⟩, X, len0, cap0, rfl, fun _ => ⟨b, off, rfl⟩, fun i hi => (hX i hi).2.2.1, fun g o e i hi => ?_, hps⟩
      injection e with e
      injection e with e1 e2
      subst e1 e2
      obtain ⟨h1, h2, h3, h4⟩ := hX i hi
      rw [Go.WideShapes.add_plain] at h1 h2
      exact ⟨World.block_lt_of_cell? w _ h1, h1, h2, h4⟩
namespace Rg
theorem script_any (pl : Option Addr) (X : Nat → Ac) (m c2 : Nat) (hp : 0 < m → ∃ g o, pl = some ⟨g, o, none⟩) (hA : ∀ i, i < m → Ar (X i).xs (X i).q) (w : World) (hm : Mm w [(0, ints .u32 fT 8), (1, ints .u32 kT 64)]) (hL : Lc pl X m w) :
    Calls Tryd.prog 5 #[.slice pl m c2] w fun e w' => e = .returned (.bool true) ∧ Below w.heap.size w w' := by
  by_cases h : m ≤ 40
  · exact script_main pl X m c2 hp hA h w hm hL
  · exact script_long pl X m c2 hp hA (by omega) w hm hL
end Rg
end Go.Proofs.YtolflfjfegngnaaDoor
end
