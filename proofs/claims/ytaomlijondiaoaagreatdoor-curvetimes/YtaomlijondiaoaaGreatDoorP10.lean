/- Texts of the proof, joined. -/
import Derived.Test.YtaomlijondiaoaaGreatDoorP9
import Derived.ProofKit
import Derived.OpenShut
import Derived.Test.YtaomlijondiaoaaGreatDoorRows
import Derived.LaidMore
import Derived.Stop.Joined
import Derived.Test.YtaomlijondiaoaaGreatDoorTie
set_option maxRecDepth 100000
section
namespace Go.Proofs.YtaomlijondiaoaaGreatDoor
open Go.ChangeShapes Go.WideShapes Go.ChangeAt Go.RowKit
set_option maxRecDepth 100000
theorem Tryz.own : ownKnob Tryz.prog.godebug = none := by kernel_rfl
theorem Tryz.laidOut : laidOutB Tryz.prog = true := by kernel_rfl
theorem wd_cons_zero (x r : Nat) (hx : x < 18446744073709551616) : wd (x + 18446744073709551616 * r) 0 = x := by
 unfold wd; rw [Nat.mul_zero, Nat.pow_zero, Nat.div_one]; omega
theorem wd_cons_succ (x r i : Nat) (hx : x < 18446744073709551616) : wd (x + 18446744073709551616 * r) (i + 1) = wd r i := by
 unfold wd
 rw [pow_step, Nat.mul_comm (2 ^ (64 * i)), ← Nat.div_div_eq_div_mul, show (x + 18446744073709551616 * r) / 18446744073709551616 = r by omega]
theorem lt_cons (x r k : Nat) (hx : x < 18446744073709551616) (hr : r < 2 ^ (64 * k)) : x + 18446744073709551616 * r < 2 ^ (64 * (k + 1)) := by
 rw [pow_step]; omega
theorem num_of_words (x : Nat → Nat) (hx : ∀ i, x i < 18446744073709551616) (n : Nat) : ∃ a, a < 2 ^ (64 * n) ∧ ∀ i, i < n → wd a i = x i := by
 induction n generalizing x with
 | zero => exact ⟨0, Nat.two_pow_pos _, fun i h => absurd h (Nat.not_lt_zero _)⟩
 | succ n ih =>
  obtain ⟨r, hr, hw⟩ := ih (fun i => x (i + 1)) (fun i => hx _)
  refine ⟨x 0 + 18446744073709551616 * r, lt_cons _ _ _ (hx 0) hr, fun i hi => ?_⟩
  cases i with
  | zero => exact wd_cons_zero _ _ (hx 0)
  | succ i => rw [wd_cons_succ _ _ _ (hx 0)]; exact hw i (by omega)
theorem open_num {H : Type} {enc : TypeId × Value → H} {w : World} {base : Nat} {sp : Nat → Bool} {held : Bool} {r : Reach} {b0 : Nat} {v : Value} {d : DataW H} {ps : List MemPlace}
  (hval : Value.okWide Tryz.prog w r b0 24 v) (hd : DataW.Trod enc Tryz.prog w base sp held 24 v d ps) : ∃ a, a < big ∧ v = N a ∧ ps = [] := by
 unfold Value.okWide at hval
 rw [Tryz.underlying24] at hval
 obtain ⟨cs, rfl, hsz, _⟩ := hval
 obtain ⟨fuel, hf⟩ := hd
 obtain ⟨xs, m, -, hx, hl, hn, hel⟩ := DataW.trod_array Tryz.underlying24 hf
 have hc : Tryz.prog.cellsOf 22 = 1 := by kernel_rfl
 have hc6 : Tryz.prog.cellsOf 24 = 6 := by kernel_rfl
 rw [hc6] at hsz
 have key : ∀ i, i < 6 → ∃ n : Nat, n < 18446744073709551616 ∧ cs[i]? = some (.int .u64 n) ∧ ∃ z, xs[i]? = some z ∧ z.2 = [] := by
  intro i hi
  have h := hel i hi
  rw [hc] at h
  have hlt : i < xs.length := by rw [hn]; exact hi
  obtain ⟨z, hz⟩ : ∃ z, xs[i]? = some z := ⟨xs[i], List.getElem?_eq_getElem hlt⟩
  rw [hz] at h
  obtain ⟨n, e1, e2, e3⟩ := DataW.trod_int Tryz.underlying22 h
  have hb := bounds_u64 e3
  have hi' : i < cs.size := by omega
  have e4 : cs[i]? = some (.int .u64 n) := by
   have e5 : (cs.toList.drop i)[0]? = some (.int .u64 n) := by
    have e6 : ((cs.toList.drop (i * 1)).take 1)[0]? = some (.int .u64 n) := by
     have e7 : (Value.agg cs).cells.toList = cs.toList := rfl
     rw [e7] at e1
     rw [e1]; rfl
    rw [Nat.mul_one, List.getElem?_take] at e6
    simpa using e6
   rw [List.getElem?_drop] at e5
   simpa using e5
  refine ⟨n.toNat, by omega, ?_, z, hz, by rw [e2]⟩
  rw [e4, Int.toNat_of_nonneg hb.1]
 obtain ⟨n0, l0, c0, z0, y0, q0⟩ := key 0 (by omega)
 obtain ⟨n1, l1, c1, z1, y1, q1⟩ := key 1 (by omega)
 obtain ⟨n2, l2, c2, z2, y2, q2⟩ := key 2 (by omega)
 obtain ⟨n3, l3, c3, z3, y3, q3⟩ := key 3 (by omega)
 obtain ⟨n4, l4, c4, z4, y4, q4⟩ := key 4 (by omega)
 obtain ⟨n5, l5, c5, z5, y5, q5⟩ := key 5 (by omega)
 have hps : ps = [] := by
  have hx2 : ps = xs.flatMap (·.2) := congrArg Prod.snd hx
  rw [hx2, List.flatMap_eq_nil_iff]
  intro z hz
  obtain ⟨i, hi⟩ := List.mem_iff_getElem?.1 hz
  have hi6 : i < 6 := by
   have := (List.getElem?_eq_some_iff.1 hi).1
   omega
  obtain ⟨n, _, _, z', y, q⟩ := key i hi6
  rw [hi] at y; injection y with y; rw [y]; exact q
 obtain ⟨a, ha, hw⟩ := num_of_words (fun i => [n0, n1, n2, n3, n4, n5].getD i 0) (by
  intro i
  match i with
  | 0 => exact l0
  | 1 => exact l1
  | 2 => exact l2
  | 3 => exact l3
  | 4 => exact l4
  | 5 => exact l5
  | (i + 6) => simp) 6
 refine ⟨a, by rw [big]; exact ha, ?_, hps⟩
 unfold N
 have w0 : wd a 0 = n0 := hw 0 (by omega)
 have w1 : wd a 1 = n1 := hw 1 (by omega)
 have w2 : wd a 2 = n2 := hw 2 (by omega)
 have w3 : wd a 3 = n3 := hw 3 (by omega)
 have w4 : wd a 4 = n4 := hw 4 (by omega)
 have w5 : wd a 5 = n5 := hw 5 (by omega)
 rw [w0, w1, w2, w3, w4, w5]
 congr 1
 apply Array.ext (by simpa using hsz)
 intro i hi1 hi2
 have : i < 6 := by simpa using hi2
 have g : cs[i]? = some cs[i] := Array.getElem?_eq_getElem hi1
 match i, this with
 | 0, _ => rw [c0] at g; injection g with g; rw [← g]; rfl
 | 1, _ => rw [c1] at g; injection g with g; rw [← g]; rfl
 | 2, _ => rw [c2] at g; injection g with g; rw [← g]; rfl
 | 3, _ => rw [c3] at g; injection g with g; rw [← g]; rfl
 | 4, _ => rw [c4] at g; injection g with g; rw [← g]; rfl
 | 5, _ => rw [c5] at g; injection g with g; rw [← g]; rfl
theorem num_stays {H : Type} {enc : TypeId × Value → H} {W W' : World} {v : Value} {d : DataW H}
  (h : DataW.Trod enc Tryz.prog W 0 (fun _ => true) true 24 v d []) (hb : Below W.heap.size W W') :
  DataW.Trod enc Tryz.prog W' 0 (fun b => decide (b < W.heap.size)) true 24 v d [] :=
 Below.trod Tryz.laidOut (by kernel_rfl) (by decide +kernel) h hb (fun _ hx => by cases hx)
end Go.Proofs.YtaomlijondiaoaaGreatDoor
end
section
namespace Go.Proofs.YtaomlijondiaoaaGreatDoor
open Go.ChangeShapes Go.WideShapes Go.ChangeAt Go.RowKit
set_option maxRecDepth 100000
section
variable {H : Type} {enc : TypeId × Value → H} {w : World} {base : Nat} {sp : Nat → Bool} {held : Bool}
theorem cells_num {fuel : Nat} {cs : List Value} {x : DataW H × List MemPlace} (h : DataW.trod enc Tryz.prog w base sp held fuel 24 cs = some x) : ∃ a, a < big ∧ cs = zD a ∧ x.2 = [] := by
 obtain ⟨xs, m, -, hx, hl, hn, hel⟩ := DataW.trod_array Tryz.underlying24 h
 have hc : Tryz.prog.cellsOf 22 = 1 := by kernel_rfl
 have hc6 : Tryz.prog.cellsOf 24 = 6 := by kernel_rfl
 rw [hc6] at hl
 have key : ∀ i, i < 6 → ∃ n : Nat, n < 18446744073709551616 ∧ cs[i]? = some (.int .u64 n) ∧ ∃ z, xs[i]? = some z ∧ z.2 = [] := by
  intro i hi
  have h := hel i hi
  rw [hc] at h
  have hlt : i < xs.length := by rw [hn]; exact hi
  obtain ⟨z, hz⟩ : ∃ z, xs[i]? = some z := ⟨xs[i], List.getElem?_eq_getElem hlt⟩
  rw [hz] at h
  obtain ⟨n, e1, e2, e3⟩ := DataW.trod_int Tryz.underlying22 h
  have hb := bounds_u64 e3
  have e6 : ((cs.drop (i * 1)).take 1)[0]? = some (.int .u64 n) := by rw [e1]; rfl
  rw [Nat.mul_one, List.getElem?_take] at e6
  have e5 : (cs.drop i)[0]? = some (.int .u64 n) := by simpa using e6
  rw [List.getElem?_drop] at e5
  refine ⟨n.toNat, by omega, ?_, z, hz, by rw [e2]⟩
  rw [Int.toNat_of_nonneg hb.1]
  simpa using e5
 obtain ⟨n0, l0, c0, z0, y0, q0⟩ := key 0 (by omega)
 obtain ⟨n1, l1, c1, z1, y1, q1⟩ := key 1 (by omega)
 obtain ⟨n2, l2, c2, z2, y2, q2⟩ := key 2 (by omega)
 obtain ⟨n3, l3, c3, z3, y3, q3⟩ := key 3 (by omega)
 obtain ⟨n4, l4, c4, z4, y4, q4⟩ := key 4 (by omega)
 obtain ⟨n5, l5, c5, z5, y5, q5⟩ := key 5 (by omega)
 have hps : x.2 = [] := by
  have hx2 : x.2 = xs.flatMap (·.2) := congrArg Prod.snd hx
  rw [hx2, List.flatMap_eq_nil_iff]
  intro z hz
  obtain ⟨i, hi⟩ := List.mem_iff_getElem?.1 hz
  have hi6 : i < 6 := by
   have := (List.getElem?_eq_some_iff.1 hi).1
   omega
  obtain ⟨n, _, _, z', y, q⟩ := key i hi6
  rw [hi] at y; injection y with y; rw [y]; exact q
 obtain ⟨a, ha, hw⟩ := num_of_words (fun i => [n0, n1, n2, n3, n4, n5].getD i 0) (by
  intro i
  match i with
  | 0 => exact l0
  | 1 => exact l1
  | 2 => exact l2
  | 3 => exact l3
  | 4 => exact l4
  | 5 => exact l5
  | (i + 6) => simp) 6
 refine ⟨a, by rw [big]; exact ha, ?_, hps⟩
 have w0 : wd a 0 = n0 := hw 0 (by omega)
 have w1 : wd a 1 = n1 := hw 1 (by omega)
 have w2 : wd a 2 = n2 := hw 2 (by omega)
 have w3 : wd a 3 = n3 := hw 3 (by omega)
 have w4 : wd a 4 = n4 := hw 4 (by omega)
 have w5 : wd a 5 = n5 := hw 5 (by omega)
 unfold zD
 rw [w0, w1, w2, w3, w4, w5]
 apply List.ext_getElem?
 intro i
 match i with
 | 0 => exact c0
 | 1 => exact c1
 | 2 => exact c2
 | 3 => exact c3
 | 4 => exact c4
 | 5 => exact c5
 | i + 6 => rw [List.getElem?_eq_none (by omega)]; rfl
theorem cells_parts {t e : TypeId} {n c : Nat} {P : List Value → Prop} {fuel : Nat} {cs : List Value} {x : DataW H × List MemPlace} (ht : Tryz.prog.underlying t = some (.array n e)) (hce : Tryz.prog.cellsOf e = c) (hct : Tryz.prog.cellsOf t = n * c)
  (hop : ∀ {fuel : Nat} {cs : List Value} {x : DataW H × List MemPlace}, DataW.trod enc Tryz.prog w base sp held fuel e cs = some x → P cs ∧ x.2 = []) (h : DataW.trod enc Tryz.prog w base sp held fuel t cs = some x) :
  cs.length = n * c ∧ (∀ i, i < n → P ((cs.drop (i * c)).take c)) ∧ x.2 = [] := by
 obtain ⟨xs, m, -, hx, hl, hn, hel⟩ := DataW.trod_array ht h
 rw [hct] at hl
 rw [hce] at hel
 have key : ∀ i, i < n → P ((cs.drop (i * c)).take c) ∧ ∃ z, xs[i]? = some z ∧ z.2 = [] := fun i hi => by
  have h := hel i hi
  have hlt : i < xs.length := by rw [hn]; exact hi
  obtain ⟨z, hz⟩ : ∃ z, xs[i]? = some z := ⟨xs[i], List.getElem?_eq_getElem hlt⟩
  rw [hz] at h
  exact ⟨(hop h).1, z, hz, (hop h).2⟩
 refine ⟨hl, fun i hi => (key i hi).1, ?_⟩
 have hx2 : x.2 = xs.flatMap (·.2) := congrArg Prod.snd hx
 rw [hx2, List.flatMap_eq_nil_iff]
 intro z hz
 obtain ⟨i, hi⟩ := List.mem_iff_getElem?.1 hz
 have hin : i < n := by
  have := (List.getElem?_eq_some_iff.1 hi).1
  omega
 obtain ⟨_, z', y, q⟩ := key i hin
 rw [hi] at y; injection y with y; rw [y]; exact q
theorem cells_E2 {fuel : Nat} {cs : List Value} {x : DataW H × List MemPlace} (h : DataW.trod enc Tryz.prog w base sp held fuel 40 cs = some x) : (∃ a b, a < big ∧ b < big ∧ cs = Rg.cel [a, b]) ∧ x.2 = [] := by
 obtain ⟨hl, hp, hx⟩ := cells_parts (P := fun l => ∃ a, a < big ∧ l = zD a) (n := 2) (c := 6) Tryz.underlying40 (by kernel_rfl) (by kernel_rfl) (fun h => by obtain ⟨a, h1, h2, h3⟩ := cells_num h; exact ⟨⟨a, h1, h2⟩, h3⟩) h
 obtain ⟨a, ha, ea⟩ := hp 0 (by decide)
 obtain ⟨b, hb, eb⟩ := hp 1 (by decide)
 refine ⟨⟨a, b, ha, hb, ?_⟩, hx⟩
 rw [Nat.zero_mul, List.drop_zero] at ea
 rw [List.take_of_length_le (by rw [List.length_drop]; omega)] at eb
 have e := List.take_append_drop 6 cs
 rw [ea, show (6 : Nat) = 1 * 6 from rfl, eb] at e
 rw [← e]
 rfl
end
section
variable {H : Type} {enc : TypeId × Value → H} {w : World} {base : Nat} {sp : Nat → Bool} {held : Bool} {r : Reach} {b0 : Nat} {v : Value} {d : DataW H} {ps : List MemPlace}
end
section
variable {H : Type} {enc : TypeId × Value → H} {w : World} {base : Nat} {sp : Nat → Bool} {held : Bool}
theorem cells_P1 {fuel : Nat} {cs : List Value} {x : DataW H × List MemPlace} (h : DataW.trod enc Tryz.prog w base sp held fuel 26 cs = some x) : (∃ a b z, a < big ∧ b < big ∧ cs = Rg.cel [a, b] ++ [Value.bool z]) ∧ x.2 = [] := by
 obtain ⟨xs, n, -, hx, hl, hn, hel⟩ := DataW.trod_struct Tryz.underlying26 h
 have hl' : cs.length = 13 := hl.trans (by kernel_rfl)
 have hn' : xs.length = 3 := hn
 match xs, hn' with
 | [x0, x1, x2], _ =>
  have f0 : DataW.trod enc Tryz.prog w base sp held n 24 ((cs.drop 0).take 6) = some x0 := by
   have f : DataW.trod enc Tryz.prog w base sp held n 24 ((cs.drop 0).take (Tryz.prog.cellsOf 24)) = some x0 := hel 0 _ rfl
   rw [show Tryz.prog.cellsOf 24 = 6 by kernel_rfl] at f
   exact f
  have f1 : DataW.trod enc Tryz.prog w base sp held n 24 ((cs.drop 6).take 6) = some x1 := by
   have f : DataW.trod enc Tryz.prog w base sp held n 24 ((cs.drop 6).take (Tryz.prog.cellsOf 24)) = some x1 := hel 1 _ rfl
   rw [show Tryz.prog.cellsOf 24 = 6 by kernel_rfl] at f
   exact f
  have f2 : DataW.trod enc Tryz.prog w base sp held n 4 ((cs.drop 12).take 1) = some x2 := by
   have f : DataW.trod enc Tryz.prog w base sp held n 4 ((cs.drop 12).take (Tryz.prog.cellsOf 4)) = some x2 := hel 2 _ rfl
   rw [show Tryz.prog.cellsOf 4 = 1 by kernel_rfl] at f
   exact f
  obtain ⟨a, ha, e0, q0⟩ := cells_num f0
  obtain ⟨b, hb, e1, q1⟩ := cells_num f1
  obtain ⟨z, e2, q2⟩ := DataW.trod_bool Tryz.underlying4 f2
  refine ⟨⟨a, b, z, ha, hb, ?_⟩, ?_⟩
  ·have h1 := List.take_append_drop 6 cs
   have h2 := List.take_append_drop 6 (cs.drop 6)
   rw [List.drop_drop] at h2
   have h3 : (cs.drop 12).take 1 = cs.drop 12 := List.take_of_length_le (by rw [List.length_drop]; omega)
   rw [List.drop_zero] at e0
   rw [e0] at h1
   rw [e1, show 6 + 6 = 12 from rfl, ← h3, e2] at h2
   rw [← h2] at h1
   rw [← h1]
   rfl
  ·rw [hx]
   show x0.2 ++ (x1.2 ++ (x2.2 ++ [])) = []
   rw [q0, q1, q2]
   rfl
end
section
variable {H : Type} {enc : TypeId × Value → H} {w : World} {base : Nat} {sp : Nat → Bool} {held : Bool} {r : Reach} {b0 : Nat} {v : Value} {d : DataW H} {ps : List MemPlace}
theorem open_P1 (hval : Value.okWide Tryz.prog w r b0 26 v) (hd : DataW.Trod enc Tryz.prog w base sp held 26 v d ps) : ∃ a b z, a < big ∧ b < big ∧ v = .agg (Rg.cel [a, b] ++ [Value.bool z]).toArray ∧ ps = [] := by
 unfold Value.okWide at hval
 rw [Tryz.underlying26] at hval
 obtain ⟨cs, rfl, hsz, _⟩ := hval
 obtain ⟨fuel, hf⟩ := hd
 obtain ⟨⟨a, b, z, ha, hb, e⟩, hx⟩ := cells_P1 hf
 refine ⟨a, b, z, ha, hb, ?_, hx⟩
 have e2 : cs.toList = Rg.cel [a, b] ++ [Value.bool z] := e
 rw [← e2, Array.toArray_toList]
end
theorem p1_stays {H : Type} {enc : TypeId × Value → H} {W W' : World} {v : Value} {d : DataW H}
  (h : DataW.Trod enc Tryz.prog W 0 (fun _ => true) true 26 v d []) (hb : Below W.heap.size W W') :
  DataW.Trod enc Tryz.prog W' 0 (fun b => decide (b < W.heap.size)) true 26 v d [] :=
 Below.trod Tryz.laidOut (by kernel_rfl) (by decide +kernel) h hb (fun _ hx => by cases hx)
section
variable {H : Type} {enc : TypeId × Value → H} {w : World} {base : Nat} {sp : Nat → Bool} {held : Bool}
theorem cells_P2 {fuel : Nat} {cs : List Value} {x : DataW H × List MemPlace} (h : DataW.trod enc Tryz.prog w base sp held fuel 42 cs = some x) : (∃ a0 a1 b0 b1 z, a0 < big ∧ a1 < big ∧ b0 < big ∧ b1 < big ∧ cs = Rg.cel [a0, a1, b0, b1] ++ [Value.bool z]) ∧ x.2 = [] := by
 obtain ⟨xs, n, -, hx, hl, hn, hel⟩ := DataW.trod_struct Tryz.underlying42 h
 have hl' : cs.length = 25 := hl.trans (by kernel_rfl)
 have hn' : xs.length = 3 := hn
 match xs, hn' with
 | [x0, x1, x2], _ =>
  have f0 : DataW.trod enc Tryz.prog w base sp held n 40 ((cs.drop 0).take 12) = some x0 := by
   have f : DataW.trod enc Tryz.prog w base sp held n 40 ((cs.drop 0).take (Tryz.prog.cellsOf 40)) = some x0 := hel 0 _ rfl
   rw [show Tryz.prog.cellsOf 40 = 12 by kernel_rfl] at f
   exact f
  have f1 : DataW.trod enc Tryz.prog w base sp held n 40 ((cs.drop 12).take 12) = some x1 := by
   have f : DataW.trod enc Tryz.prog w base sp held n 40 ((cs.drop 12).take (Tryz.prog.cellsOf 40)) = some x1 := hel 1 _ rfl
   rw [show Tryz.prog.cellsOf 40 = 12 by kernel_rfl] at f
   exact f
  have f2 : DataW.trod enc Tryz.prog w base sp held n 4 ((cs.drop 24).take 1) = some x2 := by
   have f : DataW.trod enc Tryz.prog w base sp held n 4 ((cs.drop 24).take (Tryz.prog.cellsOf 4)) = some x2 := hel 2 _ rfl
   rw [show Tryz.prog.cellsOf 4 = 1 by kernel_rfl] at f
   exact f
  obtain ⟨⟨a0, a1, ha0, ha1, e0⟩, q0⟩ := cells_E2 f0
  obtain ⟨⟨b0, b1, hb0, hb1, e1⟩, q1⟩ := cells_E2 f1
  obtain ⟨z, e2, q2⟩ := DataW.trod_bool Tryz.underlying4 f2
  refine ⟨⟨a0, a1, b0, b1, z, ha0, ha1, hb0, hb1, ?_⟩, ?_⟩
  ·have h1 := List.take_append_drop 12 cs
   have h2 := List.take_append_drop 12 (cs.drop 12)
   rw [List.drop_drop] at h2
   have h3 : (cs.drop 24).take 1 = cs.drop 24 := List.take_of_length_le (by rw [List.length_drop]; omega)
   rw [List.drop_zero] at e0
   rw [e0] at h1
   rw [e1, show 12 + 12 = 24 from rfl, ← h3, e2] at h2
   rw [← h2] at h1
   rw [← h1]
   rfl
  ·rw [hx]
   show x0.2 ++ (x1.2 ++ (x2.2 ++ [])) = []
   rw [q0, q1, q2]
   rfl
end
section
variable {H : Type} {enc : TypeId × Value → H} {w : World} {base : Nat} {sp : Nat → Bool} {held : Bool} {r : Reach} {b0 : Nat} {v : Value} {d : DataW H} {ps : List MemPlace}
theorem open_P2 (hval : Value.okWide Tryz.prog w r b0 42 v) (hd : DataW.Trod enc Tryz.prog w base sp held 42 v d ps) : ∃ a0 a1 b0 b1 z, a0 < big ∧ a1 < big ∧ b0 < big ∧ b1 < big ∧ v = .agg (Rg.cel [a0, a1, b0, b1] ++ [Value.bool z]).toArray ∧ ps = [] := by
 unfold Value.okWide at hval
 rw [Tryz.underlying42] at hval
 obtain ⟨cs, rfl, hsz, _⟩ := hval
 obtain ⟨fuel, hf⟩ := hd
 obtain ⟨⟨a0, a1, b0, b1, z, ha0, ha1, hb0, hb1, e⟩, hx⟩ := cells_P2 hf
 refine ⟨a0, a1, b0, b1, z, ha0, ha1, hb0, hb1, ?_, hx⟩
 have e2 : cs.toList = Rg.cel [a0, a1, b0, b1] ++ [Value.bool z] := e
 rw [← e2, Array.toArray_toList]
end
theorem p2_stays {H : Type} {enc : TypeId × Value → H} {W W' : World} {v : Value} {d : DataW H}
  (h : DataW.Trod enc Tryz.prog W 0 (fun _ => true) true 42 v d []) (hb : Below W.heap.size W W') :
  DataW.Trod enc Tryz.prog W' 0 (fun b => decide (b < W.heap.size)) true 42 v d [] :=
 Below.trod Tryz.laidOut (by kernel_rfl) (by decide +kernel) h hb (fun _ hx => by cases hx)
end Go.Proofs.YtaomlijondiaoaaGreatDoor
end
section
namespace Go.Proofs.YtaomlijondiaoaaGreatDoor
open Go.ChangeShapes Go.WideShapes Go.ChangeAt Go.RowKit
namespace Rg
set_option maxRecDepth 100000
abbrev laidL : List (String × DataW Unit) := Rows.curveGroup1Row.laid
abbrev tabName : String := match laidL with
 | (n, _) :: _ => n
 | [] => Tryz.f3.name
theorem gTab : Tryz.prog.globalNamed tabName = some 0 := by kernel_rfl
theorem tTab : (Tryz.prog.globals[0]?).map (·.type) = some 200 := by kernel_rfl
theorem datTab : (Rows.laid_math_bits_deBruijn64tab : DataW Unit) = .agg (Lib.deBruijn64tab.map fun k => .lit (.int .u8 ((k : Nat) : Int))) := by kernel_rfl
theorem tab_of_laid {W : World} (h : laidMetH Tryz.prog laidL W) : Mm W [(0, dtab)] := by
 rw [MakeChecks.laidMetH_plain _ _ _ (by kernel_rfl)] at h
 obtain ⟨ps, ⟨g, t, cs, fuel, p, q, hg, ht, hv, hd, hq, hps⟩, hnd, hc⟩ := h
 obtain rfl := Option.some.inj (gTab.symm.trans hg)
 obtain rfl := Option.some.inj (tTab.symm.trans ht)
 obtain ⟨xs, m, -, hx, hlen, hn, hel⟩ := DataW.trod_array Tryz.underlying200 hd
 rw [datTab] at hx
 simp only [Prod.mk.injEq, DataW.agg.injEq] at hx
 have hc5 : Tryz.prog.cellsOf 5 = 1 := by kernel_rfl
 have hc81 : Tryz.prog.cellsOf 200 = 64 := by kernel_rfl
 rw [hc81] at hlen
 have hsz : cs.size = 64 := by simpa using hlen
 have hpl : ∀ i, i < 64 → MemPlace.cell 0 i ∈ ps := fun i hi => by
  rw [hps]
  refine List.mem_append_left _ (List.mem_append_left _ ?_)
  unfold MemPlace.row
  simp [hsz]
  omega
 obtain ⟨⟨c0, t0, hheap⟩, _⟩ := hc 0 0 (hpl 0 (by decide))
 have h0 : 0 < W.heap.size := by
  rcases Nat.lt_or_ge 0 W.heap.size with h' | h'
  ·exact h'
  ·rw [Array.getElem?_eq_none (by omega)] at hheap; cases hheap
 refine ⟨fun pq hpq => ?_, List.pairwise_singleton _ _⟩
 rw [List.mem_singleton.1 hpq]
 refine ⟨h0, fun j v hj => ?_⟩
 have hj64 : j < 64 := by
  have := (List.getElem?_eq_some_iff.1 hj).1
  exact this
 refine ⟨?_, ?_⟩
 ·rw [World.var?_cell hg hv j]
  have h1 := hel j hj64
  rw [hc5, Nat.mul_one] at h1
  have hlt : j < xs.length := by omega
  rw [List.getElem?_eq_getElem hlt] at h1
  obtain ⟨n, e1, e2, _⟩ := DataW.trod_int Tryz.underlying5 h1
  have e3 : cs[j]? = some (.int .u8 n) := by
   have e4 : ((cs.toList.drop j).take 1)[0]? = some (.int .u8 n) := by rw [e1]; rfl
   rw [List.getElem?_take, if_pos (by decide), List.getElem?_drop] at e4
   simpa using e4
  have e5 : (xs.map (·.1))[j]? = (Lib.deBruijn64tab.map fun k => DataW.lit (.int .u8 ((k : Nat) : Int)))[j]? := by rw [hx.1]
  rw [List.getElem?_map, List.getElem?_eq_getElem hlt, e2, List.getElem?_map] at e5
  unfold dtab at hj
  rw [List.getElem?_map] at hj
  cases hk : Lib.deBruijn64tab[j]? with
  | none => rw [hk] at hj; cases hj
  | some k =>
   rw [hk] at hj e5
   simp only [Option.map_some, Option.some.injEq, DataW.lit.injEq] at hj e5
   rw [e3, ← hj]
   simp only [Option.some.injEq]
   injection e5 with _ e6
   rw [e6]
 ·unfold World.frozen?
  rw [hheap]
  simp
theorem door_met (os : Os) (args : Array Value) : laidMetH Tryz.prog laidL ((World.doorLaid Tryz.prog 400 os).forCall (fun _ _ => 0) ⟨#[], args, []⟩).memory :=
 laidMetH_of_parts3 (fuel := 8) (laidMet_of_run' 8 (by kernel_rfl) (by kernel_rfl)) (by kernel_rfl) (by kernel_rfl)
end Rg
end Go.Proofs.YtaomlijondiaoaaGreatDoor
end
