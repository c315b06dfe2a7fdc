/- A number that is handed in, opened: six words, and the number that they make. -/
import Derived.Test.YtoagmdgmbkpghaaRows
import Derived.Test.YtoagmdgmbkpghaaPA1
import Derived.ProofKit
import Derived.OpenShut
namespace Go.Proofs.Ytoagmdgmbkpghaa
open Go.ChangeShapes Go.WideShapes Go.ChangeAt Go.RowKit

theorem Try.own : ownKnob Try.prog.godebug = none := by kernel_rfl
theorem Try.laidOut : laidOutB Try.prog = true := by kernel_rfl

theorem wd_cons_zero (x r : Nat) (hx : x < 18446744073709551616) : wd (x + 18446744073709551616 * r) 0 = x := by
  unfold wd; rw [Nat.mul_zero, Nat.pow_zero, Nat.div_one]; omega
theorem wd_cons_succ (x r i : Nat) (hx : x < 18446744073709551616) : wd (x + 18446744073709551616 * r) (i + 1) = wd r i := by
  unfold wd
  rw [pow_step, Nat.mul_comm (2 ^ (64 * i)), ← Nat.div_div_eq_div_mul, show (x + 18446744073709551616 * r) / 18446744073709551616 = r by omega]
theorem lt_cons (x r k : Nat) (hx : x < 18446744073709551616) (hr : r < 2 ^ (64 * k)) : x + 18446744073709551616 * r < 2 ^ (64 * (k + 1)) := by
  rw [pow_step]; omega
theorem num_of_words (x : Nat → Nat) (hx : ∀ i, x i < 18446744073709551616) (n : Nat) : ∃ a, a < 2 ^ (64 * n) ∧ ∀ i, i < n → wd a i = x i := by
  induction n generalizing x with
  | zero => exact ⟨0, Nat.two_pow_pos _, fun i h => absurd h (Nat.not_lt_zero _)⟩
  | succ n ih =>
    obtain ⟨r, hr, hw⟩ := ih (fun i => x (i + 1)) (fun i => hx _)
    refine ⟨x 0 + 18446744073709551616 * r, lt_cons _ _ _ (hx 0) hr, fun i hi => ?_⟩
    cases i with
    | zero => exact wd_cons_zero _ _ (hx 0)
    | succ i => rw [wd_cons_succ _ _ _ (hx 0)]; exact hw i (by omega)

theorem open_num {H : Type} {enc : TypeId × Value → H} {w : World} {base : Nat} {sp : Nat → Bool} {held : Bool} {r : Reach} {b0 : Nat} {v : Value} {d : DataW H} {ps : List MemPlace}
    (hval : Value.okWide Try.prog w r b0 24 v) (hd : DataW.Trod enc Try.prog w base sp held 24 v d ps) : ∃ a, a < big ∧ v = N a ∧ ps = [] := by
  unfold Value.okWide at hval
  rw [Try.underlying24] at hval
  obtain ⟨cs, rfl, hsz, _⟩ := hval
  obtain ⟨fuel, hf⟩ := hd
  obtain ⟨xs, m, -, hx, hl, hn, hel⟩ := DataW.trod_array Try.underlying24 hf
  have hc : Try.prog.cellsOf 22 = 1 := by kernel_rfl
  have hc6 : Try.prog.cellsOf 24 = 6 := by kernel_rfl
  rw [hc6] at hsz
  have key : ∀ i, i < 6 → ∃ n : Nat, n < 18446744073709551616 ∧ cs[i]? = some (.int .u64 n) ∧ ∃ z, xs[i]? = some z ∧ z.2 = [] := by
    intro i hi
    have h := hel i hi
    rw [hc] at h
    have hlt : i < xs.length := by rw [hn]; exact hi
    obtain ⟨z, hz⟩ : ∃ z, xs[i]? = some z := ⟨xs[i], List.getElem?_eq_getElem hlt⟩
    rw [hz] at h
    obtain ⟨n, e1, e2, e3⟩ := DataW.trod_int Try.underlying22 h
    have hb := bounds_u64 e3
    have hi' : i < cs.size := by omega
    have e4 : cs[i]? = some (.int .u64 n) := by
      have e5 : (cs.toList.drop i)[0]? = some (.int .u64 n) := by
        have e6 : ((cs.toList.drop (i * 1)).take 1)[0]? = some (.int .u64 n) := by
          have e7 : (Value.agg cs).cells.toList = cs.toList := rfl
          rw [e7] at e1
          rw [e1]; rfl
        rw [Nat.mul_one, List.getElem?_take] at e6
        simpa using e6
      rw [List.getElem?_drop] at e5
      simpa using e5
    refine ⟨n.toNat, by omega, ?_, z, hz, by rw [e2]⟩
    rw [e4, Int.toNat_of_nonneg hb.1]
  obtain ⟨n0, l0, c0, z0, y0, q0⟩ := key 0 (by omega)
  obtain ⟨n1, l1, c1, z1, y1, q1⟩ := key 1 (by omega)
  obtain ⟨n2, l2, c2, z2, y2, q2⟩ := key 2 (by omega)
  obtain ⟨n3, l3, c3, z3, y3, q3⟩ := key 3 (by omega)
  obtain ⟨n4, l4, c4, z4, y4, q4⟩ := key 4 (by omega)
  obtain ⟨n5, l5, c5, z5, y5, q5⟩ := key 5 (by omega)
  have hps : ps = [] := by
    have hx2 : ps = xs.flatMap (·.2) := congrArg Prod.snd hx
    rw [hx2, List.flatMap_eq_nil_iff]
    intro z hz
    obtain ⟨i, hi⟩ := List.mem_iff_getElem?.1 hz
    have hi6 : i < 6 := by
      have := (List.getElem?_eq_some_iff.1 hi).1
      omega
    obtain ⟨n, _, _, z', y, q⟩ := key i hi6
    rw [hi] at y; injection y with y; rw [y]; exact q
  obtain ⟨a, ha, hw⟩ := num_of_words (fun i => [n0, n1, n2, n3, n4, n5].getD i 0) (by
    intro i
    match i with
    | 0 => exact l0
    | 1 => exact l1
    | 2 => exact l2
    | 3 => exact l3
    | 4 => exact l4
    | 5 => exact l5
    | (i + 6) => simp) 6
  refine ⟨a, by rw [big]; exact ha, ?_, hps⟩
  unfold N
  have w0 : wd a 0 = n0 := hw 0 (by omega)
  have w1 : wd a 1 = n1 := hw 1 (by omega)
  have w2 : wd a 2 = n2 := hw 2 (by omega)
  have w3 : wd a 3 = n3 := hw 3 (by omega)
  have w4 : wd a 4 = n4 := hw 4 (by omega)
  have w5 : wd a 5 = n5 := hw 5 (by omega)
  rw [w0, w1, w2, w3, w4, w5]
  congr 1
  apply Array.ext (by simpa using hsz)
  intro i hi1 hi2
  have : i < 6 := by simpa using hi2
  have g : cs[i]? = some cs[i] := Array.getElem?_eq_getElem hi1
  match i, this with
  | 0, _ => rw [c0] at g; injection g with g; rw [← g]; rfl
  | 1, _ => rw [c1] at g; injection g with g; rw [← g]; rfl
  | 2, _ => rw [c2] at g; injection g with g; rw [← g]; rfl
  | 3, _ => rw [c3] at g; injection g with g; rw [← g]; rfl
  | 4, _ => rw [c4] at g; injection g with g; rw [← g]; rfl
  | 5, _ => rw [c5] at g; injection g with g; rw [← g]; rfl

/-- What was read of a number ahead of the call reads so behind it. -/
theorem num_stays {H : Type} {enc : TypeId × Value → H} {W W' : World} {v : Value} {d : DataW H}
    (h : DataW.Trod enc Try.prog W 0 (fun _ => true) true 24 v d []) (hb : Below W.heap.size W W') :
    DataW.Trod enc Try.prog W' 0 (fun b => decide (b < W.heap.size)) true 24 v d [] :=
  Below.trod Try.laidOut (by kernel_rfl) (by decide +kernel) h hb (fun _ hx => by cases hx)
end Go.Proofs.Ytoagmdgmbkpghaa
