/- Texts of the proof, joined. -/
import Derived.Test.YtgdlhgbdigpfhaaDoorP8
import Derived.ProofKit
import Derived.OpenShut
import Derived.Test.YtgdlhgbdigpfhaaDoorRows
import Derived.LaidMore
import Derived.Stop.Joined
import Derived.Test.YtgdlhgbdigpfhaaDoorTie
section
namespace Go.Proofs.YtgdlhgbdigpfhaaDoor
open Go.RowKit
namespace Rg
theorem zn_pz (a : Nat → Int) : (zn fun j => pz (a j)) = fun j => a j + (pB : Int) * (fun j => -(a j / (pB : Int))) j := funext fun j => by
  unfold zn
  rw [pz_cast, Int.emod_def, Int.mul_neg]
  rfl
theorem mul12_pzl (a b : Nat → Int) (j : Nat) : pz (mul12 (zn fun j => pz (a j)) b j) = pz (mul12 a b j) := by
  rw [zn_pz, lin12]
  exact pz_congr (Int.add_mul_emod_self_left ..)
theorem mul12_pzr (a b : Nat → Int) (j : Nat) : pz (mul12 a (zn fun j => pz (b j)) j) = pz (mul12 a b j) := by
  rw [comm12, mul12_pzl, comm12]
theorem mul12_pz (a b : Nat → Int) (j : Nat) : pz (mul12 (zn fun j => pz (a j)) (zn fun j => pz (b j)) j) = pz (mul12 a b j) := by rw [mul12_pzl, mul12_pzr]
theorem lz_congr {a b : Nat → Int} (h : ∀ j, pz (a j) = pz (b j)) : lz a = lz b := by
  simp only [lz, h]
theorem mulP_any {g : Nat} (a b : Nat → Int) (w : World) (hm : Mm w [(g, modc pB)]) : Calls Tryd.prog 34 #[.agg #[PT g 0], V (lz a), V (lz b)] w fun e w' => e = .returned (V (lz (mul12 a b))) ∧ Below w.heap.size w w' := by
  have h := mulN_any (g := g) (fun j => pz (a j)) (fun j => pz (b j)) (fun j => pz_lt _) (fun j => pz_lt _) w hm
  rw [lz_congr (mul12_pz a b)] at h
  exact h
theorem pz_one : pz 1 = 1 := by decide +kernel
theorem one_any (w : World) : Calls Tryd.prog 18 #[] w fun e w' => e = .returned (V [1, 0, 0, 0, 0, 0, 0, 0, 0, 0, 0, 0]) ∧ Below w.heap.size w w' := one12_gen 1 (fun w => one2_gen 1 (fun w => of_any 1 (by decide) w) w) w
theorem one_lz : [1, 0, 0, 0, 0, 0, 0, 0, 0, 0, 0, 0] = lz one12 := by
  simp only [lz, one12, pz_one, pz_zero]
theorem powT_any (a : Nat → Nat) (ha : ∀ j, j < 12 → a j < big) (e : Nat) (he : e < big) (w : World) : Calls Tryd.prog 21 #[V (tl a), N e] w fun r w' => r = .returned (V (lz (pw12 (zn a) e))) ∧ Below w.heap.size w w' := by
  have hl : bl e ≤ 384 := by
    obtain ⟨m, hm, h⟩ := big_pow
    rw [h] at he
    have := bl_le_of e _ he
    omega
  have e0 : e / 2 ^ 0 = e := by rw [Nat.pow_zero, Nat.div_one]
  have h := powT_gen pB e (bl e) 1 hl a (fun j => pz (zn a j)) (fun k j => pz (pw12 (zn a) (e / 2 ^ k) j)) (fun k j => pz (pw12 (zn a) (2 * (e / 2 ^ (k + 1))) j)) (fun k => bitv e k) ?_ (bit_cases e) (fun k hk => ?_) great_any (fun w => leftAll_any a ha w) one_any (fun w => len_any e he w) (fun k g w hm => ?_) (fun k w hk => ?_) (fun k hk g w hm => ?_) w
  · rw [e0] at h
    exact h
  · rw [Nat.div_eq_of_lt (bl_lt e)]
    exact one_lz
  · have h2 : e / 2 ^ k % 2 = 0 := by unfold bitv at hk; omega
    have h3 := half_step e k
    rw [h2, Nat.add_zero] at h3
    rw [← h3]
  · have h := mulP_any (g := g) (pw12 (zn a) (e / 2 ^ (k + 1))) (pw12 (zn a) (e / 2 ^ (k + 1))) w hm
    rw [← pw_twice] at h
    exact h
  · have h := bit_in e k (by omega) w
    rw [show (((k + 1 : Nat) : Int) - 1) = ((k : Nat) : Int) by omega]
    exact h
  · have h := mulP_any (g := g) (pw12 (zn a) (2 * (e / 2 ^ (k + 1)))) (zn a) w hm
    have h2 : e / 2 ^ k % 2 = 1 := by unfold bitv at hk; omega
    have h3 := half_step e k
    rw [h2] at h3
    have h4 : mul12 (pw12 (zn a) (2 * (e / 2 ^ (k + 1)))) (zn a) = pw12 (zn a) (e / 2 ^ k) := by rw [h3]; rfl
    rw [h4] at h
    exact h
theorem small_any (x y : Nat) (hx : x < 18446744073709551616) (hy : y < 18446744073709551616) (w : World) : Calls Tryd.prog 12 #[.int .u64 x, .int .u64 y] w fun e w' => e = .returned (V [x, y]) ∧ Below w.heap.size w w' :=
  small_gen x y x y (fun w => of_any x hx w) (fun w => of_any y hy w) w
theorem w_any (w : World) : Calls Tryd.prog 22 #[] w fun e w' => e = .returned (V [0, 0, 1, 0, 0, 0, 0, 0, 0, 0, 0, 0]) ∧ Below w.heap.size w w' := w_gen 1 (fun w => small_any 1 0 (by decide) (by decide) w) w
/-! Equality. -/
theorem run_eqD (D a b : Nat) (ha : a < big) (hb : b < big) (w : World) : (Op.equalIn (D + 2) 24 (N a) (N b)).run Tryd.prog w = .ok (decide (a = b)) w := by
  have h := run_eq6' (D + 1) (fun a b w => run_equalIn_int w D 22 .u64 .u64 a b (by kernel_rfl)) (wd a 0) (wd a 1) (wd a 2) (wd a 3) (wd a 4) (wd a 5) (wd b 0) (wd b 1) (wd b 2) (wd b 3) (wd b 4) (wd b 5) w
  rw [num_eq a b ha hb] at h
  exact h
theorem run_eqE2' (d a0 a1 b0 b1 : Nat) (p0 p1 : Bool) (hi0 : ∀ w, (Op.equalIn d 24 (N a0) (N b0)).run Tryd.prog w = .ok p0 w) (hi1 : ∀ w, (Op.equalIn d 24 (N a1) (N b1)).run Tryd.prog w = .ok p1 w) (w : World) :
    (Op.equalIn (d + 1) 26 (V [a0, a1]) (V [b0, b1])).run Tryd.prog w = .ok (p0 && p1) w := by
  have h24 : Tryd.prog.underlying 26 = some (.array 2 24) := by kernel_rfl
  have hsz : ∀ w, (sizeOf 24).run Tryd.prog w = .ok 6 w := fun w => by kernel_rfl
  have hp : ∀ (a b : Nat) (w : World), (Go.part 24 (cel [a, b]).toArray 0).run Tryd.prog w = .ok (N a) w ∧ (Go.part 24 (cel [a, b]).toArray 6).run Tryd.prog w = .ok (N b) w := fun a b w => ⟨by kernel_rfl, by kernel_rfl⟩
  simp only [V, Op.equalIn, Sem.run_bind, run_underlying h24, Result.andThen_ok, hsz]
  simp [Std.Legacy.Range.forIn_eq_forIn_range', List.range', List.forIn_cons, hi0, hi1, hp]
  cases p0 <;> cases p1 <;> simp
theorem run_eqE2 (a0 a1 b0 b1 : Nat) (ha0 : a0 < big) (ha1 : a1 < big) (hb0 : b0 < big) (hb1 : b1 < big) (w : World) : (Op.equalIn 10000 26 (V [a0, a1]) (V [b0, b1])).run Tryd.prog w = .ok (decide (a0 = b0) && decide (a1 = b1)) w :=
  run_eqE2' 9999 a0 a1 b0 b1 _ _ (fun w => run_eqD 9997 a0 b0 ha0 hb0 w) (fun w => run_eqD 9997 a1 b1 ha1 hb1 w) w
set_option maxRecDepth 100000 in
set_option maxHeartbeats 2000000 in
theorem run_eqE12q (d : Nat) (xs ys : Array Value) (u0 v0 u1 v1 u2 v2 u3 v3 u4 v4 u5 v5 : Value) (p0 p1 p2 p3 p4 p5 : Bool) (hx0 : ∀ w, (Go.part 26 xs 0).run Tryd.prog w = .ok u0 w) (hy0 : ∀ w, (Go.part 26 ys 0).run Tryd.prog w = .ok v0 w) (hi0 : ∀ w, (Op.equalIn d 26 u0 v0).run Tryd.prog w = .ok p0 w) (hx1 : ∀ w, (Go.part 26 xs 12).run Tryd.prog w = .ok u1 w) (hy1 : ∀ w, (Go.part 26 ys 12).run Tryd.prog w = .ok v1 w) (hi1 : ∀ w, (Op.equalIn d 26 u1 v1).run Tryd.prog w = .ok p1 w) (hx2 : ∀ w, (Go.part 26 xs 24).run Tryd.prog w = .ok u2 w) (hy2 : ∀ w, (Go.part 26 ys 24).run Tryd.prog w = .ok v2 w) (hi2 : ∀ w, (Op.equalIn d 26 u2 v2).run Tryd.prog w = .ok p2 w) (hx3 : ∀ w, (Go.part 26 xs 36).run Tryd.prog w = .ok u3 w) (hy3 : ∀ w, (Go.part 26 ys 36).run Tryd.prog w = .ok v3 w) (hi3 : ∀ w, (Op.equalIn d 26 u3 v3).run Tryd.prog w = .ok p3 w) (hx4 : ∀ w, (Go.part 26 xs 48).run Tryd.prog w = .ok u4 w) (hy4 : ∀ w, (Go.part 26 ys 48).run Tryd.prog w = .ok v4 w) (hi4 : ∀ w, (Op.equalIn d 26 u4 v4).run Tryd.prog w = .ok p4 w) (hx5 : ∀ w, (Go.part 26 xs 60).run Tryd.prog w = .ok u5 w) (hy5 : ∀ w, (Go.part 26 ys 60).run Tryd.prog w = .ok v5 w) (hi5 : ∀ w, (Op.equalIn d 26 u5 v5).run Tryd.prog w = .ok p5 w) (w : World) :
    (Op.equalIn (d + 1) 37 (.agg xs) (.agg ys)).run Tryd.prog w = .ok (p0 && (p1 && (p2 && (p3 && (p4 && p5))))) w := by
  have h24 : Tryd.prog.underlying 37 = some (.array 6 26) := by kernel_rfl
  have hsz : ∀ w, (sizeOf 26).run Tryd.prog w = .ok 12 w := fun w => by kernel_rfl
  simp only [Op.equalIn, Sem.run_bind, run_underlying h24, Result.andThen_ok, hsz]
  simp [Std.Legacy.Range.forIn_eq_forIn_range', List.range', List.forIn_cons, hx0, hy0, hi0, hx1, hy1, hi1, hx2, hy2, hi2, hx3, hy3, hi3, hx4, hy4, hi4, hx5, hy5, hi5]
  cases p0 <;> cases p1 <;> cases p2 <;> cases p3 <;> cases p4 <;> cases p5 <;> simp
theorem part12 (a : Nat → Nat) (w : World) : (Go.part 26 (cel (tl a)).toArray 0).run Tryd.prog w = .ok (V [a 0, a 1]) w ∧ (Go.part 26 (cel (tl a)).toArray 12).run Tryd.prog w = .ok (V [a 2, a 3]) w ∧ (Go.part 26 (cel (tl a)).toArray 24).run Tryd.prog w = .ok (V [a 4, a 5]) w ∧ (Go.part 26 (cel (tl a)).toArray 36).run Tryd.prog w = .ok (V [a 6, a 7]) w ∧ (Go.part 26 (cel (tl a)).toArray 48).run Tryd.prog w = .ok (V [a 8, a 9]) w ∧ (Go.part 26 (cel (tl a)).toArray 60).run Tryd.prog w = .ok (V [a 10, a 11]) w := ⟨by kernel_rfl, by kernel_rfl, by kernel_rfl, by kernel_rfl, by kernel_rfl, by kernel_rfl⟩
theorem run_eqE12' (d : Nat) (a b : Nat → Nat) (p0 p1 p2 p3 p4 p5 : Bool) (hi0 : ∀ w, (Op.equalIn d 26 (V [a 0, a 1]) (V [b 0, b 1])).run Tryd.prog w = .ok p0 w) (hi1 : ∀ w, (Op.equalIn d 26 (V [a 2, a 3]) (V [b 2, b 3])).run Tryd.prog w = .ok p1 w) (hi2 : ∀ w, (Op.equalIn d 26 (V [a 4, a 5]) (V [b 4, b 5])).run Tryd.prog w = .ok p2 w) (hi3 : ∀ w, (Op.equalIn d 26 (V [a 6, a 7]) (V [b 6, b 7])).run Tryd.prog w = .ok p3 w) (hi4 : ∀ w, (Op.equalIn d 26 (V [a 8, a 9]) (V [b 8, b 9])).run Tryd.prog w = .ok p4 w) (hi5 : ∀ w, (Op.equalIn d 26 (V [a 10, a 11]) (V [b 10, b 11])).run Tryd.prog w = .ok p5 w) (w : World) :
    (Op.equalIn (d + 1) 37 (V (tl a)) (V (tl b))).run Tryd.prog w = .ok (p0 && (p1 && (p2 && (p3 && (p4 && p5))))) w :=
  run_eqE12q d _ _ _ _ _ _ _ _ _ _ _ _ _ _ p0 p1 p2 p3 p4 p5 (fun w => (part12 a w).1) (fun w => (part12 b w).1) hi0 (fun w => (part12 a w).2.1) (fun w => (part12 b w).2.1) hi1 (fun w => (part12 a w).2.2.1) (fun w => (part12 b w).2.2.1) hi2 (fun w => (part12 a w).2.2.2.1) (fun w => (part12 b w).2.2.2.1) hi3 (fun w => (part12 a w).2.2.2.2.1) (fun w => (part12 b w).2.2.2.2.1) hi4 (fun w => (part12 a w).2.2.2.2.2) (fun w => (part12 b w).2.2.2.2.2) hi5 w
theorem run_eqE12 (a b : Nat → Nat) (ha : ∀ j, j < 12 → a j < big) (hb : ∀ j, j < 12 → b j < big) (w : World) : (Op.equalIn 10000 37 (V (tl a)) (V (tl b))).run Tryd.prog w = .ok (decide (tl a = tl b)) w := by
  have h := run_eqE12' 9999 a b _ _ _ _ _ _ (fun w => run_eqE2' 9998 (a 0) (a 1) (b 0) (b 1) _ _ (fun w => run_eqD 9996 _ _ (ha _ (by decide)) (hb _ (by decide)) w) (fun w => run_eqD 9996 _ _ (ha _ (by decide)) (hb _ (by decide)) w) w) (fun w => run_eqE2' 9998 (a 2) (a 3) (b 2) (b 3) _ _ (fun w => run_eqD 9996 _ _ (ha _ (by decide)) (hb _ (by decide)) w) (fun w => run_eqD 9996 _ _ (ha _ (by decide)) (hb _ (by decide)) w) w) (fun w => run_eqE2' 9998 (a 4) (a 5) (b 4) (b 5) _ _ (fun w => run_eqD 9996 _ _ (ha _ (by decide)) (hb _ (by decide)) w) (fun w => run_eqD 9996 _ _ (ha _ (by decide)) (hb _ (by decide)) w) w) (fun w => run_eqE2' 9998 (a 6) (a 7) (b 6) (b 7) _ _ (fun w => run_eqD 9996 _ _ (ha _ (by decide)) (hb _ (by decide)) w) (fun w => run_eqD 9996 _ _ (ha _ (by decide)) (hb _ (by decide)) w) w) (fun w => run_eqE2' 9998 (a 8) (a 9) (b 8) (b 9) _ _ (fun w => run_eqD 9996 _ _ (ha _ (by decide)) (hb _ (by decide)) w) (fun w => run_eqD 9996 _ _ (ha _ (by decide)) (hb _ (by decide)) w) w) (fun w => run_eqE2' 9998 (a 10) (a 11) (b 10) (b 11) _ _ (fun w => run_eqD 9996 _ _ (ha _ (by decide)) (hb _ (by decide)) w) (fun w => run_eqD 9996 _ _ (ha _ (by decide)) (hb _ (by decide)) w) w) w
  have e : ((decide (a 0 = b 0) && decide (a 1 = b 1)) && ((decide (a 2 = b 2) && decide (a 3 = b 3)) && ((decide (a 4 = b 4) && decide (a 5 = b 5)) && ((decide (a 6 = b 6) && decide (a 7 = b 7)) && ((decide (a 8 = b 8) && decide (a 9 = b 9)) && ((decide (a 10 = b 10) && decide (a 11 = b 11)))))))) = decide (tl a = tl b) := by
    rw [Bool.eq_iff_iff]
    simp only [Bool.and_eq_true, decide_eq_true_eq, tl, List.cons.injEq, and_true, and_assoc]
  exact h.trans (congrArg (fun q => Result.ok q w) e)
end Rg
end Go.Proofs.YtgdlhgbdigpfhaaDoor
end
section
namespace Go.Proofs.YtgdlhgbdigpfhaaDoor
open Go.RowKit
namespace Rg
theorem exec_eqE2 {ρ : Operand → Value} {o : Oper} {i j : Tmp} {x y : Array Value} {t : Bool} {w : World} (he : ∀ w, (Op.equalIn 10000 26 (.agg x) (.agg y)).run Tryd.prog w = .ok t w) (ho : o.op = .binOp .eql 26 (.tmp i) (.tmp j) 26) (hx : ρ (.tmp i) = .agg x) (hy : ρ (.tmp j) = .agg y) :
    (execOp ρ o).run Tryd.prog w = .ok (.value (.bool t)) w := by
  simp only [execOp, ho, hx, hy]
  clear hx hy
  go_simp
theorem exec_neqE2 {ρ : Operand → Value} {o : Oper} {i j : Tmp} {x y : Array Value} {t : Bool} {w : World} (he : ∀ w, (Op.equalIn 10000 26 (.agg x) (.agg y)).run Tryd.prog w = .ok t w) (ho : o.op = .binOp .neq 26 (.tmp i) (.tmp j) 26) (hx : ρ (.tmp i) = .agg x) (hy : ρ (.tmp j) = .agg y) :
    (execOp ρ o).run Tryd.prog w = .ok (.value (.bool !t)) w := by
  simp only [execOp, ho, hx, hy]
  clear hx hy
  go_simp
theorem exec_eqE12 {ρ : Operand → Value} {o : Oper} {i j : Tmp} {x y : Array Value} {t : Bool} {w : World} (he : ∀ w, (Op.equalIn 10000 37 (.agg x) (.agg y)).run Tryd.prog w = .ok t w) (ho : o.op = .binOp .eql 37 (.tmp i) (.tmp j) 37) (hx : ρ (.tmp i) = .agg x) (hy : ρ (.tmp j) = .agg y) :
    (execOp ρ o).run Tryd.prog w = .ok (.value (.bool t)) w := by
  simp only [execOp, ho, hx, hy]
  clear hx hy
  go_simp
theorem ex_build4 {ρ : Operand → Value} {o : Oper} {k : Nat} {w : World} (hk : k = 4) (ho : o.op = .build 24 #[(0, .const (.int .u64 4))]) (h0 : ρ (.const (.int .u64 4)) = .int .u64 4) : (execOp ρ o).run Tryd.prog w = .ok (.value (N k)) w := by
  have e : N k = .agg #[.int .u64 4, .int .u64 0, .int .u64 0, .int .u64 0, .int .u64 0, .int .u64 0] := by
    subst hk
    have h0 := wd_small0 4 (by decide)
    simp only [N, h0, wd_small 4 0 (by decide), wd_small 4 1 (by decide), wd_small 4 2 (by decide), wd_small 4 3 (by decide), wd_small 4 4 (by decide)]
    rfl
  rw [e]
  clear e
  simp only [execOp, ho]
  go_simp
set_option maxHeartbeats 4000000 in
set_option maxRecDepth 100000 in
theorem awake_gen (k1 k2 k4 k6 q0 q1 m0 m1 x0 x1 : Nat) (p : Nat → Nat) (hk4 : k4 = 4)
    (e0 : ∀ w, (Op.equalIn 10000 24 (N k4) (N k4)).run Tryd.prog w = .ok true w) (e1 : ∀ w, (Op.equalIn 10000 26 (V [x0, x1]) (V [k2, 0])).run Tryd.prog w = .ok true w) (e2 : ∀ w, (Op.equalIn 10000 26 (V [q0, q1]) (V [k2, 0])).run Tryd.prog w = .ok true w) (e3 : ∀ w, (Op.equalIn 10000 37 (V [p 0, p 1, p 2, p 3, p 4, p 5, p 6, p 7, p 8, p 9, p 10, p 11]) (V [k1, k1, 0, 0, 0, 0, 0, 0, 0, 0, 0, 0])).run Tryd.prog w = .ok true w)
    (c0 : ∀ w, Calls Tryd.prog 12 #[.int .u64 4, .int .u64 0] w fun e w' => e = .returned (V [k4, 0]) ∧ Below w.heap.size w w')
    (c1 : ∀ w, Mm w [(0, dtab)] → Calls Tryd.prog 13 #[V [k4, 0]] w fun e w' => e = .returned (.tuple #[V [q0, q1], .int .i64 0]) ∧ Below w.heap.size w w')
    (c2 : ∀ w, Calls Tryd.prog 20 #[.int .u64 4] w fun e w' => e = .returned (N k4) ∧ Below w.heap.size w w')
    (c3 : ∀ w, Calls Tryd.prog 12 #[.int .u64 1, .int .u64 1] w fun e w' => e = .returned (V [k1, k1]) ∧ Below w.heap.size w w')
    (c4 : ∀ w, Calls Tryd.prog 20 #[.int .u64 1] w fun e w' => e = .returned (N k1) ∧ Below w.heap.size w w')
    (c5 : ∀ w, Calls Tryd.prog 12 #[.int .u64 1, .int .u64 0] w fun e w' => e = .returned (V [k1, 0]) ∧ Below w.heap.size w w')
    (c6 : ∀ w, Calls Tryd.prog 14 #[V [k1, 0]] w fun e w' => e = .returned (V [m0, m1]) ∧ Below w.heap.size w w')
    (c7 : ∀ w, Calls Tryd.prog 7 #[V [k1, k1], V [k1, m0]] w fun e w' => e = .returned (V [x0, x1]) ∧ Below w.heap.size w w')
    (c8 : ∀ w, Calls Tryd.prog 12 #[.int .u64 2, .int .u64 0] w fun e w' => e = .returned (V [k2, 0]) ∧ Below w.heap.size w w')
    (c9 : ∀ w, Calls Tryd.prog 22 #[] w fun e w' => e = .returned (V [0, 0, k1, 0, 0, 0, 0, 0, 0, 0, 0, 0]) ∧ Below w.heap.size w w')
    (c10 : ∀ w, Calls Tryd.prog 20 #[.int .u64 6] w fun e w' => e = .returned (N k6) ∧ Below w.heap.size w w')
    (c11 : ∀ w, Calls Tryd.prog 21 #[V [0, 0, k1, 0, 0, 0, 0, 0, 0, 0, 0, 0], N k6] w fun e w' => e = .returned (V [p 0, p 1, p 2, p 3, p 4, p 5, p 6, p 7, p 8, p 9, p 10, p 11]) ∧ Below w.heap.size w w') (w : World) (hm : Mm w [(0, dtab)]) :
    Calls Tryd.prog 6 #[] w fun e w' => e = .returned (.bool true) ∧ Below w.heap.size w w' := by
  have H0 : Hid (_ ∧ _) := ⟨hm, Below.refl w.heap.size w⟩
  clear hm
  have C0 : Hid _ := c0
  have C1 : Hid _ := c1
  have C2 : Hid _ := c2
  have C3 : Hid _ := c3
  have C4 : Hid _ := c4
  have C5 : Hid _ := c5
  have C6 : Hid _ := c6
  have C7 : Hid _ := c7
  have C8 : Hid _ := c8
  have C9 : Hid _ := c9
  have C10 : Hid _ := c10
  have C11 : Hid _ := c11
  clear c0 c1 c2 c3 c4 c5 c6 c7 c8 c9 c10 c11
  go_enter Tryd.func6, Tryd.ntmps6
  refine wp_seq ?_
  refine walk_seqB 1 [.quiet (.bool false)] H0 ?ho1 ?he1
  case ho1 => exact ak (fun _ => ⟨rfl, fun _ _ => rfl⟩) trivial
  intro _ w1 H1
  refine rest0 rfl (then_normal (wp_seq ?_))
  refine walk_seqA 8 [.call (V [k4, 0]), .call (.tuple #[V [q0, q1], .int .i64 0]), .quiet (.tuple #[V [q0, q1], .int .i64 0]), .quiet (V [q0, q1]), .quiet (.int .i64 0), .made (cel [0, 0]) 26, .laid 5 (cel [0, 0]) (cel [q0, q1]), .quiet (.int .i64 0)] (sB H1) ?ho2 ?he2 (hL := ?hL2)
  case hL2 => exact ⟨⟨_, rfl⟩, trivial⟩
  case ho2 => exact ak (fun γ => ⟨rfl, fun w' h => ⟨12, #[.int .u64 4, .int .u64 0], exec_call rfl call12 rfl (mpn rfl), C0.out w'⟩⟩) (ak (fun γ => ⟨rfl, fun w' h => ⟨13, #[V [k4, 0]], exec_call rfl call13 rfl (mpn rfl), C1.out w' (h.one 0 rfl)⟩⟩) (ak (fun _ => ⟨rfl, fun _ _ => rfl⟩) (ak (by refine fun γ => ⟨rfl, fun w' h => ?_⟩; clear h; go_simp) (ak (by refine fun γ => ⟨rfl, fun w' h => ?_⟩; clear h; go_simp) (ak (fun γ => ⟨rfl, fun w' => ex_madeE2 rfl⟩) (ak (fun γ => ⟨rfl, rfl, rfl, fun w' h => ex_laidA h rfl Tryd.sizeOf26 rfl rfl rfl⟩) (ak (fun _ => ⟨rfl, fun _ _ => rfl⟩) trivial)))))))
  intro γ w2 l hM hl
  have H2 : Hid (Mm w2 [(γ 5, cel [q0, q1]), (0, dtab)] ∧ _) := growB H1 hM (Nat.le_refl _) hl [5] rfl (by decide)
  have o2_5 := ownB H1 hM (Nat.le_refl _) hl (i := 5) rfl
  clear hM hl l H1
  generalize γ 5 = γ2_5 at H2 o2_5 ⊢
  clear γ
  refine rest0 rfl (then_normal (wp_seq ?_))
  refine walk_anyB 32 [.call (N k4), .quiet (N k4), .quiet (.bool true), .quiet (.bool true), .call (V [k1, k1]), .call (N k1), .call (V [k1, 0]), .call (V [m0, m1]), .quiet (N m0), .quiet (V [k1, m0]), .call (V [x0, x1]), .call (V [k2, 0]), .quiet (.bool true), .quiet (.bool true), .quiet (.bool true), .quiet (V [q0, q1]), .call (V [k2, 0]), .quiet (.bool true), .quiet (.bool true), .quiet (.bool true), .quiet (.int .i64 0), .quiet (.bool true), .quiet (.bool true), .quiet (.bool true), .call (V [0, 0, k1, 0, 0, 0, 0, 0, 0, 0, 0, 0]), .call (N k6), .call (V [p 0, p 1, p 2, p 3, p 4, p 5, p 6, p 7, p 8, p 9, p 10, p 11]), .call (V [k1, k1]), .quiet (V [k1, k1, 0, 0, 0, 0, 0, 0, 0, 0, 0, 0]), .quiet (.bool true), .quiet (.bool true), .quiet (.bool true)] H2 ?ho3 ?he3 (hL := ?hL3)
  case hL3 => exact trivial
  case ho3 => exact ak (fun γ => ⟨rfl, fun w' h => ⟨20, #[.int .u64 4], exec_call rfl call20 rfl (mpn rfl), C2.out w'⟩⟩) (ak (fun γ => ⟨rfl, fun w' _ => ex_build4 hk4 rfl rfl⟩) (ak (fun γ => ⟨rfl, fun w' _ => exec_eq6 e0 rfl rfl rfl⟩) (ak (fun _ => ⟨rfl, fun _ _ => rfl⟩) (ak (fun γ => ⟨rfl, fun w' h => ⟨12, #[.int .u64 1, .int .u64 1], exec_call rfl call12 rfl (mpn rfl), C3.out w'⟩⟩) (ak (fun γ => ⟨rfl, fun w' h => ⟨20, #[.int .u64 1], exec_call rfl call20 rfl (mpn rfl), C4.out w'⟩⟩) (ak (fun γ => ⟨rfl, fun w' h => ⟨12, #[.int .u64 1, .int .u64 0], exec_call rfl call12 rfl (mpn rfl), C5.out w'⟩⟩) (ak (fun γ => ⟨rfl, fun w' h => ⟨14, #[V [k1, 0]], exec_call rfl call14 rfl (mpn rfl), C6.out w'⟩⟩) (ak (fun γ => ⟨rfl, fun w' _ => ex_indexE2_0 rfl rfl rfl⟩) (ak (fun γ => ⟨rfl, fun w' _ => ex_buildE2 rfl rfl rfl⟩) (ak (fun γ => ⟨rfl, fun w' h => ⟨7, #[V [k1, k1], V [k1, m0]], exec_call rfl call7 rfl (mpn rfl), C7.out w'⟩⟩) (ak (fun γ => ⟨rfl, fun w' h => ⟨12, #[.int .u64 2, .int .u64 0], exec_call rfl call12 rfl (mpn rfl), C8.out w'⟩⟩) (ak (fun γ => ⟨rfl, fun w' _ => exec_eqE2 e1 rfl rfl rfl⟩) (ak (by refine fun γ => ⟨rfl, fun w' h => ?_⟩; clear h; go_simp) (ak (fun _ => ⟨rfl, fun _ _ => rfl⟩) (ak (fun γ => ⟨rfl, fun w' h => ex_loadA (i := 0) (k := 2) h 0 rfl rfl rfl Tryd.isAgg26 Tryd.sizeOf26 rfl rfl⟩) (ak (fun γ => ⟨rfl, fun w' h => ⟨12, #[.int .u64 2, .int .u64 0], exec_call rfl call12 rfl (mpn rfl), C8.out w'⟩⟩) (ak (fun γ => ⟨rfl, fun w' _ => exec_eqE2 e2 rfl rfl rfl⟩) (ak (by refine fun γ => ⟨rfl, fun w' h => ?_⟩; clear h; go_simp) (ak (fun _ => ⟨rfl, fun _ _ => rfl⟩) (ak (fun _ => ⟨rfl, fun _ _ => rfl⟩) (ak (by refine fun γ => ⟨rfl, fun w' h => ?_⟩; clear h; go_simp) (ak (by refine fun γ => ⟨rfl, fun w' h => ?_⟩; clear h; go_simp) (ak (fun _ => ⟨rfl, fun _ _ => rfl⟩) (ak (fun γ => ⟨rfl, fun w' h => ⟨22, #[], exec_call rfl call22 rfl (mpn rfl), C9.out w'⟩⟩) (ak (fun γ => ⟨rfl, fun w' h => ⟨20, #[.int .u64 6], exec_call rfl call20 rfl (mpn rfl), C10.out w'⟩⟩) (ak (fun γ => ⟨rfl, fun w' h => ⟨21, #[V [0, 0, k1, 0, 0, 0, 0, 0, 0, 0, 0, 0], N k6], exec_call rfl call21 rfl (mpn rfl), C11.out w'⟩⟩) (ak (fun γ => ⟨rfl, fun w' h => ⟨12, #[.int .u64 1, .int .u64 1], exec_call rfl call12 rfl (mpn rfl), C3.out w'⟩⟩) (ak (fun γ => ⟨rfl, fun w' _ => ex_buildE12a rfl rfl⟩) (ak (fun γ => ⟨rfl, fun w' _ => exec_eqE12 e3 rfl rfl rfl⟩) (ak (by refine fun γ => ⟨rfl, fun w' h => ?_⟩; clear h; go_simp) (ak (fun _ => ⟨rfl, fun _ _ => rfl⟩) trivial)))))))))))))))))))))))))))))))
  intro _ w3 H3
  clear H2
  refine rest0 rfl (then_normal (wp_ret ?_))
  repeat (first | refine then_ret ?_ | refine block_ret ?_)
  refine bodyPost_ret (v := .bool true) (by simp [results, Tryd.results6, go_sem, *]) rfl ?_
  exact ⟨rfl, H3.out.2⟩
def un1 : Nat → Int
  | 2 => 1
  | _ => 0
def un2 : Nat → Int
  | 4 => 1
  | _ => 0
def un3 : Nat → Int
  | 6 => 1
  | _ => 0
def un4 : Nat → Int
  | 8 => 1
  | _ => 0
def un5 : Nat → Int
  | 10 => 1
  | _ => 0
def un6 : Nat → Int
  | 0 => 1
  | 1 => 1
  | _ => 0
theorem un_1 : mul12 one12 un1 = un1 := funext fun j => by
  match j with
  | 0 => rfl
  | 1 => rfl
  | 2 => rfl
  | 3 => rfl
  | 4 => rfl
  | 5 => rfl
  | 6 => rfl
  | 7 => rfl
  | 8 => rfl
  | 9 => rfl
  | 10 => rfl
  | 11 => rfl
  | _ + 12 => rfl
theorem un_2 : mul12 un1 un1 = un2 := funext fun j => by
  match j with
  | 0 => rfl
  | 1 => rfl
  | 2 => rfl
  | 3 => rfl
  | 4 => rfl
  | 5 => rfl
  | 6 => rfl
  | 7 => rfl
  | 8 => rfl
  | 9 => rfl
  | 10 => rfl
  | 11 => rfl
  | _ + 12 => rfl
theorem un_3 : mul12 un2 un1 = un3 := funext fun j => by
  match j with
  | 0 => rfl
  | 1 => rfl
  | 2 => rfl
  | 3 => rfl
  | 4 => rfl
  | 5 => rfl
  | 6 => rfl
  | 7 => rfl
  | 8 => rfl
  | 9 => rfl
  | 10 => rfl
  | 11 => rfl
  | _ + 12 => rfl
theorem un_4 : mul12 un3 un1 = un4 := funext fun j => by
  match j with
  | 0 => rfl
  | 1 => rfl
  | 2 => rfl
  | 3 => rfl
  | 4 => rfl
  | 5 => rfl
  | 6 => rfl
  | 7 => rfl
  | 8 => rfl
  | 9 => rfl
  | 10 => rfl
  | 11 => rfl
  | _ + 12 => rfl
theorem un_5 : mul12 un4 un1 = un5 := funext fun j => by
  match j with
  | 0 => rfl
  | 1 => rfl
  | 2 => rfl
  | 3 => rfl
  | 4 => rfl
  | 5 => rfl
  | 6 => rfl
  | 7 => rfl
  | 8 => rfl
  | 9 => rfl
  | 10 => rfl
  | 11 => rfl
  | _ + 12 => rfl
theorem un_6 : mul12 un5 un1 = un6 := funext fun j => by
  match j with
  | 0 => rfl
  | 1 => rfl
  | 2 => rfl
  | 3 => rfl
  | 4 => rfl
  | 5 => rfl
  | 6 => rfl
  | 7 => rfl
  | 8 => rfl
  | 9 => rfl
  | 10 => rfl
  | 11 => rfl
  | _ + 12 => rfl
theorem un_six : pw12 un1 6 = un6 := by
  show mul12 (mul12 (mul12 (mul12 (mul12 (mul12 one12 un1) un1) un1) un1) un1) un1 = un6
  rw [un_1, un_2, un_3, un_4, un_5, un_6]
def wn1 : Nat → Nat
  | 2 => 1
  | _ => 0
theorem zn_wn : zn wn1 = un1 := funext fun j => by
  match j with
  | 0 => rfl
  | 1 => rfl
  | 2 => rfl
  | _ + 3 => rfl
theorem root4 : ∃ u v : Int, pz u = 2 ∧ pz v = 0 ∧ ∀ w, Mm w [(0, dtab)] → Calls Tryd.prog 13 #[V [4, 0]] w fun e w' => e = .returned (.tuple #[V [pz u, pz v], .int .i64 0]) ∧ Below w.heap.size w w' := by
  have hq : Sq (((4 : Nat) : Int) * (4 : Nat) + ((0 : Nat) : Int) * (0 : Nat)) := sq_of (m := 4) (dv_zero.of (by decide))
  obtain ⟨x, y, h1, h2, hle, hc⟩ := rootT_ex 4 0 (small_big 4 (by decide)) big_pos hq
  have k1 : Dv (2 * (x * y)) := h2.of (by omega)
  have hxy : Dv x ∨ Dv y := (k1.prime.resolve_left not_two).prime
  have hy : Dv y := by
    rcases hxy with hx | hy
    · exfalso
      have k2 : Dv (y * y + 2 * 2) := ((hx.mul x).sub h1).of (by omega)
      exact not_two (norm0 k2).2
    · exact hy
  have hy0 := (pz_zero_iff y).2 hy
  have hy1 := (pz_zero_iff (-y)).2 ((hy.mul (-1)).of (by omega))
  have k3 : Dv ((x - 2) * (x + 2)) := (h1.add (hy.mul y)).of (by grind)
  have hx : pz x = 2 := by
    rcases k3.prime with k | k
    · rw [pz_mod x 2 k]
      decide +kernel
    · exfalso
      have e1 : pz x = pz (-2) := pz_mod x (-2) (k.of (by omega))
      have e2 : pz (-x) = pz 2 := pz_mod (-x) 2 ((k.mul (-1)).of (by omega))
      unfold Le2 at hle
      rw [hy0, hy1, e1, e2] at hle
      revert hle
      decide +kernel
  exact ⟨x, y, hx, hy0, hc⟩
theorem pz_12 (a : Nat → Int) : ∀ j, j < 12 → (fun j => pz (a j)) j < big := fun _ _ => pz_big _
theorem awake_any (w : World) (hm : Mm w [(0, dtab)]) : Calls Tryd.prog 6 #[] w fun e w' => e = .returned (.bool true) ∧ Below w.heap.size w w' := by
  obtain ⟨x, y, hx, hy, hc⟩ := root4
  have c6 := fun w => powT_any wn1 (fun _ _ => by unfold wn1; split <;> exact small_big _ (by decide)) 6 (small_big 6 (by decide)) w
  rw [zn_wn, un_six] at c6
  have s4 : (4 : Nat) < big := small_big 4 (by decide)
  have s2 : (2 : Nat) < big := small_big 2 (by decide)
  have s1 : (1 : Nat) < big := small_big 1 (by decide)
  have e1 := fun w => run_eqE2 (pz (((1 : Nat) : Int) * (1 : Nat) - ((1 : Nat) : Int) * (pz (-((1 : Nat) : Int)) : Nat))) (pz (((1 : Nat) : Int) * (pz (-((1 : Nat) : Int)) : Nat) + ((1 : Nat) : Int) * (1 : Nat))) 2 0 (pz_big _) (pz_big _) s2 big_pos w
  rw [show pz (((1 : Nat) : Int) * (1 : Nat) - ((1 : Nat) : Int) * (pz (-((1 : Nat) : Int)) : Nat)) = 2 by decide +kernel, show pz (((1 : Nat) : Int) * (pz (-((1 : Nat) : Int)) : Nat) + ((1 : Nat) : Int) * (1 : Nat)) = 0 by decide +kernel] at e1
  have c8 := fun w => mulT_any 1 1 1 (pz (-((1 : Nat) : Int))) s1 s1 s1 (pz_big _) w
  rw [show pz (((1 : Nat) : Int) * (1 : Nat) - ((1 : Nat) : Int) * (pz (-((1 : Nat) : Int)) : Nat)) = 2 by decide +kernel, show pz (((1 : Nat) : Int) * (pz (-((1 : Nat) : Int)) : Nat) + ((1 : Nat) : Int) * (1 : Nat)) = 0 by decide +kernel] at c8
  have e3 := fun w => run_eqE12 (fun j => pz (un6 j)) (fun j => pz (un6 j)) (pz_12 _) (pz_12 _) w
  rw [decide_eq_true rfl] at e3
  have l6 : lz un6 = [1, 1, 0, 0, 0, 0, 0, 0, 0, 0, 0, 0] := by simp only [lz, un6, pz_one, pz_zero]
  have e2 := fun w => run_eqE2 2 0 2 0 s2 big_pos s2 big_pos w
  rw [decide_eq_true rfl, decide_eq_true rfl] at e2
  have c2 := hc
  rw [hx, hy] at c2
  have e3' : ∀ w, (Op.equalIn 10000 37 (V (lz un6)) (V (lz un6))).run Tryd.prog w = .ok true w := e3
  have e3'' := e3'
  rw [l6] at e3'' c6
  exact awake_gen 1 2 4 6 2 0 _ _ 2 0 (fun j => [1, 1, 0, 0, 0, 0, 0, 0, 0, 0, 0, 0].getD j 0) rfl (fun w => by rw [run_eqN 4 4 s4 s4, decide_eq_true rfl]) e2 e2 e3'' (fun w => small_any 4 0 (by decide) (by decide) w) c2 (fun w => of_any 4 (by decide) w) (fun w => small_any 1 1 (by decide) (by decide) w) (fun w => of_any 1 (by decide) w) (fun w => small_any 1 0 (by decide) (by decide) w) (fun w => neg2_any 1 0 s1 big_pos w) c8 (fun w => small_any 2 0 (by decide) (by decide) w) w_any (fun w => of_any 6 (by decide) w) c6 w hm
end Rg
end Go.Proofs.YtgdlhgbdigpfhaaDoor
end
section
namespace Go.Proofs.YtgdlhgbdigpfhaaDoor
open Go.RowKit
namespace Rg
theorem dvr (x : Int) : Dv (x - x) := dv_zero.of (by omega)
theorem mulC (a0 a1 b0 b1 : Nat) {A0 A1 B0 B1 : Int} (R0 R1 : Int) (h0 : a0 < big) (h1 : a1 < big) (k0 : b0 < big) (k1 : b1 < big) (ha0 : Dv ((a0 : Int) - A0)) (ha1 : Dv ((a1 : Int) - A1)) (hb0 : Dv ((b0 : Int) - B0)) (hb1 : Dv ((b1 : Int) - B1)) (e0 : A0 * B0 - A1 * B1 = R0) (e1 : A0 * B1 + A1 * B0 = R1) (w : World) : Calls Tryd.prog 7 #[V [a0, a1], V [b0, b1]] w fun e w' => e = .returned (V [pz R0, pz R1]) ∧ Below w.heap.size w w' := by
  have h := mulT_any a0 a1 b0 b1 h0 h1 k0 k1 w
  have q0 : pz ((a0 : Int) * b0 - (a1 : Int) * b1) = pz R0 := pz_mod _ _ ((((ha0.mulr b0).add (hb0.mul A0)).sub ((ha1.mulr b1).add (hb1.mul A1))).of (by rw [← e0]; grind))
  have q1 : pz ((a0 : Int) * b1 + (a1 : Int) * b0) = pz R1 := pz_mod _ _ ((((ha0.mulr b1).add (hb1.mul A0)).add ((ha1.mulr b0).add (hb0.mul A1))).of (by rw [← e1]; grind))
  rw [q0, q1] at h
  exact h
theorem addC (a0 a1 b0 b1 : Nat) {A0 A1 B0 B1 : Int} (R0 R1 : Int) (h0 : a0 < big) (h1 : a1 < big) (k0 : b0 < big) (k1 : b1 < big) (ha0 : Dv ((a0 : Int) - A0)) (ha1 : Dv ((a1 : Int) - A1)) (hb0 : Dv ((b0 : Int) - B0)) (hb1 : Dv ((b1 : Int) - B1)) (e0 : A0 + B0 = R0) (e1 : A1 + B1 = R1) (w : World) : Calls Tryd.prog 8 #[V [a0, a1], V [b0, b1]] w fun e w' => e = .returned (V [pz R0, pz R1]) ∧ Below w.heap.size w w' := by
  have h := add2_any a0 a1 b0 b1 h0 h1 k0 k1 w
  rw [pz_mod ((a0 : Int) + b0) R0 ((ha0.add hb0).of (by omega)), pz_mod ((a1 : Int) + b1) R1 ((ha1.add hb1).of (by omega))] at h
  exact h
theorem subC (a0 a1 b0 b1 : Nat) {A0 A1 B0 B1 : Int} (R0 R1 : Int) (h0 : a0 < big) (h1 : a1 < big) (k0 : b0 < big) (k1 : b1 < big) (ha0 : Dv ((a0 : Int) - A0)) (ha1 : Dv ((a1 : Int) - A1)) (hb0 : Dv ((b0 : Int) - B0)) (hb1 : Dv ((b1 : Int) - B1)) (e0 : A0 - B0 = R0) (e1 : A1 - B1 = R1) (w : World) : Calls Tryd.prog 9 #[V [a0, a1], V [b0, b1]] w fun e w' => e = .returned (V [pz R0, pz R1]) ∧ Below w.heap.size w w' := by
  have h := sub2_any a0 a1 b0 b1 h0 h1 k0 k1 w
  rw [pz_mod ((a0 : Int) - b0) R0 ((ha0.sub hb0).of (by omega)), pz_mod ((a1 : Int) - b1) R1 ((ha1.sub hb1).of (by omega))] at h
  exact h
theorem conjC (a0 a1 : Nat) {A0 A1 : Int} (R0 R1 : Int) (h0 : a0 < big) (h1 : a1 < big) (ha0 : Dv ((a0 : Int) - A0)) (ha1 : Dv ((a1 : Int) - A1)) (e0 : A0 = R0) (e1 : -A1 = R1) (w : World) : Calls Tryd.prog 11 #[V [a0, a1]] w fun e w' => e = .returned (V [pz R0, pz R1]) ∧ Below w.heap.size w w' := by
  have h := conj2_any a0 a1 h0 h1 w
  rw [pz_mod (a0 : Int) R0 (ha0.of (by omega)), pz_mod (-(a1 : Int)) R1 ((ha1.mul (-1)).of (by omega))] at h
  exact h
theorem conjCr (a0 a1 : Nat) {A0 A1 : Int} (R0 R1 : Int) {r0 r1 : Nat} (q0 : pz R0 = r0) (q1 : pz R1 = r1) (h0 : a0 < big) (h1 : a1 < big) (ha0 : Dv ((a0 : Int) - A0)) (ha1 : Dv ((a1 : Int) - A1)) (e0 : A0 = R0) (e1 : -A1 = R1) (w : World) : Calls Tryd.prog 11 #[V [a0, a1]] w fun e w' => e = .returned (V [r0, r1]) ∧ Below w.heap.size w w' := by
  have h := conjC a0 a1 R0 R1 h0 h1 ha0 ha1 e0 e1 w
  rw [q0, q1] at h
  exact h
theorem eq_reflE2 {x y : Nat} (hx : x < big) (hy : y < big) (w : World) : (Op.equalIn 10000 26 (V [x, y]) (V [x, y])).run Tryd.prog w = .ok true w := by
  rw [run_eqE2 x y x y hx hy hx hy, decide_eq_true rfl, decide_eq_true rfl]
  rfl
theorem ne_E2 {x y a b : Nat} (hx : x < big) (hy : y < big) (ha : a < big) (hb : b < big) (h : ¬ (x = a ∧ y = b)) (w : World) : (Op.equalIn 10000 26 (V [x, y]) (V [a, b])).run Tryd.prog w = .ok false w := by
  rw [run_eqE2 x y a b hx hy ha hb]
  congr 1
  rw [← Bool.not_eq_true, Bool.and_eq_true, decide_eq_true_eq, decide_eq_true_eq]
  exact h
set_option maxHeartbeats 8000000 in
set_option maxRecDepth 100000 in
theorem field2_ok (x0 x1 y0 y1 z0 z1 ab0 ab1 m0 m1 bc0 bc1 su0 su1 d0 d1 ac0 ac1 sb0 sb1 cb0 cb1 cx0 cx1 cy0 cy1 ra0 ra1 ix0 ix1 k1 : Nat)
    (e_ab : ∀ w, (Op.equalIn 10000 26 (V [ab0, ab1]) (V [ab0, ab1])).run Tryd.prog w = .ok true w) (e_m : ∀ w, (Op.equalIn 10000 26 (V [m0, m1]) (V [m0, m1])).run Tryd.prog w = .ok true w) (e_d : ∀ w, (Op.equalIn 10000 26 (V [d0, d1]) (V [d0, d1])).run Tryd.prog w = .ok true w) (e_cb : ∀ w, (Op.equalIn 10000 26 (V [cb0, cb1]) (V [cb0, cb1])).run Tryd.prog w = .ok true w) (e_ra : ∀ w, (Op.equalIn 10000 26 (V [ra0, ra1]) (V [ra0, ra1])).run Tryd.prog w = .ok true w) (e_k : ∀ w, (Op.equalIn 10000 26 (V [k1, 0]) (V [k1, 0])).run Tryd.prog w = .ok true w) (e_n : ∀ w, (Op.equalIn 10000 26 (V [ra0, ra1]) (V [0, 0])).run Tryd.prog w = .ok false w)
    (c0 : ∀ w, Mm w [(0, dtab)] → Calls Tryd.prog 6 #[] w fun e w' => e = .returned (.bool true) ∧ Below w.heap.size w w')
    (c1 : ∀ w, Calls Tryd.prog 7 #[V [x0, x1], V [y0, y1]] w fun e w' => e = .returned (V [ab0, ab1]) ∧ Below w.heap.size w w')
    (c2 : ∀ w, Calls Tryd.prog 7 #[V [y0, y1], V [x0, x1]] w fun e w' => e = .returned (V [ab0, ab1]) ∧ Below w.heap.size w w')
    (c3 : ∀ w, Calls Tryd.prog 7 #[V [ab0, ab1], V [z0, z1]] w fun e w' => e = .returned (V [m0, m1]) ∧ Below w.heap.size w w')
    (c4 : ∀ w, Calls Tryd.prog 7 #[V [y0, y1], V [z0, z1]] w fun e w' => e = .returned (V [bc0, bc1]) ∧ Below w.heap.size w w')
    (c5 : ∀ w, Calls Tryd.prog 7 #[V [x0, x1], V [bc0, bc1]] w fun e w' => e = .returned (V [m0, m1]) ∧ Below w.heap.size w w')
    (c6 : ∀ w, Calls Tryd.prog 8 #[V [x0, x1], V [y0, y1]] w fun e w' => e = .returned (V [su0, su1]) ∧ Below w.heap.size w w')
    (c7 : ∀ w, Calls Tryd.prog 7 #[V [su0, su1], V [z0, z1]] w fun e w' => e = .returned (V [d0, d1]) ∧ Below w.heap.size w w')
    (c8 : ∀ w, Calls Tryd.prog 7 #[V [x0, x1], V [z0, z1]] w fun e w' => e = .returned (V [ac0, ac1]) ∧ Below w.heap.size w w')
    (c9 : ∀ w, Calls Tryd.prog 8 #[V [ac0, ac1], V [bc0, bc1]] w fun e w' => e = .returned (V [d0, d1]) ∧ Below w.heap.size w w')
    (c10 : ∀ w, Calls Tryd.prog 9 #[V [x0, x1], V [y0, y1]] w fun e w' => e = .returned (V [sb0, sb1]) ∧ Below w.heap.size w w')
    (c11 : ∀ w, Calls Tryd.prog 8 #[V [sb0, sb1], V [y0, y1]] w fun e w' => e = .returned (V [ra0, ra1]) ∧ Below w.heap.size w w')
    (c12 : ∀ w, Calls Tryd.prog 8 #[V [x0, x1], V [0, 0]] w fun e w' => e = .returned (V [ra0, ra1]) ∧ Below w.heap.size w w')
    (c13 : ∀ w, Calls Tryd.prog 11 #[V [ab0, ab1]] w fun e w' => e = .returned (V [cb0, cb1]) ∧ Below w.heap.size w w')
    (c14 : ∀ w, Calls Tryd.prog 11 #[V [x0, x1]] w fun e w' => e = .returned (V [cx0, cx1]) ∧ Below w.heap.size w w')
    (c15 : ∀ w, Calls Tryd.prog 11 #[V [y0, y1]] w fun e w' => e = .returned (V [cy0, cy1]) ∧ Below w.heap.size w w')
    (c16 : ∀ w, Calls Tryd.prog 7 #[V [cx0, cx1], V [cy0, cy1]] w fun e w' => e = .returned (V [cb0, cb1]) ∧ Below w.heap.size w w')
    (c17 : ∀ w, Calls Tryd.prog 11 #[V [cx0, cx1]] w fun e w' => e = .returned (V [ra0, ra1]) ∧ Below w.heap.size w w')
    (c18 : ∀ w, Mm w [(0, dtab)] → Calls Tryd.prog 10 #[V [x0, x1]] w fun e w' => e = .returned (.tuple #[V [ix0, ix1], .int .i64 0]) ∧ Below w.heap.size w w')
    (c19 : ∀ w, Calls Tryd.prog 7 #[V [ix0, ix1], V [x0, x1]] w fun e w' => e = .returned (V [k1, 0]) ∧ Below w.heap.size w w')
    (c20 : ∀ w, Calls Tryd.prog 12 #[.int .u64 1, .int .u64 0] w fun e w' => e = .returned (V [k1, 0]) ∧ Below w.heap.size w w') (w : World) (hm : Mm w [(0, dtab)]) :
    Calls Tryd.prog 3 #[V [x0, x1], V [y0, y1], V [z0, z1]] w fun e w' => e = .returned (.bool true) ∧ Below w.heap.size w w' := by
  have H0 : Hid (_ ∧ _) := ⟨hm, Below.refl w.heap.size w⟩
  clear hm
  have C0 : Hid _ := c0
  have C1 : Hid _ := c1
  have C2 : Hid _ := c2
  have C3 : Hid _ := c3
  have C4 : Hid _ := c4
  have C5 : Hid _ := c5
  have C6 : Hid _ := c6
  have C7 : Hid _ := c7
  have C8 : Hid _ := c8
  have C9 : Hid _ := c9
  have C10 : Hid _ := c10
  have C11 : Hid _ := c11
  have C12 : Hid _ := c12
  have C13 : Hid _ := c13
  have C14 : Hid _ := c14
  have C15 : Hid _ := c15
  have C16 : Hid _ := c16
  have C17 : Hid _ := c17
  have C18 : Hid _ := c18
  have C19 : Hid _ := c19
  have C20 : Hid _ := c20
  clear c0 c1 c2 c3 c4 c5 c6 c7 c8 c9 c10 c11 c12 c13 c14 c15 c16 c17 c18 c19 c20
  go_enter Tryd.func3, Tryd.ntmps3
  refine wp_seq ?_
  refine walk_seqA 4 [.made (cel [x0, x1]) 26, .made (cel [y0, y1]) 26, .made (cel [z0, z1]) 26, .quiet (.bool false)] (sB H0) ?ho1 ?he1
  case ho1 => exact ak (fun γ => ⟨rfl, fun w' => ex_boxA rfl rfl⟩) (ak (fun γ => ⟨rfl, fun w' => ex_boxA rfl rfl⟩) (ak (fun γ => ⟨rfl, fun w' => ex_boxA rfl rfl⟩) (ak (fun _ => ⟨rfl, fun _ _ => rfl⟩) trivial)))
  intro γ w1 l hM hl
  have H1 : Hid (Mm w1 [(γ 0, cel [x0, x1]), (γ 1, cel [y0, y1]), (γ 2, cel [z0, z1]), (0, dtab)] ∧ _) := growB H0 hM (Nat.le_refl _) hl [0, 1, 2] rfl (by decide)
  have o1_0 := ownB H0 hM (Nat.le_refl _) hl (i := 0) rfl
  have o1_1 := ownB H0 hM (Nat.le_refl _) hl (i := 1) rfl
  have o1_2 := ownB H0 hM (Nat.le_refl _) hl (i := 2) rfl
  clear hM hl l
  generalize γ 0 = γ1_0 at H1 o1_0 ⊢
  generalize γ 1 = γ1_1 at H1 o1_1 ⊢
  generalize γ 2 = γ1_2 at H1 o1_2 ⊢
  clear γ
  refine rest0 rfl (then_normal (wp_seq ?_))
  refine walk_seqB 2 [.call (.bool true), .quiet (.bool true)] H1 ?ho2 ?he2
  case ho2 => exact ak (fun γ => ⟨rfl, fun w' h => ⟨6, #[], exec_call rfl call6 rfl (mpn rfl), C0.out w' (h.one 3 rfl)⟩⟩) (ak (fun _ => ⟨rfl, fun _ _ => rfl⟩) trivial)
  intro _ w2 H2
  clear H1
  refine rest0 rfl (then_normal (wp_seq ?_))
  refine walk_seqA 5 [.quiet (V [x0, x1]), .quiet (V [y0, y1]), .call (V [ab0, ab1]), .made (cel [0, 0]) 26, .laid 3 (cel [0, 0]) (cel [ab0, ab1])] (sB H2) ?ho3 ?he3 (hL := ?hL3)
  case hL3 => exact ⟨⟨_, rfl⟩, trivial⟩
  case ho3 => exact ak (fun γ => ⟨rfl, fun w' h => ex_loadA (i := 0) (k := 2) h 0 rfl rfl rfl Tryd.isAgg26 Tryd.sizeOf26 rfl rfl⟩) (ak (fun γ => ⟨rfl, fun w' h => ex_loadA (i := 0) (k := 2) h 1 rfl rfl rfl Tryd.isAgg26 Tryd.sizeOf26 rfl rfl⟩) (ak (fun γ => ⟨rfl, fun w' h => ⟨7, #[V [x0, x1], V [y0, y1]], exec_call rfl call7 rfl (mpn rfl), C1.out w'⟩⟩) (ak (fun γ => ⟨rfl, fun w' => ex_madeE2 rfl⟩) (ak (fun γ => ⟨rfl, rfl, rfl, fun w' h => ex_laidA h rfl Tryd.sizeOf26 rfl rfl rfl⟩) trivial))))
  intro γ w3 l hM hl
  have H3 : Hid (Mm w3 [(γ 3, cel [ab0, ab1]), (γ1_0, cel [x0, x1]), (γ1_1, cel [y0, y1]), (γ1_2, cel [z0, z1]), (0, dtab)] ∧ _) := growB H2 hM (Nat.le_refl _) hl [3] rfl (by decide)
  have o3_3 := ownB H2 hM (Nat.le_refl _) hl (i := 3) rfl
  clear hM hl l H2
  generalize γ 3 = γ3_3 at H3 o3_3 ⊢
  clear γ
  refine rest0 rfl (then_normal (wp_seq (wp_seq ?_)))
  refine walk_anyB 42 [.quiet (V [ab0, ab1]), .quiet (V [y0, y1]), .quiet (V [x0, x1]), .call (V [ab0, ab1]), .quiet (.bool false), .quiet (.bool false), .quiet (V [ab0, ab1]), .quiet (V [z0, z1]), .call (V [m0, m1]), .quiet (V [x0, x1]), .quiet (V [y0, y1]), .quiet (V [z0, z1]), .call (V [bc0, bc1]), .call (V [m0, m1]), .quiet (.bool false), .quiet (.bool false), .quiet (.bool false), .quiet (V [x0, x1]), .quiet (V [y0, y1]), .call (V [su0, su1]), .quiet (V [z0, z1]), .call (V [d0, d1]), .quiet (V [x0, x1]), .quiet (V [z0, z1]), .call (V [ac0, ac1]), .quiet (V [y0, y1]), .quiet (V [z0, z1]), .call (V [bc0, bc1]), .call (V [d0, d1]), .quiet (.bool false), .quiet (.bool false), .quiet (.bool false), .quiet (V [x0, x1]), .quiet (V [y0, y1]), .call (V [sb0, sb1]), .quiet (V [y0, y1]), .call (V [ra0, ra1]), .quiet (V [x0, x1]), .quiet (V [0, 0]), .call (V [ra0, ra1]), .quiet (.bool false), .quiet (.bool false)] H3 ?ho4 ?he4 (hL := ?hL4)
  case hL4 => exact trivial
  case ho4 => exact ak (fun γ => ⟨rfl, fun w' h => ex_loadA (i := 0) (k := 2) h 0 rfl rfl rfl Tryd.isAgg26 Tryd.sizeOf26 rfl rfl⟩) (ak (fun γ => ⟨rfl, fun w' h => ex_loadA (i := 0) (k := 2) h 2 rfl rfl rfl Tryd.isAgg26 Tryd.sizeOf26 rfl rfl⟩) (ak (fun γ => ⟨rfl, fun w' h => ex_loadA (i := 0) (k := 2) h 1 rfl rfl rfl Tryd.isAgg26 Tryd.sizeOf26 rfl rfl⟩) (ak (fun γ => ⟨rfl, fun w' h => ⟨7, #[V [y0, y1], V [x0, x1]], exec_call rfl call7 rfl (mpn rfl), C2.out w'⟩⟩) (ak (fun γ => ⟨rfl, fun w' _ => exec_neqE2 e_ab rfl rfl rfl⟩) (ak (fun _ => ⟨rfl, fun _ _ => rfl⟩) (ak (fun γ => ⟨rfl, fun w' h => ex_loadA (i := 0) (k := 2) h 0 rfl rfl rfl Tryd.isAgg26 Tryd.sizeOf26 rfl rfl⟩) (ak (fun γ => ⟨rfl, fun w' h => ex_loadA (i := 0) (k := 2) h 3 rfl rfl rfl Tryd.isAgg26 Tryd.sizeOf26 rfl rfl⟩) (ak (fun γ => ⟨rfl, fun w' h => ⟨7, #[V [ab0, ab1], V [z0, z1]], exec_call rfl call7 rfl (mpn rfl), C3.out w'⟩⟩) (ak (fun γ => ⟨rfl, fun w' h => ex_loadA (i := 0) (k := 2) h 1 rfl rfl rfl Tryd.isAgg26 Tryd.sizeOf26 rfl rfl⟩) (ak (fun γ => ⟨rfl, fun w' h => ex_loadA (i := 0) (k := 2) h 2 rfl rfl rfl Tryd.isAgg26 Tryd.sizeOf26 rfl rfl⟩) (ak (fun γ => ⟨rfl, fun w' h => ex_loadA (i := 0) (k := 2) h 3 rfl rfl rfl Tryd.isAgg26 Tryd.sizeOf26 rfl rfl⟩) (ak (fun γ => ⟨rfl, fun w' h => ⟨7, #[V [y0, y1], V [z0, z1]], exec_call rfl call7 rfl (mpn rfl), C4.out w'⟩⟩) (ak (fun γ => ⟨rfl, fun w' h => ⟨7, #[V [x0, x1], V [bc0, bc1]], exec_call rfl call7 rfl (mpn rfl), C5.out w'⟩⟩) (ak (fun γ => ⟨rfl, fun w' _ => exec_neqE2 e_m rfl rfl rfl⟩) (ak (by refine fun γ => ⟨rfl, fun w' h => ?_⟩; clear h; go_simp) (ak (fun _ => ⟨rfl, fun _ _ => rfl⟩) (ak (fun γ => ⟨rfl, fun w' h => ex_loadA (i := 0) (k := 2) h 1 rfl rfl rfl Tryd.isAgg26 Tryd.sizeOf26 rfl rfl⟩) (ak (fun γ => ⟨rfl, fun w' h => ex_loadA (i := 0) (k := 2) h 2 rfl rfl rfl Tryd.isAgg26 Tryd.sizeOf26 rfl rfl⟩) (ak (fun γ => ⟨rfl, fun w' h => ⟨8, #[V [x0, x1], V [y0, y1]], exec_call rfl call8 rfl (mpn rfl), C6.out w'⟩⟩) (ak (fun γ => ⟨rfl, fun w' h => ex_loadA (i := 0) (k := 2) h 3 rfl rfl rfl Tryd.isAgg26 Tryd.sizeOf26 rfl rfl⟩) (ak (fun γ => ⟨rfl, fun w' h => ⟨7, #[V [su0, su1], V [z0, z1]], exec_call rfl call7 rfl (mpn rfl), C7.out w'⟩⟩) (ak (fun γ => ⟨rfl, fun w' h => ex_loadA (i := 0) (k := 2) h 1 rfl rfl rfl Tryd.isAgg26 Tryd.sizeOf26 rfl rfl⟩) (ak (fun γ => ⟨rfl, fun w' h => ex_loadA (i := 0) (k := 2) h 3 rfl rfl rfl Tryd.isAgg26 Tryd.sizeOf26 rfl rfl⟩) (ak (fun γ => ⟨rfl, fun w' h => ⟨7, #[V [x0, x1], V [z0, z1]], exec_call rfl call7 rfl (mpn rfl), C8.out w'⟩⟩) (ak (fun γ => ⟨rfl, fun w' h => ex_loadA (i := 0) (k := 2) h 2 rfl rfl rfl Tryd.isAgg26 Tryd.sizeOf26 rfl rfl⟩) (ak (fun γ => ⟨rfl, fun w' h => ex_loadA (i := 0) (k := 2) h 3 rfl rfl rfl Tryd.isAgg26 Tryd.sizeOf26 rfl rfl⟩) (ak (fun γ => ⟨rfl, fun w' h => ⟨7, #[V [y0, y1], V [z0, z1]], exec_call rfl call7 rfl (mpn rfl), C4.out w'⟩⟩) (ak (fun γ => ⟨rfl, fun w' h => ⟨8, #[V [ac0, ac1], V [bc0, bc1]], exec_call rfl call8 rfl (mpn rfl), C9.out w'⟩⟩) (ak (fun γ => ⟨rfl, fun w' _ => exec_neqE2 e_d rfl rfl rfl⟩) (ak (by refine fun γ => ⟨rfl, fun w' h => ?_⟩; clear h; go_simp) (ak (fun _ => ⟨rfl, fun _ _ => rfl⟩) (ak (fun γ => ⟨rfl, fun w' h => ex_loadA (i := 0) (k := 2) h 1 rfl rfl rfl Tryd.isAgg26 Tryd.sizeOf26 rfl rfl⟩) (ak (fun γ => ⟨rfl, fun w' h => ex_loadA (i := 0) (k := 2) h 2 rfl rfl rfl Tryd.isAgg26 Tryd.sizeOf26 rfl rfl⟩) (ak (fun γ => ⟨rfl, fun w' h => ⟨9, #[V [x0, x1], V [y0, y1]], exec_call rfl call9 rfl (mpn rfl), C10.out w'⟩⟩) (ak (fun γ => ⟨rfl, fun w' h => ex_loadA (i := 0) (k := 2) h 2 rfl rfl rfl Tryd.isAgg26 Tryd.sizeOf26 rfl rfl⟩) (ak (fun γ => ⟨rfl, fun w' h => ⟨8, #[V [sb0, sb1], V [y0, y1]], exec_call rfl call8 rfl (mpn rfl), C11.out w'⟩⟩) (ak (fun γ => ⟨rfl, fun w' h => ex_loadA (i := 0) (k := 2) h 1 rfl rfl rfl Tryd.isAgg26 Tryd.sizeOf26 rfl rfl⟩) (ak (fun γ => ⟨rfl, fun w' _ => ex_buildE2z rfl⟩) (ak (fun γ => ⟨rfl, fun w' h => ⟨8, #[V [x0, x1], V [0, 0]], exec_call rfl call8 rfl (mpn rfl), C12.out w'⟩⟩) (ak (fun γ => ⟨rfl, fun w' _ => exec_neqE2 e_ra rfl rfl rfl⟩) (ak (by refine fun γ => ⟨rfl, fun w' h => ?_⟩; clear h; go_simp) trivial)))))))))))))))))))))))))))))))))))))))))
  intro _ w4 H4
  clear H3
  refine rest0 rfl (then_normal (wp_cond_false rfl ?_))
  refine wp_skip (then_normal (wp_seq ?_))
  refine walk_seqA 8 [.quiet (V [x0, x1]), .call (.tuple #[V [ix0, ix1], .int .i64 0]), .quiet (.tuple #[V [ix0, ix1], .int .i64 0]), .quiet (V [ix0, ix1]), .quiet (.int .i64 0), .made (cel [0, 0]) 26, .laid 5 (cel [0, 0]) (cel [ix0, ix1]), .quiet (.int .i64 0)] (sB H4) ?ho5 ?he5 (hL := ?hL5)
  case hL5 => exact ⟨⟨_, rfl⟩, trivial⟩
  case ho5 => exact ak (fun γ => ⟨rfl, fun w' h => ex_loadA (i := 0) (k := 2) h 1 rfl rfl rfl Tryd.isAgg26 Tryd.sizeOf26 rfl rfl⟩) (ak (fun γ => ⟨rfl, fun w' h => ⟨10, #[V [x0, x1]], exec_call rfl call10 rfl (mpn rfl), C18.out w' (h.one 4 rfl)⟩⟩) (ak (fun _ => ⟨rfl, fun _ _ => rfl⟩) (ak (by refine fun γ => ⟨rfl, fun w' h => ?_⟩; clear h; go_simp) (ak (by refine fun γ => ⟨rfl, fun w' h => ?_⟩; clear h; go_simp) (ak (fun γ => ⟨rfl, fun w' => ex_madeE2 rfl⟩) (ak (fun γ => ⟨rfl, rfl, rfl, fun w' h => ex_laidA h rfl Tryd.sizeOf26 rfl rfl rfl⟩) (ak (fun _ => ⟨rfl, fun _ _ => rfl⟩) trivial)))))))
  intro γ w5 l hM hl
  have H5 : Hid (Mm w5 [(γ 5, cel [ix0, ix1]), (γ3_3, cel [ab0, ab1]), (γ1_0, cel [x0, x1]), (γ1_1, cel [y0, y1]), (γ1_2, cel [z0, z1]), (0, dtab)] ∧ _) := growB H4 hM (Nat.le_refl _) hl [5] rfl (by decide)
  have o5_5 := ownB H4 hM (Nat.le_refl _) hl (i := 5) rfl
  clear hM hl l H4
  generalize γ 5 = γ5_5 at H5 o5_5 ⊢
  clear γ
  refine rest0 rfl (then_normal (wp_seq ?_))
  refine walk_seqB 6 [.quiet (V [x0, x1]), .quiet (V [0, 0]), .call (V [ra0, ra1]), .quiet (V [0, 0]), .quiet (.bool false), .quiet (.bool false)] H5 ?ho6 ?he6
  case ho6 => exact ak (fun γ => ⟨rfl, fun w' h => ex_loadA (i := 0) (k := 2) h 2 rfl rfl rfl Tryd.isAgg26 Tryd.sizeOf26 rfl rfl⟩) (ak (fun γ => ⟨rfl, fun w' _ => ex_buildE2z rfl⟩) (ak (fun γ => ⟨rfl, fun w' h => ⟨8, #[V [x0, x1], V [0, 0]], exec_call rfl call8 rfl (mpn rfl), C12.out w'⟩⟩) (ak (fun γ => ⟨rfl, fun w' _ => ex_buildE2z rfl⟩) (ak (fun γ => ⟨rfl, fun w' _ => exec_eqE2 e_n rfl rfl rfl⟩) (ak (fun _ => ⟨rfl, fun _ _ => rfl⟩) trivial)))))
  intro _ w6 H6
  clear H5
  refine rest0 rfl (then_normal (wp_seq ?_))
  refine walk_anyB 18 [.quiet (V [ab0, ab1]), .call (V [cb0, cb1]), .quiet (V [x0, x1]), .call (V [cx0, cx1]), .quiet (V [y0, y1]), .call (V [cy0, cy1]), .call (V [cb0, cb1]), .quiet (.bool true), .quiet (.bool true), .quiet (V [x0, x1]), .call (V [cx0, cx1]), .call (V [ra0, ra1]), .quiet (V [x0, x1]), .quiet (V [0, 0]), .call (V [ra0, ra1]), .quiet (.bool true), .quiet (.bool true), .quiet (.bool true)] H6 ?ho7 ?he7
  case ho7 => exact ak (fun γ => ⟨rfl, fun w' h => ex_loadA (i := 0) (k := 2) h 1 rfl rfl rfl Tryd.isAgg26 Tryd.sizeOf26 rfl rfl⟩) (ak (fun γ => ⟨rfl, fun w' h => ⟨11, #[V [ab0, ab1]], exec_call rfl call11 rfl (mpn rfl), C13.out w'⟩⟩) (ak (fun γ => ⟨rfl, fun w' h => ex_loadA (i := 0) (k := 2) h 2 rfl rfl rfl Tryd.isAgg26 Tryd.sizeOf26 rfl rfl⟩) (ak (fun γ => ⟨rfl, fun w' h => ⟨11, #[V [x0, x1]], exec_call rfl call11 rfl (mpn rfl), C14.out w'⟩⟩) (ak (fun γ => ⟨rfl, fun w' h => ex_loadA (i := 0) (k := 2) h 3 rfl rfl rfl Tryd.isAgg26 Tryd.sizeOf26 rfl rfl⟩) (ak (fun γ => ⟨rfl, fun w' h => ⟨11, #[V [y0, y1]], exec_call rfl call11 rfl (mpn rfl), C15.out w'⟩⟩) (ak (fun γ => ⟨rfl, fun w' h => ⟨7, #[V [cx0, cx1], V [cy0, cy1]], exec_call rfl call7 rfl (mpn rfl), C16.out w'⟩⟩) (ak (fun γ => ⟨rfl, fun w' _ => exec_eqE2 e_cb rfl rfl rfl⟩) (ak (fun _ => ⟨rfl, fun _ _ => rfl⟩) (ak (fun γ => ⟨rfl, fun w' h => ex_loadA (i := 0) (k := 2) h 2 rfl rfl rfl Tryd.isAgg26 Tryd.sizeOf26 rfl rfl⟩) (ak (fun γ => ⟨rfl, fun w' h => ⟨11, #[V [x0, x1]], exec_call rfl call11 rfl (mpn rfl), C14.out w'⟩⟩) (ak (fun γ => ⟨rfl, fun w' h => ⟨11, #[V [cx0, cx1]], exec_call rfl call11 rfl (mpn rfl), C17.out w'⟩⟩) (ak (fun γ => ⟨rfl, fun w' h => ex_loadA (i := 0) (k := 2) h 2 rfl rfl rfl Tryd.isAgg26 Tryd.sizeOf26 rfl rfl⟩) (ak (fun γ => ⟨rfl, fun w' _ => ex_buildE2z rfl⟩) (ak (fun γ => ⟨rfl, fun w' h => ⟨8, #[V [x0, x1], V [0, 0]], exec_call rfl call8 rfl (mpn rfl), C12.out w'⟩⟩) (ak (fun γ => ⟨rfl, fun w' _ => exec_eqE2 e_ra rfl rfl rfl⟩) (ak (by refine fun γ => ⟨rfl, fun w' h => ?_⟩; clear h; go_simp) (ak (fun _ => ⟨rfl, fun _ _ => rfl⟩) trivial)))))))))))))))))
  intro _ w7 H7
  clear H6
  refine rest0 rfl (then_normal (wp_seq ?_))
  refine walk_seqB 22 [.quiet (.bool true), .quiet (.bool true), .quiet (.bool true), .quiet (.bool true), .quiet (.bool true), .quiet (.int .i64 0), .quiet (.bool false), .quiet (.bool false), .quiet (.bool true), .quiet (.bool true), .quiet (.bool true), .quiet (.int .i64 0), .quiet (.bool false), .quiet (.bool false), .quiet (V [ix0, ix1]), .quiet (V [x0, x1]), .call (V [k1, 0]), .call (V [k1, 0]), .quiet (.bool true), .quiet (.bool true), .quiet (.bool true), .quiet (.bool true)] H7 ?ho8 ?he8
  case ho8 => exact ak (fun _ => ⟨rfl, fun _ _ => rfl⟩) (ak (fun _ => ⟨rfl, fun _ _ => rfl⟩) (ak (fun _ => ⟨rfl, fun _ _ => rfl⟩) (ak (by refine fun γ => ⟨rfl, fun w' h => ?_⟩; clear h; go_simp) (ak (fun _ => ⟨rfl, fun _ _ => rfl⟩) (ak (fun _ => ⟨rfl, fun _ _ => rfl⟩) (ak (by refine fun γ => ⟨rfl, fun w' h => ?_⟩; clear h; go_simp) (ak (fun _ => ⟨rfl, fun _ _ => rfl⟩) (ak (by refine fun γ => ⟨rfl, fun w' h => ?_⟩; clear h; go_simp) (ak (by refine fun γ => ⟨rfl, fun w' h => ?_⟩; clear h; go_simp) (ak (fun _ => ⟨rfl, fun _ _ => rfl⟩) (ak (fun _ => ⟨rfl, fun _ _ => rfl⟩) (ak (by refine fun γ => ⟨rfl, fun w' h => ?_⟩; clear h; go_simp) (ak (fun _ => ⟨rfl, fun _ _ => rfl⟩) (ak (fun γ => ⟨rfl, fun w' h => ex_loadA (i := 0) (k := 2) h 0 rfl rfl rfl Tryd.isAgg26 Tryd.sizeOf26 rfl rfl⟩) (ak (fun γ => ⟨rfl, fun w' h => ex_loadA (i := 0) (k := 2) h 2 rfl rfl rfl Tryd.isAgg26 Tryd.sizeOf26 rfl rfl⟩) (ak (fun γ => ⟨rfl, fun w' h => ⟨7, #[V [ix0, ix1], V [x0, x1]], exec_call rfl call7 rfl (mpn rfl), C19.out w'⟩⟩) (ak (fun γ => ⟨rfl, fun w' h => ⟨12, #[.int .u64 1, .int .u64 0], exec_call rfl call12 rfl (mpn rfl), C20.out w'⟩⟩) (ak (fun γ => ⟨rfl, fun w' _ => exec_eqE2 e_k rfl rfl rfl⟩) (ak (by refine fun γ => ⟨rfl, fun w' h => ?_⟩; clear h; go_simp) (ak (by refine fun γ => ⟨rfl, fun w' h => ?_⟩; clear h; go_simp) (ak (fun _ => ⟨rfl, fun _ _ => rfl⟩) trivial)))))))))))))))))))))
  intro _ w8 H8
  clear H7
  refine rest0 rfl (then_normal (wp_ret ?_))
  repeat (first | refine then_ret ?_ | refine block_ret ?_)
  refine bodyPost_ret (v := .bool true) (by simp [results, Tryd.results3, go_sem, *]) rfl ?_
  exact ⟨rfl, H8.out.2⟩
set_option maxHeartbeats 8000000 in
set_option maxRecDepth 100000 in
theorem field2_no (x0 x1 y0 y1 z0 z1 ab0 ab1 m0 m1 bc0 bc1 su0 su1 d0 d1 ac0 ac1 sb0 sb1 cb0 cb1 cx0 cx1 cy0 cy1 : Nat)
    (e_ab : ∀ w, (Op.equalIn 10000 26 (V [ab0, ab1]) (V [ab0, ab1])).run Tryd.prog w = .ok true w) (e_m : ∀ w, (Op.equalIn 10000 26 (V [m0, m1]) (V [m0, m1])).run Tryd.prog w = .ok true w) (e_d : ∀ w, (Op.equalIn 10000 26 (V [d0, d1]) (V [d0, d1])).run Tryd.prog w = .ok true w) (e_cb : ∀ w, (Op.equalIn 10000 26 (V [cb0, cb1]) (V [cb0, cb1])).run Tryd.prog w = .ok true w) (e_z : ∀ w, (Op.equalIn 10000 26 (V [0, 0]) (V [0, 0])).run Tryd.prog w = .ok true w)
    (c0 : ∀ w, Mm w [(0, dtab)] → Calls Tryd.prog 6 #[] w fun e w' => e = .returned (.bool true) ∧ Below w.heap.size w w')
    (c1 : ∀ w, Calls Tryd.prog 7 #[V [x0, x1], V [y0, y1]] w fun e w' => e = .returned (V [ab0, ab1]) ∧ Below w.heap.size w w')
    (c2 : ∀ w, Calls Tryd.prog 7 #[V [y0, y1], V [x0, x1]] w fun e w' => e = .returned (V [ab0, ab1]) ∧ Below w.heap.size w w')
    (c3 : ∀ w, Calls Tryd.prog 7 #[V [ab0, ab1], V [z0, z1]] w fun e w' => e = .returned (V [m0, m1]) ∧ Below w.heap.size w w')
    (c4 : ∀ w, Calls Tryd.prog 7 #[V [y0, y1], V [z0, z1]] w fun e w' => e = .returned (V [bc0, bc1]) ∧ Below w.heap.size w w')
    (c5 : ∀ w, Calls Tryd.prog 7 #[V [x0, x1], V [bc0, bc1]] w fun e w' => e = .returned (V [m0, m1]) ∧ Below w.heap.size w w')
    (c6 : ∀ w, Calls Tryd.prog 8 #[V [x0, x1], V [y0, y1]] w fun e w' => e = .returned (V [su0, su1]) ∧ Below w.heap.size w w')
    (c7 : ∀ w, Calls Tryd.prog 7 #[V [su0, su1], V [z0, z1]] w fun e w' => e = .returned (V [d0, d1]) ∧ Below w.heap.size w w')
    (c8 : ∀ w, Calls Tryd.prog 7 #[V [x0, x1], V [z0, z1]] w fun e w' => e = .returned (V [ac0, ac1]) ∧ Below w.heap.size w w')
    (c9 : ∀ w, Calls Tryd.prog 8 #[V [ac0, ac1], V [bc0, bc1]] w fun e w' => e = .returned (V [d0, d1]) ∧ Below w.heap.size w w')
    (c10 : ∀ w, Calls Tryd.prog 9 #[V [x0, x1], V [y0, y1]] w fun e w' => e = .returned (V [sb0, sb1]) ∧ Below w.heap.size w w')
    (c11 : ∀ w, Calls Tryd.prog 8 #[V [sb0, sb1], V [y0, y1]] w fun e w' => e = .returned (V [0, 0]) ∧ Below w.heap.size w w')
    (c12 : ∀ w, Calls Tryd.prog 8 #[V [x0, x1], V [0, 0]] w fun e w' => e = .returned (V [0, 0]) ∧ Below w.heap.size w w')
    (c13 : ∀ w, Calls Tryd.prog 11 #[V [ab0, ab1]] w fun e w' => e = .returned (V [cb0, cb1]) ∧ Below w.heap.size w w')
    (c14 : ∀ w, Calls Tryd.prog 11 #[V [x0, x1]] w fun e w' => e = .returned (V [cx0, cx1]) ∧ Below w.heap.size w w')
    (c15 : ∀ w, Calls Tryd.prog 11 #[V [y0, y1]] w fun e w' => e = .returned (V [cy0, cy1]) ∧ Below w.heap.size w w')
    (c16 : ∀ w, Calls Tryd.prog 7 #[V [cx0, cx1], V [cy0, cy1]] w fun e w' => e = .returned (V [cb0, cb1]) ∧ Below w.heap.size w w')
    (c17 : ∀ w, Calls Tryd.prog 11 #[V [cx0, cx1]] w fun e w' => e = .returned (V [0, 0]) ∧ Below w.heap.size w w')
    (c18 : ∀ w, Mm w [(0, dtab)] → Calls Tryd.prog 10 #[V [x0, x1]] w fun e w' => e = .returned (.tuple #[V [0, 0], .int .i64 6]) ∧ Below w.heap.size w w') (w : World) (hm : Mm w [(0, dtab)]) :
    Calls Tryd.prog 3 #[V [x0, x1], V [y0, y1], V [z0, z1]] w fun e w' => e = .returned (.bool true) ∧ Below w.heap.size w w' := by
  have H0 : Hid (_ ∧ _) := ⟨hm, Below.refl w.heap.size w⟩
  clear hm
  have C0 : Hid _ := c0
  have C1 : Hid _ := c1
  have C2 : Hid _ := c2
  have C3 : Hid _ := c3
  have C4 : Hid _ := c4
  have C5 : Hid _ := c5
  have C6 : Hid _ := c6
  have C7 : Hid _ := c7
  have C8 : Hid _ := c8
  have C9 : Hid _ := c9
  have C10 : Hid _ := c10
  have C11 : Hid _ := c11
  have C12 : Hid _ := c12
  have C13 : Hid _ := c13
  have C14 : Hid _ := c14
  have C15 : Hid _ := c15
  have C16 : Hid _ := c16
  have C17 : Hid _ := c17
  have C18 : Hid _ := c18
  clear c0 c1 c2 c3 c4 c5 c6 c7 c8 c9 c10 c11 c12 c13 c14 c15 c16 c17 c18
  go_enter Tryd.func3, Tryd.ntmps3
  refine wp_seq ?_
  refine walk_seqA 4 [.made (cel [x0, x1]) 26, .made (cel [y0, y1]) 26, .made (cel [z0, z1]) 26, .quiet (.bool false)] (sB H0) ?ho1 ?he1
  case ho1 => exact ak (fun γ => ⟨rfl, fun w' => ex_boxA rfl rfl⟩) (ak (fun γ => ⟨rfl, fun w' => ex_boxA rfl rfl⟩) (ak (fun γ => ⟨rfl, fun w' => ex_boxA rfl rfl⟩) (ak (fun _ => ⟨rfl, fun _ _ => rfl⟩) trivial)))
  intro γ w1 l hM hl
  have H1 : Hid (Mm w1 [(γ 0, cel [x0, x1]), (γ 1, cel [y0, y1]), (γ 2, cel [z0, z1]), (0, dtab)] ∧ _) := growB H0 hM (Nat.le_refl _) hl [0, 1, 2] rfl (by decide)
  have o1_0 := ownB H0 hM (Nat.le_refl _) hl (i := 0) rfl
  have o1_1 := ownB H0 hM (Nat.le_refl _) hl (i := 1) rfl
  have o1_2 := ownB H0 hM (Nat.le_refl _) hl (i := 2) rfl
  clear hM hl l
  generalize γ 0 = γ1_0 at H1 o1_0 ⊢
  generalize γ 1 = γ1_1 at H1 o1_1 ⊢
  generalize γ 2 = γ1_2 at H1 o1_2 ⊢
  clear γ
  refine rest0 rfl (then_normal (wp_seq ?_))
  refine walk_seqB 2 [.call (.bool true), .quiet (.bool true)] H1 ?ho2 ?he2
  case ho2 => exact ak (fun γ => ⟨rfl, fun w' h => ⟨6, #[], exec_call rfl call6 rfl (mpn rfl), C0.out w' (h.one 3 rfl)⟩⟩) (ak (fun _ => ⟨rfl, fun _ _ => rfl⟩) trivial)
  intro _ w2 H2
  clear H1
  refine rest0 rfl (then_normal (wp_seq ?_))
  refine walk_seqA 5 [.quiet (V [x0, x1]), .quiet (V [y0, y1]), .call (V [ab0, ab1]), .made (cel [0, 0]) 26, .laid 3 (cel [0, 0]) (cel [ab0, ab1])] (sB H2) ?ho3 ?he3 (hL := ?hL3)
  case hL3 => exact ⟨⟨_, rfl⟩, trivial⟩
  case ho3 => exact ak (fun γ => ⟨rfl, fun w' h => ex_loadA (i := 0) (k := 2) h 0 rfl rfl rfl Tryd.isAgg26 Tryd.sizeOf26 rfl rfl⟩) (ak (fun γ => ⟨rfl, fun w' h => ex_loadA (i := 0) (k := 2) h 1 rfl rfl rfl Tryd.isAgg26 Tryd.sizeOf26 rfl rfl⟩) (ak (fun γ => ⟨rfl, fun w' h => ⟨7, #[V [x0, x1], V [y0, y1]], exec_call rfl call7 rfl (mpn rfl), C1.out w'⟩⟩) (ak (fun γ => ⟨rfl, fun w' => ex_madeE2 rfl⟩) (ak (fun γ => ⟨rfl, rfl, rfl, fun w' h => ex_laidA h rfl Tryd.sizeOf26 rfl rfl rfl⟩) trivial))))
  intro γ w3 l hM hl
  have H3 : Hid (Mm w3 [(γ 3, cel [ab0, ab1]), (γ1_0, cel [x0, x1]), (γ1_1, cel [y0, y1]), (γ1_2, cel [z0, z1]), (0, dtab)] ∧ _) := growB H2 hM (Nat.le_refl _) hl [3] rfl (by decide)
  have o3_3 := ownB H2 hM (Nat.le_refl _) hl (i := 3) rfl
  clear hM hl l H2
  generalize γ 3 = γ3_3 at H3 o3_3 ⊢
  clear γ
  refine rest0 rfl (then_normal (wp_seq (wp_seq ?_)))
  refine walk_anyB 42 [.quiet (V [ab0, ab1]), .quiet (V [y0, y1]), .quiet (V [x0, x1]), .call (V [ab0, ab1]), .quiet (.bool false), .quiet (.bool false), .quiet (V [ab0, ab1]), .quiet (V [z0, z1]), .call (V [m0, m1]), .quiet (V [x0, x1]), .quiet (V [y0, y1]), .quiet (V [z0, z1]), .call (V [bc0, bc1]), .call (V [m0, m1]), .quiet (.bool false), .quiet (.bool false), .quiet (.bool false), .quiet (V [x0, x1]), .quiet (V [y0, y1]), .call (V [su0, su1]), .quiet (V [z0, z1]), .call (V [d0, d1]), .quiet (V [x0, x1]), .quiet (V [z0, z1]), .call (V [ac0, ac1]), .quiet (V [y0, y1]), .quiet (V [z0, z1]), .call (V [bc0, bc1]), .call (V [d0, d1]), .quiet (.bool false), .quiet (.bool false), .quiet (.bool false), .quiet (V [x0, x1]), .quiet (V [y0, y1]), .call (V [sb0, sb1]), .quiet (V [y0, y1]), .call (V [0, 0]), .quiet (V [x0, x1]), .quiet (V [0, 0]), .call (V [0, 0]), .quiet (.bool false), .quiet (.bool false)] H3 ?ho4 ?he4 (hL := ?hL4)
  case hL4 => exact trivial
  case ho4 => exact ak (fun γ => ⟨rfl, fun w' h => ex_loadA (i := 0) (k := 2) h 0 rfl rfl rfl Tryd.isAgg26 Tryd.sizeOf26 rfl rfl⟩) (ak (fun γ => ⟨rfl, fun w' h => ex_loadA (i := 0) (k := 2) h 2 rfl rfl rfl Tryd.isAgg26 Tryd.sizeOf26 rfl rfl⟩) (ak (fun γ => ⟨rfl, fun w' h => ex_loadA (i := 0) (k := 2) h 1 rfl rfl rfl Tryd.isAgg26 Tryd.sizeOf26 rfl rfl⟩) (ak (fun γ => ⟨rfl, fun w' h => ⟨7, #[V [y0, y1], V [x0, x1]], exec_call rfl call7 rfl (mpn rfl), C2.out w'⟩⟩) (ak (fun γ => ⟨rfl, fun w' _ => exec_neqE2 e_ab rfl rfl rfl⟩) (ak (fun _ => ⟨rfl, fun _ _ => rfl⟩) (ak (fun γ => ⟨rfl, fun w' h => ex_loadA (i := 0) (k := 2) h 0 rfl rfl rfl Tryd.isAgg26 Tryd.sizeOf26 rfl rfl⟩) (ak (fun γ => ⟨rfl, fun w' h => ex_loadA (i := 0) (k := 2) h 3 rfl rfl rfl Tryd.isAgg26 Tryd.sizeOf26 rfl rfl⟩) (ak (fun γ => ⟨rfl, fun w' h => ⟨7, #[V [ab0, ab1], V [z0, z1]], exec_call rfl call7 rfl (mpn rfl), C3.out w'⟩⟩) (ak (fun γ => ⟨rfl, fun w' h => ex_loadA (i := 0) (k := 2) h 1 rfl rfl rfl Tryd.isAgg26 Tryd.sizeOf26 rfl rfl⟩) (ak (fun γ => ⟨rfl, fun w' h => ex_loadA (i := 0) (k := 2) h 2 rfl rfl rfl Tryd.isAgg26 Tryd.sizeOf26 rfl rfl⟩) (ak (fun γ => ⟨rfl, fun w' h => ex_loadA (i := 0) (k := 2) h 3 rfl rfl rfl Tryd.isAgg26 Tryd.sizeOf26 rfl rfl⟩) (ak (fun γ => ⟨rfl, fun w' h => ⟨7, #[V [y0, y1], V [z0, z1]], exec_call rfl call7 rfl (mpn rfl), C4.out w'⟩⟩) (ak (fun γ => ⟨rfl, fun w' h => ⟨7, #[V [x0, x1], V [bc0, bc1]], exec_call rfl call7 rfl (mpn rfl), C5.out w'⟩⟩) (ak (fun γ => ⟨rfl, fun w' _ => exec_neqE2 e_m rfl rfl rfl⟩) (ak (by refine fun γ => ⟨rfl, fun w' h => ?_⟩; clear h; go_simp) (ak (fun _ => ⟨rfl, fun _ _ => rfl⟩) (ak (fun γ => ⟨rfl, fun w' h => ex_loadA (i := 0) (k := 2) h 1 rfl rfl rfl Tryd.isAgg26 Tryd.sizeOf26 rfl rfl⟩) (ak (fun γ => ⟨rfl, fun w' h => ex_loadA (i := 0) (k := 2) h 2 rfl rfl rfl Tryd.isAgg26 Tryd.sizeOf26 rfl rfl⟩) (ak (fun γ => ⟨rfl, fun w' h => ⟨8, #[V [x0, x1], V [y0, y1]], exec_call rfl call8 rfl (mpn rfl), C6.out w'⟩⟩) (ak (fun γ => ⟨rfl, fun w' h => ex_loadA (i := 0) (k := 2) h 3 rfl rfl rfl Tryd.isAgg26 Tryd.sizeOf26 rfl rfl⟩) (ak (fun γ => ⟨rfl, fun w' h => ⟨7, #[V [su0, su1], V [z0, z1]], exec_call rfl call7 rfl (mpn rfl), C7.out w'⟩⟩) (ak (fun γ => ⟨rfl, fun w' h => ex_loadA (i := 0) (k := 2) h 1 rfl rfl rfl Tryd.isAgg26 Tryd.sizeOf26 rfl rfl⟩) (ak (fun γ => ⟨rfl, fun w' h => ex_loadA (i := 0) (k := 2) h 3 rfl rfl rfl Tryd.isAgg26 Tryd.sizeOf26 rfl rfl⟩) (ak (fun γ => ⟨rfl, fun w' h => ⟨7, #[V [x0, x1], V [z0, z1]], exec_call rfl call7 rfl (mpn rfl), C8.out w'⟩⟩) (ak (fun γ => ⟨rfl, fun w' h => ex_loadA (i := 0) (k := 2) h 2 rfl rfl rfl Tryd.isAgg26 Tryd.sizeOf26 rfl rfl⟩) (ak (fun γ => ⟨rfl, fun w' h => ex_loadA (i := 0) (k := 2) h 3 rfl rfl rfl Tryd.isAgg26 Tryd.sizeOf26 rfl rfl⟩) (ak (fun γ => ⟨rfl, fun w' h => ⟨7, #[V [y0, y1], V [z0, z1]], exec_call rfl call7 rfl (mpn rfl), C4.out w'⟩⟩) (ak (fun γ => ⟨rfl, fun w' h => ⟨8, #[V [ac0, ac1], V [bc0, bc1]], exec_call rfl call8 rfl (mpn rfl), C9.out w'⟩⟩) (ak (fun γ => ⟨rfl, fun w' _ => exec_neqE2 e_d rfl rfl rfl⟩) (ak (by refine fun γ => ⟨rfl, fun w' h => ?_⟩; clear h; go_simp) (ak (fun _ => ⟨rfl, fun _ _ => rfl⟩) (ak (fun γ => ⟨rfl, fun w' h => ex_loadA (i := 0) (k := 2) h 1 rfl rfl rfl Tryd.isAgg26 Tryd.sizeOf26 rfl rfl⟩) (ak (fun γ => ⟨rfl, fun w' h => ex_loadA (i := 0) (k := 2) h 2 rfl rfl rfl Tryd.isAgg26 Tryd.sizeOf26 rfl rfl⟩) (ak (fun γ => ⟨rfl, fun w' h => ⟨9, #[V [x0, x1], V [y0, y1]], exec_call rfl call9 rfl (mpn rfl), C10.out w'⟩⟩) (ak (fun γ => ⟨rfl, fun w' h => ex_loadA (i := 0) (k := 2) h 2 rfl rfl rfl Tryd.isAgg26 Tryd.sizeOf26 rfl rfl⟩) (ak (fun γ => ⟨rfl, fun w' h => ⟨8, #[V [sb0, sb1], V [y0, y1]], exec_call rfl call8 rfl (mpn rfl), C11.out w'⟩⟩) (ak (fun γ => ⟨rfl, fun w' h => ex_loadA (i := 0) (k := 2) h 1 rfl rfl rfl Tryd.isAgg26 Tryd.sizeOf26 rfl rfl⟩) (ak (fun γ => ⟨rfl, fun w' _ => ex_buildE2z rfl⟩) (ak (fun γ => ⟨rfl, fun w' h => ⟨8, #[V [x0, x1], V [0, 0]], exec_call rfl call8 rfl (mpn rfl), C12.out w'⟩⟩) (ak (fun γ => ⟨rfl, fun w' _ => exec_neqE2 e_z rfl rfl rfl⟩) (ak (by refine fun γ => ⟨rfl, fun w' h => ?_⟩; clear h; go_simp) trivial)))))))))))))))))))))))))))))))))))))))))
  intro _ w4 H4
  clear H3
  refine rest0 rfl (then_normal (wp_cond_false rfl ?_))
  refine wp_skip (then_normal (wp_seq ?_))
  refine walk_seqA 8 [.quiet (V [x0, x1]), .call (.tuple #[V [0, 0], .int .i64 6]), .quiet (.tuple #[V [0, 0], .int .i64 6]), .quiet (V [0, 0]), .quiet (.int .i64 6), .made (cel [0, 0]) 26, .laid 5 (cel [0, 0]) (cel [0, 0]), .quiet (.int .i64 6)] (sB H4) ?ho5 ?he5 (hL := ?hL5)
  case hL5 => exact ⟨⟨_, rfl⟩, trivial⟩
  case ho5 => exact ak (fun γ => ⟨rfl, fun w' h => ex_loadA (i := 0) (k := 2) h 1 rfl rfl rfl Tryd.isAgg26 Tryd.sizeOf26 rfl rfl⟩) (ak (fun γ => ⟨rfl, fun w' h => ⟨10, #[V [x0, x1]], exec_call rfl call10 rfl (mpn rfl), C18.out w' (h.one 4 rfl)⟩⟩) (ak (fun _ => ⟨rfl, fun _ _ => rfl⟩) (ak (by refine fun γ => ⟨rfl, fun w' h => ?_⟩; clear h; go_simp) (ak (by refine fun γ => ⟨rfl, fun w' h => ?_⟩; clear h; go_simp) (ak (fun γ => ⟨rfl, fun w' => ex_madeE2 rfl⟩) (ak (fun γ => ⟨rfl, rfl, rfl, fun w' h => ex_laidA h rfl Tryd.sizeOf26 rfl rfl rfl⟩) (ak (fun _ => ⟨rfl, fun _ _ => rfl⟩) trivial)))))))
  intro γ w5 l hM hl
  have H5 : Hid (Mm w5 [(γ 5, cel [0, 0]), (γ3_3, cel [ab0, ab1]), (γ1_0, cel [x0, x1]), (γ1_1, cel [y0, y1]), (γ1_2, cel [z0, z1]), (0, dtab)] ∧ _) := growB H4 hM (Nat.le_refl _) hl [5] rfl (by decide)
  have o5_5 := ownB H4 hM (Nat.le_refl _) hl (i := 5) rfl
  clear hM hl l H4
  generalize γ 5 = γ5_5 at H5 o5_5 ⊢
  clear γ
  refine rest0 rfl (then_normal (wp_seq ?_))
  refine walk_seqB 6 [.quiet (V [x0, x1]), .quiet (V [0, 0]), .call (V [0, 0]), .quiet (V [0, 0]), .quiet (.bool true), .quiet (.bool true)] H5 ?ho6 ?he6
  case ho6 => exact ak (fun γ => ⟨rfl, fun w' h => ex_loadA (i := 0) (k := 2) h 2 rfl rfl rfl Tryd.isAgg26 Tryd.sizeOf26 rfl rfl⟩) (ak (fun γ => ⟨rfl, fun w' _ => ex_buildE2z rfl⟩) (ak (fun γ => ⟨rfl, fun w' h => ⟨8, #[V [x0, x1], V [0, 0]], exec_call rfl call8 rfl (mpn rfl), C12.out w'⟩⟩) (ak (fun γ => ⟨rfl, fun w' _ => ex_buildE2z rfl⟩) (ak (fun γ => ⟨rfl, fun w' _ => exec_eqE2 e_z rfl rfl rfl⟩) (ak (fun _ => ⟨rfl, fun _ _ => rfl⟩) trivial)))))
  intro _ w6 H6
  clear H5
  refine rest0 rfl (then_normal (wp_seq ?_))
  refine walk_anyB 18 [.quiet (V [ab0, ab1]), .call (V [cb0, cb1]), .quiet (V [x0, x1]), .call (V [cx0, cx1]), .quiet (V [y0, y1]), .call (V [cy0, cy1]), .call (V [cb0, cb1]), .quiet (.bool true), .quiet (.bool true), .quiet (V [x0, x1]), .call (V [cx0, cx1]), .call (V [0, 0]), .quiet (V [x0, x1]), .quiet (V [0, 0]), .call (V [0, 0]), .quiet (.bool true), .quiet (.bool true), .quiet (.bool true)] H6 ?ho7 ?he7
  case ho7 => exact ak (fun γ => ⟨rfl, fun w' h => ex_loadA (i := 0) (k := 2) h 1 rfl rfl rfl Tryd.isAgg26 Tryd.sizeOf26 rfl rfl⟩) (ak (fun γ => ⟨rfl, fun w' h => ⟨11, #[V [ab0, ab1]], exec_call rfl call11 rfl (mpn rfl), C13.out w'⟩⟩) (ak (fun γ => ⟨rfl, fun w' h => ex_loadA (i := 0) (k := 2) h 2 rfl rfl rfl Tryd.isAgg26 Tryd.sizeOf26 rfl rfl⟩) (ak (fun γ => ⟨rfl, fun w' h => ⟨11, #[V [x0, x1]], exec_call rfl call11 rfl (mpn rfl), C14.out w'⟩⟩) (ak (fun γ => ⟨rfl, fun w' h => ex_loadA (i := 0) (k := 2) h 3 rfl rfl rfl Tryd.isAgg26 Tryd.sizeOf26 rfl rfl⟩) (ak (fun γ => ⟨rfl, fun w' h => ⟨11, #[V [y0, y1]], exec_call rfl call11 rfl (mpn rfl), C15.out w'⟩⟩) (ak (fun γ => ⟨rfl, fun w' h => ⟨7, #[V [cx0, cx1], V [cy0, cy1]], exec_call rfl call7 rfl (mpn rfl), C16.out w'⟩⟩) (ak (fun γ => ⟨rfl, fun w' _ => exec_eqE2 e_cb rfl rfl rfl⟩) (ak (fun _ => ⟨rfl, fun _ _ => rfl⟩) (ak (fun γ => ⟨rfl, fun w' h => ex_loadA (i := 0) (k := 2) h 2 rfl rfl rfl Tryd.isAgg26 Tryd.sizeOf26 rfl rfl⟩) (ak (fun γ => ⟨rfl, fun w' h => ⟨11, #[V [x0, x1]], exec_call rfl call11 rfl (mpn rfl), C14.out w'⟩⟩) (ak (fun γ => ⟨rfl, fun w' h => ⟨11, #[V [cx0, cx1]], exec_call rfl call11 rfl (mpn rfl), C17.out w'⟩⟩) (ak (fun γ => ⟨rfl, fun w' h => ex_loadA (i := 0) (k := 2) h 2 rfl rfl rfl Tryd.isAgg26 Tryd.sizeOf26 rfl rfl⟩) (ak (fun γ => ⟨rfl, fun w' _ => ex_buildE2z rfl⟩) (ak (fun γ => ⟨rfl, fun w' h => ⟨8, #[V [x0, x1], V [0, 0]], exec_call rfl call8 rfl (mpn rfl), C12.out w'⟩⟩) (ak (fun γ => ⟨rfl, fun w' _ => exec_eqE2 e_z rfl rfl rfl⟩) (ak (by refine fun γ => ⟨rfl, fun w' h => ?_⟩; clear h; go_simp) (ak (fun _ => ⟨rfl, fun _ _ => rfl⟩) trivial)))))))))))))))))
  intro _ w7 H7
  clear H6
  refine rest0 rfl (then_normal (wp_seq ?_))
  refine walk_seqB 22 [.quiet (.bool true), .quiet (.bool true), .quiet (.bool true), .quiet (.bool true), .quiet (.bool true), .quiet (.int .i64 6), .quiet (.bool true), .quiet (.bool true), .quiet (.bool true), .quiet (.bool true), .quiet (.bool true), .quiet (.int .i64 6), .quiet (.bool true), .quiet (.bool true), .gone, .gone, .gone, .gone, .gone, .quiet (.bool true), .quiet (.bool true), .quiet (.bool true)] H7 ?ho8 ?he8
  case ho8 => exact ak (fun _ => ⟨rfl, fun _ _ => rfl⟩) (ak (fun _ => ⟨rfl, fun _ _ => rfl⟩) (ak (fun _ => ⟨rfl, fun _ _ => rfl⟩) (ak (by refine fun γ => ⟨rfl, fun w' h => ?_⟩; clear h; go_simp) (ak (fun _ => ⟨rfl, fun _ _ => rfl⟩) (ak (fun _ => ⟨rfl, fun _ _ => rfl⟩) (ak (by refine fun γ => ⟨rfl, fun w' h => ?_⟩; clear h; go_simp) (ak (fun _ => ⟨rfl, fun _ _ => rfl⟩) (ak (by refine fun γ => ⟨rfl, fun w' h => ?_⟩; clear h; go_simp) (ak (by refine fun γ => ⟨rfl, fun w' h => ?_⟩; clear h; go_simp) (ak (fun _ => ⟨rfl, fun _ _ => rfl⟩) (ak (fun _ => ⟨rfl, fun _ _ => rfl⟩) (ak (by refine fun γ => ⟨rfl, fun w' h => ?_⟩; clear h; go_simp) (ak (fun _ => ⟨rfl, fun _ _ => rfl⟩) (ak (fun γ => rfl) (ak (fun γ => rfl) (ak (fun γ => rfl) (ak (fun γ => rfl) (ak (fun γ => rfl) (ak (by refine fun γ => ⟨rfl, fun w' h => ?_⟩; clear h; go_simp) (ak (by refine fun γ => ⟨rfl, fun w' h => ?_⟩; clear h; go_simp) (ak (fun _ => ⟨rfl, fun _ _ => rfl⟩) trivial)))))))))))))))))))))
  intro _ w8 H8
  clear H7
  refine rest0 rfl (then_normal (wp_ret ?_))
  repeat (first | refine then_ret ?_ | refine block_ret ?_)
  refine bodyPost_ret (v := .bool true) (by simp [results, Tryd.results3, go_sem, *]) rfl ?_
  exact ⟨rfl, H8.out.2⟩
set_option maxRecDepth 100000 in
set_option maxHeartbeats 4000000 in
theorem field2_any (x0 x1 y0 y1 z0 z1 : Nat) (hx0 : x0 < big) (hx1 : x1 < big) (hy0 : y0 < big) (hy1 : y1 < big) (hz0 : z0 < big) (hz1 : z1 < big) (w : World) (hm : Mm w [(0, dtab)]) : Calls Tryd.prog 3 #[V [x0, x1], V [y0, y1], V [z0, z1]] w fun e w' => e = .returned (.bool true) ∧ Below w.heap.size w w' := by
  by_cases hn : Dv ((x0 : Int) * x0 + (x1 : Int) * x1)
  · obtain ⟨d0, d1⟩ := norm0 hn
    have r0 := (pz_zero_iff _).2 d0
    have r1 := (pz_zero_iff _).2 d1
    have cA := (fun w => addC (pz ((x0 : Int) - y0)) (pz ((x1 : Int) - y1)) y0 y1 ((x0 : Int)) ((x1 : Int)) (pz_big _) (pz_big _) hy0 hy1 (dv_pz _) (dv_pz _) (dvr _) (dvr _) (by omega) (by omega) w)
    have cB := (fun w => addC x0 x1 0 0 ((x0 : Int)) ((x1 : Int)) hx0 hx1 big_pos big_pos (dvr _) (dvr _) (dvr _) (dvr _) (by omega) (by omega) w)
    have cC := fun w => conjCr (pz ((x0 : Int))) (pz (-(x1 : Int))) ((x0 : Int)) ((x1 : Int)) r0 r1 (pz_big _) (pz_big _) (dv_pz _) (dv_pz _) (by first | rfl | omega) (by first | rfl | omega) w
    rw [r0, r1] at cA cB
    exact field2_no x0 x1 y0 y1 z0 z1 (pz ((x0 : Int) * y0 - (x1 : Int) * y1)) (pz ((x0 : Int) * y1 + (x1 : Int) * y0)) (pz (((x0 : Int) * y0 - (x1 : Int) * y1) * z0 - ((x0 : Int) * y1 + (x1 : Int) * y0) * z1)) (pz (((x0 : Int) * y0 - (x1 : Int) * y1) * z1 + ((x0 : Int) * y1 + (x1 : Int) * y0) * z0)) (pz ((y0 : Int) * z0 - (y1 : Int) * z1)) (pz ((y0 : Int) * z1 + (y1 : Int) * z0)) (pz ((x0 : Int) + y0)) (pz ((x1 : Int) + y1)) (pz (((x0 : Int) + y0) * z0 - ((x1 : Int) + y1) * z1)) (pz (((x0 : Int) + y0) * z1 + ((x1 : Int) + y1) * z0)) (pz ((x0 : Int) * z0 - (x1 : Int) * z1)) (pz ((x0 : Int) * z1 + (x1 : Int) * z0)) (pz ((x0 : Int) - y0)) (pz ((x1 : Int) - y1)) (pz ((x0 : Int) * y0 - (x1 : Int) * y1)) (pz (-((x0 : Int) * y1 + (x1 : Int) * y0))) (pz ((x0 : Int))) (pz (-(x1 : Int))) (pz ((y0 : Int))) (pz (-(y1 : Int)))
      (eq_reflE2 (pz_big _) (pz_big _)) (eq_reflE2 (pz_big _) (pz_big _)) (eq_reflE2 (pz_big _) (pz_big _)) (eq_reflE2 (pz_big _) (pz_big _)) (eq_reflE2 big_pos big_pos)
      awake_any
      (fun w => mulC _ _ _ _ ((x0 : Int) * y0 - (x1 : Int) * y1) ((x0 : Int) * y1 + (x1 : Int) * y0) hx0 hx1 hy0 hy1 (dvr _) (dvr _) (dvr _) (dvr _) (by grind) (by grind) w)
      (fun w => mulC _ _ _ _ ((x0 : Int) * y0 - (x1 : Int) * y1) ((x0 : Int) * y1 + (x1 : Int) * y0) hy0 hy1 hx0 hx1 (dvr _) (dvr _) (dvr _) (dvr _) (by grind) (by grind) w)
      (fun w => mulC _ _ _ _ (((x0 : Int) * y0 - (x1 : Int) * y1) * z0 - ((x0 : Int) * y1 + (x1 : Int) * y0) * z1) (((x0 : Int) * y0 - (x1 : Int) * y1) * z1 + ((x0 : Int) * y1 + (x1 : Int) * y0) * z0) (pz_big _) (pz_big _) hz0 hz1 (dv_pz _) (dv_pz _) (dvr _) (dvr _) (by grind) (by grind) w)
      (fun w => mulC _ _ _ _ ((y0 : Int) * z0 - (y1 : Int) * z1) ((y0 : Int) * z1 + (y1 : Int) * z0) hy0 hy1 hz0 hz1 (dvr _) (dvr _) (dvr _) (dvr _) (by grind) (by grind) w)
      (fun w => mulC _ _ _ _ (((x0 : Int) * y0 - (x1 : Int) * y1) * z0 - ((x0 : Int) * y1 + (x1 : Int) * y0) * z1) (((x0 : Int) * y0 - (x1 : Int) * y1) * z1 + ((x0 : Int) * y1 + (x1 : Int) * y0) * z0) hx0 hx1 (pz_big _) (pz_big _) (dvr _) (dvr _) (dv_pz _) (dv_pz _) (by grind) (by grind) w)
      (fun w => addC _ _ _ _ ((x0 : Int) + y0) ((x1 : Int) + y1) hx0 hx1 hy0 hy1 (dvr _) (dvr _) (dvr _) (dvr _) (by rfl) (by rfl) w)
      (fun w => mulC _ _ _ _ (((x0 : Int) + y0) * z0 - ((x1 : Int) + y1) * z1) (((x0 : Int) + y0) * z1 + ((x1 : Int) + y1) * z0) (pz_big _) (pz_big _) hz0 hz1 (dv_pz _) (dv_pz _) (dvr _) (dvr _) (by grind) (by grind) w)
      (fun w => mulC _ _ _ _ ((x0 : Int) * z0 - (x1 : Int) * z1) ((x0 : Int) * z1 + (x1 : Int) * z0) hx0 hx1 hz0 hz1 (dvr _) (dvr _) (dvr _) (dvr _) (by grind) (by grind) w)
      (fun w => addC _ _ _ _ (((x0 : Int) + y0) * z0 - ((x1 : Int) + y1) * z1) (((x0 : Int) + y0) * z1 + ((x1 : Int) + y1) * z0) (pz_big _) (pz_big _) (pz_big _) (pz_big _) (dv_pz _) (dv_pz _) (dv_pz _) (dv_pz _) (by grind) (by grind) w)
      (fun w => subC _ _ _ _ ((x0 : Int) - y0) ((x1 : Int) - y1) hx0 hx1 hy0 hy1 (dvr _) (dvr _) (dvr _) (dvr _) (by rfl) (by rfl) w)
      cA cB (fun w => conjC _ _ ((x0 : Int) * y0 - (x1 : Int) * y1) (-((x0 : Int) * y1 + (x1 : Int) * y0)) (pz_big _) (pz_big _) (dv_pz _) (dv_pz _) (by first | rfl | omega) (by first | rfl | omega) w) (fun w => conjC _ _ ((x0 : Int)) (-(x1 : Int)) hx0 hx1 (dvr _) (dvr _) (by first | rfl | omega) (by first | rfl | omega) w) (fun w => conjC _ _ ((y0 : Int)) (-(y1 : Int)) hy0 hy1 (dvr _) (dvr _) (by first | rfl | omega) (by first | rfl | omega) w) (fun w => mulC _ _ _ _ ((x0 : Int) * y0 - (x1 : Int) * y1) (-((x0 : Int) * y1 + (x1 : Int) * y0)) (pz_big _) (pz_big _) (pz_big _) (pz_big _) (dv_pz _) (dv_pz _) (dv_pz _) (dv_pz _) (by grind) (by grind) w) cC
      (fun w hm => invT_bad x0 x1 hx0 hx1 hn w hm) w hm
  · have hne : ¬ (pz (x0 : Int) = 0 ∧ pz (x1 : Int) = 0) := fun h => hn (((((pz_zero_iff _).1 h.1).mul (x0 : Int)).add (((pz_zero_iff _).1 h.2).mul (x1 : Int))))
    have hk := iv_mul hn
    have cK := fun w => mulC (pz ((x0 : Int) * (iv ((x0 : Int) * x0 + (x1 : Int) * x1) : Int))) (pz (-(x1 : Int) * (iv ((x0 : Int) * x0 + (x1 : Int) * x1) : Int))) x0 x1 ((iv ((x0 : Int) * x0 + (x1 : Int) * x1) : Int) * ((x0 : Int) * x0 + (x1 : Int) * x1)) 0 (pz_big _) (pz_big _) hx0 hx1 (dv_pz _) (dv_pz _) (dvr _) (dvr _) (by grind) (by grind) w
    rw [hk, pz_zero] at cK
    exact field2_ok x0 x1 y0 y1 z0 z1 (pz ((x0 : Int) * y0 - (x1 : Int) * y1)) (pz ((x0 : Int) * y1 + (x1 : Int) * y0)) (pz (((x0 : Int) * y0 - (x1 : Int) * y1) * z0 - ((x0 : Int) * y1 + (x1 : Int) * y0) * z1)) (pz (((x0 : Int) * y0 - (x1 : Int) * y1) * z1 + ((x0 : Int) * y1 + (x1 : Int) * y0) * z0)) (pz ((y0 : Int) * z0 - (y1 : Int) * z1)) (pz ((y0 : Int) * z1 + (y1 : Int) * z0)) (pz ((x0 : Int) + y0)) (pz ((x1 : Int) + y1)) (pz (((x0 : Int) + y0) * z0 - ((x1 : Int) + y1) * z1)) (pz (((x0 : Int) + y0) * z1 + ((x1 : Int) + y1) * z0)) (pz ((x0 : Int) * z0 - (x1 : Int) * z1)) (pz ((x0 : Int) * z1 + (x1 : Int) * z0)) (pz ((x0 : Int) - y0)) (pz ((x1 : Int) - y1)) (pz ((x0 : Int) * y0 - (x1 : Int) * y1)) (pz (-((x0 : Int) * y1 + (x1 : Int) * y0))) (pz ((x0 : Int))) (pz (-(x1 : Int))) (pz ((y0 : Int))) (pz (-(y1 : Int))) (pz ((x0 : Int))) (pz ((x1 : Int))) (pz ((x0 : Int) * (iv ((x0 : Int) * x0 + (x1 : Int) * x1) : Int))) (pz (-(x1 : Int) * (iv ((x0 : Int) * x0 + (x1 : Int) * x1) : Int))) 1
      (eq_reflE2 (pz_big _) (pz_big _)) (eq_reflE2 (pz_big _) (pz_big _)) (eq_reflE2 (pz_big _) (pz_big _)) (eq_reflE2 (pz_big _) (pz_big _)) (eq_reflE2 (pz_big _) (pz_big _)) (eq_reflE2 (small_big 1 (by decide)) big_pos) (ne_E2 (pz_big _) (pz_big _) big_pos big_pos hne)
      awake_any
      (fun w => mulC _ _ _ _ ((x0 : Int) * y0 - (x1 : Int) * y1) ((x0 : Int) * y1 + (x1 : Int) * y0) hx0 hx1 hy0 hy1 (dvr _) (dvr _) (dvr _) (dvr _) (by grind) (by grind) w)
      (fun w => mulC _ _ _ _ ((x0 : Int) * y0 - (x1 : Int) * y1) ((x0 : Int) * y1 + (x1 : Int) * y0) hy0 hy1 hx0 hx1 (dvr _) (dvr _) (dvr _) (dvr _) (by grind) (by grind) w)
      (fun w => mulC _ _ _ _ (((x0 : Int) * y0 - (x1 : Int) * y1) * z0 - ((x0 : Int) * y1 + (x1 : Int) * y0) * z1) (((x0 : Int) * y0 - (x1 : Int) * y1) * z1 + ((x0 : Int) * y1 + (x1 : Int) * y0) * z0) (pz_big _) (pz_big _) hz0 hz1 (dv_pz _) (dv_pz _) (dvr _) (dvr _) (by grind) (by grind) w)
      (fun w => mulC _ _ _ _ ((y0 : Int) * z0 - (y1 : Int) * z1) ((y0 : Int) * z1 + (y1 : Int) * z0) hy0 hy1 hz0 hz1 (dvr _) (dvr _) (dvr _) (dvr _) (by grind) (by grind) w)
      (fun w => mulC _ _ _ _ (((x0 : Int) * y0 - (x1 : Int) * y1) * z0 - ((x0 : Int) * y1 + (x1 : Int) * y0) * z1) (((x0 : Int) * y0 - (x1 : Int) * y1) * z1 + ((x0 : Int) * y1 + (x1 : Int) * y0) * z0) hx0 hx1 (pz_big _) (pz_big _) (dvr _) (dvr _) (dv_pz _) (dv_pz _) (by grind) (by grind) w)
      (fun w => addC _ _ _ _ ((x0 : Int) + y0) ((x1 : Int) + y1) hx0 hx1 hy0 hy1 (dvr _) (dvr _) (dvr _) (dvr _) (by rfl) (by rfl) w)
      (fun w => mulC _ _ _ _ (((x0 : Int) + y0) * z0 - ((x1 : Int) + y1) * z1) (((x0 : Int) + y0) * z1 + ((x1 : Int) + y1) * z0) (pz_big _) (pz_big _) hz0 hz1 (dv_pz _) (dv_pz _) (dvr _) (dvr _) (by grind) (by grind) w)
      (fun w => mulC _ _ _ _ ((x0 : Int) * z0 - (x1 : Int) * z1) ((x0 : Int) * z1 + (x1 : Int) * z0) hx0 hx1 hz0 hz1 (dvr _) (dvr _) (dvr _) (dvr _) (by grind) (by grind) w)
      (fun w => addC _ _ _ _ (((x0 : Int) + y0) * z0 - ((x1 : Int) + y1) * z1) (((x0 : Int) + y0) * z1 + ((x1 : Int) + y1) * z0) (pz_big _) (pz_big _) (pz_big _) (pz_big _) (dv_pz _) (dv_pz _) (dv_pz _) (dv_pz _) (by grind) (by grind) w)
      (fun w => subC _ _ _ _ ((x0 : Int) - y0) ((x1 : Int) - y1) hx0 hx1 hy0 hy1 (dvr _) (dvr _) (dvr _) (dvr _) (by rfl) (by rfl) w)
      (fun w => addC _ _ _ _ ((x0 : Int)) ((x1 : Int)) (pz_big _) (pz_big _) hy0 hy1 (dv_pz _) (dv_pz _) (dvr _) (dvr _) (by omega) (by omega) w)
      (fun w => addC _ _ _ _ ((x0 : Int)) ((x1 : Int)) hx0 hx1 big_pos big_pos (dvr _) (dvr _) (dvr _) (dvr _) (by omega) (by omega) w)
      (fun w => conjC _ _ ((x0 : Int) * y0 - (x1 : Int) * y1) (-((x0 : Int) * y1 + (x1 : Int) * y0)) (pz_big _) (pz_big _) (dv_pz _) (dv_pz _) (by first | rfl | omega) (by first | rfl | omega) w)
      (fun w => conjC _ _ ((x0 : Int)) (-(x1 : Int)) hx0 hx1 (dvr _) (dvr _) (by first | rfl | omega) (by first | rfl | omega) w)
      (fun w => conjC _ _ ((y0 : Int)) (-(y1 : Int)) hy0 hy1 (dvr _) (dvr _) (by first | rfl | omega) (by first | rfl | omega) w)
      (fun w => mulC _ _ _ _ ((x0 : Int) * y0 - (x1 : Int) * y1) (-((x0 : Int) * y1 + (x1 : Int) * y0)) (pz_big _) (pz_big _) (pz_big _) (pz_big _) (dv_pz _) (dv_pz _) (dv_pz _) (dv_pz _) (by grind) (by grind) w)
      (fun w => conjC _ _ ((x0 : Int)) ((x1 : Int)) (pz_big _) (pz_big _) (dv_pz _) (dv_pz _) (by first | rfl | omega) (by first | rfl | omega) w)
      (fun w hm => invT_good x0 x1 hx0 hx1 hn w hm) cK (fun w => small_any 1 0 (by decide) (by decide) w) w hm
end Rg
end Go.Proofs.YtgdlhgbdigpfhaaDoor
end
section
namespace Go.Proofs.YtgdlhgbdigpfhaaDoor
open Go.ChangeShapes Go.WideShapes Go.ChangeAt Go.RowKit
set_option maxRecDepth 100000
theorem Tryd.own : ownKnob Tryd.prog.godebug = none := by kernel_rfl
theorem Tryd.laidOut : laidOutB Tryd.prog = true := by kernel_rfl
theorem wd_cons_zero (x r : Nat) (hx : x < 18446744073709551616) : wd (x + 18446744073709551616 * r) 0 = x := by
  unfold wd; rw [Nat.mul_zero, Nat.pow_zero, Nat.div_one]; omega
theorem wd_cons_succ (x r i : Nat) (hx : x < 18446744073709551616) : wd (x + 18446744073709551616 * r) (i + 1) = wd r i := by
  unfold wd
  rw [pow_step, Nat.mul_comm (2 ^ (64 * i)), ← Nat.div_div_eq_div_mul, show (x + 18446744073709551616 * r) / 18446744073709551616 = r by omega]
theorem lt_cons (x r k : Nat) (hx : x < 18446744073709551616) (hr : r < 2 ^ (64 * k)) : x + 18446744073709551616 * r < 2 ^ (64 * (k + 1)) := by
  rw [pow_step]; omega
theorem num_of_words (x : Nat → Nat) (hx : ∀ i, x i < 18446744073709551616) (n : Nat) : ∃ a, a < 2 ^ (64 * n) ∧ ∀ i, i < n → wd a i = x i := by
  induction n generalizing x with
  | zero => exact ⟨0, Nat.two_pow_pos _, fun i h => absurd h (Nat.not_lt_zero _)⟩
  | succ n ih =>
    obtain ⟨r, hr, hw⟩ := ih (fun i => x (i + 1)) (fun i => hx _)
    refine ⟨x 0 + 18446744073709551616 * r, lt_cons _ _ _ (hx 0) hr, fun i hi => ?_⟩
    cases i with
    | zero => exact wd_cons_zero _ _ (hx 0)
    | succ i => rw [wd_cons_succ _ _ _ (hx 0)]; exact hw i (by omega)
end Go.Proofs.YtgdlhgbdigpfhaaDoor
end
section
namespace Go.Proofs.YtgdlhgbdigpfhaaDoor
open Go.ChangeShapes Go.WideShapes Go.ChangeAt Go.RowKit
set_option maxRecDepth 100000
section
variable {H : Type} {enc : TypeId × Value → H} {w : World} {base : Nat} {sp : Nat → Bool} {held : Bool}
theorem cells_num {fuel : Nat} {cs : List Value} {x : DataW H × List MemPlace} (h : DataW.trod enc Tryd.prog w base sp held fuel 24 cs = some x) : ∃ a, a < big ∧ cs = cells6 a ∧ x.2 = [] := by
  obtain ⟨xs, m, -, hx, hl, hn, hel⟩ := DataW.trod_array Tryd.underlying24 h
  have hc : Tryd.prog.cellsOf 22 = 1 := by kernel_rfl
  have hc6 : Tryd.prog.cellsOf 24 = 6 := by kernel_rfl
  rw [hc6] at hl
  have key : ∀ i, i < 6 → ∃ n : Nat, n < 18446744073709551616 ∧ cs[i]? = some (.int .u64 n) ∧ ∃ z, xs[i]? = some z ∧ z.2 = [] := by
    intro i hi
    have h := hel i hi
    rw [hc] at h
    have hlt : i < xs.length := by rw [hn]; exact hi
    obtain ⟨z, hz⟩ : ∃ z, xs[i]? = some z := ⟨xs[i], List.getElem?_eq_getElem hlt⟩
    rw [hz] at h
    obtain ⟨n, e1, e2, e3⟩ := DataW.trod_int Tryd.underlying22 h
    have hb := bounds_u64 e3
    have e6 : ((cs.drop (i * 1)).take 1)[0]? = some (.int .u64 n) := by rw [e1]; rfl
    rw [Nat.mul_one, List.getElem?_take] at e6
    have e5 : (cs.drop i)[0]? = some (.int .u64 n) := by simpa using e6
    rw [List.getElem?_drop] at e5
    refine ⟨n.toNat, by omega, ?_, z, hz, by rw [e2]⟩
    rw [Int.toNat_of_nonneg hb.1]
    simpa using e5
  obtain ⟨n0, l0, c0, z0, y0, q0⟩ := key 0 (by omega)
  obtain ⟨n1, l1, c1, z1, y1, q1⟩ := key 1 (by omega)
  obtain ⟨n2, l2, c2, z2, y2, q2⟩ := key 2 (by omega)
  obtain ⟨n3, l3, c3, z3, y3, q3⟩ := key 3 (by omega)
  obtain ⟨n4, l4, c4, z4, y4, q4⟩ := key 4 (by omega)
  obtain ⟨n5, l5, c5, z5, y5, q5⟩ := key 5 (by omega)
  have hps : x.2 = [] := by
    have hx2 : x.2 = xs.flatMap (·.2) := congrArg Prod.snd hx
    rw [hx2, List.flatMap_eq_nil_iff]
    intro z hz
    obtain ⟨i, hi⟩ := List.mem_iff_getElem?.1 hz
    have hi6 : i < 6 := by
      have := (List.getElem?_eq_some_iff.1 hi).1
      omega
    obtain ⟨n, _, _, z', y, q⟩ := key i hi6
    rw [hi] at y; injection y with y; rw [y]; exact q
  obtain ⟨a, ha, hw⟩ := num_of_words (fun i => [n0, n1, n2, n3, n4, n5].getD i 0) (by
    intro i
    match i with
    | 0 => exact l0
    | 1 => exact l1
    | 2 => exact l2
    | 3 => exact l3
    | 4 => exact l4
    | 5 => exact l5
    | (i + 6) => simp) 6
  refine ⟨a, by rw [big]; exact ha, ?_, hps⟩
  have w0 : wd a 0 = n0 := hw 0 (by omega)
  have w1 : wd a 1 = n1 := hw 1 (by omega)
  have w2 : wd a 2 = n2 := hw 2 (by omega)
  have w3 : wd a 3 = n3 := hw 3 (by omega)
  have w4 : wd a 4 = n4 := hw 4 (by omega)
  have w5 : wd a 5 = n5 := hw 5 (by omega)
  unfold cells6
  rw [w0, w1, w2, w3, w4, w5]
  apply List.ext_getElem?
  intro i
  match i with
  | 0 => exact c0
  | 1 => exact c1
  | 2 => exact c2
  | 3 => exact c3
  | 4 => exact c4
  | 5 => exact c5
  | i + 6 => rw [List.getElem?_eq_none (by omega)]; rfl
/-- An array of n parts of c cells each, whose parts open. -/
theorem cells_parts {t e : TypeId} {n c : Nat} {P : List Value → Prop} {fuel : Nat} {cs : List Value} {x : DataW H × List MemPlace} (ht : Tryd.prog.underlying t = some (.array n e)) (hce : Tryd.prog.cellsOf e = c) (hct : Tryd.prog.cellsOf t = n * c)
    (hop : ∀ {fuel : Nat} {cs : List Value} {x : DataW H × List MemPlace}, DataW.trod enc Tryd.prog w base sp held fuel e cs = some x → P cs ∧ x.2 = []) (h : DataW.trod enc Tryd.prog w base sp held fuel t cs = some x) :
    cs.length = n * c ∧ (∀ i, i < n → P ((cs.drop (i * c)).take c)) ∧ x.2 = [] := by
  obtain ⟨xs, m, -, hx, hl, hn, hel⟩ := DataW.trod_array ht h
  rw [hct] at hl
  rw [hce] at hel
  have key : ∀ i, i < n → P ((cs.drop (i * c)).take c) ∧ ∃ z, xs[i]? = some z ∧ z.2 = [] := fun i hi => by
    have h := hel i hi
    have hlt : i < xs.length := by rw [hn]; exact hi
    obtain ⟨z, hz⟩ : ∃ z, xs[i]? = some z := ⟨xs[i], List.getElem?_eq_getElem hlt⟩
    rw [hz] at h
    exact ⟨(hop h).1, z, hz, (hop h).2⟩
  refine ⟨hl, fun i hi => (key i hi).1, ?_⟩
  have hx2 : x.2 = xs.flatMap (·.2) := congrArg Prod.snd hx
  rw [hx2, List.flatMap_eq_nil_iff]
  intro z hz
  obtain ⟨i, hi⟩ := List.mem_iff_getElem?.1 hz
  have hin : i < n := by
    have := (List.getElem?_eq_some_iff.1 hi).1
    omega
  obtain ⟨_, z', y, q⟩ := key i hin
  rw [hi] at y; injection y with y; rw [y]; exact q
theorem cells_E2 {fuel : Nat} {cs : List Value} {x : DataW H × List MemPlace} (h : DataW.trod enc Tryd.prog w base sp held fuel 26 cs = some x) : (∃ a b, a < big ∧ b < big ∧ cs = Rg.cel [a, b]) ∧ x.2 = [] := by
  obtain ⟨hl, hp, hx⟩ := cells_parts (P := fun l => ∃ a, a < big ∧ l = cells6 a) (n := 2) (c := 6) Tryd.underlying26 (by kernel_rfl) (by kernel_rfl) (fun h => by obtain ⟨a, h1, h2, h3⟩ := cells_num h; exact ⟨⟨a, h1, h2⟩, h3⟩) h
  obtain ⟨a, ha, ea⟩ := hp 0 (by decide)
  obtain ⟨b, hb, eb⟩ := hp 1 (by decide)
  refine ⟨⟨a, b, ha, hb, ?_⟩, hx⟩
  rw [Nat.zero_mul, List.drop_zero] at ea
  rw [List.take_of_length_le (by rw [List.length_drop]; omega)] at eb
  have e := List.take_append_drop 6 cs
  rw [ea, show (6 : Nat) = 1 * 6 from rfl, eb] at e
  rw [← e]
  rfl
end
section
variable {H : Type} {enc : TypeId × Value → H} {w : World} {base : Nat} {sp : Nat → Bool} {held : Bool} {r : Reach} {b0 : Nat} {v : Value} {d : DataW H} {ps : List MemPlace}
theorem open_E2 (hval : Value.okWide Tryd.prog w r b0 26 v) (hd : DataW.Trod enc Tryd.prog w base sp held 26 v d ps) : ∃ a b, a < big ∧ b < big ∧ v = Rg.V [a, b] ∧ ps = [] := by
  unfold Value.okWide at hval
  rw [Tryd.underlying26] at hval
  obtain ⟨cs, rfl, hsz, _⟩ := hval
  obtain ⟨fuel, hf⟩ := hd
  obtain ⟨⟨a, b, ha, hb, e⟩, hx⟩ := cells_E2 hf
  refine ⟨a, b, ha, hb, ?_, hx⟩
  have e2 : cs.toList = Rg.cel [a, b] := e
  show Value.agg cs = Value.agg (Rg.cel [a, b]).toArray
  rw [← e2, Array.toArray_toList]
end
theorem e2_stays {H : Type} {enc : TypeId × Value → H} {W W' : World} {v : Value} {d : DataW H}
    (h : DataW.Trod enc Tryd.prog W 0 (fun _ => true) true 26 v d []) (hb : Below W.heap.size W W') :
    DataW.Trod enc Tryd.prog W' 0 (fun b => decide (b < W.heap.size)) true 26 v d [] :=
  Below.trod Tryd.laidOut (by kernel_rfl) (by decide +kernel) h hb (fun _ hx => by cases hx)
end Go.Proofs.YtgdlhgbdigpfhaaDoor
end
section
namespace Go.Proofs.YtgdlhgbdigpfhaaDoor
open Go.ChangeShapes Go.WideShapes Go.ChangeAt Go.RowKit
namespace Rg
set_option maxRecDepth 100000
abbrev laidL : List (String × DataW Unit) := Rows.towerField2Row.laid
abbrev tabName : String := match laidL with
  | (n, _) :: _ => n
  | [] => Tryd.f3.name
theorem gTab : Tryd.prog.globalNamed tabName = some 0 := by kernel_rfl
theorem tTab : (Tryd.prog.globals[0]?).map (·.type) = some 111 := by kernel_rfl
theorem datTab : (Rows.laid_math_bits_deBruijn64tab : DataW Unit) = .agg (Lib.deBruijn64tab.map fun k => .lit (.int .u8 ((k : Nat) : Int))) := by kernel_rfl
theorem tab_of_laid {W : World} (h : laidMetH Tryd.prog laidL W) : Mm W [(0, dtab)] := by
  rw [MakeChecks.laidMetH_plain _ _ _ (by kernel_rfl)] at h
  obtain ⟨ps, ⟨g, t, cs, fuel, p, q, hg, ht, hv, hd, hq, hps⟩, hnd, hc⟩ := h
  obtain rfl := Option.some.inj (gTab.symm.trans hg)
  obtain rfl := Option.some.inj (tTab.symm.trans ht)
  obtain ⟨xs, m, -, hx, hlen, hn, hel⟩ := DataW.trod_array Tryd.underlying111 hd
  rw [datTab] at hx
  simp only [Prod.mk.injEq, DataW.agg.injEq] at hx
  have hc5 : Tryd.prog.cellsOf 5 = 1 := by kernel_rfl
  have hc81 : Tryd.prog.cellsOf 111 = 64 := by kernel_rfl
  rw [hc81] at hlen
  have hsz : cs.size = 64 := by simpa using hlen
  have hpl : ∀ i, i < 64 → MemPlace.cell 0 i ∈ ps := fun i hi => by
    rw [hps]
    refine List.mem_append_left _ (List.mem_append_left _ ?_)
    unfold MemPlace.row
    simp [hsz]
    omega
  obtain ⟨⟨c0, t0, hheap⟩, _⟩ := hc 0 0 (hpl 0 (by decide))
  have h0 : 0 < W.heap.size := by
    rcases Nat.lt_or_ge 0 W.heap.size with h' | h'
    · exact h'
    · rw [Array.getElem?_eq_none (by omega)] at hheap; cases hheap
  refine ⟨fun pq hpq => ?_, List.pairwise_singleton _ _⟩
  rw [List.mem_singleton.1 hpq]
  refine ⟨h0, fun j v hj => ?_⟩
  have hj64 : j < 64 := by
    have := (List.getElem?_eq_some_iff.1 hj).1
    exact this
  refine ⟨?_, ?_⟩
  · rw [World.var?_cell hg hv j]
    have h1 := hel j hj64
    rw [hc5, Nat.mul_one] at h1
    have hlt : j < xs.length := by omega
    rw [List.getElem?_eq_getElem hlt] at h1
    obtain ⟨n, e1, e2, _⟩ := DataW.trod_int Tryd.underlying5 h1
    have e3 : cs[j]? = some (.int .u8 n) := by
      have e4 : ((cs.toList.drop j).take 1)[0]? = some (.int .u8 n) := by rw [e1]; rfl
      rw [List.getElem?_take, if_pos (by decide), List.getElem?_drop] at e4
      simpa using e4
    have e5 : (xs.map (·.1))[j]? = (Lib.deBruijn64tab.map fun k => DataW.lit (.int .u8 ((k : Nat) : Int)))[j]? := by rw [hx.1]
    rw [List.getElem?_map, List.getElem?_eq_getElem hlt, e2, List.getElem?_map] at e5
    unfold dtab at hj
    rw [List.getElem?_map] at hj
    cases hk : Lib.deBruijn64tab[j]? with
    | none => rw [hk] at hj; cases hj
    | some k =>
      rw [hk] at hj e5
      simp only [Option.map_some, Option.some.injEq, DataW.lit.injEq] at hj e5
      rw [e3, ← hj]
      simp only [Option.some.injEq]
      injection e5 with _ e6
      rw [e6]
  · unfold World.frozen?
    rw [hheap]
    simp
theorem door_met (os : Os) (args : Array Value) : laidMetH Tryd.prog laidL ((World.doorLaid Tryd.prog 400 os).forCall (fun _ _ => 0) ⟨#[], args, []⟩).memory :=
  laidMetH_of_parts3 (fuel := 8) (laidMet_of_run' 8 (by kernel_rfl) (by kernel_rfl)) (by kernel_rfl) (by kernel_rfl)
end Rg
end Go.Proofs.YtgdlhgbdigpfhaaDoor
end
