/- Texts of the proof, joined. -/
import Derived.Test.YtahghpkjkfaieaaGreatDoorP5
import Derived.BigQuiet
import Derived.Deep.DeepCutAuto
import Derived.Deep.CutBlock
import Derived.WalkSmall
set_option maxRecDepth 100000
section
namespace Go.Proofs.YtahghpkjkfaieaaGreatDoor
open Go.RowKit
namespace Rg
def pB : Nat := 4002409555221667393417789825735904156556882819939007885332058136124031650490837864442687629129015664037894272559787
theorem pB_0 : wd pB 0 = 13402431016077863595 := by decide +kernel
theorem pB_1 : wd pB 1 = 2210141511517208575 := by decide +kernel
theorem pB_2 : wd pB 2 = 7435674573564081700 := by decide +kernel
theorem pB_3 : wd pB 3 = 7239337960414712511 := by decide +kernel
theorem pB_4 : wd pB 4 = 5412103778470702295 := by decide +kernel
theorem pB_5 : wd pB 5 = 1873798617647539866 := by decide +kernel
theorem pB_lt : pB < big := by
 have h : 4 * pB < big := by decide +kernel
 omega
theorem pB_ok : Ok pB := ⟨by decide +kernel, by decide +kernel, by decide +kernel⟩
theorem ex_build_pB {ρ : Operand → Value} {o : Oper} {w : World} (ho : o.op = .build 24 #[(0, .const (.int .u64 13402431016077863595)), (1, .const (.int .u64 2210141511517208575)), (2, .const (.int .u64 7435674573564081700)), (3, .const (.int .u64 7239337960414712511)), (4, .const (.int .u64 5412103778470702295)), (5, .const (.int .u64 1873798617647539866))]) (h0 : ρ (.const (.int .u64 13402431016077863595)) = .int .u64 13402431016077863595) (h1 : ρ (.const (.int .u64 2210141511517208575)) = .int .u64 2210141511517208575) (h2 : ρ (.const (.int .u64 7435674573564081700)) = .int .u64 7435674573564081700) (h3 : ρ (.const (.int .u64 7239337960414712511)) = .int .u64 7239337960414712511) (h4 : ρ (.const (.int .u64 5412103778470702295)) = .int .u64 5412103778470702295) (h5 : ρ (.const (.int .u64 1873798617647539866)) = .int .u64 1873798617647539866) : (execOp ρ o).run Tryz.prog w = .ok (.value (N pB)) w := by
 have e : N pB = .agg #[.int .u64 13402431016077863595, .int .u64 2210141511517208575, .int .u64 7435674573564081700, .int .u64 7239337960414712511, .int .u64 5412103778470702295, .int .u64 1873798617647539866] := by simp only [N, pB_0, pB_1, pB_2, pB_3, pB_4, pB_5]
 rw [e]
 clear e
 simp only [execOp, ho]
 go_simp
theorem base_pB (w : World) :
  Calls Tryz.prog 125 #[] w (Rt w (N pB)) := by
 have H0 : Hid (_ ∧ _) := ⟨Mm.nil w, Below.refl w.heap.size w⟩
 go_enter Tryz.func125, Tryz.ntmps125
 refine wp_seq ?_
 refine zI 1 [.made zero6 24] (sB H0) ?ho1 ?he1
 case ho1 => exact am (zO rfl) trivial
 intro J w1 l hM hl
 have H1 : Hid (Mm w1 [(J 0, zero6)] ∧ _) := wB H0 hM hl [0]
 have o1_0 := vB H0 hM hl 0
 clear hM hl l
 generalize J 0 = J1_0 at H1 o1_0 ⊢
 clear J
 refine rN (wp_seq ?_)
 refine zM 1 [.q (N pB)] H1 ?ho2 ?he2
 case ho2 => exact ak (fun J => ⟨rfl, fun w' _ => ex_build_pB rfl rfl rfl rfl rfl rfl rfl ⟩) trivial
 intro _ w2 H2
 clear H1
 refine zR (l := [1]) rfl ?_
 refine sG rfl (fun h => zQ h 0 rfl rfl rfl rfl (Nat.le_of_ble_eq_true rfl)) 0 [(_, zE pB)] H2 o1_0 fun w3 H3 => ?_
 clear H2
 refine zC (zB (wp_ret ?_))
 repeat (first | refine zL ?_ | refine zK ?_)
 have c0 := H3.out.1.get 0 rfl 0 rfl
 have c1 := H3.out.1.get 0 rfl 1 rfl
 have c2 := H3.out.1.get 0 rfl 2 rfl
 have c3 := H3.out.1.get 0 rfl 3 rfl
 have c4 := H3.out.1.get 0 rfl 4 rfl
 have c5 := H3.out.1.get 0 rfl 5 rfl
 refine bodyPost_ret (v := N pB) (by simp [results, Tryz.results125, go_sem, *]) rfl ?_
 exact ⟨rfl, H3.out.2⟩
def rB : Nat := 52435875175126190479447740508185965837690552500527637822603658699938581184513
theorem rB_0 : wd rB 0 = 18446744069414584321 := by decide +kernel
theorem rB_1 : wd rB 1 = 6034159408538082302 := by decide +kernel
theorem rB_2 : wd rB 2 = 3691218898639771653 := by decide +kernel
theorem rB_3 : wd rB 3 = 8353516859464449352 := by decide +kernel
theorem rB_4 : wd rB 4 = 0 := by decide +kernel
theorem rB_5 : wd rB 5 = 0 := by decide +kernel
theorem rB_ok : Ok rB := ⟨by decide +kernel, by decide +kernel, by decide +kernel⟩
theorem ex_build_rB {ρ : Operand → Value} {o : Oper} {w : World} (ho : o.op = .build 24 #[(0, .const (.int .u64 18446744069414584321)), (1, .const (.int .u64 6034159408538082302)), (2, .const (.int .u64 3691218898639771653)), (3, .const (.int .u64 8353516859464449352))]) (h0 : ρ (.const (.int .u64 18446744069414584321)) = .int .u64 18446744069414584321) (h1 : ρ (.const (.int .u64 6034159408538082302)) = .int .u64 6034159408538082302) (h2 : ρ (.const (.int .u64 3691218898639771653)) = .int .u64 3691218898639771653) (h3 : ρ (.const (.int .u64 8353516859464449352)) = .int .u64 8353516859464449352) : (execOp ρ o).run Tryz.prog w = .ok (.value (N rB)) w := by
 have e : N rB = .agg #[.int .u64 18446744069414584321, .int .u64 6034159408538082302, .int .u64 3691218898639771653, .int .u64 8353516859464449352, .int .u64 0, .int .u64 0] := by simp only [N, rB_0, rB_1, rB_2, rB_3, rB_4, rB_5]
 rw [e]
 clear e
 simp only [execOp, ho]
 go_simp
theorem base_rB (w : World) :
  Calls Tryz.prog 29 #[] w (Rt w (N rB)) := by
 have H0 : Hid (_ ∧ _) := ⟨Mm.nil w, Below.refl w.heap.size w⟩
 go_enter Tryz.func29, Tryz.ntmps29
 refine wp_seq ?_
 refine zI 1 [.made zero6 24] (sB H0) ?ho1 ?he1
 case ho1 => exact am (zO rfl) trivial
 intro J w1 l hM hl
 have H1 : Hid (Mm w1 [(J 0, zero6)] ∧ _) := wB H0 hM hl [0]
 have o1_0 := vB H0 hM hl 0
 clear hM hl l
 generalize J 0 = J1_0 at H1 o1_0 ⊢
 clear J
 refine rN (wp_seq ?_)
 refine zM 1 [.q (N rB)] H1 ?ho2 ?he2
 case ho2 => exact ak (fun J => ⟨rfl, fun w' _ => ex_build_rB rfl rfl rfl rfl rfl ⟩) trivial
 intro _ w2 H2
 clear H1
 refine zR (l := [1]) rfl ?_
 refine sG rfl (fun h => zQ h 0 rfl rfl rfl rfl (Nat.le_of_ble_eq_true rfl)) 0 [(_, zE rB)] H2 o1_0 fun w3 H3 => ?_
 clear H2
 refine zC (zB (wp_ret ?_))
 repeat (first | refine zL ?_ | refine zK ?_)
 have c0 := H3.out.1.get 0 rfl 0 rfl
 have c1 := H3.out.1.get 0 rfl 1 rfl
 have c2 := H3.out.1.get 0 rfl 2 rfl
 have c3 := H3.out.1.get 0 rfl 3 rfl
 have c4 := H3.out.1.get 0 rfl 4 rfl
 have c5 := H3.out.1.get 0 rfl 5 rfl
 refine bodyPost_ret (v := N rB) (by simp [results, Tryz.results29, go_sem, *]) rfl ?_
 exact ⟨rfl, H3.out.2⟩
/-- A point's cells. -/
abbrev pc1 (a b : Nat) (z : Bool) : List Value := cel [a, b] ++ [Value.bool z]
abbrev pc2 (a b c d : Nat) (z : Bool) : List Value := cel [a, b, c, d] ++ [Value.bool z]
theorem ex_loadT {ρ : Operand → Value} {o : Oper} {x : Operand} {g off n : Nat} {t : TypeId} {cs ms : List Value} {w : World} {l : List (Nat × List Value)} (h : Mm w l) (q : Nat) (hk : l[q]? = some (g, cs)) (ho : o.op = .load t x) (hx : ρ x = PT g off) (ha : ∀ w, (isAgg t).run Tryz.prog w = .ok true w) (hs : ∀ w, (sizeOf t).run Tryz.prog w = .ok n w) (hc : (cs.drop off).take n = ms) (hl : ms.length = n) :
  (execOp ρ o).run Tryz.prog w = .ok (.value (.agg ms.toArray)) w := by
 have hm := List.mem_of_getElem? hk
 have hcell := run_loadCells_list (P := Tryz.prog) (w := w) ⟨g, off, none⟩ ms (fun j v hv => by
  have e : cs[off + j]? = some v := by
   rw [← List.getElem?_drop]
   rw [← hc, List.getElem?_take] at hv
   split at hv
   ·exact hv
   ·cases hv
  have e2 := h.cell hm e
  rw [show (⟨g, off, none⟩ : Addr).add j = ⟨g, off + j, none⟩ from by unfold Addr.add; split <;> simp_all]
  exact e2)
 rw [hl] at hcell
 have hf : (loadCellsFrom ⟨g, off, none⟩ 0 n #[]).run Tryz.prog w = .ok ms.toArray w := hcell
 clear hcell hc hk hm h
 simp only [execOp, ho, hx]
 go_simp
theorem zJ {ρ : Operand → Value} {o : Oper} {x : Operand} {g off : Nat} {t : TypeId} {v : Value} {cs : List Value} {w : World} {l : List (Nat × List Value)} (h : Mm w l) (k : Nat) (hk : l[k]? = some (g, cs)) (ho : o.op = .load t x) (hx : ρ x = PT g off) (ha : ∀ w, (isAgg t).run Tryz.prog w = .ok false w) (hc : cs[off]? = some v) :
  (execOp ρ o).run Tryz.prog w = .ok (.value v) w := by
 have c0 := h.cell (List.mem_of_getElem? hk) hc
 clear h hk hc
 simp only [execOp, ho, hx]
 go_simp
theorem lC {ρ : Operand → Value} {o : Oper} {x : Operand} {g off : Nat} {t : TypeId} {v : Value} {cs : List Value} {w : World} {l : List (Nat × List Value)} (h : Mm w l) (k : Nat) (ha : ∀ w, (isAgg t).run Tryz.prog w = .ok false w) (hk : l[k]? = some (g, cs) := by exact rfl) (ho : o.op = .load t x := by exact rfl) (hx : ρ x = PT g off := by exact rfl) (hc : cs[off]? = some v := by exact rfl) : (execOp ρ o).run Tryz.prog w = .ok (.value v) w := zJ h k hk ho hx ha hc
theorem lT {ρ : Operand → Value} {o : Oper} {x : Operand} {g off n : Nat} {t : TypeId} {cs ms : List Value} {w : World} {l : List (Nat × List Value)} (h : Mm w l) (q : Nat) (ha : ∀ w, (isAgg t).run Tryz.prog w = .ok true w) (hs : ∀ w, (sizeOf t).run Tryz.prog w = .ok n w) (hk : l[q]? = some (g, cs) := by exact rfl) (ho : o.op = .load t x := by exact rfl) (hx : ρ x = PT g off := by exact rfl) (hc : (cs.drop off).take n = ms := by exact rfl) (hl : ms.length = n := by exact rfl) : (execOp ρ o).run Tryz.prog w = .ok (.value (.agg ms.toArray)) w := ex_loadT h q hk ho hx ha hs hc hl
theorem bC {ops : Array Oper} {L : List (Nat × List Value)} {F : (Nat → Nat) → Act} {o : Oper} {os : List Oper} {ks : List Kind} {x : Operand} {g off : Nat} {cs : List Value} {t : TypeId} {v : Value} (k : Nat) (ha : ∀ w, (isAgg t).run Tryz.prog w = .ok false w) (hs : AllOk Tryz.prog ops (fun w' => Mm w' L) F os ks) (hw : ∀ J, Region.wanted o (yielded ops (F J).tmps) = true := by exact fun _ => rfl) (hk : L[k]? = some (g, cs) := by exact rfl) (ho : o.op = .load t x := by exact rfl) (hx : ∀ J, (F J).eval x = PT g off := by exact fun _ => rfl) (hc : cs[off]? = some v := by exact rfl) : AllOk Tryz.prog ops (fun w' => Mm w' L) F (o :: os) (.q v :: ks) := ⟨fun J => ⟨hw J, fun _ h => zJ h k hk ho (hx J) ha hc⟩, hs⟩
theorem bT {ops : Array Oper} {L : List (Nat × List Value)} {F : (Nat → Nat) → Act} {o : Oper} {os : List Oper} {ks : List Kind} {x : Operand} {g off : Nat} {cs : List Value} {n : Nat} {t : TypeId} {ms : List Value} (k : Nat) (ha : ∀ w, (isAgg t).run Tryz.prog w = .ok true w) (hz : ∀ w, (sizeOf t).run Tryz.prog w = .ok n w) (hs : AllOk Tryz.prog ops (fun w' => Mm w' L) F os ks) (hw : ∀ J, Region.wanted o (yielded ops (F J).tmps) = true := by exact fun _ => rfl) (hk : L[k]? = some (g, cs) := by exact rfl) (ho : o.op = .load t x := by exact rfl) (hx : ∀ J, (F J).eval x = PT g off := by exact fun _ => rfl) (hc : (cs.drop off).take n = ms := by exact rfl) (hl : ms.length = n := by exact rfl) : AllOk Tryz.prog ops (fun w' => Mm w' L) F (o :: os) (.q (.agg ms.toArray) :: ks) := ⟨fun J => ⟨hw J, fun _ h => ex_loadT h k hk ho (hx J) ha hz hc hl⟩, hs⟩
theorem ex_boxT {ρ : Operand → Value} {o : Oper} {x : Operand} {t : TypeId} {cs : List Value} {w : World} (ho : o.op = .box t x) (hx : ρ x = .agg cs.toArray) :
  (execOp ρ o).run Tryz.prog w = .ok (.value (.pointer (some ⟨w.heap.size, 0, none⟩))) (w.alloc (.cells cs.toArray t)) := by
 simp only [execOp, ho, hx]
 go_simp
theorem ex_storeT {ρ : Operand → Value} {o : Oper} {x y : Operand} {g off : Nat} {t : TypeId} {cs vs : List Value} {w : World} {l : List (Nat × List Value)} (h : Mm w l) (q : Nat) (hk : l[q]? = some (g, cs)) (ho : o.op = .store t x y) (hx : ρ x = PT g off) (hy : ρ y = .agg vs.toArray) (hs : ∀ w, (sizeOf t).run Tryz.prog w = .ok vs.length w) (h1 : vs.all Value.oneCell' = true) (hb : off + vs.length ≤ cs.length) :
  (execOp ρ o).run Tryz.prog w = .ok .skip (w.setCells g off vs) := by
 have hm := List.mem_of_getElem? hk
 have hq : ∀ j, j < vs.length → ∃ u, cs[off + j]? = some u := fun j hj => ⟨_, List.getElem?_eq_getElem (by omega)⟩
 have hst := run_storeCells_cells (P := Tryz.prog) g off vs 0 w (fun j hj => by
  obtain ⟨u, hu⟩ := hq j hj
  rw [show off + 0 + j = off + j by omega, h.cell hm hu]; rfl) (fun j hj => by
  obtain ⟨u, hu⟩ := hq j hj
  rw [show off + 0 + j = off + j by omega]; exact h.free hm hu) (List.all_eq_true.1 h1)
 clear h hm hq hb hk
 simp only [execOp, ho, hx, hy]
 go_simp
theorem var_T {g n : Nat} {t : TypeId} {cs : List Value} {w : World} {l : List (Nat × List Value)} (h : Mm w l) (q : Nat) (hk : l[q]? = some (g, cs)) (ha : ∀ w, (isAgg t).run Tryz.prog w = .ok true w) (hs : ∀ w, (sizeOf t).run Tryz.prog w = .ok n w) (hn : cs.length = n) : (loadVar t ⟨g, 0, none⟩).run Tryz.prog w = .ok (.agg cs.toArray) w := by
 have hm := List.mem_of_getElem? hk
 have hcell := run_loadCells_list (P := Tryz.prog) (w := w) ⟨g, 0, none⟩ cs (fun j v hv => by
  have e2 := h.cell hm hv
  rw [show (⟨g, 0, none⟩ : Addr).add j = ⟨g, j, none⟩ from by unfold Addr.add; split <;> simp_all]
  exact e2)
 rw [hn] at hcell
 have hf : (loadCellsFrom ⟨g, 0, none⟩ 0 n #[]).run Tryz.prog w = .ok cs.toArray w := hcell
 clear hcell h hk hm
 simp only [loadVar]
 go_simp
theorem ex_makeC {P : Program} {ρ : Operand → Value} {o : Oper} {f : FuncId} {xs : Array Operand} {vs : Array Value} {w : World} (ho : o.op = .makeFunc (.func f) #[] xs) (hx : xs.map ρ = vs) :
  (execOp ρ o).run P w = .ok (.value (.func (.func f) #[] vs)) w := by
 subst hx
 simp only [execOp, ho]
 simp [go_sem, Instr.makeFunc]
theorem ex_makeM {P : Program} {ρ : Operand → Value} {o : Oper} {f : FuncId} {xs : Array Operand} {vs : Array Value} {w : World} (ho : o.op = .makeFunc (.func f) xs #[]) (hx : xs.map ρ = vs) :
  (execOp ρ o).run P w = .ok (.value (.func (.func f) vs #[])) w := by
 subst hx
 simp only [execOp, ho]
 simp [go_sem, Instr.makeFunc]
theorem ex_callV {P : Program} {ρ : Operand → Value} {o : Oper} {f : FuncId} {y : Operand} {xs : Array Operand} {ts : Array TypeId} {fs bs cs args : Array Value} {w : World} (ho : o.op = .call { callee := .value y, args := xs, argTypes := ts }) (hc : ∀ args w, (callFunc f args).run P w = .ok (.enter f args) w) (hf : ρ y = .func (.func f) fs cs) (hx : xs.map ρ = bs) (ha : fs ++ bs ++ cs = args) :
  (execOp ρ o).run P w = .ok (.enter f args) w := by
 subst ha
 simp only [execOp, ho, resolve, hf, hx]
 simp [go_sem, Deferred.ofValue, invoke, hc]
theorem ex_madeGN {ρ : Operand → Value} {o : Oper} {w : World} (ho : o.op = .alloc 159) :
  (execOp ρ o).run Tryz.prog w = .ok (.value (.pointer (some ⟨w.heap.size, 0, none⟩))) (w.alloc (.cells ([Value.nilFunc, Value.nilFunc, Value.nilFunc, Value.nilFunc, Value.nilFunc] ++ (cel [0, 0] ++ [Value.nilFunc, Value.int .i64 0])).toArray 159)) := by
 rw [show cel [0, 0] = [.int .u64 0, .int .u64 0, .int .u64 0, .int .u64 0, .int .u64 0, .int .u64 0, .int .u64 0, .int .u64 0, .int .u64 0, .int .u64 0, .int .u64 0, .int .u64 0] from cel_zero 2]
 simp only [List.cons_append, List.nil_append]
 simp only [execOp, ho]
 go_simp
theorem exec_eqT152 {ρ : Operand → Value} {o : Oper} {i j : Tmp} {v v' : Array Value} {t : Bool} {w : World} (he : ∀ w, (Op.equalIn 10000 152 (.agg v) (.agg v')).run Tryz.prog w = .ok t w) (ho : o.op = .binOp .eql 152 (.tmp i) (.tmp j) 152) (hx : ρ (.tmp i) = .agg v) (hy : ρ (.tmp j) = .agg v') :
  (execOp ρ o).run Tryz.prog w = .ok (.value (.bool t)) w := by
 simp only [execOp, ho, hx, hy]
 clear hx hy
 go_simp
theorem ex_buildPNt {ρ : Operand → Value} {o : Oper} {x2 : Operand} {w : World} (ho : o.op = .build 152 #[(2, x2)]) (h2 : ρ x2 = .bool true) : (execOp ρ o).run Tryz.prog w = .ok (.value (.agg (cel [0, 0] ++ [Value.bool true]).toArray)) w := by
 simp only [execOp, ho, cel, List.cons_append, List.nil_append]
 go_simp
 simp [wd_zero]
/-! Equality. -/
theorem run_eqGD (D a b : Nat) (ha : a < big) (hb : b < big) (w : World) : (Op.equalIn (D + 2) 24 (N a) (N b)).run Tryz.prog w = .ok (decide (a = b)) w := by
 have h := run_eq6' (D + 1) (fun a b w => run_equalIn_int w D 22 .u64 .u64 a b (by kernel_rfl)) (wd a 0) (wd a 1) (wd a 2) (wd a 3) (wd a 4) (wd a 5) (wd b 0) (wd b 1) (wd b 2) (wd b 3) (wd b 4) (wd b 5) w
 rw [num_eq a b ha hb] at h
 exact h
theorem run_eqB (D : Nat) (a b : Bool) (w : World) : (Op.equalIn (D + 1) 4 (.bool a) (.bool b)).run Tryz.prog w = .ok (a == b) w := by
 simp only [Op.equalIn, Sem.run_bind, run_underlying (show Tryz.prog.underlying 4 = some .bool by kernel_rfl), Result.andThen_ok]
 rfl
theorem run_eqPN' (D a b a' b' : Nat) (z z' p0 p1 p2 : Bool) (hi0 : ∀ w, (Op.equalIn D 24 (N a) (N a')).run Tryz.prog w = .ok p0 w) (hi1 : ∀ w, (Op.equalIn D 24 (N b) (N b')).run Tryz.prog w = .ok p1 w) (hi2 : ∀ w, (Op.equalIn D 4 (.bool z) (.bool z')).run Tryz.prog w = .ok p2 w) (w : World) :
  (Op.equalIn (D + 1) 152 (.agg (cel [a, b] ++ [Value.bool z]).toArray) (.agg (cel [a', b'] ++ [Value.bool z']).toArray)).run Tryz.prog w = .ok (p0 && (p1 && p2)) w := by
 have hst : Tryz.prog.stoodInHeld 152 = false := by kernel_rfl
 have hp : ∀ (a b : Nat) (z : Bool) (w : World), (Go.part 24 (cel [a, b] ++ [Value.bool z]).toArray 0).run Tryz.prog w = .ok (N a) w ∧ (Go.part 24 (cel [a, b] ++ [Value.bool z]).toArray 6).run Tryz.prog w = .ok (N b) w ∧ (Go.part 4 (cel [a, b] ++ [Value.bool z]).toArray 12).run Tryz.prog w = .ok (.bool z) w := fun a b z w => ⟨by kernel_rfl, by kernel_rfl, by kernel_rfl⟩
 have q1 := hp a b z
 have q2 := hp a' b' z'
 clear hp
 generalize (cel [a, b] ++ [Value.bool z]).toArray = xs at *
 generalize (cel [a', b'] ++ [Value.bool z']).toArray = ys at *
 simp only [Op.equalIn, Sem.run_bind, run_underlying Tryz.underlying152, Result.andThen_ok]
 simp [hst, hi0, hi1, hi2, q1, q2]
 cases p0 <;> cases p1 <;> cases p2 <;> simp
theorem run_eqPN (a b a' b' : Nat) (z z' : Bool) (ha : a < big) (hb : b < big) (ha' : a' < big) (hb' : b' < big) (w : World) :
  (Op.equalIn 10000 152 (.agg (cel [a, b] ++ [Value.bool z]).toArray) (.agg (cel [a', b'] ++ [Value.bool z']).toArray)).run Tryz.prog w = .ok (decide (a = a') && (decide (b = b') && (z == z'))) w :=
 run_eqPN' 9999 a b a' b' z z' _ _ _ (fun w => run_eqGD 9997 a a' ha ha' w) (fun w => run_eqGD 9997 b b' hb hb' w) (fun w => run_eqB 9998 z z' w) w
abbrev G1 (g : Nat) (tn : Value) (u b : Nat) : List Value := [Value.func (.func 28) #[PT g 0] #[], Value.func (.func 76) #[PT g 0] #[], Value.func (.func 126) #[PT g 0] #[], Value.func (.func 31) #[PT g 0] #[], Value.func (.func 127) #[] #[]] ++ (cel [u, b] ++ [tn, Value.int .i64 2])
/-- What the functions of the first field do. -/
structure Fd1 (g : Nat) {α : Type} (en : α → Nat) (fa fs fm : α → α → α) (fi : α → α) (z : α) : Prop where
 ca : ∀ x y w, Mm w [(g, modc pB), (0, dtab)] → Calls Tryz.prog 28 #[PT g 0, N (en x), N (en y)] w (Rt w (N (en (fa x y))))
 cs : ∀ x y w, Mm w [(g, modc pB), (0, dtab)] → Calls Tryz.prog 76 #[PT g 0, N (en x), N (en y)] w (Rt w (N (en (fs x y))))
 cm : ∀ x y w, Mm w [(g, modc pB), (0, dtab)] → Calls Tryz.prog 126 #[PT g 0, N (en x), N (en y)] w (Rt w (N (en (fm x y))))
 cz : ∀ x w, Mm w [(g, modc pB), (0, dtab)] → Calls Tryz.prog 76 #[PT g 0, N 0, N (en x)] w (Rt w (N (en (fs z x))))
 ci : ∀ x w, x ≠ z → Mm w [(g, modc pB), (0, dtab)] → Calls Tryz.prog 31 #[PT g 0, N (en x)] w (Rt w (.tuple #[N (en (fi x)), .int .i64 0]))
theorem Fd1.ks {α : Type} {en : α → Nat} {fa fs fm : α → α → α} {fi : α → α} {z : α} {g : Nat} (C : Fd1 g en fa fs fm fi z) {x y r : α} (e : fs x y = r) (w : World) (hm : Mm w [(g, modc pB), (0, dtab)]) : Calls Tryz.prog 76 #[PT g 0, N (en x), N (en y)] w (Rt w (N (en r))) := by
 subst e
 exact C.cs x y w hm
abbrev G2 (tn : Value) (u0 u1 b0 b1 : Nat) : List Value := [Value.func (.func 137) #[] #[], Value.func (.func 138) #[] #[], Value.func (.func 139) #[] #[], Value.func (.func 140) #[] #[], Value.func (.func 141) #[] #[]] ++ (cel [u0, u1, b0, b1] ++ [tn, Value.int .i64 1])
/-- What the functions of the second field do. -/
structure Fd2 {α : Type} (e0 e1 : α → Nat) (fa fs fm : α → α → α) (fi : α → α) (z : α) : Prop where
 ca : ∀ x y w, Mm w [(0, dtab)] → Calls Tryz.prog 137 #[V [e0 x, e1 x], V [e0 y, e1 y]] w (Rt w (V [e0 (fa x y), e1 (fa x y)]))
 cs : ∀ x y w, Mm w [(0, dtab)] → Calls Tryz.prog 138 #[V [e0 x, e1 x], V [e0 y, e1 y]] w (Rt w (V [e0 (fs x y), e1 (fs x y)]))
 cm : ∀ x y w, Mm w [(0, dtab)] → Calls Tryz.prog 139 #[V [e0 x, e1 x], V [e0 y, e1 y]] w (Rt w (V [e0 (fm x y), e1 (fm x y)]))
 cz : ∀ x w, Mm w [(0, dtab)] → Calls Tryz.prog 138 #[V [0, 0], V [e0 x, e1 x]] w (Rt w (V [e0 (fs z x), e1 (fs z x)]))
 ci : ∀ x w, x ≠ z → Mm w [(0, dtab)] → Calls Tryz.prog 140 #[V [e0 x, e1 x]] w (Rt w (.tuple #[V [e0 (fi x), e1 (fi x)], .int .i64 0]))
theorem Fd2.ks {α : Type} {e0 e1 : α → Nat} {fa fs fm : α → α → α} {fi : α → α} {z : α} (C : Fd2 e0 e1 fa fs fm fi z) {x y r : α} (e : fs x y = r) (w : World) (hm : Mm w [(0, dtab)]) : Calls Tryz.prog 138 #[V [e0 x, e1 x], V [e0 y, e1 y]] w (Rt w (V [e0 r, e1 r])) := by
 subst e
 exact C.cs x y w hm
end Rg
end Go.Proofs.YtahghpkjkfaieaaGreatDoor
end
section
namespace Go.Proofs.YtahghpkjkfaieaaGreatDoor
namespace EC
/-- A commutative ring, by its operations. -/
structure Rng (α : Type) where
 add : α → α → α
 mul : α → α → α
 zero : α
 one : α
 neg : α → α
 add_comm : ∀ a b, add a b = add b a
 add_assoc : ∀ a b c, add (add a b) c = add a (add b c)
 zero_add : ∀ a, add zero a = a
 neg_add : ∀ a, add (neg a) a = zero
 mul_comm : ∀ a b, mul a b = mul b a
 mul_assoc : ∀ a b c, mul (mul a b) c = mul a (mul b c)
 one_mul : ∀ a, mul one a = a
 mul_add : ∀ a b c, mul a (add b c) = add (mul a b) (mul a c)
section
variable {α : Type} (R : Rng α)
theorem Rng.add_zero (a : α) : R.add a R.zero = a := by rw [R.add_comm, R.zero_add]
theorem Rng.add_neg (a : α) : R.add a (R.neg a) = R.zero := by rw [R.add_comm, R.neg_add]
theorem Rng.left_comm (a b c : α) : R.add a (R.add b c) = R.add b (R.add a c) := by rw [← R.add_assoc, R.add_comm a b, R.add_assoc]
theorem Rng.cancel {a b c : α} (h : R.add a b = R.add a c) : b = c := by
 have h2 := congrArg (R.add (R.neg a)) h
 rw [← R.add_assoc, ← R.add_assoc, R.neg_add, R.zero_add, R.zero_add] at h2
 exact h2
theorem Rng.mul_zero (a : α) : R.mul a R.zero = R.zero := by
 refine R.cancel (a := R.mul a R.zero) ?_
 rw [← R.mul_add, R.zero_add, R.add_zero]
theorem Rng.zero_mul (a : α) : R.mul R.zero a = R.zero := by rw [R.mul_comm, R.mul_zero]
theorem Rng.add_mul (a b c : α) : R.mul (R.add a b) c = R.add (R.mul a c) (R.mul b c) := by
 rw [R.mul_comm, R.mul_add, R.mul_comm c, R.mul_comm c]
theorem Rng.neg_eq {a b : α} (h : R.add a b = R.zero) : b = R.neg a := by
 refine R.cancel (a := a) ?_
 rw [h, R.add_neg]
theorem Rng.mul_neg (a b : α) : R.mul a (R.neg b) = R.neg (R.mul a b) := by
 refine R.neg_eq ?_
 rw [← R.mul_add, R.add_neg, R.mul_zero]
theorem Rng.neg_zero : R.neg R.zero = R.zero := by
 have h := R.add_neg R.zero
 rw [R.zero_add] at h
 exact h
theorem Rng.neg_add_rev (a b : α) : R.neg (R.add a b) = R.add (R.neg a) (R.neg b) := by
 symm
 refine R.neg_eq ?_
 rw [R.add_assoc, R.left_comm b, ← R.add_assoc, R.add_neg, R.zero_add, R.add_neg]
theorem Rng.four (a b c d : α) : R.add (R.add a b) (R.add c d) = R.add (R.add a c) (R.add b d) := by
 rw [R.add_assoc, R.left_comm b, ← R.add_assoc]
theorem Rng.mul_left_comm (a b c : α) : R.mul a (R.mul b c) = R.mul b (R.mul a c) := by rw [← R.mul_assoc, R.mul_comm a b, R.mul_assoc]
end
/-- What is calculated with. -/
structure Ops (β : Type _) where
 add : β → β → β
 mul : β → β → β
 zero : β
 neg : β → β
 isz : β → Bool
structure Sound {α β : Type} (R : Rng α) (O : Ops β) (ev : β → α) : Prop where
 add : ∀ a b, ev (O.add a b) = R.add (ev a) (ev b)
 mul : ∀ a b, ev (O.mul a b) = R.mul (ev a) (ev b)
 zero : ev O.zero = R.zero
 neg : ∀ a, ev (O.neg a) = R.neg (ev a)
 isz : ∀ a, O.isz a = true → ev a = R.zero
/-! Lists of coefficients: the lowest first. -/
section
variable {α β : Type} (R : Rng α) (O : Ops β)
def ladd : List β → List β → List β
 | [], q => q
 | a :: p, [] => a :: p
 | a :: p, b :: q => O.add a b :: ladd p q
def lsc (c : β) (q : List β) : List β := q.map (O.mul c)
def lmul : List β → List β → List β
 | [], _ => []
 | a :: p, q => if O.isz a then O.zero :: lmul p q else ladd O (lsc O a q) (O.zero :: lmul p q)
def lops : Ops (List β) where
 add := ladd O
 mul := lmul O
 zero := []
 neg := fun p => p.map O.neg
 isz := fun p => p.all O.isz
def lev (ev : β → α) (x : α) : List β → α
 | [] => R.zero
 | a :: p => R.add (ev a) (R.mul x (lev ev x p))
variable {R O} {ev : β → α}
theorem lev_add (S : Sound R O ev) (x : α) : ∀ p q, lev R ev x (ladd O p q) = R.add (lev R ev x p) (lev R ev x q)
 | [], q => (R.zero_add _).symm
 | a :: p, [] => (R.add_zero _).symm
 | a :: p, b :: q => by
  show R.add (ev (O.add a b)) (R.mul x (lev R ev x (ladd O p q))) = R.add (R.add (ev a) (R.mul x (lev R ev x p))) (R.add (ev b) (R.mul x (lev R ev x q)))
  rw [lev_add S x p q, S.add, R.mul_add, R.four]
theorem lev_sc (S : Sound R O ev) (x : α) (c : β) : ∀ q, lev R ev x (lsc O c q) = R.mul (ev c) (lev R ev x q)
 | [] => (R.mul_zero _).symm
 | b :: q => by
  show R.add (ev (O.mul c b)) (R.mul x (lev R ev x (lsc O c q))) = R.mul (ev c) (R.add (ev b) (R.mul x (lev R ev x q)))
  rw [lev_sc S x c q, S.mul, R.mul_add, R.mul_left_comm x]
theorem lev_mul (S : Sound R O ev) (x : α) : ∀ p q, lev R ev x (lmul O p q) = R.mul (lev R ev x p) (lev R ev x q)
 | [], q => (R.zero_mul _).symm
 | a :: p, q => by
  have hz : lev R ev x (O.zero :: lmul O p q) = R.mul x (R.mul (lev R ev x p) (lev R ev x q)) := by
   show R.add (ev O.zero) (R.mul x (lev R ev x (lmul O p q))) = _
   rw [S.zero, R.zero_add, lev_mul S x p q]
  have hg : R.mul (lev R ev x (a :: p)) (lev R ev x q) = R.add (R.mul (ev a) (lev R ev x q)) (R.mul x (R.mul (lev R ev x p) (lev R ev x q))) := by
   show R.mul (R.add (ev a) (R.mul x (lev R ev x p))) (lev R ev x q) = _
   rw [R.add_mul, R.mul_assoc]
  rw [hg]
  unfold lmul
  split
  ·next h =>
   rw [S.isz a h, R.zero_mul, R.zero_add, hz]
  ·rw [lev_add S x, lev_sc S x, hz]
theorem lops_sound (S : Sound R O ev) (x : α) : Sound R (lops O) (lev R ev x) where
 add := lev_add S x
 mul := lev_mul S x
 zero := rfl
 neg := fun p => by
  show lev R ev x (p.map O.neg) = _
  induction p with
  | nil => exact R.neg_zero.symm
  | cons a p ih =>
   show R.add (ev (O.neg a)) (R.mul x (lev R ev x (p.map O.neg))) = R.neg (R.add (ev a) (R.mul x (lev R ev x p)))
   rw [ih, S.neg, R.mul_neg, R.neg_add_rev]
 isz := fun p h => by
  have h' : p.all O.isz = true := h
  clear h
  induction p with
  | nil => rfl
  | cons a p ih =>
   simp only [List.all_cons, Bool.and_eq_true] at h'
   show R.add (ev a) (R.mul x (lev R ev x p)) = R.zero
   rw [S.isz a h'.1, ih h'.2, R.mul_zero, R.zero_add]
end
/-! Roots: u + v y, y y being d. -/
section
variable {α β : Type} (R : Rng α) (O : Ops β)
def xops (d : β) : Ops (β × β) where
 add := fun a b => (O.add a.1 b.1, O.add a.2 b.2)
 mul := fun a b => (O.add (O.mul a.1 b.1) (O.mul d (O.mul a.2 b.2)), O.add (O.mul a.1 b.2) (O.mul a.2 b.1))
 zero := (O.zero, O.zero)
 neg := fun a => (O.neg a.1, O.neg a.2)
 isz := fun a => O.isz a.1 && O.isz a.2
def xev (ev : β → α) (y : α) (a : β × β) : α := R.add (ev a.1) (R.mul y (ev a.2))
theorem xops_sound {R} {O} {ev : β → α} (S : Sound R O ev) {d : β} {y : α} (hy : R.mul y y = ev d) : Sound R (xops O d) (xev R ev y) where
 add := fun a b => by
  show R.add (ev (O.add a.1 b.1)) (R.mul y (ev (O.add a.2 b.2))) = R.add (R.add (ev a.1) (R.mul y (ev a.2))) (R.add (ev b.1) (R.mul y (ev b.2)))
  rw [S.add, S.add, R.mul_add, R.four]
 mul := fun a b => by
  show R.add (ev (O.add (O.mul a.1 b.1) (O.mul d (O.mul a.2 b.2)))) (R.mul y (ev (O.add (O.mul a.1 b.2) (O.mul a.2 b.1)))) = R.mul (R.add (ev a.1) (R.mul y (ev a.2))) (R.add (ev b.1) (R.mul y (ev b.2)))
  rw [S.add, S.add, S.mul, S.mul, S.mul, S.mul, S.mul, ← hy]
  rw [R.add_mul, R.mul_add, R.mul_add, R.mul_add]
  have e1 : R.mul (R.mul y (ev a.2)) (R.mul y (ev b.2)) = R.mul (R.mul y y) (R.mul (ev a.2) (ev b.2)) := by
   rw [R.mul_assoc, R.mul_assoc, R.mul_left_comm (ev a.2)]
  have e2 : R.mul (R.mul y (ev a.2)) (ev b.1) = R.mul y (R.mul (ev a.2) (ev b.1)) := R.mul_assoc _ _ _
  have e3 : R.mul (ev a.1) (R.mul y (ev b.2)) = R.mul y (R.mul (ev a.1) (ev b.2)) := R.mul_left_comm _ _ _
  rw [e1, e2, e3]
  rw [R.add_comm (R.mul y (R.mul (ev a.2) (ev b.1))), R.four]
 zero := by
  show R.add (ev O.zero) (R.mul y (ev O.zero)) = R.zero
  rw [S.zero, R.mul_zero, R.zero_add]
 neg := fun a => by
  show R.add (ev (O.neg a.1)) (R.mul y (ev (O.neg a.2))) = R.neg (R.add (ev a.1) (R.mul y (ev a.2)))
  rw [S.neg, S.neg, R.mul_neg, R.neg_add_rev]
 isz := fun a h => by
  have h' : (O.isz a.1 && O.isz a.2) = true := h
  simp only [Bool.and_eq_true] at h'
  show R.add (ev a.1) (R.mul y (ev a.2)) = R.zero
  rw [S.isz _ h'.1, S.isz _ h'.2, R.mul_zero, R.zero_add]
end
/-! Integers. -/
section
variable {α : Type} (R : Rng α)
def nc : Nat → α
 | 0 => R.zero
 | n + 1 => R.add R.one (nc n)
def ic : Int → α
 | .ofNat n => nc R n
 | .negSucc n => R.neg (nc R (n + 1))
theorem nc_add (m : Nat) : ∀ n, nc R (n + m) = R.add (nc R n) (nc R m)
 | 0 => by rw [Nat.zero_add]; exact (R.zero_add _).symm
 | n + 1 => by
  rw [Nat.succ_add]
  show R.add R.one (nc R (n + m)) = R.add (R.add R.one (nc R n)) (nc R m)
  rw [nc_add m n, R.add_assoc]
theorem nc_mul (m : Nat) : ∀ n, nc R (n * m) = R.mul (nc R n) (nc R m)
 | 0 => by rw [Nat.zero_mul]; exact (R.zero_mul _).symm
 | n + 1 => by
  rw [Nat.succ_mul, nc_add, nc_mul m n]
  show _ = R.mul (R.add R.one (nc R n)) (nc R m)
  rw [R.add_mul, R.one_mul, R.add_comm]
theorem ic_sub (m n : Nat) : ic R ((m : Int) - (n : Int)) = R.add (nc R m) (R.neg (nc R n)) := by
 rcases Nat.le_total n m with h | h
 ·obtain ⟨k, rfl⟩ := Nat.exists_eq_add_of_le h
  rw [show ((n + k : Nat) : Int) - (n : Int) = ((k : Nat) : Int) by omega]
  show nc R k = _
  rw [nc_add, R.add_comm (nc R n), R.add_assoc, R.add_neg, R.add_zero]
 ·obtain ⟨k, rfl⟩ := Nat.exists_eq_add_of_le h
  rw [show (m : Int) - ((m + k : Nat) : Int) = -((k : Nat) : Int) by omega]
  have e : ic R (-((k : Nat) : Int)) = R.neg (nc R k) := by
   cases k with
   | zero => exact R.neg_zero.symm
   | succ k => rfl
  rw [e, nc_add, R.neg_add_rev, ← R.add_assoc, R.add_neg, R.zero_add]
theorem int_sub (a : Int) : ∃ m n : Nat, a = (m : Int) - (n : Int) := by
 cases a with
 | ofNat n => exact ⟨n, 0, by simp⟩
 | negSucc n => exact ⟨0, n + 1, by omega⟩
theorem Rng.neg_neg (a : α) : R.neg (R.neg a) = a := (R.neg_eq (R.neg_add a)).symm
theorem ic_add (a b : Int) : ic R (a + b) = R.add (ic R a) (ic R b) := by
 obtain ⟨m, n, rfl⟩ := int_sub a
 obtain ⟨k, l, rfl⟩ := int_sub b
 rw [show (m : Int) - (n : Int) + ((k : Int) - (l : Int)) = ((m + k : Nat) : Int) - ((n + l : Nat) : Int) by omega, ic_sub, ic_sub, ic_sub, nc_add, nc_add, R.neg_add_rev, R.four]
theorem ic_neg (a : Int) : ic R (-a) = R.neg (ic R a) := by
 obtain ⟨m, n, rfl⟩ := int_sub a
 rw [show -((m : Int) - (n : Int)) = (n : Int) - (m : Int) by omega, ic_sub, ic_sub, R.neg_add_rev, R.neg_neg, R.add_comm]
theorem ic_mul (a b : Int) : ic R (a * b) = R.mul (ic R a) (ic R b) := by
 obtain ⟨m, n, rfl⟩ := int_sub a
 obtain ⟨k, l, rfl⟩ := int_sub b
 have e : ((m : Int) - (n : Int)) * ((k : Int) - (l : Int)) = ((m * k + n * l : Nat) : Int) - ((m * l + n * k : Nat) : Int) := by
  rw [Int.natCast_add, Int.natCast_add, Int.natCast_mul, Int.natCast_mul, Int.natCast_mul, Int.natCast_mul]
  grind
 have nm : ∀ x y, R.mul (R.neg x) y = R.neg (R.mul x y) := fun x y => by rw [R.mul_comm, R.mul_neg, R.mul_comm]
 rw [e, ic_sub, ic_sub, ic_sub, nc_add, nc_add, nc_mul, nc_mul, nc_mul, nc_mul, R.add_mul, R.mul_add, R.mul_add, R.mul_neg, nm, nm, R.mul_neg, R.neg_neg, R.neg_add_rev]
 rw [R.four, R.add_comm (R.mul (nc R n) (nc R l))]
def iops : Ops Int where
 add := Int.add
 mul := Int.mul
 zero := 0
 neg := Int.neg
 isz := fun a => a == 0
theorem iops_sound : Sound R iops (ic R) where
 add := ic_add R
 mul := ic_mul R
 zero := rfl
 neg := ic_neg R
 isz := fun a h => by
  have : a = 0 := by simpa [iops] using h
  rw [this]
  rfl
end
/-! The curve's sum by three numbers. -/
section
variable {β : Type _} (O : Ops β)
abbrev Tri (β : Type _) := β × β × β
def osub (a b : β) : β := O.add a (O.neg b)
def o3 (a : β) : β := O.add (O.add a a) a
def tog (b : β) (p q : Tri β) : Tri β :=
 let xx := O.mul p.1 q.1
 let yy := O.mul p.2.1 q.2.1
 let zz := O.mul p.2.2 q.2.2
 let xy := O.add (O.mul p.1 q.2.1) (O.mul p.2.1 q.1)
 let yz := O.add (O.mul p.2.1 q.2.2) (O.mul p.2.2 q.2.1)
 let xz := O.add (O.mul p.1 q.2.2) (O.mul p.2.2 q.1)
 let xx3 := o3 O xx
 let xz3 := o3 O (O.mul b xz)
 let zz3 := o3 O (O.mul b zz)
 let less := osub O yy zz3
 let more := O.add yy zz3
 (osub O (O.mul less xy) (O.mul yz xz3), O.add (O.mul less more) (O.mul xx3 xz3), O.add (O.mul more yz) (O.mul xx3 xy))
end
abbrev P1 := List Int
abbrev P2 := List P1
abbrev P3 := List P2
abbrev P4 := List P3
def o1 := lops iops
def o2 := lops o1
def o3_ := lops o2
def o4 := lops o3_
/-- b; the three x; what their y y are. -/
def cb : P4 := [[[[0, 1]]]]
def cx1 : P4 := [[[[], [1]]]]
def cx2 : P4 := [[[], [[1]]]]
def cx3 : P4 := [[], [[[1]]]]
def c1 : P4 := [[[[1]]]]
def cd (x : P4) : P4 := o4.add (o4.mul x (o4.mul x x)) cb
def e1 := xops o4 (cd cx1)
def e2 := xops e1 (cd cx2, [])
def e3 := xops e2 ((cd cx3, []), ([], []))
abbrev El := ((P4 × P4) × (P4 × P4)) × ((P4 × P4) × (P4 × P4))
def up (p : P4) : El := (((p, []), ([], [])), (([], []), ([], [])))
def y1_ : El := ((([], c1), ([], [])), (([], []), ([], [])))
def y2_ : El := ((([], []), (c1, [])), (([], []), ([], [])))
def y3_ : El := ((([], []), ([], [])), ((c1, []), ([], [])))
def A : Tri El := (up cx1, y1_, up c1)
def B : Tri El := (up cx2, y2_, up c1)
def C : Tri El := (up cx3, y3_, up c1)
def l1 : El := ((([], [[[[], [0, 0, 0, 0, -32], [], [], [0, 0, 0, 4]], [[0, 0, 0, 0, -96], [], [], [0, 0, 0, 48]], [[], [], [0, 0, 0, 144]], [[], [0, 0, 0, 128], [], [], [0, 0, 2]], [[0, 0, 0, 12], [], [], [0, 0, -6]], [[], [], [0, 0, -18]], [[], [0, 0, -2], [], [], [0, -2]]], [[[0, 0, 0, 0, 192], [], [], [0, 0, 0, -24]], [[], [], [0, 0, 0, -216]], [[], [0, 0, 0, -72], [], [], [0, 0, -18]], [[0, 0, 0, 24], [], [], [0, 0, -192]], [[], [], [0, 0, -216]], [[], [0, 0, -72], [], [], [0, -18]], [[0, 0, -6], [], [], [0, -6]]], [], [[[], [0, 0, 0, 16], [], [], [0, 0, -2]], [[0, 0, 0, 48], [], [], [0, 0, -24]], [[], [], [0, 0, -72]], [[], [0, 0, -64], [], [], [0, -1]], [[0, 0, -6], [], [], [0, 3]], [[], [], [0, 9]], [[], [0, 1], [], [], [1]]]]), ([[[[], [0, 0, 0, 0, -96], [], [], [0, 0, 0, 12]], [[0, 0, 0, 0, -32], [], [], [0, 0, 0, 128], [], [], [0, 0, -2]], [[], [], [0, 0, 0, 144], [], [], [0, 0, -18]], [[], [0, 0, 0, 48], [], [], [0, 0, -6]], [[0, 0, 0, 4], [], [], [0, 0, 2], [], [], [0, -2]]], [[[0, 0, 0, 0, 192], [], [], [0, 0, 0, 24], [], [], [0, 0, -6]], [[], [], [0, 0, 0, -72], [], [], [0, 0, -72]], [[], [0, 0, 0, -216], [], [], [0, 0, -216]], [[0, 0, 0, -24], [], [], [0, 0, -192], [], [], [0, -6]], [[], [], [0, 0, -18], [], [], [0, -18]]], [], [[[], [0, 0, 0, 48], [], [], [0, 0, -6]], [[0, 0, 0, 16], [], [], [0, 0, -64], [], [], [0, 1]], [[], [], [0, 0, -72], [], [], [0, 9]], [[], [0, 0, -24], [], [], [0, 3]], [[0, 0, -2], [], [], [0, -1], [], [], [1]]]], [])), (([[[[], [0, 0, 0, 0, 192], [], [], [0, 0, 0, 84]], [[0, 0, 0, 0, 192], [], [], [0, 0, 0, 240], [], [], [0, 0, -6]], [[], [], [0, 0, 0, 72], [], [], [0, 0, 18]], [[], [0, 0, 0, 240], [], [], [0, 0, 132]], [[0, 0, 0, 84], [], [], [0, 0, 132], [], [], [0, -6]], [[], [], [0, 0, 18], [], [], [0, -36]], [[], [0, 0, -6], [], [], [0, -6]]], [[[0, 0, 0, 0, -32], [], [], [0, 0, 0, -88], [], [], [0, 0, -2]], [[], [], [0, 0, 0, -216]], [[], [0, 0, 0, -216]], [[0, 0, 0, -88], [], [], [0, 0, 100], [], [], [0, -1]], [[], [], [], [], [], [0, -27]], [[], [], [], [], [0, -27]], [[0, 0, -2], [], [], [0, -1], [], [], [1]]]], []), ([], [[[[], [0, 0, 0, 192], [], [], [0, 0, 12]], [[0, 0, 0, 192], [], [], [0, 0, 48]], [[], [], [0, 0, 216]], [[], [0, 0, 48], [], [], [0, -24]], [[0, 0, 12], [], [], [0, -24]]], [[[0, 0, 0, -96], [], [], [0, 0, -24]], [[], [], [0, 0, -72]], [[], [0, 0, -72], [], [], [0, -18]], [[0, 0, -24], [], [], [0, -60]], [[], [], [0, -18]]]])))
def l2 : El := ((([[[[0, 0, 0, 0, 0, -224], [], [], [0, 0, 0, 0, -232], [], [], [0, 0, 0, -8]], [[], [], [0, 0, 0, 0, -360], [], [], [0, 0, 0, -36]], [[], [0, 0, 0, 0, -360], [], [], [0, 0, 0, -198]], [[0, 0, 0, 0, -232], [], [], [0, 0, 0, 4], [], [], [0, 0, -7]], [[], [], [0, 0, 0, -198], [], [], [0, 0, -117]], [[], [0, 0, 0, -36], [], [], [0, 0, -117]], [[0, 0, 0, -8], [], [], [0, 0, -7], [], [], [0, 1]]], [[[], [], [0, 0, 0, 0, 360], [], [], [0, 0, 0, 36]], [[], [0, 0, 0, 0, 432], [], [], [0, 0, 0, 108]], [[0, 0, 0, 0, 360], [], [], [0, 0, 0, 288], [], [], [0, 0, 9]], [[], [], [0, 0, 0, 288], [], [], [0, 0, -36]], [[], [0, 0, 0, 108], [], [], [0, 0, -216]], [[0, 0, 0, 36], [], [], [0, 0, -36], [], [], [0, 9]], [[], [], [0, 0, 9], [], [], [0, 9]]], [[[], [0, 0, 0, 0, -288], [], [], [0, 0, 0, -126]], [[0, 0, 0, 0, -288], [], [], [0, 0, 0, -360], [], [], [0, 0, 9]], [[], [], [0, 0, 0, -108], [], [], [0, 0, -27]], [[], [0, 0, 0, -360], [], [], [0, 0, -198]], [[0, 0, 0, -126], [], [], [0, 0, -198], [], [], [0, 9]], [[], [], [0, 0, -27], [], [], [0, 54]], [[], [0, 0, 9], [], [], [0, 9]]], [[[0, 0, 0, 0, 64], [], [], [0, 0, 0, -16], [], [], [0, 0, 1]], [[], [], [0, 0, 0, -144], [], [], [0, 0, 18]], [[], [0, 0, 0, -144], [], [], [0, 0, 99]], [[0, 0, 0, -16], [], [], [0, 0, 148], [], [], [0, 2]], [[], [], [0, 0, 99], [], [], [0, 18]], [[], [0, 0, 18], [], [], [0, 18]], [[0, 0, 1], [], [], [0, 2], [], [], [1]]]], []), ([], [[[[0, 0, 0, 0, -288], [], [], [0, 0, 0, -72]], [[], [], [0, 0, 0, -216]], [[], [0, 0, 0, -216], [], [], [0, 0, -54]], [[0, 0, 0, -72], [], [], [0, 0, -180]], [[], [], [0, 0, -54]]], [[[], [], [0, 0, 0, 216]], [[], [0, 0, 0, 720], [], [], [0, 0, -36]], [[0, 0, 0, 216], [], [], [0, 0, -108]], [[], [], [0, 0, -108]], [[], [0, 0, -36], [], [], [0, 18]]], [[[], [0, 0, 0, -288], [], [], [0, 0, -18]], [[0, 0, 0, -288], [], [], [0, 0, -72]], [[], [], [0, 0, -324]], [[], [0, 0, -72], [], [], [0, 36]], [[0, 0, -18], [], [], [0, 36]]]])), (([], []), ([], [])))
def r1 : El := ((([], [[[[], [0, 0, 0, 0, -32]], [[0, 0, 0, 0, 192]], [], [[], [0, 0, 0, -88]], [[0, 0, 0, 84]], [], [[], [0, 0, -2]]], [[[0, 0, 0, 0, 192]], [], [[], [0, 0, 0, -216]], [[0, 0, 0, 240]], [], [], [[0, 0, -6]]], [[], [[], [0, 0, 0, -216]], [[0, 0, 0, 72]], [], [], [[0, 0, 18]]], [[[], [0, 0, 0, -88]], [[0, 0, 0, 240]], [], [[], [0, 0, 100]], [[0, 0, 132]], [], [[], [0, -1]]], [[[0, 0, 0, 84]], [], [], [[0, 0, 132]], [], [[], [0, -27]], [[0, -6]]], [[], [], [[0, 0, 18]], [], [[], [0, -27]], [[0, -36]]], [[[], [0, 0, -2]], [[0, 0, -6]], [], [[], [0, -1]], [[0, -6]], [], [[], [1]]]]), ([[[[], [0, 0, 0, 0, 192]], [[0, 0, 0, 0, -32], [], [], [0, 0, 0, 16]], [], [[], [0, 0, 0, -24]], [[0, 0, 0, 4], [], [], [0, 0, -2]]], [[[0, 0, 0, 0, -96], [], [], [0, 0, 0, 48]], [], [[], [0, 0, 0, -216]], [[0, 0, 0, 48], [], [], [0, 0, -24]]], [[], [[], [0, 0, 0, -72]], [[0, 0, 0, 144], [], [], [0, 0, -72]], [], [[], [0, 0, -18]]], [[[], [0, 0, 0, 24]], [[0, 0, 0, 128], [], [], [0, 0, -64]], [], [[], [0, 0, -192]], [[0, 0, 2], [], [], [0, -1]]], [[[0, 0, 0, 12], [], [], [0, 0, -6]], [], [[], [0, 0, -216]], [[0, 0, -6], [], [], [0, 3]]], [[], [[], [0, 0, -72]], [[0, 0, -18], [], [], [0, 9]], [], [[], [0, -18]]], [[[], [0, 0, -6]], [[0, 0, -2], [], [], [0, 1]], [], [[], [0, -6]], [[0, -2], [], [], [1]]]], [])), (([[[[], [0, 0, 0, 0, 192]], [[0, 0, 0, 0, -96], [], [], [0, 0, 0, 48]], [], [[], [0, 0, 0, 24]], [[0, 0, 0, 12], [], [], [0, 0, -6]], [], [[], [0, 0, -6]]], [[[0, 0, 0, 0, -32], [], [], [0, 0, 0, 16]], [], [[], [0, 0, 0, -72]], [[0, 0, 0, 128], [], [], [0, 0, -64]], [], [[], [0, 0, -72]], [[0, 0, -2], [], [], [0, 1]]], [[], [[], [0, 0, 0, -216]], [[0, 0, 0, 144], [], [], [0, 0, -72]], [], [[], [0, 0, -216]], [[0, 0, -18], [], [], [0, 9]]], [[[], [0, 0, 0, -24]], [[0, 0, 0, 48], [], [], [0, 0, -24]], [], [[], [0, 0, -192]], [[0, 0, -6], [], [], [0, 3]], [], [[], [0, -6]]], [[[0, 0, 0, 4], [], [], [0, 0, -2]], [], [[], [0, 0, -18]], [[0, 0, 2], [], [], [0, -1]], [], [[], [0, -18]], [[0, -2], [], [], [1]]]], []), ([], [[[[], [0, 0, 0, -96]], [[0, 0, 0, 192]], [], [[], [0, 0, -24]], [[0, 0, 12]]], [[[0, 0, 0, 192]], [], [[], [0, 0, -72]], [[0, 0, 48]]], [[], [[], [0, 0, -72]], [[0, 0, 216]], [], [[], [0, -18]]], [[[], [0, 0, -24]], [[0, 0, 48]], [], [[], [0, -60]], [[0, -24]]], [[[0, 0, 12]], [], [[], [0, -18]], [[0, -24]]]])))
def r2 : El := ((([[[[0, 0, 0, 0, 0, -224], [], [], [0, 0, 0, 0, 64]], [[], [], [0, 0, 0, 0, -288]], [[], [0, 0, 0, 0, 360]], [[0, 0, 0, 0, -232], [], [], [0, 0, 0, -16]], [[], [], [0, 0, 0, -126]], [[], [0, 0, 0, 36]], [[0, 0, 0, -8], [], [], [0, 0, 1]]], [[[], [], [0, 0, 0, 0, -288]], [[], [0, 0, 0, 0, 432]], [[0, 0, 0, 0, -360], [], [], [0, 0, 0, -144]], [[], [], [0, 0, 0, -360]], [[], [0, 0, 0, 108]], [[0, 0, 0, -36], [], [], [0, 0, 18]], [[], [], [0, 0, 9]]], [[[], [0, 0, 0, 0, 360]], [[0, 0, 0, 0, -360], [], [], [0, 0, 0, -144]], [[], [], [0, 0, 0, -108]], [[], [0, 0, 0, 288]], [[0, 0, 0, -198], [], [], [0, 0, 99]], [[], [], [0, 0, -27]], [[], [0, 0, 9]]], [[[0, 0, 0, 0, -232], [], [], [0, 0, 0, -16]], [[], [], [0, 0, 0, -360]], [[], [0, 0, 0, 288]], [[0, 0, 0, 4], [], [], [0, 0, 148]], [[], [], [0, 0, -198]], [[], [0, 0, -36]], [[0, 0, -7], [], [], [0, 2]]], [[[], [], [0, 0, 0, -126]], [[], [0, 0, 0, 108]], [[0, 0, 0, -198], [], [], [0, 0, 99]], [[], [], [0, 0, -198]], [[], [0, 0, -216]], [[0, 0, -117], [], [], [0, 18]], [[], [], [0, 9]]], [[[], [0, 0, 0, 36]], [[0, 0, 0, -36], [], [], [0, 0, 18]], [[], [], [0, 0, -27]], [[], [0, 0, -36]], [[0, 0, -117], [], [], [0, 18]], [[], [], [0, 54]], [[], [0, 9]]], [[[0, 0, 0, -8], [], [], [0, 0, 1]], [[], [], [0, 0, 9]], [[], [0, 0, 9]], [[0, 0, -7], [], [], [0, 2]], [[], [], [0, 9]], [[], [0, 9]], [[0, 1], [], [], [1]]]], []), ([], [])), (([], []), ([[[[0, 0, 0, 0, -288]], [[], [], [0, 0, 0, -288]], [[], [0, 0, 0, 216]], [[0, 0, 0, -72]], [[], [], [0, 0, -18]]], [[[], [], [0, 0, 0, -288]], [[], [0, 0, 0, 720]], [[0, 0, 0, -216]], [[], [], [0, 0, -72]], [[], [0, 0, -36]]], [[[], [0, 0, 0, 216]], [[0, 0, 0, -216]], [[], [], [0, 0, -324]], [[], [0, 0, -108]], [[0, 0, -54]]], [[[0, 0, 0, -72]], [[], [], [0, 0, -72]], [[], [0, 0, -108]], [[0, 0, -180]], [[], [], [0, 36]]], [[[], [], [0, 0, -18]], [[], [0, 0, -36]], [[0, 0, -54]], [[], [], [0, 36]], [[], [0, 18]]]], [])))
def r3 : El := ((([], [[[[0, 0, 0, 0, 160]], [], [[], [0, 0, 0, 120]], [[0, 0, 0, 56]], [], [[], [0, 0, 12]], [[0, 0, 4]]], [[], [[], [0, 0, 0, 144]], [[0, 0, 0, -72]], [], [[], [0, 0, 36]], [[0, 0, 36]]], [[[], [0, 0, 0, 120]], [[0, 0, 0, -72]], [], [[], [0, 0, 96]], [[0, 0, 198]], [], [[], [0, 3]]], [[[0, 0, 0, 56]], [], [[], [0, 0, 96]], [[0, 0, 196]], [], [[], [0, -12]], [[0, 5]]], [[], [[], [0, 0, 36]], [[0, 0, 198]], [], [[], [0, -72]], [[0, 63]]], [[[], [0, 0, 12]], [[0, 0, 36]], [], [[], [0, -12]], [[0, 63]], [], [[], [3]]], [[[0, 0, 4]], [], [[], [0, 3]], [[0, 5]], [], [[], [3]], [[1]]]]), ([[[[0, 0, 0, 0, -128], [], [], [0, 0, 0, -32]], [[], [], [0, 0, 0, 48]], [], [[0, 0, 0, 16], [], [], [0, 0, 4]], [[], [], [0, 0, -6]]], [[[], [], [0, 0, 0, 144]], [], [[0, 0, 0, 144], [], [], [0, 0, 36]], [[], [], [0, 0, -72]]], [[], [[0, 0, 0, 48], [], [], [0, 0, 12]], [[], [], [0, 0, -216]], [], [[0, 0, 12], [], [], [0, 3]]], [[[0, 0, 0, -16], [], [], [0, 0, -4]], [[], [], [0, 0, -192]], [], [[0, 0, 128], [], [], [0, 32]], [[], [], [0, -3]]], [[[], [], [0, 0, -18]], [], [[0, 0, 144], [], [], [0, 36]], [[], [], [0, 9]]], [[], [[0, 0, 48], [], [], [0, 12]], [[], [], [0, 27]], [], [[0, 12], [], [], [3]]], [[[0, 0, 4], [], [], [0, 1]], [[], [], [0, 3]], [], [[0, 4], [], [], [1]], [[], [], [3]]]], [])), (([[[[0, 0, 0, 0, -128], [], [], [0, 0, 0, -32]], [[], [], [0, 0, 0, 144]], [], [[0, 0, 0, -16], [], [], [0, 0, -4]], [[], [], [0, 0, -18]], [], [[0, 0, 4], [], [], [0, 1]]], [[[], [], [0, 0, 0, 48]], [], [[0, 0, 0, 48], [], [], [0, 0, 12]], [[], [], [0, 0, -192]], [], [[0, 0, 48], [], [], [0, 12]], [[], [], [0, 3]]], [[], [[0, 0, 0, 144], [], [], [0, 0, 36]], [[], [], [0, 0, -216]], [], [[0, 0, 144], [], [], [0, 36]], [[], [], [0, 27]]], [[[0, 0, 0, 16], [], [], [0, 0, 4]], [[], [], [0, 0, -72]], [], [[0, 0, 128], [], [], [0, 32]], [[], [], [0, 9]], [], [[0, 4], [], [], [1]]], [[[], [], [0, 0, -6]], [], [[0, 0, 12], [], [], [0, 3]], [[], [], [0, -3]], [], [[0, 12], [], [], [3]], [[], [], [3]]]], []), ([], [[[[0, 0, 0, 96]], [], [[], [0, 0, 72]], [[0, 0, 24]]], [[], [[], [0, 0, 240]], [[0, 0, 72]], [], [[], [0, -12]]], [[[], [0, 0, 72]], [[0, 0, 72]], [], [[], [0, -36]], [[0, 18]]], [[[0, 0, 24]], [], [[], [0, -36]], [[0, 60]]], [[], [[], [0, -12]], [[0, 18]], [], [[], [6]]]])))
/-! What it says in a ring. -/
def rops {α : Type} (R : Rng α) : Ops α where
 add := R.add
 mul := R.mul
 zero := R.zero
 neg := R.neg
 isz := fun _ => false
section
variable {α : Type} (R : Rng α) (b x1 x2 x3 : α)
def v1 := lev R (ic R) b
def v2 := lev R (v1 R b) x1
def v3 := lev R (v2 R b x1) x2
def v4 := lev R (v3 R b x1 x2) x3
theorem s1 : Sound R o1 (v1 R b) := lops_sound (iops_sound R) b
theorem s2 : Sound R o2 (v2 R b x1) := lops_sound (s1 R b) x1
theorem s3 : Sound R o3_ (v3 R b x1 x2) := lops_sound (s2 R b x1) x2
theorem s4 : Sound R o4 (v4 R b x1 x2 x3) := lops_sound (s3 R b x1 x2) x3
theorem ic_1 : ic R 1 = R.one := R.add_zero _
theorem ic_0 : ic R 0 = R.zero := rfl
theorem Rng.mul_one (a : α) : R.mul a R.one = a := by rw [R.mul_comm, R.one_mul]
theorem w_b : v4 R b x1 x2 x3 cb = b := by
 simp only [v4, v3, v2, v1, cb, lev, ic_0, ic_1, R.mul_zero, R.add_zero, R.zero_add, R.mul_one]
theorem w_x1 : v4 R b x1 x2 x3 cx1 = x1 := by
 simp only [v4, v3, v2, v1, cx1, lev, ic_1, R.mul_zero, R.add_zero, R.zero_add, R.mul_one]
theorem w_x2 : v4 R b x1 x2 x3 cx2 = x2 := by
 simp only [v4, v3, v2, v1, cx2, lev, ic_1, R.mul_zero, R.add_zero, R.zero_add, R.mul_one]
theorem w_x3 : v4 R b x1 x2 x3 cx3 = x3 := by
 simp only [v4, v3, v2, v1, cx3, lev, ic_1, R.mul_zero, R.add_zero, R.zero_add, R.mul_one]
def side (x : α) : α := R.add (R.mul x (R.mul x x)) b
theorem w_cd (x : P4) : v4 R b x1 x2 x3 (cd x) = side R b (v4 R b x1 x2 x3 x) := by
 have S := s4 R b x1 x2 x3
 unfold cd side
 rw [S.add, S.mul, S.mul, w_b]
variable (y1 y2 y3 : α)
def u1 := xev R (v4 R b x1 x2 x3) y1
def u2 := xev R (u1 R b x1 x2 x3 y1) y2
def u3 := xev R (u2 R b x1 x2 x3 y1 y2) y3
variable (h1 : R.mul y1 y1 = side R b x1) (h2 : R.mul y2 y2 = side R b x2) (h3 : R.mul y3 y3 = side R b x3)
theorem k1 (h1 : R.mul y1 y1 = side R b x1) : Sound R e1 (u1 R b x1 x2 x3 y1) := xops_sound (s4 R b x1 x2 x3) (by rw [w_cd, w_x1]; exact h1)
theorem k2 (h1 : R.mul y1 y1 = side R b x1) (h2 : R.mul y2 y2 = side R b x2) : Sound R e2 (u2 R b x1 x2 x3 y1 y2) := xops_sound (k1 R b x1 x2 x3 y1 h1) (by
 have e : v4 R b x1 x2 x3 [] = R.zero := rfl
 show _ = R.add (v4 R b x1 x2 x3 (cd cx2)) (R.mul y1 (v4 R b x1 x2 x3 []))
 rw [e, R.mul_zero, R.add_zero, w_cd, w_x2]
 exact h2)
theorem k3 (h1 : R.mul y1 y1 = side R b x1) (h2 : R.mul y2 y2 = side R b x2) (h3 : R.mul y3 y3 = side R b x3) : Sound R e3 (u3 R b x1 x2 x3 y1 y2 y3) := xops_sound (k2 R b x1 x2 x3 y1 y2 h1 h2) (by
 have e : v4 R b x1 x2 x3 [] = R.zero := rfl
 have e2 : u2 R b x1 x2 x3 y1 y2 ((cd cx3, []), ([], [])) = v4 R b x1 x2 x3 (cd cx3) := by simp only [u2, u1, xev, e, R.mul_zero, R.add_zero]
 rw [e2, w_cd, w_x3]
 exact h3)
end
theorem eq_of {α β : Type} {R : Rng α} {O : Ops β} {ev : β → α} (S : Sound R O ev) {a c : β} (h : O.isz (osub O a c) = true) : ev a = ev c := by
 have e := S.isz _ h
 unfold osub at e
 rw [S.add, S.neg] at e
 have e2 : R.add (R.add (ev a) (R.neg (ev c))) (ev c) = R.add R.zero (ev c) := by rw [e]
 rw [R.add_assoc, R.neg_add, R.add_zero, R.zero_add] at e2
 exact e2
end EC
end Go.Proofs.YtahghpkjkfaieaaGreatDoor
end
section
namespace Go.Proofs.YtahghpkjkfaieaaGreatDoor
namespace EC
/-! Expressions, to be calculated by the kernel. -/
def nth {β : Type} (d : β) : List β → Nat → β
 | [], _ => d
 | a :: _, 0 => a
 | _ :: l, i + 1 => nth d l i
theorem nth_map {β J : Type} (f : β → J) (d : β) : ∀ (l : List β) (i : Nat), f (nth d l i) = nth (f d) (l.map f) i
 | [], _ => rfl
 | _ :: _, 0 => rfl
 | _ :: l, i + 1 => nth_map f d l i
structure Ex where
 ev : {β : Type} → Ops β → β → List β → β
 snd : ∀ {α β : Type} {R : Rng α} {O : Ops β} {f : β → α}, Sound R O f → ∀ {one : β}, f one = R.one → ∀ l : List β, f (ev O one l) = ev (rops R) R.one (l.map f)
def Ex.v (i : Nat) : Ex where
 ev := fun O _ l => nth O.zero l i
 snd := by
  intro _ _ R O f S _ _ l
  show f (nth O.zero l i) = nth R.zero (l.map f) i
  rw [nth_map f, S.zero]
def Ex.z : Ex where
 ev := fun O _ _ => O.zero
 snd := by
  intro _ _ _ _ _ S _ _ _
  exact S.zero
def Ex.o : Ex where
 ev := fun _ one _ => one
 snd := by
  intro _ _ _ _ _ _ _ h _
  exact h
def Ex.a (x y : Ex) : Ex where
 ev := fun O one l => O.add (x.ev O one l) (y.ev O one l)
 snd := by
  intro _ _ R O f S _ h l
  show f (O.add _ _) = R.add _ _
  rw [S.add, x.snd S h l, y.snd S h l]
def Ex.m (x y : Ex) : Ex where
 ev := fun O one l => O.mul (x.ev O one l) (y.ev O one l)
 snd := by
  intro _ _ R O f S _ h l
  show f (O.mul _ _) = R.mul _ _
  rw [S.mul, x.snd S h l, y.snd S h l]
def Ex.n (x : Ex) : Ex where
 ev := fun O one l => O.neg (x.ev O one l)
 snd := by
  intro _ _ R O f S _ h l
  show f (O.neg _) = R.neg _
  rw [S.neg, x.snd S h l]
def exo : Ops Ex where
 add := Ex.a
 mul := Ex.m
 zero := Ex.z
 neg := Ex.n
 isz := fun _ => false
theorem Ex.eqs {α β : Type} {R : Rng α} {O : Ops β} {f : β → α} (S : Sound R O f) {one : β} (h1 : f one = R.one) (l : List β) (x y : Ex) (h : O.isz (osub O (x.ev O one l) (y.ev O one l)) = true) : x.ev (rops R) R.one (l.map f) = y.ev (rops R) R.one (l.map f) := by
 rw [← x.snd S h1 l, ← y.snd S h1 l]
 exact eq_of S h
/-! Any eight numbers. -/
abbrev P5 := List P4
abbrev P6 := List P5
abbrev P7 := List P6
abbrev P8 := List P7
def o5 := lops o4
def o6 := lops o5
def o7 := lops o6
def o8 := lops o7
def f1 : P8 := [[[[[[[[0, 1]]]]]]]]
def f2 : P8 := [[[[[[[[], [1]]]]]]]]
def f3 : P8 := [[[[[[[], [[1]]]]]]]]
def f4 : P8 := [[[[[[], [[[1]]]]]]]]
def f5 : P8 := [[[[[], [[[[1]]]]]]]]
def f6 : P8 := [[[[], [[[[[1]]]]]]]]
def f7 : P8 := [[[], [[[[[[1]]]]]]]]
def f8 : P8 := [[], [[[[[[[1]]]]]]]]
def f0 : P8 := [[[[[[[[1]]]]]]]]
theorem ring_f {α : Type} (R : Rng α) (a b c d e f g h : α) (x y : Ex) (hh : o8.isz (osub o8 (x.ev o8 f0 [f1, f2, f3, f4, f5, f6, f7, f8]) (y.ev o8 f0 [f1, f2, f3, f4, f5, f6, f7, f8])) = true) :
  x.ev (rops R) R.one [a, b, c, d, e, f, g, h] = y.ev (rops R) R.one [a, b, c, d, e, f, g, h] := by
 have S : Sound R o8 _ := lops_sound (lops_sound (lops_sound (lops_sound (lops_sound (lops_sound (lops_sound (lops_sound (iops_sound R) a) b) c) d) e) f) g) h
 have t := Ex.eqs S (one := f0) (by
  simp only [f0, lev, ic_1, R.mul_zero, R.add_zero]) _ x y hh
 simp only [List.map_cons, List.map_nil, f1, f2, f3, f4, f5, f6, f7, f8, lev, ic_0, ic_1, R.mul_zero, R.add_zero, R.zero_add, R.mul_one] at t
 exact t
end EC
end Go.Proofs.YtahghpkjkfaieaaGreatDoor
end
section
namespace Go.Proofs.YtahghpkjkfaieaaGreatDoor
namespace EC
structure Crv (α : Type) where
 R : Rng α
 inv : α → α
 b : α
 hinv : ∀ a, a ≠ R.zero → R.mul (inv a) a = R.one
 hb : ∀ t, side R b t ≠ R.zero
 h1 : R.one ≠ R.zero
 h2 : R.add R.one R.one ≠ R.zero
section
variable {α : Type} (C : Crv α)
theorem Crv.can {c a d : α} (hc : c ≠ C.R.zero) (h : C.R.mul c a = C.R.mul c d) : a = d := by
 have e := congrArg (C.R.mul (C.inv c)) h
 rw [← C.R.mul_assoc, ← C.R.mul_assoc, C.hinv c hc, C.R.one_mul, C.R.one_mul] at e
 exact e
theorem Crv.ne {a c : α} (ha : a ≠ C.R.zero) (hc : c ≠ C.R.zero) : C.R.mul a c ≠ C.R.zero := fun h => hc (C.can ha (h.trans (C.R.mul_zero a).symm))
theorem Crv.two {a : α} (ha : a ≠ C.R.zero) : C.R.add a a ≠ C.R.zero := fun h => by
 have e : C.R.mul (C.R.add C.R.one C.R.one) a = C.R.add a a := by rw [C.R.add_mul, C.R.one_mul]
 exact C.ne C.h2 ha (e.trans h)
def Crv.on : Option (α × α) → Prop
 | none => True
 | some (x, y) => C.R.mul y y = side C.R C.b x
def Crv.lift : Option (α × α) → Tri α
 | none => (C.R.zero, C.R.one, C.R.zero)
 | some (x, y) => (x, y, C.R.one)
def Crv.neg : Option (α × α) → Option (α × α)
 | none => none
 | some (x, y) => some (x, C.R.neg y)
abbrev Crv.tog (A B : Tri α) : Tri α := EC.tog (rops C.R) C.b A B
def Crv.sc (c : α) (T : Tri α) : Tri α := (C.R.mul c T.1, C.R.mul c T.2.1, C.R.mul c T.2.2)
def Crv.good (T : Tri α) : Prop := T.2.2 = C.R.zero → T.1 = C.R.zero ∧ T.2.1 ≠ C.R.zero
theorem Crv.y_ne {x y : α} (h : C.on (some (x, y))) : y ≠ C.R.zero := fun e => by
 have h' : C.R.mul y y = side C.R C.b x := h
 rw [e, C.R.mul_zero] at h'
 exact C.hb x h'.symm
open Ex in
theorem Crv.tog_comm (A B : Tri α) : C.tog A B = C.tog B A := by
 obtain ⟨x1, y1, z1⟩ := A
 obtain ⟨x2, y2, z2⟩ := B
 refine Prod.ext ?_ (Prod.ext ?_ ?_)
 ·exact ring_f C.R C.b x1 y1 z1 x2 y2 z2 C.b (EC.tog exo (v 0) (v 1, v 2, v 3) (v 4, v 5, v 6)).1 (EC.tog exo (v 0) (v 4, v 5, v 6) (v 1, v 2, v 3)).1 (by decide +kernel)
 ·exact ring_f C.R C.b x1 y1 z1 x2 y2 z2 C.b (EC.tog exo (v 0) (v 1, v 2, v 3) (v 4, v 5, v 6)).2.1 (EC.tog exo (v 0) (v 4, v 5, v 6) (v 1, v 2, v 3)).2.1 (by decide +kernel)
 ·exact ring_f C.R C.b x1 y1 z1 x2 y2 z2 C.b (EC.tog exo (v 0) (v 1, v 2, v 3) (v 4, v 5, v 6)).2.2 (EC.tog exo (v 0) (v 4, v 5, v 6) (v 1, v 2, v 3)).2.2 (by decide +kernel)
open Ex in
open Ex in
theorem Crv.tog_zero (B : Tri α) : C.tog (C.lift none) B = C.sc B.2.1 B := by
 obtain ⟨x2, y2, z2⟩ := B
 refine Prod.ext ?_ (Prod.ext ?_ ?_)
 ·exact ring_f C.R C.b x2 y2 z2 C.b C.b C.b C.b (EC.tog exo (v 0) (z, o, z) (v 1, v 2, v 3)).1 (m (v 2) (v 1)) (by decide +kernel)
 ·exact ring_f C.R C.b x2 y2 z2 C.b C.b C.b C.b (EC.tog exo (v 0) (z, o, z) (v 1, v 2, v 3)).2.1 (m (v 2) (v 2)) (by decide +kernel)
 ·exact ring_f C.R C.b x2 y2 z2 C.b C.b C.b C.b (EC.tog exo (v 0) (z, o, z) (v 1, v 2, v 3)).2.2 (m (v 2) (v 3)) (by decide +kernel)
theorem Crv.lift_y {P : Option (α × α)} (h : C.on P) : (C.lift P).2.1 ≠ C.R.zero := by
 rcases P with _ | ⟨x, y⟩
 ·exact C.h1
 ·exact C.y_ne h
open Ex in
/-- -b would be a cube. -/
theorem Crv.cube {E w : α} (hE : E ≠ C.R.zero) (h : C.R.add (C.R.mul w (C.R.mul w w)) (C.R.mul C.b (C.R.mul E (C.R.mul E E))) = C.R.zero) : False := by
 refine C.hb (C.R.mul w (C.inv E)) ?_
 refine C.can (C.ne hE (C.ne hE hE)) ?_
 rw [C.R.mul_zero, ← h]
 have e := ring_f C.R C.b E w (C.inv E) C.b C.b C.b C.b (m (m (v 1) (m (v 1) (v 1))) (a (m (m (v 2) (v 3)) (m (m (v 2) (v 3)) (m (v 2) (v 3)))) (v 0))) (a (m (m (v 2) (m (v 2) (v 2))) (m (m (v 3) (v 1)) (m (m (v 3) (v 1)) (m (v 3) (v 1))))) (m (v 0) (m (v 1) (m (v 1) (v 1))))) (by decide +kernel)
 refine Eq.trans e ?_
 show C.R.add (C.R.mul (C.R.mul w (C.R.mul w w)) (C.R.mul (C.R.mul (C.inv E) E) (C.R.mul (C.R.mul (C.inv E) E) (C.R.mul (C.inv E) E)))) (C.R.mul C.b (C.R.mul E (C.R.mul E E))) = _
 rw [C.hinv E hE, C.R.one_mul, C.R.one_mul, C.R.mul_one]
open Ex in
theorem Crv.over {c z x : α} (hc : c ≠ C.R.zero) (hz : z ≠ C.R.zero) : C.R.mul (C.R.mul c x) (C.inv (C.R.mul c z)) = C.R.mul x (C.inv z) := by
 refine C.can (C.ne hc hz) ?_
 have e1 : C.R.mul (C.R.mul c z) (C.R.mul (C.R.mul c x) (C.inv (C.R.mul c z))) = C.R.mul (C.R.mul (C.inv (C.R.mul c z)) (C.R.mul c z)) (C.R.mul c x) := by
  rw [C.R.mul_comm (C.R.mul c x), ← C.R.mul_assoc, C.R.mul_comm (C.R.mul c z)]
 have e2 : C.R.mul (C.R.mul c z) (C.R.mul x (C.inv z)) = C.R.mul (C.R.mul (C.inv z) z) (C.R.mul c x) := by
  rw [C.R.mul_comm x, ← C.R.mul_assoc, C.R.mul_assoc c, C.R.mul_comm z, C.R.mul_comm c, C.R.mul_assoc]
 rw [e1, e2, C.hinv _ (C.ne hc hz), C.hinv z hz]
end
section
variable {α : Type} [DecidableEq α] (C : Crv α)
def Crv.lower (T : Tri α) : Option (α × α) := if T.2.2 = C.R.zero then none else some (C.R.mul T.1 (C.inv T.2.2), C.R.mul T.2.1 (C.inv T.2.2))
def Crv.add (P Q : Option (α × α)) : Option (α × α) := C.lower (C.tog (C.lift P) (C.lift Q))
theorem Crv.lower_none {T : Tri α} (h : T.2.2 = C.R.zero) : C.lower T = none := if_pos h
theorem Crv.lower_some {T : Tri α} (h : T.2.2 ≠ C.R.zero) : C.lower T = some (C.R.mul T.1 (C.inv T.2.2), C.R.mul T.2.1 (C.inv T.2.2)) := if_neg h
theorem Crv.lower_sc {c : α} (hc : c ≠ C.R.zero) (T : Tri α) : C.lower (C.sc c T) = C.lower T := by
 by_cases hz : T.2.2 = C.R.zero
 ·rw [C.lower_none hz, C.lower_none (show C.R.mul c T.2.2 = C.R.zero by rw [hz, C.R.mul_zero])]
 ·rw [C.lower_some hz, C.lower_some (T := C.sc c T) (C.ne hc hz)]
  show some (C.R.mul (C.R.mul c T.1) (C.inv (C.R.mul c T.2.2)), C.R.mul (C.R.mul c T.2.1) (C.inv (C.R.mul c T.2.2))) = _
  rw [C.over hc hz, C.over hc hz]
theorem Crv.lower_lift (P : Option (α × α)) : C.lower (C.lift P) = P := by
 rcases P with _ | ⟨x, y⟩
 ·exact C.lower_none rfl
 ·rw [C.lower_some (T := C.lift (some (x, y))) C.h1]
  have e : C.inv C.R.one = C.R.one := by
   have := C.hinv C.R.one C.h1
   rw [C.R.mul_one] at this
   exact this
  show some (C.R.mul x (C.inv C.R.one), C.R.mul y (C.inv C.R.one)) = _
  rw [e, C.R.mul_one, C.R.mul_one]
theorem Crv.comm (P Q : Option (α × α)) : C.add P Q = C.add Q P := by unfold Crv.add; rw [C.tog_comm]
theorem Crv.zero_add {Q : Option (α × α)} (h : C.on Q) : C.add none Q = Q := by
 unfold Crv.add
 rw [C.tog_zero, C.lower_sc (C.lift_y h), C.lower_lift]
theorem Crv.add_zero {Q : Option (α × α)} (h : C.on Q) : C.add Q none = Q := by rw [C.comm, C.zero_add h]
open Ex in
theorem Crv.add_neg (P : Option (α × α)) : C.add P (C.neg P) = none := by
 rcases P with _ | ⟨x, y⟩
 ·exact C.zero_add (Q := none) trivial
 ·exact C.lower_none (ring_f C.R C.b x y C.b C.b C.b C.b C.b (EC.tog exo (v 0) (v 1, v 2, o) (v 1, n (v 2), o)).2.2 z (by decide +kernel))
open Ex in
theorem Crv.same {S T : Tri α} (hS : C.good S) (hT : C.good T) (h1 : C.R.mul S.1 T.2.2 = C.R.mul S.2.2 T.1) (h2 : C.R.mul S.2.1 T.2.2 = C.R.mul S.2.2 T.2.1) : C.lower S = C.lower T := by
 by_cases hs : S.2.2 = C.R.zero
 ·have ht : T.2.2 = C.R.zero := by
   obtain ⟨_, hy⟩ := hS hs
   rw [hs, C.R.zero_mul] at h2
   exact C.can hy (h2.trans (C.R.mul_zero _).symm)
  rw [C.lower_none hs, C.lower_none ht]
 ·by_cases ht : T.2.2 = C.R.zero
  ·obtain ⟨_, hy⟩ := hT ht
   rw [ht, C.R.mul_zero] at h2
   exact absurd (C.can hs (h2.symm.trans (C.R.mul_zero _).symm)) hy
  ·rw [C.lower_some hs, C.lower_some ht]
   have q : ∀ x y : α, C.R.mul x T.2.2 = C.R.mul S.2.2 y → C.R.mul x (C.inv S.2.2) = C.R.mul y (C.inv T.2.2) := fun x y h => by
    have e := C.over (c := T.2.2) (z := S.2.2) (x := x) ht hs
    rw [← e, C.R.mul_comm T.2.2 x, h, C.R.mul_comm T.2.2 S.2.2, C.over hs ht]
   rw [q _ _ h1, q _ _ h2]
end
end EC
end Go.Proofs.YtahghpkjkfaieaaGreatDoor
end
section
namespace Go.Proofs.YtahghpkjkfaieaaGreatDoor
namespace EC
section
variable {β : Type _} (O : Ops β)
def od (a : β) : β := O.add a a
def twi (b : β) (p : Tri β) : Tri β :=
 let yy := O.mul p.2.1 p.2.1
 let yz := O.mul p.2.1 p.2.2
 let zz3 := o3 O (O.mul b (O.mul p.2.2 p.2.2))
 let yy8 := od O (od O (od O yy))
 let less := osub O yy (o3 O zz3)
 let more := O.add yy zz3
 (od O (O.mul less (O.mul p.1 p.2.1)), O.add (O.mul less more) (O.mul yy8 zz3), O.mul yy8 yz)
end
section
variable {α : Type} (C : Crv α)
end
section
variable {α : Type} [DecidableEq α] (C : Crv α)
/-- twice: itself, where the third number is 0. -/
def Crv.twice (A : Tri α) : Tri α := if A.2.2 = C.R.zero then A else twi (rops C.R) C.b A
def Crv.times (P : Option (α × α)) : Nat → Option (α × α)
 | 0 => none
 | n + 1 => C.add (Crv.times P n) P
end
end EC
end Go.Proofs.YtahghpkjkfaieaaGreatDoor
end
section
namespace Go.Proofs.YtahghpkjkfaieaaGreatDoor
open Go.RowKit
namespace Rg
/-! Wide numbers, word by word: twelve words in two halves. -/
/-! Wide numbers stand for integers. -/
def bb : Nat := big * big
def wz (z : Int) : Nat := (z % (bb : Int)).toNat
abbrev lo (z : Int) : Nat := wz z % big
abbrev hi (z : Int) : Nat := wz z / big
/-! Numbers by p. -/
/-! Numbers by p stand for integers. -/
def pz (z : Int) : Nat := (z % (pB : Int)).toNat
theorem pBI : (0 : Int) < (pB : Int) := by have := pB_ok.pos; omega
theorem pz_cast (z : Int) : ((pz z : Nat) : Int) = z % (pB : Int) := Int.toNat_of_nonneg (Int.emod_nonneg _ (by have := pBI; omega))
theorem pz_lt (z : Int) : pz z < pB := by
 have h := pz_cast z
 have h2 := Int.emod_lt_of_pos z pBI
 omega
theorem pz_congr {x y : Int} (h : x % (pB : Int) = y % (pB : Int)) : pz x = pz y := by unfold pz; rw [h]
theorem pz_nat (n : Nat) : pz (n : Int) = n % pB := by
 have h := pz_cast (n : Int)
 rw [← Int.natCast_emod] at h
 omega
theorem pz_mul (x y : Int) : pz ((pz x : Int) * (pz y : Int)) = pz (x * y) := pz_congr (by rw [pz_cast, pz_cast, ← Int.mul_emod])
/-- What rest takes: within twelve products. -/
def Wi (z : Int) : Prop := -(12 * ((pB : Int) * pB)) ≤ z ∧ z ≤ 12 * ((pB : Int) * pB)
theorem pz_zero : pz 0 = 0 := by unfold pz; rw [Int.zero_emod]; rfl
theorem zU {P : Program} {c : Code} {Q : Exit → Act → World → Prop} {n : Nat} {a : Act} {w : World} (h : c.wp P (Exit.then (Code.rounds P c Q n) Q) a w) : Code.rounds P c Q (n + 1) a w := h
theorem Mm.pick {w : World} {l : List (Nat × List Value)} (h : Mm w l) (js : List Nat) {l' : List (Nat × List Value)} (e : js.map (fun i => l[i]?) = l'.map some) (hn : js.Pairwise (· ≠ ·)) : Mm w l' := by
 have hpw := List.pairwise_iff_getElem.1 h.nd
 have hlen : js.length = l'.length := by
  have := congrArg List.length e
  simpa using this
 have at_ : ∀ (k : Nat) (hk : k < l'.length), l[js[k]'(by omega)]? = some l'[k] := fun k hk => by
  have h2 : (js.map (fun i => l[i]?))[k]? = (l'.map some)[k]? := by rw [e]
  rw [List.getElem?_map, List.getElem?_map, List.getElem?_eq_getElem (show k < js.length by omega), List.getElem?_eq_getElem hk] at h2
  simpa using h2
 refine ⟨fun p hp => ?_, List.pairwise_iff_getElem.2 fun i j hi hj hij => ?_⟩
 ·obtain ⟨k, hk, ek⟩ := List.getElem_of_mem hp
  have := at_ k hk
  rw [ek] at this
  exact h.blk p (List.mem_of_getElem? this)
 ·have h1 := at_ i hi
  have h2 := at_ j hj
  have hne : js[i]'(by omega) ≠ js[j]'(by omega) := (List.pairwise_iff_getElem.1 hn) i j (by omega) (by omega) hij
  obtain ⟨q1, e1⟩ := List.getElem?_eq_some_iff.1 h1
  obtain ⟨q2, e2⟩ := List.getElem?_eq_some_iff.1 h2
  rw [← e1, ← e2]
  rcases Nat.lt_or_gt_of_ne hne with hl | hl
  ·exact hpw _ _ q1 q2 hl
  ·exact (hpw _ _ q2 q1 hl).symm
end Rg
end Go.Proofs.YtahghpkjkfaieaaGreatDoor
end
section
namespace Go.Proofs.YtahghpkjkfaieaaGreatDoor
open Go.RowKit
namespace Rg
set_option maxRecDepth 100000
section
variable {ρ : Operand → Value} {o : Oper} {x y z u : Operand} {a b c d : Nat} {w : World}
end
theorem order_great (r : Nat)
  (c0 : ∀ w, Calls Tryz.prog 29 #[] w (Rt w (N r))) (w : World) :
  Calls Tryz.prog 8 #[.int .i64 0] w (Rt w (.tuple #[N r, .int .i64 0])) := by
 have H0 : Hid (_ ∧ _) := ⟨Mm.nil w, Below.refl w.heap.size w⟩
 have C0 : Hid _ := c0
 clear c0
 go_enter Tryz.func8, Tryz.ntmps8
 refine wp_seq ?_
 refine zI 2 [.made zero6 24, .q (.int .i64 0)] (sB H0) ?ho1 ?he1
 case ho1 => exact am (zO rfl) (ar trivial)
 intro J w1 l hM hl
 have H1 : Hid (Mm w1 [(J 0, zero6)] ∧ _) := wB H0 hM hl [0]
 have o1_0 := vB H0 hM hl 0
 clear hM hl l
 generalize J 0 = J1_0 at H1 o1_0 ⊢
 clear J
 refine rN (wp_seq ?_)
 refine zM 1 [.q (.int .i64 0)] H1 ?ho2 ?he2
 case ho2 => exact ar trivial
 intro _ w2 H2
 clear H1
 refine rN (wp_block (wp_seq ?_))
 refine zM 2 [.q (.bool true), .q (.bool true)] H2 ?ho3 ?he3
 case ho3 => exact ag (ar trivial)
 intro _ w3 H3
 clear H2
 refine rN (wp_cond_true rfl (wp_seq ?_))
 refine zM 1 [.call (N r)] H3 ?ho4 ?he4
 case ho4 => exact ac (fun w' h => eC call29 (C0.out w')) trivial
 intro _ w4 H4
 clear H3
 refine zR (l := [1, 2]) rfl ?_
 refine sG rfl (fun h => zQ h 0 rfl rfl rfl rfl (Nat.le_of_ble_eq_true rfl)) 0 [(_, zE r)] H4 o1_0 fun w5 H5 => ?_
 clear H4
 refine zA (d := 3) rfl rfl rfl rfl ?_
 simp only [Act.put, sa, sz, ss]
 refine zC (zB (wp_ret ?_))
 repeat (first | refine zL ?_ | refine zK ?_)
 have c0 := H5.out.1.get 0 rfl 0 rfl
 have c1 := H5.out.1.get 0 rfl 1 rfl
 have c2 := H5.out.1.get 0 rfl 2 rfl
 have c3 := H5.out.1.get 0 rfl 3 rfl
 have c4 := H5.out.1.get 0 rfl 4 rfl
 have c5 := H5.out.1.get 0 rfl 5 rfl
 refine bodyPost_ret (v := .tuple #[N r, .int .i64 0]) (by simp [results, Tryz.results8, go_sem, *]) rfl ?_
 exact ⟨rfl, H5.out.2⟩
theorem order_little (s er : Int) (q r : Nat) (hs : s ≠ 0)
  (c0 : ∀ w, Calls Tryz.prog 30 #[.int .i64 s] w (Rt w (.tuple #[.int .u64 (q : Int), .int .i64 er])))
  (c1 : ∀ w, Calls Tryz.prog 7 #[.int .u64 (q : Int)] w (Rt w (N r))) (w : World) :
  Calls Tryz.prog 8 #[.int .i64 s] w (Rt w (.tuple #[N r, .int .i64 er])) := by
 have H0 : Hid (_ ∧ _) := ⟨Mm.nil w, Below.refl w.heap.size w⟩
 have C0 : Hid _ := c0
 have C1 : Hid _ := c1
 clear c0 c1
 go_enter Tryz.func8, Tryz.ntmps8
 refine wp_seq ?_
 refine zI 2 [.made zero6 24, .q (.int .i64 0)] (sB H0) ?ho1 ?he1
 case ho1 => exact am (zO rfl) (ar trivial)
 intro J w1 l hM hl
 have H1 : Hid (Mm w1 [(J 0, zero6)] ∧ _) := wB H0 hM hl [0]
 have o1_0 := vB H0 hM hl 0
 clear hM hl l
 generalize J 0 = J1_0 at H1 o1_0 ⊢
 clear J
 refine rN (wp_seq ?_)
 refine zM 1 [.q (.int .i64 s)] H1 ?ho2 ?he2
 case ho2 => exact ar trivial
 intro _ w2 H2
 clear H1
 refine rN (wp_block (wp_seq ?_))
 refine zM 2 [.q (.bool false), .q (.bool false)] H2 ?ho3 ?he3
 case ho3 => exact ag (ar trivial)
 intro _ w3 H3
 clear H2
 refine rN (wp_cond_false rfl (wp_seq ?_))
 refine zM 7 [.q (.int .i64 s), .call (.tuple #[.int .u64 (q : Int), .int .i64 er]), .q (.tuple #[.int .u64 (q : Int), .int .i64 er]), .q (.int .u64 (q : Int)), .q (.int .i64 er), .q (.int .u64 (q : Int)), .q (.int .i64 er)] H3 ?ho4 ?he4
 case ho4 => exact ar (ac (fun w' h => eC call30 (C0.out w')) (ar (ag (ag (ar (ar trivial))))))
 intro _ w4 H4
 clear H3
 refine rN (wp_seq ?_)
 refine zM 3 [.q (.int .u64 (q : Int)), .call (N r), .q (.int .i64 er)] H4 ?ho5 ?he5
 case ho5 => exact ar (ac (fun w' h => eC call7 (C1.out w')) (ar trivial))
 intro _ w5 H5
 clear H4
 refine zR (l := [3, 4]) rfl ?_
 refine sG rfl (fun h => zQ h 0 rfl rfl rfl rfl (Nat.le_of_ble_eq_true rfl)) 0 [(_, zE r)] H5 o1_0 fun w6 H6 => ?_
 clear H5
 refine zA (d := 3) rfl rfl rfl rfl ?_
 simp only [Act.put, sa, sz, ss]
 refine zC (zB (wp_ret ?_))
 repeat (first | refine zL ?_ | refine zK ?_)
 have c0 := H6.out.1.get 0 rfl 0 rfl
 have c1 := H6.out.1.get 0 rfl 1 rfl
 have c2 := H6.out.1.get 0 rfl 2 rfl
 have c3 := H6.out.1.get 0 rfl 3 rfl
 have c4 := H6.out.1.get 0 rfl 4 rfl
 have c5 := H6.out.1.get 0 rfl 5 rfl
 refine bodyPost_ret (v := .tuple #[N r, .int .i64 er]) (by simp [results, Tryz.results8, go_sem, *]) rfl ?_
 exact ⟨rfl, H6.out.2⟩
/-- A suite: its order is told, and is a modulus. -/
structure Su (s : Int) (r : Nat) : Prop where
 ord : ∀ w, Calls Tryz.prog 8 #[.int .i64 s] w (Rt w (.tuple #[N r, .int .i64 0]))
 ok : Ok r
/-- No suite. -/
def Sn (s : Int) : Prop := ∀ w, Calls Tryz.prog 8 #[.int .i64 s] w (Rt w (.tuple #[N 0, .int .i64 2]))
end Rg
end Go.Proofs.YtahghpkjkfaieaaGreatDoor
end
section
namespace Go.Proofs.YtahghpkjkfaieaaGreatDoor
open Go.RowKit
namespace Rg
set_option maxRecDepth 100000
end Rg
end Go.Proofs.YtahghpkjkfaieaaGreatDoor
end
section
namespace Go.Proofs.YtahghpkjkfaieaaGreatDoor
open Go.RowKit
namespace Rg
set_option maxRecDepth 100000
end Rg
end Go.Proofs.YtahghpkjkfaieaaGreatDoor
end
section
namespace Go.Proofs.YtahghpkjkfaieaaGreatDoor
open Go.RowKit
namespace Rg
set_option maxRecDepth 100000
theorem cel00 : cel [0, 0] = [.int .u64 0, .int .u64 0, .int .u64 0, .int .u64 0, .int .u64 0, .int .u64 0, .int .u64 0, .int .u64 0, .int .u64 0, .int .u64 0, .int .u64 0, .int .u64 0] := cel_zero 2
theorem ex_build35_ {ρ : Operand → Value} {o : Oper} {w : World} (ho : o.op = .build 35 #[]) : (execOp ρ o).run Tryz.prog w = .ok (.value (.agg ([Value.int .u64 0, Value.int .u64 0, Value.bool false]).toArray)) w := by
 skip
 simp only [execOp, ho, List.map_toArray, List.map_nil]
 kernel_rfl
theorem exec_eqT35 {ρ : Operand → Value} {o : Oper} {x y : Operand} {v v' : Array Value} {t : Bool} {w : World} (he : ∀ w, (Op.equalIn 10000 35 (.agg v) (.agg v')).run Tryz.prog w = .ok t w) (ho : o.op = .binOp .eql 35 x y 35) (hx : ρ x = .agg v) (hy : ρ y = .agg v') :
  (execOp ρ o).run Tryz.prog w = .ok (.value (.bool t)) w := by
 simp only [execOp, ho, hx, hy]
 clear hx hy
 go_simp
end Rg
end Go.Proofs.YtahghpkjkfaieaaGreatDoor
end
section
namespace Go.Proofs.YtahghpkjkfaieaaGreatDoor
open Go.RowKit
namespace Rg
namespace Lt
theorem quo_wrap (U y1 q : Nat) (h : U / y1 = q) (hq : q < 18446744073709551616) : IntKind.u64.wrap ((U : Int) / (y1 : Int)) = q := by
 rw [← Int.natCast_ediv, h]; exact Mul64.wrapN q hq
theorem rem_wrap (U y1 q r : Nat) (h : q * y1 + r = U) (hU : U < 18446744073709551616) : IntKind.u64.wrap ((U : Int) - IntKind.u64.wrap ((q : Int) * (y1 : Int))) = r := by
 have h1 : q * y1 < 18446744073709551616 := by omega
 rw [← Int.natCast_mul, Mul64.wrapN _ h1]
 have : (U : Int) - ((q * y1 : Nat) : Int) = (r : Int) := by omega
 rw [this]; exact Mul64.wrapN r (by omega)
theorem hb_break (U y1 y0 u q r Y Q : Nat) (dy : Y = y1 * 4294967296 + y0) (hQ : Q = (U * 4294967296 + u) / Y) (h : (q + 1) * y1 + r = U) (hle : q + 1 ≤ 4294967297) (b3 : y0 < 4294967296) (b4 : 0 < y1) (c2 : 4294967296 ≤ r + y1) (hge : Q + 1 ≤ q + 1) : q = Q := by
 have h2 : q * y1 + (r + y1) = U := by rw [Nat.add_mul] at h; omega
 have h3 : q * y0 ≤ 4294967296 * 4294967295 := Nat.mul_le_mul (by omega) (by omega)
 have h4 := half_enough U y1 y0 u q (r + y1) h2 (by omega) (by omega)
 rw [← dy, ← hQ] at h4
 omega
theorem hb_exit (U y1 y0 u q r Y Q : Nat) (dy : Y = y1 * 4294967296 + y0) (hQ : Q = (U * 4294967296 + u) / Y) (h : q * y1 + r = U) (b4 : 0 < y1) (c : q * y0 ≤ 4294967296 * r + u) (hge : Q ≤ q) : q = Q := by
 have h4 := half_enough U y1 y0 u q r h (by omega) (by rw [Nat.mul_comm r]; exact c)
 rw [← dy, ← hQ] at h4
 omega
theorem hb_more1 (U y1 y0 u q Y Q : Nat) (dy : Y = y1 * 4294967296 + y0) (hQ : Q = (U * 4294967296 + u) / Y) (hu : u < 4294967296) (hU : U < Y) (h : 4294967296 ≤ q) : Q + 1 ≤ q := by
 have h4 := half_big U y1 y0 u q hu (by rw [← dy]; exact hU) h
 rw [← dy, ← hQ] at h4
 exact h4
theorem hb_more2 (U y1 y0 u q r Y Q : Nat) (dy : Y = y1 * 4294967296 + y0) (hQ : Q = (U * 4294967296 + u) / Y) (h : q * y1 + r = U) (b4 : 0 < y1) (c : 4294967296 * r + u < q * y0) : Q + 1 ≤ q := by
 have h4 := half_more U y1 y0 u q r h (by omega) (by rw [Nat.mul_comm r]; exact c)
 rw [← dy, ← hQ] at h4
 exact h4
theorem hb_step (U y1 q r : Nat) (h : (q + 1) * y1 + r = U) : q * y1 + (r + y1) = U := by rw [Nat.add_mul] at h; omega
theorem mul_small (q y0 : Nat) (hq : q < 4294967296) (h : y0 < 4294967296) : q * y0 < 18446744073709551616 := by
 have h3 : q * y0 ≤ 4294967295 * 4294967295 := Nat.mul_le_mul (by omega) (by omega)
 omega
theorem mod_join (M Y u0 : Nat) : (M % Y * 4294967296 + u0) % Y = (M * 4294967296 + u0) % Y := by
 rw [Nat.add_mod, Nat.mul_mod, Nat.mod_mod, ← Nat.mul_mod, ← Nat.add_mod]
set_option maxHeartbeats 2000000 in
theorem div64_hi (hi lo y : Nat) (h1 : hi < y) (hy : y < 18446744073709551616) (hl : lo < 18446744073709551616) (h0 : hi ≠ 0) (w : World) :
  Calls Tryz.prog 197 #[.int .u64 hi, .int .u64 lo, .int .u64 y] w fun e w' => e = .returned (.tuple #[.int .u64 ((hi * 18446744073709551616 + lo) / y : Nat), .int .u64 ((hi * 18446744073709551616 + lo) % y : Nat)]) ∧ w' = w := by
 have hc := fun w => lz64_any y w (Int.natCast_nonneg y) (by omega)
 rw [Int.toNat_natCast] at hc
 have HC : Hid _ := hc
 have hb1 : bl y ≤ 64 := bl_le_of y 64 hy
 have hb2 : 1 ≤ bl y := bl_pos y (by omega)
 obtain ⟨Y, U, u1, u0, y1, y0, dY, b1, b2, dy, b3, b4, b5, b6, b7, b8, dM, eY, eU, eu1, eu0, ey1, ey0⟩ := norm_parts hi lo y h1 hy hl
 obtain ⟨Q1, hQ1⟩ : ∃ Q1, Q1 = (U * 4294967296 + u1) / Y := ⟨_, rfl⟩
 obtain ⟨R1, hR1⟩ : ∃ R1, R1 = (U * 4294967296 + u1) % Y := ⟨_, rfl⟩
 obtain ⟨Q0, hQ0⟩ : ∃ Q0, Q0 = (R1 * 4294967296 + u0) / Y := ⟨_, rfl⟩
 have hfin : (hi * 18446744073709551616 + lo) / y = Q1 * 4294967296 + Q0 := by
  rw [hQ0, hR1, hQ1, halves_join _ _ _ (by omega), ← dM, dY, norm_div]
 obtain ⟨R0, hR0⟩ : ∃ R0, R0 = (R1 * 4294967296 + u0) % Y := ⟨_, rfl⟩
 have hrem : (hi * 18446744073709551616 + lo) % y = R0 / 2 ^ (64 - bl y) := by
  rw [hR0, hR1, mod_join, ← dM, dY, Nat.mul_mod_mul_right, Nat.mul_div_cancel _ (Nat.two_pow_pos _)]
 rw [hfin, hrem]
 have HN : Hid _ := And.intro b1 (And.intro b2 (And.intro dy (And.intro b8 (And.intro hQ1 (And.intro hR1 (And.intro hQ0 hR0))))))
 have e1 : ((y : Int) == 0) = false := by simp; omega
 have e2 : ((hi : Int) == 0) = false := by simp; omega
 have e3 : (1 : Int) ≤ y1 := by omega
 clear hc hy hl dY dM hfin hrem b1 b2 dy b8 hQ1 hR1 hQ0 hR0
 go_enter Tryz.func197, Tryz.ntmps197
 go_upto_block 0 with (go_at_call 214; refine (HC.out _).mono ?_; rintro e w' ⟨rfl, hw'⟩; rw [hw']; clear hw')
 go_cut [15, 16] (fun qv rv wq => qv = .int .u64 Q1 ∧ (∃ r : Int, rv = .int .u64 r) ∧ wq = w)
 case first =>
  go_wp2
  go_loop [15, 16] (fun qv rv => ∃ q r : Nat, qv = .int .u64 q ∧ rv = .int .u64 r ∧ q * y1 + r = U ∧ Q1 ≤ q ∧ q ≤ 4294967297 ∧ r < 4294967296) (fun q _ => (RowKit.intOf q).toNat)
  case atStart =>
   obtain ⟨b1, b2, dy, b8, hQ1, hR1, hQ0, hR0⟩ := HN.out
   have hs := half_start U y1 y0 b3 b4 (by omega)
   have hg := half_ge U y1 y0 u1 b6 (by omega)
   have e1 := quo_wrap U y1 (U / y1) rfl (by omega)
   have dm := Nat.div_add_mod U y1
   have e2 := rem_wrap U y1 (U / y1) (U % y1) (by rw [Nat.mul_comm]; exact dm) (by omega)
   have hm := Nat.mod_lt U (by omega : 0 < y1)
   rw [e1, e2]
   exact ⟨U / y1, U % y1, rfl, rfl, by rw [Nat.mul_comm]; exact dm, by rw [hQ1, dy]; exact hg, hs, by omega⟩
  case round =>
   obtain ⟨q, r, rfl, rfl, hqr, hge, hle, hr⟩ := hrel
   have HQ : Hid _ := hqr
   clear hqr
   by_cases c1 : 4294967296 ≤ q
   ·have hmore : Q1 + 1 ≤ q := by
     obtain ⟨b1, b2, dy, b8, hQ1, hR1, hQ0, hR0⟩ := HN.out
     exact hb_more1 U y1 y0 u1 q Y Q1 dy hQ1 b6 b8 c1
    obtain ⟨p, rfl⟩ : ∃ p, q = p + 1 := ⟨q - 1, by omega⟩
    have HB : Hid (Q1 + 1 ≤ p + 1 ∧ p + 1 ≤ 4294967297 ∧ r < 4294967296) := ⟨hmore, hle, hr⟩
    have i1 : (4294967296 : Int) ≤ (p : Int) + 1 := by omega
    have i2 : (p : Int) + 1 ≤ 4294967297 := by omega
    have i3 : (r : Int) < 4294967296 := by omega
    have i4 : (y1 : Int) < 4294967296 := by omega
    clear c1 hmore hle hr hge
    rw [show ((p + 1 : Nat) : Int) = (p : Int) + 1 by omega]
    by_cases c2 : (4294967296 : Int) ≤ (r : Int) + (y1 : Int)
    ·go_wp2
     go_meet
     case rel =>
      obtain ⟨b1, b2, dy, b8, hQ1, hR1, hQ0, hR0⟩ := HN.out
      exact ⟨by rw [hb_break U y1 y0 u1 p r Y Q1 dy hQ1 HQ.out HB.out.2.1 b3 (by omega) (by omega) HB.out.1], ⟨_, rfl⟩, rfl⟩
    ·go_wp2
     go_round
     case rel => exact ⟨p, r + y1, rfl, by go_num, hb_step U y1 p r HQ.out, by have := HB.out.1; omega, by have := HB.out.2.1; omega, by omega⟩
     case measure => simp [RowKit.intOf] <;> omega
   ·obtain ⟨P, hP⟩ : ∃ P, P = q * y0 := ⟨_, rfl⟩
    have hPb : P < 18446744073709551616 := by rw [hP]; exact mul_small q y0 (by omega) b3
    by_cases c3 : (4294967296 : Int) * (r : Int) + (u1 : Int) < (P : Int)
    ·have hq1 : 1 ≤ q := by
      by_cases hq0 : q = 0
      ·subst hq0; rw [Nat.zero_mul] at hP; omega
      ·omega
     have hmore : Q1 + 1 ≤ q := by
      obtain ⟨b1, b2, dy, b8, hQ1, hR1, hQ0, hR0⟩ := HN.out
      exact hb_more2 U y1 y0 u1 q r Y Q1 dy hQ1 HQ.out (by omega) (by rw [← hP]; omega)
     obtain ⟨p, rfl⟩ : ∃ p, q = p + 1 := ⟨q - 1, by omega⟩
     have HB : Hid (Q1 + 1 ≤ p + 1 ∧ p + 1 ≤ 4294967297 ∧ r < 4294967296) := ⟨hmore, hle, hr⟩
     have i1 : (p : Int) + 1 < 4294967296 := by omega
     have i3 : (r : Int) < 4294967296 := by omega
     have i4 : (y1 : Int) < 4294967296 := by omega
     have i5 : (u1 : Int) < 4294967296 := by omega
     have eP : IntKind.u64.wrap (((p : Int) + 1) * (y0 : Int)) = (P : Int) := by
      rw [show ((p : Int) + 1) = ((p + 1 : Nat) : Int) by omega, ← Int.natCast_mul, ← hP]; exact Mul64.wrapN P hPb
     clear c1 hmore hle hr hge hP hPb hq1
     rw [show ((p + 1 : Nat) : Int) = (p : Int) + 1 by omega]
     by_cases c2 : (4294967296 : Int) ≤ (r : Int) + (y1 : Int)
     ·go_wp2
      go_meet
      case rel =>
       obtain ⟨b1, b2, dy, b8, hQ1, hR1, hQ0, hR0⟩ := HN.out
       exact ⟨by rw [hb_break U y1 y0 u1 p r Y Q1 dy hQ1 HQ.out HB.out.2.1 b3 (by omega) (by omega) HB.out.1], ⟨_, rfl⟩, rfl⟩
     ·go_wp2
      go_round
      case rel => exact ⟨p, r + y1, rfl, by go_num, hb_step U y1 p r HQ.out, by have := HB.out.1; omega, by have := HB.out.2.1; omega, by omega⟩
      case measure => simp [RowKit.intOf] <;> omega
    ·have HE : Hid (q = Q1) := by
      obtain ⟨b1, b2, dy, b8, hQ1, hR1, hQ0, hR0⟩ := HN.out
      exact hb_exit U y1 y0 u1 q r Y Q1 dy hQ1 HQ.out (by omega) (by rw [← hP]; omega) hge
     have eP : IntKind.u64.wrap ((q : Int) * (y0 : Int)) = (P : Int) := by
      rw [← Int.natCast_mul, ← hP]; exact Mul64.wrapN P hPb
     obtain ⟨z, hz⟩ : ∃ z : Int, z = (q : Int) := ⟨_, rfl⟩
     obtain ⟨x, hx⟩ : ∃ x : Int, x = (P : Int) := ⟨_, rfl⟩
     obtain ⟨v, hv⟩ : ∃ v : Int, v = (r : Int) := ⟨_, rfl⟩
     have HZ : Hid (z = (Q1 : Int)) := by rw [hz, HE.out]; rfl
     have i0 : 0 ≤ z := by omega
     have i1 : z < 4294967296 := by omega
     have i2 : 0 ≤ v := by omega
     have i3 : v < 4294967296 := by omega
     have i6 : x ≤ 4294967296 * v + (u1 : Int) := by omega
     rw [← hz, ← hx] at eP
     rw [← hz, ← hv]
     clear c1 c3 hle hr hge hP hPb HE hz hx hv
     go_wp2
     go_meet
     case rel => exact ⟨by rw [HZ.out], ⟨_, rfl⟩, rfl⟩
 case rest =>
  obtain ⟨rfl, ⟨rv, rfl⟩, rfl⟩ := hcut
  have eR : IntKind.u64.wrap (IntKind.u64.wrap (IntKind.u64.wrap ((U : Int) * 4294967296) + (u1 : Int)) - IntKind.u64.wrap ((Q1 : Int) * (Y : Int))) = (R1 : Int) := by
   obtain ⟨b1, b2, dy, b8, hQ1, hR1, hQ0, hR0⟩ := HN.out
   have dm := Nat.div_add_mod (U * 4294967296 + u1) Y
   have b9 : R1 < Y := by rw [hR1]; exact Nat.mod_lt _ (by omega)
   rw [← hQ1, ← hR1, Nat.mul_comm] at dm
   rw [IntKind.wrap_u64, IntKind.wrap_u64, IntKind.wrap_u64, IntKind.wrap_u64, ← Int.natCast_mul]
   generalize Q1 * Y = Z at dm ⊢
   omega
  go_upto_block 2 with (fail)
  go_cut [18, 16] (fun qv rv wq => qv = .int .u64 Q0 ∧ (∃ r : Int, rv = .int .u64 r) ∧ wq = wc)
  case first =>
   go_wp2
   go_loop [18, 16] (fun qv rv => ∃ q r : Nat, qv = .int .u64 q ∧ rv = .int .u64 r ∧ q * y1 + r = R1 ∧ Q0 ≤ q ∧ q ≤ 4294967297 ∧ r < 4294967296) (fun q _ => (RowKit.intOf q).toNat)
   case atStart =>
    obtain ⟨b1, b2, dy, b8, hQ1, hR1, hQ0, hR0⟩ := HN.out; have b9 : R1 < Y := by rw [hR1]; exact Nat.mod_lt _ (by omega)
    have hs := half_start R1 y1 y0 b3 b4 (by omega)
    have hg := half_ge R1 y1 y0 u0 b7 (by omega)
    have e1 := quo_wrap R1 y1 (R1 / y1) rfl (by omega)
    have dm := Nat.div_add_mod R1 y1
    have e2 := rem_wrap R1 y1 (R1 / y1) (R1 % y1) (by rw [Nat.mul_comm]; exact dm) (by omega)
    have hm := Nat.mod_lt R1 (by omega : 0 < y1)
    rw [e1, e2]
    exact ⟨R1 / y1, R1 % y1, rfl, rfl, by rw [Nat.mul_comm]; exact dm, by rw [hQ0, dy]; exact hg, hs, by omega⟩
   case round =>
    obtain ⟨q, r, rfl, rfl, hqr, hge, hle, hr⟩ := hrel
    have HQ : Hid _ := hqr
    clear hqr
    by_cases c1 : 4294967296 ≤ q
    ·have hmore : Q0 + 1 ≤ q := by
      obtain ⟨b1, b2, dy, b8, hQ1, hR1, hQ0, hR0⟩ := HN.out; have b9 : R1 < Y := by rw [hR1]; exact Nat.mod_lt _ (by omega)
      exact hb_more1 R1 y1 y0 u0 q Y Q0 dy hQ0 b7 b9 c1
     obtain ⟨p, rfl⟩ : ∃ p, q = p + 1 := ⟨q - 1, by omega⟩
     have HB : Hid (Q0 + 1 ≤ p + 1 ∧ p + 1 ≤ 4294967297 ∧ r < 4294967296) := ⟨hmore, hle, hr⟩
     have i1 : (4294967296 : Int) ≤ (p : Int) + 1 := by omega
     have i2 : (p : Int) + 1 ≤ 4294967297 := by omega
     have i3 : (r : Int) < 4294967296 := by omega
     have i4 : (y1 : Int) < 4294967296 := by omega
     clear c1 hmore hle hr hge
     rw [show ((p + 1 : Nat) : Int) = (p : Int) + 1 by omega]
     by_cases c2 : (4294967296 : Int) ≤ (r : Int) + (y1 : Int)
     ·go_wp2
      go_meet
      case rel =>
       obtain ⟨b1, b2, dy, b8, hQ1, hR1, hQ0, hR0⟩ := HN.out; have b9 : R1 < Y := by rw [hR1]; exact Nat.mod_lt _ (by omega)
       exact ⟨by rw [hb_break R1 y1 y0 u0 p r Y Q0 dy hQ0 HQ.out HB.out.2.1 b3 (by omega) (by omega) HB.out.1], ⟨_, rfl⟩, rfl⟩
     ·go_wp2
      go_round
      case rel => exact ⟨p, r + y1, rfl, by go_num, hb_step R1 y1 p r HQ.out, by have := HB.out.1; omega, by have := HB.out.2.1; omega, by omega⟩
      case measure => simp [RowKit.intOf] <;> omega
    ·obtain ⟨P, hP⟩ : ∃ P, P = q * y0 := ⟨_, rfl⟩
     have hPb : P < 18446744073709551616 := by rw [hP]; exact mul_small q y0 (by omega) b3
     by_cases c3 : (4294967296 : Int) * (r : Int) + (u0 : Int) < (P : Int)
     ·have hq1 : 1 ≤ q := by
       by_cases hq0 : q = 0
       ·subst hq0; rw [Nat.zero_mul] at hP; omega
       ·omega
      have hmore : Q0 + 1 ≤ q := by
       obtain ⟨b1, b2, dy, b8, hQ1, hR1, hQ0, hR0⟩ := HN.out; have b9 : R1 < Y := by rw [hR1]; exact Nat.mod_lt _ (by omega)
       exact hb_more2 R1 y1 y0 u0 q r Y Q0 dy hQ0 HQ.out (by omega) (by rw [← hP]; omega)
      obtain ⟨p, rfl⟩ : ∃ p, q = p + 1 := ⟨q - 1, by omega⟩
      have HB : Hid (Q0 + 1 ≤ p + 1 ∧ p + 1 ≤ 4294967297 ∧ r < 4294967296) := ⟨hmore, hle, hr⟩
      have i1 : (p : Int) + 1 < 4294967296 := by omega
      have i3 : (r : Int) < 4294967296 := by omega
      have i4 : (y1 : Int) < 4294967296 := by omega
      have i5 : (u0 : Int) < 4294967296 := by omega
      have eP : IntKind.u64.wrap (((p : Int) + 1) * (y0 : Int)) = (P : Int) := by
       rw [show ((p : Int) + 1) = ((p + 1 : Nat) : Int) by omega, ← Int.natCast_mul, ← hP]; exact Mul64.wrapN P hPb
      clear c1 hmore hle hr hge hP hPb hq1
      rw [show ((p + 1 : Nat) : Int) = (p : Int) + 1 by omega]
      by_cases c2 : (4294967296 : Int) ≤ (r : Int) + (y1 : Int)
      ·go_wp2
       go_meet
       case rel =>
        obtain ⟨b1, b2, dy, b8, hQ1, hR1, hQ0, hR0⟩ := HN.out; have b9 : R1 < Y := by rw [hR1]; exact Nat.mod_lt _ (by omega)
        exact ⟨by rw [hb_break R1 y1 y0 u0 p r Y Q0 dy hQ0 HQ.out HB.out.2.1 b3 (by omega) (by omega) HB.out.1], ⟨_, rfl⟩, rfl⟩
      ·go_wp2
       go_round
       case rel => exact ⟨p, r + y1, rfl, by go_num, hb_step R1 y1 p r HQ.out, by have := HB.out.1; omega, by have := HB.out.2.1; omega, by omega⟩
       case measure => simp [RowKit.intOf] <;> omega
     ·have HE : Hid (q = Q0) := by
       obtain ⟨b1, b2, dy, b8, hQ1, hR1, hQ0, hR0⟩ := HN.out; have b9 : R1 < Y := by rw [hR1]; exact Nat.mod_lt _ (by omega)
       exact hb_exit R1 y1 y0 u0 q r Y Q0 dy hQ0 HQ.out (by omega) (by rw [← hP]; omega) hge
      have eP : IntKind.u64.wrap ((q : Int) * (y0 : Int)) = (P : Int) := by
       rw [← Int.natCast_mul, ← hP]; exact Mul64.wrapN P hPb
      obtain ⟨z, hz⟩ : ∃ z : Int, z = (q : Int) := ⟨_, rfl⟩
      obtain ⟨x, hx⟩ : ∃ x : Int, x = (P : Int) := ⟨_, rfl⟩
      obtain ⟨v, hv⟩ : ∃ v : Int, v = (r : Int) := ⟨_, rfl⟩
      have HZ : Hid (z = (Q0 : Int)) := by rw [hz, HE.out]; rfl
      have i0 : 0 ≤ z := by omega
      have i1 : z < 4294967296 := by omega
      have i2 : 0 ≤ v := by omega
      have i3 : v < 4294967296 := by omega
      have i6 : x ≤ 4294967296 * v + (u0 : Int) := by omega
      rw [← hz, ← hx] at eP
      rw [← hz, ← hv]
      clear c1 c3 hle hr hge hP hPb HE hz hx hv
      go_wp2
      go_meet
      case rel => exact ⟨by rw [HZ.out], ⟨_, rfl⟩, rfl⟩
  case rest =>
   obtain ⟨rfl, ⟨rv2, rfl⟩, rfl⟩ := hcut
   have eQ : IntKind.u64.wrap (IntKind.u64.wrap ((Q1 : Int) * 4294967296) + (Q0 : Int)) = ((Q1 * 4294967296 + Q0 : Nat) : Int) := by
    obtain ⟨b1, b2, dy, b8, hQ1, hR1, hQ0, hR0⟩ := HN.out
    have b9 : R1 < Y := by rw [hR1]; exact Nat.mod_lt _ (by omega)
    have q1 : Q1 < 4294967296 := by rw [hQ1]; exact (Nat.div_lt_iff_lt_mul (by omega)).2 (by omega)
    have q0 : Q0 < 4294967296 := by rw [hQ0]; exact (Nat.div_lt_iff_lt_mul (by omega)).2 (by omega)
    rw [IntKind.wrap_u64, IntKind.wrap_u64]
    omega
   have eZ : IntKind.u64.wrap (IntKind.u64.wrap (IntKind.u64.wrap ((R1 : Int) * 4294967296) + (u0 : Int)) - IntKind.u64.wrap ((Q0 : Int) * (Y : Int))) = (R0 : Int) := by
    obtain ⟨b1, b2, dy, b8, hQ1, hR1, hQ0, hR0⟩ := HN.out
    have dm := Nat.div_add_mod (R1 * 4294967296 + u0) Y
    have b9 : R0 < Y := by rw [hR0]; exact Nat.mod_lt _ (by omega)
    rw [← hQ0, ← hR0, Nat.mul_comm] at dm
    rw [IntKind.wrap_u64, IntKind.wrap_u64, IntKind.wrap_u64, IntKind.wrap_u64, ← Int.natCast_mul]
    generalize Q0 * Y = Z at dm ⊢
    omega
   go_wp2
   rw [show ((Q1 : Int) * 4294967296 + (Q0 : Int)) = ((Q1 * 4294967296 + Q0 : Nat) : Int) by omega]
   go_ret2
   exact ⟨rfl, rfl⟩
end Lt
end Rg
end Go.Proofs.YtahghpkjkfaieaaGreatDoor
end
section
namespace Go.Proofs.YtahghpkjkfaieaaGreatDoor
open Go.RowKit
namespace Rg
namespace Lt
set_option maxHeartbeats 400000 in
theorem div64_zero (lo y : Nat) (h1 : 0 < y) (hl : lo < 18446744073709551616) (w : World) :
  Calls Tryz.prog 197 #[.int .u64 0, .int .u64 lo, .int .u64 y] w fun e w' => e = .returned (.tuple #[.int .u64 (lo / y : Nat), .int .u64 (lo % y : Nat)]) ∧ ∃ n, w' = w.drewN n := by
 have e1 : ((y : Int) == 0) = false := by simp; omega
 have e3 : (1 : Int) ≤ y := by omega
 have eq : Hid _ := quo_wrap lo y (lo / y) rfl (Nat.lt_of_le_of_lt (Nat.div_le_self _ _) hl)
 clear hl
 go_enter Tryz.func197, Tryz.ntmps197
 go_wp2
 go_quiet (fail)
 go_wp2
 rw [eq.out]
 go_ret2
 exact ⟨rfl, _, rfl⟩
theorem div64_any (hi lo y : Nat) (h1 : hi < y) (hy : y < 18446744073709551616) (hl : lo < 18446744073709551616) (w : World) :
  Calls Tryz.prog 197 #[.int .u64 hi, .int .u64 lo, .int .u64 y] w fun e w' => e = .returned (.tuple #[.int .u64 ((hi * 18446744073709551616 + lo) / y : Nat), .int .u64 ((hi * 18446744073709551616 + lo) % y : Nat)]) ∧ ∃ n, w' = w.drewN n := by
 by_cases h0 : hi = 0
 ·subst h0
  rw [Nat.zero_mul, Nat.zero_add]
  exact div64_zero lo y (by omega) hl w
 ·refine (div64_hi hi lo y h1 hy hl h0 w).mono ?_
  rintro e w' ⟨rfl, hw⟩
  exact ⟨rfl, 0, hw⟩
end Lt
end Rg
end Go.Proofs.YtahghpkjkfaieaaGreatDoor
end
section
namespace Go.Proofs.YtahghpkjkfaieaaGreatDoor
open Go.RowKit
namespace Rg
namespace Lt
abbrev U (n : Nat) : Value := .int .u64 (n : Int)
/-- A struct or an array, cell by cell. -/
abbrev V (l : List Value) : Value := .agg l.toArray
section
variable {ρ : Operand → Value} {o : Oper} {x y : Operand} {a b : Nat} {w : World}
end
end Lt
end Rg
end Go.Proofs.YtahghpkjkfaieaaGreatDoor
end
section
namespace Go.Proofs.YtahghpkjkfaieaaGreatDoor
open Go.RowKit
namespace Rg
namespace Lt
abbrev kd (p r c x y : Nat) : List Value := [U p, U r, U c, U x, U y, .bool false]
abbrev pt (x y : Nat) (z : Bool) : List Value := [U x, U y, .bool z]
abbrev tr (x y z : Nat) : List Value := [U x, U y, U z]
abbrev l2 (a b : Nat) : List Value := [U a, U b]
theorem ex_loadT {ρ : Operand → Value} {o : Oper} {x : Operand} {g off n : Nat} {t : TypeId} {cs ms : List Value} {w : World} {l : List (Nat × List Value)} (h : Mm w l) (q : Nat) (hk : l[q]? = some (g, cs)) (ho : o.op = .load t x) (hx : ρ x = PT g off) (ha : ∀ w, (isAgg t).run Tryz.prog w = .ok true w) (hs : ∀ w, (sizeOf t).run Tryz.prog w = .ok n w) (hc : (cs.drop off).take n = ms) (hl : ms.length = n) :
  (execOp ρ o).run Tryz.prog w = .ok (.value (.agg ms.toArray)) w := by
 have hm := List.mem_of_getElem? hk
 have hcell := run_loadCells_list (P := Tryz.prog) (w := w) ⟨g, off, none⟩ ms (fun j v hv => by
  have e : cs[off + j]? = some v := by
   rw [← List.getElem?_drop]
   rw [← hc, List.getElem?_take] at hv
   split at hv
   ·exact hv
   ·cases hv
  have e2 := h.cell hm e
  rw [show (⟨g, off, none⟩ : Addr).add j = ⟨g, off + j, none⟩ from by unfold Addr.add; split <;> simp_all]
  exact e2)
 rw [hl] at hcell
 have hf : (loadCellsFrom ⟨g, off, none⟩ 0 n #[]).run Tryz.prog w = .ok ms.toArray w := hcell
 clear hcell hc hk hm h
 simp only [execOp, ho, hx]
 go_simp
theorem zJ {ρ : Operand → Value} {o : Oper} {x : Operand} {g off : Nat} {t : TypeId} {v : Value} {cs : List Value} {w : World} {l : List (Nat × List Value)} (h : Mm w l) (k : Nat) (hk : l[k]? = some (g, cs)) (ho : o.op = .load t x) (hx : ρ x = PT g off) (ha : ∀ w, (isAgg t).run Tryz.prog w = .ok false w) (hc : cs[off]? = some v) :
  (execOp ρ o).run Tryz.prog w = .ok (.value v) w := by
 have c0 := h.cell (List.mem_of_getElem? hk) hc
 clear h hk hc
 simp only [execOp, ho, hx]
 go_simp
theorem lC {ρ : Operand → Value} {o : Oper} {x : Operand} {g off : Nat} {t : TypeId} {v : Value} {cs : List Value} {w : World} {l : List (Nat × List Value)} (h : Mm w l) (k : Nat) (ha : ∀ w, (isAgg t).run Tryz.prog w = .ok false w) (hk : l[k]? = some (g, cs) := by exact rfl) (ho : o.op = .load t x := by exact rfl) (hx : ρ x = PT g off := by exact rfl) (hc : cs[off]? = some v := by exact rfl) : (execOp ρ o).run Tryz.prog w = .ok (.value v) w := zJ h k hk ho hx ha hc
theorem lT {ρ : Operand → Value} {o : Oper} {x : Operand} {g off n : Nat} {t : TypeId} {cs ms : List Value} {w : World} {l : List (Nat × List Value)} (h : Mm w l) (q : Nat) (ha : ∀ w, (isAgg t).run Tryz.prog w = .ok true w) (hs : ∀ w, (sizeOf t).run Tryz.prog w = .ok n w) (hk : l[q]? = some (g, cs) := by exact rfl) (ho : o.op = .load t x := by exact rfl) (hx : ρ x = PT g off := by exact rfl) (hc : (cs.drop off).take n = ms := by exact rfl) (hl : ms.length = n := by exact rfl) : (execOp ρ o).run Tryz.prog w = .ok (.value (.agg ms.toArray)) w := ex_loadT h q hk ho hx ha hs hc hl
theorem bC {ops : Array Oper} {L : List (Nat × List Value)} {F : (Nat → Nat) → Act} {o : Oper} {os : List Oper} {ks : List Kind} {x : Operand} {g off : Nat} {cs : List Value} {t : TypeId} {v : Value} (k : Nat) (ha : ∀ w, (isAgg t).run Tryz.prog w = .ok false w) (hs : AllOk Tryz.prog ops (fun w' => Mm w' L) F os ks) (hw : ∀ J, Region.wanted o (yielded ops (F J).tmps) = true := by exact fun _ => rfl) (hk : L[k]? = some (g, cs) := by exact rfl) (ho : o.op = .load t x := by exact rfl) (hx : ∀ J, (F J).eval x = PT g off := by exact fun _ => rfl) (hc : cs[off]? = some v := by exact rfl) : AllOk Tryz.prog ops (fun w' => Mm w' L) F (o :: os) (.q v :: ks) := ⟨fun J => ⟨hw J, fun _ h => zJ h k hk ho (hx J) ha hc⟩, hs⟩
theorem bT {ops : Array Oper} {L : List (Nat × List Value)} {F : (Nat → Nat) → Act} {o : Oper} {os : List Oper} {ks : List Kind} {x : Operand} {g off : Nat} {cs : List Value} {n : Nat} {t : TypeId} {ms : List Value} (k : Nat) (ha : ∀ w, (isAgg t).run Tryz.prog w = .ok true w) (hz : ∀ w, (sizeOf t).run Tryz.prog w = .ok n w) (hs : AllOk Tryz.prog ops (fun w' => Mm w' L) F os ks) (hw : ∀ J, Region.wanted o (yielded ops (F J).tmps) = true := by exact fun _ => rfl) (hk : L[k]? = some (g, cs) := by exact rfl) (ho : o.op = .load t x := by exact rfl) (hx : ∀ J, (F J).eval x = PT g off := by exact fun _ => rfl) (hc : (cs.drop off).take n = ms := by exact rfl) (hl : ms.length = n := by exact rfl) : AllOk Tryz.prog ops (fun w' => Mm w' L) F (o :: os) (.q (.agg ms.toArray) :: ks) := ⟨fun J => ⟨hw J, fun _ h => ex_loadT h k hk ho (hx J) ha hz hc hl⟩, hs⟩
theorem ex_boxT {ρ : Operand → Value} {o : Oper} {x : Operand} {t : TypeId} {cs : List Value} {w : World} (ho : o.op = .box t x) (hx : ρ x = .agg cs.toArray) :
  (execOp ρ o).run Tryz.prog w = .ok (.value (.pointer (some ⟨w.heap.size, 0, none⟩))) (w.alloc (.cells cs.toArray t)) := by
 simp only [execOp, ho, hx]
 go_simp
theorem ex_storeT {ρ : Operand → Value} {o : Oper} {x y : Operand} {g off : Nat} {t : TypeId} {cs vs : List Value} {w : World} {l : List (Nat × List Value)} (h : Mm w l) (q : Nat) (hk : l[q]? = some (g, cs)) (ho : o.op = .store t x y) (hx : ρ x = PT g off) (hy : ρ y = .agg vs.toArray) (hs : ∀ w, (sizeOf t).run Tryz.prog w = .ok vs.length w) (h1 : vs.all Value.oneCell' = true) (hb : off + vs.length ≤ cs.length) :
  (execOp ρ o).run Tryz.prog w = .ok .skip (w.setCells g off vs) := by
 have hm := List.mem_of_getElem? hk
 have hq : ∀ j, j < vs.length → ∃ u, cs[off + j]? = some u := fun j hj => ⟨_, List.getElem?_eq_getElem (by omega)⟩
 have hst := run_storeCells_cells (P := Tryz.prog) g off vs 0 w (fun j hj => by
  obtain ⟨u, hu⟩ := hq j hj
  rw [show off + 0 + j = off + j by omega, h.cell hm hu]; rfl) (fun j hj => by
  obtain ⟨u, hu⟩ := hq j hj
  rw [show off + 0 + j = off + j by omega]; exact h.free hm hu) (List.all_eq_true.1 h1)
 clear h hm hq hb hk
 simp only [execOp, ho, hx, hy]
 go_simp
theorem var_T {g n : Nat} {t : TypeId} {cs : List Value} {w : World} {l : List (Nat × List Value)} (h : Mm w l) (q : Nat) (hk : l[q]? = some (g, cs)) (ha : ∀ w, (isAgg t).run Tryz.prog w = .ok true w) (hs : ∀ w, (sizeOf t).run Tryz.prog w = .ok n w) (hn : cs.length = n) : (loadVar t ⟨g, 0, none⟩).run Tryz.prog w = .ok (.agg cs.toArray) w := by
 have hm := List.mem_of_getElem? hk
 have hcell := run_loadCells_list (P := Tryz.prog) (w := w) ⟨g, 0, none⟩ cs (fun j v hv => by
  have e2 := h.cell hm hv
  rw [show (⟨g, 0, none⟩ : Addr).add j = ⟨g, j, none⟩ from by unfold Addr.add; split <;> simp_all]
  exact e2)
 rw [hn] at hcell
 have hf : (loadCellsFrom ⟨g, 0, none⟩ 0 n #[]).run Tryz.prog w = .ok cs.toArray w := hcell
 clear hcell h hk hm
 simp only [loadVar]
 go_simp
theorem ex_laidT {ρ : Operand → Value} {o : Oper} {x y : Operand} {g : Nat} {t : TypeId} {zs cs : List Value} {w : World} (hb : Blk w g zs) (hl : zs.length = cs.length) (h1 : cs.all Value.oneCell' = true) (hs : ∀ w, (sizeOf t).run Tryz.prog w = .ok cs.length w) (ho : o.op = .store t x y) (hx : ρ x = .pointer (some ⟨g, 0, none⟩)) (hy : ρ y = .agg cs.toArray) :
  (execOp ρ o).run Tryz.prog w = .ok .skip (w.setCells g 0 cs) := by
 have hk : ∀ k, k < cs.length → ∃ u, zs[k]? = some u := fun k hk => ⟨_, List.getElem?_eq_getElem (by omega)⟩
 have hst := run_storeCells_cells (P := Tryz.prog) g 0 cs 0 w (fun k hkl => by
  obtain ⟨u, hu⟩ := hk k hkl
  rw [show 0 + 0 + k = k by omega, (hb k u hu).1]; rfl) (fun k hkl => by
  obtain ⟨u, hu⟩ := hk k hkl
  rw [show 0 + 0 + k = k by omega]; exact (hb k u hu).2) (List.all_eq_true.1 h1)
 clear hb hk h1 hl
 simp only [execOp, ho, hx, hy]
 go_simp
theorem ex_made72 {ρ : Operand → Value} {o : Oper} {w : World} (ho : o.op = .alloc 135) :
  (execOp ρ o).run Tryz.prog w = .ok (.value (.pointer (some ⟨w.heap.size, 0, none⟩))) (w.alloc (.cells (kd 0 0 0 0 0).toArray 135)) := by
 simp only [execOp, ho]
 go_simp
 rfl
theorem ex_build25_01 {ρ : Operand → Value} {o : Oper} {x0 x1 : Operand} {a0 : Nat} {a1 : Nat} {w : World} (ho : o.op = .build 35 #[(0, x0), (1, x1)]) (h0 : ρ x0 = U a0) (h1 : ρ x1 = U a1) : (execOp ρ o).run Tryz.prog w = .ok (.value (.agg (pt a0 a1 false).toArray)) w := by
 simp only [execOp, ho]
 go_simp
theorem ex_build72_ {ρ : Operand → Value} {o : Oper}  {w : World} (ho : o.op = .build 135 #[]) : (execOp ρ o).run Tryz.prog w = .ok (.value (.agg (kd 0 0 0 0 0).toArray)) w := by
 simp only [execOp, ho]
 go_simp
theorem ex_build72_0123 {ρ : Operand → Value} {o : Oper} {x0 x1 x2 x3 : Operand} {a0 : Nat} {a1 : Nat} {a2 : Nat} {gx gy : Nat} {w : World} (ho : o.op = .build 135 #[(0, x0), (1, x1), (2, x2), (3, x3)]) (h0 : ρ x0 = U a0) (h1 : ρ x1 = U a1) (h2 : ρ x2 = U a2) (h3 : ρ x3 = V (pt gx gy false)) : (execOp ρ o).run Tryz.prog w = .ok (.value (.agg (kd a0 a1 a2 gx gy).toArray)) w := by
 simp only [execOp, ho]
 go_simp
theorem run_eqB (D : Nat) (a b : Bool) (w : World) : (Op.equalIn (D + 1) 4 (.bool a) (.bool b)).run Tryz.prog w = .ok (a == b) w := by
 simp only [Op.equalIn, Sem.run_bind, run_underlying (show Tryz.prog.underlying 4 = some .bool by kernel_rfl), Result.andThen_ok]
 rfl
theorem run_eqU (D a b : Nat) (w : World) : (Op.equalIn (D + 1) 22 (U a) (U b)).run Tryz.prog w = .ok (decide (a = b)) w := by
 rw [run_equalIn_int w D 22 .u64 .u64 a b (by kernel_rfl)]
 by_cases h : a = b <;> simp [h] <;> omega
theorem run_eqP' (D a b a' b' : Nat) (z z' p0 p1 p2 : Bool) (hi0 : ∀ w, (Op.equalIn D 22 (U a) (U a')).run Tryz.prog w = .ok p0 w) (hi1 : ∀ w, (Op.equalIn D 22 (U b) (U b')).run Tryz.prog w = .ok p1 w) (hi2 : ∀ w, (Op.equalIn D 4 (.bool z) (.bool z')).run Tryz.prog w = .ok p2 w) (w : World) :
  (Op.equalIn (D + 1) 35 (V (pt a b z)) (V (pt a' b' z'))).run Tryz.prog w = .ok (p0 && (p1 && p2)) w := by
 have hst : Tryz.prog.stoodInHeld 35 = false := by kernel_rfl
 have hp : ∀ (a b : Nat) (z : Bool) (w : World), (Go.part 22 (pt a b z).toArray 0).run Tryz.prog w = .ok (U a) w ∧ (Go.part 22 (pt a b z).toArray 1).run Tryz.prog w = .ok (U b) w ∧ (Go.part 4 (pt a b z).toArray 2).run Tryz.prog w = .ok (.bool z) w := fun a b z w => ⟨by kernel_rfl, by kernel_rfl, by kernel_rfl⟩
 have q1 := hp a b z
 have q2 := hp a' b' z'
 clear hp
 unfold V
 generalize (pt a b z).toArray = xs at *
 generalize (pt a' b' z').toArray = ys at *
 simp only [Op.equalIn, Sem.run_bind, run_underlying Tryz.underlying35, Result.andThen_ok]
 simp [hst, hi0, hi1, hi2, q1, q2]
 cases p0 <;> cases p1 <;> cases p2 <;> simp
theorem run_eqP (a b a' b' : Nat) (z z' : Bool) (w : World) : (Op.equalIn 10000 35 (V (pt a b z)) (V (pt a' b' z'))).run Tryz.prog w = .ok (decide (a = a') && (decide (b = b') && (z == z'))) w :=
 run_eqP' 9999 a b a' b' z z' _ _ _ (fun w => run_eqU 9998 a a' w) (fun w => run_eqU 9998 b b' w) (fun w => run_eqB 9998 z z' w) w
end Lt
end Rg
end Go.Proofs.YtahghpkjkfaieaaGreatDoor
end
section
namespace Go.Proofs.YtahghpkjkfaieaaGreatDoor
open Go.RowKit
namespace Rg
namespace Lt
/-- What is known of a prime here. -/
structure Pr (p : Nat) : Prop where
 lo : 8 < p
 hi : p < 1152921504606846976
def tm (p a b : Nat) : Nat := a * b % p
def pl (p a b : Nat) : Nat := (a + b) % p
def mi (p a b : Nat) : Nat := (a + p - b) % p
theorem tm_lt {p a b : Nat} (hp : Pr p) : tm p a b < p := Nat.mod_lt _ (by have := hp.lo; omega)
theorem mi_lt {p a b : Nat} (hp : Pr p) : mi p a b < p := Nat.mod_lt _ (by have := hp.lo; omega)
theorem zero_lt {p : Nat} (hp : Pr p) : 0 < p := by have := hp.lo; omega
theorem one_lt {p : Nat} (hp : Pr p) : 1 < p := by have := hp.lo; omega
theorem call162 : CO 162 := by intro args w; go_simp
section
variable {p r c gx gy : Nat}
/-- X X X + X -/
def cb (p x : Nat) : Nat := tm p x (pl p (tm p x x) 1)
end
end Lt
end Rg
end Go.Proofs.YtahghpkjkfaieaaGreatDoor
end
section
namespace Go.Proofs.YtahghpkjkfaieaaGreatDoor
open Go.RowKit
namespace Rg
namespace Lt
def slotfn (l : List Value) (d : Nat) : Value := l.getD d undef
/-- A number's power, by p. -/
def pw (p a n : Nat) : Nat := a ^ n % p
def rb (p a : Nat) : Nat := pw p a ((p + 1) / 4)
section
variable {p r c gx gy : Nat}
end
end Lt
end Rg
end Go.Proofs.YtahghpkjkfaieaaGreatDoor
end
section
namespace Go.Proofs.YtahghpkjkfaieaaGreatDoor
open Go.RowKit
namespace Rg
namespace Lt
/-- Three numbers: a point (x / z z, y / z z z), of z 0 the zero. -/
abbrev T3 : Type := Nat × Nat × Nat
structure Lt3 (p : Nat) (t : T3) : Prop where
 x : t.1 < p
 y : t.2.1 < p
 z : t.2.2 < p
/-- The slope of a point and itself. -/
def tR (p x z : Nat) : Nat := pl p (tm p 3 (tm p x x)) (tm p (tm p z z) (tm p z z))
def tM (p x y : Nat) : Nat := tm p 4 (tm p x (tm p y y))
def tX (p x y z : Nat) : Nat := mi p (tm p (tR p x z) (tR p x z)) (pl p (tM p x y) (tM p x y))
def tY (p x y z : Nat) : Nat := mi p (tm p (tR p x z) (mi p (tM p x y) (tX p x y z))) (tm p 8 (tm p (tm p y y) (tm p y y)))
def twT (p : Nat) (t : T3) : T3 := (tX p t.1 t.2.1 t.2.2, tY p t.1 t.2.1 t.2.2, tm p 2 (tm p t.2.1 t.2.2))
/-- A point and a triple. -/
def jU (p x z X : Nat) : Nat := mi p (tm p X (tm p z z)) x
def jS (p y z Y : Nat) : Nat := mi p (tm p Y (tm p z (tm p z z))) y
def jC (p u : Nat) : Nat := tm p (tm p u u) u
def jM (p x u : Nat) : Nat := tm p x (tm p u u)
def jX (p x u s : Nat) : Nat := mi p (mi p (tm p s s) (jC p u)) (pl p (jM p x u) (jM p x u))
def jY (p x y u s : Nat) : Nat := mi p (tm p s (mi p (jM p x u) (jX p x u s))) (tm p y (jC p u))
def jnT (p : Nat) (t : T3) (X Y : Nat) (Z : Bool) : T3 :=
 if Z = true then t else if t.2.2 = 0 then (X, Y, 1) else if jU p t.1 t.2.2 X = 0 ∧ jS p t.2.1 t.2.2 Y = 0 then twT p t
 else (jX p t.1 (jU p t.1 t.2.2 X) (jS p t.2.1 t.2.2 Y), jY p t.1 t.2.1 (jU p t.1 t.2.2 X) (jS p t.2.1 t.2.2 Y), tm p t.2.2 (jU p t.1 t.2.2 X))
section
variable {p : Nat} {t : T3} {X Y : Nat}
end
theorem tw_lt {p : Nat} (hp : Pr p) (t : T3) : Lt3 p (twT p t) := ⟨mi_lt hp, mi_lt hp, tm_lt hp⟩
theorem jn_lt {p : Nat} (hp : Pr p) {t : T3} (ht : Lt3 p t) {X Y : Nat} {Z : Bool} (hX : X < p) (hY : Y < p) : Lt3 p (jnT p t X Y Z) := by
 unfold jnT
 split
 ·exact ht
 ·split
  ·exact ⟨hX, hY, one_lt hp⟩
  ·split
   ·exact tw_lt hp t
   ·exact ⟨mi_lt hp, mi_lt hp, tm_lt hp⟩
/-- A point multiplied. -/
def mtf (p X Y : Nat) (Z : Bool) : Nat → Nat → T3
 | 0, _ => (0, 0, 0)
 | f + 1, n => if n = 0 then (0, 0, 0) else if n % 2 = 1 then jnT p (twT p (mtf p X Y Z f (n / 2))) X Y Z else twT p (mtf p X Y Z f (n / 2))
def mt (p X Y : Nat) (Z : Bool) (n : Nat) : T3 := mtf p X Y Z 64 n
theorem mtf_lt {p : Nat} (hp : Pr p) {X Y : Nat} {Z : Bool} (hX : X < p) (hY : Y < p) : ∀ (f n : Nat), Lt3 p (mtf p X Y Z f n)
 | 0, _ => ⟨zero_lt hp, zero_lt hp, zero_lt hp⟩
 | f + 1, n => by
  rw [mtf]
  split
  ·exact ⟨zero_lt hp, zero_lt hp, zero_lt hp⟩
  ·split
   ·exact jn_lt hp (tw_lt hp _) hX hY
   ·exact tw_lt hp _
theorem mt_lt {p : Nat} (hp : Pr p) {X Y : Nat} {Z : Bool} (hX : X < p) (hY : Y < p) (n : Nat) : Lt3 p (mt p X Y Z n) := mtf_lt hp hX hY 64 n
section
variable {p r c gx gy : Nat}
theorem kindOf_1  (w : World) :
  Calls Tryz.prog 80 #[.int .i64 1] w (Rt w (.tuple #[V (kd 786251 65521 12 9723 164643), .int .i64 0])) := by
 have H0 : Hid (_ ∧ _) := ⟨Mm.nil w, Below.refl w.heap.size w⟩
 go_enter Tryz.func80, Tryz.ntmps80
 refine wp_seq ?_
 refine zI 2 [.made (kd 0 0 0 0 0) 135, .q (.int .i64 0)] (sB H0) ?ho1 ?he1
 case ho1 => exact am (ex_made72 rfl) (ar trivial)
 intro J w1 l hM hl
 have H1 : Hid (Mm w1 [(J 0, kd 0 0 0 0 0)] ∧ _) := wB H0 hM hl [0]
 have o1_0 := vB H0 hM hl 0
 clear hM hl l
 generalize J 0 = J1_0 at H1 o1_0 ⊢
 clear J
 refine rN (wp_seq (wp_seq ?_))
 refine zM 1 [.q (.int .i64 1)] H1 ?ho2 ?he2
 case ho2 => exact ar trivial
 intro _ w2 H2
 clear H1
 refine rN (wp_block (wp_seq ?_))
 refine zM 2 [.q (.bool true), .q (.bool true)] H2 ?ho3 ?he3
 case ho3 => exact ag (ar trivial)
 intro _ w3 H3
 clear H2
 refine rN (wp_cond_true rfl (wp_seq ?_))
 refine zM 2 [.q (.agg (pt 9723 164643 false).toArray), .q (.agg (kd 786251 65521 12 9723 164643).toArray)] H3 ?ho4 ?he4
 case ho4 => exact ak (fun J => ⟨rfl, fun w' _ => ex_build25_01 rfl rfl rfl⟩) (ak (fun J => ⟨rfl, fun w' _ => ex_build72_0123 rfl rfl rfl rfl rfl⟩) trivial)
 intro _ w4 H4
 clear H3
 refine zR (l := [2, 3]) rfl ?_
 refine sG rfl (fun h => ex_storeT (vs := kd 786251 65521 12 9723 164643) h 0 rfl rfl rfl rfl As135 rfl (Nat.le_of_ble_eq_true rfl)) 0 [(_, kd 786251 65521 12 9723 164643)] H4 o1_0 fun w5 H5 => ?_
 clear H4
 refine zA (d := 3) rfl rfl rfl rfl ?_
 simp only [Act.put, sa, sz, ss]
 refine zC (zB (wp_ret ?_))
 repeat (first | refine zL ?_ | refine zK ?_)
 have hf0 := var_T H5.out.1 0 rfl Tryz.isAgg135 As135 rfl
 refine bodyPost_ret (v := .tuple #[.agg (kd 786251 65521 12 9723 164643).toArray, .int .i64 0]) (by simp [results, Tryz.results80, asAddr, Act.eval, hf0]) rfl ?_
 exact ⟨rfl, H5.out.2⟩
theorem kindOf_no (s : Int) (h1 : s ≠ 1) (h2 : s ≠ 2) (w : World) :
  Calls Tryz.prog 80 #[.int .i64 s] w (Rt w (.tuple #[V (kd 0 0 0 0 0), .int .i64 2])) := by
 have H0 : Hid (_ ∧ _) := ⟨Mm.nil w, Below.refl w.heap.size w⟩
 go_enter Tryz.func80, Tryz.ntmps80
 refine wp_seq ?_
 refine zI 2 [.made (kd 0 0 0 0 0) 135, .q (.int .i64 0)] (sB H0) ?ho1 ?he1
 case ho1 => exact am (ex_made72 rfl) (ar trivial)
 intro J w1 l hM hl
 have H1 : Hid (Mm w1 [(J 0, kd 0 0 0 0 0)] ∧ _) := wB H0 hM hl [0]
 have o1_0 := vB H0 hM hl 0
 clear hM hl l
 generalize J 0 = J1_0 at H1 o1_0 ⊢
 clear J
 refine rN (wp_seq (wp_seq ?_))
 refine zM 1 [.q (.int .i64 s)] H1 ?ho2 ?he2
 case ho2 => exact ar trivial
 intro _ w2 H2
 clear H1
 refine rN (wp_block (wp_seq ?_))
 refine zM 2 [.q (.bool false), .q (.bool false)] H2 ?ho3 ?he3
 case ho3 => exact ag (ar trivial)
 intro _ w3 H3
 clear H2
 refine rN (wp_cond_false rfl (wp_seq ?_))
 refine zM 2 [.q (.bool false), .q (.bool false)] H3 ?ho4 ?he4
 case ho4 => exact ag (ar trivial)
 intro _ w4 H4
 clear H3
 refine rN (wp_cond_false rfl ?_)
 refine wp_skip (zS ?_)
 refine zB (wp_seq ?_)
 refine zM 1 [.q (.agg (kd 0 0 0 0 0).toArray)] H4 ?ho5 ?he5
 case ho5 => exact ak (fun J => ⟨rfl, fun w' _ => ex_build72_ rfl⟩) trivial
 intro _ w5 H5
 clear H4
 refine zR (l := [1, 2]) rfl ?_
 refine sG rfl (fun h => ex_storeT (vs := kd 0 0 0 0 0) h 0 rfl rfl rfl rfl As135 rfl (Nat.le_of_ble_eq_true rfl)) 0 [(_, kd 0 0 0 0 0)] H5 o1_0 fun w6 H6 => ?_
 clear H5
 refine zA (d := 3) rfl rfl rfl rfl ?_
 simp only [Act.put, sa, sz, ss]
 refine zC (zB (wp_ret ?_))
 repeat (first | refine zL ?_ | refine zK ?_)
 have hf0 := var_T H6.out.1 0 rfl Tryz.isAgg135 As135 rfl
 refine bodyPost_ret (v := .tuple #[.agg (kd 0 0 0 0 0).toArray, .int .i64 2]) (by simp [results, Tryz.results80, asAddr, Act.eval, hf0]) rfl ?_
 exact ⟨rfl, H6.out.2⟩
end
end Lt
end Rg
end Go.Proofs.YtahghpkjkfaieaaGreatDoor
end
section
namespace Go.Proofs.YtahghpkjkfaieaaGreatDoor
open Go.RowKit
namespace Rg
namespace Lt
section
variable {p r c gx gy : Nat}
end
end Lt
end Rg
end Go.Proofs.YtahghpkjkfaieaaGreatDoor
end
section
namespace Go.Proofs.YtahghpkjkfaieaaGreatDoor
open Go.RowKit
namespace Rg
namespace Lt
/-- Two points' cells. -/
abbrev p2 (a b : Nat) (z : Bool) (a' b' : Nat) (z' : Bool) : List Value := [U a, U b, .bool z, U a', U b', .bool z']
theorem zU {P : Program} {c : Code} {Q : Exit → Act → World → Prop} {n : Nat} {a : Act} {w : World} (h : c.wp P (Exit.then (Code.rounds P c Q n) Q) a w) : Code.rounds P c Q (n + 1) a w := h
/-- What a suite is. -/
structure Kd (s : Int) (p r c gx gy : Nat) : Prop where
 pr : Pr p
 rb : r < 18446744073709551616
 cb : c < 18446744073709551616
 kind : ∀ w, Calls Tryz.prog 80 #[.int .i64 s] w (Rt w (.tuple #[V (kd p r c gx gy), .int .i64 0]))
theorem kd_1 : Kd 1 786251 65521 12 9723 164643 := ⟨⟨by decide, by decide⟩, by decide, by decide, kindOf_1⟩
theorem call80 : CO 80 := by intro args w; go_simp
section
variable {s : Int} {p r c gx gy : Nat}
theorem Order_ok (k : Kd s p r c gx gy) (w : World) :
  Calls Tryz.prog 30 #[.int .i64 s] w (Rt w (.tuple #[U r, .int .i64 0])) := by
 have H0 : Hid (_ ∧ _) := ⟨Mm.nil w, Below.refl w.heap.size w⟩
 go_enter Tryz.func30, Tryz.ntmps30
 refine wp_seq ?_
 refine zM 2 [.q (U 0), .q (.int .i64 0)] H0 ?ho1 ?he1
 case ho1 => exact ar (ar trivial)
 intro _ w1 H1
 refine rN (wp_seq ?_)
 refine zI 8 [.q (.int .i64 s), .call (.tuple #[.agg (kd p r c gx gy).toArray, .int .i64 0]), .q (.tuple #[.agg (kd p r c gx gy).toArray, .int .i64 0]), .q (.agg (kd p r c gx gy).toArray), .q (.int .i64 0), .made (kd 0 0 0 0 0) 135, .laid 5 (kd 0 0 0 0 0) (kd p r c gx gy), .q (.int .i64 0)] (sB H1) ?ho2 ?he2 (hL := ?hL2)
 case hL2 => exact ⟨⟨_, rfl⟩, trivial⟩
 case ho2 => exact ar (ac (fun w' h => eC call80 (k.kind w')) (ar (ag (ag (am (ex_made72 rfl) (ak (fun J => ⟨rfl, rfl, rfl, fun w' h => ex_laidT h rfl rfl As135 rfl rfl rfl⟩) (ar trivial)))))))
 intro J w2 l hM hl
 have H2 : Hid (Mm w2 [(J 5, kd p r c gx gy)] ∧ _) := wB H1 hM hl [5]
 have o2_5 := vB H1 hM hl 5
 clear hM hl l H1
 generalize J 5 = J2_5 at H2 o2_5 ⊢
 clear J
 refine rN (wp_seq ?_)
 refine zM 5 [.q (PT J2_5 1), .q (U r), .q (.int .i64 0), .q (U r), .q (.int .i64 0)] H2 ?ho3 ?he3
 case ho3 => exact ag (bC 0 Ai22 (ar (ar (ar trivial))))
 intro _ w3 H3
 clear H2
 refine rN (wp_ret ?_)
 repeat (first | refine zL ?_ | refine zK ?_)
 refine bodyPost_ret (v := .tuple #[U r, .int .i64 0]) (by simp [results, Tryz.results30, go_sem, *]) rfl ?_
 exact ⟨rfl, H3.out.2⟩
theorem Order_no (s : Int) (h1 : s ≠ 1) (h2 : s ≠ 2) (w : World) :
  Calls Tryz.prog 30 #[.int .i64 s] w (Rt w (.tuple #[U 0, .int .i64 2])) := by
 have H0 : Hid (_ ∧ _) := ⟨Mm.nil w, Below.refl w.heap.size w⟩
 go_enter Tryz.func30, Tryz.ntmps30
 refine wp_seq ?_
 refine zM 2 [.q (U 0), .q (.int .i64 0)] H0 ?ho1 ?he1
 case ho1 => exact ar (ar trivial)
 intro _ w1 H1
 refine rN (wp_seq ?_)
 refine zI 8 [.q (.int .i64 s), .call (.tuple #[.agg (kd 0 0 0 0 0).toArray, .int .i64 2]), .q (.tuple #[.agg (kd 0 0 0 0 0).toArray, .int .i64 2]), .q (.agg (kd 0 0 0 0 0).toArray), .q (.int .i64 2), .made (kd 0 0 0 0 0) 135, .laid 5 (kd 0 0 0 0 0) (kd 0 0 0 0 0), .q (.int .i64 2)] (sB H1) ?ho2 ?he2 (hL := ?hL2)
 case hL2 => exact ⟨⟨_, rfl⟩, trivial⟩
 case ho2 => exact ar (ac (fun w' h => eC call80 (kindOf_no s h1 h2 w')) (ar (ag (ag (am (ex_made72 rfl) (ak (fun J => ⟨rfl, rfl, rfl, fun w' h => ex_laidT h rfl rfl As135 rfl rfl rfl⟩) (ar trivial)))))))
 intro J w2 l hM hl
 have H2 : Hid (Mm w2 [(J 5, kd 0 0 0 0 0)] ∧ _) := wB H1 hM hl [5]
 have o2_5 := vB H1 hM hl 5
 clear hM hl l H1
 generalize J 5 = J2_5 at H2 o2_5 ⊢
 clear J
 refine rN (wp_seq ?_)
 refine zM 5 [.q (PT J2_5 1), .q (U 0), .q (.int .i64 2), .q (U 0), .q (.int .i64 2)] H2 ?ho3 ?he3
 case ho3 => exact ag (bC 0 Ai22 (ar (ar (ar trivial))))
 intro _ w3 H3
 clear H2
 refine rN (wp_ret ?_)
 repeat (first | refine zL ?_ | refine zK ?_)
 refine bodyPost_ret (v := .tuple #[U 0, .int .i64 2]) (by simp [results, Tryz.results30, go_sem, *]) rfl ?_
 exact ⟨rfl, H3.out.2⟩
end
end Lt
end Rg
end Go.Proofs.YtahghpkjkfaieaaGreatDoor
end
section
namespace Go.Proofs.YtahghpkjkfaieaaGreatDoor
open Go.RowKit
namespace NT
end NT
end Go.Proofs.YtahghpkjkfaieaaGreatDoor
end
section
namespace Go.Proofs.YtahghpkjkfaieaaGreatDoor
open Go.RowKit
namespace Rg
theorem inv_ex {n a : Nat} (ok : Ok n) (hg : Nat.gcd n a = 1) : ∃ x, x < n ∧ x * a % n = 1 := by
 have key : ∀ (m : Nat) (z : WS), z.o + z.r = m → WI n a z → ∃ x, x < n ∧ x * a % n = 1 := by
  intro m
  induction m using Nat.strongRecOn with
  | _ m ih =>
   intro z hz I
   obtain ⟨o, r, u, v, h, t⟩ := z
   simp only at hz
   by_cases hr : r = 0
   ·subst hr
    have ho : o = 1 := by
     have h1 : Nat.gcd o 0 = Nat.gcd n a := I.gcd
     rw [Nat.gcd_zero_right] at h1
     rw [h1]; exact hg
    cases t with
    | true => exact ⟨_, Nat.mod_lt _ ok.pos, end_true ok I ho⟩
    | false => exact ⟨_, Nat.mod_lt _ ok.pos, end_false ok I ho⟩
   ·have hrb : r < big := by have h1 : r ≤ n := I.rn; have := ok.big; omega
    obtain ⟨k, r1, hk, er, hr1, _⟩ := trailing_any hrb hr
    obtain ⟨p1, p2, _⟩ := I.facts hr er
    obtain ⟨i1, i2⟩ := I.next hr er hr1
    have hle : r1 ≤ r := by rw [er]; exact Nat.le_mul_of_pos_right _ (Nat.two_pow_pos k)
    by_cases hl : r1 < o
    ·exact ih (r1 + (o - r1)) (by omega) _ rfl (i1 hl)
    ·exact ih (o + (r1 - o)) (by omega) _ rfl (i2 hl)
 exact key _ ⟨n, a % n, 0, 1, 0, false⟩ rfl (WI.start ok)
theorem invm_spec {n a : Nat} (ok : Ok n) (hg : Nat.gcd n a = 1) : invm n a < n ∧ invm n a * a % n = 1 := by
 obtain ⟨x, hx, h1⟩ := inv_ex ok hg
 rw [invm_eq hx h1]
 exact ⟨hx, h1⟩
end Rg
end Go.Proofs.YtahghpkjkfaieaaGreatDoor
end
section
namespace Go.Proofs.YtahghpkjkfaieaaGreatDoor
open Go.RowKit
namespace Rg
set_option maxRecDepth 100000
open NT in
theorem su_great : Su 0 rB := ⟨fun w => order_great rB base_rB w, rB_ok⟩
theorem su_little : Su 1 65521 := ⟨fun w => order_little 1 0 65521 65521 (by decide) (Lt.Order_ok Lt.kd_1) (fun w => of_any 65521 (by decide) w) w, ⟨by decide, by decide, small_big (4 * 65521) (by decide)⟩⟩
theorem su_none {s : Int} (h0 : s ≠ 0) (h1 : s ≠ 1) (h2 : s ≠ 2) : Sn s := fun w => order_little s 2 0 0 h0 (Lt.Order_no s h1 h2) (fun w => of_any 0 (by decide) w) w
end Rg
end Go.Proofs.YtahghpkjkfaieaaGreatDoor
end