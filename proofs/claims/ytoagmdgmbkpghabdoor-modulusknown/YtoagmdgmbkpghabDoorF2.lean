/- Base, Order -/
import Derived.Test.YtoagmdgmbkpghabDoorM14
import Derived.Test.YtoagmdgmbkpghabDoorN0
namespace Go.Proofs.YtoagmdgmbkpghabDoor
open Go.RowKit
namespace Rg
def pB : Nat := 4002409555221667393417789825735904156556882819939007885332058136124031650490837864442687629129015664037894272559787
theorem pB_0 : wd pB 0 = 13402431016077863595 := by decide +kernel
theorem pB_1 : wd pB 1 = 2210141511517208575 := by decide +kernel
theorem pB_2 : wd pB 2 = 7435674573564081700 := by decide +kernel
theorem pB_3 : wd pB 3 = 7239337960414712511 := by decide +kernel
theorem pB_4 : wd pB 4 = 5412103778470702295 := by decide +kernel
theorem pB_5 : wd pB 5 = 1873798617647539866 := by decide +kernel
theorem pB_lt : pB < big := by
  have h : 4 * pB < big := by decide +kernel
  omega
theorem pB_ok : Ok pB := ⟨by decide +kernel, by decide +kernel, by decide +kernel⟩
theorem ex_build_pB {ρ : Operand → Value} {o : Oper} {w : World} (ho : o.op = .build 24 #[(0, .const (.int .u64 13402431016077863595)), (1, .const (.int .u64 2210141511517208575)), (2, .const (.int .u64 7435674573564081700)), (3, .const (.int .u64 7239337960414712511)), (4, .const (.int .u64 5412103778470702295)), (5, .const (.int .u64 1873798617647539866))]) (h0 : ρ (.const (.int .u64 13402431016077863595)) = .int .u64 13402431016077863595) (h1 : ρ (.const (.int .u64 2210141511517208575)) = .int .u64 2210141511517208575) (h2 : ρ (.const (.int .u64 7435674573564081700)) = .int .u64 7435674573564081700) (h3 : ρ (.const (.int .u64 7239337960414712511)) = .int .u64 7239337960414712511) (h4 : ρ (.const (.int .u64 5412103778470702295)) = .int .u64 5412103778470702295) (h5 : ρ (.const (.int .u64 1873798617647539866)) = .int .u64 1873798617647539866) : (execOp ρ o).run Tryd.prog w = .ok (.value (N pB)) w := by
  have e : N pB = .agg #[.int .u64 13402431016077863595, .int .u64 2210141511517208575, .int .u64 7435674573564081700, .int .u64 7239337960414712511, .int .u64 5412103778470702295, .int .u64 1873798617647539866] := by simp only [N, pB_0, pB_1, pB_2, pB_3, pB_4, pB_5]
  rw [e]
  clear e
  simp only [execOp, ho]
  go_simp
set_option maxRecDepth 100000 in
theorem base_pB (w : World) :
    Calls Tryd.prog 6 #[] w fun e w' => e = .returned (N pB) ∧ Below w.heap.size w w' := by
  have H0 : Hid (_ ∧ _) := ⟨Mm.nil w, Below.refl w.heap.size w⟩
  go_enter Tryd.func6, Tryd.ntmps6
  refine wp_seq ?_
  refine walk_seq 1 [.made zero6 24] (fun w' => Mm w' []) ?pre1 ?F1 ?hpre1 (fun γ => ?hF1) (by kernel_rfl) ?hL1 ?hS1 ?ho1 ?he1
  case hpre1 =>
    simp only [List.take_succ_cons, List.take_zero]
    exact rfl
  case hF1 =>
    simp only [fill, Kind.val, Act.put, List.setIfInBounds_toArray, List.set_cons_zero]
    exact rfl
  case hL1 => exact trivial
  case hS1 => exact fun w' hb => H0.out.1.below hb
  case ho1 =>
    refine AllOk.cons ?_ ?_
    · exact fun γ => ⟨rfl, fun w' => exec_made6 rfl⟩
    exact trivial
  intro γ w1 l hM hl
  have M1 : Mm w1 [(γ 0, zero6)] := H0.out.1.grow hM (Nat.le_refl _) hl [0] rfl (by decide)
  have B1 : Below w.heap.size w w1 := H0.out.2.trans (hM.below.mono H0.out.2.size)
  have o1_0 : Hid (w.heap.size ≤ γ 0) := Nat.le_trans H0.out.2.size (hM.fin (Nat.le_refl _) hl (i := 0) rfl).2.1
  clear hM hl l
  generalize γ 0 = γ1_0 at M1 o1_0 ⊢
  clear γ
  have H1 : Hid (_ ∧ _) := ⟨M1, B1⟩
  clear M1 B1
  refine rest_at (l := []) rfl ?_
  refine rest_nil ?_
  refine then_normal ?_
  refine wp_seq ?_
  refine walk_seq 1 [.quiet (N pB)] (fun w' => Mm w' [(γ1_0, zero6)]) ?pre2 ?F2 ?hpre2 (fun γ => ?hF2) (by kernel_rfl) ?hL2 ?hS2 ?ho2 ?he2
  case hpre2 =>
    simp only [List.take_succ_cons, List.take_zero]
    exact rfl
  case hF2 =>
    simp only [fill, Kind.val, Act.put, List.setIfInBounds_toArray, List.set_cons_zero, List.set_cons_succ]
    exact rfl
  case hL2 => exact trivial
  case hS2 => exact fun w' hb => H1.out.1.below hb
  case ho2 =>
    refine AllOk.cons ?_ ?_
    · exact fun γ => ⟨rfl, fun w' _ => ex_build_pB rfl rfl rfl rfl rfl rfl rfl ⟩
    exact trivial
  intro γ w2 l hM hl
  have M2 : Mm w2 [(γ1_0, zero6)] := H1.out.1.grow hM (Nat.le_refl _) hl [] rfl (by decide)
  have B2 : Below w.heap.size w w2 := H1.out.2.trans (hM.below.mono H1.out.2.size)
  clear hM hl l H1
  clear γ
  have H2 : Hid (_ ∧ _) := ⟨M2, B2⟩
  clear M2 B2
  refine rest_at (l := [1]) rfl ?_
  refine rest_store rfl rfl rfl (ex_store6 H2.out.1 0 rfl rfl rfl rfl (Nat.le_of_ble_eq_true rfl)) ?_
  have H3 : Hid (Mm (w2.setCells γ1_0 0 (cells6 pB)) [(γ1_0, cells6 pB)] ∧ Below w.heap.size w (w2.setCells γ1_0 0 (cells6 pB))) := ⟨H2.out.1.put 0 (off := 0) (vs := cells6 pB) rfl (Nat.le_of_ble_eq_true rfl), below_setCells _ o1_0.out _ _ _ H2.out.2⟩
  clear H2
  generalize hgw : World.setCells _ _ _ _ = w3 at H3 ⊢
  clear hgw
  refine rest_nil ?_
  refine then_normal ?_
  refine wp_ret ?_
  repeat (first | refine then_ret ?_ | refine block_ret ?_)
  have c0 := H3.out.1.get 0 rfl 0 rfl
  have c1 := H3.out.1.get 0 rfl 1 rfl
  have c2 := H3.out.1.get 0 rfl 2 rfl
  have c3 := H3.out.1.get 0 rfl 3 rfl
  have c4 := H3.out.1.get 0 rfl 4 rfl
  have c5 := H3.out.1.get 0 rfl 5 rfl
  refine bodyPost_ret (v := N pB) (by simp [results, Tryd.results6, go_sem, *]) rfl ?_
  exact ⟨rfl, H3.out.2⟩
def rB : Nat := 52435875175126190479447740508185965837690552500527637822603658699938581184513
theorem rB_0 : wd rB 0 = 18446744069414584321 := by decide +kernel
theorem rB_1 : wd rB 1 = 6034159408538082302 := by decide +kernel
theorem rB_2 : wd rB 2 = 3691218898639771653 := by decide +kernel
theorem rB_3 : wd rB 3 = 8353516859464449352 := by decide +kernel
theorem rB_4 : wd rB 4 = 0 := by decide +kernel
theorem rB_5 : wd rB 5 = 0 := by decide +kernel
theorem rB_lt : rB < big := by
  have h : 4 * rB < big := by decide +kernel
  omega
theorem rB_ok : Ok rB := ⟨by decide +kernel, by decide +kernel, by decide +kernel⟩
theorem ex_build_rB {ρ : Operand → Value} {o : Oper} {w : World} (ho : o.op = .build 24 #[(0, .const (.int .u64 18446744069414584321)), (1, .const (.int .u64 6034159408538082302)), (2, .const (.int .u64 3691218898639771653)), (3, .const (.int .u64 8353516859464449352))]) (h0 : ρ (.const (.int .u64 18446744069414584321)) = .int .u64 18446744069414584321) (h1 : ρ (.const (.int .u64 6034159408538082302)) = .int .u64 6034159408538082302) (h2 : ρ (.const (.int .u64 3691218898639771653)) = .int .u64 3691218898639771653) (h3 : ρ (.const (.int .u64 8353516859464449352)) = .int .u64 8353516859464449352) : (execOp ρ o).run Tryd.prog w = .ok (.value (N rB)) w := by
  have e : N rB = .agg #[.int .u64 18446744069414584321, .int .u64 6034159408538082302, .int .u64 3691218898639771653, .int .u64 8353516859464449352, .int .u64 0, .int .u64 0] := by simp only [N, rB_0, rB_1, rB_2, rB_3, rB_4, rB_5]
  rw [e]
  clear e
  simp only [execOp, ho]
  go_simp
set_option maxRecDepth 100000 in
theorem base_rB (w : World) :
    Calls Tryd.prog 7 #[] w fun e w' => e = .returned (N rB) ∧ Below w.heap.size w w' := by
  have H0 : Hid (_ ∧ _) := ⟨Mm.nil w, Below.refl w.heap.size w⟩
  go_enter Tryd.func7, Tryd.ntmps7
  refine wp_seq ?_
  refine walk_seq 1 [.made zero6 24] (fun w' => Mm w' []) ?pre1 ?F1 ?hpre1 (fun γ => ?hF1) (by kernel_rfl) ?hL1 ?hS1 ?ho1 ?he1
  case hpre1 =>
    simp only [List.take_succ_cons, List.take_zero]
    exact rfl
  case hF1 =>
    simp only [fill, Kind.val, Act.put, List.setIfInBounds_toArray, List.set_cons_zero]
    exact rfl
  case hL1 => exact trivial
  case hS1 => exact fun w' hb => H0.out.1.below hb
  case ho1 =>
    refine AllOk.cons ?_ ?_
    · exact fun γ => ⟨rfl, fun w' => exec_made6 rfl⟩
    exact trivial
  intro γ w1 l hM hl
  have M1 : Mm w1 [(γ 0, zero6)] := H0.out.1.grow hM (Nat.le_refl _) hl [0] rfl (by decide)
  have B1 : Below w.heap.size w w1 := H0.out.2.trans (hM.below.mono H0.out.2.size)
  have o1_0 : Hid (w.heap.size ≤ γ 0) := Nat.le_trans H0.out.2.size (hM.fin (Nat.le_refl _) hl (i := 0) rfl).2.1
  clear hM hl l
  generalize γ 0 = γ1_0 at M1 o1_0 ⊢
  clear γ
  have H1 : Hid (_ ∧ _) := ⟨M1, B1⟩
  clear M1 B1
  refine rest_at (l := []) rfl ?_
  refine rest_nil ?_
  refine then_normal ?_
  refine wp_seq ?_
  refine walk_seq 1 [.quiet (N rB)] (fun w' => Mm w' [(γ1_0, zero6)]) ?pre2 ?F2 ?hpre2 (fun γ => ?hF2) (by kernel_rfl) ?hL2 ?hS2 ?ho2 ?he2
  case hpre2 =>
    simp only [List.take_succ_cons, List.take_zero]
    exact rfl
  case hF2 =>
    simp only [fill, Kind.val, Act.put, List.setIfInBounds_toArray, List.set_cons_zero, List.set_cons_succ]
    exact rfl
  case hL2 => exact trivial
  case hS2 => exact fun w' hb => H1.out.1.below hb
  case ho2 =>
    refine AllOk.cons ?_ ?_
    · exact fun γ => ⟨rfl, fun w' _ => ex_build_rB rfl rfl rfl rfl rfl ⟩
    exact trivial
  intro γ w2 l hM hl
  have M2 : Mm w2 [(γ1_0, zero6)] := H1.out.1.grow hM (Nat.le_refl _) hl [] rfl (by decide)
  have B2 : Below w.heap.size w w2 := H1.out.2.trans (hM.below.mono H1.out.2.size)
  clear hM hl l H1
  clear γ
  have H2 : Hid (_ ∧ _) := ⟨M2, B2⟩
  clear M2 B2
  refine rest_at (l := [1]) rfl ?_
  refine rest_store rfl rfl rfl (ex_store6 H2.out.1 0 rfl rfl rfl rfl (Nat.le_of_ble_eq_true rfl)) ?_
  have H3 : Hid (Mm (w2.setCells γ1_0 0 (cells6 rB)) [(γ1_0, cells6 rB)] ∧ Below w.heap.size w (w2.setCells γ1_0 0 (cells6 rB))) := ⟨H2.out.1.put 0 (off := 0) (vs := cells6 rB) rfl (Nat.le_of_ble_eq_true rfl), below_setCells _ o1_0.out _ _ _ H2.out.2⟩
  clear H2
  generalize hgw : World.setCells _ _ _ _ = w3 at H3 ⊢
  clear hgw
  refine rest_nil ?_
  refine then_normal ?_
  refine wp_ret ?_
  repeat (first | refine then_ret ?_ | refine block_ret ?_)
  have c0 := H3.out.1.get 0 rfl 0 rfl
  have c1 := H3.out.1.get 0 rfl 1 rfl
  have c2 := H3.out.1.get 0 rfl 2 rfl
  have c3 := H3.out.1.get 0 rfl 3 rfl
  have c4 := H3.out.1.get 0 rfl 4 rfl
  have c5 := H3.out.1.get 0 rfl 5 rfl
  refine bodyPost_ret (v := N rB) (by simp [results, Tryd.results7, go_sem, *]) rfl ?_
  exact ⟨rfl, H3.out.2⟩
end Rg
end Go.Proofs.YtoagmdgmbkpghabDoor
