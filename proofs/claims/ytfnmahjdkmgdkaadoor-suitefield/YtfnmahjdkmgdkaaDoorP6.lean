/- Texts of the proof, joined. -/
import Derived.Test.YtfnmahjdkmgdkaaDoorP5
import Derived.Laws.AppendOwn
import Derived.BigQuiet
import Derived.Deep.DeepCutAuto
import Derived.Deep.CutBlock
import Derived.WalkSmall
section
namespace Go.Proofs.YtfnmahjdkmgdkaaDoor
open Go.RowKit
namespace Rg
set_option maxRecDepth 100000
theorem rounds_in {P : Program} {c : Code} {Q : Exit → Act → World → Prop} {n : Nat} {a : Act} {w : World} (h : c.wp P (Exit.then (Code.rounds P c Q n) Q) a w) : Code.rounds P c Q (n + 1) a w := h
section
variable {ρ : Operand → Value} {o : Oper} {x y z u : Operand} {a b c d : Nat} {w : World}
theorem ex_bsN1 (ho : o.op = .buildSlice 38 1 #[(0, x)]) (hx : ρ x = N a) : (execOp ρ o).run Tryd.prog w = .ok (.value (.slice (some ⟨w.heap.size, 0, none⟩) 1 1)) (w.alloc (.cells (cel [a] : List Value).toArray 24)) := by
  simp only [execOp, ho, List.map_toArray, List.map_cons, List.map_nil, hx]
  kernel_rfl
theorem ex_bsN2 (ho : o.op = .buildSlice 38 2 #[(0, x), (1, y)]) (hx : ρ x = N a) (hy : ρ y = N b) : (execOp ρ o).run Tryd.prog w = .ok (.value (.slice (some ⟨w.heap.size, 0, none⟩) 2 2)) (w.alloc (.cells (cel [a, b] : List Value).toArray 24)) := by
  simp only [execOp, ho, List.map_toArray, List.map_cons, List.map_nil, hx, hy]
  kernel_rfl
theorem ex_bsN3 (ho : o.op = .buildSlice 38 3 #[(0, x), (1, y), (2, z)]) (hx : ρ x = N a) (hy : ρ y = N b) (hz : ρ z = N c) : (execOp ρ o).run Tryd.prog w = .ok (.value (.slice (some ⟨w.heap.size, 0, none⟩) 3 3)) (w.alloc (.cells (cel [a, b, c] : List Value).toArray 24)) := by
  simp only [execOp, ho, List.map_toArray, List.map_cons, List.map_nil, hx, hy, hz]
  kernel_rfl
end
set_option maxRecDepth 100000 in
theorem order_great (r : Nat)
    (c0 : ∀ w, Calls Tryd.prog 52 #[] w fun e w' => e = .returned (N r) ∧ Below w.heap.size w w') (w : World) :
    Calls Tryd.prog 25 #[.int .i64 0] w fun e w' => e = .returned (.tuple #[N r, .int .i64 0]) ∧ Below w.heap.size w w' := by
  have H0 : Hid (_ ∧ _) := ⟨Mm.nil w, Below.refl w.heap.size w⟩
  have C0 : Hid _ := c0
  clear c0
  go_enter Tryd.func25, Tryd.ntmps25
  refine wp_seq ?_
  refine walk_seqA 2 [.made zero6 24, .quiet (.int .i64 0)] (sB H0) ?ho1 ?he1
  case ho1 => exact ak (fun γ => ⟨rfl, fun w' => exec_made6 rfl⟩) (ak (fun _ => ⟨rfl, fun _ _ => rfl⟩) trivial)
  intro γ w1 l hM hl
  have H1 : Hid (Mm w1 [(γ 0, zero6)] ∧ _) := growB H0 hM (Nat.le_refl _) hl [0] rfl (by decide)
  have o1_0 := ownB H0 hM (Nat.le_refl _) hl (i := 0) rfl
  clear hM hl l
  generalize γ 0 = γ1_0 at H1 o1_0 ⊢
  clear γ
  refine rest0 rfl (then_normal (wp_seq ?_))
  refine walk_seqB 1 [.quiet (.int .i64 0)] H1 ?ho2 ?he2
  case ho2 => exact ak (fun _ => ⟨rfl, fun _ _ => rfl⟩) trivial
  intro _ w2 H2
  clear H1
  refine rest0 rfl (then_normal (wp_block (wp_seq ?_)))
  refine walk_seqB 2 [.quiet (.bool true), .quiet (.bool true)] H2 ?ho3 ?he3
  case ho3 => exact ak (by refine fun γ => ⟨rfl, fun w' h => ?_⟩; clear h; go_simp) (ak (fun _ => ⟨rfl, fun _ _ => rfl⟩) trivial)
  intro _ w3 H3
  clear H2
  refine rest0 rfl (then_normal (wp_cond_true rfl (wp_seq ?_)))
  refine walk_seqB 1 [.call (N r)] H3 ?ho4 ?he4
  case ho4 => exact ak (fun γ => ⟨rfl, fun w' h => ⟨52, #[], exec_call rfl call52 rfl (mpn rfl), C0.out w'⟩⟩) trivial
  intro _ w4 H4
  clear H3
  refine rest_at (l := [1, 2]) rfl ?_
  refine rest_store rfl rfl rfl (ex_store6 H4.out.1 0 rfl rfl rfl rfl (Nat.le_of_ble_eq_true rfl)) ?_
  have H5 : Hid (Mm (w4.setCells γ1_0 0 (cells6 r)) [(γ1_0, cells6 r)] ∧ Below w.heap.size w (w4.setCells γ1_0 0 (cells6 r))) := ⟨H4.out.1.put 0 (off := 0) (vs := cells6 r) rfl (Nat.le_of_ble_eq_true rfl), below_setCells _ o1_0.out _ _ _ H4.out.2⟩
  clear H4
  generalize hgw : World.setCells _ _ _ _ = w5 at H5 ⊢
  clear hgw
  refine rest_set (d := 3) rfl rfl rfl rfl ?_
  simp only [Act.put, sa, sz, ss]
  refine rest_nil (then_normal (wp_ret ?_))
  repeat (first | refine then_ret ?_ | refine block_ret ?_)
  have c0 := H5.out.1.get 0 rfl 0 rfl
  have c1 := H5.out.1.get 0 rfl 1 rfl
  have c2 := H5.out.1.get 0 rfl 2 rfl
  have c3 := H5.out.1.get 0 rfl 3 rfl
  have c4 := H5.out.1.get 0 rfl 4 rfl
  have c5 := H5.out.1.get 0 rfl 5 rfl
  refine bodyPost_ret (v := .tuple #[N r, .int .i64 0]) (by simp [results, Tryd.results25, go_sem, *]) rfl ?_
  exact ⟨rfl, H5.out.2⟩
set_option maxRecDepth 100000 in
theorem order_little (s er : Int) (q r : Nat) (hs : s ≠ 0)
    (c0 : ∀ w, Calls Tryd.prog 53 #[.int .i64 s] w fun e w' => e = .returned (.tuple #[.int .u64 (q : Int), .int .i64 er]) ∧ Below w.heap.size w w')
    (c1 : ∀ w, Calls Tryd.prog 23 #[.int .u64 (q : Int)] w fun e w' => e = .returned (N r) ∧ Below w.heap.size w w') (w : World) :
    Calls Tryd.prog 25 #[.int .i64 s] w fun e w' => e = .returned (.tuple #[N r, .int .i64 er]) ∧ Below w.heap.size w w' := by
  have H0 : Hid (_ ∧ _) := ⟨Mm.nil w, Below.refl w.heap.size w⟩
  have C0 : Hid _ := c0
  have C1 : Hid _ := c1
  clear c0 c1
  go_enter Tryd.func25, Tryd.ntmps25
  refine wp_seq ?_
  refine walk_seqA 2 [.made zero6 24, .quiet (.int .i64 0)] (sB H0) ?ho1 ?he1
  case ho1 => exact ak (fun γ => ⟨rfl, fun w' => exec_made6 rfl⟩) (ak (fun _ => ⟨rfl, fun _ _ => rfl⟩) trivial)
  intro γ w1 l hM hl
  have H1 : Hid (Mm w1 [(γ 0, zero6)] ∧ _) := growB H0 hM (Nat.le_refl _) hl [0] rfl (by decide)
  have o1_0 := ownB H0 hM (Nat.le_refl _) hl (i := 0) rfl
  clear hM hl l
  generalize γ 0 = γ1_0 at H1 o1_0 ⊢
  clear γ
  refine rest0 rfl (then_normal (wp_seq ?_))
  refine walk_seqB 1 [.quiet (.int .i64 s)] H1 ?ho2 ?he2
  case ho2 => exact ak (fun _ => ⟨rfl, fun _ _ => rfl⟩) trivial
  intro _ w2 H2
  clear H1
  refine rest0 rfl (then_normal (wp_block (wp_seq ?_)))
  refine walk_seqB 2 [.quiet (.bool false), .quiet (.bool false)] H2 ?ho3 ?he3
  case ho3 => exact ak (by refine fun γ => ⟨rfl, fun w' h => ?_⟩; clear h; go_simp) (ak (fun _ => ⟨rfl, fun _ _ => rfl⟩) trivial)
  intro _ w3 H3
  clear H2
  refine rest0 rfl (then_normal (wp_cond_false rfl (wp_seq ?_)))
  refine walk_seqB 7 [.quiet (.int .i64 s), .call (.tuple #[.int .u64 (q : Int), .int .i64 er]), .quiet (.tuple #[.int .u64 (q : Int), .int .i64 er]), .quiet (.int .u64 (q : Int)), .quiet (.int .i64 er), .quiet (.int .u64 (q : Int)), .quiet (.int .i64 er)] H3 ?ho4 ?he4
  case ho4 => exact ak (fun _ => ⟨rfl, fun _ _ => rfl⟩) (ak (fun γ => ⟨rfl, fun w' h => ⟨53, #[.int .i64 s], exec_call rfl call53 rfl (mpn rfl), C0.out w'⟩⟩) (ak (fun _ => ⟨rfl, fun _ _ => rfl⟩) (ak (by refine fun γ => ⟨rfl, fun w' h => ?_⟩; clear h; go_simp) (ak (by refine fun γ => ⟨rfl, fun w' h => ?_⟩; clear h; go_simp) (ak (fun _ => ⟨rfl, fun _ _ => rfl⟩) (ak (fun _ => ⟨rfl, fun _ _ => rfl⟩) trivial))))))
  intro _ w4 H4
  clear H3
  refine rest0 rfl (then_normal (wp_seq ?_))
  refine walk_seqB 3 [.quiet (.int .u64 (q : Int)), .call (N r), .quiet (.int .i64 er)] H4 ?ho5 ?he5
  case ho5 => exact ak (fun _ => ⟨rfl, fun _ _ => rfl⟩) (ak (fun γ => ⟨rfl, fun w' h => ⟨23, #[.int .u64 (q : Int)], exec_call rfl call23 rfl (mpn rfl), C1.out w'⟩⟩) (ak (fun _ => ⟨rfl, fun _ _ => rfl⟩) trivial))
  intro _ w5 H5
  clear H4
  refine rest_at (l := [3, 4]) rfl ?_
  refine rest_store rfl rfl rfl (ex_store6 H5.out.1 0 rfl rfl rfl rfl (Nat.le_of_ble_eq_true rfl)) ?_
  have H6 : Hid (Mm (w5.setCells γ1_0 0 (cells6 r)) [(γ1_0, cells6 r)] ∧ Below w.heap.size w (w5.setCells γ1_0 0 (cells6 r))) := ⟨H5.out.1.put 0 (off := 0) (vs := cells6 r) rfl (Nat.le_of_ble_eq_true rfl), below_setCells _ o1_0.out _ _ _ H5.out.2⟩
  clear H5
  generalize hgw : World.setCells _ _ _ _ = w6 at H6 ⊢
  clear hgw
  refine rest_set (d := 3) rfl rfl rfl rfl ?_
  simp only [Act.put, sa, sz, ss]
  refine rest_nil (then_normal (wp_ret ?_))
  repeat (first | refine then_ret ?_ | refine block_ret ?_)
  have c0 := H6.out.1.get 0 rfl 0 rfl
  have c1 := H6.out.1.get 0 rfl 1 rfl
  have c2 := H6.out.1.get 0 rfl 2 rfl
  have c3 := H6.out.1.get 0 rfl 3 rfl
  have c4 := H6.out.1.get 0 rfl 4 rfl
  have c5 := H6.out.1.get 0 rfl 5 rfl
  refine bodyPost_ret (v := .tuple #[N r, .int .i64 er]) (by simp [results, Tryd.results25, go_sem, *]) rfl ?_
  exact ⟨rfl, H6.out.2⟩
/-- A suite: its order is told, and is a modulus. -/
structure Su (s : Int) (r : Nat) : Prop where
  ord : ∀ w, Calls Tryd.prog 25 #[.int .i64 s] w fun e w' => e = .returned (.tuple #[N r, .int .i64 0]) ∧ Below w.heap.size w w'
  ok : Ok r
theorem cmp_below {a r : Nat} (h : a < r) (ok : Ok r) (w : World) : Calls Tryd.prog 41 #[N a, N r] w fun e w' => e = .returned (.int .i64 (-1)) ∧ Below w.heap.size w w' := by
  have e := compare_any a r (Nat.lt_trans h ok.big) ok.big w
  rw [cmp_lt h] at e
  exact e
set_option maxHeartbeats 1000000 in
set_option maxRecDepth 100000 in
theorem above1_ok {s : Int} {r : Nat} (hS : Su s r) (g a : Nat) (ha : a < r) (w : World) (hm : Mm w [(g, cel [a])]) :
    Calls Tryd.prog 81 #[.int .i64 s, .slice (some ⟨g, 0, none⟩) 1 1] w fun e w' => e = .returned (.tuple #[N r, .int .i64 0]) ∧ Below w.heap.size w w' := by
  have H0 : Hid (_ ∧ _) := ⟨hm, Below.refl w.heap.size w⟩
  clear hm
  go_enter Tryd.func81, Tryd.ntmps81
  refine wp_seq ?_
  refine walk_seqA 2 [.made zero6 24, .quiet (.int .i64 0)] (sB H0) ?ho1 ?he1
  case ho1 => exact ak (fun γ => ⟨rfl, fun w' => exec_made6 rfl⟩) (ak (fun _ => ⟨rfl, fun _ _ => rfl⟩) trivial)
  intro γ w1 l hM hl
  have H1 : Hid (Mm w1 [(γ 0, zero6), (g, cel [a])] ∧ _) := growB H0 hM (Nat.le_refl _) hl [0] rfl (by decide)
  have o1_0 := ownB H0 hM (Nat.le_refl _) hl (i := 0) rfl
  clear hM hl l
  generalize γ 0 = γ1_0 at H1 o1_0 ⊢
  clear γ
  refine rest0 rfl (then_normal (wp_seq ?_))
  refine walk_seqA 8 [.quiet (.int .i64 s), .call (.tuple #[N r, .int .i64 0]), .quiet (.tuple #[N r, .int .i64 0]), .quiet (N r), .quiet (.int .i64 0), .made zero6 24, .laid 5 zero6 (cells6 r), .quiet (.int .i64 0)] (sB H1) ?ho2 ?he2 (hL := ?hL2)
  case hL2 => exact ⟨⟨_, rfl⟩, trivial⟩
  case ho2 => exact ak (fun _ => ⟨rfl, fun _ _ => rfl⟩) (ak (fun γ => ⟨rfl, fun w' h => ⟨25, #[.int .i64 s], exec_call rfl call25 rfl (mpn rfl), hS.ord w'⟩⟩) (ak (fun _ => ⟨rfl, fun _ _ => rfl⟩) (ak (by refine fun γ => ⟨rfl, fun w' h => ?_⟩; clear h; go_simp) (ak (by refine fun γ => ⟨rfl, fun w' h => ?_⟩; clear h; go_simp) (ak (fun γ => ⟨rfl, fun w' => exec_made6 rfl⟩) (ak (fun γ => ⟨rfl, rfl, rfl, fun w' h => exec_laid6 h rfl rfl rfl⟩) (ak (fun _ => ⟨rfl, fun _ _ => rfl⟩) trivial)))))))
  intro γ w2 l hM hl
  have H2 : Hid (Mm w2 [(γ 5, cells6 r), (γ1_0, zero6), (g, cel [a])] ∧ _) := growB H1 hM (Nat.le_refl _) hl [5] rfl (by decide)
  have o2_5 := ownB H1 hM (Nat.le_refl _) hl (i := 5) rfl
  clear hM hl l H1
  generalize γ 5 = γ2_5 at H2 o2_5 ⊢
  clear γ
  refine rest0 rfl (then_normal (wp_seq (wp_seq ?_)))
  refine walk_seqB 2 [.quiet (.int .i64 0), .quiet (.bool false)] H2 ?ho3 ?he3
  case ho3 => exact ak (fun _ => ⟨rfl, fun _ _ => rfl⟩) (ak (by refine fun γ => ⟨rfl, fun w' h => ?_⟩; clear h; go_simp) trivial)
  intro _ w3 H3
  clear H2
  refine rest0 rfl (then_normal (wp_cond_false rfl ?_))
  refine wp_skip (then_normal ?_)
  refine wp_seq (wp_seq ?_)
  refine walk_seqB 3 [.quiet (.slice (some ⟨g, 0, none⟩) 1 1), .quiet (.int .i64 1), .quiet (.int .i64 0)] H3 ?ho4 ?he4
  case ho4 => exact ak (fun _ => ⟨rfl, fun _ _ => rfl⟩) (ak (by refine fun γ => ⟨rfl, fun w' h => ?_⟩; clear h; go_simp) (ak (fun _ => ⟨rfl, fun _ _ => rfl⟩) trivial))
  intro _ w4 H4
  clear H3
  refine rest0 rfl (then_normal (wp_block ?_))
  refine wp_loop_rounds 2 ?_
  refine rounds_in (n := 1) ?_
  refine wp_seq ?_
  refine walk_seqB 1 [.quiet (.bool true)] H4 ?ho5 ?he5
  case ho5 => exact ak (by refine fun γ => ⟨rfl, fun w' h => ?_⟩; clear h; go_simp) trivial
  intro _ w5 H5
  clear H4
  refine rest0 rfl (then_normal (wp_seq ?_))
  refine wp_cond_true rfl (wp_skip ?_)
  refine then_normal (wp_seq ?_)
  refine wp_block (wp_seq ?_)
  refine walk_seqA 4 [.quiet (PT g 0), .quiet (N a), .made zero6 24, .laid 2 zero6 (cells6 a)] (sB H5) ?ho6 ?he6 (hL := ?hL6)
  case hL6 => exact ⟨⟨_, rfl⟩, trivial⟩
  case ho6 => exact ak (by refine fun γ => ⟨rfl, fun w' h => ?_⟩; clear h; go_simp) (ak (fun γ => ⟨rfl, fun w' h => ex_loadN (i := 0) h 2 rfl rfl rfl rfl⟩) (ak (fun γ => ⟨rfl, fun w' => exec_made6 rfl⟩) (ak (fun γ => ⟨rfl, rfl, rfl, fun w' h => exec_laid6 h rfl rfl rfl⟩) trivial)))
  intro γ w6 l hM hl
  have H6 : Hid (Mm w6 [(γ 2, cells6 a), (γ2_5, cells6 r), (γ1_0, zero6), (g, cel [a])] ∧ _) := growB H5 hM (Nat.le_refl _) hl [2] rfl (by decide)
  have o6_2 := ownB H5 hM (Nat.le_refl _) hl (i := 2) rfl
  clear hM hl l H5
  generalize γ 2 = γ6_2 at H6 o6_2 ⊢
  clear γ
  refine rest0 rfl (then_normal (wp_seq ?_))
  refine walk_seqB 4 [.quiet (N a), .quiet (N r), .call (.int .i64 (-1)), .quiet (.bool false)] H6 ?ho7 ?he7
  case ho7 => exact ak (fun γ => ⟨rfl, fun w' h => ex_load6 h 0 rfl rfl rfl rfl⟩) (ak (fun γ => ⟨rfl, fun w' h => ex_load6 h 1 rfl rfl rfl rfl⟩) (ak (fun γ => ⟨rfl, fun w' h => ⟨41, #[N a, N r], exec_call rfl call41 rfl (mpn rfl), cmp_below ha hS.ok w'⟩⟩) (ak (by refine fun γ => ⟨rfl, fun w' h => ?_⟩; clear h; go_simp) trivial)))
  intro _ w7 H7
  clear H6
  refine rest0 rfl (then_normal (wp_cond_false rfl ?_))
  refine wp_skip (block_normal (then_normal ?_))
  refine walk_seqB 1 [.quiet (.int .i64 1)] H7 ?ho8 ?he8
  case ho8 => exact ak (fun γ => ⟨rfl, fun w' _ => by kernel_rfl⟩) trivial
  intro _ w8 H8
  clear H7
  refine rest_at (l := [1]) rfl ?_
  refine rest_set (d := 21) rfl rfl rfl rfl ?_
  simp only [Act.put, sa, sz, ss]
  refine rest_nil (then_normal ?_)
  refine rounds_in (n := 0) ?_
  refine wp_seq ?_
  refine walk_seqB 1 [.quiet (.bool false)] H8 ?ho9 ?he9
  case ho9 => exact ak (by refine fun γ => ⟨rfl, fun w' h => ?_⟩; clear h; go_simp) trivial
  intro _ w9 H9
  clear H8
  refine rest0 rfl (then_normal (wp_seq (wp_cond_false rfl ?_)))
  refine wp_exit ?_
  repeat refine then_exit ?_
  refine block_exit ?_
  refine then_normal (wp_seq ?_)
  refine walk_seqB 1 [.quiet (N r)] H9 ?ho10 ?he10
  case ho10 => exact ak (fun γ => ⟨rfl, fun w' h => ex_load6 h 1 rfl rfl rfl rfl⟩) trivial
  intro _ w10 H10
  clear H9
  refine rest_at (l := [1, 2]) rfl ?_
  refine rest_store rfl rfl rfl (ex_store6 H10.out.1 2 rfl rfl rfl rfl (Nat.le_of_ble_eq_true rfl)) ?_
  have H11 : Hid (Mm (w10.setCells γ1_0 0 (cells6 r)) [(γ6_2, cells6 a), (γ2_5, cells6 r), (γ1_0, cells6 r), (g, cel [a])] ∧ Below w.heap.size w (w10.setCells γ1_0 0 (cells6 r))) := ⟨H10.out.1.put 2 (off := 0) (vs := cells6 r) rfl (Nat.le_of_ble_eq_true rfl), below_setCells _ o1_0.out _ _ _ H10.out.2⟩
  clear H10
  generalize hgw : World.setCells _ _ _ _ = w11 at H11 ⊢
  clear hgw
  refine rest_set (d := 5) rfl rfl rfl rfl ?_
  simp only [Act.put, sa, sz, ss]
  refine rest_nil (then_normal (wp_ret ?_))
  repeat (first | refine then_ret ?_ | refine block_ret ?_)
  have c0 := H11.out.1.get 2 rfl 0 rfl
  have c1 := H11.out.1.get 2 rfl 1 rfl
  have c2 := H11.out.1.get 2 rfl 2 rfl
  have c3 := H11.out.1.get 2 rfl 3 rfl
  have c4 := H11.out.1.get 2 rfl 4 rfl
  have c5 := H11.out.1.get 2 rfl 5 rfl
  refine bodyPost_ret (v := .tuple #[N r, .int .i64 0]) (by simp [results, Tryd.results81, go_sem, *]) rfl ?_
  exact ⟨rfl, H11.out.2⟩
set_option maxHeartbeats 1000000 in
set_option maxRecDepth 100000 in
theorem above2_ok {s : Int} {r : Nat} (hS : Su s r) (g a b : Nat) (ha : a < r) (hb : b < r) (w : World) (hm : Mm w [(g, cel [a, b])]) :
    Calls Tryd.prog 81 #[.int .i64 s, .slice (some ⟨g, 0, none⟩) 2 2] w fun e w' => e = .returned (.tuple #[N r, .int .i64 0]) ∧ Below w.heap.size w w' := by
  have H0 : Hid (_ ∧ _) := ⟨hm, Below.refl w.heap.size w⟩
  clear hm
  go_enter Tryd.func81, Tryd.ntmps81
  refine wp_seq ?_
  refine walk_seqA 2 [.made zero6 24, .quiet (.int .i64 0)] (sB H0) ?ho1 ?he1
  case ho1 => exact ak (fun γ => ⟨rfl, fun w' => exec_made6 rfl⟩) (ak (fun _ => ⟨rfl, fun _ _ => rfl⟩) trivial)
  intro γ w1 l hM hl
  have H1 : Hid (Mm w1 [(γ 0, zero6), (g, cel [a, b])] ∧ _) := growB H0 hM (Nat.le_refl _) hl [0] rfl (by decide)
  have o1_0 := ownB H0 hM (Nat.le_refl _) hl (i := 0) rfl
  clear hM hl l
  generalize γ 0 = γ1_0 at H1 o1_0 ⊢
  clear γ
  refine rest0 rfl (then_normal (wp_seq ?_))
  refine walk_seqA 8 [.quiet (.int .i64 s), .call (.tuple #[N r, .int .i64 0]), .quiet (.tuple #[N r, .int .i64 0]), .quiet (N r), .quiet (.int .i64 0), .made zero6 24, .laid 5 zero6 (cells6 r), .quiet (.int .i64 0)] (sB H1) ?ho2 ?he2 (hL := ?hL2)
  case hL2 => exact ⟨⟨_, rfl⟩, trivial⟩
  case ho2 => exact ak (fun _ => ⟨rfl, fun _ _ => rfl⟩) (ak (fun γ => ⟨rfl, fun w' h => ⟨25, #[.int .i64 s], exec_call rfl call25 rfl (mpn rfl), hS.ord w'⟩⟩) (ak (fun _ => ⟨rfl, fun _ _ => rfl⟩) (ak (by refine fun γ => ⟨rfl, fun w' h => ?_⟩; clear h; go_simp) (ak (by refine fun γ => ⟨rfl, fun w' h => ?_⟩; clear h; go_simp) (ak (fun γ => ⟨rfl, fun w' => exec_made6 rfl⟩) (ak (fun γ => ⟨rfl, rfl, rfl, fun w' h => exec_laid6 h rfl rfl rfl⟩) (ak (fun _ => ⟨rfl, fun _ _ => rfl⟩) trivial)))))))
  intro γ w2 l hM hl
  have H2 : Hid (Mm w2 [(γ 5, cells6 r), (γ1_0, zero6), (g, cel [a, b])] ∧ _) := growB H1 hM (Nat.le_refl _) hl [5] rfl (by decide)
  have o2_5 := ownB H1 hM (Nat.le_refl _) hl (i := 5) rfl
  clear hM hl l H1
  generalize γ 5 = γ2_5 at H2 o2_5 ⊢
  clear γ
  refine rest0 rfl (then_normal (wp_seq (wp_seq ?_)))
  refine walk_seqB 2 [.quiet (.int .i64 0), .quiet (.bool false)] H2 ?ho3 ?he3
  case ho3 => exact ak (fun _ => ⟨rfl, fun _ _ => rfl⟩) (ak (by refine fun γ => ⟨rfl, fun w' h => ?_⟩; clear h; go_simp) trivial)
  intro _ w3 H3
  clear H2
  refine rest0 rfl (then_normal (wp_cond_false rfl ?_))
  refine wp_skip (then_normal ?_)
  refine wp_seq (wp_seq ?_)
  refine walk_seqB 3 [.quiet (.slice (some ⟨g, 0, none⟩) 2 2), .quiet (.int .i64 2), .quiet (.int .i64 0)] H3 ?ho4 ?he4
  case ho4 => exact ak (fun _ => ⟨rfl, fun _ _ => rfl⟩) (ak (by refine fun γ => ⟨rfl, fun w' h => ?_⟩; clear h; go_simp) (ak (fun _ => ⟨rfl, fun _ _ => rfl⟩) trivial))
  intro _ w4 H4
  clear H3
  refine rest0 rfl (then_normal (wp_block ?_))
  refine wp_loop_rounds 3 ?_
  refine rounds_in (n := 2) ?_
  refine wp_seq ?_
  refine walk_seqB 1 [.quiet (.bool true)] H4 ?ho5 ?he5
  case ho5 => exact ak (by refine fun γ => ⟨rfl, fun w' h => ?_⟩; clear h; go_simp) trivial
  intro _ w5 H5
  clear H4
  refine rest0 rfl (then_normal (wp_seq ?_))
  refine wp_cond_true rfl (wp_skip ?_)
  refine then_normal (wp_seq ?_)
  refine wp_block (wp_seq ?_)
  refine walk_seqA 4 [.quiet (PT g 0), .quiet (N a), .made zero6 24, .laid 2 zero6 (cells6 a)] (sB H5) ?ho6 ?he6 (hL := ?hL6)
  case hL6 => exact ⟨⟨_, rfl⟩, trivial⟩
  case ho6 => exact ak (by refine fun γ => ⟨rfl, fun w' h => ?_⟩; clear h; go_simp) (ak (fun γ => ⟨rfl, fun w' h => ex_loadN (i := 0) h 2 rfl rfl rfl rfl⟩) (ak (fun γ => ⟨rfl, fun w' => exec_made6 rfl⟩) (ak (fun γ => ⟨rfl, rfl, rfl, fun w' h => exec_laid6 h rfl rfl rfl⟩) trivial)))
  intro γ w6 l hM hl
  have H6 : Hid (Mm w6 [(γ 2, cells6 a), (γ2_5, cells6 r), (γ1_0, zero6), (g, cel [a, b])] ∧ _) := growB H5 hM (Nat.le_refl _) hl [2] rfl (by decide)
  have o6_2 := ownB H5 hM (Nat.le_refl _) hl (i := 2) rfl
  clear hM hl l H5
  generalize γ 2 = γ6_2 at H6 o6_2 ⊢
  clear γ
  refine rest0 rfl (then_normal (wp_seq ?_))
  refine walk_seqB 4 [.quiet (N a), .quiet (N r), .call (.int .i64 (-1)), .quiet (.bool false)] H6 ?ho7 ?he7
  case ho7 => exact ak (fun γ => ⟨rfl, fun w' h => ex_load6 h 0 rfl rfl rfl rfl⟩) (ak (fun γ => ⟨rfl, fun w' h => ex_load6 h 1 rfl rfl rfl rfl⟩) (ak (fun γ => ⟨rfl, fun w' h => ⟨41, #[N a, N r], exec_call rfl call41 rfl (mpn rfl), cmp_below ha hS.ok w'⟩⟩) (ak (by refine fun γ => ⟨rfl, fun w' h => ?_⟩; clear h; go_simp) trivial)))
  intro _ w7 H7
  clear H6
  refine rest0 rfl (then_normal (wp_cond_false rfl ?_))
  refine wp_skip (block_normal (then_normal ?_))
  refine walk_seqB 1 [.quiet (.int .i64 1)] H7 ?ho8 ?he8
  case ho8 => exact ak (fun γ => ⟨rfl, fun w' _ => by kernel_rfl⟩) trivial
  intro _ w8 H8
  clear H7
  refine rest_at (l := [1]) rfl ?_
  refine rest_set (d := 21) rfl rfl rfl rfl ?_
  simp only [Act.put, sa, sz, ss]
  refine rest_nil (then_normal ?_)
  refine rounds_in (n := 1) ?_
  refine wp_seq ?_
  refine walk_seqB 1 [.quiet (.bool true)] H8 ?ho9 ?he9
  case ho9 => exact ak (by refine fun γ => ⟨rfl, fun w' h => ?_⟩; clear h; go_simp) trivial
  intro _ w9 H9
  clear H8
  refine rest0 rfl (then_normal (wp_seq ?_))
  refine wp_cond_true rfl (wp_skip ?_)
  refine then_normal (wp_seq ?_)
  refine wp_block (wp_seq ?_)
  refine walk_seqA 4 [.quiet (PT g 6), .quiet (N b), .made zero6 24, .laid 2 zero6 (cells6 b)] (sB H9) ?ho10 ?he10 (hL := ?hL10)
  case hL10 => exact ⟨⟨_, rfl⟩, trivial⟩
  case ho10 => exact ak (by refine fun γ => ⟨rfl, fun w' h => ?_⟩; clear h; go_simp) (ak (fun γ => ⟨rfl, fun w' h => ex_loadN (i := 1) h 3 rfl rfl rfl rfl⟩) (ak (fun γ => ⟨rfl, fun w' => exec_made6 rfl⟩) (ak (fun γ => ⟨rfl, rfl, rfl, fun w' h => exec_laid6 h rfl rfl rfl⟩) trivial)))
  intro γ w10 l hM hl
  have H10 : Hid (Mm w10 [(γ 2, cells6 b), (γ6_2, cells6 a), (γ2_5, cells6 r), (γ1_0, zero6), (g, cel [a, b])] ∧ _) := growB H9 hM (Nat.le_refl _) hl [2] rfl (by decide)
  have o10_2 := ownB H9 hM (Nat.le_refl _) hl (i := 2) rfl
  clear hM hl l H9
  generalize γ 2 = γ10_2 at H10 o10_2 ⊢
  clear γ
  refine rest0 rfl (then_normal (wp_seq ?_))
  refine walk_seqB 4 [.quiet (N b), .quiet (N r), .call (.int .i64 (-1)), .quiet (.bool false)] H10 ?ho11 ?he11
  case ho11 => exact ak (fun γ => ⟨rfl, fun w' h => ex_load6 h 0 rfl rfl rfl rfl⟩) (ak (fun γ => ⟨rfl, fun w' h => ex_load6 h 2 rfl rfl rfl rfl⟩) (ak (fun γ => ⟨rfl, fun w' h => ⟨41, #[N b, N r], exec_call rfl call41 rfl (mpn rfl), cmp_below hb hS.ok w'⟩⟩) (ak (by refine fun γ => ⟨rfl, fun w' h => ?_⟩; clear h; go_simp) trivial)))
  intro _ w11 H11
  clear H10
  refine rest0 rfl (then_normal (wp_cond_false rfl ?_))
  refine wp_skip (block_normal (then_normal ?_))
  refine walk_seqB 1 [.quiet (.int .i64 2)] H11 ?ho12 ?he12
  case ho12 => exact ak (fun γ => ⟨rfl, fun w' _ => by kernel_rfl⟩) trivial
  intro _ w12 H12
  clear H11
  refine rest_at (l := [1]) rfl ?_
  refine rest_set (d := 21) rfl rfl rfl rfl ?_
  simp only [Act.put, sa, sz, ss]
  refine rest_nil (then_normal ?_)
  refine rounds_in (n := 0) ?_
  refine wp_seq ?_
  refine walk_seqB 1 [.quiet (.bool false)] H12 ?ho13 ?he13
  case ho13 => exact ak (by refine fun γ => ⟨rfl, fun w' h => ?_⟩; clear h; go_simp) trivial
  intro _ w13 H13
  clear H12
  refine rest0 rfl (then_normal (wp_seq (wp_cond_false rfl ?_)))
  refine wp_exit ?_
  repeat refine then_exit ?_
  refine block_exit ?_
  refine then_normal (wp_seq ?_)
  refine walk_seqB 1 [.quiet (N r)] H13 ?ho14 ?he14
  case ho14 => exact ak (fun γ => ⟨rfl, fun w' h => ex_load6 h 2 rfl rfl rfl rfl⟩) trivial
  intro _ w14 H14
  clear H13
  refine rest_at (l := [1, 2]) rfl ?_
  refine rest_store rfl rfl rfl (ex_store6 H14.out.1 3 rfl rfl rfl rfl (Nat.le_of_ble_eq_true rfl)) ?_
  have H15 : Hid (Mm (w14.setCells γ1_0 0 (cells6 r)) [(γ10_2, cells6 b), (γ6_2, cells6 a), (γ2_5, cells6 r), (γ1_0, cells6 r), (g, cel [a, b])] ∧ Below w.heap.size w (w14.setCells γ1_0 0 (cells6 r))) := ⟨H14.out.1.put 3 (off := 0) (vs := cells6 r) rfl (Nat.le_of_ble_eq_true rfl), below_setCells _ o1_0.out _ _ _ H14.out.2⟩
  clear H14
  generalize hgw : World.setCells _ _ _ _ = w15 at H15 ⊢
  clear hgw
  refine rest_set (d := 5) rfl rfl rfl rfl ?_
  simp only [Act.put, sa, sz, ss]
  refine rest_nil (then_normal (wp_ret ?_))
  repeat (first | refine then_ret ?_ | refine block_ret ?_)
  have c0 := H15.out.1.get 3 rfl 0 rfl
  have c1 := H15.out.1.get 3 rfl 1 rfl
  have c2 := H15.out.1.get 3 rfl 2 rfl
  have c3 := H15.out.1.get 3 rfl 3 rfl
  have c4 := H15.out.1.get 3 rfl 4 rfl
  have c5 := H15.out.1.get 3 rfl 5 rfl
  refine bodyPost_ret (v := .tuple #[N r, .int .i64 0]) (by simp [results, Tryd.results81, go_sem, *]) rfl ?_
  exact ⟨rfl, H15.out.2⟩
end Rg
end Go.Proofs.YtfnmahjdkmgdkaaDoor
end
section
namespace Go.Proofs.YtfnmahjdkmgdkaaDoor
open Go.RowKit
namespace Rg
set_option maxRecDepth 100000
end Rg
end Go.Proofs.YtfnmahjdkmgdkaaDoor
end
section
namespace Go.Proofs.YtfnmahjdkmgdkaaDoor
open Go.RowKit
namespace Rg
set_option maxRecDepth 100000
set_option maxHeartbeats 1000000 in
set_option maxRecDepth 100000 in
theorem ari1_ok {s : Int} {r : Nat} (hS : Su s r) (g a : Nat) (ha : a < r) (w : World) (hm : Mm w [(g, cel [a])]) :
    Calls Tryd.prog 51 #[.int .i64 s, .slice (some ⟨g, 0, none⟩) 1 1] w fun e w' => Below w.heap.size w w' ∧ ∃ g, e = .returned (.tuple #[PT g 0, .int .i64 0]) ∧ w.heap.size ≤ g ∧ g < w'.heap.size ∧ Blk w' g (modc r) := by
  have H0 : Hid (_ ∧ _) := ⟨hm, Below.refl w.heap.size w⟩
  clear hm
  go_enter Tryd.func51, Tryd.ntmps51
  refine wp_seq ?_
  refine walk_seqB 2 [.quiet (.pointer none), .quiet (.int .i64 0)] H0 ?ho1 ?he1
  case ho1 => exact ak (fun _ => ⟨rfl, fun _ _ => rfl⟩) (ak (fun _ => ⟨rfl, fun _ _ => rfl⟩) trivial)
  intro _ w1 H1
  refine rest0 rfl (then_normal (wp_seq ?_))
  refine walk_seqA 9 [.quiet (.int .i64 s), .quiet (.slice (some ⟨g, 0, none⟩) 1 1), .call (.tuple #[N r, .int .i64 0]), .quiet (.tuple #[N r, .int .i64 0]), .quiet (N r), .quiet (.int .i64 0), .made zero6 24, .laid 6 zero6 (cells6 r), .quiet (.int .i64 0)] (sB H1) ?ho2 ?he2 (hL := ?hL2)
  case hL2 => exact ⟨⟨_, rfl⟩, trivial⟩
  case ho2 => exact ak (fun _ => ⟨rfl, fun _ _ => rfl⟩) (ak (fun _ => ⟨rfl, fun _ _ => rfl⟩) (ak (fun γ => ⟨rfl, fun w' h => ⟨81, #[.int .i64 s, .slice (some ⟨g, 0, none⟩) 1 1], exec_call rfl call81 rfl (mpn rfl), above1_ok hS g a ha w' (h.one 0 rfl)⟩⟩) (ak (fun _ => ⟨rfl, fun _ _ => rfl⟩) (ak (by refine fun γ => ⟨rfl, fun w' h => ?_⟩; clear h; go_simp) (ak (by refine fun γ => ⟨rfl, fun w' h => ?_⟩; clear h; go_simp) (ak (fun γ => ⟨rfl, fun w' => exec_made6 rfl⟩) (ak (fun γ => ⟨rfl, rfl, rfl, fun w' h => exec_laid6 h rfl rfl rfl⟩) (ak (fun _ => ⟨rfl, fun _ _ => rfl⟩) trivial))))))))
  intro γ w2 l hM hl
  have H2 : Hid (Mm w2 [(γ 6, cells6 r), (g, cel [a])] ∧ _) := growB H1 hM (Nat.le_refl _) hl [6] rfl (by decide)
  have o2_6 := ownB H1 hM (Nat.le_refl _) hl (i := 6) rfl
  clear hM hl l H1
  generalize γ 6 = γ2_6 at H2 o2_6 ⊢
  clear γ
  refine rest0 rfl (then_normal (wp_seq (wp_seq ?_)))
  refine walk_seqB 2 [.quiet (.int .i64 0), .quiet (.bool false)] H2 ?ho3 ?he3
  case ho3 => exact ak (fun _ => ⟨rfl, fun _ _ => rfl⟩) (ak (by refine fun γ => ⟨rfl, fun w' h => ?_⟩; clear h; go_simp) trivial)
  intro _ w3 H3
  clear H2
  refine rest0 rfl (then_normal (wp_cond_false rfl ?_))
  refine wp_skip (then_normal (wp_seq ?_))
  refine walk_seqA 2 [.quiet (N r), .born (fun g => .tuple #[PT g 0, .int .i64 0]) (modc r)] (sB H3) ?ho4 ?he4
  case ho4 => exact ak (fun γ => ⟨rfl, fun w' h => ex_load6 h 0 rfl rfl rfl rfl⟩) (ak (fun γ => ⟨rfl, fun w' h => ⟨72, #[N r], exec_call rfl call72 rfl (mpn rfl), new_ok hS.ok w'⟩⟩) trivial)
  intro γ w4 l hM hl
  have H4 : Hid (Mm w4 [(γ 1, modc r), (γ2_6, cells6 r), (g, cel [a])] ∧ _) := growB H3 hM (Nat.le_refl _) hl [1] rfl (by decide)
  have o4_1 := ownB H3 hM (Nat.le_refl _) hl (i := 1) rfl
  clear hM hl l H3
  generalize γ 1 = γ4_1 at H4 o4_1 ⊢
  clear γ
  refine rest_at (l := [2, 3, 4, 5]) rfl ?_
  refine rest_set (d := 19) (v := PT γ4_1 0) (w' := w4) rfl rfl rfl (by go_simp) ?_
  simp only [Act.put, sa, sz, ss]
  refine rest_set (d := 20) (v := .int .i64 0) (w' := w4) rfl rfl rfl (by go_simp) ?_
  simp only [Act.put, sa, sz, ss]
  refine rest_set (d := 4) rfl rfl rfl rfl ?_
  simp only [Act.put, sa, sz, ss]
  refine rest_set (d := 5) rfl rfl rfl rfl ?_
  simp only [Act.put, sa, sz, ss]
  refine rest_nil (then_normal (wp_ret ?_))
  repeat (first | refine then_ret ?_ | refine block_ret ?_)
  refine bodyPost_ret (v := .tuple #[PT γ4_1 0, .int .i64 0]) (by simp [results, Tryd.results51, go_sem, *]) rfl ?_
  exact ⟨H4.out.2, γ4_1, rfl, o4_1.out, (H4.out.1.blk _ (List.mem_of_getElem? (i := 0) rfl)).1, (H4.out.1.blk _ (List.mem_of_getElem? (i := 0) rfl)).2⟩
set_option maxHeartbeats 1000000 in
set_option maxRecDepth 100000 in
theorem ari2_ok {s : Int} {r : Nat} (hS : Su s r) (g a b : Nat) (ha : a < r) (hb : b < r) (w : World) (hm : Mm w [(g, cel [a, b])]) :
    Calls Tryd.prog 51 #[.int .i64 s, .slice (some ⟨g, 0, none⟩) 2 2] w fun e w' => Below w.heap.size w w' ∧ ∃ g, e = .returned (.tuple #[PT g 0, .int .i64 0]) ∧ w.heap.size ≤ g ∧ g < w'.heap.size ∧ Blk w' g (modc r) := by
  have H0 : Hid (_ ∧ _) := ⟨hm, Below.refl w.heap.size w⟩
  clear hm
  go_enter Tryd.func51, Tryd.ntmps51
  refine wp_seq ?_
  refine walk_seqB 2 [.quiet (.pointer none), .quiet (.int .i64 0)] H0 ?ho1 ?he1
  case ho1 => exact ak (fun _ => ⟨rfl, fun _ _ => rfl⟩) (ak (fun _ => ⟨rfl, fun _ _ => rfl⟩) trivial)
  intro _ w1 H1
  refine rest0 rfl (then_normal (wp_seq ?_))
  refine walk_seqA 9 [.quiet (.int .i64 s), .quiet (.slice (some ⟨g, 0, none⟩) 2 2), .call (.tuple #[N r, .int .i64 0]), .quiet (.tuple #[N r, .int .i64 0]), .quiet (N r), .quiet (.int .i64 0), .made zero6 24, .laid 6 zero6 (cells6 r), .quiet (.int .i64 0)] (sB H1) ?ho2 ?he2 (hL := ?hL2)
  case hL2 => exact ⟨⟨_, rfl⟩, trivial⟩
  case ho2 => exact ak (fun _ => ⟨rfl, fun _ _ => rfl⟩) (ak (fun _ => ⟨rfl, fun _ _ => rfl⟩) (ak (fun γ => ⟨rfl, fun w' h => ⟨81, #[.int .i64 s, .slice (some ⟨g, 0, none⟩) 2 2], exec_call rfl call81 rfl (mpn rfl), above2_ok hS g a b ha hb w' (h.one 0 rfl)⟩⟩) (ak (fun _ => ⟨rfl, fun _ _ => rfl⟩) (ak (by refine fun γ => ⟨rfl, fun w' h => ?_⟩; clear h; go_simp) (ak (by refine fun γ => ⟨rfl, fun w' h => ?_⟩; clear h; go_simp) (ak (fun γ => ⟨rfl, fun w' => exec_made6 rfl⟩) (ak (fun γ => ⟨rfl, rfl, rfl, fun w' h => exec_laid6 h rfl rfl rfl⟩) (ak (fun _ => ⟨rfl, fun _ _ => rfl⟩) trivial))))))))
  intro γ w2 l hM hl
  have H2 : Hid (Mm w2 [(γ 6, cells6 r), (g, cel [a, b])] ∧ _) := growB H1 hM (Nat.le_refl _) hl [6] rfl (by decide)
  have o2_6 := ownB H1 hM (Nat.le_refl _) hl (i := 6) rfl
  clear hM hl l H1
  generalize γ 6 = γ2_6 at H2 o2_6 ⊢
  clear γ
  refine rest0 rfl (then_normal (wp_seq (wp_seq ?_)))
  refine walk_seqB 2 [.quiet (.int .i64 0), .quiet (.bool false)] H2 ?ho3 ?he3
  case ho3 => exact ak (fun _ => ⟨rfl, fun _ _ => rfl⟩) (ak (by refine fun γ => ⟨rfl, fun w' h => ?_⟩; clear h; go_simp) trivial)
  intro _ w3 H3
  clear H2
  refine rest0 rfl (then_normal (wp_cond_false rfl ?_))
  refine wp_skip (then_normal (wp_seq ?_))
  refine walk_seqA 2 [.quiet (N r), .born (fun g => .tuple #[PT g 0, .int .i64 0]) (modc r)] (sB H3) ?ho4 ?he4
  case ho4 => exact ak (fun γ => ⟨rfl, fun w' h => ex_load6 h 0 rfl rfl rfl rfl⟩) (ak (fun γ => ⟨rfl, fun w' h => ⟨72, #[N r], exec_call rfl call72 rfl (mpn rfl), new_ok hS.ok w'⟩⟩) trivial)
  intro γ w4 l hM hl
  have H4 : Hid (Mm w4 [(γ 1, modc r), (γ2_6, cells6 r), (g, cel [a, b])] ∧ _) := growB H3 hM (Nat.le_refl _) hl [1] rfl (by decide)
  have o4_1 := ownB H3 hM (Nat.le_refl _) hl (i := 1) rfl
  clear hM hl l H3
  generalize γ 1 = γ4_1 at H4 o4_1 ⊢
  clear γ
  refine rest_at (l := [2, 3, 4, 5]) rfl ?_
  refine rest_set (d := 19) (v := PT γ4_1 0) (w' := w4) rfl rfl rfl (by go_simp) ?_
  simp only [Act.put, sa, sz, ss]
  refine rest_set (d := 20) (v := .int .i64 0) (w' := w4) rfl rfl rfl (by go_simp) ?_
  simp only [Act.put, sa, sz, ss]
  refine rest_set (d := 4) rfl rfl rfl rfl ?_
  simp only [Act.put, sa, sz, ss]
  refine rest_set (d := 5) rfl rfl rfl rfl ?_
  simp only [Act.put, sa, sz, ss]
  refine rest_nil (then_normal (wp_ret ?_))
  repeat (first | refine then_ret ?_ | refine block_ret ?_)
  refine bodyPost_ret (v := .tuple #[PT γ4_1 0, .int .i64 0]) (by simp [results, Tryd.results51, go_sem, *]) rfl ?_
  exact ⟨H4.out.2, γ4_1, rfl, o4_1.out, (H4.out.1.blk _ (List.mem_of_getElem? (i := 0) rfl)).1, (H4.out.1.blk _ (List.mem_of_getElem? (i := 0) rfl)).2⟩
set_option maxHeartbeats 1000000 in
set_option maxRecDepth 100000 in
theorem sAdd_ok {s : Int} {r : Nat} (hS : Su s r) (a b : Nat) (ha : a < r) (hb : b < r) (w : World) :
    Calls Tryd.prog 20 #[.int .i64 s, N a, N b] w fun e w' => e = .returned (.tuple #[N ((a + b) % r), .int .i64 0]) ∧ Below w.heap.size w w' := by
  have H0 : Hid (_ ∧ _) := ⟨Mm.nil w, Below.refl w.heap.size w⟩
  go_enter Tryd.func20, Tryd.ntmps20
  refine wp_seq ?_
  refine walk_seqA 4 [.made (cells6 a) 24, .made (cells6 b) 24, .made zero6 24, .quiet (.int .i64 0)] (sB H0) ?ho1 ?he1
  case ho1 => exact ak (fun γ => ⟨rfl, fun w' => ex_box6 rfl rfl⟩) (ak (fun γ => ⟨rfl, fun w' => ex_box6 rfl rfl⟩) (ak (fun γ => ⟨rfl, fun w' => exec_made6 rfl⟩) (ak (fun _ => ⟨rfl, fun _ _ => rfl⟩) trivial)))
  intro γ w1 l hM hl
  have H1 : Hid (Mm w1 [(γ 0, cells6 a), (γ 1, cells6 b), (γ 2, zero6)] ∧ _) := growB H0 hM (Nat.le_refl _) hl [0, 1, 2] rfl (by decide)
  have o1_0 := ownB H0 hM (Nat.le_refl _) hl (i := 0) rfl
  have o1_1 := ownB H0 hM (Nat.le_refl _) hl (i := 1) rfl
  have o1_2 := ownB H0 hM (Nat.le_refl _) hl (i := 2) rfl
  clear hM hl l
  generalize γ 0 = γ1_0 at H1 o1_0 ⊢
  generalize γ 1 = γ1_1 at H1 o1_1 ⊢
  generalize γ 2 = γ1_2 at H1 o1_2 ⊢
  clear γ
  refine rest0 rfl (then_normal (wp_seq ?_))
  refine walk_seqB 3 [.quiet (.int .i64 s), .quiet (N a), .quiet (N b)] H1 ?ho2 ?he2
  case ho2 => exact ak (fun _ => ⟨rfl, fun _ _ => rfl⟩) (ak (fun γ => ⟨rfl, fun w' h => ex_load6 h 0 rfl rfl rfl rfl⟩) (ak (fun γ => ⟨rfl, fun w' h => ex_load6 h 1 rfl rfl rfl rfl⟩) trivial))
  intro _ w2 H2
  clear H1
  refine rest_at (l := [3, 4, 5, 6, 7, 8, 9]) rfl ?_
  refine rest_set (d := 14) (v := .slice (some ⟨w2.heap.size, 0, none⟩) 2 2) (w' := w2.alloc (.cells (cel [a, b] : List Value).toArray 24)) rfl rfl rfl (ex_bsN2 rfl rfl rfl) ?_
  simp only [Act.put, sa, sz, ss]
  have o_γs3 : Hid (w.heap.size ≤ w2.heap.size) := H2.out.2.size
  have H3 : Hid (Mm (w2.alloc (.cells (cel [a, b] : List Value).toArray 24)) ((w2.heap.size, cel [a, b]) :: [(γ1_0, cells6 a), (γ1_1, cells6 b), (γ1_2, zero6)]) ∧ Below w.heap.size w (w2.alloc (.cells (cel [a, b] : List Value).toArray 24))) := ⟨H2.out.1.alloc _ 24 rfl, H2.out.2.alloc H2.out.2.size _⟩
  clear H2
  generalize hgw : w2.alloc (.cells (cel [a, b] : List Value).toArray 24) = w3 at H3 ⊢
  clear hgw
  generalize w2.heap.size = γs3 at o_γs3 H3 ⊢
  refine rest_enter (d := 15) (R := fun vv w' => Below w3.heap.size w3 w' ∧ ∃ g, vv = .tuple #[PT g 0, .int .i64 0] ∧ w3.heap.size ≤ g ∧ g < w'.heap.size ∧ Blk w' g (modc r)) rfl rfl rfl (exec_call (args := #[.int .i64 s, .slice (some ⟨γs3, 0, none⟩) 2 2]) rfl call51 rfl (mpn rfl)) (Calls.mono (ari2_ok hS _ a b ha hb w3 (H3.out.1.one 0 rfl)) (fun e w2 hh => by obtain ⟨hb, g, he, h1, h2, h3⟩ := hh; exact ⟨_, he, hb, g, rfl, h1, h2, h3⟩)) ?_
  rintro _ w4 ⟨hb, γs4, rfl, hg1, hg2, hg3⟩
  have o_γs4 : Hid (w.heap.size ≤ γs4) := Nat.le_trans H3.out.2.size hg1
  have H4 : Hid (Mm w4 [(γs4, modc r), (γs3, cel [a, b]), (γ1_0, cells6 a), (γ1_1, cells6 b), (γ1_2, zero6)] ∧ Below w.heap.size w w4) := ⟨Mm.cons (H3.out.1.below hb) hg3 hg2 (fun p hp => Nat.ne_of_lt (Nat.lt_of_lt_of_le (H3.out.1.blk p hp).1 hg1)), H3.out.2.trans (hb.mono H3.out.2.size)⟩
  clear hb hg1 hg2 hg3 H3
  simp only [Act.put, sa, sz, ss]
  refine rest_set (d := 10) rfl rfl rfl rfl ?_
  simp only [Act.put, sa, sz, ss]
  refine rest_set (d := 16) (v := PT γs4 0) (w' := w4) rfl rfl rfl (by go_simp) ?_
  simp only [Act.put, sa, sz, ss]
  refine rest_set (d := 17) (v := .int .i64 0) (w' := w4) rfl rfl rfl (by go_simp) ?_
  simp only [Act.put, sa, sz, ss]
  refine rest_set (d := 8) rfl rfl rfl rfl ?_
  simp only [Act.put, sa, sz, ss]
  refine rest_set (d := 9) rfl rfl rfl rfl ?_
  simp only [Act.put, sa, sz, ss]
  refine rest_nil (then_normal (wp_seq ?_))
  refine walk_seqB 5 [.quiet (PT γs4 0), .quiet (N a), .quiet (N b), .call (N ((a + b) % r)), .quiet (.int .i64 0)] H4 ?ho3 ?he3
  case ho3 => exact ak (fun _ => ⟨rfl, fun _ _ => rfl⟩) (ak (fun γ => ⟨rfl, fun w' h => ex_load6 h 2 rfl rfl rfl rfl⟩) (ak (fun γ => ⟨rfl, fun w' h => ex_load6 h 3 rfl rfl rfl rfl⟩) (ak (fun γ => ⟨rfl, fun w' h => ⟨11, #[PT γs4 0, N a, N b], exec_call rfl call11 rfl (mpn rfl), addm_any hS.ok (Nat.lt_trans ha hS.ok.big) (Nat.lt_trans hb hS.ok.big) w' (h.one 0 rfl)⟩⟩) (ak (fun _ => ⟨rfl, fun _ _ => rfl⟩) trivial))))
  intro _ w5 H5
  clear H4
  refine rest_at (l := [5, 6]) rfl ?_
  refine rest_store rfl rfl rfl (ex_store6 H5.out.1 4 rfl rfl rfl rfl (Nat.le_of_ble_eq_true rfl)) ?_
  have H6 : Hid (Mm (w5.setCells γ1_2 0 (cells6 ((a + b) % r))) [(γs4, modc r), (γs3, cel [a, b]), (γ1_0, cells6 a), (γ1_1, cells6 b), (γ1_2, cells6 ((a + b) % r))] ∧ Below w.heap.size w (w5.setCells γ1_2 0 (cells6 ((a + b) % r)))) := ⟨H5.out.1.put 4 (off := 0) (vs := cells6 ((a + b) % r)) rfl (Nat.le_of_ble_eq_true rfl), below_setCells _ o1_2.out _ _ _ H5.out.2⟩
  clear H5
  generalize hgw : World.setCells _ _ _ _ = w6 at H6 ⊢
  clear hgw
  refine rest_set (d := 7) rfl rfl rfl rfl ?_
  simp only [Act.put, sa, sz, ss]
  refine rest_nil (then_normal (wp_ret ?_))
  repeat (first | refine then_ret ?_ | refine block_ret ?_)
  have c0 := H6.out.1.get 4 rfl 0 rfl
  have c1 := H6.out.1.get 4 rfl 1 rfl
  have c2 := H6.out.1.get 4 rfl 2 rfl
  have c3 := H6.out.1.get 4 rfl 3 rfl
  have c4 := H6.out.1.get 4 rfl 4 rfl
  have c5 := H6.out.1.get 4 rfl 5 rfl
  refine bodyPost_ret (v := .tuple #[N ((a + b) % r), .int .i64 0]) (by simp [results, Tryd.results20, go_sem, *]) rfl ?_
  exact ⟨rfl, H6.out.2⟩
set_option maxHeartbeats 1000000 in
set_option maxRecDepth 100000 in
theorem sSub_ok {s : Int} {r : Nat} (hS : Su s r) (a b : Nat) (ha : a < r) (hb : b < r) (w : World) :
    Calls Tryd.prog 21 #[.int .i64 s, N a, N b] w fun e w' => e = .returned (.tuple #[N (subm r a b), .int .i64 0]) ∧ Below w.heap.size w w' := by
  have H0 : Hid (_ ∧ _) := ⟨Mm.nil w, Below.refl w.heap.size w⟩
  go_enter Tryd.func21, Tryd.ntmps21
  refine wp_seq ?_
  refine walk_seqA 4 [.made (cells6 a) 24, .made (cells6 b) 24, .made zero6 24, .quiet (.int .i64 0)] (sB H0) ?ho1 ?he1
  case ho1 => exact ak (fun γ => ⟨rfl, fun w' => ex_box6 rfl rfl⟩) (ak (fun γ => ⟨rfl, fun w' => ex_box6 rfl rfl⟩) (ak (fun γ => ⟨rfl, fun w' => exec_made6 rfl⟩) (ak (fun _ => ⟨rfl, fun _ _ => rfl⟩) trivial)))
  intro γ w1 l hM hl
  have H1 : Hid (Mm w1 [(γ 0, cells6 a), (γ 1, cells6 b), (γ 2, zero6)] ∧ _) := growB H0 hM (Nat.le_refl _) hl [0, 1, 2] rfl (by decide)
  have o1_0 := ownB H0 hM (Nat.le_refl _) hl (i := 0) rfl
  have o1_1 := ownB H0 hM (Nat.le_refl _) hl (i := 1) rfl
  have o1_2 := ownB H0 hM (Nat.le_refl _) hl (i := 2) rfl
  clear hM hl l
  generalize γ 0 = γ1_0 at H1 o1_0 ⊢
  generalize γ 1 = γ1_1 at H1 o1_1 ⊢
  generalize γ 2 = γ1_2 at H1 o1_2 ⊢
  clear γ
  refine rest0 rfl (then_normal (wp_seq ?_))
  refine walk_seqB 3 [.quiet (.int .i64 s), .quiet (N a), .quiet (N b)] H1 ?ho2 ?he2
  case ho2 => exact ak (fun _ => ⟨rfl, fun _ _ => rfl⟩) (ak (fun γ => ⟨rfl, fun w' h => ex_load6 h 0 rfl rfl rfl rfl⟩) (ak (fun γ => ⟨rfl, fun w' h => ex_load6 h 1 rfl rfl rfl rfl⟩) trivial))
  intro _ w2 H2
  clear H1
  refine rest_at (l := [3, 4, 5, 6, 7, 8, 9]) rfl ?_
  refine rest_set (d := 14) (v := .slice (some ⟨w2.heap.size, 0, none⟩) 2 2) (w' := w2.alloc (.cells (cel [a, b] : List Value).toArray 24)) rfl rfl rfl (ex_bsN2 rfl rfl rfl) ?_
  simp only [Act.put, sa, sz, ss]
  have o_γs3 : Hid (w.heap.size ≤ w2.heap.size) := H2.out.2.size
  have H3 : Hid (Mm (w2.alloc (.cells (cel [a, b] : List Value).toArray 24)) ((w2.heap.size, cel [a, b]) :: [(γ1_0, cells6 a), (γ1_1, cells6 b), (γ1_2, zero6)]) ∧ Below w.heap.size w (w2.alloc (.cells (cel [a, b] : List Value).toArray 24))) := ⟨H2.out.1.alloc _ 24 rfl, H2.out.2.alloc H2.out.2.size _⟩
  clear H2
  generalize hgw : w2.alloc (.cells (cel [a, b] : List Value).toArray 24) = w3 at H3 ⊢
  clear hgw
  generalize w2.heap.size = γs3 at o_γs3 H3 ⊢
  refine rest_enter (d := 15) (R := fun vv w' => Below w3.heap.size w3 w' ∧ ∃ g, vv = .tuple #[PT g 0, .int .i64 0] ∧ w3.heap.size ≤ g ∧ g < w'.heap.size ∧ Blk w' g (modc r)) rfl rfl rfl (exec_call (args := #[.int .i64 s, .slice (some ⟨γs3, 0, none⟩) 2 2]) rfl call51 rfl (mpn rfl)) (Calls.mono (ari2_ok hS _ a b ha hb w3 (H3.out.1.one 0 rfl)) (fun e w2 hh => by obtain ⟨hb, g, he, h1, h2, h3⟩ := hh; exact ⟨_, he, hb, g, rfl, h1, h2, h3⟩)) ?_
  rintro _ w4 ⟨hb, γs4, rfl, hg1, hg2, hg3⟩
  have o_γs4 : Hid (w.heap.size ≤ γs4) := Nat.le_trans H3.out.2.size hg1
  have H4 : Hid (Mm w4 [(γs4, modc r), (γs3, cel [a, b]), (γ1_0, cells6 a), (γ1_1, cells6 b), (γ1_2, zero6)] ∧ Below w.heap.size w w4) := ⟨Mm.cons (H3.out.1.below hb) hg3 hg2 (fun p hp => Nat.ne_of_lt (Nat.lt_of_lt_of_le (H3.out.1.blk p hp).1 hg1)), H3.out.2.trans (hb.mono H3.out.2.size)⟩
  clear hb hg1 hg2 hg3 H3
  simp only [Act.put, sa, sz, ss]
  refine rest_set (d := 10) rfl rfl rfl rfl ?_
  simp only [Act.put, sa, sz, ss]
  refine rest_set (d := 16) (v := PT γs4 0) (w' := w4) rfl rfl rfl (by go_simp) ?_
  simp only [Act.put, sa, sz, ss]
  refine rest_set (d := 17) (v := .int .i64 0) (w' := w4) rfl rfl rfl (by go_simp) ?_
  simp only [Act.put, sa, sz, ss]
  refine rest_set (d := 8) rfl rfl rfl rfl ?_
  simp only [Act.put, sa, sz, ss]
  refine rest_set (d := 9) rfl rfl rfl rfl ?_
  simp only [Act.put, sa, sz, ss]
  refine rest_nil (then_normal (wp_seq ?_))
  refine walk_seqB 5 [.quiet (PT γs4 0), .quiet (N a), .quiet (N b), .call (N (subm r a b)), .quiet (.int .i64 0)] H4 ?ho3 ?he3
  case ho3 => exact ak (fun _ => ⟨rfl, fun _ _ => rfl⟩) (ak (fun γ => ⟨rfl, fun w' h => ex_load6 h 2 rfl rfl rfl rfl⟩) (ak (fun γ => ⟨rfl, fun w' h => ex_load6 h 3 rfl rfl rfl rfl⟩) (ak (fun γ => ⟨rfl, fun w' h => ⟨12, #[PT γs4 0, N a, N b], exec_call rfl call12 rfl (mpn rfl), subm_any hS.ok (Nat.lt_trans ha hS.ok.big) (Nat.lt_trans hb hS.ok.big) w' (h.one 0 rfl)⟩⟩) (ak (fun _ => ⟨rfl, fun _ _ => rfl⟩) trivial))))
  intro _ w5 H5
  clear H4
  refine rest_at (l := [5, 6]) rfl ?_
  refine rest_store rfl rfl rfl (ex_store6 H5.out.1 4 rfl rfl rfl rfl (Nat.le_of_ble_eq_true rfl)) ?_
  have H6 : Hid (Mm (w5.setCells γ1_2 0 (cells6 (subm r a b))) [(γs4, modc r), (γs3, cel [a, b]), (γ1_0, cells6 a), (γ1_1, cells6 b), (γ1_2, cells6 (subm r a b))] ∧ Below w.heap.size w (w5.setCells γ1_2 0 (cells6 (subm r a b)))) := ⟨H5.out.1.put 4 (off := 0) (vs := cells6 (subm r a b)) rfl (Nat.le_of_ble_eq_true rfl), below_setCells _ o1_2.out _ _ _ H5.out.2⟩
  clear H5
  generalize hgw : World.setCells _ _ _ _ = w6 at H6 ⊢
  clear hgw
  refine rest_set (d := 7) rfl rfl rfl rfl ?_
  simp only [Act.put, sa, sz, ss]
  refine rest_nil (then_normal (wp_ret ?_))
  repeat (first | refine then_ret ?_ | refine block_ret ?_)
  have c0 := H6.out.1.get 4 rfl 0 rfl
  have c1 := H6.out.1.get 4 rfl 1 rfl
  have c2 := H6.out.1.get 4 rfl 2 rfl
  have c3 := H6.out.1.get 4 rfl 3 rfl
  have c4 := H6.out.1.get 4 rfl 4 rfl
  have c5 := H6.out.1.get 4 rfl 5 rfl
  refine bodyPost_ret (v := .tuple #[N (subm r a b), .int .i64 0]) (by simp [results, Tryd.results21, go_sem, *]) rfl ?_
  exact ⟨rfl, H6.out.2⟩
set_option maxHeartbeats 1000000 in
set_option maxRecDepth 100000 in
theorem sMul_ok {s : Int} {r : Nat} (hS : Su s r) (a b : Nat) (ha : a < r) (hb : b < r) (w : World) :
    Calls Tryd.prog 19 #[.int .i64 s, N a, N b] w fun e w' => e = .returned (.tuple #[N (a * b % r), .int .i64 0]) ∧ Below w.heap.size w w' := by
  have H0 : Hid (_ ∧ _) := ⟨Mm.nil w, Below.refl w.heap.size w⟩
  go_enter Tryd.func19, Tryd.ntmps19
  refine wp_seq ?_
  refine walk_seqA 4 [.made (cells6 a) 24, .made (cells6 b) 24, .made zero6 24, .quiet (.int .i64 0)] (sB H0) ?ho1 ?he1
  case ho1 => exact ak (fun γ => ⟨rfl, fun w' => ex_box6 rfl rfl⟩) (ak (fun γ => ⟨rfl, fun w' => ex_box6 rfl rfl⟩) (ak (fun γ => ⟨rfl, fun w' => exec_made6 rfl⟩) (ak (fun _ => ⟨rfl, fun _ _ => rfl⟩) trivial)))
  intro γ w1 l hM hl
  have H1 : Hid (Mm w1 [(γ 0, cells6 a), (γ 1, cells6 b), (γ 2, zero6)] ∧ _) := growB H0 hM (Nat.le_refl _) hl [0, 1, 2] rfl (by decide)
  have o1_0 := ownB H0 hM (Nat.le_refl _) hl (i := 0) rfl
  have o1_1 := ownB H0 hM (Nat.le_refl _) hl (i := 1) rfl
  have o1_2 := ownB H0 hM (Nat.le_refl _) hl (i := 2) rfl
  clear hM hl l
  generalize γ 0 = γ1_0 at H1 o1_0 ⊢
  generalize γ 1 = γ1_1 at H1 o1_1 ⊢
  generalize γ 2 = γ1_2 at H1 o1_2 ⊢
  clear γ
  refine rest0 rfl (then_normal (wp_seq ?_))
  refine walk_seqB 3 [.quiet (.int .i64 s), .quiet (N a), .quiet (N b)] H1 ?ho2 ?he2
  case ho2 => exact ak (fun _ => ⟨rfl, fun _ _ => rfl⟩) (ak (fun γ => ⟨rfl, fun w' h => ex_load6 h 0 rfl rfl rfl rfl⟩) (ak (fun γ => ⟨rfl, fun w' h => ex_load6 h 1 rfl rfl rfl rfl⟩) trivial))
  intro _ w2 H2
  clear H1
  refine rest_at (l := [3, 4, 5, 6, 7, 8, 9]) rfl ?_
  refine rest_set (d := 14) (v := .slice (some ⟨w2.heap.size, 0, none⟩) 2 2) (w' := w2.alloc (.cells (cel [a, b] : List Value).toArray 24)) rfl rfl rfl (ex_bsN2 rfl rfl rfl) ?_
  simp only [Act.put, sa, sz, ss]
  have o_γs3 : Hid (w.heap.size ≤ w2.heap.size) := H2.out.2.size
  have H3 : Hid (Mm (w2.alloc (.cells (cel [a, b] : List Value).toArray 24)) ((w2.heap.size, cel [a, b]) :: [(γ1_0, cells6 a), (γ1_1, cells6 b), (γ1_2, zero6)]) ∧ Below w.heap.size w (w2.alloc (.cells (cel [a, b] : List Value).toArray 24))) := ⟨H2.out.1.alloc _ 24 rfl, H2.out.2.alloc H2.out.2.size _⟩
  clear H2
  generalize hgw : w2.alloc (.cells (cel [a, b] : List Value).toArray 24) = w3 at H3 ⊢
  clear hgw
  generalize w2.heap.size = γs3 at o_γs3 H3 ⊢
  refine rest_enter (d := 15) (R := fun vv w' => Below w3.heap.size w3 w' ∧ ∃ g, vv = .tuple #[PT g 0, .int .i64 0] ∧ w3.heap.size ≤ g ∧ g < w'.heap.size ∧ Blk w' g (modc r)) rfl rfl rfl (exec_call (args := #[.int .i64 s, .slice (some ⟨γs3, 0, none⟩) 2 2]) rfl call51 rfl (mpn rfl)) (Calls.mono (ari2_ok hS _ a b ha hb w3 (H3.out.1.one 0 rfl)) (fun e w2 hh => by obtain ⟨hb, g, he, h1, h2, h3⟩ := hh; exact ⟨_, he, hb, g, rfl, h1, h2, h3⟩)) ?_
  rintro _ w4 ⟨hb, γs4, rfl, hg1, hg2, hg3⟩
  have o_γs4 : Hid (w.heap.size ≤ γs4) := Nat.le_trans H3.out.2.size hg1
  have H4 : Hid (Mm w4 [(γs4, modc r), (γs3, cel [a, b]), (γ1_0, cells6 a), (γ1_1, cells6 b), (γ1_2, zero6)] ∧ Below w.heap.size w w4) := ⟨Mm.cons (H3.out.1.below hb) hg3 hg2 (fun p hp => Nat.ne_of_lt (Nat.lt_of_lt_of_le (H3.out.1.blk p hp).1 hg1)), H3.out.2.trans (hb.mono H3.out.2.size)⟩
  clear hb hg1 hg2 hg3 H3
  simp only [Act.put, sa, sz, ss]
  refine rest_set (d := 10) rfl rfl rfl rfl ?_
  simp only [Act.put, sa, sz, ss]
  refine rest_set (d := 16) (v := PT γs4 0) (w' := w4) rfl rfl rfl (by go_simp) ?_
  simp only [Act.put, sa, sz, ss]
  refine rest_set (d := 17) (v := .int .i64 0) (w' := w4) rfl rfl rfl (by go_simp) ?_
  simp only [Act.put, sa, sz, ss]
  refine rest_set (d := 8) rfl rfl rfl rfl ?_
  simp only [Act.put, sa, sz, ss]
  refine rest_set (d := 9) rfl rfl rfl rfl ?_
  simp only [Act.put, sa, sz, ss]
  refine rest_nil (then_normal (wp_seq ?_))
  refine walk_seqB 5 [.quiet (PT γs4 0), .quiet (N a), .quiet (N b), .call (N (a * b % r)), .quiet (.int .i64 0)] H4 ?ho3 ?he3
  case ho3 => exact ak (fun _ => ⟨rfl, fun _ _ => rfl⟩) (ak (fun γ => ⟨rfl, fun w' h => ex_load6 h 2 rfl rfl rfl rfl⟩) (ak (fun γ => ⟨rfl, fun w' h => ex_load6 h 3 rfl rfl rfl rfl⟩) (ak (fun γ => ⟨rfl, fun w' h => ⟨14, #[PT γs4 0, N a, N b], exec_call rfl call14 rfl (mpn rfl), mulm_any hS.ok (Nat.lt_trans ha hS.ok.big) (Nat.lt_trans hb hS.ok.big) w' (h.one 0 rfl)⟩⟩) (ak (fun _ => ⟨rfl, fun _ _ => rfl⟩) trivial))))
  intro _ w5 H5
  clear H4
  refine rest_at (l := [5, 6]) rfl ?_
  refine rest_store rfl rfl rfl (ex_store6 H5.out.1 4 rfl rfl rfl rfl (Nat.le_of_ble_eq_true rfl)) ?_
  have H6 : Hid (Mm (w5.setCells γ1_2 0 (cells6 (a * b % r))) [(γs4, modc r), (γs3, cel [a, b]), (γ1_0, cells6 a), (γ1_1, cells6 b), (γ1_2, cells6 (a * b % r))] ∧ Below w.heap.size w (w5.setCells γ1_2 0 (cells6 (a * b % r)))) := ⟨H5.out.1.put 4 (off := 0) (vs := cells6 (a * b % r)) rfl (Nat.le_of_ble_eq_true rfl), below_setCells _ o1_2.out _ _ _ H5.out.2⟩
  clear H5
  generalize hgw : World.setCells _ _ _ _ = w6 at H6 ⊢
  clear hgw
  refine rest_set (d := 7) rfl rfl rfl rfl ?_
  simp only [Act.put, sa, sz, ss]
  refine rest_nil (then_normal (wp_ret ?_))
  repeat (first | refine then_ret ?_ | refine block_ret ?_)
  have c0 := H6.out.1.get 4 rfl 0 rfl
  have c1 := H6.out.1.get 4 rfl 1 rfl
  have c2 := H6.out.1.get 4 rfl 2 rfl
  have c3 := H6.out.1.get 4 rfl 3 rfl
  have c4 := H6.out.1.get 4 rfl 4 rfl
  have c5 := H6.out.1.get 4 rfl 5 rfl
  refine bodyPost_ret (v := .tuple #[N (a * b % r), .int .i64 0]) (by simp [results, Tryd.results19, go_sem, *]) rfl ?_
  exact ⟨rfl, H6.out.2⟩
set_option maxHeartbeats 1000000 in
set_option maxRecDepth 100000 in
theorem sInv_ok {s : Int} {r : Nat} (hS : Su s r) (a : Nat) (ha : a < r) (hg : Nat.gcd r a = 1) (w : World) (hm : Mm w [(0, dtab)]) :
    Calls Tryd.prog 22 #[.int .i64 s, N a] w fun e w' => e = .returned (.tuple #[N (invm r a), .int .i64 0]) ∧ Below w.heap.size w w' := by
  have H0 : Hid (_ ∧ _) := ⟨hm, Below.refl w.heap.size w⟩
  clear hm
  go_enter Tryd.func22, Tryd.ntmps22
  refine wp_seq ?_
  refine walk_seqA 3 [.made (cells6 a) 24, .made zero6 24, .quiet (.int .i64 0)] (sB H0) ?ho1 ?he1
  case ho1 => exact ak (fun γ => ⟨rfl, fun w' => ex_box6 rfl rfl⟩) (ak (fun γ => ⟨rfl, fun w' => exec_made6 rfl⟩) (ak (fun _ => ⟨rfl, fun _ _ => rfl⟩) trivial))
  intro γ w1 l hM hl
  have H1 : Hid (Mm w1 [(γ 0, cells6 a), (γ 1, zero6), (0, dtab)] ∧ _) := growB H0 hM (Nat.le_refl _) hl [0, 1] rfl (by decide)
  have o1_0 := ownB H0 hM (Nat.le_refl _) hl (i := 0) rfl
  have o1_1 := ownB H0 hM (Nat.le_refl _) hl (i := 1) rfl
  clear hM hl l
  generalize γ 0 = γ1_0 at H1 o1_0 ⊢
  generalize γ 1 = γ1_1 at H1 o1_1 ⊢
  clear γ
  refine rest0 rfl (then_normal (wp_seq ?_))
  refine walk_seqB 2 [.quiet (.int .i64 s), .quiet (N a)] H1 ?ho2 ?he2
  case ho2 => exact ak (fun _ => ⟨rfl, fun _ _ => rfl⟩) (ak (fun γ => ⟨rfl, fun w' h => ex_load6 h 0 rfl rfl rfl rfl⟩) trivial)
  intro _ w2 H2
  clear H1
  refine rest_at (l := [2, 3, 4, 5, 6, 7, 8]) rfl ?_
  refine rest_set (d := 11) (v := .slice (some ⟨w2.heap.size, 0, none⟩) 1 1) (w' := w2.alloc (.cells (cel [a] : List Value).toArray 24)) rfl rfl rfl (ex_bsN1 rfl rfl) ?_
  simp only [Act.put, sa, sz, ss]
  have o_γs3 : Hid (w.heap.size ≤ w2.heap.size) := H2.out.2.size
  have H3 : Hid (Mm (w2.alloc (.cells (cel [a] : List Value).toArray 24)) ((w2.heap.size, cel [a]) :: [(γ1_0, cells6 a), (γ1_1, zero6), (0, dtab)]) ∧ Below w.heap.size w (w2.alloc (.cells (cel [a] : List Value).toArray 24))) := ⟨H2.out.1.alloc _ 24 rfl, H2.out.2.alloc H2.out.2.size _⟩
  clear H2
  generalize hgw : w2.alloc (.cells (cel [a] : List Value).toArray 24) = w3 at H3 ⊢
  clear hgw
  generalize w2.heap.size = γs3 at o_γs3 H3 ⊢
  refine rest_enter (d := 12) (R := fun vv w' => Below w3.heap.size w3 w' ∧ ∃ g, vv = .tuple #[PT g 0, .int .i64 0] ∧ w3.heap.size ≤ g ∧ g < w'.heap.size ∧ Blk w' g (modc r)) rfl rfl rfl (exec_call (args := #[.int .i64 s, .slice (some ⟨γs3, 0, none⟩) 1 1]) rfl call51 rfl (mpn rfl)) (Calls.mono (ari1_ok hS _ a ha w3 (H3.out.1.one 0 rfl)) (fun e w2 hh => by obtain ⟨hb, g, he, h1, h2, h3⟩ := hh; exact ⟨_, he, hb, g, rfl, h1, h2, h3⟩)) ?_
  rintro _ w4 ⟨hb, γs4, rfl, hg1, hg2, hg3⟩
  have o_γs4 : Hid (w.heap.size ≤ γs4) := Nat.le_trans H3.out.2.size hg1
  have H4 : Hid (Mm w4 [(γs4, modc r), (γs3, cel [a]), (γ1_0, cells6 a), (γ1_1, zero6), (0, dtab)] ∧ Below w.heap.size w w4) := ⟨Mm.cons (H3.out.1.below hb) hg3 hg2 (fun p hp => Nat.ne_of_lt (Nat.lt_of_lt_of_le (H3.out.1.blk p hp).1 hg1)), H3.out.2.trans (hb.mono H3.out.2.size)⟩
  clear hb hg1 hg2 hg3 H3
  simp only [Act.put, sa, sz, ss]
  refine rest_set (d := 8) rfl rfl rfl rfl ?_
  simp only [Act.put, sa, sz, ss]
  refine rest_set (d := 13) (v := PT γs4 0) (w' := w4) rfl rfl rfl (by go_simp) ?_
  simp only [Act.put, sa, sz, ss]
  refine rest_set (d := 14) (v := .int .i64 0) (w' := w4) rfl rfl rfl (by go_simp) ?_
  simp only [Act.put, sa, sz, ss]
  refine rest_set (d := 6) rfl rfl rfl rfl ?_
  simp only [Act.put, sa, sz, ss]
  refine rest_set (d := 7) rfl rfl rfl rfl ?_
  simp only [Act.put, sa, sz, ss]
  refine rest_nil (then_normal ?_)
  refine wp_seq (wp_seq ?_)
  refine walk_seqB 2 [.quiet (.int .i64 0), .quiet (.bool false)] H4 ?ho3 ?he3
  case ho3 => exact ak (fun _ => ⟨rfl, fun _ _ => rfl⟩) (ak (by refine fun γ => ⟨rfl, fun w' h => ?_⟩; clear h; go_simp) trivial)
  intro _ w5 H5
  clear H4
  refine rest0 rfl (then_normal (wp_cond_false rfl ?_))
  refine wp_skip (then_normal (wp_seq ?_))
  refine walk_seqB 5 [.quiet (PT γs4 0), .quiet (N a), .call (.tuple #[N (invm r a), .int .i64 0]), .quiet (N (invm r a)), .quiet (.int .i64 0)] H5 ?ho4 ?he4
  case ho4 => exact ak (fun _ => ⟨rfl, fun _ _ => rfl⟩) (ak (fun γ => ⟨rfl, fun w' h => ex_load6 h 2 rfl rfl rfl rfl⟩) (ak (fun γ => ⟨rfl, fun w' h => ⟨6, #[PT γs4 0, N a], exec_call rfl call6 rfl (mpn rfl), inv_ok hS.ok (Nat.lt_trans ha hS.ok.big) hg w' (h.two 0 4 rfl rfl (by decide))⟩⟩) (ak (by refine fun γ => ⟨rfl, fun w' h => ?_⟩; clear h; go_simp) (ak (by refine fun γ => ⟨rfl, fun w' h => ?_⟩; clear h; go_simp) trivial))))
  intro _ w6 H6
  clear H5
  refine rest_at (l := [5, 6]) rfl ?_
  refine rest_store rfl rfl rfl (ex_store6 H6.out.1 3 rfl rfl rfl rfl (Nat.le_of_ble_eq_true rfl)) ?_
  have H7 : Hid (Mm (w6.setCells γ1_1 0 (cells6 (invm r a))) [(γs4, modc r), (γs3, cel [a]), (γ1_0, cells6 a), (γ1_1, cells6 (invm r a)), (0, dtab)] ∧ Below w.heap.size w (w6.setCells γ1_1 0 (cells6 (invm r a)))) := ⟨H6.out.1.put 3 (off := 0) (vs := cells6 (invm r a)) rfl (Nat.le_of_ble_eq_true rfl), below_setCells _ o1_1.out _ _ _ H6.out.2⟩
  clear H6
  generalize hgw : World.setCells _ _ _ _ = w7 at H7 ⊢
  clear hgw
  refine rest_set (d := 5) rfl rfl rfl rfl ?_
  simp only [Act.put, sa, sz, ss]
  refine rest_nil (then_normal (wp_ret ?_))
  repeat (first | refine then_ret ?_ | refine block_ret ?_)
  have c0 := H7.out.1.get 3 rfl 0 rfl
  have c1 := H7.out.1.get 3 rfl 1 rfl
  have c2 := H7.out.1.get 3 rfl 2 rfl
  have c3 := H7.out.1.get 3 rfl 3 rfl
  have c4 := H7.out.1.get 3 rfl 4 rfl
  have c5 := H7.out.1.get 3 rfl 5 rfl
  refine bodyPost_ret (v := .tuple #[N (invm r a), .int .i64 0]) (by simp [results, Tryd.results22, go_sem, *]) rfl ?_
  exact ⟨rfl, H7.out.2⟩
set_option maxHeartbeats 1000000 in
set_option maxRecDepth 100000 in
theorem sInv_miss {s : Int} {r : Nat} (hS : Su s r) (a : Nat) (ha : a < r) (hg : Nat.gcd r a ≠ 1) (w : World) (hm : Mm w [(0, dtab)]) :
    Calls Tryd.prog 22 #[.int .i64 s, N a] w fun e w' => e = .returned (.tuple #[N 0, .int .i64 6]) ∧ Below w.heap.size w w' := by
  have H0 : Hid (_ ∧ _) := ⟨hm, Below.refl w.heap.size w⟩
  clear hm
  go_enter Tryd.func22, Tryd.ntmps22
  refine wp_seq ?_
  refine walk_seqA 3 [.made (cells6 a) 24, .made zero6 24, .quiet (.int .i64 0)] (sB H0) ?ho1 ?he1
  case ho1 => exact ak (fun γ => ⟨rfl, fun w' => ex_box6 rfl rfl⟩) (ak (fun γ => ⟨rfl, fun w' => exec_made6 rfl⟩) (ak (fun _ => ⟨rfl, fun _ _ => rfl⟩) trivial))
  intro γ w1 l hM hl
  have H1 : Hid (Mm w1 [(γ 0, cells6 a), (γ 1, zero6), (0, dtab)] ∧ _) := growB H0 hM (Nat.le_refl _) hl [0, 1] rfl (by decide)
  have o1_0 := ownB H0 hM (Nat.le_refl _) hl (i := 0) rfl
  have o1_1 := ownB H0 hM (Nat.le_refl _) hl (i := 1) rfl
  clear hM hl l
  generalize γ 0 = γ1_0 at H1 o1_0 ⊢
  generalize γ 1 = γ1_1 at H1 o1_1 ⊢
  clear γ
  refine rest0 rfl (then_normal (wp_seq ?_))
  refine walk_seqB 2 [.quiet (.int .i64 s), .quiet (N a)] H1 ?ho2 ?he2
  case ho2 => exact ak (fun _ => ⟨rfl, fun _ _ => rfl⟩) (ak (fun γ => ⟨rfl, fun w' h => ex_load6 h 0 rfl rfl rfl rfl⟩) trivial)
  intro _ w2 H2
  clear H1
  refine rest_at (l := [2, 3, 4, 5, 6, 7, 8]) rfl ?_
  refine rest_set (d := 11) (v := .slice (some ⟨w2.heap.size, 0, none⟩) 1 1) (w' := w2.alloc (.cells (cel [a] : List Value).toArray 24)) rfl rfl rfl (ex_bsN1 rfl rfl) ?_
  simp only [Act.put, sa, sz, ss]
  have o_γs3 : Hid (w.heap.size ≤ w2.heap.size) := H2.out.2.size
  have H3 : Hid (Mm (w2.alloc (.cells (cel [a] : List Value).toArray 24)) ((w2.heap.size, cel [a]) :: [(γ1_0, cells6 a), (γ1_1, zero6), (0, dtab)]) ∧ Below w.heap.size w (w2.alloc (.cells (cel [a] : List Value).toArray 24))) := ⟨H2.out.1.alloc _ 24 rfl, H2.out.2.alloc H2.out.2.size _⟩
  clear H2
  generalize hgw : w2.alloc (.cells (cel [a] : List Value).toArray 24) = w3 at H3 ⊢
  clear hgw
  generalize w2.heap.size = γs3 at o_γs3 H3 ⊢
  refine rest_enter (d := 12) (R := fun vv w' => Below w3.heap.size w3 w' ∧ ∃ g, vv = .tuple #[PT g 0, .int .i64 0] ∧ w3.heap.size ≤ g ∧ g < w'.heap.size ∧ Blk w' g (modc r)) rfl rfl rfl (exec_call (args := #[.int .i64 s, .slice (some ⟨γs3, 0, none⟩) 1 1]) rfl call51 rfl (mpn rfl)) (Calls.mono (ari1_ok hS _ a ha w3 (H3.out.1.one 0 rfl)) (fun e w2 hh => by obtain ⟨hb, g, he, h1, h2, h3⟩ := hh; exact ⟨_, he, hb, g, rfl, h1, h2, h3⟩)) ?_
  rintro _ w4 ⟨hb, γs4, rfl, hg1, hg2, hg3⟩
  have o_γs4 : Hid (w.heap.size ≤ γs4) := Nat.le_trans H3.out.2.size hg1
  have H4 : Hid (Mm w4 [(γs4, modc r), (γs3, cel [a]), (γ1_0, cells6 a), (γ1_1, zero6), (0, dtab)] ∧ Below w.heap.size w w4) := ⟨Mm.cons (H3.out.1.below hb) hg3 hg2 (fun p hp => Nat.ne_of_lt (Nat.lt_of_lt_of_le (H3.out.1.blk p hp).1 hg1)), H3.out.2.trans (hb.mono H3.out.2.size)⟩
  clear hb hg1 hg2 hg3 H3
  simp only [Act.put, sa, sz, ss]
  refine rest_set (d := 8) rfl rfl rfl rfl ?_
  simp only [Act.put, sa, sz, ss]
  refine rest_set (d := 13) (v := PT γs4 0) (w' := w4) rfl rfl rfl (by go_simp) ?_
  simp only [Act.put, sa, sz, ss]
  refine rest_set (d := 14) (v := .int .i64 0) (w' := w4) rfl rfl rfl (by go_simp) ?_
  simp only [Act.put, sa, sz, ss]
  refine rest_set (d := 6) rfl rfl rfl rfl ?_
  simp only [Act.put, sa, sz, ss]
  refine rest_set (d := 7) rfl rfl rfl rfl ?_
  simp only [Act.put, sa, sz, ss]
  refine rest_nil (then_normal ?_)
  refine wp_seq (wp_seq ?_)
  refine walk_seqB 2 [.quiet (.int .i64 0), .quiet (.bool false)] H4 ?ho3 ?he3
  case ho3 => exact ak (fun _ => ⟨rfl, fun _ _ => rfl⟩) (ak (by refine fun γ => ⟨rfl, fun w' h => ?_⟩; clear h; go_simp) trivial)
  intro _ w5 H5
  clear H4
  refine rest0 rfl (then_normal (wp_cond_false rfl ?_))
  refine wp_skip (then_normal (wp_seq ?_))
  refine walk_seqB 5 [.quiet (PT γs4 0), .quiet (N a), .call (.tuple #[N 0, .int .i64 6]), .quiet (N 0), .quiet (.int .i64 6)] H5 ?ho4 ?he4
  case ho4 => exact ak (fun _ => ⟨rfl, fun _ _ => rfl⟩) (ak (fun γ => ⟨rfl, fun w' h => ex_load6 h 2 rfl rfl rfl rfl⟩) (ak (fun γ => ⟨rfl, fun w' h => ⟨6, #[PT γs4 0, N a], exec_call rfl call6 rfl (mpn rfl), inv_bad hS.ok (Nat.lt_trans ha hS.ok.big) hg w' (h.two 0 4 rfl rfl (by decide))⟩⟩) (ak (by refine fun γ => ⟨rfl, fun w' h => ?_⟩; clear h; go_simp) (ak (by refine fun γ => ⟨rfl, fun w' h => ?_⟩; clear h; go_simp) trivial))))
  intro _ w6 H6
  clear H5
  refine rest_at (l := [5, 6]) rfl ?_
  refine rest_store rfl rfl rfl (ex_store6 H6.out.1 3 rfl rfl rfl rfl (Nat.le_of_ble_eq_true rfl)) ?_
  have H7 : Hid (Mm (w6.setCells γ1_1 0 (cells6 0)) [(γs4, modc r), (γs3, cel [a]), (γ1_0, cells6 a), (γ1_1, cells6 0), (0, dtab)] ∧ Below w.heap.size w (w6.setCells γ1_1 0 (cells6 0))) := ⟨H6.out.1.put 3 (off := 0) (vs := cells6 0) rfl (Nat.le_of_ble_eq_true rfl), below_setCells _ o1_1.out _ _ _ H6.out.2⟩
  clear H6
  generalize hgw : World.setCells _ _ _ _ = w7 at H7 ⊢
  clear hgw
  refine rest_set (d := 5) rfl rfl rfl rfl ?_
  simp only [Act.put, sa, sz, ss]
  refine rest_nil (then_normal (wp_ret ?_))
  repeat (first | refine then_ret ?_ | refine block_ret ?_)
  have c0 := H7.out.1.get 3 rfl 0 rfl
  have c1 := H7.out.1.get 3 rfl 1 rfl
  have c2 := H7.out.1.get 3 rfl 2 rfl
  have c3 := H7.out.1.get 3 rfl 3 rfl
  have c4 := H7.out.1.get 3 rfl 4 rfl
  have c5 := H7.out.1.get 3 rfl 5 rfl
  refine bodyPost_ret (v := .tuple #[N 0, .int .i64 6]) (by simp [results, Tryd.results22, go_sem, *]) rfl ?_
  exact ⟨rfl, H7.out.2⟩
end Rg
end Go.Proofs.YtfnmahjdkmgdkaaDoor
end
section
namespace Go.Proofs.YtfnmahjdkmgdkaaDoor
open Go.RowKit
namespace Rg
set_option maxRecDepth 100000
theorem ex_loadT {ρ : Operand → Value} {o : Oper} {x : Operand} {g off n : Nat} {t : TypeId} {cs ms : List Value} {w : World} {l : List (Nat × List Value)} (h : Mm w l) (q : Nat) (hk : l[q]? = some (g, cs)) (ho : o.op = .load t x) (hx : ρ x = PT g off) (ha : ∀ w, (isAgg t).run Tryd.prog w = .ok true w) (hs : ∀ w, (sizeOf t).run Tryd.prog w = .ok n w) (hc : (cs.drop off).take n = ms) (hl : ms.length = n) :
    (execOp ρ o).run Tryd.prog w = .ok (.value (.agg ms.toArray)) w := by
  have hm := List.mem_of_getElem? hk
  have hcell := run_loadCells_list (P := Tryd.prog) (w := w) ⟨g, off, none⟩ ms (fun j v hv => by
    have e : cs[off + j]? = some v := by
      rw [← List.getElem?_drop]
      rw [← hc, List.getElem?_take] at hv
      split at hv
      · exact hv
      · cases hv
    have e2 := h.cell hm e
    rw [show (⟨g, off, none⟩ : Addr).add j = ⟨g, off + j, none⟩ from by unfold Addr.add; split <;> simp_all]
    exact e2)
  rw [hl] at hcell
  have hf : (loadCellsFrom ⟨g, off, none⟩ 0 n #[]).run Tryd.prog w = .ok ms.toArray w := hcell
  clear hcell hc hk hm h
  simp only [execOp, ho, hx]
  go_simp
theorem ex_loadC {ρ : Operand → Value} {o : Oper} {x : Operand} {g off : Nat} {t : TypeId} {v : Value} {cs : List Value} {w : World} {l : List (Nat × List Value)} (h : Mm w l) (k : Nat) (hk : l[k]? = some (g, cs)) (ho : o.op = .load t x) (hx : ρ x = PT g off) (ha : ∀ w, (isAgg t).run Tryd.prog w = .ok false w) (hc : cs[off]? = some v) :
    (execOp ρ o).run Tryd.prog w = .ok (.value v) w := by
  have c0 := h.cell (List.mem_of_getElem? hk) hc
  clear h hk hc
  simp only [execOp, ho, hx]
  go_simp
theorem ex_boxT {ρ : Operand → Value} {o : Oper} {x : Operand} {t : TypeId} {cs : List Value} {w : World} (ho : o.op = .box t x) (hx : ρ x = .agg cs.toArray) :
    (execOp ρ o).run Tryd.prog w = .ok (.value (.pointer (some ⟨w.heap.size, 0, none⟩))) (w.alloc (.cells cs.toArray t)) := by
  simp only [execOp, ho, hx]
  go_simp
theorem ex_storeT {ρ : Operand → Value} {o : Oper} {x y : Operand} {g off : Nat} {t : TypeId} {cs vs : List Value} {w : World} {l : List (Nat × List Value)} (h : Mm w l) (q : Nat) (hk : l[q]? = some (g, cs)) (ho : o.op = .store t x y) (hx : ρ x = PT g off) (hy : ρ y = .agg vs.toArray) (hs : ∀ w, (sizeOf t).run Tryd.prog w = .ok vs.length w) (h1 : vs.all Value.oneCell' = true) (hb : off + vs.length ≤ cs.length) :
    (execOp ρ o).run Tryd.prog w = .ok .skip (w.setCells g off vs) := by
  have hm := List.mem_of_getElem? hk
  have hq : ∀ j, j < vs.length → ∃ u, cs[off + j]? = some u := fun j hj => ⟨_, List.getElem?_eq_getElem (by omega)⟩
  have hst := run_storeCells_cells (P := Tryd.prog) g off vs 0 w (fun j hj => by
    obtain ⟨u, hu⟩ := hq j hj
    rw [show off + 0 + j = off + j by omega, h.cell hm hu]; rfl) (fun j hj => by
    obtain ⟨u, hu⟩ := hq j hj
    rw [show off + 0 + j = off + j by omega]; exact h.free hm hu) (List.all_eq_true.1 h1)
  clear h hm hq hb hk
  simp only [execOp, ho, hx, hy]
  go_simp
theorem var_T {g n : Nat} {t : TypeId} {cs : List Value} {w : World} {l : List (Nat × List Value)} (h : Mm w l) (q : Nat) (hk : l[q]? = some (g, cs)) (ha : ∀ w, (isAgg t).run Tryd.prog w = .ok true w) (hs : ∀ w, (sizeOf t).run Tryd.prog w = .ok n w) (hn : cs.length = n) : (loadVar t ⟨g, 0, none⟩).run Tryd.prog w = .ok (.agg cs.toArray) w := by
  have hm := List.mem_of_getElem? hk
  have hcell := run_loadCells_list (P := Tryd.prog) (w := w) ⟨g, 0, none⟩ cs (fun j v hv => by
    have e2 := h.cell hm hv
    rw [show (⟨g, 0, none⟩ : Addr).add j = ⟨g, j, none⟩ from by unfold Addr.add; split <;> simp_all]
    exact e2)
  rw [hn] at hcell
  have hf : (loadCellsFrom ⟨g, 0, none⟩ 0 n #[]).run Tryd.prog w = .ok cs.toArray w := hcell
  clear hcell h hk hm
  simp only [loadVar]
  go_simp
theorem cel00 : cel [0, 0] = [.int .u64 0, .int .u64 0, .int .u64 0, .int .u64 0, .int .u64 0, .int .u64 0, .int .u64 0, .int .u64 0, .int .u64 0, .int .u64 0, .int .u64 0, .int .u64 0] := cel_zero 2
theorem ex_made66 {ρ : Operand → Value} {o : Oper} {w : World} (ho : o.op = .alloc 66) :
    (execOp ρ o).run Tryd.prog w = .ok (.value (.pointer (some ⟨w.heap.size, 0, none⟩))) (w.alloc (.cells ([Value.int .i64 0] ++ (cel [0, 0] ++ [Value.bool false, Value.int .u64 0, Value.int .u64 0, Value.bool false])).toArray 66)) := by
  rw [cel00]
  simp only [execOp, ho]
  go_simp
theorem ex_made64 {ρ : Operand → Value} {o : Oper} {w : World} (ho : o.op = .alloc 64) :
    (execOp ρ o).run Tryd.prog w = .ok (.value (.pointer (some ⟨w.heap.size, 0, none⟩))) (w.alloc (.cells ([Value.int .u64 0, Value.int .u64 0, Value.bool false]).toArray 64)) := by
  skip
  simp only [execOp, ho]
  go_simp
theorem ex_build66_02 {ρ : Operand → Value} {o : Oper} {x0 x2 : Operand} {s : Int} {x y : Int} {z : Bool} {w : World} (ho : o.op = .build 66 #[(0, x0), (2, x2)]) (h0 : ρ x0 = .int .i64 s) (h2 : ρ x2 = .agg ([Value.int .u64 x, Value.int .u64 y, Value.bool z]).toArray) : (execOp ρ o).run Tryd.prog w = .ok (.value (.agg ([Value.int .i64 s] ++ (cel [0, 0] ++ [Value.bool false, Value.int .u64 x, Value.int .u64 y, Value.bool z])).toArray)) w := by
  rw [cel00]
  simp only [execOp, ho, List.map_toArray, List.map_cons, List.map_nil, h0, h2]
  kernel_rfl
theorem ex_build62_ {ρ : Operand → Value} {o : Oper} {w : World} (ho : o.op = .build 62 #[]) : (execOp ρ o).run Tryd.prog w = .ok (.value (.agg (cel [0, 0] ++ [Value.bool false]).toArray)) w := by
  rw [cel00]
  simp only [execOp, ho, List.map_toArray, List.map_nil]
  kernel_rfl
theorem run_eqNd (D a b : Nat) (ha : a < big) (hb : b < big) (w : World) : (Op.equalIn (D + 2) 24 (N a) (N b)).run Tryd.prog w = .ok (decide (a = b)) w := by
  rw [run_eq6' (D + 1) (fun a b w => run_equalIn_int w D 22 .u64 .u64 a b (by kernel_rfl)), num_eq a b ha hb]
theorem run_eqBd (D : Nat) (a b : Bool) (w : World) : (Op.equalIn (D + 1) 4 (.bool a) (.bool b)).run Tryd.prog w = .ok (a == b) w := by
  simp only [Op.equalIn, Sem.run_bind, run_underlying (show Tryd.prog.underlying 4 = some .bool by kernel_rfl), Result.andThen_ok]
  rfl
theorem part1 (a b : Nat) (z : Bool) (w : World) : (Go.part 24 (cel [a, b] ++ [Value.bool z]).toArray 0).run Tryd.prog w = .ok (N a) w ∧ (Go.part 24 (cel [a, b] ++ [Value.bool z]).toArray 6).run Tryd.prog w = .ok (N b) w ∧ (Go.part 4 (cel [a, b] ++ [Value.bool z]).toArray 12).run Tryd.prog w = .ok (.bool z) w := ⟨by kernel_rfl, by kernel_rfl, by kernel_rfl⟩
theorem run_eqP1' (D a b a' b' : Nat) (z z' p0 p1 p2 : Bool) (hi0 : ∀ w, (Op.equalIn D 24 (N a) (N a')).run Tryd.prog w = .ok p0 w) (hi1 : ∀ w, (Op.equalIn D 24 (N b) (N b')).run Tryd.prog w = .ok p1 w) (hi2 : ∀ w, (Op.equalIn D 4 (.bool z) (.bool z')).run Tryd.prog w = .ok p2 w) (w : World) :
    (Op.equalIn (D + 1) 62 (.agg (cel [a, b] ++ [Value.bool z]).toArray) (.agg (cel [a', b'] ++ [Value.bool z']).toArray)).run Tryd.prog w = .ok (p0 && (p1 && p2)) w := by
  have hst : Tryd.prog.stoodInHeld 62 = false := by kernel_rfl
  have q1 := part1 a b z
  have q2 := part1 a' b' z'
  have hsz : ∀ w, (sizeOf 24).run Tryd.prog w = .ok 6 w := fun w => by kernel_rfl
  generalize (cel [a, b] ++ [Value.bool z]).toArray = xs at *
  generalize (cel [a', b'] ++ [Value.bool z']).toArray = ys at *
  generalize N a = A at *
  generalize N b = B at *
  generalize N a' = A' at *
  generalize N b' = B' at *
  simp only [Op.equalIn, Sem.run_bind, run_underlying Tryd.underlying62, Result.andThen_ok]
  simp [hst, hi0, hi1, hi2, q1, q2]
  cases p0 <;> cases p1 <;> cases p2 <;> simp
theorem run_eqP1 (a b a' b' : Nat) (z z' : Bool) (ha : a < big) (hb : b < big) (ha' : a' < big) (hb' : b' < big) (w : World) : (Op.equalIn 10000 62 (.agg (cel [a, b] ++ [Value.bool z]).toArray) (.agg (cel [a', b'] ++ [Value.bool z']).toArray)).run Tryd.prog w = .ok (decide (a = a') && (decide (b = b') && (z == z'))) w :=
  run_eqP1' 9999 a b a' b' z z' _ _ _ (fun w => run_eqNd 9997 a a' ha ha' w) (fun w => run_eqNd 9997 b b' hb hb' w) (fun w => run_eqBd 9998 z z' w) w
theorem exec_eqT62 {ρ : Operand → Value} {o : Oper} {x y : Operand} {v v' : Array Value} {t : Bool} {w : World} (he : ∀ w, (Op.equalIn 10000 62 (.agg v) (.agg v')).run Tryd.prog w = .ok t w) (ho : o.op = .binOp .eql 62 x y 62) (hx : ρ x = .agg v) (hy : ρ y = .agg v') :
    (execOp ρ o).run Tryd.prog w = .ok (.value (.bool t)) w := by
  simp only [execOp, ho, hx, hy]
  clear hx hy
  go_simp
set_option maxHeartbeats 1000000 in
set_option maxRecDepth 100000 in
theorem littleKey_ok (s : Int) (x y : Nat) (z : Bool) (w : World) :
    Calls Tryd.prog 75 #[.int .i64 s, .agg ([Value.int .u64 (x : Int), Value.int .u64 (y : Int), Value.bool z]).toArray, .int .i64 0] w fun e w' => e = .returned (.tuple #[.agg ([Value.int .i64 s] ++ (cel [0, 0] ++ [Value.bool false, Value.int .u64 (x : Int), Value.int .u64 (y : Int), Value.bool z])).toArray, .int .i64 0]) ∧ Below w.heap.size w w' := by
  have H0 : Hid (_ ∧ _) := ⟨Mm.nil w, Below.refl w.heap.size w⟩
  go_enter Tryd.func75, Tryd.ntmps75
  refine wp_seq ?_
  refine walk_seqA 3 [.made ([Value.int .u64 (x : Int), Value.int .u64 (y : Int), Value.bool z]) 64, .made ([Value.int .i64 0] ++ (cel [0, 0] ++ [Value.bool false, Value.int .u64 0, Value.int .u64 0, Value.bool false])) 66, .quiet (.int .i64 0)] (sB H0) ?ho1 ?he1
  case ho1 => exact ak (fun γ => ⟨rfl, fun w' => ex_boxT rfl rfl⟩) (ak (fun γ => ⟨rfl, fun w' => ex_made66 rfl⟩) (ak (fun _ => ⟨rfl, fun _ _ => rfl⟩) trivial))
  intro γ w1 l hM hl
  have H1 : Hid (Mm w1 [(γ 0, [Value.int .u64 (x : Int), Value.int .u64 (y : Int), Value.bool z]), (γ 1, [Value.int .i64 0] ++ (cel [0, 0] ++ [Value.bool false, Value.int .u64 0, Value.int .u64 0, Value.bool false]))] ∧ _) := growB H0 hM (Nat.le_refl _) hl [0, 1] rfl (by decide)
  have o1_0 := ownB H0 hM (Nat.le_refl _) hl (i := 0) rfl
  have o1_1 := ownB H0 hM (Nat.le_refl _) hl (i := 1) rfl
  clear hM hl l
  generalize γ 0 = γ1_0 at H1 o1_0 ⊢
  generalize γ 1 = γ1_1 at H1 o1_1 ⊢
  clear γ
  refine rest0 rfl (then_normal (wp_seq (wp_seq ?_)))
  refine walk_seqB 2 [.quiet (.int .i64 0), .quiet (.bool false)] H1 ?ho2 ?he2
  case ho2 => exact ak (fun _ => ⟨rfl, fun _ _ => rfl⟩) (ak (by refine fun γ => ⟨rfl, fun w' h => ?_⟩; clear h; go_simp) trivial)
  intro _ w2 H2
  clear H1
  refine rest0 rfl (then_normal (wp_cond_false rfl ?_))
  refine wp_skip (then_normal (wp_seq ?_))
  refine walk_seqB 3 [.quiet (.int .i64 s), .quiet (.agg ([Value.int .u64 (x : Int), Value.int .u64 (y : Int), Value.bool z]).toArray), .quiet (.agg ([Value.int .i64 s] ++ (cel [0, 0] ++ [Value.bool false, Value.int .u64 (x : Int), Value.int .u64 (y : Int), Value.bool z])).toArray)] H2 ?ho3 ?he3
  case ho3 => exact ak (fun _ => ⟨rfl, fun _ _ => rfl⟩) (ak (fun γ => ⟨rfl, fun w' h => ex_loadT h 0 rfl rfl rfl Tryd.isAgg64 Tryd.sizeOf64 rfl rfl⟩) (ak (fun γ => ⟨rfl, fun w' _ => ex_build66_02 rfl rfl rfl⟩) trivial))
  intro _ w3 H3
  clear H2
  refine rest_at (l := [3, 4]) rfl ?_
  refine rest_store rfl rfl rfl (ex_storeT (vs := [Value.int .i64 s] ++ (cel [0, 0] ++ [Value.bool false, Value.int .u64 (x : Int), Value.int .u64 (y : Int), Value.bool z])) H3.out.1 1 rfl rfl rfl rfl Tryd.sizeOf66 rfl (Nat.le_of_ble_eq_true rfl)) ?_
  have H4 : Hid (Mm (w3.setCells γ1_1 0 ([Value.int .i64 s] ++ (cel [0, 0] ++ [Value.bool false, Value.int .u64 (x : Int), Value.int .u64 (y : Int), Value.bool z]))) [(γ1_0, [Value.int .u64 (x : Int), Value.int .u64 (y : Int), Value.bool z]), (γ1_1, [Value.int .i64 s] ++ (cel [0, 0] ++ [Value.bool false, Value.int .u64 (x : Int), Value.int .u64 (y : Int), Value.bool z]))] ∧ Below w.heap.size w (w3.setCells γ1_1 0 ([Value.int .i64 s] ++ (cel [0, 0] ++ [Value.bool false, Value.int .u64 (x : Int), Value.int .u64 (y : Int), Value.bool z])))) := ⟨H3.out.1.put 1 (off := 0) (vs := [Value.int .i64 s] ++ (cel [0, 0] ++ [Value.bool false, Value.int .u64 (x : Int), Value.int .u64 (y : Int), Value.bool z])) rfl (Nat.le_of_ble_eq_true rfl), below_setCells _ o1_1.out _ _ _ H3.out.2⟩
  clear H3
  generalize hgw : World.setCells _ _ _ _ = w4 at H4 ⊢
  clear hgw
  refine rest_set (d := 7) rfl rfl rfl rfl ?_
  simp only [Act.put, sa, sz, ss]
  refine rest_nil (then_normal (wp_ret ?_))
  repeat (first | refine then_ret ?_ | refine block_ret ?_)
  have hf0 := var_T H4.out.1 1 rfl Tryd.isAgg66 Tryd.sizeOf66 rfl
  refine bodyPost_ret (v := .tuple #[.agg ([Value.int .i64 s] ++ (cel [0, 0] ++ [Value.bool false, Value.int .u64 (x : Int), Value.int .u64 (y : Int), Value.bool z])).toArray, .int .i64 0]) (by simp [results, Tryd.results75, asAddr, Act.eval, hf0]) rfl ?_
  exact ⟨rfl, H4.out.2⟩
set_option maxHeartbeats 1000000 in
set_option maxRecDepth 100000 in
theorem gen_little (s : Int) (x y : Nat) (z : Bool) (hs : s ≠ 0) (hG : ∀ w, Calls Tryd.prog 74 #[.int .i64 s] w fun e w' => e = .returned (.tuple #[.agg ([Value.int .u64 (x : Int), Value.int .u64 (y : Int), Value.bool z]).toArray, .int .i64 0]) ∧ Below w.heap.size w w') (w : World) :
    Calls Tryd.prog 48 #[.int .i64 s] w fun e w' => e = .returned (.tuple #[.agg ([Value.int .i64 s] ++ (cel [0, 0] ++ [Value.bool false, Value.int .u64 (x : Int), Value.int .u64 (y : Int), Value.bool z])).toArray, .int .i64 0]) ∧ Below w.heap.size w w' := by
  have H0 : Hid (_ ∧ _) := ⟨Mm.nil w, Below.refl w.heap.size w⟩
  have HG : Hid _ := hG
  clear hG
  go_enter Tryd.func48, Tryd.ntmps48
  refine wp_seq ?_
  refine walk_seqA 2 [.made ([Value.int .i64 0] ++ (cel [0, 0] ++ [Value.bool false, Value.int .u64 0, Value.int .u64 0, Value.bool false])) 66, .quiet (.int .i64 0)] (sB H0) ?ho1 ?he1
  case ho1 => exact ak (fun γ => ⟨rfl, fun w' => ex_made66 rfl⟩) (ak (fun _ => ⟨rfl, fun _ _ => rfl⟩) trivial)
  intro γ w1 l hM hl
  have H1 : Hid (Mm w1 [(γ 0, [Value.int .i64 0] ++ (cel [0, 0] ++ [Value.bool false, Value.int .u64 0, Value.int .u64 0, Value.bool false]))] ∧ _) := growB H0 hM (Nat.le_refl _) hl [0] rfl (by decide)
  have o1_0 := ownB H0 hM (Nat.le_refl _) hl (i := 0) rfl
  clear hM hl l
  generalize γ 0 = γ1_0 at H1 o1_0 ⊢
  clear γ
  refine rest0 rfl (then_normal (wp_seq ?_))
  refine walk_seqB 1 [.quiet (.int .i64 s)] H1 ?ho2 ?he2
  case ho2 => exact ak (fun _ => ⟨rfl, fun _ _ => rfl⟩) trivial
  intro _ w2 H2
  clear H1
  refine rest0 rfl (then_normal (wp_block (wp_seq ?_)))
  refine walk_seqB 2 [.quiet (.bool false), .quiet (.bool false)] H2 ?ho3 ?he3
  case ho3 => exact ak (by refine fun γ => ⟨rfl, fun w' h => ?_⟩; clear h; go_simp) (ak (fun _ => ⟨rfl, fun _ _ => rfl⟩) trivial)
  intro _ w3 H3
  clear H2
  refine rest0 rfl (then_normal (wp_cond_false rfl (wp_seq ?_)))
  refine walk_seqA 8 [.quiet (.int .i64 s), .call (.tuple #[.agg ([Value.int .u64 (x : Int), Value.int .u64 (y : Int), Value.bool z]).toArray, .int .i64 0]), .quiet (.tuple #[.agg ([Value.int .u64 (x : Int), Value.int .u64 (y : Int), Value.bool z]).toArray, .int .i64 0]), .quiet (.agg ([Value.int .u64 (x : Int), Value.int .u64 (y : Int), Value.bool z]).toArray), .quiet (.int .i64 0), .made ([Value.int .u64 0, Value.int .u64 0, Value.bool false]) 64, .laid 5 ([Value.int .u64 0, Value.int .u64 0, Value.bool false]) ([Value.int .u64 (x : Int), Value.int .u64 (y : Int), Value.bool z]), .quiet (.int .i64 0)] (sB H3) ?ho4 ?he4 (hL := ?hL4)
  case hL4 => exact ⟨⟨_, rfl⟩, trivial⟩
  case ho4 => exact ak (fun _ => ⟨rfl, fun _ _ => rfl⟩) (ak (fun γ => ⟨rfl, fun w' h => ⟨74, #[.int .i64 s], exec_call rfl call74 rfl (mpn rfl), HG.out w'⟩⟩) (ak (fun _ => ⟨rfl, fun _ _ => rfl⟩) (ak (by refine fun γ => ⟨rfl, fun w' h => ?_⟩; clear h; go_simp) (ak (by refine fun γ => ⟨rfl, fun w' h => ?_⟩; clear h; go_simp) (ak (fun γ => ⟨rfl, fun w' => ex_made64 rfl⟩) (ak (fun γ => ⟨rfl, rfl, rfl, fun w' h => ex_laidT h rfl rfl Tryd.sizeOf64 rfl rfl rfl⟩) (ak (fun _ => ⟨rfl, fun _ _ => rfl⟩) trivial)))))))
  intro γ w4 l hM hl
  have H4 : Hid (Mm w4 [(γ 5, [Value.int .u64 (x : Int), Value.int .u64 (y : Int), Value.bool z]), (γ1_0, [Value.int .i64 0] ++ (cel [0, 0] ++ [Value.bool false, Value.int .u64 0, Value.int .u64 0, Value.bool false]))] ∧ _) := growB H3 hM (Nat.le_refl _) hl [5] rfl (by decide)
  have o4_5 := ownB H3 hM (Nat.le_refl _) hl (i := 5) rfl
  clear hM hl l H3
  generalize γ 5 = γ4_5 at H4 o4_5 ⊢
  clear γ
  refine rest0 rfl (then_normal (wp_seq ?_))
  refine walk_seqB 6 [.quiet (.int .i64 s), .quiet (.agg ([Value.int .u64 (x : Int), Value.int .u64 (y : Int), Value.bool z]).toArray), .quiet (.int .i64 0), .call (.tuple #[.agg ([Value.int .i64 s] ++ (cel [0, 0] ++ [Value.bool false, Value.int .u64 (x : Int), Value.int .u64 (y : Int), Value.bool z])).toArray, .int .i64 0]), .quiet (.agg ([Value.int .i64 s] ++ (cel [0, 0] ++ [Value.bool false, Value.int .u64 (x : Int), Value.int .u64 (y : Int), Value.bool z])).toArray), .quiet (.int .i64 0)] H4 ?ho5 ?he5
  case ho5 => exact ak (fun _ => ⟨rfl, fun _ _ => rfl⟩) (ak (fun γ => ⟨rfl, fun w' h => ex_loadT h 0 rfl rfl rfl Tryd.isAgg64 Tryd.sizeOf64 rfl rfl⟩) (ak (fun _ => ⟨rfl, fun _ _ => rfl⟩) (ak (fun γ => ⟨rfl, fun w' h => ⟨75, #[.int .i64 s, .agg ([Value.int .u64 (x : Int), Value.int .u64 (y : Int), Value.bool z]).toArray, .int .i64 0], exec_call rfl call75 rfl (mpn rfl), littleKey_ok s x y z w'⟩⟩) (ak (by refine fun γ => ⟨rfl, fun w' h => ?_⟩; clear h; go_simp) (ak (by refine fun γ => ⟨rfl, fun w' h => ?_⟩; clear h; go_simp) trivial)))))
  intro _ w5 H5
  clear H4
  refine rest_at (l := [6, 7]) rfl ?_
  refine rest_store rfl rfl rfl (ex_storeT (vs := [Value.int .i64 s] ++ (cel [0, 0] ++ [Value.bool false, Value.int .u64 (x : Int), Value.int .u64 (y : Int), Value.bool z])) H5.out.1 1 rfl rfl rfl rfl Tryd.sizeOf66 rfl (Nat.le_of_ble_eq_true rfl)) ?_
  have H6 : Hid (Mm (w5.setCells γ1_0 0 ([Value.int .i64 s] ++ (cel [0, 0] ++ [Value.bool false, Value.int .u64 (x : Int), Value.int .u64 (y : Int), Value.bool z]))) [(γ4_5, [Value.int .u64 (x : Int), Value.int .u64 (y : Int), Value.bool z]), (γ1_0, [Value.int .i64 s] ++ (cel [0, 0] ++ [Value.bool false, Value.int .u64 (x : Int), Value.int .u64 (y : Int), Value.bool z]))] ∧ Below w.heap.size w (w5.setCells γ1_0 0 ([Value.int .i64 s] ++ (cel [0, 0] ++ [Value.bool false, Value.int .u64 (x : Int), Value.int .u64 (y : Int), Value.bool z])))) := ⟨H5.out.1.put 1 (off := 0) (vs := [Value.int .i64 s] ++ (cel [0, 0] ++ [Value.bool false, Value.int .u64 (x : Int), Value.int .u64 (y : Int), Value.bool z])) rfl (Nat.le_of_ble_eq_true rfl), below_setCells _ o1_0.out _ _ _ H5.out.2⟩
  clear H5
  generalize hgw : World.setCells _ _ _ _ = w6 at H6 ⊢
  clear hgw
  refine rest_set (d := 3) rfl rfl rfl rfl ?_
  simp only [Act.put, sa, sz, ss]
  refine rest_nil (then_normal (wp_ret ?_))
  repeat (first | refine then_ret ?_ | refine block_ret ?_)
  have hf0 := var_T H6.out.1 1 rfl Tryd.isAgg66 Tryd.sizeOf66 rfl
  refine bodyPost_ret (v := .tuple #[.agg ([Value.int .i64 s] ++ (cel [0, 0] ++ [Value.bool false, Value.int .u64 (x : Int), Value.int .u64 (y : Int), Value.bool z])).toArray, .int .i64 0]) (by simp [results, Tryd.results48, asAddr, Act.eval, hf0]) rfl ?_
  exact ⟨rfl, H6.out.2⟩
set_option maxHeartbeats 1000000 in
set_option maxRecDepth 100000 in
theorem keyCheck_lyes (s : Int) (px py : Nat) (pz : Bool) (x y : Nat) (z : Bool) (hs : s ≠ 0) (he : ∀ w, (Op.equalIn 10000 62 (.agg (cel [px, py] ++ [Value.bool pz]).toArray) (.agg (cel [0, 0] ++ [Value.bool false]).toArray)).run Tryd.prog w = .ok true w) (t : Bool) (hI : ∀ w, Calls Tryd.prog 77 #[.int .i64 s, .agg ([Value.int .u64 (x : Int), Value.int .u64 (y : Int), Value.bool z]).toArray] w fun e w' => e = .returned (.bool t) ∧ Below w.heap.size w w') (w : World) :
    Calls Tryd.prog 49 #[.agg ([Value.int .i64 s] ++ (cel [px, py] ++ [Value.bool pz, Value.int .u64 (x : Int), Value.int .u64 (y : Int), Value.bool z])).toArray] w fun e w' => e = .returned (.bool t) ∧ Below w.heap.size w w' := by
  have H0 : Hid (_ ∧ _) := ⟨Mm.nil w, Below.refl w.heap.size w⟩
  have hE : Hid _ := he
  clear he
  have HI : Hid _ := hI
  clear hI
  go_enter Tryd.func49, Tryd.ntmps49
  refine wp_seq ?_
  refine walk_seqA 2 [.made ([Value.int .i64 s] ++ (cel [px, py] ++ [Value.bool pz, Value.int .u64 (x : Int), Value.int .u64 (y : Int), Value.bool z])) 66, .quiet (.bool false)] (sB H0) ?ho1 ?he1
  case ho1 => exact ak (fun γ => ⟨rfl, fun w' => ex_boxT rfl rfl⟩) (ak (fun _ => ⟨rfl, fun _ _ => rfl⟩) trivial)
  intro γ w1 l hM hl
  have H1 : Hid (Mm w1 [(γ 0, [Value.int .i64 s] ++ (cel [px, py] ++ [Value.bool pz, Value.int .u64 (x : Int), Value.int .u64 (y : Int), Value.bool z]))] ∧ _) := growB H0 hM (Nat.le_refl _) hl [0] rfl (by decide)
  have o1_0 := ownB H0 hM (Nat.le_refl _) hl (i := 0) rfl
  clear hM hl l
  generalize γ 0 = γ1_0 at H1 o1_0 ⊢
  clear γ
  refine rest0 rfl (then_normal (wp_seq ?_))
  refine walk_seqB 2 [.quiet (PT γ1_0 0), .quiet (.int .i64 s)] H1 ?ho2 ?he2
  case ho2 => exact ak (by refine fun γ => ⟨rfl, fun w' h => ?_⟩; clear h; go_simp) (ak (fun γ => ⟨rfl, fun w' h => ex_loadC h 0 rfl rfl rfl Tryd.isAgg37 rfl⟩) trivial)
  intro _ w2 H2
  clear H1
  refine rest0 rfl (then_normal (wp_block (wp_seq ?_)))
  refine walk_seqB 2 [.quiet (.bool false), .quiet (.bool false)] H2 ?ho3 ?he3
  case ho3 => exact ak (by refine fun γ => ⟨rfl, fun w' h => ?_⟩; clear h; go_simp) (ak (fun _ => ⟨rfl, fun _ _ => rfl⟩) trivial)
  intro _ w3 H3
  clear H2
  refine rest0 rfl (then_normal (wp_cond_false rfl (wp_seq ?_)))
  refine walk_seqB 12 [.quiet (PT γ1_0 1), .quiet (.agg (cel [px, py] ++ [Value.bool pz]).toArray), .quiet (.agg (cel [0, 0] ++ [Value.bool false]).toArray), .quiet (.bool true), .quiet (.bool true), .quiet (PT γ1_0 0), .quiet (.int .i64 s), .quiet (PT γ1_0 14), .quiet (.agg ([Value.int .u64 (x : Int), Value.int .u64 (y : Int), Value.bool z]).toArray), .call (.bool t), .quiet (.bool t), .quiet (.bool t)] H3 ?ho4 ?he4
  case ho4 => exact ak (by refine fun γ => ⟨rfl, fun w' h => ?_⟩; clear h; go_simp) (ak (fun γ => ⟨rfl, fun w' h => ex_loadT h 0 rfl rfl rfl Tryd.isAgg62 Tryd.sizeOf62 rfl rfl⟩) (ak (fun γ => ⟨rfl, fun w' _ => ex_build62_ rfl⟩) (ak (fun γ => ⟨rfl, fun w' _ => exec_eqT62 hE.out rfl rfl rfl⟩) (ak (fun _ => ⟨rfl, fun _ _ => rfl⟩) (ak (by refine fun γ => ⟨rfl, fun w' h => ?_⟩; clear h; go_simp) (ak (fun γ => ⟨rfl, fun w' h => ex_loadC h 0 rfl rfl rfl Tryd.isAgg37 rfl⟩) (ak (by refine fun γ => ⟨rfl, fun w' h => ?_⟩; clear h; go_simp) (ak (fun γ => ⟨rfl, fun w' h => ex_loadT h 0 rfl rfl rfl Tryd.isAgg64 Tryd.sizeOf64 rfl rfl⟩) (ak (fun γ => ⟨rfl, fun w' h => ⟨77, #[.int .i64 s, .agg ([Value.int .u64 (x : Int), Value.int .u64 (y : Int), Value.bool z]).toArray], exec_call rfl call77 rfl (mpn rfl), HI.out w'⟩⟩) (ak (by refine fun γ => ⟨rfl, fun w' h => ?_⟩; clear h; go_simp) (ak (fun _ => ⟨rfl, fun _ _ => rfl⟩) trivial)))))))))))
  intro _ w4 H4
  clear H3
  refine rest0 rfl (then_normal (wp_ret ?_))
  repeat (first | refine then_ret ?_ | refine block_ret ?_)
  refine bodyPost_ret (v := .bool t) (by simp [results, Tryd.results49, go_sem, *]) rfl ?_
  exact ⟨rfl, H4.out.2⟩
end Rg
end Go.Proofs.YtfnmahjdkmgdkaaDoor
end
section
namespace Go.Proofs.YtfnmahjdkmgdkaaDoor
open Go.RowKit
namespace Rg
set_option maxRecDepth 100000
theorem info_num : ∃ i, Tryd.prog.info? 24 = some i ∧ i.zero = some (N 0) ∧ i.size = 6 ∧ i.bytes = 48 := by
  have h : (Tryd.prog.info? 24).map (fun i => (i.zero, i.size, i.bytes)) = some (some (.agg #[.int .u64 0, .int .u64 0, .int .u64 0, .int .u64 0, .int .u64 0, .int .u64 0]), 6, 48) := by kernel_rfl
  have e : N 0 = .agg #[.int .u64 0, .int .u64 0, .int .u64 0, .int .u64 0, .int .u64 0, .int .u64 0] := by unfold N; simp only [wd_zero]
  rw [e]
  cases hi : Tryd.prog.info? 24 with
  | none => rw [hi] at h; simp at h
  | some i =>
    rw [hi] at h
    simp at h
    exact ⟨i, rfl, h.1, h.2.1, h.2.2⟩
/-- A slice of numbers of the call's own, beside blocks l. -/
structure Zn (w : World) (B : Nat) (l : List (Nat × List Value)) (vv : Value) (L : List Nat) (w' : World) : Prop where
  b : Below w.heap.size w w'
  lo : w.heap.size ≤ B
  hi : B ≤ w'.heap.size
  m : Mm w' l
  lt : ∀ p ∈ l, p.1 < B
  own : w'.ownsRow B 24 6 vv L.length (cel L)
section
variable {w w1 w2 : World} {B : Nat} {l : List (Nat × List Value)} {vv : Value} {L : List Nat}
theorem Zn.size (h : Zn w B l vv L w1) : w.heap.size ≤ w1.heap.size := h.b.size
theorem Zn.step (h : Zn w B l vv L w1) (hb : Below w1.heap.size w1 w2) : Zn w B l vv L w2 := by
  refine ⟨h.b.trans (hb.mono h.b.size), h.lo, Nat.le_trans h.hi hb.size, h.m.below hb, h.lt, h.own.1, ?_⟩
  rcases h.own.2 with ⟨h1, h2⟩ | ⟨g, cap, cur, h1, h2, h3, h4⟩
  · exact .inl ⟨h1, h2⟩
  · refine .inr ⟨g, cap, cur, h1, h2, ?_, h4⟩
    rw [hb.block g (Array.getElem?_eq_some_iff.1 h3).1]
    exact h3
theorem Zn.start (hm : Mm w1 l) (hb : Below w.heap.size w w1) : Zn w w1.heap.size l (.slice none 0 0) [] w1 := ⟨hb, hb.size, Nat.le_refl _, hm, fun p hp => (hm.blk p hp).1, World.ownsRow_nil _ _ _ _⟩
theorem Zn.app (h : Zn w B l vv L w1) {g c x : Nat} (hm : Mm w1 [(g, cel [x])]) (hb : L.length < 1000) (ty : TypeId) :
    ∃ v' w2, (Builtin.append_ #[38, 38] ty #[vv, .slice (some ⟨g, 0, none⟩) 1 c]).run Tryd.prog w1 = .ok v' w2 ∧ Zn w B l v' (L ++ [x]) w2 := by
  obtain ⟨i0, hi, hz0, hz1, hz2⟩ := info_num
  have hc : ∀ j u, (cel [x])[j]? = some u → w1.cell? ((⟨g, 0, none⟩ : Addr).add j) = some u := fun j u hj => by
    have := ((hm.blk _ (List.mem_singleton.2 rfl)).2 j u hj).1
    rw [show (⟨g, 0, none⟩ : Addr).add j = ⟨g, j, none⟩ by unfold Addr.add; split <;> simp_all]
    exact this
  obtain ⟨v', w2, h1, h2, h3, _⟩ := run_append_own (P := Tryd.prog) w1 B 38 ty 24 i0 (N 0) 6 48 Tryd.underlying38 hi hz0 hz1 hz2 (by unfold N; rfl) (by decide) vv L.length _ h.own ⟨g, 0, none⟩ 1 c (cel [x]) (by rw [cel_len]; rfl) hc
    (List.all_eq_true.1 (cel_one _)) (by unfold maxLen; omega) (by omega) h.hi
  have hb2 : Below B w1 w2 := (Below.refl _ _).grown h3 h.hi (fun k hk => (World.ownsRow.lt h.own k hk).1)
  rw [← cel_app] at h2
  exact ⟨v', w2, h1, h.b.trans (hb2.mono h.lo), h.lo, Nat.le_trans h.hi hb2.size, ⟨fun p hp => ⟨Nat.lt_of_lt_of_le (h.m.blk p hp).1 hb2.size, (h.m.blk p hp).2.below hb2 (h.lt p hp)⟩, h.m.nd⟩, h.lt, by rw [List.length_append]; exact h2⟩
theorem Zn.out (h : Zn w B l vv L w1) (hL : 0 < L.length) : ∃ g cap, vv = .slice (some ⟨g, 0, none⟩) L.length cap ∧ w.heap.size ≤ g ∧ g < w1.heap.size ∧ Blk w1 g (cel L) := by
  rcases h.own.2 with ⟨_, h2⟩ | ⟨g, cap, cur, h1, h2, h3, h4, h5, h6, h7⟩
  · omega
  · have hc := World.ownsRow.cells h.own (g := g) (by rw [h1]; rfl)
    refine ⟨g, cap, h1, Nat.le_trans h.lo h2, (Array.getElem?_eq_some_iff.1 h3).1, fun j v hj => ⟨?_, ?_⟩⟩
    · have := hc j v hj
      rw [show (⟨g, 0, none⟩ : Addr).add j = ⟨g, j, none⟩ by unfold Addr.add; split <;> simp_all] at this
      exact this
    · simp [World.frozen?, h3]
end
section
variable {ρ : Operand → Value} {o : Oper} {x y : Operand} {w w2 : World} {vv sv v' : Value}
theorem ex_appN (ho : o.op = .call { callee := .builtin .append, args := #[x, y], argTypes := #[38, 38] }) (hx : ρ x = vv) (hy : ρ y = sv) (hr : (Builtin.append_ #[38, 38] o.type #[vv, sv]).run Tryd.prog w = .ok v' w2) : (execOp ρ o).run Tryd.prog w = .ok (.value v') w2 := by
  unfold execOp
  simp only [ho, resolve, invoke, builtin, Sem.run_bind, Sem.run_pure, Result.andThen_ok, List.map_toArray, List.map_cons, List.map_nil, hx, hy, hr]
end
set_option maxHeartbeats 1000000 in
set_option maxRecDepth 100000 in
theorem scalars3 {s : Int} {r : Nat} (hS : Su s r) (g a b c : Nat) (ha : a < big) (hb : b < big) (hc : c < big) (w : World) (hm : Mm w [(g, cel [a, b, c])]) :
    Calls Tryd.prog 18 #[.int .i64 s, .slice (some ⟨g, 0, none⟩) 3 3] w fun e w' => Below w.heap.size w w' ∧ ∃ g x _y : Nat, e = .returned (.slice (some ⟨g, 0, none⟩) 3 x) ∧ w.heap.size ≤ g ∧ g < w'.heap.size ∧ Blk w' g (cel [a % r, b % r, c % r]) := by
  have H0 : Hid (_ ∧ _) := ⟨hm, Below.refl w.heap.size w⟩
  clear hm
  go_enter Tryd.func18, Tryd.ntmps18
  refine wp_seq ?_
  refine walk_seqB 1 [.quiet (.slice none 0 0)] H0 ?ho1 ?he1
  case ho1 => exact ak (fun _ => ⟨rfl, fun _ _ => rfl⟩) trivial
  intro _ w1 H1
  refine rest0 rfl (then_normal (wp_seq ?_))
  refine walk_seqA 8 [.quiet (.int .i64 s), .call (.tuple #[N r, .int .i64 0]), .quiet (.tuple #[N r, .int .i64 0]), .quiet (N r), .quiet (.int .i64 0), .made zero6 24, .laid 5 zero6 (cells6 r), .quiet (.int .i64 0)] (sB H1) ?ho2 ?he2 (hL := ?hL2)
  case hL2 => exact ⟨⟨_, rfl⟩, trivial⟩
  case ho2 => exact ak (fun _ => ⟨rfl, fun _ _ => rfl⟩) (ak (fun γ => ⟨rfl, fun w' h => ⟨25, #[.int .i64 s], exec_call rfl call25 rfl (mpn rfl), hS.ord w'⟩⟩) (ak (fun _ => ⟨rfl, fun _ _ => rfl⟩) (ak (by refine fun γ => ⟨rfl, fun w' h => ?_⟩; clear h; go_simp) (ak (by refine fun γ => ⟨rfl, fun w' h => ?_⟩; clear h; go_simp) (ak (fun γ => ⟨rfl, fun w' => exec_made6 rfl⟩) (ak (fun γ => ⟨rfl, rfl, rfl, fun w' h => exec_laid6 h rfl rfl rfl⟩) (ak (fun _ => ⟨rfl, fun _ _ => rfl⟩) trivial)))))))
  intro γ w2 l hM hl
  have H2 : Hid (Mm w2 [(γ 5, cells6 r), (g, cel [a, b, c])] ∧ _) := growB H1 hM (Nat.le_refl _) hl [5] rfl (by decide)
  have o2_5 := ownB H1 hM (Nat.le_refl _) hl (i := 5) rfl
  clear hM hl l H1
  generalize γ 5 = γ2_5 at H2 o2_5 ⊢
  clear γ
  refine rest0 rfl (then_normal (wp_seq ?_))
  refine walk_seqB 1 [.quiet (.slice none 0 0)] H2 ?ho3 ?he3
  case ho3 => exact ak (fun _ => ⟨rfl, fun _ _ => rfl⟩) trivial
  intro _ w3 H3
  clear H2
  refine rest0 rfl (then_normal (wp_seq (wp_seq ?_)))
  refine walk_seqB 1 [.quiet (.int .i64 0)] H3 ?ho4 ?he4
  case ho4 => exact ak (fun _ => ⟨rfl, fun _ _ => rfl⟩) trivial
  intro _ w4 H4
  clear H3
  refine rest0 rfl (then_normal ?_)
  have H5 : Hid (Mm w4 [(γ2_5, cells6 r), (g, cel [a, b, c])] ∧ Zn w w4.heap.size [(γ2_5, cells6 r), (g, cel [a, b, c])] (.slice none 0 0) [] w4) := ⟨H4.out.1, Zn.start H4.out.1 H4.out.2⟩
  clear H4
  generalize w4.heap.size = γB at H5 ⊢
  refine wp_block ?_
  refine wp_loop_rounds 4 ?_
  refine rounds_in (n := 3) ?_
  refine wp_seq (wp_seq ?_)
  refine walk_seqA 4 [.quiet (.int .i64 0), .quiet (.slice (some ⟨g, 0, none⟩) 3 3), .quiet (.int .i64 3), .quiet (.bool true)] (sB H5) ?ho5 ?he5
  case ho5 => exact ak (fun _ => ⟨rfl, fun _ _ => rfl⟩) (ak (fun _ => ⟨rfl, fun _ _ => rfl⟩) (ak (by refine fun γ => ⟨rfl, fun w' h => ?_⟩; clear h; go_simp) (ak (by refine fun γ => ⟨rfl, fun w' h => ?_⟩; clear h; go_simp) trivial)))
  intro γ w6 l hM hl
  have M6 : Mm w6 [(γ2_5, cells6 r), (g, cel [a, b, c])] := H5.out.1.grow hM (Nat.le_refl _) hl [] rfl (by decide)
  have B6 : Zn w γB [(γ2_5, cells6 r), (g, cel [a, b, c])] (.slice none 0 0) [] w6 := Zn.step H5.out.2 (hM.below)
  clear hM hl l H5
  clear γ
  have H6 : Hid (_ ∧ _) := ⟨M6, B6⟩
  clear M6 B6
  refine rest0 rfl (then_normal (wp_cond_true rfl ?_))
  refine wp_skip (then_normal ?_)
  refine wp_seq (wp_block (wp_seq ?_))
  refine walk_anyA 15 [.quiet (.slice (some ⟨g, 0, none⟩) 3 3), .quiet (.int .i64 0), .quiet (PT g 0), .quiet (N a), .quiet (N r), .call (.tuple #[N (a / r), N (a % r), .int .i64 0]), .quiet (.tuple #[N (a / r), N (a % r), .int .i64 0]), .quiet (N (a / r)), .quiet (N (a % r)), .quiet (.int .i64 0), .made zero6 24, .made zero6 24, .laid 10 zero6 (cells6 (a / r)), .laid 11 zero6 (cells6 (a % r)), .quiet (.int .i64 0)] (sB H6) ?ho6 ?he6 (hL := ?hL6)
  case hL6 => exact ⟨⟨_, rfl⟩, ⟨_, rfl⟩, trivial⟩
  case ho6 => exact ak (fun _ => ⟨rfl, fun _ _ => rfl⟩) (ak (fun _ => ⟨rfl, fun _ _ => rfl⟩) (ak (by refine fun γ => ⟨rfl, fun w' h => ?_⟩; clear h; go_simp) (ak (fun γ => ⟨rfl, fun w' h => ex_loadN (i := 0) h 1 rfl rfl rfl rfl⟩) (ak (fun γ => ⟨rfl, fun w' h => ex_load6 h 0 rfl rfl rfl rfl⟩) (ak (fun γ => ⟨rfl, fun w' h => ⟨50, #[N a, N r], exec_call rfl call50 rfl (mpn rfl), divide_some a r ha hS.ok.big (Nat.ne_of_gt hS.ok.pos) w'⟩⟩) (ak (fun _ => ⟨rfl, fun _ _ => rfl⟩) (ak (by refine fun γ => ⟨rfl, fun w' h => ?_⟩; clear h; go_simp) (ak (by refine fun γ => ⟨rfl, fun w' h => ?_⟩; clear h; go_simp) (ak (by refine fun γ => ⟨rfl, fun w' h => ?_⟩; clear h; go_simp) (ak (fun γ => ⟨rfl, fun w' => exec_made6 rfl⟩) (ak (fun γ => ⟨rfl, fun w' => exec_made6 rfl⟩) (ak (fun γ => ⟨rfl, rfl, rfl, fun w' h => exec_laid6 h rfl rfl rfl⟩) (ak (fun γ => ⟨rfl, rfl, rfl, fun w' h => exec_laid6 h rfl rfl rfl⟩) (ak (fun _ => ⟨rfl, fun _ _ => rfl⟩) trivial))))))))))))))
  intro γ w7 l hM hl
  have M7 : Mm w7 [(γ 10, cells6 (a / r)), (γ 11, cells6 (a % r)), (γ2_5, cells6 r), (g, cel [a, b, c])] := H6.out.1.grow hM (Nat.le_refl _) hl [10, 11] rfl (by decide)
  have B7 : Zn w γB [(γ2_5, cells6 r), (g, cel [a, b, c])] (.slice none 0 0) [] w7 := Zn.step H6.out.2 (hM.below)
  have o6_10 : Hid (w.heap.size ≤ γ 10) := Nat.le_trans H6.out.2.size (hM.fin (Nat.le_refl _) hl (i := 10) rfl).2.1
  have o6_11 : Hid (w.heap.size ≤ γ 11) := Nat.le_trans H6.out.2.size (hM.fin (Nat.le_refl _) hl (i := 11) rfl).2.1
  clear hM hl l H6
  generalize γ 10 = γ6_10 at M7 o6_10 ⊢
  generalize γ 11 = γ6_11 at M7 o6_11 ⊢
  clear γ
  have H7 : Hid (_ ∧ _) := ⟨M7, B7⟩
  clear M7 B7
  refine rest0 rfl (then_normal ?_)
  refine walk_seqA 2 [.quiet (.slice none 0 0), .quiet (N (a % r))] (sB H7) ?ho7 ?he7
  case ho7 => exact ak (fun _ => ⟨rfl, fun _ _ => rfl⟩) (ak (fun γ => ⟨rfl, fun w' h => ex_load6 h 1 rfl rfl rfl rfl⟩) trivial)
  intro γ w8 l hM hl
  have M8 : Mm w8 [(γ6_10, cells6 (a / r)), (γ6_11, cells6 (a % r)), (γ2_5, cells6 r), (g, cel [a, b, c])] := H7.out.1.grow hM (Nat.le_refl _) hl [] rfl (by decide)
  have B8 : Zn w γB [(γ2_5, cells6 r), (g, cel [a, b, c])] (.slice none 0 0) [] w8 := Zn.step H7.out.2 (hM.below)
  clear hM hl l H7
  clear γ
  have H8 : Hid (_ ∧ _) := ⟨M8, B8⟩
  clear M8 B8
  refine rest_at (l := [2, 3, 4]) rfl ?_
  refine rest_set (d := 35) (v := .slice (some ⟨w8.heap.size, 0, none⟩) 1 1) (w' := w8.alloc (.cells (cel [a % r] : List Value).toArray 24)) rfl rfl rfl (ex_bsN1 rfl rfl) ?_
  simp only [Act.put, sa, sz, ss]
  have o_γs9 : Hid (w.heap.size ≤ w8.heap.size) := H8.out.2.size
  have H9 : Hid (Mm (w8.alloc (.cells (cel [a % r] : List Value).toArray 24)) ((w8.heap.size, cel [a % r]) :: [(γ6_10, cells6 (a / r)), (γ6_11, cells6 (a % r)), (γ2_5, cells6 r), (g, cel [a, b, c])]) ∧ Zn w γB [(γ2_5, cells6 r), (g, cel [a, b, c])] (.slice none 0 0) [] (w8.alloc (.cells (cel [a % r] : List Value).toArray 24))) := ⟨H8.out.1.alloc _ 24 rfl, Zn.step H8.out.2 ((Below.refl _ _).alloc (Nat.le_refl _) _)⟩
  clear H8
  generalize hgw : w8.alloc (.cells (cel [a % r] : List Value).toArray 24) = w9 at H9 ⊢
  clear hgw
  generalize w8.heap.size = γs9 at o_γs9 H9 ⊢
  obtain ⟨v10, w10, hr, hZ⟩ := H9.out.2.app (c := 1) (H9.out.1.one 0 rfl) (Nat.le_of_ble_eq_true rfl) 38
  refine rest_set (d := 36) (v := v10) (w' := w10) rfl rfl rfl (ex_appN rfl rfl rfl hr) ?_
  simp only [Act.put, sa, sz, ss]
  have H10 : Hid (Mm w10 [(γ2_5, cells6 r), (g, cel [a, b, c])] ∧ Zn w γB [(γ2_5, cells6 r), (g, cel [a, b, c])] v10 [a % r] w10) := ⟨hZ.m, hZ⟩
  clear hr hZ H9
  refine rest_set (d := 7) rfl rfl rfl rfl ?_
  simp only [Act.put, sa, sz, ss]
  refine rest_nil (block_normal (then_normal ?_))
  refine walk_seqA 2 [.quiet (.int .i64 0), .quiet (.int .i64 1)] (sB H10) ?ho8 ?he8
  case ho8 => exact ak (fun _ => ⟨rfl, fun _ _ => rfl⟩) (ak (fun γ => ⟨rfl, fun w' _ => by kernel_rfl⟩) trivial)
  intro γ w11 l hM hl
  have M11 : Mm w11 [(γ2_5, cells6 r), (g, cel [a, b, c])] := H10.out.1.grow hM (Nat.le_refl _) hl [] rfl (by decide)
  have B11 : Zn w γB [(γ2_5, cells6 r), (g, cel [a, b, c])] v10 [a % r] w11 := Zn.step H10.out.2 (hM.below)
  clear hM hl l H10
  clear γ
  have H11 : Hid (_ ∧ _) := ⟨M11, B11⟩
  clear M11 B11
  refine rest_at (l := [2]) rfl ?_
  refine rest_set (d := 8) rfl rfl rfl rfl ?_
  simp only [Act.put, sa, sz, ss]
  refine rest_nil (then_normal ?_)
  refine rounds_in (n := 2) ?_
  refine wp_seq (wp_seq ?_)
  refine walk_seqA 4 [.quiet (.int .i64 1), .quiet (.slice (some ⟨g, 0, none⟩) 3 3), .quiet (.int .i64 3), .quiet (.bool true)] (sB H11) ?ho9 ?he9
  case ho9 => exact ak (fun _ => ⟨rfl, fun _ _ => rfl⟩) (ak (fun _ => ⟨rfl, fun _ _ => rfl⟩) (ak (by refine fun γ => ⟨rfl, fun w' h => ?_⟩; clear h; go_simp) (ak (by refine fun γ => ⟨rfl, fun w' h => ?_⟩; clear h; go_simp) trivial)))
  intro γ w12 l hM hl
  have M12 : Mm w12 [(γ2_5, cells6 r), (g, cel [a, b, c])] := H11.out.1.grow hM (Nat.le_refl _) hl [] rfl (by decide)
  have B12 : Zn w γB [(γ2_5, cells6 r), (g, cel [a, b, c])] v10 [a % r] w12 := Zn.step H11.out.2 (hM.below)
  clear hM hl l H11
  clear γ
  have H12 : Hid (_ ∧ _) := ⟨M12, B12⟩
  clear M12 B12
  refine rest0 rfl (then_normal (wp_cond_true rfl ?_))
  refine wp_skip (then_normal ?_)
  refine wp_seq (wp_block (wp_seq ?_))
  refine walk_anyA 15 [.quiet (.slice (some ⟨g, 0, none⟩) 3 3), .quiet (.int .i64 1), .quiet (PT g 6), .quiet (N b), .quiet (N r), .call (.tuple #[N (b / r), N (b % r), .int .i64 0]), .quiet (.tuple #[N (b / r), N (b % r), .int .i64 0]), .quiet (N (b / r)), .quiet (N (b % r)), .quiet (.int .i64 0), .made zero6 24, .made zero6 24, .laid 10 zero6 (cells6 (b / r)), .laid 11 zero6 (cells6 (b % r)), .quiet (.int .i64 0)] (sB H12) ?ho10 ?he10 (hL := ?hL10)
  case hL10 => exact ⟨⟨_, rfl⟩, ⟨_, rfl⟩, trivial⟩
  case ho10 => exact ak (fun _ => ⟨rfl, fun _ _ => rfl⟩) (ak (fun _ => ⟨rfl, fun _ _ => rfl⟩) (ak (by refine fun γ => ⟨rfl, fun w' h => ?_⟩; clear h; go_simp) (ak (fun γ => ⟨rfl, fun w' h => ex_loadN (i := 1) h 1 rfl rfl rfl rfl⟩) (ak (fun γ => ⟨rfl, fun w' h => ex_load6 h 0 rfl rfl rfl rfl⟩) (ak (fun γ => ⟨rfl, fun w' h => ⟨50, #[N b, N r], exec_call rfl call50 rfl (mpn rfl), divide_some b r hb hS.ok.big (Nat.ne_of_gt hS.ok.pos) w'⟩⟩) (ak (fun _ => ⟨rfl, fun _ _ => rfl⟩) (ak (by refine fun γ => ⟨rfl, fun w' h => ?_⟩; clear h; go_simp) (ak (by refine fun γ => ⟨rfl, fun w' h => ?_⟩; clear h; go_simp) (ak (by refine fun γ => ⟨rfl, fun w' h => ?_⟩; clear h; go_simp) (ak (fun γ => ⟨rfl, fun w' => exec_made6 rfl⟩) (ak (fun γ => ⟨rfl, fun w' => exec_made6 rfl⟩) (ak (fun γ => ⟨rfl, rfl, rfl, fun w' h => exec_laid6 h rfl rfl rfl⟩) (ak (fun γ => ⟨rfl, rfl, rfl, fun w' h => exec_laid6 h rfl rfl rfl⟩) (ak (fun _ => ⟨rfl, fun _ _ => rfl⟩) trivial))))))))))))))
  intro γ w13 l hM hl
  have M13 : Mm w13 [(γ 10, cells6 (b / r)), (γ 11, cells6 (b % r)), (γ2_5, cells6 r), (g, cel [a, b, c])] := H12.out.1.grow hM (Nat.le_refl _) hl [10, 11] rfl (by decide)
  have B13 : Zn w γB [(γ2_5, cells6 r), (g, cel [a, b, c])] v10 [a % r] w13 := Zn.step H12.out.2 (hM.below)
  have o10_10 : Hid (w.heap.size ≤ γ 10) := Nat.le_trans H12.out.2.size (hM.fin (Nat.le_refl _) hl (i := 10) rfl).2.1
  have o10_11 : Hid (w.heap.size ≤ γ 11) := Nat.le_trans H12.out.2.size (hM.fin (Nat.le_refl _) hl (i := 11) rfl).2.1
  clear hM hl l H12
  generalize γ 10 = γ10_10 at M13 o10_10 ⊢
  generalize γ 11 = γ10_11 at M13 o10_11 ⊢
  clear γ
  have H13 : Hid (_ ∧ _) := ⟨M13, B13⟩
  clear M13 B13
  refine rest0 rfl (then_normal ?_)
  refine walk_seqA 2 [.quiet (v10), .quiet (N (b % r))] (sB H13) ?ho11 ?he11
  case ho11 => exact ak (fun _ => ⟨rfl, fun _ _ => rfl⟩) (ak (fun γ => ⟨rfl, fun w' h => ex_load6 h 1 rfl rfl rfl rfl⟩) trivial)
  intro γ w14 l hM hl
  have M14 : Mm w14 [(γ10_10, cells6 (b / r)), (γ10_11, cells6 (b % r)), (γ2_5, cells6 r), (g, cel [a, b, c])] := H13.out.1.grow hM (Nat.le_refl _) hl [] rfl (by decide)
  have B14 : Zn w γB [(γ2_5, cells6 r), (g, cel [a, b, c])] v10 [a % r] w14 := Zn.step H13.out.2 (hM.below)
  clear hM hl l H13
  clear γ
  have H14 : Hid (_ ∧ _) := ⟨M14, B14⟩
  clear M14 B14
  refine rest_at (l := [2, 3, 4]) rfl ?_
  refine rest_set (d := 35) (v := .slice (some ⟨w14.heap.size, 0, none⟩) 1 1) (w' := w14.alloc (.cells (cel [b % r] : List Value).toArray 24)) rfl rfl rfl (ex_bsN1 rfl rfl) ?_
  simp only [Act.put, sa, sz, ss]
  have o_γs15 : Hid (w.heap.size ≤ w14.heap.size) := H14.out.2.size
  have H15 : Hid (Mm (w14.alloc (.cells (cel [b % r] : List Value).toArray 24)) ((w14.heap.size, cel [b % r]) :: [(γ10_10, cells6 (b / r)), (γ10_11, cells6 (b % r)), (γ2_5, cells6 r), (g, cel [a, b, c])]) ∧ Zn w γB [(γ2_5, cells6 r), (g, cel [a, b, c])] v10 [a % r] (w14.alloc (.cells (cel [b % r] : List Value).toArray 24))) := ⟨H14.out.1.alloc _ 24 rfl, Zn.step H14.out.2 ((Below.refl _ _).alloc (Nat.le_refl _) _)⟩
  clear H14
  generalize hgw : w14.alloc (.cells (cel [b % r] : List Value).toArray 24) = w15 at H15 ⊢
  clear hgw
  generalize w14.heap.size = γs15 at o_γs15 H15 ⊢
  obtain ⟨v16, w16, hr, hZ⟩ := H15.out.2.app (c := 1) (H15.out.1.one 0 rfl) (Nat.le_of_ble_eq_true rfl) 38
  refine rest_set (d := 36) (v := v16) (w' := w16) rfl rfl rfl (ex_appN rfl rfl rfl hr) ?_
  simp only [Act.put, sa, sz, ss]
  have H16 : Hid (Mm w16 [(γ2_5, cells6 r), (g, cel [a, b, c])] ∧ Zn w γB [(γ2_5, cells6 r), (g, cel [a, b, c])] v16 [a % r, b % r] w16) := ⟨hZ.m, hZ⟩
  clear hr hZ H15
  refine rest_set (d := 7) rfl rfl rfl rfl ?_
  simp only [Act.put, sa, sz, ss]
  refine rest_nil (block_normal (then_normal ?_))
  refine walk_seqA 2 [.quiet (.int .i64 1), .quiet (.int .i64 2)] (sB H16) ?ho12 ?he12
  case ho12 => exact ak (fun _ => ⟨rfl, fun _ _ => rfl⟩) (ak (fun γ => ⟨rfl, fun w' _ => by kernel_rfl⟩) trivial)
  intro γ w17 l hM hl
  have M17 : Mm w17 [(γ2_5, cells6 r), (g, cel [a, b, c])] := H16.out.1.grow hM (Nat.le_refl _) hl [] rfl (by decide)
  have B17 : Zn w γB [(γ2_5, cells6 r), (g, cel [a, b, c])] v16 [a % r, b % r] w17 := Zn.step H16.out.2 (hM.below)
  clear hM hl l H16
  clear γ
  have H17 : Hid (_ ∧ _) := ⟨M17, B17⟩
  clear M17 B17
  refine rest_at (l := [2]) rfl ?_
  refine rest_set (d := 8) rfl rfl rfl rfl ?_
  simp only [Act.put, sa, sz, ss]
  refine rest_nil (then_normal ?_)
  refine rounds_in (n := 1) ?_
  refine wp_seq (wp_seq ?_)
  refine walk_seqA 4 [.quiet (.int .i64 2), .quiet (.slice (some ⟨g, 0, none⟩) 3 3), .quiet (.int .i64 3), .quiet (.bool true)] (sB H17) ?ho13 ?he13
  case ho13 => exact ak (fun _ => ⟨rfl, fun _ _ => rfl⟩) (ak (fun _ => ⟨rfl, fun _ _ => rfl⟩) (ak (by refine fun γ => ⟨rfl, fun w' h => ?_⟩; clear h; go_simp) (ak (by refine fun γ => ⟨rfl, fun w' h => ?_⟩; clear h; go_simp) trivial)))
  intro γ w18 l hM hl
  have M18 : Mm w18 [(γ2_5, cells6 r), (g, cel [a, b, c])] := H17.out.1.grow hM (Nat.le_refl _) hl [] rfl (by decide)
  have B18 : Zn w γB [(γ2_5, cells6 r), (g, cel [a, b, c])] v16 [a % r, b % r] w18 := Zn.step H17.out.2 (hM.below)
  clear hM hl l H17
  clear γ
  have H18 : Hid (_ ∧ _) := ⟨M18, B18⟩
  clear M18 B18
  refine rest0 rfl (then_normal (wp_cond_true rfl ?_))
  refine wp_skip (then_normal ?_)
  refine wp_seq (wp_block (wp_seq ?_))
  refine walk_anyA 15 [.quiet (.slice (some ⟨g, 0, none⟩) 3 3), .quiet (.int .i64 2), .quiet (PT g 12), .quiet (N c), .quiet (N r), .call (.tuple #[N (c / r), N (c % r), .int .i64 0]), .quiet (.tuple #[N (c / r), N (c % r), .int .i64 0]), .quiet (N (c / r)), .quiet (N (c % r)), .quiet (.int .i64 0), .made zero6 24, .made zero6 24, .laid 10 zero6 (cells6 (c / r)), .laid 11 zero6 (cells6 (c % r)), .quiet (.int .i64 0)] (sB H18) ?ho14 ?he14 (hL := ?hL14)
  case hL14 => exact ⟨⟨_, rfl⟩, ⟨_, rfl⟩, trivial⟩
  case ho14 => exact ak (fun _ => ⟨rfl, fun _ _ => rfl⟩) (ak (fun _ => ⟨rfl, fun _ _ => rfl⟩) (ak (by refine fun γ => ⟨rfl, fun w' h => ?_⟩; clear h; go_simp) (ak (fun γ => ⟨rfl, fun w' h => ex_loadN (i := 2) h 1 rfl rfl rfl rfl⟩) (ak (fun γ => ⟨rfl, fun w' h => ex_load6 h 0 rfl rfl rfl rfl⟩) (ak (fun γ => ⟨rfl, fun w' h => ⟨50, #[N c, N r], exec_call rfl call50 rfl (mpn rfl), divide_some c r hc hS.ok.big (Nat.ne_of_gt hS.ok.pos) w'⟩⟩) (ak (fun _ => ⟨rfl, fun _ _ => rfl⟩) (ak (by refine fun γ => ⟨rfl, fun w' h => ?_⟩; clear h; go_simp) (ak (by refine fun γ => ⟨rfl, fun w' h => ?_⟩; clear h; go_simp) (ak (by refine fun γ => ⟨rfl, fun w' h => ?_⟩; clear h; go_simp) (ak (fun γ => ⟨rfl, fun w' => exec_made6 rfl⟩) (ak (fun γ => ⟨rfl, fun w' => exec_made6 rfl⟩) (ak (fun γ => ⟨rfl, rfl, rfl, fun w' h => exec_laid6 h rfl rfl rfl⟩) (ak (fun γ => ⟨rfl, rfl, rfl, fun w' h => exec_laid6 h rfl rfl rfl⟩) (ak (fun _ => ⟨rfl, fun _ _ => rfl⟩) trivial))))))))))))))
  intro γ w19 l hM hl
  have M19 : Mm w19 [(γ 10, cells6 (c / r)), (γ 11, cells6 (c % r)), (γ2_5, cells6 r), (g, cel [a, b, c])] := H18.out.1.grow hM (Nat.le_refl _) hl [10, 11] rfl (by decide)
  have B19 : Zn w γB [(γ2_5, cells6 r), (g, cel [a, b, c])] v16 [a % r, b % r] w19 := Zn.step H18.out.2 (hM.below)
  have o14_10 : Hid (w.heap.size ≤ γ 10) := Nat.le_trans H18.out.2.size (hM.fin (Nat.le_refl _) hl (i := 10) rfl).2.1
  have o14_11 : Hid (w.heap.size ≤ γ 11) := Nat.le_trans H18.out.2.size (hM.fin (Nat.le_refl _) hl (i := 11) rfl).2.1
  clear hM hl l H18
  generalize γ 10 = γ14_10 at M19 o14_10 ⊢
  generalize γ 11 = γ14_11 at M19 o14_11 ⊢
  clear γ
  have H19 : Hid (_ ∧ _) := ⟨M19, B19⟩
  clear M19 B19
  refine rest0 rfl (then_normal ?_)
  refine walk_seqA 2 [.quiet (v16), .quiet (N (c % r))] (sB H19) ?ho15 ?he15
  case ho15 => exact ak (fun _ => ⟨rfl, fun _ _ => rfl⟩) (ak (fun γ => ⟨rfl, fun w' h => ex_load6 h 1 rfl rfl rfl rfl⟩) trivial)
  intro γ w20 l hM hl
  have M20 : Mm w20 [(γ14_10, cells6 (c / r)), (γ14_11, cells6 (c % r)), (γ2_5, cells6 r), (g, cel [a, b, c])] := H19.out.1.grow hM (Nat.le_refl _) hl [] rfl (by decide)
  have B20 : Zn w γB [(γ2_5, cells6 r), (g, cel [a, b, c])] v16 [a % r, b % r] w20 := Zn.step H19.out.2 (hM.below)
  clear hM hl l H19
  clear γ
  have H20 : Hid (_ ∧ _) := ⟨M20, B20⟩
  clear M20 B20
  refine rest_at (l := [2, 3, 4]) rfl ?_
  refine rest_set (d := 35) (v := .slice (some ⟨w20.heap.size, 0, none⟩) 1 1) (w' := w20.alloc (.cells (cel [c % r] : List Value).toArray 24)) rfl rfl rfl (ex_bsN1 rfl rfl) ?_
  simp only [Act.put, sa, sz, ss]
  have o_γs21 : Hid (w.heap.size ≤ w20.heap.size) := H20.out.2.size
  have H21 : Hid (Mm (w20.alloc (.cells (cel [c % r] : List Value).toArray 24)) ((w20.heap.size, cel [c % r]) :: [(γ14_10, cells6 (c / r)), (γ14_11, cells6 (c % r)), (γ2_5, cells6 r), (g, cel [a, b, c])]) ∧ Zn w γB [(γ2_5, cells6 r), (g, cel [a, b, c])] v16 [a % r, b % r] (w20.alloc (.cells (cel [c % r] : List Value).toArray 24))) := ⟨H20.out.1.alloc _ 24 rfl, Zn.step H20.out.2 ((Below.refl _ _).alloc (Nat.le_refl _) _)⟩
  clear H20
  generalize hgw : w20.alloc (.cells (cel [c % r] : List Value).toArray 24) = w21 at H21 ⊢
  clear hgw
  generalize w20.heap.size = γs21 at o_γs21 H21 ⊢
  obtain ⟨v22, w22, hr, hZ⟩ := H21.out.2.app (c := 1) (H21.out.1.one 0 rfl) (Nat.le_of_ble_eq_true rfl) 38
  refine rest_set (d := 36) (v := v22) (w' := w22) rfl rfl rfl (ex_appN rfl rfl rfl hr) ?_
  simp only [Act.put, sa, sz, ss]
  have H22 : Hid (Mm w22 [(γ2_5, cells6 r), (g, cel [a, b, c])] ∧ Zn w γB [(γ2_5, cells6 r), (g, cel [a, b, c])] v22 [a % r, b % r, c % r] w22) := ⟨hZ.m, hZ⟩
  clear hr hZ H21
  refine rest_set (d := 7) rfl rfl rfl rfl ?_
  simp only [Act.put, sa, sz, ss]
  refine rest_nil (block_normal (then_normal ?_))
  refine walk_seqA 2 [.quiet (.int .i64 2), .quiet (.int .i64 3)] (sB H22) ?ho16 ?he16
  case ho16 => exact ak (fun _ => ⟨rfl, fun _ _ => rfl⟩) (ak (fun γ => ⟨rfl, fun w' _ => by kernel_rfl⟩) trivial)
  intro γ w23 l hM hl
  have M23 : Mm w23 [(γ2_5, cells6 r), (g, cel [a, b, c])] := H22.out.1.grow hM (Nat.le_refl _) hl [] rfl (by decide)
  have B23 : Zn w γB [(γ2_5, cells6 r), (g, cel [a, b, c])] v22 [a % r, b % r, c % r] w23 := Zn.step H22.out.2 (hM.below)
  clear hM hl l H22
  clear γ
  have H23 : Hid (_ ∧ _) := ⟨M23, B23⟩
  clear M23 B23
  refine rest_at (l := [2]) rfl ?_
  refine rest_set (d := 8) rfl rfl rfl rfl ?_
  simp only [Act.put, sa, sz, ss]
  refine rest_nil (then_normal ?_)
  refine rounds_in (n := 0) ?_
  refine wp_seq (wp_seq ?_)
  refine walk_seqA 4 [.quiet (.int .i64 3), .quiet (.slice (some ⟨g, 0, none⟩) 3 3), .quiet (.int .i64 3), .quiet (.bool false)] (sB H23) ?ho17 ?he17
  case ho17 => exact ak (fun _ => ⟨rfl, fun _ _ => rfl⟩) (ak (fun _ => ⟨rfl, fun _ _ => rfl⟩) (ak (by refine fun γ => ⟨rfl, fun w' h => ?_⟩; clear h; go_simp) (ak (by refine fun γ => ⟨rfl, fun w' h => ?_⟩; clear h; go_simp) trivial)))
  intro γ w24 l hM hl
  have M24 : Mm w24 [(γ2_5, cells6 r), (g, cel [a, b, c])] := H23.out.1.grow hM (Nat.le_refl _) hl [] rfl (by decide)
  have B24 : Zn w γB [(γ2_5, cells6 r), (g, cel [a, b, c])] v22 [a % r, b % r, c % r] w24 := Zn.step H23.out.2 (hM.below)
  clear hM hl l H23
  clear γ
  have H24 : Hid (_ ∧ _) := ⟨M24, B24⟩
  clear M24 B24
  refine rest0 rfl (then_normal (wp_cond_false rfl ?_))
  refine wp_exit ?_
  repeat refine then_exit ?_
  refine block_exit ?_
  refine then_normal (wp_seq ?_)
  refine walk_seqA 2 [.quiet (v22), .quiet (v22)] (sB H24) ?ho18 ?he18
  case ho18 => exact ak (fun _ => ⟨rfl, fun _ _ => rfl⟩) (ak (fun _ => ⟨rfl, fun _ _ => rfl⟩) trivial)
  intro γ w25 l hM hl
  have M25 : Mm w25 [(γ2_5, cells6 r), (g, cel [a, b, c])] := H24.out.1.grow hM (Nat.le_refl _) hl [] rfl (by decide)
  have B25 : Zn w γB [(γ2_5, cells6 r), (g, cel [a, b, c])] v22 [a % r, b % r, c % r] w25 := Zn.step H24.out.2 (hM.below)
  clear hM hl l H24
  clear γ
  have H25 : Hid (_ ∧ _) := ⟨M25, B25⟩
  clear M25 B25
  refine rest0 rfl (then_normal (wp_ret ?_))
  repeat (first | refine then_ret ?_ | refine block_ret ?_)
  refine bodyPost_ret (v := v22) (by simp [results, Tryd.results18, go_sem, *]) rfl ?_
  obtain ⟨g', cap, hv, h1, h2, h3⟩ := H25.out.2.out (Nat.le_of_ble_eq_true rfl)
  exact ⟨H25.out.2.b, g', cap, cap, by rw [hv]; rfl, h1, h2, h3⟩
end Rg
end Go.Proofs.YtfnmahjdkmgdkaaDoor
end
section
namespace Go.Proofs.YtfnmahjdkmgdkaaDoor
open Go.RowKit
namespace Rg
namespace Lt
theorem quo_wrap (U y1 q : Nat) (h : U / y1 = q) (hq : q < 18446744073709551616) : IntKind.u64.wrap ((U : Int) / (y1 : Int)) = q := by
  rw [← Int.natCast_ediv, h]; exact Mul64.wrapN q hq
theorem rem_wrap (U y1 q r : Nat) (h : q * y1 + r = U) (hU : U < 18446744073709551616) : IntKind.u64.wrap ((U : Int) - IntKind.u64.wrap ((q : Int) * (y1 : Int))) = r := by
  have h1 : q * y1 < 18446744073709551616 := by omega
  rw [← Int.natCast_mul, Mul64.wrapN _ h1]
  have : (U : Int) - ((q * y1 : Nat) : Int) = (r : Int) := by omega
  rw [this]; exact Mul64.wrapN r (by omega)
theorem hb_break (U y1 y0 u q r Y Q : Nat) (dy : Y = y1 * 4294967296 + y0) (hQ : Q = (U * 4294967296 + u) / Y) (h : (q + 1) * y1 + r = U) (hle : q + 1 ≤ 4294967297) (b3 : y0 < 4294967296) (b4 : 0 < y1) (c2 : 4294967296 ≤ r + y1) (hge : Q + 1 ≤ q + 1) : q = Q := by
  have h2 : q * y1 + (r + y1) = U := by rw [Nat.add_mul] at h; omega
  have h3 : q * y0 ≤ 4294967296 * 4294967295 := Nat.mul_le_mul (by omega) (by omega)
  have h4 := half_enough U y1 y0 u q (r + y1) h2 (by omega) (by omega)
  rw [← dy, ← hQ] at h4
  omega
theorem hb_exit (U y1 y0 u q r Y Q : Nat) (dy : Y = y1 * 4294967296 + y0) (hQ : Q = (U * 4294967296 + u) / Y) (h : q * y1 + r = U) (b4 : 0 < y1) (c : q * y0 ≤ 4294967296 * r + u) (hge : Q ≤ q) : q = Q := by
  have h4 := half_enough U y1 y0 u q r h (by omega) (by rw [Nat.mul_comm r]; exact c)
  rw [← dy, ← hQ] at h4
  omega
theorem hb_more1 (U y1 y0 u q Y Q : Nat) (dy : Y = y1 * 4294967296 + y0) (hQ : Q = (U * 4294967296 + u) / Y) (hu : u < 4294967296) (hU : U < Y) (h : 4294967296 ≤ q) : Q + 1 ≤ q := by
  have h4 := half_big U y1 y0 u q hu (by rw [← dy]; exact hU) h
  rw [← dy, ← hQ] at h4
  exact h4
theorem hb_more2 (U y1 y0 u q r Y Q : Nat) (dy : Y = y1 * 4294967296 + y0) (hQ : Q = (U * 4294967296 + u) / Y) (h : q * y1 + r = U) (b4 : 0 < y1) (c : 4294967296 * r + u < q * y0) : Q + 1 ≤ q := by
  have h4 := half_more U y1 y0 u q r h (by omega) (by rw [Nat.mul_comm r]; exact c)
  rw [← dy, ← hQ] at h4
  exact h4
theorem hb_step (U y1 q r : Nat) (h : (q + 1) * y1 + r = U) : q * y1 + (r + y1) = U := by rw [Nat.add_mul] at h; omega
theorem mul_small (q y0 : Nat) (hq : q < 4294967296) (h : y0 < 4294967296) : q * y0 < 18446744073709551616 := by
  have h3 : q * y0 ≤ 4294967295 * 4294967295 := Nat.mul_le_mul (by omega) (by omega)
  omega
theorem mod_join (M Y u0 : Nat) : (M % Y * 4294967296 + u0) % Y = (M * 4294967296 + u0) % Y := by
  rw [Nat.add_mod, Nat.mul_mod, Nat.mod_mod, ← Nat.mul_mod, ← Nat.add_mod]
set_option maxHeartbeats 2000000 in
set_option maxRecDepth 100000 in
theorem div64_hi (hi lo y : Nat) (h1 : hi < y) (hy : y < 18446744073709551616) (hl : lo < 18446744073709551616) (h0 : hi ≠ 0) (w : World) :
    Calls Tryd.prog 118 #[.int .u64 hi, .int .u64 lo, .int .u64 y] w fun e w' => e = .returned (.tuple #[.int .u64 ((hi * 18446744073709551616 + lo) / y : Nat), .int .u64 ((hi * 18446744073709551616 + lo) % y : Nat)]) ∧ w' = w := by
  have hc := fun w => lz64_any y w (Int.natCast_nonneg y) (by omega)
  rw [Int.toNat_natCast] at hc
  have HC : Hid _ := hc
  have hb1 : bl y ≤ 64 := bl_le_of y 64 hy
  have hb2 : 1 ≤ bl y := bl_pos y (by omega)
  obtain ⟨Y, U, u1, u0, y1, y0, dY, b1, b2, dy, b3, b4, b5, b6, b7, b8, dM, eY, eU, eu1, eu0, ey1, ey0⟩ := norm_parts hi lo y h1 hy hl
  obtain ⟨Q1, hQ1⟩ : ∃ Q1, Q1 = (U * 4294967296 + u1) / Y := ⟨_, rfl⟩
  obtain ⟨R1, hR1⟩ : ∃ R1, R1 = (U * 4294967296 + u1) % Y := ⟨_, rfl⟩
  obtain ⟨Q0, hQ0⟩ : ∃ Q0, Q0 = (R1 * 4294967296 + u0) / Y := ⟨_, rfl⟩
  have hfin : (hi * 18446744073709551616 + lo) / y = Q1 * 4294967296 + Q0 := by
    rw [hQ0, hR1, hQ1, halves_join _ _ _ (by omega), ← dM, dY, norm_div]
  obtain ⟨R0, hR0⟩ : ∃ R0, R0 = (R1 * 4294967296 + u0) % Y := ⟨_, rfl⟩
  have hrem : (hi * 18446744073709551616 + lo) % y = R0 / 2 ^ (64 - bl y) := by
    rw [hR0, hR1, mod_join, ← dM, dY, Nat.mul_mod_mul_right, Nat.mul_div_cancel _ (Nat.two_pow_pos _)]
  rw [hfin, hrem]
  have HN : Hid _ := And.intro b1 (And.intro b2 (And.intro dy (And.intro b8 (And.intro hQ1 (And.intro hR1 (And.intro hQ0 hR0))))))
  have e1 : ((y : Int) == 0) = false := by simp; omega
  have e2 : ((hi : Int) == 0) = false := by simp; omega
  have e3 : (1 : Int) ≤ y1 := by omega
  clear hc hy hl dY dM hfin hrem b1 b2 dy b8 hQ1 hR1 hQ0 hR0
  go_enter Tryd.func118, Tryd.ntmps118
  go_upto_block 0 with (go_at_call 132; refine (HC.out _).mono ?_; rintro e w' ⟨rfl, hw'⟩; rw [hw']; clear hw')
  go_cut [15, 16] (fun qv rv wq => qv = .int .u64 Q1 ∧ (∃ r : Int, rv = .int .u64 r) ∧ wq = w)
  case first =>
    go_wp2
    go_loop [15, 16] (fun qv rv => ∃ q r : Nat, qv = .int .u64 q ∧ rv = .int .u64 r ∧ q * y1 + r = U ∧ Q1 ≤ q ∧ q ≤ 4294967297 ∧ r < 4294967296) (fun q _ => (RowKit.intOf q).toNat)
    case atStart =>
      obtain ⟨b1, b2, dy, b8, hQ1, hR1, hQ0, hR0⟩ := HN.out
      have hs := half_start U y1 y0 b3 b4 (by omega)
      have hg := half_ge U y1 y0 u1 b6 (by omega)
      have e1 := quo_wrap U y1 (U / y1) rfl (by omega)
      have dm := Nat.div_add_mod U y1
      have e2 := rem_wrap U y1 (U / y1) (U % y1) (by rw [Nat.mul_comm]; exact dm) (by omega)
      have hm := Nat.mod_lt U (by omega : 0 < y1)
      rw [e1, e2]
      exact ⟨U / y1, U % y1, rfl, rfl, by rw [Nat.mul_comm]; exact dm, by rw [hQ1, dy]; exact hg, hs, by omega⟩
    case round =>
      obtain ⟨q, r, rfl, rfl, hqr, hge, hle, hr⟩ := hrel
      have HQ : Hid _ := hqr
      clear hqr
      by_cases c1 : 4294967296 ≤ q
      · have hmore : Q1 + 1 ≤ q := by
          obtain ⟨b1, b2, dy, b8, hQ1, hR1, hQ0, hR0⟩ := HN.out
          exact hb_more1 U y1 y0 u1 q Y Q1 dy hQ1 b6 b8 c1
        obtain ⟨p, rfl⟩ : ∃ p, q = p + 1 := ⟨q - 1, by omega⟩
        have HB : Hid (Q1 + 1 ≤ p + 1 ∧ p + 1 ≤ 4294967297 ∧ r < 4294967296) := ⟨hmore, hle, hr⟩
        have i1 : (4294967296 : Int) ≤ (p : Int) + 1 := by omega
        have i2 : (p : Int) + 1 ≤ 4294967297 := by omega
        have i3 : (r : Int) < 4294967296 := by omega
        have i4 : (y1 : Int) < 4294967296 := by omega
        clear c1 hmore hle hr hge
        rw [show ((p + 1 : Nat) : Int) = (p : Int) + 1 by omega]
        by_cases c2 : (4294967296 : Int) ≤ (r : Int) + (y1 : Int)
        · go_wp2
          go_meet
          case rel =>
            obtain ⟨b1, b2, dy, b8, hQ1, hR1, hQ0, hR0⟩ := HN.out
            exact ⟨by rw [hb_break U y1 y0 u1 p r Y Q1 dy hQ1 HQ.out HB.out.2.1 b3 (by omega) (by omega) HB.out.1], ⟨_, rfl⟩, rfl⟩
        · go_wp2
          go_round
          case rel => exact ⟨p, r + y1, rfl, by go_num, hb_step U y1 p r HQ.out, by have := HB.out.1; omega, by have := HB.out.2.1; omega, by omega⟩
          case measure => simp [RowKit.intOf] <;> omega
      · obtain ⟨P, hP⟩ : ∃ P, P = q * y0 := ⟨_, rfl⟩
        have hPb : P < 18446744073709551616 := by rw [hP]; exact mul_small q y0 (by omega) b3
        by_cases c3 : (4294967296 : Int) * (r : Int) + (u1 : Int) < (P : Int)
        · have hq1 : 1 ≤ q := by
            by_cases hq0 : q = 0
            · subst hq0; rw [Nat.zero_mul] at hP; omega
            · omega
          have hmore : Q1 + 1 ≤ q := by
            obtain ⟨b1, b2, dy, b8, hQ1, hR1, hQ0, hR0⟩ := HN.out
            exact hb_more2 U y1 y0 u1 q r Y Q1 dy hQ1 HQ.out (by omega) (by rw [← hP]; omega)
          obtain ⟨p, rfl⟩ : ∃ p, q = p + 1 := ⟨q - 1, by omega⟩
          have HB : Hid (Q1 + 1 ≤ p + 1 ∧ p + 1 ≤ 4294967297 ∧ r < 4294967296) := ⟨hmore, hle, hr⟩
          have i1 : (p : Int) + 1 < 4294967296 := by omega
          have i3 : (r : Int) < 4294967296 := by omega
          have i4 : (y1 : Int) < 4294967296 := by omega
          have i5 : (u1 : Int) < 4294967296 := by omega
          have eP : IntKind.u64.wrap (((p : Int) + 1) * (y0 : Int)) = (P : Int) := by
            rw [show ((p : Int) + 1) = ((p + 1 : Nat) : Int) by omega, ← Int.natCast_mul, ← hP]; exact Mul64.wrapN P hPb
          clear c1 hmore hle hr hge hP hPb hq1
          rw [show ((p + 1 : Nat) : Int) = (p : Int) + 1 by omega]
          by_cases c2 : (4294967296 : Int) ≤ (r : Int) + (y1 : Int)
          · go_wp2
            go_meet
            case rel =>
              obtain ⟨b1, b2, dy, b8, hQ1, hR1, hQ0, hR0⟩ := HN.out
              exact ⟨by rw [hb_break U y1 y0 u1 p r Y Q1 dy hQ1 HQ.out HB.out.2.1 b3 (by omega) (by omega) HB.out.1], ⟨_, rfl⟩, rfl⟩
          · go_wp2
            go_round
            case rel => exact ⟨p, r + y1, rfl, by go_num, hb_step U y1 p r HQ.out, by have := HB.out.1; omega, by have := HB.out.2.1; omega, by omega⟩
            case measure => simp [RowKit.intOf] <;> omega
        · have HE : Hid (q = Q1) := by
            obtain ⟨b1, b2, dy, b8, hQ1, hR1, hQ0, hR0⟩ := HN.out
            exact hb_exit U y1 y0 u1 q r Y Q1 dy hQ1 HQ.out (by omega) (by rw [← hP]; omega) hge
          have eP : IntKind.u64.wrap ((q : Int) * (y0 : Int)) = (P : Int) := by
            rw [← Int.natCast_mul, ← hP]; exact Mul64.wrapN P hPb
          obtain ⟨z, hz⟩ : ∃ z : Int, z = (q : Int) := ⟨_, rfl⟩
          obtain ⟨x, hx⟩ : ∃ x : Int, x = (P : Int) := ⟨_, rfl⟩
          obtain ⟨v, hv⟩ : ∃ v : Int, v = (r : Int) := ⟨_, rfl⟩
          have HZ : Hid (z = (Q1 : Int)) := by rw [hz, HE.out]; rfl
          have i0 : 0 ≤ z := by omega
          have i1 : z < 4294967296 := by omega
          have i2 : 0 ≤ v := by omega
          have i3 : v < 4294967296 := by omega
          have i6 : x ≤ 4294967296 * v + (u1 : Int) := by omega
          rw [← hz, ← hx] at eP
          rw [← hz, ← hv]
          clear c1 c3 hle hr hge hP hPb HE hz hx hv
          go_wp2
          go_meet
          case rel => exact ⟨by rw [HZ.out], ⟨_, rfl⟩, rfl⟩
  case rest =>
    obtain ⟨rfl, ⟨rv, rfl⟩, rfl⟩ := hcut
    have eR : IntKind.u64.wrap (IntKind.u64.wrap (IntKind.u64.wrap ((U : Int) * 4294967296) + (u1 : Int)) - IntKind.u64.wrap ((Q1 : Int) * (Y : Int))) = (R1 : Int) := by
      obtain ⟨b1, b2, dy, b8, hQ1, hR1, hQ0, hR0⟩ := HN.out
      have dm := Nat.div_add_mod (U * 4294967296 + u1) Y
      have b9 : R1 < Y := by rw [hR1]; exact Nat.mod_lt _ (by omega)
      rw [← hQ1, ← hR1, Nat.mul_comm] at dm
      rw [IntKind.wrap_u64, IntKind.wrap_u64, IntKind.wrap_u64, IntKind.wrap_u64, ← Int.natCast_mul]
      generalize Q1 * Y = Z at dm ⊢
      omega
    go_upto_block 2 with (fail)
    go_cut [18, 16] (fun qv rv wq => qv = .int .u64 Q0 ∧ (∃ r : Int, rv = .int .u64 r) ∧ wq = wc)
    case first =>
      go_wp2
      go_loop [18, 16] (fun qv rv => ∃ q r : Nat, qv = .int .u64 q ∧ rv = .int .u64 r ∧ q * y1 + r = R1 ∧ Q0 ≤ q ∧ q ≤ 4294967297 ∧ r < 4294967296) (fun q _ => (RowKit.intOf q).toNat)
      case atStart =>
        obtain ⟨b1, b2, dy, b8, hQ1, hR1, hQ0, hR0⟩ := HN.out; have b9 : R1 < Y := by rw [hR1]; exact Nat.mod_lt _ (by omega)
        have hs := half_start R1 y1 y0 b3 b4 (by omega)
        have hg := half_ge R1 y1 y0 u0 b7 (by omega)
        have e1 := quo_wrap R1 y1 (R1 / y1) rfl (by omega)
        have dm := Nat.div_add_mod R1 y1
        have e2 := rem_wrap R1 y1 (R1 / y1) (R1 % y1) (by rw [Nat.mul_comm]; exact dm) (by omega)
        have hm := Nat.mod_lt R1 (by omega : 0 < y1)
        rw [e1, e2]
        exact ⟨R1 / y1, R1 % y1, rfl, rfl, by rw [Nat.mul_comm]; exact dm, by rw [hQ0, dy]; exact hg, hs, by omega⟩
      case round =>
        obtain ⟨q, r, rfl, rfl, hqr, hge, hle, hr⟩ := hrel
        have HQ : Hid _ := hqr
        clear hqr
        by_cases c1 : 4294967296 ≤ q
        · have hmore : Q0 + 1 ≤ q := by
            obtain ⟨b1, b2, dy, b8, hQ1, hR1, hQ0, hR0⟩ := HN.out; have b9 : R1 < Y := by rw [hR1]; exact Nat.mod_lt _ (by omega)
            exact hb_more1 R1 y1 y0 u0 q Y Q0 dy hQ0 b7 b9 c1
          obtain ⟨p, rfl⟩ : ∃ p, q = p + 1 := ⟨q - 1, by omega⟩
          have HB : Hid (Q0 + 1 ≤ p + 1 ∧ p + 1 ≤ 4294967297 ∧ r < 4294967296) := ⟨hmore, hle, hr⟩
          have i1 : (4294967296 : Int) ≤ (p : Int) + 1 := by omega
          have i2 : (p : Int) + 1 ≤ 4294967297 := by omega
          have i3 : (r : Int) < 4294967296 := by omega
          have i4 : (y1 : Int) < 4294967296 := by omega
          clear c1 hmore hle hr hge
          rw [show ((p + 1 : Nat) : Int) = (p : Int) + 1 by omega]
          by_cases c2 : (4294967296 : Int) ≤ (r : Int) + (y1 : Int)
          · go_wp2
            go_meet
            case rel =>
              obtain ⟨b1, b2, dy, b8, hQ1, hR1, hQ0, hR0⟩ := HN.out; have b9 : R1 < Y := by rw [hR1]; exact Nat.mod_lt _ (by omega)
              exact ⟨by rw [hb_break R1 y1 y0 u0 p r Y Q0 dy hQ0 HQ.out HB.out.2.1 b3 (by omega) (by omega) HB.out.1], ⟨_, rfl⟩, rfl⟩
          · go_wp2
            go_round
            case rel => exact ⟨p, r + y1, rfl, by go_num, hb_step R1 y1 p r HQ.out, by have := HB.out.1; omega, by have := HB.out.2.1; omega, by omega⟩
            case measure => simp [RowKit.intOf] <;> omega
        · obtain ⟨P, hP⟩ : ∃ P, P = q * y0 := ⟨_, rfl⟩
          have hPb : P < 18446744073709551616 := by rw [hP]; exact mul_small q y0 (by omega) b3
          by_cases c3 : (4294967296 : Int) * (r : Int) + (u0 : Int) < (P : Int)
          · have hq1 : 1 ≤ q := by
              by_cases hq0 : q = 0
              · subst hq0; rw [Nat.zero_mul] at hP; omega
              · omega
            have hmore : Q0 + 1 ≤ q := by
              obtain ⟨b1, b2, dy, b8, hQ1, hR1, hQ0, hR0⟩ := HN.out; have b9 : R1 < Y := by rw [hR1]; exact Nat.mod_lt _ (by omega)
              exact hb_more2 R1 y1 y0 u0 q r Y Q0 dy hQ0 HQ.out (by omega) (by rw [← hP]; omega)
            obtain ⟨p, rfl⟩ : ∃ p, q = p + 1 := ⟨q - 1, by omega⟩
            have HB : Hid (Q0 + 1 ≤ p + 1 ∧ p + 1 ≤ 4294967297 ∧ r < 4294967296) := ⟨hmore, hle, hr⟩
            have i1 : (p : Int) + 1 < 4294967296 := by omega
            have i3 : (r : Int) < 4294967296 := by omega
            have i4 : (y1 : Int) < 4294967296 := by omega
            have i5 : (u0 : Int) < 4294967296 := by omega
            have eP : IntKind.u64.wrap (((p : Int) + 1) * (y0 : Int)) = (P : Int) := by
              rw [show ((p : Int) + 1) = ((p + 1 : Nat) : Int) by omega, ← Int.natCast_mul, ← hP]; exact Mul64.wrapN P hPb
            clear c1 hmore hle hr hge hP hPb hq1
            rw [show ((p + 1 : Nat) : Int) = (p : Int) + 1 by omega]
            by_cases c2 : (4294967296 : Int) ≤ (r : Int) + (y1 : Int)
            · go_wp2
              go_meet
              case rel =>
                obtain ⟨b1, b2, dy, b8, hQ1, hR1, hQ0, hR0⟩ := HN.out; have b9 : R1 < Y := by rw [hR1]; exact Nat.mod_lt _ (by omega)
                exact ⟨by rw [hb_break R1 y1 y0 u0 p r Y Q0 dy hQ0 HQ.out HB.out.2.1 b3 (by omega) (by omega) HB.out.1], ⟨_, rfl⟩, rfl⟩
            · go_wp2
              go_round
              case rel => exact ⟨p, r + y1, rfl, by go_num, hb_step R1 y1 p r HQ.out, by have := HB.out.1; omega, by have := HB.out.2.1; omega, by omega⟩
              case measure => simp [RowKit.intOf] <;> omega
          · have HE : Hid (q = Q0) := by
              obtain ⟨b1, b2, dy, b8, hQ1, hR1, hQ0, hR0⟩ := HN.out; have b9 : R1 < Y := by rw [hR1]; exact Nat.mod_lt _ (by omega)
              exact hb_exit R1 y1 y0 u0 q r Y Q0 dy hQ0 HQ.out (by omega) (by rw [← hP]; omega) hge
            have eP : IntKind.u64.wrap ((q : Int) * (y0 : Int)) = (P : Int) := by
              rw [← Int.natCast_mul, ← hP]; exact Mul64.wrapN P hPb
            obtain ⟨z, hz⟩ : ∃ z : Int, z = (q : Int) := ⟨_, rfl⟩
            obtain ⟨x, hx⟩ : ∃ x : Int, x = (P : Int) := ⟨_, rfl⟩
            obtain ⟨v, hv⟩ : ∃ v : Int, v = (r : Int) := ⟨_, rfl⟩
            have HZ : Hid (z = (Q0 : Int)) := by rw [hz, HE.out]; rfl
            have i0 : 0 ≤ z := by omega
            have i1 : z < 4294967296 := by omega
            have i2 : 0 ≤ v := by omega
            have i3 : v < 4294967296 := by omega
            have i6 : x ≤ 4294967296 * v + (u0 : Int) := by omega
            rw [← hz, ← hx] at eP
            rw [← hz, ← hv]
            clear c1 c3 hle hr hge hP hPb HE hz hx hv
            go_wp2
            go_meet
            case rel => exact ⟨by rw [HZ.out], ⟨_, rfl⟩, rfl⟩
    case rest =>
      obtain ⟨rfl, ⟨rv2, rfl⟩, rfl⟩ := hcut
      have eQ : IntKind.u64.wrap (IntKind.u64.wrap ((Q1 : Int) * 4294967296) + (Q0 : Int)) = ((Q1 * 4294967296 + Q0 : Nat) : Int) := by
        obtain ⟨b1, b2, dy, b8, hQ1, hR1, hQ0, hR0⟩ := HN.out
        have b9 : R1 < Y := by rw [hR1]; exact Nat.mod_lt _ (by omega)
        have q1 : Q1 < 4294967296 := by rw [hQ1]; exact (Nat.div_lt_iff_lt_mul (by omega)).2 (by omega)
        have q0 : Q0 < 4294967296 := by rw [hQ0]; exact (Nat.div_lt_iff_lt_mul (by omega)).2 (by omega)
        rw [IntKind.wrap_u64, IntKind.wrap_u64]
        omega
      have eZ : IntKind.u64.wrap (IntKind.u64.wrap (IntKind.u64.wrap ((R1 : Int) * 4294967296) + (u0 : Int)) - IntKind.u64.wrap ((Q0 : Int) * (Y : Int))) = (R0 : Int) := by
        obtain ⟨b1, b2, dy, b8, hQ1, hR1, hQ0, hR0⟩ := HN.out
        have dm := Nat.div_add_mod (R1 * 4294967296 + u0) Y
        have b9 : R0 < Y := by rw [hR0]; exact Nat.mod_lt _ (by omega)
        rw [← hQ0, ← hR0, Nat.mul_comm] at dm
        rw [IntKind.wrap_u64, IntKind.wrap_u64, IntKind.wrap_u64, IntKind.wrap_u64, ← Int.natCast_mul]
        generalize Q0 * Y = Z at dm ⊢
        omega
      go_wp2
      rw [show ((Q1 : Int) * 4294967296 + (Q0 : Int)) = ((Q1 * 4294967296 + Q0 : Nat) : Int) by omega]
      go_ret2
      exact ⟨rfl, rfl⟩
end Lt
end Rg
end Go.Proofs.YtfnmahjdkmgdkaaDoor
end
section
namespace Go.Proofs.YtfnmahjdkmgdkaaDoor
open Go.RowKit
namespace Rg
namespace Lt
set_option maxHeartbeats 400000 in
theorem div64_zero (lo y : Nat) (h1 : 0 < y) (hl : lo < 18446744073709551616) (w : World) :
    Calls Tryd.prog 118 #[.int .u64 0, .int .u64 lo, .int .u64 y] w fun e w' => e = .returned (.tuple #[.int .u64 (lo / y : Nat), .int .u64 (lo % y : Nat)]) ∧ ∃ n, w' = w.drewN n := by
  have e1 : ((y : Int) == 0) = false := by simp; omega
  have e3 : (1 : Int) ≤ y := by omega
  have eq : Hid _ := quo_wrap lo y (lo / y) rfl (Nat.lt_of_le_of_lt (Nat.div_le_self _ _) hl)
  clear hl
  go_enter Tryd.func118, Tryd.ntmps118
  go_wp2
  go_quiet (fail)
  go_wp2
  rw [eq.out]
  go_ret2
  exact ⟨rfl, _, rfl⟩
theorem div64_any (hi lo y : Nat) (h1 : hi < y) (hy : y < 18446744073709551616) (hl : lo < 18446744073709551616) (w : World) :
    Calls Tryd.prog 118 #[.int .u64 hi, .int .u64 lo, .int .u64 y] w fun e w' => e = .returned (.tuple #[.int .u64 ((hi * 18446744073709551616 + lo) / y : Nat), .int .u64 ((hi * 18446744073709551616 + lo) % y : Nat)]) ∧ ∃ n, w' = w.drewN n := by
  by_cases h0 : hi = 0
  · subst h0
    rw [Nat.zero_mul, Nat.zero_add]
    exact div64_zero lo y (by omega) hl w
  · refine (div64_hi hi lo y h1 hy hl h0 w).mono ?_
    rintro e w' ⟨rfl, hw⟩
    exact ⟨rfl, 0, hw⟩
set_option maxHeartbeats 400000 in
theorem rem64_any (hi lo y : Nat) (h0 : 0 < y) (hy : y < 18446744073709551616) (hl : lo < 18446744073709551616) (w : World) :
    Calls Tryd.prog 122 #[.int .u64 hi, .int .u64 lo, .int .u64 y] w fun e w' => e = .returned (.int .u64 ((hi * 18446744073709551616 + lo) % y : Nat)) ∧ ∃ n, w' = w.drewN n := by
  have hc := fun w => div64_any (hi % y) lo y (Nat.mod_lt _ h0) hy hl w
  have er : (hi % y * 18446744073709551616 + lo) % y = (hi * 18446744073709551616 + lo) % y := by
    rw [Nat.add_mod, Nat.mul_mod, Nat.mod_mod, ← Nat.mul_mod, ← Nat.add_mod]
  rw [er] at hc
  generalize (hi * 18446744073709551616 + lo) % y = rr at hc ⊢
  generalize (hi % y * 18446744073709551616 + lo) / y = qq at hc
  have e3 : (1 : Int) ≤ y := by omega
  have HC : Hid _ := hc
  clear hc hl hy er h0
  go_enter Tryd.func122, Tryd.ntmps122
  go_wp2_with (go_at_call 118; refine (HC.out _).mono ?_; rintro e w' ⟨rfl, hb⟩)
  go_ret
  exact ⟨rfl, hb⟩
end Lt
end Rg
end Go.Proofs.YtfnmahjdkmgdkaaDoor
end
section
namespace Go.Proofs.YtfnmahjdkmgdkaaDoor
open Go.RowKit
namespace Rg
namespace Lt
abbrev U (n : Nat) : Value := .int .u64 (n : Int)
/-- A struct or an array, cell by cell. -/
abbrev V (l : List Value) : Value := .agg l.toArray
section
variable {ρ : Operand → Value} {o : Oper} {x y : Operand} {a b : Nat} {w : World}
theorem ex_addU (h : a + b < 18446744073709551616) (ho : o.op = .binOp .add 22 x y 22) (hx : ρ x = U a) (hy : ρ y = U b) : (execOp ρ o).run Tryd.prog w = .ok (.value (U (a + b))) w := by
  simp only [execOp, ho, hx, hy]
  clear ho hx hy
  go_simp
  rw [IntKind.wrap_u64]
  omega
theorem ex_subU (h : b ≤ a) (ha : a < 18446744073709551616) (ho : o.op = .binOp .sub 22 x y 22) (hx : ρ x = U a) (hy : ρ y = U b) : (execOp ρ o).run Tryd.prog w = .ok (.value (U (a - b))) w := by
  simp only [execOp, ho, hx, hy]
  clear ho hx hy
  go_simp
  rw [IntKind.wrap_u64]
  omega
theorem ex_mulU (h : a * b < 18446744073709551616) (ho : o.op = .binOp .mul 22 x y 22) (hx : ρ x = U a) (hy : ρ y = U b) : (execOp ρ o).run Tryd.prog w = .ok (.value (U (a * b))) w := by
  simp only [execOp, ho, hx, hy]
  clear ho hx hy
  go_simp
  rw [IntKind.wrap_u64, ← Int.natCast_mul]
  omega
theorem ex_remU (h : b ≠ 0) (ho : o.op = .binOp .rem 22 x y 22) (hx : ρ x = U a) (hy : ρ y = U b) : (execOp ρ o).run Tryd.prog w = .ok (.value (U (a % b))) w := by
  simp only [execOp, ho, hx, hy]
  clear ho hx hy
  go_simp
  rw [Int.tmod_eq_emod_of_nonneg (by omega)]
theorem ex_ltU (ho : o.op = .binOp .lss 22 x y 22) (hx : ρ x = U a) (hy : ρ y = U b) {t : Bool} (ht : decide (a < b) = t) : (execOp ρ o).run Tryd.prog w = .ok (.value (.bool t)) w := by
  subst ht
  simp only [execOp, ho, hx, hy]
  clear ho hx hy
  go_simp
theorem ex_geU (ho : o.op = .binOp .geq 22 x y 22) (hx : ρ x = U a) (hy : ρ y = U b) {t : Bool} (ht : decide (b ≤ a) = t) : (execOp ρ o).run Tryd.prog w = .ok (.value (.bool t)) w := by
  subst ht
  simp only [execOp, ho, hx, hy]
  clear ho hx hy
  go_simp
theorem ex_eqU (ho : o.op = .binOp .eql 22 x y 22) (hx : ρ x = U a) (hy : ρ y = U b) {t : Bool} (ht : decide (a = b) = t) : (execOp ρ o).run Tryd.prog w = .ok (.value (.bool t)) w := by
  subst ht
  simp only [execOp, ho, hx, hy]
  clear ho hx hy
  go_simp
  by_cases h : a = b <;> simp [h] <;> omega
theorem ex_shrU {k : Nat} (hk : k < 64) (ho : o.op = .binOp .shr 22 x y 3) (hx : ρ x = U a) (hy : ρ y = .int .i64 (k : Int)) : (execOp ρ o).run Tryd.prog w = .ok (.value (U (a / 2 ^ k))) w := by
  simp only [execOp, ho, hx, hy]
  clear ho hx hy
  have hs := shift_shr_any .u64 .i64 (a : Int) (k : Int) (by omega)
  have e : min ((k : Int).toNat) IntKind.u64.bits = k := by rw [Int.toNat_natCast]; show min k 64 = k; omega
  rw [e] at hs
  go_simp
theorem ex_and1 (ho : o.op = .binOp .and 22 x y 22) (ha : a < 18446744073709551616) (hx : ρ x = U a) (hy : ρ y = U 1) : (execOp ρ o).run Tryd.prog w = .ok (.value (U (a % 2))) w := by
  simp only [execOp, ho, hx, hy]
  clear ho hx hy
  have e := bits_and_u64_nat a 1 ha (by decide)
  rw [show a &&& 1 = a % 2 from Nat.and_one_is_mod a] at e
  go_simp
  exact e
end
end Lt
end Rg
end Go.Proofs.YtfnmahjdkmgdkaaDoor
end
section
namespace Go.Proofs.YtfnmahjdkmgdkaaDoor
open Go.RowKit
namespace Rg
namespace Lt
abbrev kd (p r c x y : Nat) : List Value := [U p, U r, U c, U x, U y, .bool false]
abbrev pt (x y : Nat) (z : Bool) : List Value := [U x, U y, .bool z]
abbrev tr (x y z : Nat) : List Value := [U x, U y, U z]
abbrev l2 (a b : Nat) : List Value := [U a, U b]
theorem ex_loadT {ρ : Operand → Value} {o : Oper} {x : Operand} {g off n : Nat} {t : TypeId} {cs ms : List Value} {w : World} {l : List (Nat × List Value)} (h : Mm w l) (q : Nat) (hk : l[q]? = some (g, cs)) (ho : o.op = .load t x) (hx : ρ x = PT g off) (ha : ∀ w, (isAgg t).run Tryd.prog w = .ok true w) (hs : ∀ w, (sizeOf t).run Tryd.prog w = .ok n w) (hc : (cs.drop off).take n = ms) (hl : ms.length = n) :
    (execOp ρ o).run Tryd.prog w = .ok (.value (.agg ms.toArray)) w := by
  have hm := List.mem_of_getElem? hk
  have hcell := run_loadCells_list (P := Tryd.prog) (w := w) ⟨g, off, none⟩ ms (fun j v hv => by
    have e : cs[off + j]? = some v := by
      rw [← List.getElem?_drop]
      rw [← hc, List.getElem?_take] at hv
      split at hv
      · exact hv
      · cases hv
    have e2 := h.cell hm e
    rw [show (⟨g, off, none⟩ : Addr).add j = ⟨g, off + j, none⟩ from by unfold Addr.add; split <;> simp_all]
    exact e2)
  rw [hl] at hcell
  have hf : (loadCellsFrom ⟨g, off, none⟩ 0 n #[]).run Tryd.prog w = .ok ms.toArray w := hcell
  clear hcell hc hk hm h
  simp only [execOp, ho, hx]
  go_simp
theorem ex_loadC {ρ : Operand → Value} {o : Oper} {x : Operand} {g off : Nat} {t : TypeId} {v : Value} {cs : List Value} {w : World} {l : List (Nat × List Value)} (h : Mm w l) (k : Nat) (hk : l[k]? = some (g, cs)) (ho : o.op = .load t x) (hx : ρ x = PT g off) (ha : ∀ w, (isAgg t).run Tryd.prog w = .ok false w) (hc : cs[off]? = some v) :
    (execOp ρ o).run Tryd.prog w = .ok (.value v) w := by
  have c0 := h.cell (List.mem_of_getElem? hk) hc
  clear h hk hc
  simp only [execOp, ho, hx]
  go_simp
theorem ex_boxT {ρ : Operand → Value} {o : Oper} {x : Operand} {t : TypeId} {cs : List Value} {w : World} (ho : o.op = .box t x) (hx : ρ x = .agg cs.toArray) :
    (execOp ρ o).run Tryd.prog w = .ok (.value (.pointer (some ⟨w.heap.size, 0, none⟩))) (w.alloc (.cells cs.toArray t)) := by
  simp only [execOp, ho, hx]
  go_simp
theorem ex_storeT {ρ : Operand → Value} {o : Oper} {x y : Operand} {g off : Nat} {t : TypeId} {cs vs : List Value} {w : World} {l : List (Nat × List Value)} (h : Mm w l) (q : Nat) (hk : l[q]? = some (g, cs)) (ho : o.op = .store t x y) (hx : ρ x = PT g off) (hy : ρ y = .agg vs.toArray) (hs : ∀ w, (sizeOf t).run Tryd.prog w = .ok vs.length w) (h1 : vs.all Value.oneCell' = true) (hb : off + vs.length ≤ cs.length) :
    (execOp ρ o).run Tryd.prog w = .ok .skip (w.setCells g off vs) := by
  have hm := List.mem_of_getElem? hk
  have hq : ∀ j, j < vs.length → ∃ u, cs[off + j]? = some u := fun j hj => ⟨_, List.getElem?_eq_getElem (by omega)⟩
  have hst := run_storeCells_cells (P := Tryd.prog) g off vs 0 w (fun j hj => by
    obtain ⟨u, hu⟩ := hq j hj
    rw [show off + 0 + j = off + j by omega, h.cell hm hu]; rfl) (fun j hj => by
    obtain ⟨u, hu⟩ := hq j hj
    rw [show off + 0 + j = off + j by omega]; exact h.free hm hu) (List.all_eq_true.1 h1)
  clear h hm hq hb hk
  simp only [execOp, ho, hx, hy]
  go_simp
theorem var_T {g n : Nat} {t : TypeId} {cs : List Value} {w : World} {l : List (Nat × List Value)} (h : Mm w l) (q : Nat) (hk : l[q]? = some (g, cs)) (ha : ∀ w, (isAgg t).run Tryd.prog w = .ok true w) (hs : ∀ w, (sizeOf t).run Tryd.prog w = .ok n w) (hn : cs.length = n) : (loadVar t ⟨g, 0, none⟩).run Tryd.prog w = .ok (.agg cs.toArray) w := by
  have hm := List.mem_of_getElem? hk
  have hcell := run_loadCells_list (P := Tryd.prog) (w := w) ⟨g, 0, none⟩ cs (fun j v hv => by
    have e2 := h.cell hm hv
    rw [show (⟨g, 0, none⟩ : Addr).add j = ⟨g, j, none⟩ from by unfold Addr.add; split <;> simp_all]
    exact e2)
  rw [hn] at hcell
  have hf : (loadCellsFrom ⟨g, 0, none⟩ 0 n #[]).run Tryd.prog w = .ok cs.toArray w := hcell
  clear hcell h hk hm
  simp only [loadVar]
  go_simp
theorem ex_laidT {ρ : Operand → Value} {o : Oper} {x y : Operand} {g : Nat} {t : TypeId} {zs cs : List Value} {w : World} (hb : Blk w g zs) (hl : zs.length = cs.length) (h1 : cs.all Value.oneCell' = true) (hs : ∀ w, (sizeOf t).run Tryd.prog w = .ok cs.length w) (ho : o.op = .store t x y) (hx : ρ x = .pointer (some ⟨g, 0, none⟩)) (hy : ρ y = .agg cs.toArray) :
    (execOp ρ o).run Tryd.prog w = .ok .skip (w.setCells g 0 cs) := by
  have hk : ∀ k, k < cs.length → ∃ u, zs[k]? = some u := fun k hk => ⟨_, List.getElem?_eq_getElem (by omega)⟩
  have hst := run_storeCells_cells (P := Tryd.prog) g 0 cs 0 w (fun k hkl => by
    obtain ⟨u, hu⟩ := hk k hkl
    rw [show 0 + 0 + k = k by omega, (hb k u hu).1]; rfl) (fun k hkl => by
    obtain ⟨u, hu⟩ := hk k hkl
    rw [show 0 + 0 + k = k by omega]; exact (hb k u hu).2) (List.all_eq_true.1 h1)
  clear hb hk h1 hl
  simp only [execOp, ho, hx, hy]
  go_simp
theorem ex_made72 {ρ : Operand → Value} {o : Oper} {w : World} (ho : o.op = .alloc 105) :
    (execOp ρ o).run Tryd.prog w = .ok (.value (.pointer (some ⟨w.heap.size, 0, none⟩))) (w.alloc (.cells (kd 0 0 0 0 0).toArray 105)) := by
  simp only [execOp, ho]
  go_simp
  rfl
theorem ex_made25 {ρ : Operand → Value} {o : Oper} {w : World} (ho : o.op = .alloc 64) :
    (execOp ρ o).run Tryd.prog w = .ok (.value (.pointer (some ⟨w.heap.size, 0, none⟩))) (w.alloc (.cells (pt 0 0 false).toArray 64)) := by
  simp only [execOp, ho]
  go_simp
  rfl
theorem ex_made77 {ρ : Operand → Value} {o : Oper} {w : World} (ho : o.op = .alloc 146) :
    (execOp ρ o).run Tryd.prog w = .ok (.value (.pointer (some ⟨w.heap.size, 0, none⟩))) (w.alloc (.cells (tr 0 0 0).toArray 146)) := by
  simp only [execOp, ho]
  go_simp
  rfl
theorem ex_build25_2 {ρ : Operand → Value} {o : Oper} {x2 : Operand} {b2 : Bool} {w : World} (ho : o.op = .build 64 #[(2, x2)]) (h2 : ρ x2 = .bool b2) : (execOp ρ o).run Tryd.prog w = .ok (.value (.agg (pt 0 0 b2).toArray)) w := by
  simp only [execOp, ho]
  go_simp
theorem ex_build25_01 {ρ : Operand → Value} {o : Oper} {x0 x1 : Operand} {a0 : Nat} {a1 : Nat} {w : World} (ho : o.op = .build 64 #[(0, x0), (1, x1)]) (h0 : ρ x0 = U a0) (h1 : ρ x1 = U a1) : (execOp ρ o).run Tryd.prog w = .ok (.value (.agg (pt a0 a1 false).toArray)) w := by
  simp only [execOp, ho]
  go_simp
theorem ex_build77_012 {ρ : Operand → Value} {o : Oper} {x0 x1 x2 : Operand} {a0 : Nat} {a1 : Nat} {a2 : Nat} {w : World} (ho : o.op = .build 146 #[(0, x0), (1, x1), (2, x2)]) (h0 : ρ x0 = U a0) (h1 : ρ x1 = U a1) (h2 : ρ x2 = U a2) : (execOp ρ o).run Tryd.prog w = .ok (.value (.agg (tr a0 a1 a2).toArray)) w := by
  simp only [execOp, ho]
  go_simp
theorem ex_build72_0123 {ρ : Operand → Value} {o : Oper} {x0 x1 x2 x3 : Operand} {a0 : Nat} {a1 : Nat} {a2 : Nat} {gx gy : Nat} {w : World} (ho : o.op = .build 105 #[(0, x0), (1, x1), (2, x2), (3, x3)]) (h0 : ρ x0 = U a0) (h1 : ρ x1 = U a1) (h2 : ρ x2 = U a2) (h3 : ρ x3 = V (pt gx gy false)) : (execOp ρ o).run Tryd.prog w = .ok (.value (.agg (kd a0 a1 a2 gx gy).toArray)) w := by
  simp only [execOp, ho]
  go_simp
theorem ex_field77_2 {ρ : Operand → Value} {o : Oper} {x : Operand} {a b c : Nat} {w : World} (ho : o.op = .field 146 x 2) (hx : ρ x = V (tr a b c)) (_h : (0 : Nat) = 0) : (execOp ρ o).run Tryd.prog w = .ok (.value (U c)) w := by
  simp only [execOp, ho, hx]
  kernel_rfl
theorem run_eqB (D : Nat) (a b : Bool) (w : World) : (Op.equalIn (D + 1) 4 (.bool a) (.bool b)).run Tryd.prog w = .ok (a == b) w := by
  simp only [Op.equalIn, Sem.run_bind, run_underlying (show Tryd.prog.underlying 4 = some .bool by kernel_rfl), Result.andThen_ok]
  rfl
theorem run_eqU (D a b : Nat) (w : World) : (Op.equalIn (D + 1) 22 (U a) (U b)).run Tryd.prog w = .ok (decide (a = b)) w := by
  rw [run_equalIn_int w D 22 .u64 .u64 a b (by kernel_rfl)]
  by_cases h : a = b <;> simp [h] <;> omega
set_option maxRecDepth 100000 in
theorem run_eqP' (D a b a' b' : Nat) (z z' p0 p1 p2 : Bool) (hi0 : ∀ w, (Op.equalIn D 22 (U a) (U a')).run Tryd.prog w = .ok p0 w) (hi1 : ∀ w, (Op.equalIn D 22 (U b) (U b')).run Tryd.prog w = .ok p1 w) (hi2 : ∀ w, (Op.equalIn D 4 (.bool z) (.bool z')).run Tryd.prog w = .ok p2 w) (w : World) :
    (Op.equalIn (D + 1) 64 (V (pt a b z)) (V (pt a' b' z'))).run Tryd.prog w = .ok (p0 && (p1 && p2)) w := by
  have hst : Tryd.prog.stoodInHeld 64 = false := by kernel_rfl
  have hp : ∀ (a b : Nat) (z : Bool) (w : World), (Go.part 22 (pt a b z).toArray 0).run Tryd.prog w = .ok (U a) w ∧ (Go.part 22 (pt a b z).toArray 1).run Tryd.prog w = .ok (U b) w ∧ (Go.part 4 (pt a b z).toArray 2).run Tryd.prog w = .ok (.bool z) w := fun a b z w => ⟨by kernel_rfl, by kernel_rfl, by kernel_rfl⟩
  have q1 := hp a b z
  have q2 := hp a' b' z'
  clear hp
  unfold V
  generalize (pt a b z).toArray = xs at *
  generalize (pt a' b' z').toArray = ys at *
  simp only [Op.equalIn, Sem.run_bind, run_underlying Tryd.underlying64, Result.andThen_ok]
  simp [hst, hi0, hi1, hi2, q1, q2]
  cases p0 <;> cases p1 <;> cases p2 <;> simp
theorem run_eqP (a b a' b' : Nat) (z z' : Bool) (w : World) : (Op.equalIn 10000 64 (V (pt a b z)) (V (pt a' b' z'))).run Tryd.prog w = .ok (decide (a = a') && (decide (b = b') && (z == z'))) w :=
  run_eqP' 9999 a b a' b' z z' _ _ _ (fun w => run_eqU 9998 a a' w) (fun w => run_eqU 9998 b b' w) (fun w => run_eqB 9998 z z' w) w
theorem exec_eqT25 {ρ : Operand → Value} {o : Oper} {x y : Operand} {v v' : Array Value} {t : Bool} {w : World} (he : ∀ w, (Op.equalIn 10000 64 (.agg v) (.agg v')).run Tryd.prog w = .ok t w) (ho : o.op = .binOp .eql 64 x y 64) (hx : ρ x = .agg v) (hy : ρ y = .agg v') :
    (execOp ρ o).run Tryd.prog w = .ok (.value (.bool t)) w := by
  simp only [execOp, ho, hx, hy]
  clear hx hy
  go_simp
end Lt
end Rg
end Go.Proofs.YtfnmahjdkmgdkaaDoor
end
section
namespace Go.Proofs.YtfnmahjdkmgdkaaDoor
open Go.RowKit
namespace Rg
namespace Lt
/-- What is known of a prime here. -/
structure Pr (p : Nat) : Prop where
  lo : 8 < p
  hi : p < 1152921504606846976
def tm (p a b : Nat) : Nat := a * b % p
def pl (p a b : Nat) : Nat := (a + b) % p
def mi (p a b : Nat) : Nat := (a + p - b) % p
theorem tm_lt {p a b : Nat} (hp : Pr p) : tm p a b < p := Nat.mod_lt _ (by have := hp.lo; omega)
theorem pl_lt {p a b : Nat} (hp : Pr p) : pl p a b < p := Nat.mod_lt _ (by have := hp.lo; omega)
theorem mi_lt {p a b : Nat} (hp : Pr p) : mi p a b < p := Nat.mod_lt _ (by have := hp.lo; omega)
theorem zero_lt {p : Nat} (hp : Pr p) : 0 < p := by have := hp.lo; omega
theorem one_lt {p : Nat} (hp : Pr p) : 1 < p := by have := hp.lo; omega
theorem pl_small {p a b : Nat} (h : a + b < p) : pl p a b = a + b := Nat.mod_eq_of_lt h
theorem pl_great {p a b : Nat} (ha : a < p) (hb : b < p) (h : ¬ a + b < p) : pl p a b = a + b - p := by
  unfold pl
  rw [Nat.mod_eq_sub_mod (by omega), Nat.mod_eq_of_lt (by omega)]
theorem mi_small {p a b : Nat} (ha : a < p) (h : b ≤ a) : mi p a b = a - b := by
  unfold mi
  rw [show a + p - b = (a - b) + p by omega, Nat.add_mod_right, Nat.mod_eq_of_lt (by omega)]
theorem mi_great {p a b : Nat} (hb : b < p) (h : ¬ b ≤ a) : mi p a b = a + p - b := Nat.mod_eq_of_lt (by omega)
theorem below_drew {w w' : World} (h : ∃ n, w' = w.drewN n) : Below w.heap.size w w' := by
  obtain ⟨n, rfl⟩ := h
  exact below_drewN (Below.refl _ _) n
theorem call128 : ∀ args w, (callFunc 128 args).run Tryd.prog w = .ok (.enter 128 args) w := by intro args w; go_simp
theorem call139 : ∀ args w, (callFunc 139 args).run Tryd.prog w = .ok (.enter 139 args) w := by intro args w; go_simp
theorem call122 : ∀ args w, (callFunc 122 args).run Tryd.prog w = .ok (.enter 122 args) w := by intro args w; go_simp
section
variable {p r c gx gy : Nat}
set_option maxRecDepth 100000 in
theorem plus_lo (hp : Pr p) (a b : Nat) (_ha : a < p) (_hb : b < p) (h : a + b < p) (w : World) :
    Calls Tryd.prog 139 #[.agg (kd p r c gx gy).toArray, U a, U b] w fun e w' => e = .returned (U (a + b)) ∧ Below w.heap.size w w' := by
  have H0 : Hid (_ ∧ _) := ⟨Mm.nil w, Below.refl w.heap.size w⟩
  go_enter Tryd.func139, Tryd.ntmps139
  refine wp_seq ?_
  refine walk_seqA 2 [.made (kd p r c gx gy) 105, .quiet (U 0)] (sB H0) ?ho1 ?he1
  case ho1 => exact ak (fun γ => ⟨rfl, fun w' => ex_boxT rfl rfl⟩) (ak (fun _ => ⟨rfl, fun _ _ => rfl⟩) trivial)
  intro γ w1 l hM hl
  have H1 : Hid (Mm w1 [(γ 0, kd p r c gx gy)] ∧ _) := growB H0 hM (Nat.le_refl _) hl [0] rfl (by decide)
  have o1_0 := ownB H0 hM (Nat.le_refl _) hl (i := 0) rfl
  clear hM hl l
  generalize γ 0 = γ1_0 at H1 o1_0 ⊢
  clear γ
  refine rest0 rfl (then_normal (wp_seq (wp_seq ?_)))
  refine walk_seqB 4 [.quiet (U a), .quiet (U b), .quiet (U (a + b)), .quiet (U (a + b))] H1 ?ho2 ?he2
  case ho2 => exact ak (fun _ => ⟨rfl, fun _ _ => rfl⟩) (ak (fun _ => ⟨rfl, fun _ _ => rfl⟩) (ak (fun γ => ⟨rfl, fun w' _ => ex_addU (by have := hp.hi; omega) rfl rfl rfl⟩) (ak (fun _ => ⟨rfl, fun _ _ => rfl⟩) trivial)))
  intro _ w2 H2
  clear H1
  refine rest0 rfl (then_normal (wp_seq ?_))
  refine walk_seqB 4 [.quiet (U (a + b)), .quiet (PT γ1_0 0), .quiet (U p), .quiet (.bool true)] H2 ?ho3 ?he3
  case ho3 => exact ak (fun _ => ⟨rfl, fun _ _ => rfl⟩) (ak (by refine fun γ => ⟨rfl, fun w' h => ?_⟩; clear h; go_simp) (ak (fun γ => ⟨rfl, fun w' h => ex_loadC h 0 rfl rfl rfl Tryd.isAgg22 rfl⟩) (ak (fun γ => ⟨rfl, fun w' _ => ex_ltU rfl rfl rfl (decide_eq_true (h))⟩) trivial)))
  intro _ w3 H3
  clear H2
  refine rest0 rfl (then_normal (wp_cond_true rfl (wp_seq ?_)))
  refine walk_seqB 2 [.quiet (U (a + b)), .quiet (U (a + b))] H3 ?ho4 ?he4
  case ho4 => exact ak (fun _ => ⟨rfl, fun _ _ => rfl⟩) (ak (fun _ => ⟨rfl, fun _ _ => rfl⟩) trivial)
  intro _ w4 H4
  clear H3
  refine rest0 rfl (then_normal (wp_ret ?_))
  repeat (first | refine then_ret ?_ | refine block_ret ?_)
  refine bodyPost_ret (v := U (a + b)) (by simp [results, Tryd.results139, go_sem, *]) rfl ?_
  exact ⟨rfl, H4.out.2⟩
set_option maxRecDepth 100000 in
theorem plus_hi (hp : Pr p) (a b : Nat) (ha : a < p) (hb : b < p) (h : ¬ a + b < p) (w : World) :
    Calls Tryd.prog 139 #[.agg (kd p r c gx gy).toArray, U a, U b] w fun e w' => e = .returned (U (a + b - p)) ∧ Below w.heap.size w w' := by
  have H0 : Hid (_ ∧ _) := ⟨Mm.nil w, Below.refl w.heap.size w⟩
  go_enter Tryd.func139, Tryd.ntmps139
  refine wp_seq ?_
  refine walk_seqA 2 [.made (kd p r c gx gy) 105, .quiet (U 0)] (sB H0) ?ho1 ?he1
  case ho1 => exact ak (fun γ => ⟨rfl, fun w' => ex_boxT rfl rfl⟩) (ak (fun _ => ⟨rfl, fun _ _ => rfl⟩) trivial)
  intro γ w1 l hM hl
  have H1 : Hid (Mm w1 [(γ 0, kd p r c gx gy)] ∧ _) := growB H0 hM (Nat.le_refl _) hl [0] rfl (by decide)
  have o1_0 := ownB H0 hM (Nat.le_refl _) hl (i := 0) rfl
  clear hM hl l
  generalize γ 0 = γ1_0 at H1 o1_0 ⊢
  clear γ
  refine rest0 rfl (then_normal (wp_seq (wp_seq ?_)))
  refine walk_seqB 4 [.quiet (U a), .quiet (U b), .quiet (U (a + b)), .quiet (U (a + b))] H1 ?ho2 ?he2
  case ho2 => exact ak (fun _ => ⟨rfl, fun _ _ => rfl⟩) (ak (fun _ => ⟨rfl, fun _ _ => rfl⟩) (ak (fun γ => ⟨rfl, fun w' _ => ex_addU (by have := hp.hi; omega) rfl rfl rfl⟩) (ak (fun _ => ⟨rfl, fun _ _ => rfl⟩) trivial)))
  intro _ w2 H2
  clear H1
  refine rest0 rfl (then_normal (wp_seq ?_))
  refine walk_seqB 4 [.quiet (U (a + b)), .quiet (PT γ1_0 0), .quiet (U p), .quiet (.bool false)] H2 ?ho3 ?he3
  case ho3 => exact ak (fun _ => ⟨rfl, fun _ _ => rfl⟩) (ak (by refine fun γ => ⟨rfl, fun w' h => ?_⟩; clear h; go_simp) (ak (fun γ => ⟨rfl, fun w' h => ex_loadC h 0 rfl rfl rfl Tryd.isAgg22 rfl⟩) (ak (fun γ => ⟨rfl, fun w' _ => ex_ltU rfl rfl rfl (decide_eq_false (h))⟩) trivial)))
  intro _ w3 H3
  clear H2
  refine rest0 rfl (then_normal (wp_cond_false rfl ?_))
  refine wp_skip (then_normal (wp_seq ?_))
  refine walk_seqB 7 [.quiet (U a), .quiet (U b), .quiet (U (a + b)), .quiet (PT γ1_0 0), .quiet (U p), .quiet (U (a + b - p)), .quiet (U (a + b - p))] H3 ?ho4 ?he4
  case ho4 => exact ak (fun _ => ⟨rfl, fun _ _ => rfl⟩) (ak (fun _ => ⟨rfl, fun _ _ => rfl⟩) (ak (fun γ => ⟨rfl, fun w' _ => ex_addU (by have := hp.hi; omega) rfl rfl rfl⟩) (ak (by refine fun γ => ⟨rfl, fun w' h => ?_⟩; clear h; go_simp) (ak (fun γ => ⟨rfl, fun w' h => ex_loadC h 0 rfl rfl rfl Tryd.isAgg22 rfl⟩) (ak (fun γ => ⟨rfl, fun w' _ => ex_subU (by omega) (by have := hp.hi; omega) rfl rfl rfl⟩) (ak (fun _ => ⟨rfl, fun _ _ => rfl⟩) trivial))))))
  intro _ w4 H4
  clear H3
  refine rest0 rfl (then_normal (wp_ret ?_))
  repeat (first | refine then_ret ?_ | refine block_ret ?_)
  refine bodyPost_ret (v := U (a + b - p)) (by simp [results, Tryd.results139, go_sem, *]) rfl ?_
  exact ⟨rfl, H4.out.2⟩
theorem plus_any (hp : Pr p) (a b : Nat) (ha : a < p) (hb : b < p) (w : World) : Calls Tryd.prog 139 #[.agg (kd p r c gx gy).toArray, U a, U b] w fun e w' => e = .returned (U (pl p a b)) ∧ Below w.heap.size w w' := by
  by_cases h : a + b < p
  · rw [pl_small h]; exact plus_lo hp a b ha hb h w
  · rw [pl_great ha hb h]; exact plus_hi hp a b ha hb h w
set_option maxRecDepth 100000 in
theorem minus_lo (hp : Pr p) (a b : Nat) (ha : a < p) (_hb : b < p) (h : b ≤ a) (w : World) :
    Calls Tryd.prog 140 #[.agg (kd p r c gx gy).toArray, U a, U b] w fun e w' => e = .returned (U (a - b)) ∧ Below w.heap.size w w' := by
  have H0 : Hid (_ ∧ _) := ⟨Mm.nil w, Below.refl w.heap.size w⟩
  go_enter Tryd.func140, Tryd.ntmps140
  refine wp_seq ?_
  refine walk_seqA 2 [.made (kd p r c gx gy) 105, .quiet (U 0)] (sB H0) ?ho1 ?he1
  case ho1 => exact ak (fun γ => ⟨rfl, fun w' => ex_boxT rfl rfl⟩) (ak (fun _ => ⟨rfl, fun _ _ => rfl⟩) trivial)
  intro γ w1 l hM hl
  have H1 : Hid (Mm w1 [(γ 0, kd p r c gx gy)] ∧ _) := growB H0 hM (Nat.le_refl _) hl [0] rfl (by decide)
  have o1_0 := ownB H0 hM (Nat.le_refl _) hl (i := 0) rfl
  clear hM hl l
  generalize γ 0 = γ1_0 at H1 o1_0 ⊢
  clear γ
  refine rest0 rfl (then_normal (wp_seq (wp_seq ?_)))
  refine walk_seqB 3 [.quiet (U a), .quiet (U b), .quiet (.bool true)] H1 ?ho2 ?he2
  case ho2 => exact ak (fun _ => ⟨rfl, fun _ _ => rfl⟩) (ak (fun _ => ⟨rfl, fun _ _ => rfl⟩) (ak (fun γ => ⟨rfl, fun w' _ => ex_geU rfl rfl rfl (decide_eq_true (h))⟩) trivial))
  intro _ w2 H2
  clear H1
  refine rest0 rfl (then_normal (wp_cond_true rfl (wp_seq ?_)))
  refine walk_seqB 4 [.quiet (U a), .quiet (U b), .quiet (U (a - b)), .quiet (U (a - b))] H2 ?ho3 ?he3
  case ho3 => exact ak (fun _ => ⟨rfl, fun _ _ => rfl⟩) (ak (fun _ => ⟨rfl, fun _ _ => rfl⟩) (ak (fun γ => ⟨rfl, fun w' _ => ex_subU (h) (by have := hp.hi; omega) rfl rfl rfl⟩) (ak (fun _ => ⟨rfl, fun _ _ => rfl⟩) trivial)))
  intro _ w3 H3
  clear H2
  refine rest0 rfl (then_normal (wp_ret ?_))
  repeat (first | refine then_ret ?_ | refine block_ret ?_)
  refine bodyPost_ret (v := U (a - b)) (by simp [results, Tryd.results140, go_sem, *]) rfl ?_
  exact ⟨rfl, H3.out.2⟩
set_option maxRecDepth 100000 in
theorem minus_hi (hp : Pr p) (a b : Nat) (_ha : a < p) (hb : b < p) (h : ¬ b ≤ a) (w : World) :
    Calls Tryd.prog 140 #[.agg (kd p r c gx gy).toArray, U a, U b] w fun e w' => e = .returned (U (a + p - b)) ∧ Below w.heap.size w w' := by
  have H0 : Hid (_ ∧ _) := ⟨Mm.nil w, Below.refl w.heap.size w⟩
  go_enter Tryd.func140, Tryd.ntmps140
  refine wp_seq ?_
  refine walk_seqA 2 [.made (kd p r c gx gy) 105, .quiet (U 0)] (sB H0) ?ho1 ?he1
  case ho1 => exact ak (fun γ => ⟨rfl, fun w' => ex_boxT rfl rfl⟩) (ak (fun _ => ⟨rfl, fun _ _ => rfl⟩) trivial)
  intro γ w1 l hM hl
  have H1 : Hid (Mm w1 [(γ 0, kd p r c gx gy)] ∧ _) := growB H0 hM (Nat.le_refl _) hl [0] rfl (by decide)
  have o1_0 := ownB H0 hM (Nat.le_refl _) hl (i := 0) rfl
  clear hM hl l
  generalize γ 0 = γ1_0 at H1 o1_0 ⊢
  clear γ
  refine rest0 rfl (then_normal (wp_seq (wp_seq ?_)))
  refine walk_seqB 3 [.quiet (U a), .quiet (U b), .quiet (.bool false)] H1 ?ho2 ?he2
  case ho2 => exact ak (fun _ => ⟨rfl, fun _ _ => rfl⟩) (ak (fun _ => ⟨rfl, fun _ _ => rfl⟩) (ak (fun γ => ⟨rfl, fun w' _ => ex_geU rfl rfl rfl (decide_eq_false (h))⟩) trivial))
  intro _ w2 H2
  clear H1
  refine rest0 rfl (then_normal (wp_cond_false rfl ?_))
  refine wp_skip (then_normal (wp_seq ?_))
  refine walk_seqB 7 [.quiet (U a), .quiet (PT γ1_0 0), .quiet (U p), .quiet (U (a + p)), .quiet (U b), .quiet (U (a + p - b)), .quiet (U (a + p - b))] H2 ?ho3 ?he3
  case ho3 => exact ak (fun _ => ⟨rfl, fun _ _ => rfl⟩) (ak (by refine fun γ => ⟨rfl, fun w' h => ?_⟩; clear h; go_simp) (ak (fun γ => ⟨rfl, fun w' h => ex_loadC h 0 rfl rfl rfl Tryd.isAgg22 rfl⟩) (ak (fun γ => ⟨rfl, fun w' _ => ex_addU (by have := hp.hi; omega) rfl rfl rfl⟩) (ak (fun _ => ⟨rfl, fun _ _ => rfl⟩) (ak (fun γ => ⟨rfl, fun w' _ => ex_subU (by omega) (by have := hp.hi; omega) rfl rfl rfl⟩) (ak (fun _ => ⟨rfl, fun _ _ => rfl⟩) trivial))))))
  intro _ w3 H3
  clear H2
  refine rest0 rfl (then_normal (wp_ret ?_))
  repeat (first | refine then_ret ?_ | refine block_ret ?_)
  refine bodyPost_ret (v := U (a + p - b)) (by simp [results, Tryd.results140, go_sem, *]) rfl ?_
  exact ⟨rfl, H3.out.2⟩
theorem minus_any (hp : Pr p) (a b : Nat) (ha : a < p) (hb : b < p) (w : World) : Calls Tryd.prog 140 #[.agg (kd p r c gx gy).toArray, U a, U b] w fun e w' => e = .returned (U (mi p a b)) ∧ Below w.heap.size w w' := by
  by_cases h : b ≤ a
  · rw [mi_small ha h]; exact minus_lo hp a b ha hb h w
  · rw [mi_great hb h]; exact minus_hi hp a b ha hb h w
theorem mul_in (a b : Nat) (ha : a < 18446744073709551616) (hb : b < 18446744073709551616) (w : World) : Calls Tryd.prog 68 #[U a, U b] w fun e w' => e = .returned (.tuple #[U (a * b / 18446744073709551616), U (a * b % 18446744073709551616)]) ∧ Below w.heap.size w w' :=
  Calls.mono (mul64N a b ha hb w) (fun e w' h => ⟨h.1, by rw [h.2]; exact Below.refl _ _⟩)
theorem rem_in (hp : Pr p) (n : Nat) (w : World) : Calls Tryd.prog 122 #[U (n / 18446744073709551616), U (n % 18446744073709551616), U p] w fun e w' => e = .returned (U (n % p)) ∧ Below w.heap.size w w' := by
  have h := rem64_any (n / 18446744073709551616) (n % 18446744073709551616) p (zero_lt hp) (by have := hp.hi; omega) (Nat.mod_lt _ (by decide)) w
  rw [show n / 18446744073709551616 * 18446744073709551616 + n % 18446744073709551616 = n from Nat.div_add_mod' n _] at h
  exact Calls.mono h (fun e w' h => ⟨h.1, below_drew h.2⟩)
set_option maxRecDepth 100000 in
theorem times_any (hp : Pr p) (a b : Nat) (ha : a < p) (hb : b < p) (w : World) :
    Calls Tryd.prog 128 #[.agg (kd p r c gx gy).toArray, U a, U b] w fun e w' => e = .returned (U (tm p a b)) ∧ Below w.heap.size w w' := by
  have H0 : Hid (_ ∧ _) := ⟨Mm.nil w, Below.refl w.heap.size w⟩
  go_enter Tryd.func128, Tryd.ntmps128
  refine wp_seq ?_
  refine walk_seqA 2 [.made (kd p r c gx gy) 105, .quiet (U 0)] (sB H0) ?ho1 ?he1
  case ho1 => exact ak (fun γ => ⟨rfl, fun w' => ex_boxT rfl rfl⟩) (ak (fun _ => ⟨rfl, fun _ _ => rfl⟩) trivial)
  intro γ w1 l hM hl
  have H1 : Hid (Mm w1 [(γ 0, kd p r c gx gy)] ∧ _) := growB H0 hM (Nat.le_refl _) hl [0] rfl (by decide)
  have o1_0 := ownB H0 hM (Nat.le_refl _) hl (i := 0) rfl
  clear hM hl l
  generalize γ 0 = γ1_0 at H1 o1_0 ⊢
  clear γ
  refine rest0 rfl (then_normal (wp_seq ?_))
  refine walk_seqB 8 [.quiet (U a), .quiet (U b), .call (.tuple #[U (a * b / 18446744073709551616), U (a * b % 18446744073709551616)]), .quiet (.tuple #[U (a * b / 18446744073709551616), U (a * b % 18446744073709551616)]), .quiet (U (a * b / 18446744073709551616)), .quiet (U (a * b % 18446744073709551616)), .quiet (U (a * b / 18446744073709551616)), .quiet (U (a * b % 18446744073709551616))] H1 ?ho2 ?he2
  case ho2 => exact ak (fun _ => ⟨rfl, fun _ _ => rfl⟩) (ak (fun _ => ⟨rfl, fun _ _ => rfl⟩) (ak (fun γ => ⟨rfl, fun w' h => ⟨68, #[U a, U b], exec_call rfl call68 rfl (mpn rfl), mul_in a b (by have := hp.hi; omega) (by have := hp.hi; omega) w'⟩⟩) (ak (fun _ => ⟨rfl, fun _ _ => rfl⟩) (ak (by refine fun γ => ⟨rfl, fun w' h => ?_⟩; clear h; go_simp) (ak (by refine fun γ => ⟨rfl, fun w' h => ?_⟩; clear h; go_simp) (ak (fun _ => ⟨rfl, fun _ _ => rfl⟩) (ak (fun _ => ⟨rfl, fun _ _ => rfl⟩) trivial)))))))
  intro _ w2 H2
  clear H1
  refine rest0 rfl (then_normal (wp_seq ?_))
  refine walk_seqB 6 [.quiet (U (a * b / 18446744073709551616)), .quiet (U (a * b % 18446744073709551616)), .quiet (PT γ1_0 0), .quiet (U p), .call (U (a * b % p)), .quiet (U (a * b % p))] H2 ?ho3 ?he3
  case ho3 => exact ak (fun _ => ⟨rfl, fun _ _ => rfl⟩) (ak (fun _ => ⟨rfl, fun _ _ => rfl⟩) (ak (by refine fun γ => ⟨rfl, fun w' h => ?_⟩; clear h; go_simp) (ak (fun γ => ⟨rfl, fun w' h => ex_loadC h 0 rfl rfl rfl Tryd.isAgg22 rfl⟩) (ak (fun γ => ⟨rfl, fun w' h => ⟨122, #[U (a * b / 18446744073709551616), U (a * b % 18446744073709551616), U p], exec_call rfl call122 rfl (mpn rfl), rem_in hp (a * b) w'⟩⟩) (ak (fun _ => ⟨rfl, fun _ _ => rfl⟩) trivial)))))
  intro _ w3 H3
  clear H2
  refine rest0 rfl (then_normal (wp_ret ?_))
  repeat (first | refine then_ret ?_ | refine block_ret ?_)
  refine bodyPost_ret (v := U (a * b % p)) (by simp [results, Tryd.results128, go_sem, *]) rfl ?_
  exact ⟨rfl, H3.out.2⟩
/-- X X X + X -/
def cb (p x : Nat) : Nat := tm p x (pl p (tm p x x) 1)
set_option maxRecDepth 100000 in
theorem cube_any (hp : Pr p) (x : Nat) (hx : x < p) (w : World) :
    Calls Tryd.prog 129 #[.agg (kd p r c gx gy).toArray, U x] w fun e w' => e = .returned (U (cb p x)) ∧ Below w.heap.size w w' := by
  have H0 : Hid (_ ∧ _) := ⟨Mm.nil w, Below.refl w.heap.size w⟩
  go_enter Tryd.func129, Tryd.ntmps129
  refine wp_seq ?_
  refine walk_seqA 2 [.made (kd p r c gx gy) 105, .quiet (U 0)] (sB H0) ?ho1 ?he1
  case ho1 => exact ak (fun γ => ⟨rfl, fun w' => ex_boxT rfl rfl⟩) (ak (fun _ => ⟨rfl, fun _ _ => rfl⟩) trivial)
  intro γ w1 l hM hl
  have H1 : Hid (Mm w1 [(γ 0, kd p r c gx gy)] ∧ _) := growB H0 hM (Nat.le_refl _) hl [0] rfl (by decide)
  have o1_0 := ownB H0 hM (Nat.le_refl _) hl (i := 0) rfl
  clear hM hl l
  generalize γ 0 = γ1_0 at H1 o1_0 ⊢
  clear γ
  refine rest0 rfl (then_normal (wp_seq ?_))
  refine walk_anyB 10 [.quiet (.agg (kd p r c gx gy).toArray), .quiet (U x), .quiet (.agg (kd p r c gx gy).toArray), .quiet (.agg (kd p r c gx gy).toArray), .quiet (U x), .quiet (U x), .call (U (tm p x x)), .call (U (pl p (tm p x x) 1)), .call (U (tm p x (pl p (tm p x x) 1))), .quiet (U (tm p x (pl p (tm p x x) 1)))] H1 ?ho2 ?he2
  case ho2 => exact ak (fun γ => ⟨rfl, fun w' h => ex_loadT h 0 rfl rfl rfl Tryd.isAgg105 Tryd.sizeOf105 rfl rfl⟩) (ak (fun _ => ⟨rfl, fun _ _ => rfl⟩) (ak (fun γ => ⟨rfl, fun w' h => ex_loadT h 0 rfl rfl rfl Tryd.isAgg105 Tryd.sizeOf105 rfl rfl⟩) (ak (fun γ => ⟨rfl, fun w' h => ex_loadT h 0 rfl rfl rfl Tryd.isAgg105 Tryd.sizeOf105 rfl rfl⟩) (ak (fun _ => ⟨rfl, fun _ _ => rfl⟩) (ak (fun _ => ⟨rfl, fun _ _ => rfl⟩) (ak (fun γ => ⟨rfl, fun w' h => ⟨128, #[.agg (kd p r c gx gy).toArray, U x, U x], exec_call rfl call128 rfl (mpn rfl), times_any hp x x hx hx w'⟩⟩) (ak (fun γ => ⟨rfl, fun w' h => ⟨139, #[.agg (kd p r c gx gy).toArray, U (tm p x x), U 1], exec_call rfl call139 rfl (mpn rfl), plus_any hp (tm p x x) 1 (tm_lt hp) (one_lt hp) w'⟩⟩) (ak (fun γ => ⟨rfl, fun w' h => ⟨128, #[.agg (kd p r c gx gy).toArray, U x, U (pl p (tm p x x) 1)], exec_call rfl call128 rfl (mpn rfl), times_any hp x (pl p (tm p x x) 1) hx (pl_lt hp) w'⟩⟩) (ak (fun _ => ⟨rfl, fun _ _ => rfl⟩) trivial)))))))))
  intro _ w2 H2
  clear H1
  refine rest0 rfl (then_normal (wp_ret ?_))
  repeat (first | refine then_ret ?_ | refine block_ret ?_)
  refine bodyPost_ret (v := U (tm p x (pl p (tm p x x) 1))) (by simp [results, Tryd.results129, go_sem, *]) rfl ?_
  exact ⟨rfl, H2.out.2⟩
end
end Lt
end Rg
end Go.Proofs.YtfnmahjdkmgdkaaDoor
end
section
namespace Go.Proofs.YtfnmahjdkmgdkaaDoor
open Go.RowKit
namespace Rg
namespace Lt
def slotfn (l : List Value) (d : Nat) : Value := l.getD d undef
/-- A number's power, by p. -/
def pw (p a n : Nat) : Nat := a ^ n % p
def rb (p a : Nat) : Nat := pw p a ((p + 1) / 4)
theorem call140 : ∀ args w, (callFunc 140 args).run Tryd.prog w = .ok (.enter 140 args) w := by intro args w; go_simp
theorem call129 : ∀ args w, (callFunc 129 args).run Tryd.prog w = .ok (.enter 129 args) w := by intro args w; go_simp
section
variable {p r c gx gy : Nat}
end
end Lt
end Rg
end Go.Proofs.YtfnmahjdkmgdkaaDoor
end
