/- Texts of the proof, joined. -/
import Derived.Test.YtjmbgchoioepjaaP3
import Derived.MapKept
section
namespace Go.Proofs.Ytjmbgchoioepjaa
open Go.RowKit
namespace Rg
/-- Two points' cells. -/
abbrev p2 (a b : Nat) (z : Bool) (a' b' : Nat) (z' : Bool) : List Value := [U a, U b, .bool z, U a', U b', .bool z']
theorem rounds_in {P : Program} {c : Code} {Q : Exit → Act → World → Prop} {n : Nat} {a : Act} {w : World} (h : c.wp P (Exit.then (Code.rounds P c Q n) Q) a w) : Code.rounds P c Q (n + 1) a w := h
theorem ex_bs1 {ρ : Operand → Value} {o : Oper} {x : Operand} {a b : Nat} {z : Bool} {w : World} (ho : o.op = .buildSlice 92 1 #[(0, x)]) (hx : ρ x = V (pt a b z)) :
    (execOp ρ o).run Try.prog w = .ok (.value (.slice (some ⟨w.heap.size, 0, none⟩) 1 1)) (w.alloc (.cells (pt a b z).toArray 25)) := by
  simp only [execOp, ho, List.map_toArray, List.map_cons, List.map_nil, hx]
  kernel_rfl
theorem ex_bs2 {ρ : Operand → Value} {o : Oper} {x y : Operand} {a b a' b' : Nat} {z z' : Bool} {w : World} (ho : o.op = .buildSlice 92 2 #[(0, x), (1, y)]) (hx : ρ x = V (pt a b z)) (hy : ρ y = V (pt a' b' z')) :
    (execOp ρ o).run Try.prog w = .ok (.value (.slice (some ⟨w.heap.size, 0, none⟩) 2 2)) (w.alloc (.cells (p2 a b z a' b' z').toArray 25)) := by
  simp only [execOp, ho, List.map_toArray, List.map_cons, List.map_nil, hx, hy]
  kernel_rfl
/-- What a suite is. -/
structure Kd (s : Int) (p r c gx gy : Nat) : Prop where
  pr : Pr p
  rb : r < 18446744073709551616
  cb : c < 18446744073709551616
  kind : ∀ w, Calls Try.prog 42 #[.int .i64 s] w fun e w' => e = .returned (.tuple #[V (kd p r c gx gy), .int .i64 0]) ∧ Below w.heap.size w w'
theorem kd_1 : Kd 1 786251 65521 12 9723 164643 := ⟨⟨by decide, by decide⟩, by decide, by decide, kindOf_1⟩
theorem kd_2 : Kd 2 1152921504606846223 72057594037927889 16 613740293506734924 666621259561003659 := ⟨⟨by decide, by decide⟩, by decide, by decide, kindOf_2⟩
theorem tO_lt {p X Y : Nat} {Z : Bool} (hp : Pr p) (hX : X < p) (hY : Y < p) : Lt3 p (tO X Y Z) := by
  unfold tO
  split
  · exact ⟨zero_lt hp, zero_lt hp, zero_lt hp⟩
  · exact ⟨hX, hY, one_lt hp⟩
theorem call42 : ∀ args w, (callFunc 42 args).run Try.prog w = .ok (.enter 42 args) w := by intro args w; go_simp
theorem call43 : ∀ args w, (callFunc 43 args).run Try.prog w = .ok (.enter 43 args) w := by intro args w; go_simp
theorem call46 : ∀ args w, (callFunc 46 args).run Try.prog w = .ok (.enter 46 args) w := by intro args w; go_simp
theorem call51 : ∀ args w, (callFunc 51 args).run Try.prog w = .ok (.enter 51 args) w := by intro args w; go_simp
section
variable {s : Int} {p r c gx gy : Nat}
set_option maxHeartbeats 1000000 in
set_option maxRecDepth 100000 in
theorem kw1_ok (k : Kd s p r c gx gy) (X Y : Nat) (Z : Bool) (h1 : oc p X Y Z = true) (g : Nat) (w : World) (hm : Mm w [(g, pt X Y Z)]) :
    Calls Try.prog 43 #[.int .i64 s, .slice (some ⟨g, 0, none⟩) 1 1] w fun e w' => e = .returned (.tuple #[V (kd p r c gx gy), .int .i64 0]) ∧ Below w.heap.size w w' := by
  have H0 : Hid (_ ∧ _) := ⟨hm, Below.refl w.heap.size w⟩
  clear hm
  go_enter Try.func43, Try.ntmps43
  refine wp_seq ?_
  refine walk_seqA 2 [.made (kd 0 0 0 0 0) 72, .quiet (.int .i64 0)] (sB H0) ?ho1 ?he1
  case ho1 => exact ak (fun γ => ⟨rfl, fun w' => ex_made72 rfl⟩) (ak (fun _ => ⟨rfl, fun _ _ => rfl⟩) trivial)
  intro γ w1 l hM hl
  have H1 : Hid (Mm w1 [(γ 0, kd 0 0 0 0 0), (g, pt X Y Z)] ∧ _) := growB H0 hM (Nat.le_refl _) hl [0] rfl (by decide)
  have o1_0 := ownB H0 hM (Nat.le_refl _) hl (i := 0) rfl
  clear hM hl l
  generalize γ 0 = γ1_0 at H1 o1_0 ⊢
  clear γ
  refine rest0 rfl (then_normal (wp_seq ?_))
  refine walk_seqA 8 [.quiet (.int .i64 s), .call (.tuple #[.agg (kd p r c gx gy).toArray, .int .i64 0]), .quiet (.tuple #[.agg (kd p r c gx gy).toArray, .int .i64 0]), .quiet (.agg (kd p r c gx gy).toArray), .quiet (.int .i64 0), .made (kd 0 0 0 0 0) 72, .laid 5 (kd 0 0 0 0 0) (kd p r c gx gy), .quiet (.int .i64 0)] (sB H1) ?ho2 ?he2 (hL := ?hL2)
  case hL2 => exact ⟨⟨_, rfl⟩, trivial⟩
  case ho2 => exact ak (fun _ => ⟨rfl, fun _ _ => rfl⟩) (ak (fun γ => ⟨rfl, fun w' h => ⟨42, #[.int .i64 s], exec_call rfl call42 rfl (mpn rfl), k.kind w'⟩⟩) (ak (fun _ => ⟨rfl, fun _ _ => rfl⟩) (ak (by refine fun γ => ⟨rfl, fun w' h => ?_⟩; clear h; go_simp) (ak (by refine fun γ => ⟨rfl, fun w' h => ?_⟩; clear h; go_simp) (ak (fun γ => ⟨rfl, fun w' => ex_made72 rfl⟩) (ak (fun γ => ⟨rfl, rfl, rfl, fun w' h => ex_laidT h rfl rfl Try.sizeOf72 rfl rfl rfl⟩) (ak (fun _ => ⟨rfl, fun _ _ => rfl⟩) trivial)))))))
  intro γ w2 l hM hl
  have H2 : Hid (Mm w2 [(γ 5, kd p r c gx gy), (γ1_0, kd 0 0 0 0 0), (g, pt X Y Z)] ∧ _) := growB H1 hM (Nat.le_refl _) hl [5] rfl (by decide)
  have o2_5 := ownB H1 hM (Nat.le_refl _) hl (i := 5) rfl
  clear hM hl l H1
  generalize γ 5 = γ2_5 at H2 o2_5 ⊢
  clear γ
  refine rest0 rfl (then_normal (wp_seq (wp_seq ?_)))
  refine walk_seqB 2 [.quiet (.int .i64 0), .quiet (.bool false)] H2 ?ho3 ?he3
  case ho3 => exact ak (fun _ => ⟨rfl, fun _ _ => rfl⟩) (ak (by refine fun γ => ⟨rfl, fun w' h => ?_⟩; clear h; go_simp) trivial)
  intro _ w3 H3
  clear H2
  refine rest0 rfl (then_normal (wp_cond_false rfl ?_))
  refine wp_skip (then_normal ?_)
  refine wp_seq (wp_seq ?_)
  refine walk_seqB 3 [.quiet (.slice (some ⟨g, 0, none⟩) 1 1), .quiet (.int .i64 1), .quiet (.int .i64 0)] H3 ?ho4 ?he4
  case ho4 => exact ak (fun _ => ⟨rfl, fun _ _ => rfl⟩) (ak (by refine fun γ => ⟨rfl, fun w' h => ?_⟩; clear h; go_simp) (ak (fun _ => ⟨rfl, fun _ _ => rfl⟩) trivial))
  intro _ w4 H4
  clear H3
  refine rest0 rfl (then_normal (wp_block ?_))
  refine wp_loop_rounds 2 ?_
  refine rounds_in (n := 1) ?_
  refine wp_seq ?_
  refine walk_seqB 1 [.quiet (.bool true)] H4 ?ho5 ?he5
  case ho5 => exact ak (by refine fun γ => ⟨rfl, fun w' h => ?_⟩; clear h; go_simp) trivial
  intro _ w5 H5
  clear H4
  refine rest0 rfl (then_normal (wp_seq ?_))
  refine wp_cond_true rfl (wp_skip ?_)
  refine then_normal (wp_seq ?_)
  refine wp_block (wp_seq ?_)
  refine walk_seqA 4 [.quiet (PT g 0), .quiet (.agg (pt X Y Z).toArray), .made (pt 0 0 false) 25, .laid 2 (pt 0 0 false) (pt X Y Z)] (sB H5) ?ho6 ?he6 (hL := ?hL6)
  case hL6 => exact ⟨⟨_, rfl⟩, trivial⟩
  case ho6 => exact ak (by refine fun γ => ⟨rfl, fun w' h => ?_⟩; clear h; go_simp) (ak (fun γ => ⟨rfl, fun w' h => ex_loadT h 2 rfl rfl rfl Try.isAgg25 Try.sizeOf25 rfl rfl⟩) (ak (fun γ => ⟨rfl, fun w' => ex_made25 rfl⟩) (ak (fun γ => ⟨rfl, rfl, rfl, fun w' h => ex_laidT h rfl rfl Try.sizeOf25 rfl rfl rfl⟩) trivial)))
  intro γ w6 l hM hl
  have H6 : Hid (Mm w6 [(γ 2, pt X Y Z), (γ2_5, kd p r c gx gy), (γ1_0, kd 0 0 0 0 0), (g, pt X Y Z)] ∧ _) := growB H5 hM (Nat.le_refl _) hl [2] rfl (by decide)
  have o6_2 := ownB H5 hM (Nat.le_refl _) hl (i := 2) rfl
  clear hM hl l H5
  generalize γ 2 = γ6_2 at H6 o6_2 ⊢
  clear γ
  refine rest0 rfl (then_normal (wp_seq ?_))
  refine walk_seqB 4 [.quiet (.agg (kd p r c gx gy).toArray), .quiet (.agg (pt X Y Z).toArray), .call (.bool true), .quiet (.bool false)] H6 ?ho7 ?he7
  case ho7 => exact ak (fun γ => ⟨rfl, fun w' h => ex_loadT h 1 rfl rfl rfl Try.isAgg72 Try.sizeOf72 rfl rfl⟩) (ak (fun γ => ⟨rfl, fun w' h => ex_loadT h 0 rfl rfl rfl Try.isAgg25 Try.sizeOf25 rfl rfl⟩) (ak (fun γ => ⟨rfl, fun w' h => ⟨50, #[.agg (kd p r c gx gy).toArray, .agg (pt X Y Z).toArray], exec_call rfl call50 rfl (mpn rfl), on_is k.pr X Y Z _ h1 w'⟩⟩) (ak (by refine fun γ => ⟨rfl, fun w' h => ?_⟩; clear h; go_simp) trivial)))
  intro _ w7 H7
  clear H6
  refine rest0 rfl (then_normal (wp_cond_false rfl ?_))
  refine wp_skip (block_normal (then_normal ?_))
  refine walk_seqB 1 [.quiet (.int .i64 1)] H7 ?ho8 ?he8
  case ho8 => exact ak (fun γ => ⟨rfl, fun w' _ => by kernel_rfl⟩) trivial
  intro _ w8 H8
  clear H7
  refine rest_at (l := [1]) rfl ?_
  refine rest_set (d := 21) rfl rfl rfl rfl ?_
  simp only [Act.put, sa, sz, ss]
  refine rest_nil (then_normal ?_)
  refine rounds_in (n := 0) ?_
  refine wp_seq ?_
  refine walk_seqB 1 [.quiet (.bool false)] H8 ?ho9 ?he9
  case ho9 => exact ak (by refine fun γ => ⟨rfl, fun w' h => ?_⟩; clear h; go_simp) trivial
  intro _ w9 H9
  clear H8
  refine rest0 rfl (then_normal (wp_seq (wp_cond_false rfl ?_)))
  refine wp_exit ?_
  repeat refine then_exit ?_
  refine block_exit ?_
  refine then_normal (wp_seq ?_)
  refine walk_seqB 1 [.quiet (.agg (kd p r c gx gy).toArray)] H9 ?ho10 ?he10
  case ho10 => exact ak (fun γ => ⟨rfl, fun w' h => ex_loadT h 1 rfl rfl rfl Try.isAgg72 Try.sizeOf72 rfl rfl⟩) trivial
  intro _ w10 H10
  clear H9
  refine rest_at (l := [1, 2]) rfl ?_
  refine rest_store rfl rfl rfl (ex_storeT (vs := kd p r c gx gy) H10.out.1 2 rfl rfl rfl rfl Try.sizeOf72 rfl (Nat.le_of_ble_eq_true rfl)) ?_
  have H11 : Hid (Mm (w10.setCells γ1_0 0 (kd p r c gx gy)) [(γ6_2, pt X Y Z), (γ2_5, kd p r c gx gy), (γ1_0, kd p r c gx gy), (g, pt X Y Z)] ∧ Below w.heap.size w (w10.setCells γ1_0 0 (kd p r c gx gy))) := ⟨H10.out.1.put 2 (off := 0) (vs := kd p r c gx gy) rfl (Nat.le_of_ble_eq_true rfl), below_setCells _ o1_0.out _ _ _ H10.out.2⟩
  clear H10
  generalize hgw : World.setCells _ _ _ _ = w11 at H11 ⊢
  clear hgw
  refine rest_set (d := 5) rfl rfl rfl rfl ?_
  simp only [Act.put, sa, sz, ss]
  refine rest_nil (then_normal (wp_ret ?_))
  repeat (first | refine then_ret ?_ | refine block_ret ?_)
  have hf0 := var_T H11.out.1 2 rfl Try.isAgg72 Try.sizeOf72 rfl
  refine bodyPost_ret (v := .tuple #[.agg (kd p r c gx gy).toArray, .int .i64 0]) (by simp [results, Try.results43, asAddr, Act.eval, hf0]) rfl ?_
  exact ⟨rfl, H11.out.2⟩
set_option maxRecDepth 100000 in
theorem kw_arg (s : Int) (h1 : s ≠ 1) (h2 : s ≠ 2) (v : Value) (w : World) :
    Calls Try.prog 43 #[.int .i64 s, v] w fun e w' => e = .returned (.tuple #[V (kd 0 0 0 0 0), .int .i64 2]) ∧ Below w.heap.size w w' := by
  have H0 : Hid (_ ∧ _) := ⟨Mm.nil w, Below.refl w.heap.size w⟩
  go_enter Try.func43, Try.ntmps43
  refine wp_seq ?_
  refine walk_seqA 2 [.made (kd 0 0 0 0 0) 72, .quiet (.int .i64 0)] (sB H0) ?ho1 ?he1
  case ho1 => exact ak (fun γ => ⟨rfl, fun w' => ex_made72 rfl⟩) (ak (fun _ => ⟨rfl, fun _ _ => rfl⟩) trivial)
  intro γ w1 l hM hl
  have H1 : Hid (Mm w1 [(γ 0, kd 0 0 0 0 0)] ∧ _) := growB H0 hM (Nat.le_refl _) hl [0] rfl (by decide)
  have o1_0 := ownB H0 hM (Nat.le_refl _) hl (i := 0) rfl
  clear hM hl l
  generalize γ 0 = γ1_0 at H1 o1_0 ⊢
  clear γ
  refine rest0 rfl (then_normal (wp_seq ?_))
  refine walk_seqA 8 [.quiet (.int .i64 s), .call (.tuple #[.agg (kd 0 0 0 0 0).toArray, .int .i64 2]), .quiet (.tuple #[.agg (kd 0 0 0 0 0).toArray, .int .i64 2]), .quiet (.agg (kd 0 0 0 0 0).toArray), .quiet (.int .i64 2), .made (kd 0 0 0 0 0) 72, .laid 5 (kd 0 0 0 0 0) (kd 0 0 0 0 0), .quiet (.int .i64 2)] (sB H1) ?ho2 ?he2 (hL := ?hL2)
  case hL2 => exact ⟨⟨_, rfl⟩, trivial⟩
  case ho2 => exact ak (fun _ => ⟨rfl, fun _ _ => rfl⟩) (ak (fun γ => ⟨rfl, fun w' h => ⟨42, #[.int .i64 s], exec_call rfl call42 rfl (mpn rfl), kindOf_no s h1 h2 w'⟩⟩) (ak (fun _ => ⟨rfl, fun _ _ => rfl⟩) (ak (by refine fun γ => ⟨rfl, fun w' h => ?_⟩; clear h; go_simp) (ak (by refine fun γ => ⟨rfl, fun w' h => ?_⟩; clear h; go_simp) (ak (fun γ => ⟨rfl, fun w' => ex_made72 rfl⟩) (ak (fun γ => ⟨rfl, rfl, rfl, fun w' h => ex_laidT h rfl rfl Try.sizeOf72 rfl rfl rfl⟩) (ak (fun _ => ⟨rfl, fun _ _ => rfl⟩) trivial)))))))
  intro γ w2 l hM hl
  have H2 : Hid (Mm w2 [(γ 5, kd 0 0 0 0 0), (γ1_0, kd 0 0 0 0 0)] ∧ _) := growB H1 hM (Nat.le_refl _) hl [5] rfl (by decide)
  have o2_5 := ownB H1 hM (Nat.le_refl _) hl (i := 5) rfl
  clear hM hl l H1
  generalize γ 5 = γ2_5 at H2 o2_5 ⊢
  clear γ
  refine rest0 rfl (then_normal (wp_seq (wp_seq ?_)))
  refine walk_seqB 2 [.quiet (.int .i64 2), .quiet (.bool true)] H2 ?ho3 ?he3
  case ho3 => exact ak (fun _ => ⟨rfl, fun _ _ => rfl⟩) (ak (by refine fun γ => ⟨rfl, fun w' h => ?_⟩; clear h; go_simp) trivial)
  intro _ w3 H3
  clear H2
  refine rest0 rfl (then_normal (wp_cond_true rfl (wp_seq ?_)))
  refine walk_seqB 2 [.quiet (.agg (kd 0 0 0 0 0).toArray), .quiet (.int .i64 2)] H3 ?ho4 ?he4
  case ho4 => exact ak (fun γ => ⟨rfl, fun w' _ => ex_build72_ rfl⟩) (ak (fun _ => ⟨rfl, fun _ _ => rfl⟩) trivial)
  intro _ w4 H4
  clear H3
  refine rest_at (l := [2, 3]) rfl ?_
  refine rest_store rfl rfl rfl (ex_storeT (vs := kd 0 0 0 0 0) H4.out.1 1 rfl rfl rfl rfl Try.sizeOf72 rfl (Nat.le_of_ble_eq_true rfl)) ?_
  have H5 : Hid (Mm (w4.setCells γ1_0 0 (kd 0 0 0 0 0)) [(γ2_5, kd 0 0 0 0 0), (γ1_0, kd 0 0 0 0 0)] ∧ Below w.heap.size w (w4.setCells γ1_0 0 (kd 0 0 0 0 0))) := ⟨H4.out.1.put 1 (off := 0) (vs := kd 0 0 0 0 0) rfl (Nat.le_of_ble_eq_true rfl), below_setCells _ o1_0.out _ _ _ H4.out.2⟩
  clear H4
  generalize hgw : World.setCells _ _ _ _ = w5 at H5 ⊢
  clear hgw
  refine rest_set (d := 5) rfl rfl rfl rfl ?_
  simp only [Act.put, sa, sz, ss]
  refine rest_nil (then_normal (wp_ret ?_))
  repeat (first | refine then_ret ?_ | refine block_ret ?_)
  have hf0 := var_T H5.out.1 1 rfl Try.isAgg72 Try.sizeOf72 rfl
  refine bodyPost_ret (v := .tuple #[.agg (kd 0 0 0 0 0).toArray, .int .i64 2]) (by simp [results, Try.results43, asAddr, Act.eval, hf0]) rfl ?_
  exact ⟨rfl, H5.out.2⟩
set_option maxRecDepth 100000 in
theorem Gen_ok (k : Kd s p r c gx gy) (w : World) :
    Calls Try.prog 13 #[.int .i64 s] w fun e w' => e = .returned (.tuple #[V (pt gx gy false), .int .i64 0]) ∧ Below w.heap.size w w' := by
  have H0 : Hid (_ ∧ _) := ⟨Mm.nil w, Below.refl w.heap.size w⟩
  go_enter Try.func13, Try.ntmps13
  refine wp_seq ?_
  refine walk_seqA 2 [.made (pt 0 0 false) 25, .quiet (.int .i64 0)] (sB H0) ?ho1 ?he1
  case ho1 => exact ak (fun γ => ⟨rfl, fun w' => ex_made25 rfl⟩) (ak (fun _ => ⟨rfl, fun _ _ => rfl⟩) trivial)
  intro γ w1 l hM hl
  have H1 : Hid (Mm w1 [(γ 0, pt 0 0 false)] ∧ _) := growB H0 hM (Nat.le_refl _) hl [0] rfl (by decide)
  have o1_0 := ownB H0 hM (Nat.le_refl _) hl (i := 0) rfl
  clear hM hl l
  generalize γ 0 = γ1_0 at H1 o1_0 ⊢
  clear γ
  refine rest0 rfl (then_normal (wp_seq ?_))
  refine walk_seqA 8 [.quiet (.int .i64 s), .call (.tuple #[.agg (kd p r c gx gy).toArray, .int .i64 0]), .quiet (.tuple #[.agg (kd p r c gx gy).toArray, .int .i64 0]), .quiet (.agg (kd p r c gx gy).toArray), .quiet (.int .i64 0), .made (kd 0 0 0 0 0) 72, .laid 5 (kd 0 0 0 0 0) (kd p r c gx gy), .quiet (.int .i64 0)] (sB H1) ?ho2 ?he2 (hL := ?hL2)
  case hL2 => exact ⟨⟨_, rfl⟩, trivial⟩
  case ho2 => exact ak (fun _ => ⟨rfl, fun _ _ => rfl⟩) (ak (fun γ => ⟨rfl, fun w' h => ⟨42, #[.int .i64 s], exec_call rfl call42 rfl (mpn rfl), k.kind w'⟩⟩) (ak (fun _ => ⟨rfl, fun _ _ => rfl⟩) (ak (by refine fun γ => ⟨rfl, fun w' h => ?_⟩; clear h; go_simp) (ak (by refine fun γ => ⟨rfl, fun w' h => ?_⟩; clear h; go_simp) (ak (fun γ => ⟨rfl, fun w' => ex_made72 rfl⟩) (ak (fun γ => ⟨rfl, rfl, rfl, fun w' h => ex_laidT h rfl rfl Try.sizeOf72 rfl rfl rfl⟩) (ak (fun _ => ⟨rfl, fun _ _ => rfl⟩) trivial)))))))
  intro γ w2 l hM hl
  have H2 : Hid (Mm w2 [(γ 5, kd p r c gx gy), (γ1_0, pt 0 0 false)] ∧ _) := growB H1 hM (Nat.le_refl _) hl [5] rfl (by decide)
  have o2_5 := ownB H1 hM (Nat.le_refl _) hl (i := 5) rfl
  clear hM hl l H1
  generalize γ 5 = γ2_5 at H2 o2_5 ⊢
  clear γ
  refine rest0 rfl (then_normal (wp_seq ?_))
  refine walk_seqB 3 [.quiet (PT γ2_5 3), .quiet (.agg (pt gx gy false).toArray), .quiet (.int .i64 0)] H2 ?ho3 ?he3
  case ho3 => exact ak (by refine fun γ => ⟨rfl, fun w' h => ?_⟩; clear h; go_simp) (ak (fun γ => ⟨rfl, fun w' h => ex_loadT h 0 rfl rfl rfl Try.isAgg25 Try.sizeOf25 rfl rfl⟩) (ak (fun _ => ⟨rfl, fun _ _ => rfl⟩) trivial))
  intro _ w3 H3
  clear H2
  refine rest_at (l := [3, 4]) rfl ?_
  refine rest_store rfl rfl rfl (ex_storeT (vs := pt gx gy false) H3.out.1 1 rfl rfl rfl rfl Try.sizeOf25 rfl (Nat.le_of_ble_eq_true rfl)) ?_
  have H4 : Hid (Mm (w3.setCells γ1_0 0 (pt gx gy false)) [(γ2_5, kd p r c gx gy), (γ1_0, pt gx gy false)] ∧ Below w.heap.size w (w3.setCells γ1_0 0 (pt gx gy false))) := ⟨H3.out.1.put 1 (off := 0) (vs := pt gx gy false) rfl (Nat.le_of_ble_eq_true rfl), below_setCells _ o1_0.out _ _ _ H3.out.2⟩
  clear H3
  generalize hgw : World.setCells _ _ _ _ = w4 at H4 ⊢
  clear hgw
  refine rest_set (d := 3) rfl rfl rfl rfl ?_
  simp only [Act.put, sa, sz, ss]
  refine rest_nil (then_normal (wp_ret ?_))
  repeat (first | refine then_ret ?_ | refine block_ret ?_)
  have hf0 := var_T H4.out.1 1 rfl Try.isAgg25 Try.sizeOf25 rfl
  refine bodyPost_ret (v := .tuple #[.agg (pt gx gy false).toArray, .int .i64 0]) (by simp [results, Try.results13, asAddr, Act.eval, hf0]) rfl ?_
  exact ⟨rfl, H4.out.2⟩
set_option maxRecDepth 100000 in
theorem Check_ok (k : Kd s p r c gx gy) (X Y : Nat) (Z : Bool) (w : World) :
    Calls Try.prog 19 #[.int .i64 s, .agg (pt X Y Z).toArray] w fun e w' => e = .returned (.bool (oc p X Y Z)) ∧ Below w.heap.size w w' := by
  have H0 : Hid (_ ∧ _) := ⟨Mm.nil w, Below.refl w.heap.size w⟩
  go_enter Try.func19, Try.ntmps19
  refine wp_seq ?_
  refine walk_seqA 2 [.made (pt X Y Z) 25, .quiet (.bool false)] (sB H0) ?ho1 ?he1
  case ho1 => exact ak (fun γ => ⟨rfl, fun w' => ex_boxT rfl rfl⟩) (ak (fun _ => ⟨rfl, fun _ _ => rfl⟩) trivial)
  intro γ w1 l hM hl
  have H1 : Hid (Mm w1 [(γ 0, pt X Y Z)] ∧ _) := growB H0 hM (Nat.le_refl _) hl [0] rfl (by decide)
  have o1_0 := ownB H0 hM (Nat.le_refl _) hl (i := 0) rfl
  clear hM hl l
  generalize γ 0 = γ1_0 at H1 o1_0 ⊢
  clear γ
  refine rest0 rfl (then_normal (wp_seq ?_))
  refine walk_seqA 8 [.quiet (.int .i64 s), .call (.tuple #[.agg (kd p r c gx gy).toArray, .int .i64 0]), .quiet (.tuple #[.agg (kd p r c gx gy).toArray, .int .i64 0]), .quiet (.agg (kd p r c gx gy).toArray), .quiet (.int .i64 0), .made (kd 0 0 0 0 0) 72, .laid 5 (kd 0 0 0 0 0) (kd p r c gx gy), .quiet (.int .i64 0)] (sB H1) ?ho2 ?he2 (hL := ?hL2)
  case hL2 => exact ⟨⟨_, rfl⟩, trivial⟩
  case ho2 => exact ak (fun _ => ⟨rfl, fun _ _ => rfl⟩) (ak (fun γ => ⟨rfl, fun w' h => ⟨42, #[.int .i64 s], exec_call rfl call42 rfl (mpn rfl), k.kind w'⟩⟩) (ak (fun _ => ⟨rfl, fun _ _ => rfl⟩) (ak (by refine fun γ => ⟨rfl, fun w' h => ?_⟩; clear h; go_simp) (ak (by refine fun γ => ⟨rfl, fun w' h => ?_⟩; clear h; go_simp) (ak (fun γ => ⟨rfl, fun w' => ex_made72 rfl⟩) (ak (fun γ => ⟨rfl, rfl, rfl, fun w' h => ex_laidT h rfl rfl Try.sizeOf72 rfl rfl rfl⟩) (ak (fun _ => ⟨rfl, fun _ _ => rfl⟩) trivial)))))))
  intro γ w2 l hM hl
  have H2 : Hid (Mm w2 [(γ 5, kd p r c gx gy), (γ1_0, pt X Y Z)] ∧ _) := growB H1 hM (Nat.le_refl _) hl [5] rfl (by decide)
  have o2_5 := ownB H1 hM (Nat.le_refl _) hl (i := 5) rfl
  clear hM hl l H1
  generalize γ 5 = γ2_5 at H2 o2_5 ⊢
  clear γ
  refine rest0 rfl (then_normal (wp_seq ?_))
  refine walk_seqB 8 [.quiet (.int .i64 0), .quiet (.bool true), .quiet (.bool true), .quiet (.agg (kd p r c gx gy).toArray), .quiet (.agg (pt X Y Z).toArray), .call (.bool (oc p X Y Z)), .quiet (.bool (oc p X Y Z)), .quiet (.bool (oc p X Y Z))] H2 ?ho3 ?he3
  case ho3 => exact ak (fun _ => ⟨rfl, fun _ _ => rfl⟩) (ak (by refine fun γ => ⟨rfl, fun w' h => ?_⟩; clear h; go_simp) (ak (fun _ => ⟨rfl, fun _ _ => rfl⟩) (ak (fun γ => ⟨rfl, fun w' h => ex_loadT h 0 rfl rfl rfl Try.isAgg72 Try.sizeOf72 rfl rfl⟩) (ak (fun γ => ⟨rfl, fun w' h => ex_loadT h 1 rfl rfl rfl Try.isAgg25 Try.sizeOf25 rfl rfl⟩) (ak (fun γ => ⟨rfl, fun w' h => ⟨50, #[.agg (kd p r c gx gy).toArray, .agg (pt X Y Z).toArray], exec_call rfl call50 rfl (mpn rfl), onCurve_any k.pr X Y Z w'⟩⟩) (ak (by refine fun γ => ⟨rfl, fun w' h => ?_⟩; clear h; go_simp) (ak (fun _ => ⟨rfl, fun _ _ => rfl⟩) trivial)))))))
  intro _ w3 H3
  clear H2
  refine rest0 rfl (then_normal (wp_ret ?_))
  repeat (first | refine then_ret ?_ | refine block_ret ?_)
  refine bodyPost_ret (v := .bool (oc p X Y Z)) (by simp [results, Try.results19, go_sem, *]) rfl ?_
  exact ⟨rfl, H3.out.2⟩
set_option maxRecDepth 100000 in
theorem Check_no (s : Int) (h1 : s ≠ 1) (h2 : s ≠ 2) (X Y : Nat) (Z : Bool) (w : World) :
    Calls Try.prog 19 #[.int .i64 s, .agg (pt X Y Z).toArray] w fun e w' => e = .returned (.bool false) ∧ Below w.heap.size w w' := by
  have H0 : Hid (_ ∧ _) := ⟨Mm.nil w, Below.refl w.heap.size w⟩
  go_enter Try.func19, Try.ntmps19
  refine wp_seq ?_
  refine walk_seqA 2 [.made (pt X Y Z) 25, .quiet (.bool false)] (sB H0) ?ho1 ?he1
  case ho1 => exact ak (fun γ => ⟨rfl, fun w' => ex_boxT rfl rfl⟩) (ak (fun _ => ⟨rfl, fun _ _ => rfl⟩) trivial)
  intro γ w1 l hM hl
  have H1 : Hid (Mm w1 [(γ 0, pt X Y Z)] ∧ _) := growB H0 hM (Nat.le_refl _) hl [0] rfl (by decide)
  have o1_0 := ownB H0 hM (Nat.le_refl _) hl (i := 0) rfl
  clear hM hl l
  generalize γ 0 = γ1_0 at H1 o1_0 ⊢
  clear γ
  refine rest0 rfl (then_normal (wp_seq ?_))
  refine walk_seqA 8 [.quiet (.int .i64 s), .call (.tuple #[.agg (kd 0 0 0 0 0).toArray, .int .i64 2]), .quiet (.tuple #[.agg (kd 0 0 0 0 0).toArray, .int .i64 2]), .quiet (.agg (kd 0 0 0 0 0).toArray), .quiet (.int .i64 2), .made (kd 0 0 0 0 0) 72, .laid 5 (kd 0 0 0 0 0) (kd 0 0 0 0 0), .quiet (.int .i64 2)] (sB H1) ?ho2 ?he2 (hL := ?hL2)
  case hL2 => exact ⟨⟨_, rfl⟩, trivial⟩
  case ho2 => exact ak (fun _ => ⟨rfl, fun _ _ => rfl⟩) (ak (fun γ => ⟨rfl, fun w' h => ⟨42, #[.int .i64 s], exec_call rfl call42 rfl (mpn rfl), kindOf_no s h1 h2 w'⟩⟩) (ak (fun _ => ⟨rfl, fun _ _ => rfl⟩) (ak (by refine fun γ => ⟨rfl, fun w' h => ?_⟩; clear h; go_simp) (ak (by refine fun γ => ⟨rfl, fun w' h => ?_⟩; clear h; go_simp) (ak (fun γ => ⟨rfl, fun w' => ex_made72 rfl⟩) (ak (fun γ => ⟨rfl, rfl, rfl, fun w' h => ex_laidT h rfl rfl Try.sizeOf72 rfl rfl rfl⟩) (ak (fun _ => ⟨rfl, fun _ _ => rfl⟩) trivial)))))))
  intro γ w2 l hM hl
  have H2 : Hid (Mm w2 [(γ 5, kd 0 0 0 0 0), (γ1_0, pt X Y Z)] ∧ _) := growB H1 hM (Nat.le_refl _) hl [5] rfl (by decide)
  have o2_5 := ownB H1 hM (Nat.le_refl _) hl (i := 5) rfl
  clear hM hl l H1
  generalize γ 5 = γ2_5 at H2 o2_5 ⊢
  clear γ
  refine rest0 rfl (then_normal (wp_seq ?_))
  refine walk_seqB 8 [.quiet (.int .i64 2), .quiet (.bool false), .quiet (.bool false), .gone, .gone, .gone, .quiet (.bool false), .quiet (.bool false)] H2 ?ho3 ?he3
  case ho3 => exact ak (fun _ => ⟨rfl, fun _ _ => rfl⟩) (ak (by refine fun γ => ⟨rfl, fun w' h => ?_⟩; clear h; go_simp) (ak (fun _ => ⟨rfl, fun _ _ => rfl⟩) (ak (fun γ => rfl) (ak (fun γ => rfl) (ak (fun γ => rfl) (ak (by refine fun γ => ⟨rfl, fun w' h => ?_⟩; clear h; go_simp) (ak (fun _ => ⟨rfl, fun _ _ => rfl⟩) trivial)))))))
  intro _ w3 H3
  clear H2
  refine rest0 rfl (then_normal (wp_ret ?_))
  repeat (first | refine then_ret ?_ | refine block_ret ?_)
  refine bodyPost_ret (v := .bool false) (by simp [results, Try.results19, go_sem, *]) rfl ?_
  exact ⟨rfl, H3.out.2⟩
set_option maxRecDepth 100000 in
theorem In_ok (k : Kd s p r c gx gy) (X Y : Nat) (Z : Bool) (w : World) :
    Calls Try.prog 20 #[.int .i64 s, .agg (pt X Y Z).toArray] w fun e w' => e = .returned (.bool (ig p r X Y Z)) ∧ Below w.heap.size w w' := by
  have H0 : Hid (_ ∧ _) := ⟨Mm.nil w, Below.refl w.heap.size w⟩
  go_enter Try.func20, Try.ntmps20
  refine wp_seq ?_
  refine walk_seqA 2 [.made (pt X Y Z) 25, .quiet (.bool false)] (sB H0) ?ho1 ?he1
  case ho1 => exact ak (fun γ => ⟨rfl, fun w' => ex_boxT rfl rfl⟩) (ak (fun _ => ⟨rfl, fun _ _ => rfl⟩) trivial)
  intro γ w1 l hM hl
  have H1 : Hid (Mm w1 [(γ 0, pt X Y Z)] ∧ _) := growB H0 hM (Nat.le_refl _) hl [0] rfl (by decide)
  have o1_0 := ownB H0 hM (Nat.le_refl _) hl (i := 0) rfl
  clear hM hl l
  generalize γ 0 = γ1_0 at H1 o1_0 ⊢
  clear γ
  refine rest0 rfl (then_normal (wp_seq ?_))
  refine walk_seqA 8 [.quiet (.int .i64 s), .call (.tuple #[.agg (kd p r c gx gy).toArray, .int .i64 0]), .quiet (.tuple #[.agg (kd p r c gx gy).toArray, .int .i64 0]), .quiet (.agg (kd p r c gx gy).toArray), .quiet (.int .i64 0), .made (kd 0 0 0 0 0) 72, .laid 5 (kd 0 0 0 0 0) (kd p r c gx gy), .quiet (.int .i64 0)] (sB H1) ?ho2 ?he2 (hL := ?hL2)
  case hL2 => exact ⟨⟨_, rfl⟩, trivial⟩
  case ho2 => exact ak (fun _ => ⟨rfl, fun _ _ => rfl⟩) (ak (fun γ => ⟨rfl, fun w' h => ⟨42, #[.int .i64 s], exec_call rfl call42 rfl (mpn rfl), k.kind w'⟩⟩) (ak (fun _ => ⟨rfl, fun _ _ => rfl⟩) (ak (by refine fun γ => ⟨rfl, fun w' h => ?_⟩; clear h; go_simp) (ak (by refine fun γ => ⟨rfl, fun w' h => ?_⟩; clear h; go_simp) (ak (fun γ => ⟨rfl, fun w' => ex_made72 rfl⟩) (ak (fun γ => ⟨rfl, rfl, rfl, fun w' h => ex_laidT h rfl rfl Try.sizeOf72 rfl rfl rfl⟩) (ak (fun _ => ⟨rfl, fun _ _ => rfl⟩) trivial)))))))
  intro γ w2 l hM hl
  have H2 : Hid (Mm w2 [(γ 5, kd p r c gx gy), (γ1_0, pt X Y Z)] ∧ _) := growB H1 hM (Nat.le_refl _) hl [5] rfl (by decide)
  have o2_5 := ownB H1 hM (Nat.le_refl _) hl (i := 5) rfl
  clear hM hl l H1
  generalize γ 5 = γ2_5 at H2 o2_5 ⊢
  clear γ
  refine rest0 rfl (then_normal (wp_seq ?_))
  refine walk_seqB 8 [.quiet (.int .i64 0), .quiet (.bool true), .quiet (.bool true), .quiet (.agg (kd p r c gx gy).toArray), .quiet (.agg (pt X Y Z).toArray), .call (.bool (ig p r X Y Z)), .quiet (.bool (ig p r X Y Z)), .quiet (.bool (ig p r X Y Z))] H2 ?ho3 ?he3
  case ho3 => exact ak (fun _ => ⟨rfl, fun _ _ => rfl⟩) (ak (by refine fun γ => ⟨rfl, fun w' h => ?_⟩; clear h; go_simp) (ak (fun _ => ⟨rfl, fun _ _ => rfl⟩) (ak (fun γ => ⟨rfl, fun w' h => ex_loadT h 0 rfl rfl rfl Try.isAgg72 Try.sizeOf72 rfl rfl⟩) (ak (fun γ => ⟨rfl, fun w' h => ex_loadT h 1 rfl rfl rfl Try.isAgg25 Try.sizeOf25 rfl rfl⟩) (ak (fun γ => ⟨rfl, fun w' h => ⟨51, #[.agg (kd p r c gx gy).toArray, .agg (pt X Y Z).toArray], exec_call rfl call51 rfl (mpn rfl), inGroup_any k.pr k.rb X Y Z w'⟩⟩) (ak (by refine fun γ => ⟨rfl, fun w' h => ?_⟩; clear h; go_simp) (ak (fun _ => ⟨rfl, fun _ _ => rfl⟩) trivial)))))))
  intro _ w3 H3
  clear H2
  refine rest0 rfl (then_normal (wp_ret ?_))
  repeat (first | refine then_ret ?_ | refine block_ret ?_)
  refine bodyPost_ret (v := .bool (ig p r X Y Z)) (by simp [results, Try.results20, go_sem, *]) rfl ?_
  exact ⟨rfl, H3.out.2⟩
set_option maxRecDepth 100000 in
theorem In_no (s : Int) (h1 : s ≠ 1) (h2 : s ≠ 2) (X Y : Nat) (Z : Bool) (w : World) :
    Calls Try.prog 20 #[.int .i64 s, .agg (pt X Y Z).toArray] w fun e w' => e = .returned (.bool false) ∧ Below w.heap.size w w' := by
  have H0 : Hid (_ ∧ _) := ⟨Mm.nil w, Below.refl w.heap.size w⟩
  go_enter Try.func20, Try.ntmps20
  refine wp_seq ?_
  refine walk_seqA 2 [.made (pt X Y Z) 25, .quiet (.bool false)] (sB H0) ?ho1 ?he1
  case ho1 => exact ak (fun γ => ⟨rfl, fun w' => ex_boxT rfl rfl⟩) (ak (fun _ => ⟨rfl, fun _ _ => rfl⟩) trivial)
  intro γ w1 l hM hl
  have H1 : Hid (Mm w1 [(γ 0, pt X Y Z)] ∧ _) := growB H0 hM (Nat.le_refl _) hl [0] rfl (by decide)
  have o1_0 := ownB H0 hM (Nat.le_refl _) hl (i := 0) rfl
  clear hM hl l
  generalize γ 0 = γ1_0 at H1 o1_0 ⊢
  clear γ
  refine rest0 rfl (then_normal (wp_seq ?_))
  refine walk_seqA 8 [.quiet (.int .i64 s), .call (.tuple #[.agg (kd 0 0 0 0 0).toArray, .int .i64 2]), .quiet (.tuple #[.agg (kd 0 0 0 0 0).toArray, .int .i64 2]), .quiet (.agg (kd 0 0 0 0 0).toArray), .quiet (.int .i64 2), .made (kd 0 0 0 0 0) 72, .laid 5 (kd 0 0 0 0 0) (kd 0 0 0 0 0), .quiet (.int .i64 2)] (sB H1) ?ho2 ?he2 (hL := ?hL2)
  case hL2 => exact ⟨⟨_, rfl⟩, trivial⟩
  case ho2 => exact ak (fun _ => ⟨rfl, fun _ _ => rfl⟩) (ak (fun γ => ⟨rfl, fun w' h => ⟨42, #[.int .i64 s], exec_call rfl call42 rfl (mpn rfl), kindOf_no s h1 h2 w'⟩⟩) (ak (fun _ => ⟨rfl, fun _ _ => rfl⟩) (ak (by refine fun γ => ⟨rfl, fun w' h => ?_⟩; clear h; go_simp) (ak (by refine fun γ => ⟨rfl, fun w' h => ?_⟩; clear h; go_simp) (ak (fun γ => ⟨rfl, fun w' => ex_made72 rfl⟩) (ak (fun γ => ⟨rfl, rfl, rfl, fun w' h => ex_laidT h rfl rfl Try.sizeOf72 rfl rfl rfl⟩) (ak (fun _ => ⟨rfl, fun _ _ => rfl⟩) trivial)))))))
  intro γ w2 l hM hl
  have H2 : Hid (Mm w2 [(γ 5, kd 0 0 0 0 0), (γ1_0, pt X Y Z)] ∧ _) := growB H1 hM (Nat.le_refl _) hl [5] rfl (by decide)
  have o2_5 := ownB H1 hM (Nat.le_refl _) hl (i := 5) rfl
  clear hM hl l H1
  generalize γ 5 = γ2_5 at H2 o2_5 ⊢
  clear γ
  refine rest0 rfl (then_normal (wp_seq ?_))
  refine walk_seqB 8 [.quiet (.int .i64 2), .quiet (.bool false), .quiet (.bool false), .gone, .gone, .gone, .quiet (.bool false), .quiet (.bool false)] H2 ?ho3 ?he3
  case ho3 => exact ak (fun _ => ⟨rfl, fun _ _ => rfl⟩) (ak (by refine fun γ => ⟨rfl, fun w' h => ?_⟩; clear h; go_simp) (ak (fun _ => ⟨rfl, fun _ _ => rfl⟩) (ak (fun γ => rfl) (ak (fun γ => rfl) (ak (fun γ => rfl) (ak (by refine fun γ => ⟨rfl, fun w' h => ?_⟩; clear h; go_simp) (ak (fun _ => ⟨rfl, fun _ _ => rfl⟩) trivial)))))))
  intro _ w3 H3
  clear H2
  refine rest0 rfl (then_normal (wp_ret ?_))
  repeat (first | refine then_ret ?_ | refine block_ret ?_)
  refine bodyPost_ret (v := .bool false) (by simp [results, Try.results20, go_sem, *]) rfl ?_
  exact ⟨rfl, H3.out.2⟩
set_option maxHeartbeats 1000000 in
set_option maxRecDepth 100000 in
theorem Clear_ok (k : Kd s p r c gx gy) (X Y : Nat) (Z : Bool) (h1 : oc p X Y Z = true) (w : World) :
    Calls Try.prog 16 #[.int .i64 s, .agg (pt X Y Z).toArray] w fun e w' => e = .returned (.tuple #[V (pt (pX p (mt p X Y Z c)) (pY p (mt p X Y Z c)) (pZ (mt p X Y Z c))), .int .i64 0]) ∧ Below w.heap.size w w' := by
  have H0 : Hid (_ ∧ _) := ⟨Mm.nil w, Below.refl w.heap.size w⟩
  go_enter Try.func16, Try.ntmps16
  refine wp_seq ?_
  refine walk_seqA 3 [.made (pt X Y Z) 25, .made (pt 0 0 false) 25, .quiet (.int .i64 0)] (sB H0) ?ho1 ?he1
  case ho1 => exact ak (fun γ => ⟨rfl, fun w' => ex_boxT rfl rfl⟩) (ak (fun γ => ⟨rfl, fun w' => ex_made25 rfl⟩) (ak (fun _ => ⟨rfl, fun _ _ => rfl⟩) trivial))
  intro γ w1 l hM hl
  have H1 : Hid (Mm w1 [(γ 0, pt X Y Z), (γ 1, pt 0 0 false)] ∧ _) := growB H0 hM (Nat.le_refl _) hl [0, 1] rfl (by decide)
  have o1_0 := ownB H0 hM (Nat.le_refl _) hl (i := 0) rfl
  have o1_1 := ownB H0 hM (Nat.le_refl _) hl (i := 1) rfl
  clear hM hl l
  generalize γ 0 = γ1_0 at H1 o1_0 ⊢
  generalize γ 1 = γ1_1 at H1 o1_1 ⊢
  clear γ
  refine rest0 rfl (then_normal (wp_seq ?_))
  refine walk_seqB 2 [.quiet (.int .i64 s), .quiet (.agg (pt X Y Z).toArray)] H1 ?ho2 ?he2
  case ho2 => exact ak (fun _ => ⟨rfl, fun _ _ => rfl⟩) (ak (fun γ => ⟨rfl, fun w' h => ex_loadT h 0 rfl rfl rfl Try.isAgg25 Try.sizeOf25 rfl rfl⟩) trivial)
  intro _ w2 H2
  clear H1
  refine rest_at (l := [2, 3, 4, 5, 6, 7, 8, 9]) rfl ?_
  refine rest_set (d := 11) (v := .slice (some ⟨w2.heap.size, 0, none⟩) 1 1) (w' := w2.alloc (.cells (pt X Y Z : List Value).toArray 25)) rfl rfl rfl (ex_bs1 rfl rfl) ?_
  simp only [Act.put, sa, sz, ss]
  have o_γs3 : Hid (w.heap.size ≤ w2.heap.size) := H2.out.2.size
  have H3 : Hid (Mm (w2.alloc (.cells (pt X Y Z : List Value).toArray 25)) ((w2.heap.size, pt X Y Z) :: [(γ1_0, pt X Y Z), (γ1_1, pt 0 0 false)]) ∧ Below w.heap.size w (w2.alloc (.cells (pt X Y Z : List Value).toArray 25))) := ⟨H2.out.1.alloc _ 25 rfl, H2.out.2.alloc H2.out.2.size _⟩
  clear H2
  generalize hgw : w2.alloc (.cells (pt X Y Z : List Value).toArray 25) = w3 at H3 ⊢
  clear hgw
  generalize w2.heap.size = γs3 at o_γs3 H3 ⊢
  refine rest_enter (d := 12) (R := fun vv w' => vv = .tuple #[.agg (kd p r c gx gy).toArray, .int .i64 0] ∧ Below w3.heap.size w3 w') rfl rfl rfl (exec_call (args := #[.int .i64 s, .slice (some ⟨γs3, 0, none⟩) 1 1]) rfl call43 rfl (mpn rfl)) (Calls.mono (kw1_ok k X Y Z h1 γs3 w3 (H3.out.1.one 0 rfl)) (fun e w2 hh => ⟨_, hh.1, rfl, hh.2⟩)) ?_
  rintro _ w4 ⟨rfl, hb⟩
  have H4 : Hid (_ ∧ _) := ⟨H3.out.1.below hb, H3.out.2.trans (hb.mono H3.out.2.size)⟩
  clear hb H3
  simp only [Act.put, sa, sz, ss]
  refine rest_set (d := 8) rfl rfl rfl rfl ?_
  simp only [Act.put, sa, sz, ss]
  refine rest_set (d := 13) (v := .agg (kd p r c gx gy).toArray) (w' := w4) rfl rfl rfl (by go_simp) ?_
  simp only [Act.put, sa, sz, ss]
  refine rest_set (d := 14) (v := .int .i64 0) (w' := w4) rfl rfl rfl (by go_simp) ?_
  simp only [Act.put, sa, sz, ss]
  refine rest_set (d := 6) (v := PT w4.heap.size 0) (w' := w4.alloc (.cells (kd 0 0 0 0 0 : List Value).toArray 72)) rfl rfl rfl (ex_made72 rfl) ?_
  simp only [Act.put, sa, sz, ss]
  have o_γs5 : Hid (w.heap.size ≤ w4.heap.size) := H4.out.2.size
  have H5 : Hid (Mm (w4.alloc (.cells (kd 0 0 0 0 0 : List Value).toArray 72)) ((w4.heap.size, kd 0 0 0 0 0) :: [(γs3, pt X Y Z), (γ1_0, pt X Y Z), (γ1_1, pt 0 0 false)]) ∧ Below w.heap.size w (w4.alloc (.cells (kd 0 0 0 0 0 : List Value).toArray 72))) := ⟨H4.out.1.alloc _ 72 rfl, H4.out.2.alloc H4.out.2.size _⟩
  clear H4
  generalize hgw : w4.alloc (.cells (kd 0 0 0 0 0 : List Value).toArray 72) = w5 at H5 ⊢
  clear hgw
  generalize w4.heap.size = γs5 at o_γs5 H5 ⊢
  refine rest_store rfl rfl rfl (ex_storeT (vs := kd p r c gx gy) H5.out.1 0 rfl rfl rfl rfl Try.sizeOf72 rfl (Nat.le_of_ble_eq_true rfl)) ?_
  have H6 : Hid (Mm (w5.setCells γs5 0 (kd p r c gx gy)) [(γs5, kd p r c gx gy), (γs3, pt X Y Z), (γ1_0, pt X Y Z), (γ1_1, pt 0 0 false)] ∧ Below w.heap.size w (w5.setCells γs5 0 (kd p r c gx gy))) := ⟨H5.out.1.put 0 (off := 0) (vs := kd p r c gx gy) rfl (Nat.le_of_ble_eq_true rfl), below_setCells _ o_γs5.out _ _ _ H5.out.2⟩
  clear H5
  generalize hgw : World.setCells _ _ _ _ = w6 at H6 ⊢
  clear hgw
  refine rest_set (d := 7) rfl rfl rfl rfl ?_
  simp only [Act.put, sa, sz, ss]
  refine rest_nil (then_normal ?_)
  refine wp_seq (wp_seq ?_)
  refine walk_seqB 2 [.quiet (.int .i64 0), .quiet (.bool false)] H6 ?ho3 ?he3
  case ho3 => exact ak (fun _ => ⟨rfl, fun _ _ => rfl⟩) (ak (by refine fun γ => ⟨rfl, fun w' h => ?_⟩; clear h; go_simp) trivial)
  intro _ w7 H7
  clear H6
  refine rest0 rfl (then_normal (wp_cond_false rfl ?_))
  refine wp_skip (then_normal (wp_seq ?_))
  refine walk_anyB 7 [.quiet (.agg (kd p r c gx gy).toArray), .quiet (.agg (kd p r c gx gy).toArray), .quiet (.agg (pt X Y Z).toArray), .quiet (PT γs5 2), .quiet (U c), .call (.agg (tr ((mt p X Y Z c).1) ((mt p X Y Z c).2.1) ((mt p X Y Z c).2.2)).toArray), .call (.agg (pt (pX p (mt p X Y Z c)) (pY p (mt p X Y Z c)) (pZ (mt p X Y Z c))).toArray)] H7 ?ho4 ?he4
  case ho4 => exact ak (fun γ => ⟨rfl, fun w' h => ex_loadT h 0 rfl rfl rfl Try.isAgg72 Try.sizeOf72 rfl rfl⟩) (ak (fun γ => ⟨rfl, fun w' h => ex_loadT h 0 rfl rfl rfl Try.isAgg72 Try.sizeOf72 rfl rfl⟩) (ak (fun γ => ⟨rfl, fun w' h => ex_loadT h 2 rfl rfl rfl Try.isAgg25 Try.sizeOf25 rfl rfl⟩) (ak (by refine fun γ => ⟨rfl, fun w' h => ?_⟩; clear h; go_simp) (ak (fun γ => ⟨rfl, fun w' h => ex_loadC h 0 rfl rfl rfl Try.isAgg23 rfl⟩) (ak (fun γ => ⟨rfl, fun w' h => ⟨47, #[.agg (kd p r c gx gy).toArray, .agg (pt X Y Z).toArray, U c], exec_call rfl call47 rfl (mpn rfl), multiple_any k.pr X Y Z (oc_lt k.pr h1).1 (oc_lt k.pr h1).2 c k.cb w'⟩⟩) (ak (fun γ => ⟨rfl, fun w' h => ⟨46, #[.agg (kd p r c gx gy).toArray, .agg (tr ((mt p X Y Z c).1) ((mt p X Y Z c).2.1) ((mt p X Y Z c).2.2)).toArray], exec_call rfl call46 rfl (mpn rfl), point_any k.pr (mt p X Y Z c) (mt_lt k.pr (oc_lt k.pr h1).1 (oc_lt k.pr h1).2 _) w'⟩⟩) trivial))))))
  intro _ w8 H8
  clear H7
  refine rest_at (l := [7, 8]) rfl ?_
  refine rest_store rfl rfl rfl (ex_storeT (vs := pt (pX p (mt p X Y Z c)) (pY p (mt p X Y Z c)) (pZ (mt p X Y Z c))) H8.out.1 3 rfl rfl rfl rfl Try.sizeOf25 rfl (Nat.le_of_ble_eq_true rfl)) ?_
  have H9 : Hid (Mm (w8.setCells γ1_1 0 (pt (pX p (mt p X Y Z c)) (pY p (mt p X Y Z c)) (pZ (mt p X Y Z c)))) [(γs5, kd p r c gx gy), (γs3, pt X Y Z), (γ1_0, pt X Y Z), (γ1_1, pt (pX p (mt p X Y Z c)) (pY p (mt p X Y Z c)) (pZ (mt p X Y Z c)))] ∧ Below w.heap.size w (w8.setCells γ1_1 0 (pt (pX p (mt p X Y Z c)) (pY p (mt p X Y Z c)) (pZ (mt p X Y Z c))))) := ⟨H8.out.1.put 3 (off := 0) (vs := pt (pX p (mt p X Y Z c)) (pY p (mt p X Y Z c)) (pZ (mt p X Y Z c))) rfl (Nat.le_of_ble_eq_true rfl), below_setCells _ o1_1.out _ _ _ H8.out.2⟩
  clear H8
  generalize hgw : World.setCells _ _ _ _ = w9 at H9 ⊢
  clear hgw
  refine rest_set (d := 5) rfl rfl rfl rfl ?_
  simp only [Act.put, sa, sz, ss]
  refine rest_nil (then_normal (wp_ret ?_))
  repeat (first | refine then_ret ?_ | refine block_ret ?_)
  have hf0 := var_T H9.out.1 3 rfl Try.isAgg25 Try.sizeOf25 rfl
  refine bodyPost_ret (v := .tuple #[.agg (pt (pX p (mt p X Y Z c)) (pY p (mt p X Y Z c)) (pZ (mt p X Y Z c))).toArray, .int .i64 0]) (by simp [results, Try.results16, asAddr, Act.eval, hf0]) rfl ?_
  exact ⟨rfl, H9.out.2⟩
end
end Rg
end Go.Proofs.Ytjmbgchoioepjaa
end
section
namespace Go.Proofs.Ytjmbgchoioepjaa
open Go.RowKit
namespace Rg
/-! The document's answers. -/
abbrev P3 : Type := Nat × Nat × Bool
abbrev pc (a : P3) : List Value := pt a.1 a.2.1 a.2.2
def sl1 (p X Y : Nat) : Nat := tm p (pl p (pl p (pl p (tm p X X) (tm p X X)) (tm p X X)) 1) (pw p (pl p Y Y) (p - 2))
def sl2 (p X Y X' Y' : Nat) : Nat := tm p (mi p Y' Y) (pw p (mi p X' X) (p - 2))
def dS (p : Nat) (a b : P3) : Nat := if a = b then sl1 p a.1 a.2.1 else sl2 p a.1 a.2.1 b.1 b.2.1
def d3X (p m X X' : Nat) : Nat := mi p (mi p (tm p m m) X) X'
def d3Y (p m X X' Y : Nat) : Nat := mi p (tm p m (mi p X (d3X p m X X'))) Y
def dA (p : Nat) (a b : P3) : P3 :=
  if a.2.2 = true then b else if b.2.2 = true then a else if a = (b.1, mi p 0 b.2.1, b.2.2) then (0, 0, true)
  else (d3X p (dS p a b) a.1 b.1, d3Y p (dS p a b) a.1 b.1 a.2.1, false)
def dmf (p : Nat) (a : P3) : Nat → Nat → P3
  | 0, _ => (0, 0, true)
  | f + 1, n => if n = 0 then (0, 0, true) else if n % 2 = 1 then dA p (dA p (dmf p a f (n / 2)) (dmf p a f (n / 2))) a else dA p (dmf p a f (n / 2)) (dmf p a f (n / 2))
def dM (p : Nat) (a : P3) (n : Nat) : P3 := dmf p a 64 n
theorem dmf_up (p : Nat) (a : P3) : ∀ (f n : Nat), n < 2 ^ f → dmf p a f n = dmf p a (f + 1) n
  | 0, n, h => by
    have : n = 0 := by omega
    subst this
    rfl
  | f + 1, n, h => by
    have e := dmf_up p a f (n / 2) (by rw [Nat.pow_succ] at h; omega)
    rw [dmf, dmf, e]
theorem dM_step (p : Nat) (a : P3) (n : Nat) (hn : n < 18446744073709551616) (h0 : n ≠ 0) : dM p a n = if n % 2 = 1 then dA p (dA p (dM p a (n / 2)) (dM p a (n / 2))) a else dA p (dM p a (n / 2)) (dM p a (n / 2)) := by
  have e := dmf_up p a 63 (n / 2) (by rw [show 2 ^ 63 = 9223372036854775808 by decide]; omega)
  unfold dM
  rw [dmf, if_neg h0, e]
structure LtP (p : Nat) (a : P3) : Prop where
  x : a.1 < p
  y : a.2.1 < p
section
variable {p r c gx gy : Nat}
set_option maxRecDepth 100000 in
theorem Of_1  (w : World) :
    Calls Try.prog 10 #[.int .i64 1] w fun e w' => e = .returned (.tuple #[V (kd 786251 65521 12 9723 164643), .bool true]) ∧ Below w.heap.size w w' := by
  have H0 : Hid (_ ∧ _) := ⟨Mm.nil w, Below.refl w.heap.size w⟩
  go_enter Try.func10, Try.ntmps10
  refine wp_seq ?_
  refine walk_seqA 2 [.made (kd 0 0 0 0 0) 27, .quiet (.bool false)] (sB H0) ?ho1 ?he1
  case ho1 => exact ak (fun γ => ⟨rfl, fun w' => ex_made27 rfl⟩) (ak (fun _ => ⟨rfl, fun _ _ => rfl⟩) trivial)
  intro γ w1 l hM hl
  have H1 : Hid (Mm w1 [(γ 0, kd 0 0 0 0 0)] ∧ _) := growB H0 hM (Nat.le_refl _) hl [0] rfl (by decide)
  have o1_0 := ownB H0 hM (Nat.le_refl _) hl (i := 0) rfl
  clear hM hl l
  generalize γ 0 = γ1_0 at H1 o1_0 ⊢
  clear γ
  refine rest0 rfl (then_normal (wp_seq (wp_seq ?_)))
  refine walk_seqB 1 [.quiet (.int .i64 1)] H1 ?ho2 ?he2
  case ho2 => exact ak (fun _ => ⟨rfl, fun _ _ => rfl⟩) trivial
  intro _ w2 H2
  clear H1
  refine rest0 rfl (then_normal (wp_block (wp_seq ?_)))
  refine walk_seqB 2 [.quiet (.bool true), .quiet (.bool true)] H2 ?ho3 ?he3
  case ho3 => exact ak (by refine fun γ => ⟨rfl, fun w' h => ?_⟩; clear h; go_simp) (ak (fun _ => ⟨rfl, fun _ _ => rfl⟩) trivial)
  intro _ w3 H3
  clear H2
  refine rest0 rfl (then_normal (wp_cond_true rfl (wp_seq ?_)))
  refine walk_seqB 2 [.quiet (.agg (pt 9723 164643 false).toArray), .quiet (.agg (kd 786251 65521 12 9723 164643).toArray)] H3 ?ho4 ?he4
  case ho4 => exact ak (fun γ => ⟨rfl, fun w' _ => ex_build25_01 rfl rfl rfl⟩) (ak (fun γ => ⟨rfl, fun w' _ => ex_build27_0123 rfl rfl rfl rfl rfl⟩) trivial)
  intro _ w4 H4
  clear H3
  refine rest_at (l := [2, 3]) rfl ?_
  refine rest_store rfl rfl rfl (ex_storeT (vs := kd 786251 65521 12 9723 164643) H4.out.1 0 rfl rfl rfl rfl Try.sizeOf27 rfl (Nat.le_of_ble_eq_true rfl)) ?_
  have H5 : Hid (Mm (w4.setCells γ1_0 0 (kd 786251 65521 12 9723 164643)) [(γ1_0, kd 786251 65521 12 9723 164643)] ∧ Below w.heap.size w (w4.setCells γ1_0 0 (kd 786251 65521 12 9723 164643))) := ⟨H4.out.1.put 0 (off := 0) (vs := kd 786251 65521 12 9723 164643) rfl (Nat.le_of_ble_eq_true rfl), below_setCells _ o1_0.out _ _ _ H4.out.2⟩
  clear H4
  generalize hgw : World.setCells _ _ _ _ = w5 at H5 ⊢
  clear hgw
  refine rest_set (d := 3) rfl rfl rfl rfl ?_
  simp only [Act.put, sa, sz, ss]
  refine rest_nil (then_normal (wp_ret ?_))
  repeat (first | refine then_ret ?_ | refine block_ret ?_)
  have hf0 := var_T H5.out.1 0 rfl Try.isAgg27 Try.sizeOf27 rfl
  refine bodyPost_ret (v := .tuple #[.agg (kd 786251 65521 12 9723 164643).toArray, .bool true]) (by simp [results, Try.results10, asAddr, Act.eval, hf0]) rfl ?_
  exact ⟨rfl, H5.out.2⟩
set_option maxRecDepth 100000 in
theorem Of_2  (w : World) :
    Calls Try.prog 10 #[.int .i64 2] w fun e w' => e = .returned (.tuple #[V (kd 1152921504606846223 72057594037927889 16 613740293506734924 666621259561003659), .bool true]) ∧ Below w.heap.size w w' := by
  have H0 : Hid (_ ∧ _) := ⟨Mm.nil w, Below.refl w.heap.size w⟩
  go_enter Try.func10, Try.ntmps10
  refine wp_seq ?_
  refine walk_seqA 2 [.made (kd 0 0 0 0 0) 27, .quiet (.bool false)] (sB H0) ?ho1 ?he1
  case ho1 => exact ak (fun γ => ⟨rfl, fun w' => ex_made27 rfl⟩) (ak (fun _ => ⟨rfl, fun _ _ => rfl⟩) trivial)
  intro γ w1 l hM hl
  have H1 : Hid (Mm w1 [(γ 0, kd 0 0 0 0 0)] ∧ _) := growB H0 hM (Nat.le_refl _) hl [0] rfl (by decide)
  have o1_0 := ownB H0 hM (Nat.le_refl _) hl (i := 0) rfl
  clear hM hl l
  generalize γ 0 = γ1_0 at H1 o1_0 ⊢
  clear γ
  refine rest0 rfl (then_normal (wp_seq (wp_seq ?_)))
  refine walk_seqB 1 [.quiet (.int .i64 2)] H1 ?ho2 ?he2
  case ho2 => exact ak (fun _ => ⟨rfl, fun _ _ => rfl⟩) trivial
  intro _ w2 H2
  clear H1
  refine rest0 rfl (then_normal (wp_block (wp_seq ?_)))
  refine walk_seqB 2 [.quiet (.bool false), .quiet (.bool false)] H2 ?ho3 ?he3
  case ho3 => exact ak (by refine fun γ => ⟨rfl, fun w' h => ?_⟩; clear h; go_simp) (ak (fun _ => ⟨rfl, fun _ _ => rfl⟩) trivial)
  intro _ w3 H3
  clear H2
  refine rest0 rfl (then_normal (wp_cond_false rfl (wp_seq ?_)))
  refine walk_seqB 2 [.quiet (.bool true), .quiet (.bool true)] H3 ?ho4 ?he4
  case ho4 => exact ak (by refine fun γ => ⟨rfl, fun w' h => ?_⟩; clear h; go_simp) (ak (fun _ => ⟨rfl, fun _ _ => rfl⟩) trivial)
  intro _ w4 H4
  clear H3
  refine rest0 rfl (then_normal (wp_cond_true rfl (wp_seq ?_)))
  refine walk_seqB 2 [.quiet (.agg (pt 613740293506734924 666621259561003659 false).toArray), .quiet (.agg (kd 1152921504606846223 72057594037927889 16 613740293506734924 666621259561003659).toArray)] H4 ?ho5 ?he5
  case ho5 => exact ak (fun γ => ⟨rfl, fun w' _ => ex_build25_01 rfl rfl rfl⟩) (ak (fun γ => ⟨rfl, fun w' _ => ex_build27_0123 rfl rfl rfl rfl rfl⟩) trivial)
  intro _ w5 H5
  clear H4
  refine rest_at (l := [2, 3]) rfl ?_
  refine rest_store rfl rfl rfl (ex_storeT (vs := kd 1152921504606846223 72057594037927889 16 613740293506734924 666621259561003659) H5.out.1 0 rfl rfl rfl rfl Try.sizeOf27 rfl (Nat.le_of_ble_eq_true rfl)) ?_
  have H6 : Hid (Mm (w5.setCells γ1_0 0 (kd 1152921504606846223 72057594037927889 16 613740293506734924 666621259561003659)) [(γ1_0, kd 1152921504606846223 72057594037927889 16 613740293506734924 666621259561003659)] ∧ Below w.heap.size w (w5.setCells γ1_0 0 (kd 1152921504606846223 72057594037927889 16 613740293506734924 666621259561003659))) := ⟨H5.out.1.put 0 (off := 0) (vs := kd 1152921504606846223 72057594037927889 16 613740293506734924 666621259561003659) rfl (Nat.le_of_ble_eq_true rfl), below_setCells _ o1_0.out _ _ _ H5.out.2⟩
  clear H5
  generalize hgw : World.setCells _ _ _ _ = w6 at H6 ⊢
  clear hgw
  refine rest_set (d := 3) rfl rfl rfl rfl ?_
  simp only [Act.put, sa, sz, ss]
  refine rest_nil (then_normal (wp_ret ?_))
  repeat (first | refine then_ret ?_ | refine block_ret ?_)
  have hf0 := var_T H6.out.1 0 rfl Try.isAgg27 Try.sizeOf27 rfl
  refine bodyPost_ret (v := .tuple #[.agg (kd 1152921504606846223 72057594037927889 16 613740293506734924 666621259561003659).toArray, .bool true]) (by simp [results, Try.results10, asAddr, Act.eval, hf0]) rfl ?_
  exact ⟨rfl, H6.out.2⟩
theorem eq_self (X Y : Nat) (Z : Bool) (w : World) : (Op.equalIn 10000 25 (V (pt X Y Z)) (V (pt X Y Z))).run Try.prog w = .ok true w := by
  rw [run_eqP X Y X Y Z Z w, decide_eq_true rfl, decide_eq_true rfl, beq_self_eq_true]
  rfl
theorem eq_not (X Y X' Y' : Nat) (Z Z' : Bool) (h : ¬ ((X, Y, Z) : P3) = (X', Y', Z')) (w : World) : (Op.equalIn 10000 25 (V (pt X Y Z)) (V (pt X' Y' Z'))).run Try.prog w = .ok false w := by
  rw [run_eqP X Y X' Y' Z Z' w]
  refine congrArg (fun t => Result.ok t w) ?_
  by_cases h1 : X = X'
  · by_cases h2 : Y = Y'
    · have h3 : Z ≠ Z' := fun h3 => h (by rw [h1, h2, h3])
      simp [h3]
    · simp [h2]
  · simp [h1]
def di (p r X Y : Nat) (Z : Bool) : Bool := oc p X Y Z && (dM p (X, Y, Z) r).2.2
end
end Rg
end Go.Proofs.Ytjmbgchoioepjaa
end
section
namespace Go.Proofs.Ytjmbgchoioepjaa
open Go.RowKit
namespace Rg
/-- All that was there is as it was, but block g. -/
structure Kp (g : Nat) (w w' : World) : Prop where
  os : w'.os = w.os
  tape : w'.tape = w.tape
  output : w'.output = w.output
  size : w.heap.size ≤ w'.heap.size
  block : ∀ k, k < w.heap.size → k ≠ g → w'.heap[k]? = w.heap[k]?
theorem Kp.refl (g : Nat) (w : World) : Kp g w w := ⟨rfl, rfl, rfl, Nat.le_refl _, fun _ _ _ => rfl⟩
theorem Kp.trans {g : Nat} {a b c : World} (h : Kp g a b) (k : Below b.heap.size b c) : Kp g a c :=
  ⟨k.os.trans h.os, k.tape.trans h.tape, k.output.trans h.output, Nat.le_trans h.size k.size, fun i hi hg => (k.block i (Nat.lt_of_lt_of_le hi h.size)).trans (h.block i hi hg)⟩
theorem heap_setCells (g : Nat) (k : Nat) (hk : k ≠ g) : ∀ (vs : List Value) (o : Nat) (w : World), (w.setCells g o vs).heap[k]? = w.heap[k]?
  | [], _, _ => rfl
  | v :: r, o, w => by
    rw [World.setCells, heap_setCells g k hk r, Below.heap_setCell _ _ _ _ hk]
theorem Kp.put {g b off : Nat} {vs : List Value} {a w : World} (h : Kp g a w) (hb : b = g ∨ a.heap.size ≤ b) : Kp g a (w.setCells b off vs) := by
  have hB := below_setCells (B := 0) (w0 := w) b (Nat.zero_le _) vs off w (Below.refl _ _)
  refine ⟨hB.os.trans h.os, hB.tape.trans h.tape, hB.output.trans h.output, by rw [size_setCells]; exact h.size, fun k hk hg => ?_⟩
  rw [heap_setCells b k (by rcases hb with e | e <;> omega) vs off w]
  exact h.block k hk hg
theorem Below.kp {B g : Nat} {a w w' : World} (h : Below B a w) (k : Kp g w w') (hg : B ≤ g) (hB : B ≤ w.heap.size) : Below B a w' :=
  ⟨k.os.trans h.os, k.tape.trans h.tape, k.output.trans h.output, Nat.le_trans h.size k.size, fun i hi => (k.block i (Nat.lt_of_lt_of_le hi hB) (by omega)).trans (h.block i hi)⟩
theorem Blk.kp {g b : Nat} {cs : List Value} {w w' : World} (h : Blk w b cs) (k : Kp g w w') (hb : b < w.heap.size) (hg : b ≠ g) : Blk w' b cs := fun j v hv => by
  have e := k.block b hb hg
  exact ⟨by rw [World.cell?_of_block (w := w) (a := ⟨b, j, none⟩) e]; exact (h j v hv).1, by rw [World.frozen?_of_block (w := w) (a := ⟨b, j, none⟩) e]; exact (h j v hv).2⟩
theorem Mm.change {w w' : World} {l : List (Nat × List Value)} (h : Mm w l) (k : Nat) {g : Nat} {cs cs' : List Value} (hk : l[k]? = some (g, cs)) (hp : Kp g w w') (hn : Mm w' [(g, cs')]) : Mm w' (l.set k (g, cs')) := by
  have hkl : k < l.length := (List.getElem?_eq_some_iff.1 hk).1
  have hke : l[k] = (g, cs) := (List.getElem?_eq_some_iff.1 hk).2
  have hpw := List.pairwise_iff_getElem.1 h.nd
  refine ⟨fun p hp2 => ?_, ?_⟩
  · obtain ⟨j, hj, e⟩ := List.getElem_of_mem hp2
    rw [List.getElem_set] at e
    have hj' : j < l.length := by simpa using hj
    split at e
    · subst e
      exact hn.blk _ (List.mem_singleton.2 rfl)
    · rename_i hne
      subst e
      have hb := h.blk _ (List.getElem_mem hj')
      refine ⟨Nat.lt_of_lt_of_le hb.1 hp.size, Blk.kp hb.2 hp hb.1 ?_⟩
      rcases Nat.lt_or_ge j k with h' | h'
      · have := hpw j k hj' hkl h'
        rw [hke] at this
        exact this
      · have := hpw k j hkl hj' (by omega)
        rw [hke] at this
        exact this.symm
  · refine List.pairwise_iff_getElem.2 fun i j hi hj hij => ?_
    have hi' : i < l.length := by simpa using hi
    have hj' : j < l.length := by simpa using hj
    have := hpw i j hi' hj' hij
    rw [List.getElem_set, List.getElem_set]
    split
    · rename_i e1
      subst e1
      rw [if_neg (by omega)]
      rw [hke] at this
      exact this
    · split
      · rename_i e2
        subst e2
        rw [hke] at this
        exact this
      · exact this
theorem Mm.two {w : World} {l : List (Nat × List Value)} (h : Mm w l) (i j : Nat) {p q : Nat × List Value} (hi : l[i]? = some p) (hj : l[j]? = some q) (hij : i ≠ j) : Mm w [p, q] := by
  have hpw := List.pairwise_iff_getElem.1 h.nd
  obtain ⟨hi1, hi2⟩ := List.getElem?_eq_some_iff.1 hi
  obtain ⟨hj1, hj2⟩ := List.getElem?_eq_some_iff.1 hj
  have hne : p.1 ≠ q.1 := by
    rcases Nat.lt_or_ge i j with h' | h'
    · have := hpw i j hi1 hj1 h'
      rw [hi2, hj2] at this
      exact this
    · have := hpw j i hj1 hi1 (by omega)
      rw [hi2, hj2] at this
      exact this.symm
  refine ⟨fun r hr => ?_, ?_⟩
  · simp only [List.mem_cons, List.not_mem_nil, or_false] at hr
    rcases hr with e | e
    · rw [e]; exact h.blk p (List.mem_of_getElem? hi)
    · rw [e]; exact h.blk q (List.mem_of_getElem? hj)
  · exact List.Pairwise.cons (fun r hr => by rw [List.mem_singleton.1 hr]; exact hne) (List.pairwise_singleton _ _)
theorem keepK {q : Nat} {w₀ w w' : World} {L : List (Nat × List Value)} (H : Hid (Mm w L ∧ Kp q w₀ w)) (hb : Below w.heap.size w w') : Hid (Mm w' L ∧ Kp q w₀ w') :=
  ⟨H.out.1.below hb, H.out.2.trans hb⟩
end Rg
end Go.Proofs.Ytjmbgchoioepjaa
end
section
namespace Go.Proofs.Ytjmbgchoioepjaa
open Go.RowKit
namespace Rg
abbrev ent (a : P3) (k : Int) (n : Nat) : MapEntry := ⟨V (pc a), .int .i64 k, n⟩
theorem check_pt (e : Bool) (a : P3) (w : World) : (Instr.checkKey e 10000 25 (V (pc a))).run Try.prog w = .ok () w := by kernel_rfl
theorem eq_pt (a b : P3) (w : World) : (Op.equal 25 (V (pc a)) (V (pc b))).run Try.prog w = .ok (decide (a = b)) w := by
  by_cases h : a = b
  · subst h
    rw [decide_eq_true rfl]
    exact eq_self a.1 a.2.1 a.2.2 w
  · rw [decide_eq_false h]
    exact eq_not a.1 a.2.1 b.1 b.2.1 a.2.2 b.2.2 h w
theorem find_0 (a : P3) (w : World) : (Instr.findKey 25 (V (pc a)) []).run Try.prog w = .ok none w := by kernel_rfl
theorem find_ask (a b : P3) (k : Int) (n : Nat) (r : List MapEntry) (w : World) : (Instr.findKey 25 (V (pc a)) (ent b k n :: r)).run Try.prog w = (Instr.findAsking 25 (V (pc a)) (ent b k n :: r)).run Try.prog w := by kernel_rfl
theorem find_1 (a b : P3) (k : Int) (n : Nat) (w : World) : (Instr.findKey 25 (V (pc a)) [ent b k n]).run Try.prog w = .ok (if a = b then some (0, .int .i64 k) else none) w := by
  rw [find_ask]
  unfold Instr.findAsking
  simp only [Sem.run_bind, eq_pt, Result.andThen_ok]
  by_cases h : a = b
  · simp [h]
  · simp [h, Instr.findAsking]
theorem find_2 (a b : P3) (k k' : Int) (n n' : Nat) (h : ¬ a = b) (w : World) : (Instr.findKey 25 (V (pc a)) [ent b k n, ent a k' n']).run Try.prog w = .ok (some (1, .int .i64 k')) w := by
  rw [find_ask]
  unfold Instr.findAsking
  simp only [Sem.run_bind, eq_pt, Result.andThen_ok]
  rw [decide_eq_false h]
  unfold Instr.findAsking
  simp [eq_pt]
theorem run_und99 (w : World) : (underlying 99).run Try.prog w = .ok (.map 25 3) w := by kernel_rfl
theorem zero_3 (w : World) : (zeroValue 3).run Try.prog w = .ok (.int .i64 0) w := by kernel_rfl
section
variable {ρ : Operand → Value} {o : Oper} {x y z : Operand} {g : Nat} {w : World} {a b : P3}
theorem ex_look {es : Array MapEntry} {c : Nat} {v : Int} {r : Option (Nat × Value)} (hb : w.heap[g]? = some (.map es c)) (hf : (Instr.findKey 25 (V (pc a)) es.toList).run Try.prog w = .ok r w) (hr : (match r with | some (_, v) => v | none => Value.int .i64 0) = .int .i64 v)
    (ho : o.op = .lookup 99 x y false) (hx : ρ x = .map (some g)) (hy : ρ y = V (pc a)) : (execOp ρ o).run Try.prog w = .ok (.value (.int .i64 v)) w := by
  have hl : (Instr.lookup 99 (.map (some g)) (V (pc a)) false).run Try.prog w = .ok (.int .i64 v) w := by
    simp only [Instr.lookup, Sem.run_bind, run_und99, Result.andThen_ok, MapKept.run_getObj_map hb, Sem.run_pure, check_pt, hf]
    cases r with
    | none =>
      have hr2 : Value.int .i64 0 = .int .i64 v := hr
      rw [← hr2]
      simp
    | some q => simp; exact hr
  simp only [execOp, ho, hx, hy]
  simp [hl]
/-- The block of a map is written. -/
def wm (w : World) (g : Nat) (es : Array MapEntry) (c : Nat) : World := { w with heap := w.heap.setIfInBounds g (.map es c) }
theorem ex_entryN {es : Array MapEntry} {c : Nat} (hb : w.heap[g]? = some (.map es c)) (hf : (Instr.findKey 25 (V (pc a)) es.toList).run Try.prog w = .ok none w)
    (ho : o.op = .mapEntry 99 x y) (hx : ρ x = .map (some g)) (hy : ρ y = V (pc a)) : (execOp ρ o).run Try.prog w = .ok (.value (.tuple #[.int .i64 0, .int .i64 (c : Int)])) (wm w g (es.push (ent a 0 c)) (c + 1)) := by
  have hl : (Instr.mapEntry 99 (.map (some g)) (V (pc a))).run Try.prog w = .ok (.tuple #[.int .i64 0, .int .i64 (c : Int)]) (wm w g (es.push (ent a 0 c)) (c + 1)) := by
    simp only [Instr.mapEntry, Sem.run_bind, run_und99, Result.andThen_ok, MapKept.run_getObj_map hb, check_pt, hf, zero_3]
    simp only [MapKept.run_setObj_map _ hb, Result.andThen_ok]
    rfl
  simp only [execOp, ho, hx, hy]
  simp [hl]
theorem same_pt (a : P3) : Instr.sameBits 10000 (V (pc a)) (V (pc a)) = true := by
  show (_ == _ && ([(U a.1, U a.1), (U a.2.1, U a.2.1), (Value.bool a.2.2, Value.bool a.2.2)].all fun q => Instr.sameBits 9999 q.1 q.2)) = true
  simp [Instr.sameBits]
theorem ex_entryS {k : Int} {n c : Nat} (hb : w.heap[g]? = some (.map #[ent a k n] c))
    (ho : o.op = .mapEntry 99 x y) (hx : ρ x = .map (some g)) (hy : ρ y = V (pc a)) : (execOp ρ o).run Try.prog w = .ok (.value (.tuple #[.int .i64 k, .int .i64 (n : Int)])) (wm w g #[ent a k n] c) := by
  have hf := find_1 a a k n w
  rw [if_pos rfl] at hf
  have hl : (Instr.mapEntry 99 (.map (some g)) (V (pc a))).run Try.prog w = .ok (.tuple #[.int .i64 k, .int .i64 (n : Int)]) (wm w g #[ent a k n] c) := by
    simp only [Instr.mapEntry, Sem.run_bind, run_und99, Result.andThen_ok, MapKept.run_getObj_map hb, check_pt, hf]
    simp only [Instr.keyThatStays]
    rw [show ((((#[ent a k n] : Array MapEntry)[0]?).map (·.key)).getD (V (pc a))) = V (pc a) from rfl, same_pt]
    simp only [if_true, Sem.run_pure, Result.andThen_ok, MapKept.run_setObj_map _ hb]
    rfl
  simp only [execOp, ho, hx, hy]
  simp [hl]
theorem ex_eStore {es es' : Array MapEntry} {c n i : Nat} {v : Value} (hb : w.heap[g]? = some (.map es c)) (hi : es.findIdx? (fun e => (e.born : Int) == (n : Int)) = some i) (he : (es.modify i fun e => { e with val := v }) = es')
    (ho : o.op = .entryStore 99 x y z) (hx : ρ x = .map (some g)) (hy : ρ y = .int .i64 (n : Int)) (hz : ρ z = v) : (execOp ρ o).run Try.prog w = .ok .skip (wm w g es' c) := by
  have hl : (Instr.entryStore 99 (.map (some g)) (.int .i64 (n : Int)) v).run Try.prog w = .ok () (wm w g es' c) := by
    simp only [Instr.entryStore, Sem.run_bind, MapKept.run_getObj_map hb, Result.andThen_ok]
    rw [show (asInt (.int .i64 (n : Int))).run Try.prog w = .ok (n : Int) w from rfl]
    simp only [Result.andThen_ok, hi, MapKept.run_setObj_map _ hb, he]
    rfl
  simp only [execOp, ho, hx, hy, hz]
  simp [hl]
theorem ex_makeM0 (ho : o.op = .makeMap 99 none) : (execOp ρ o).run Try.prog w = .ok (.value (.map (some w.heap.size))) (w.alloc (.map #[] 0)) := by
  simp only [execOp, ho, Option.map_none]
  simp [run_makeMap]
theorem wm_get (w : World) {g : Nat} (es : Array MapEntry) (c : Nat) (h : g < w.heap.size) : (wm w g es c).heap[g]? = some (.map es c) := by
  unfold wm
  simp [h]
theorem wm_other (w : World) {g k : Nat} (es : Array MapEntry) (c : Nat) (h : k ≠ g) : (wm w g es c).heap[k]? = w.heap[k]? := by
  unfold wm
  simp [Ne.symm h]
end
/-- What stays where a map of the call's own is written: what was there, and what the map holds. -/
structure Mr (g : Nat) (es : Array MapEntry) (c : Nat) (w0 w : World) : Prop where
  bl : Below w0.heap.size w0 w
  at_ : w.heap[g]? = some (.map es c)
  ge : w0.heap.size ≤ g
theorem idx_1 (a : P3) (k : Int) : (#[ent a k 0] : Array MapEntry).findIdx? (fun e => (e.born : Int) == ((0 : Nat) : Int)) = some 0 := by
  simp [List.findIdx?_cons]
theorem idx_2 (a b : P3) (k k' : Int) : (#[ent a k 0, ent b k' 1] : Array MapEntry).findIdx? (fun e => (e.born : Int) == ((1 : Nat) : Int)) = some 1 := by
  simp [List.findIdx?_cons]
section
variable {g c : Nat} {es : Array MapEntry} {w0 w w' : World} {L : List (Nat × List Value)}
theorem Mr.size (h : Mr g es c w0 w) : w0.heap.size ≤ w.heap.size := h.bl.size
theorem Mr.lt (h : Mr g es c w0 w) : g < w.heap.size := (Array.getElem?_eq_some_iff.1 h.at_).1
theorem Mr.grow (h : Mr g es c w0 w) (hb : Below w.heap.size w w') : Mr g es c w0 w' := ⟨h.bl.trans (hb.mono h.bl.size), (hb.block g h.lt).trans h.at_, h.ge⟩
theorem Mr.made (h : Below w0.heap.size w0 w) : Mr w.heap.size #[] 0 w0 (w.alloc (.map #[] 0)) := ⟨h.alloc h.size _, by show (w.heap.push _)[w.heap.size]? = _; simp, h.size⟩
theorem Mm.wm (hm : Mm w L) (h : Mr g es c w0 w) (es' : Array MapEntry) (c' : Nat) : Mm (wm w g es' c') L := by
  refine ⟨fun q hq => ?_, hm.nd⟩
  obtain ⟨h1, h2⟩ := hm.blk q hq
  have hs : (Rg.wm w g es' c').heap.size = w.heap.size := by unfold Rg.wm; simp
  refine ⟨by rw [hs]; exact h1, fun j v hv => ?_⟩
  obtain ⟨h3, h4⟩ := h2 j v hv
  have hne : q.1 ≠ g := fun e => by
    unfold World.cell? at h3
    simp only at h3
    rw [e, h.at_] at h3
    cases h3
  unfold World.cell? World.frozen? at *
  simp only at *
  rw [wm_other w es' c' hne]
  exact ⟨h3, h4⟩
theorem Mr.wm (h : Mr g es c w0 w) (es' : Array MapEntry) (c' : Nat) : Mr g es' c' w0 (Rg.wm w g es' c') := by
  refine ⟨⟨h.bl.os, h.bl.tape, h.bl.output, ?_, fun k hk => ?_⟩, wm_get w es' c' h.lt, h.ge⟩
  · have hs : (Rg.wm w g es' c').heap.size = w.heap.size := by unfold Rg.wm; simp
    rw [hs]; exact h.bl.size
  · have := h.ge
    rw [wm_other w es' c' (by omega)]
    exact h.bl.block k hk
end
/-! A region whose order is open, taken order by order. -/
section
variable {P : Program} {Q : Exit → Act → World → Prop} {ops : Array Oper} {a : Act} {w : World}
theorem any_ready {fuel : Nat} {l : Array Bool} (rs : List Nat) (hr : Region.ready .any ops l = rs) (h0 : rs ≠ []) (h : ∀ i ∈ rs, wpOp P ops Q i (wpAny P .any ops Q fuel (l.setIfInBounds i true)) a w) : wpAny P .any ops Q (fuel + 1) l a w :=
  ⟨fun e => absurd (hr.symm.trans e) h0, fun i hi => h i (hr ▸ hi)⟩
theorem op_val {i d : Nat} {K : Act → World → Prop} {o : Oper} {v : Value} {w' : World} (ho : ops[i]? = some o) (hd : o.dst = some d) (hw : Region.wanted o (yielded ops a.tmps) = true) (hx : (execOp a.eval o).run P w = .ok (.value v) w') (h : K (a.put (some d) v) w') : wpOp P ops Q i K a w := by
  refine wpOp_step ho (fun K' hK => ?_)
  rw [if_pos hw]
  unfold Oper.wp
  rw [hx]
  exact hK _ _ (by rw [hd]; exact h)
theorem op_skip {i : Nat} {K : Act → World → Prop} {o : Oper} {w' : World} (ho : ops[i]? = some o) (hd : o.dst = none) (hw : Region.wanted o (yielded ops a.tmps) = true) (hx : (execOp a.eval o).run P w = .ok .skip w') (h : K a w') : wpOp P ops Q i K a w := by
  refine wpOp_step ho (fun K' hK => ?_)
  rw [if_pos hw]
  unfold Oper.wp
  rw [hx]
  exact hK _ _ (by rw [hd]; exact h)
theorem region_k {id n : Nat} (F : Act) (R : World → Prop) (hm : P.follows .mixedOrders = true) (hn : ops.size = n) (h : wpAny P .any ops (fun e a w => e = .normal ∧ a = F ∧ R w) n (Array.replicate n false) a w.drew) (hk : ∀ w2, R w2 → Q .normal F w2) : (Code.region id ops true).wp P Q a w := by
  subst hn
  refine Code.wp_mono (fun e a' w' h' => ?_) (wp_region_any hm h)
  obtain ⟨rfl, rfl, h3⟩ := h'
  exact hk _ h3
end
end Rg
end Go.Proofs.Ytjmbgchoioepjaa
end
