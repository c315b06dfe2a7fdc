/- Texts of the proof, joined. -/
import Derived.Test.YtjmbgchoioepjaaP3
import Derived.WalkKit
import Derived.MapKept
section
namespace Go.Proofs.Ytjmbgchoioepjaa
open Go.RowKit
namespace Rg
/-- Two points' cells. -/
abbrev p2 (a b : Nat) (z : Bool) (a' b' : Nat) (z' : Bool) : List Value := [U a, U b, .bool z, U a', U b', .bool z']
theorem rounds_in {P : Program} {c : Code} {Q : Exit → Act → World → Prop} {n : Nat} {a : Act} {w : World} (h : c.wp P (Exit.then (Code.rounds P c Q n) Q) a w) : Code.rounds P c Q (n + 1) a w := h
theorem ex_bs1 {ρ : Operand → Value} {o : Oper} {x : Operand} {a b : Nat} {z : Bool} {w : World} (ho : o.op = .buildSlice 92 1 #[(0, x)]) (hx : ρ x = V (pt a b z)) :
    (execOp ρ o).run Try.prog w = .ok (.value (.slice (some ⟨w.heap.size, 0, none⟩) 1 1)) (w.alloc (.cells (pt a b z).toArray 25)) := by
  simp only [execOp, ho, List.map_toArray, List.map_cons, List.map_nil, hx]
  kernel_rfl
theorem ex_bs2 {ρ : Operand → Value} {o : Oper} {x y : Operand} {a b a' b' : Nat} {z z' : Bool} {w : World} (ho : o.op = .buildSlice 92 2 #[(0, x), (1, y)]) (hx : ρ x = V (pt a b z)) (hy : ρ y = V (pt a' b' z')) :
    (execOp ρ o).run Try.prog w = .ok (.value (.slice (some ⟨w.heap.size, 0, none⟩) 2 2)) (w.alloc (.cells (p2 a b z a' b' z').toArray 25)) := by
  simp only [execOp, ho, List.map_toArray, List.map_cons, List.map_nil, hx, hy]
  kernel_rfl
/-- What a suite is. -/
structure Kd (s : Int) (p r c gx gy : Nat) : Prop where
  pr : Pr p
  rb : r < 18446744073709551616
  cb : c < 18446744073709551616
  kind : ∀ w, Calls Try.prog 42 #[.int .i64 s] w fun e w' => e = .returned (.tuple #[V (kd p r c gx gy), .int .i64 0]) ∧ Below w.heap.size w w'
theorem kd_1 : Kd 1 786251 65521 12 9723 164643 := ⟨⟨by decide, by decide⟩, by decide, by decide, kindOf_1⟩
theorem kd_2 : Kd 2 1152921504606846223 72057594037927889 16 613740293506734924 666621259561003659 := ⟨⟨by decide, by decide⟩, by decide, by decide, kindOf_2⟩
theorem tO_lt {p X Y : Nat} {Z : Bool} (hp : Pr p) (hX : X < p) (hY : Y < p) : Lt3 p (tO X Y Z) := by
  unfold tO
  split
  · exact ⟨zero_lt hp, zero_lt hp, zero_lt hp⟩
  · exact ⟨hX, hY, one_lt hp⟩
theorem call42 : ∀ args w, (callFunc 42 args).run Try.prog w = .ok (.enter 42 args) w := by intro args w; go_simp
theorem call43 : ∀ args w, (callFunc 43 args).run Try.prog w = .ok (.enter 43 args) w := by intro args w; go_simp
theorem call46 : ∀ args w, (callFunc 46 args).run Try.prog w = .ok (.enter 46 args) w := by intro args w; go_simp
theorem call51 : ∀ args w, (callFunc 51 args).run Try.prog w = .ok (.enter 51 args) w := by intro args w; go_simp
section
variable {s : Int} {p r c gx gy : Nat}
set_option maxHeartbeats 1000000 in
set_option maxRecDepth 100000 in
theorem kw1_ok (k : Kd s p r c gx gy) (X Y : Nat) (Z : Bool) (h1 : oc p X Y Z = true) (g : Nat) (w : World) (hm : Mm w [(g, pt X Y Z)]) :
    Calls Try.prog 43 #[.int .i64 s, .slice (some ⟨g, 0, none⟩) 1 1] w fun e w' => e = .returned (.tuple #[V (kd p r c gx gy), .int .i64 0]) ∧ Below w.heap.size w w' := by
  have H0 : Hid (_ ∧ _) := ⟨hm, Below.refl w.heap.size w⟩
  clear hm
  go_enter Try.func43, Try.ntmps43
  refine wp_seq ?_
  refine walk_seqA 2 [.made (kd 0 0 0 0 0) 72, .quiet (.int .i64 0)] (sB H0) ?ho1 ?he1
  case ho1 => exact ak (fun γ => ⟨rfl, fun w' => ex_made72 rfl⟩) (ak (fun _ => ⟨rfl, fun _ _ => rfl⟩) trivial)
  intro γ w1 l hM hl
  have H1 : Hid (Mm w1 [(γ 0, kd 0 0 0 0 0), (g, pt X Y Z)] ∧ _) := growB H0 hM (Nat.le_refl _) hl [0] rfl (by decide)
  have o1_0 := ownB H0 hM (Nat.le_refl _) hl (i := 0) rfl
  clear hM hl l
  generalize γ 0 = γ1_0 at H1 o1_0 ⊢
  clear γ
  refine rest0 rfl (then_normal (wp_seq ?_))
  refine walk_seqA 8 [.quiet (.int .i64 s), .call (.tuple #[.agg (kd p r c gx gy).toArray, .int .i64 0]), .quiet (.tuple #[.agg (kd p r c gx gy).toArray, .int .i64 0]), .quiet (.agg (kd p r c gx gy).toArray), .quiet (.int .i64 0), .made (kd 0 0 0 0 0) 72, .laid 5 (kd 0 0 0 0 0) (kd p r c gx gy), .quiet (.int .i64 0)] (sB H1) ?ho2 ?he2 (hL := ?hL2)
  case hL2 => exact ⟨⟨_, rfl⟩, trivial⟩
  case ho2 => exact ak (fun _ => ⟨rfl, fun _ _ => rfl⟩) (ak (fun γ => ⟨rfl, fun w' h => ⟨42, #[.int .i64 s], exec_call rfl call42 rfl (mpn rfl), k.kind w'⟩⟩) (ak (fun _ => ⟨rfl, fun _ _ => rfl⟩) (ak (by refine fun γ => ⟨rfl, fun w' h => ?_⟩; clear h; go_simp) (ak (by refine fun γ => ⟨rfl, fun w' h => ?_⟩; clear h; go_simp) (ak (fun γ => ⟨rfl, fun w' => ex_made72 rfl⟩) (ak (fun γ => ⟨rfl, rfl, rfl, fun w' h => ex_laidT h rfl rfl Try.sizeOf72 rfl rfl rfl⟩) (ak (fun _ => ⟨rfl, fun _ _ => rfl⟩) trivial)))))))
  intro γ w2 l hM hl
  have H2 : Hid (Mm w2 [(γ 5, kd p r c gx gy), (γ1_0, kd 0 0 0 0 0), (g, pt X Y Z)] ∧ _) := growB H1 hM (Nat.le_refl _) hl [5] rfl (by decide)
  have o2_5 := ownB H1 hM (Nat.le_refl _) hl (i := 5) rfl
  clear hM hl l H1
  generalize γ 5 = γ2_5 at H2 o2_5 ⊢
  clear γ
  refine rest0 rfl (then_normal (wp_seq (wp_seq ?_)))
  refine walk_seqB 2 [.quiet (.int .i64 0), .quiet (.bool false)] H2 ?ho3 ?he3
  case ho3 => exact ak (fun _ => ⟨rfl, fun _ _ => rfl⟩) (ak (by refine fun γ => ⟨rfl, fun w' h => ?_⟩; clear h; go_simp) trivial)
  intro _ w3 H3
  clear H2
  refine rest0 rfl (then_normal (wp_cond_false rfl ?_))
  refine wp_skip (then_normal ?_)
  refine wp_seq (wp_seq ?_)
  refine walk_seqB 3 [.quiet (.slice (some ⟨g, 0, none⟩) 1 1), .quiet (.int .i64 1), .quiet (.int .i64 0)] H3 ?ho4 ?he4
  case ho4 => exact ak (fun _ => ⟨rfl, fun _ _ => rfl⟩) (ak (by refine fun γ => ⟨rfl, fun w' h => ?_⟩; clear h; go_simp) (ak (fun _ => ⟨rfl, fun _ _ => rfl⟩) trivial))
  intro _ w4 H4
  clear H3
  refine rest0 rfl (then_normal (wp_block ?_))
  refine wp_loop_rounds 2 ?_
  refine rounds_in (n := 1) ?_
  refine wp_seq ?_
  refine walk_seqB 1 [.quiet (.bool true)] H4 ?ho5 ?he5
  case ho5 => exact ak (by refine fun γ => ⟨rfl, fun w' h => ?_⟩; clear h; go_simp) trivial
  intro _ w5 H5
  clear H4
  refine rest0 rfl (then_normal (wp_seq ?_))
  refine wp_cond_true rfl (wp_skip ?_)
  refine then_normal (wp_seq ?_)
  refine wp_block (wp_seq ?_)
  refine walk_seqA 4 [.quiet (PT g 0), .quiet (.agg (pt X Y Z).toArray), .made (pt 0 0 false) 25, .laid 2 (pt 0 0 false) (pt X Y Z)] (sB H5) ?ho6 ?he6 (hL := ?hL6)
  case hL6 => exact ⟨⟨_, rfl⟩, trivial⟩
  case ho6 => exact ak (by refine fun γ => ⟨rfl, fun w' h => ?_⟩; clear h; go_simp) (ak (fun γ => ⟨rfl, fun w' h => ex_loadT h 2 rfl rfl rfl Try.isAgg25 Try.sizeOf25 rfl rfl⟩) (ak (fun γ => ⟨rfl, fun w' => ex_made25 rfl⟩) (ak (fun γ => ⟨rfl, rfl, rfl, fun w' h => ex_laidT h rfl rfl Try.sizeOf25 rfl rfl rfl⟩) trivial)))
  intro γ w6 l hM hl
  have H6 : Hid (Mm w6 [(γ 2, pt X Y Z), (γ2_5, kd p r c gx gy), (γ1_0, kd 0 0 0 0 0), (g, pt X Y Z)] ∧ _) := growB H5 hM (Nat.le_refl _) hl [2] rfl (by decide)
  have o6_2 := ownB H5 hM (Nat.le_refl _) hl (i := 2) rfl
  clear hM hl l H5
  generalize γ 2 = γ6_2 at H6 o6_2 ⊢
  clear γ
  refine rest0 rfl (then_normal (wp_seq ?_))
  refine walk_seqB 4 [.quiet (.agg (kd p r c gx gy).toArray), .quiet (.agg (pt X Y Z).toArray), .call (.bool true), .quiet (.bool false)] H6 ?ho7 ?he7
  case ho7 => exact ak (fun γ => ⟨rfl, fun w' h => ex_loadT h 1 rfl rfl rfl Try.isAgg72 Try.sizeOf72 rfl rfl⟩) (ak (fun γ => ⟨rfl, fun w' h => ex_loadT h 0 rfl rfl rfl Try.isAgg25 Try.sizeOf25 rfl rfl⟩) (ak (fun γ => ⟨rfl, fun w' h => ⟨50, #[.agg (kd p r c gx gy).toArray, .agg (pt X Y Z).toArray], exec_call rfl call50 rfl (mpn rfl), on_is k.pr X Y Z _ h1 w'⟩⟩) (ak (by refine fun γ => ⟨rfl, fun w' h => ?_⟩; clear h; go_simp) trivial)))
  intro _ w7 H7
  clear H6
  refine rest0 rfl (then_normal (wp_cond_false rfl ?_))
  refine wp_skip (block_normal (then_normal ?_))
  refine walk_seqB 1 [.quiet (.int .i64 1)] H7 ?ho8 ?he8
  case ho8 => exact ak (fun γ => ⟨rfl, fun w' _ => by kernel_rfl⟩) trivial
  intro _ w8 H8
  clear H7
  refine rest_at (l := [1]) rfl ?_
  refine rest_set (d := 21) rfl rfl rfl rfl ?_
  simp only [Act.put, sa, sz, ss]
  refine rest_nil (then_normal ?_)
  refine rounds_in (n := 0) ?_
  refine wp_seq ?_
  refine walk_seqB 1 [.quiet (.bool false)] H8 ?ho9 ?he9
  case ho9 => exact ak (by refine fun γ => ⟨rfl, fun w' h => ?_⟩; clear h; go_simp) trivial
  intro _ w9 H9
  clear H8
  refine rest0 rfl (then_normal (wp_seq (wp_cond_false rfl ?_)))
  refine wp_exit ?_
  repeat refine then_exit ?_
  refine block_exit ?_
  refine then_normal (wp_seq ?_)
  refine walk_seqB 1 [.quiet (.agg (kd p r c gx gy).toArray)] H9 ?ho10 ?he10
  case ho10 => exact ak (fun γ => ⟨rfl, fun w' h => ex_loadT h 1 rfl rfl rfl Try.isAgg72 Try.sizeOf72 rfl rfl⟩) trivial
  intro _ w10 H10
  clear H9
  refine rest_at (l := [1, 2]) rfl ?_
  refine rest_store rfl rfl rfl (ex_storeT (vs := kd p r c gx gy) H10.out.1 2 rfl rfl rfl rfl Try.sizeOf72 rfl (Nat.le_of_ble_eq_true rfl)) ?_
  have H11 : Hid (Mm (w10.setCells γ1_0 0 (kd p r c gx gy)) [(γ6_2, pt X Y Z), (γ2_5, kd p r c gx gy), (γ1_0, kd p r c gx gy), (g, pt X Y Z)] ∧ Below w.heap.size w (w10.setCells γ1_0 0 (kd p r c gx gy))) := ⟨H10.out.1.put 2 (off := 0) (vs := kd p r c gx gy) rfl (Nat.le_of_ble_eq_true rfl), below_setCells _ o1_0.out _ _ _ H10.out.2⟩
  clear H10
  generalize hgw : World.setCells _ _ _ _ = w11 at H11 ⊢
  clear hgw
  refine rest_set (d := 5) rfl rfl rfl rfl ?_
  simp only [Act.put, sa, sz, ss]
  refine rest_nil (then_normal (wp_ret ?_))
  repeat (first | refine then_ret ?_ | refine block_ret ?_)
  have hf0 := var_T H11.out.1 2 rfl Try.isAgg72 Try.sizeOf72 rfl
  refine bodyPost_ret (v := .tuple #[.agg (kd p r c gx gy).toArray, .int .i64 0]) (by simp [results, Try.results43, asAddr, Act.eval, hf0]) rfl ?_
  exact ⟨rfl, H11.out.2⟩
set_option maxHeartbeats 1000000 in
set_option maxRecDepth 100000 in
theorem kw2_ok (k : Kd s p r c gx gy) (X Y : Nat) (Z : Bool) (X' Y' : Nat) (Z' : Bool) (h1 : oc p X Y Z = true) (h2 : oc p X' Y' Z' = true) (g : Nat) (w : World) (hm : Mm w [(g, p2 X Y Z X' Y' Z')]) :
    Calls Try.prog 43 #[.int .i64 s, .slice (some ⟨g, 0, none⟩) 2 2] w fun e w' => e = .returned (.tuple #[V (kd p r c gx gy), .int .i64 0]) ∧ Below w.heap.size w w' := by
  have H0 : Hid (_ ∧ _) := ⟨hm, Below.refl w.heap.size w⟩
  clear hm
  go_enter Try.func43, Try.ntmps43
  refine wp_seq ?_
  refine walk_seqA 2 [.made (kd 0 0 0 0 0) 72, .quiet (.int .i64 0)] (sB H0) ?ho1 ?he1
  case ho1 => exact ak (fun γ => ⟨rfl, fun w' => ex_made72 rfl⟩) (ak (fun _ => ⟨rfl, fun _ _ => rfl⟩) trivial)
  intro γ w1 l hM hl
  have H1 : Hid (Mm w1 [(γ 0, kd 0 0 0 0 0), (g, p2 X Y Z X' Y' Z')] ∧ _) := growB H0 hM (Nat.le_refl _) hl [0] rfl (by decide)
  have o1_0 := ownB H0 hM (Nat.le_refl _) hl (i := 0) rfl
  clear hM hl l
  generalize γ 0 = γ1_0 at H1 o1_0 ⊢
  clear γ
  refine rest0 rfl (then_normal (wp_seq ?_))
  refine walk_seqA 8 [.quiet (.int .i64 s), .call (.tuple #[.agg (kd p r c gx gy).toArray, .int .i64 0]), .quiet (.tuple #[.agg (kd p r c gx gy).toArray, .int .i64 0]), .quiet (.agg (kd p r c gx gy).toArray), .quiet (.int .i64 0), .made (kd 0 0 0 0 0) 72, .laid 5 (kd 0 0 0 0 0) (kd p r c gx gy), .quiet (.int .i64 0)] (sB H1) ?ho2 ?he2 (hL := ?hL2)
  case hL2 => exact ⟨⟨_, rfl⟩, trivial⟩
  case ho2 => exact ak (fun _ => ⟨rfl, fun _ _ => rfl⟩) (ak (fun γ => ⟨rfl, fun w' h => ⟨42, #[.int .i64 s], exec_call rfl call42 rfl (mpn rfl), k.kind w'⟩⟩) (ak (fun _ => ⟨rfl, fun _ _ => rfl⟩) (ak (by refine fun γ => ⟨rfl, fun w' h => ?_⟩; clear h; go_simp) (ak (by refine fun γ => ⟨rfl, fun w' h => ?_⟩; clear h; go_simp) (ak (fun γ => ⟨rfl, fun w' => ex_made72 rfl⟩) (ak (fun γ => ⟨rfl, rfl, rfl, fun w' h => ex_laidT h rfl rfl Try.sizeOf72 rfl rfl rfl⟩) (ak (fun _ => ⟨rfl, fun _ _ => rfl⟩) trivial)))))))
  intro γ w2 l hM hl
  have H2 : Hid (Mm w2 [(γ 5, kd p r c gx gy), (γ1_0, kd 0 0 0 0 0), (g, p2 X Y Z X' Y' Z')] ∧ _) := growB H1 hM (Nat.le_refl _) hl [5] rfl (by decide)
  have o2_5 := ownB H1 hM (Nat.le_refl _) hl (i := 5) rfl
  clear hM hl l H1
  generalize γ 5 = γ2_5 at H2 o2_5 ⊢
  clear γ
  refine rest0 rfl (then_normal (wp_seq (wp_seq ?_)))
  refine walk_seqB 2 [.quiet (.int .i64 0), .quiet (.bool false)] H2 ?ho3 ?he3
  case ho3 => exact ak (fun _ => ⟨rfl, fun _ _ => rfl⟩) (ak (by refine fun γ => ⟨rfl, fun w' h => ?_⟩; clear h; go_simp) trivial)
  intro _ w3 H3
  clear H2
  refine rest0 rfl (then_normal (wp_cond_false rfl ?_))
  refine wp_skip (then_normal ?_)
  refine wp_seq (wp_seq ?_)
  refine walk_seqB 3 [.quiet (.slice (some ⟨g, 0, none⟩) 2 2), .quiet (.int .i64 2), .quiet (.int .i64 0)] H3 ?ho4 ?he4
  case ho4 => exact ak (fun _ => ⟨rfl, fun _ _ => rfl⟩) (ak (by refine fun γ => ⟨rfl, fun w' h => ?_⟩; clear h; go_simp) (ak (fun _ => ⟨rfl, fun _ _ => rfl⟩) trivial))
  intro _ w4 H4
  clear H3
  refine rest0 rfl (then_normal (wp_block ?_))
  refine wp_loop_rounds 3 ?_
  refine rounds_in (n := 2) ?_
  refine wp_seq ?_
  refine walk_seqB 1 [.quiet (.bool true)] H4 ?ho5 ?he5
  case ho5 => exact ak (by refine fun γ => ⟨rfl, fun w' h => ?_⟩; clear h; go_simp) trivial
  intro _ w5 H5
  clear H4
  refine rest0 rfl (then_normal (wp_seq ?_))
  refine wp_cond_true rfl (wp_skip ?_)
  refine then_normal (wp_seq ?_)
  refine wp_block (wp_seq ?_)
  refine walk_seqA 4 [.quiet (PT g 0), .quiet (.agg (pt X Y Z).toArray), .made (pt 0 0 false) 25, .laid 2 (pt 0 0 false) (pt X Y Z)] (sB H5) ?ho6 ?he6 (hL := ?hL6)
  case hL6 => exact ⟨⟨_, rfl⟩, trivial⟩
  case ho6 => exact ak (by refine fun γ => ⟨rfl, fun w' h => ?_⟩; clear h; go_simp) (ak (fun γ => ⟨rfl, fun w' h => ex_loadT h 2 rfl rfl rfl Try.isAgg25 Try.sizeOf25 rfl rfl⟩) (ak (fun γ => ⟨rfl, fun w' => ex_made25 rfl⟩) (ak (fun γ => ⟨rfl, rfl, rfl, fun w' h => ex_laidT h rfl rfl Try.sizeOf25 rfl rfl rfl⟩) trivial)))
  intro γ w6 l hM hl
  have H6 : Hid (Mm w6 [(γ 2, pt X Y Z), (γ2_5, kd p r c gx gy), (γ1_0, kd 0 0 0 0 0), (g, p2 X Y Z X' Y' Z')] ∧ _) := growB H5 hM (Nat.le_refl _) hl [2] rfl (by decide)
  have o6_2 := ownB H5 hM (Nat.le_refl _) hl (i := 2) rfl
  clear hM hl l H5
  generalize γ 2 = γ6_2 at H6 o6_2 ⊢
  clear γ
  refine rest0 rfl (then_normal (wp_seq ?_))
  refine walk_seqB 4 [.quiet (.agg (kd p r c gx gy).toArray), .quiet (.agg (pt X Y Z).toArray), .call (.bool true), .quiet (.bool false)] H6 ?ho7 ?he7
  case ho7 => exact ak (fun γ => ⟨rfl, fun w' h => ex_loadT h 1 rfl rfl rfl Try.isAgg72 Try.sizeOf72 rfl rfl⟩) (ak (fun γ => ⟨rfl, fun w' h => ex_loadT h 0 rfl rfl rfl Try.isAgg25 Try.sizeOf25 rfl rfl⟩) (ak (fun γ => ⟨rfl, fun w' h => ⟨50, #[.agg (kd p r c gx gy).toArray, .agg (pt X Y Z).toArray], exec_call rfl call50 rfl (mpn rfl), on_is k.pr X Y Z _ h1 w'⟩⟩) (ak (by refine fun γ => ⟨rfl, fun w' h => ?_⟩; clear h; go_simp) trivial)))
  intro _ w7 H7
  clear H6
  refine rest0 rfl (then_normal (wp_cond_false rfl ?_))
  refine wp_skip (block_normal (then_normal ?_))
  refine walk_seqB 1 [.quiet (.int .i64 1)] H7 ?ho8 ?he8
  case ho8 => exact ak (fun γ => ⟨rfl, fun w' _ => by kernel_rfl⟩) trivial
  intro _ w8 H8
  clear H7
  refine rest_at (l := [1]) rfl ?_
  refine rest_set (d := 21) rfl rfl rfl rfl ?_
  simp only [Act.put, sa, sz, ss]
  refine rest_nil (then_normal ?_)
  refine rounds_in (n := 1) ?_
  refine wp_seq ?_
  refine walk_seqB 1 [.quiet (.bool true)] H8 ?ho9 ?he9
  case ho9 => exact ak (by refine fun γ => ⟨rfl, fun w' h => ?_⟩; clear h; go_simp) trivial
  intro _ w9 H9
  clear H8
  refine rest0 rfl (then_normal (wp_seq ?_))
  refine wp_cond_true rfl (wp_skip ?_)
  refine then_normal (wp_seq ?_)
  refine wp_block (wp_seq ?_)
  refine walk_seqA 4 [.quiet (PT g 3), .quiet (.agg (pt X' Y' Z').toArray), .made (pt 0 0 false) 25, .laid 2 (pt 0 0 false) (pt X' Y' Z')] (sB H9) ?ho10 ?he10 (hL := ?hL10)
  case hL10 => exact ⟨⟨_, rfl⟩, trivial⟩
  case ho10 => exact ak (by refine fun γ => ⟨rfl, fun w' h => ?_⟩; clear h; go_simp) (ak (fun γ => ⟨rfl, fun w' h => ex_loadT h 3 rfl rfl rfl Try.isAgg25 Try.sizeOf25 rfl rfl⟩) (ak (fun γ => ⟨rfl, fun w' => ex_made25 rfl⟩) (ak (fun γ => ⟨rfl, rfl, rfl, fun w' h => ex_laidT h rfl rfl Try.sizeOf25 rfl rfl rfl⟩) trivial)))
  intro γ w10 l hM hl
  have H10 : Hid (Mm w10 [(γ 2, pt X' Y' Z'), (γ6_2, pt X Y Z), (γ2_5, kd p r c gx gy), (γ1_0, kd 0 0 0 0 0), (g, p2 X Y Z X' Y' Z')] ∧ _) := growB H9 hM (Nat.le_refl _) hl [2] rfl (by decide)
  have o10_2 := ownB H9 hM (Nat.le_refl _) hl (i := 2) rfl
  clear hM hl l H9
  generalize γ 2 = γ10_2 at H10 o10_2 ⊢
  clear γ
  refine rest0 rfl (then_normal (wp_seq ?_))
  refine walk_seqB 4 [.quiet (.agg (kd p r c gx gy).toArray), .quiet (.agg (pt X' Y' Z').toArray), .call (.bool true), .quiet (.bool false)] H10 ?ho11 ?he11
  case ho11 => exact ak (fun γ => ⟨rfl, fun w' h => ex_loadT h 2 rfl rfl rfl Try.isAgg72 Try.sizeOf72 rfl rfl⟩) (ak (fun γ => ⟨rfl, fun w' h => ex_loadT h 0 rfl rfl rfl Try.isAgg25 Try.sizeOf25 rfl rfl⟩) (ak (fun γ => ⟨rfl, fun w' h => ⟨50, #[.agg (kd p r c gx gy).toArray, .agg (pt X' Y' Z').toArray], exec_call rfl call50 rfl (mpn rfl), on_is k.pr X' Y' Z' _ h2 w'⟩⟩) (ak (by refine fun γ => ⟨rfl, fun w' h => ?_⟩; clear h; go_simp) trivial)))
  intro _ w11 H11
  clear H10
  refine rest0 rfl (then_normal (wp_cond_false rfl ?_))
  refine wp_skip (block_normal (then_normal ?_))
  refine walk_seqB 1 [.quiet (.int .i64 2)] H11 ?ho12 ?he12
  case ho12 => exact ak (fun γ => ⟨rfl, fun w' _ => by kernel_rfl⟩) trivial
  intro _ w12 H12
  clear H11
  refine rest_at (l := [1]) rfl ?_
  refine rest_set (d := 21) rfl rfl rfl rfl ?_
  simp only [Act.put, sa, sz, ss]
  refine rest_nil (then_normal ?_)
  refine rounds_in (n := 0) ?_
  refine wp_seq ?_
  refine walk_seqB 1 [.quiet (.bool false)] H12 ?ho13 ?he13
  case ho13 => exact ak (by refine fun γ => ⟨rfl, fun w' h => ?_⟩; clear h; go_simp) trivial
  intro _ w13 H13
  clear H12
  refine rest0 rfl (then_normal (wp_seq (wp_cond_false rfl ?_)))
  refine wp_exit ?_
  repeat refine then_exit ?_
  refine block_exit ?_
  refine then_normal (wp_seq ?_)
  refine walk_seqB 1 [.quiet (.agg (kd p r c gx gy).toArray)] H13 ?ho14 ?he14
  case ho14 => exact ak (fun γ => ⟨rfl, fun w' h => ex_loadT h 2 rfl rfl rfl Try.isAgg72 Try.sizeOf72 rfl rfl⟩) trivial
  intro _ w14 H14
  clear H13
  refine rest_at (l := [1, 2]) rfl ?_
  refine rest_store rfl rfl rfl (ex_storeT (vs := kd p r c gx gy) H14.out.1 3 rfl rfl rfl rfl Try.sizeOf72 rfl (Nat.le_of_ble_eq_true rfl)) ?_
  have H15 : Hid (Mm (w14.setCells γ1_0 0 (kd p r c gx gy)) [(γ10_2, pt X' Y' Z'), (γ6_2, pt X Y Z), (γ2_5, kd p r c gx gy), (γ1_0, kd p r c gx gy), (g, p2 X Y Z X' Y' Z')] ∧ Below w.heap.size w (w14.setCells γ1_0 0 (kd p r c gx gy))) := ⟨H14.out.1.put 3 (off := 0) (vs := kd p r c gx gy) rfl (Nat.le_of_ble_eq_true rfl), below_setCells _ o1_0.out _ _ _ H14.out.2⟩
  clear H14
  generalize hgw : World.setCells _ _ _ _ = w15 at H15 ⊢
  clear hgw
  refine rest_set (d := 5) rfl rfl rfl rfl ?_
  simp only [Act.put, sa, sz, ss]
  refine rest_nil (then_normal (wp_ret ?_))
  repeat (first | refine then_ret ?_ | refine block_ret ?_)
  have hf0 := var_T H15.out.1 3 rfl Try.isAgg72 Try.sizeOf72 rfl
  refine bodyPost_ret (v := .tuple #[.agg (kd p r c gx gy).toArray, .int .i64 0]) (by simp [results, Try.results43, asAddr, Act.eval, hf0]) rfl ?_
  exact ⟨rfl, H15.out.2⟩
set_option maxRecDepth 100000 in
theorem Order_ok (k : Kd s p r c gx gy) (w : World) :
    Calls Try.prog 12 #[.int .i64 s] w fun e w' => e = .returned (.tuple #[U r, .int .i64 0]) ∧ Below w.heap.size w w' := by
  have H0 : Hid (_ ∧ _) := ⟨Mm.nil w, Below.refl w.heap.size w⟩
  go_enter Try.func12, Try.ntmps12
  refine wp_seq ?_
  refine walk_seqB 2 [.quiet (U 0), .quiet (.int .i64 0)] H0 ?ho1 ?he1
  case ho1 => exact ak (fun _ => ⟨rfl, fun _ _ => rfl⟩) (ak (fun _ => ⟨rfl, fun _ _ => rfl⟩) trivial)
  intro _ w1 H1
  refine rest0 rfl (then_normal (wp_seq ?_))
  refine walk_seqA 8 [.quiet (.int .i64 s), .call (.tuple #[.agg (kd p r c gx gy).toArray, .int .i64 0]), .quiet (.tuple #[.agg (kd p r c gx gy).toArray, .int .i64 0]), .quiet (.agg (kd p r c gx gy).toArray), .quiet (.int .i64 0), .made (kd 0 0 0 0 0) 72, .laid 5 (kd 0 0 0 0 0) (kd p r c gx gy), .quiet (.int .i64 0)] (sB H1) ?ho2 ?he2 (hL := ?hL2)
  case hL2 => exact ⟨⟨_, rfl⟩, trivial⟩
  case ho2 => exact ak (fun _ => ⟨rfl, fun _ _ => rfl⟩) (ak (fun γ => ⟨rfl, fun w' h => ⟨42, #[.int .i64 s], exec_call rfl call42 rfl (mpn rfl), k.kind w'⟩⟩) (ak (fun _ => ⟨rfl, fun _ _ => rfl⟩) (ak (by refine fun γ => ⟨rfl, fun w' h => ?_⟩; clear h; go_simp) (ak (by refine fun γ => ⟨rfl, fun w' h => ?_⟩; clear h; go_simp) (ak (fun γ => ⟨rfl, fun w' => ex_made72 rfl⟩) (ak (fun γ => ⟨rfl, rfl, rfl, fun w' h => ex_laidT h rfl rfl Try.sizeOf72 rfl rfl rfl⟩) (ak (fun _ => ⟨rfl, fun _ _ => rfl⟩) trivial)))))))
  intro γ w2 l hM hl
  have H2 : Hid (Mm w2 [(γ 5, kd p r c gx gy)] ∧ _) := growB H1 hM (Nat.le_refl _) hl [5] rfl (by decide)
  have o2_5 := ownB H1 hM (Nat.le_refl _) hl (i := 5) rfl
  clear hM hl l H1
  generalize γ 5 = γ2_5 at H2 o2_5 ⊢
  clear γ
  refine rest0 rfl (then_normal (wp_seq ?_))
  refine walk_seqB 5 [.quiet (PT γ2_5 1), .quiet (U r), .quiet (.int .i64 0), .quiet (U r), .quiet (.int .i64 0)] H2 ?ho3 ?he3
  case ho3 => exact ak (by refine fun γ => ⟨rfl, fun w' h => ?_⟩; clear h; go_simp) (ak (fun γ => ⟨rfl, fun w' h => ex_loadC h 0 rfl rfl rfl Try.isAgg23 rfl⟩) (ak (fun _ => ⟨rfl, fun _ _ => rfl⟩) (ak (fun _ => ⟨rfl, fun _ _ => rfl⟩) (ak (fun _ => ⟨rfl, fun _ _ => rfl⟩) trivial))))
  intro _ w3 H3
  clear H2
  refine rest0 rfl (then_normal (wp_ret ?_))
  repeat (first | refine then_ret ?_ | refine block_ret ?_)
  refine bodyPost_ret (v := .tuple #[U r, .int .i64 0]) (by simp [results, Try.results12, go_sem, *]) rfl ?_
  exact ⟨rfl, H3.out.2⟩
set_option maxRecDepth 100000 in
theorem Gen_ok (k : Kd s p r c gx gy) (w : World) :
    Calls Try.prog 13 #[.int .i64 s] w fun e w' => e = .returned (.tuple #[V (pt gx gy false), .int .i64 0]) ∧ Below w.heap.size w w' := by
  have H0 : Hid (_ ∧ _) := ⟨Mm.nil w, Below.refl w.heap.size w⟩
  go_enter Try.func13, Try.ntmps13
  refine wp_seq ?_
  refine walk_seqA 2 [.made (pt 0 0 false) 25, .quiet (.int .i64 0)] (sB H0) ?ho1 ?he1
  case ho1 => exact ak (fun γ => ⟨rfl, fun w' => ex_made25 rfl⟩) (ak (fun _ => ⟨rfl, fun _ _ => rfl⟩) trivial)
  intro γ w1 l hM hl
  have H1 : Hid (Mm w1 [(γ 0, pt 0 0 false)] ∧ _) := growB H0 hM (Nat.le_refl _) hl [0] rfl (by decide)
  have o1_0 := ownB H0 hM (Nat.le_refl _) hl (i := 0) rfl
  clear hM hl l
  generalize γ 0 = γ1_0 at H1 o1_0 ⊢
  clear γ
  refine rest0 rfl (then_normal (wp_seq ?_))
  refine walk_seqA 8 [.quiet (.int .i64 s), .call (.tuple #[.agg (kd p r c gx gy).toArray, .int .i64 0]), .quiet (.tuple #[.agg (kd p r c gx gy).toArray, .int .i64 0]), .quiet (.agg (kd p r c gx gy).toArray), .quiet (.int .i64 0), .made (kd 0 0 0 0 0) 72, .laid 5 (kd 0 0 0 0 0) (kd p r c gx gy), .quiet (.int .i64 0)] (sB H1) ?ho2 ?he2 (hL := ?hL2)
  case hL2 => exact ⟨⟨_, rfl⟩, trivial⟩
  case ho2 => exact ak (fun _ => ⟨rfl, fun _ _ => rfl⟩) (ak (fun γ => ⟨rfl, fun w' h => ⟨42, #[.int .i64 s], exec_call rfl call42 rfl (mpn rfl), k.kind w'⟩⟩) (ak (fun _ => ⟨rfl, fun _ _ => rfl⟩) (ak (by refine fun γ => ⟨rfl, fun w' h => ?_⟩; clear h; go_simp) (ak (by refine fun γ => ⟨rfl, fun w' h => ?_⟩; clear h; go_simp) (ak (fun γ => ⟨rfl, fun w' => ex_made72 rfl⟩) (ak (fun γ => ⟨rfl, rfl, rfl, fun w' h => ex_laidT h rfl rfl Try.sizeOf72 rfl rfl rfl⟩) (ak (fun _ => ⟨rfl, fun _ _ => rfl⟩) trivial)))))))
  intro γ w2 l hM hl
  have H2 : Hid (Mm w2 [(γ 5, kd p r c gx gy), (γ1_0, pt 0 0 false)] ∧ _) := growB H1 hM (Nat.le_refl _) hl [5] rfl (by decide)
  have o2_5 := ownB H1 hM (Nat.le_refl _) hl (i := 5) rfl
  clear hM hl l H1
  generalize γ 5 = γ2_5 at H2 o2_5 ⊢
  clear γ
  refine rest0 rfl (then_normal (wp_seq ?_))
  refine walk_seqB 3 [.quiet (PT γ2_5 3), .quiet (.agg (pt gx gy false).toArray), .quiet (.int .i64 0)] H2 ?ho3 ?he3
  case ho3 => exact ak (by refine fun γ => ⟨rfl, fun w' h => ?_⟩; clear h; go_simp) (ak (fun γ => ⟨rfl, fun w' h => ex_loadT h 0 rfl rfl rfl Try.isAgg25 Try.sizeOf25 rfl rfl⟩) (ak (fun _ => ⟨rfl, fun _ _ => rfl⟩) trivial))
  intro _ w3 H3
  clear H2
  refine rest_at (l := [3, 4]) rfl ?_
  refine rest_store rfl rfl rfl (ex_storeT (vs := pt gx gy false) H3.out.1 1 rfl rfl rfl rfl Try.sizeOf25 rfl (Nat.le_of_ble_eq_true rfl)) ?_
  have H4 : Hid (Mm (w3.setCells γ1_0 0 (pt gx gy false)) [(γ2_5, kd p r c gx gy), (γ1_0, pt gx gy false)] ∧ Below w.heap.size w (w3.setCells γ1_0 0 (pt gx gy false))) := ⟨H3.out.1.put 1 (off := 0) (vs := pt gx gy false) rfl (Nat.le_of_ble_eq_true rfl), below_setCells _ o1_0.out _ _ _ H3.out.2⟩
  clear H3
  generalize hgw : World.setCells _ _ _ _ = w4 at H4 ⊢
  clear hgw
  refine rest_set (d := 3) rfl rfl rfl rfl ?_
  simp only [Act.put, sa, sz, ss]
  refine rest_nil (then_normal (wp_ret ?_))
  repeat (first | refine then_ret ?_ | refine block_ret ?_)
  have hf0 := var_T H4.out.1 1 rfl Try.isAgg25 Try.sizeOf25 rfl
  refine bodyPost_ret (v := .tuple #[.agg (pt gx gy false).toArray, .int .i64 0]) (by simp [results, Try.results13, asAddr, Act.eval, hf0]) rfl ?_
  exact ⟨rfl, H4.out.2⟩
set_option maxRecDepth 100000 in
theorem In_ok (k : Kd s p r c gx gy) (X Y : Nat) (Z : Bool) (w : World) :
    Calls Try.prog 20 #[.int .i64 s, .agg (pt X Y Z).toArray] w fun e w' => e = .returned (.bool (ig p r X Y Z)) ∧ Below w.heap.size w w' := by
  have H0 : Hid (_ ∧ _) := ⟨Mm.nil w, Below.refl w.heap.size w⟩
  go_enter Try.func20, Try.ntmps20
  refine wp_seq ?_
  refine walk_seqA 2 [.made (pt X Y Z) 25, .quiet (.bool false)] (sB H0) ?ho1 ?he1
  case ho1 => exact ak (fun γ => ⟨rfl, fun w' => ex_boxT rfl rfl⟩) (ak (fun _ => ⟨rfl, fun _ _ => rfl⟩) trivial)
  intro γ w1 l hM hl
  have H1 : Hid (Mm w1 [(γ 0, pt X Y Z)] ∧ _) := growB H0 hM (Nat.le_refl _) hl [0] rfl (by decide)
  have o1_0 := ownB H0 hM (Nat.le_refl _) hl (i := 0) rfl
  clear hM hl l
  generalize γ 0 = γ1_0 at H1 o1_0 ⊢
  clear γ
  refine rest0 rfl (then_normal (wp_seq ?_))
  refine walk_seqA 8 [.quiet (.int .i64 s), .call (.tuple #[.agg (kd p r c gx gy).toArray, .int .i64 0]), .quiet (.tuple #[.agg (kd p r c gx gy).toArray, .int .i64 0]), .quiet (.agg (kd p r c gx gy).toArray), .quiet (.int .i64 0), .made (kd 0 0 0 0 0) 72, .laid 5 (kd 0 0 0 0 0) (kd p r c gx gy), .quiet (.int .i64 0)] (sB H1) ?ho2 ?he2 (hL := ?hL2)
  case hL2 => exact ⟨⟨_, rfl⟩, trivial⟩
  case ho2 => exact ak (fun _ => ⟨rfl, fun _ _ => rfl⟩) (ak (fun γ => ⟨rfl, fun w' h => ⟨42, #[.int .i64 s], exec_call rfl call42 rfl (mpn rfl), k.kind w'⟩⟩) (ak (fun _ => ⟨rfl, fun _ _ => rfl⟩) (ak (by refine fun γ => ⟨rfl, fun w' h => ?_⟩; clear h; go_simp) (ak (by refine fun γ => ⟨rfl, fun w' h => ?_⟩; clear h; go_simp) (ak (fun γ => ⟨rfl, fun w' => ex_made72 rfl⟩) (ak (fun γ => ⟨rfl, rfl, rfl, fun w' h => ex_laidT h rfl rfl Try.sizeOf72 rfl rfl rfl⟩) (ak (fun _ => ⟨rfl, fun _ _ => rfl⟩) trivial)))))))
  intro γ w2 l hM hl
  have H2 : Hid (Mm w2 [(γ 5, kd p r c gx gy), (γ1_0, pt X Y Z)] ∧ _) := growB H1 hM (Nat.le_refl _) hl [5] rfl (by decide)
  have o2_5 := ownB H1 hM (Nat.le_refl _) hl (i := 5) rfl
  clear hM hl l H1
  generalize γ 5 = γ2_5 at H2 o2_5 ⊢
  clear γ
  refine rest0 rfl (then_normal (wp_seq ?_))
  refine walk_seqB 8 [.quiet (.int .i64 0), .quiet (.bool true), .quiet (.bool true), .quiet (.agg (kd p r c gx gy).toArray), .quiet (.agg (pt X Y Z).toArray), .call (.bool (ig p r X Y Z)), .quiet (.bool (ig p r X Y Z)), .quiet (.bool (ig p r X Y Z))] H2 ?ho3 ?he3
  case ho3 => exact ak (fun _ => ⟨rfl, fun _ _ => rfl⟩) (ak (by refine fun γ => ⟨rfl, fun w' h => ?_⟩; clear h; go_simp) (ak (fun _ => ⟨rfl, fun _ _ => rfl⟩) (ak (fun γ => ⟨rfl, fun w' h => ex_loadT h 0 rfl rfl rfl Try.isAgg72 Try.sizeOf72 rfl rfl⟩) (ak (fun γ => ⟨rfl, fun w' h => ex_loadT h 1 rfl rfl rfl Try.isAgg25 Try.sizeOf25 rfl rfl⟩) (ak (fun γ => ⟨rfl, fun w' h => ⟨51, #[.agg (kd p r c gx gy).toArray, .agg (pt X Y Z).toArray], exec_call rfl call51 rfl (mpn rfl), inGroup_any k.pr k.rb X Y Z w'⟩⟩) (ak (by refine fun γ => ⟨rfl, fun w' h => ?_⟩; clear h; go_simp) (ak (fun _ => ⟨rfl, fun _ _ => rfl⟩) trivial)))))))
  intro _ w3 H3
  clear H2
  refine rest0 rfl (then_normal (wp_ret ?_))
  repeat (first | refine then_ret ?_ | refine block_ret ?_)
  refine bodyPost_ret (v := .bool (ig p r X Y Z)) (by simp [results, Try.results20, go_sem, *]) rfl ?_
  exact ⟨rfl, H3.out.2⟩
set_option maxRecDepth 100000 in
theorem In_no (s : Int) (h1 : s ≠ 1) (h2 : s ≠ 2) (X Y : Nat) (Z : Bool) (w : World) :
    Calls Try.prog 20 #[.int .i64 s, .agg (pt X Y Z).toArray] w fun e w' => e = .returned (.bool false) ∧ Below w.heap.size w w' := by
  have H0 : Hid (_ ∧ _) := ⟨Mm.nil w, Below.refl w.heap.size w⟩
  go_enter Try.func20, Try.ntmps20
  refine wp_seq ?_
  refine walk_seqA 2 [.made (pt X Y Z) 25, .quiet (.bool false)] (sB H0) ?ho1 ?he1
  case ho1 => exact ak (fun γ => ⟨rfl, fun w' => ex_boxT rfl rfl⟩) (ak (fun _ => ⟨rfl, fun _ _ => rfl⟩) trivial)
  intro γ w1 l hM hl
  have H1 : Hid (Mm w1 [(γ 0, pt X Y Z)] ∧ _) := growB H0 hM (Nat.le_refl _) hl [0] rfl (by decide)
  have o1_0 := ownB H0 hM (Nat.le_refl _) hl (i := 0) rfl
  clear hM hl l
  generalize γ 0 = γ1_0 at H1 o1_0 ⊢
  clear γ
  refine rest0 rfl (then_normal (wp_seq ?_))
  refine walk_seqA 8 [.quiet (.int .i64 s), .call (.tuple #[.agg (kd 0 0 0 0 0).toArray, .int .i64 2]), .quiet (.tuple #[.agg (kd 0 0 0 0 0).toArray, .int .i64 2]), .quiet (.agg (kd 0 0 0 0 0).toArray), .quiet (.int .i64 2), .made (kd 0 0 0 0 0) 72, .laid 5 (kd 0 0 0 0 0) (kd 0 0 0 0 0), .quiet (.int .i64 2)] (sB H1) ?ho2 ?he2 (hL := ?hL2)
  case hL2 => exact ⟨⟨_, rfl⟩, trivial⟩
  case ho2 => exact ak (fun _ => ⟨rfl, fun _ _ => rfl⟩) (ak (fun γ => ⟨rfl, fun w' h => ⟨42, #[.int .i64 s], exec_call rfl call42 rfl (mpn rfl), kindOf_no s h1 h2 w'⟩⟩) (ak (fun _ => ⟨rfl, fun _ _ => rfl⟩) (ak (by refine fun γ => ⟨rfl, fun w' h => ?_⟩; clear h; go_simp) (ak (by refine fun γ => ⟨rfl, fun w' h => ?_⟩; clear h; go_simp) (ak (fun γ => ⟨rfl, fun w' => ex_made72 rfl⟩) (ak (fun γ => ⟨rfl, rfl, rfl, fun w' h => ex_laidT h rfl rfl Try.sizeOf72 rfl rfl rfl⟩) (ak (fun _ => ⟨rfl, fun _ _ => rfl⟩) trivial)))))))
  intro γ w2 l hM hl
  have H2 : Hid (Mm w2 [(γ 5, kd 0 0 0 0 0), (γ1_0, pt X Y Z)] ∧ _) := growB H1 hM (Nat.le_refl _) hl [5] rfl (by decide)
  have o2_5 := ownB H1 hM (Nat.le_refl _) hl (i := 5) rfl
  clear hM hl l H1
  generalize γ 5 = γ2_5 at H2 o2_5 ⊢
  clear γ
  refine rest0 rfl (then_normal (wp_seq ?_))
  refine walk_seqB 8 [.quiet (.int .i64 2), .quiet (.bool false), .quiet (.bool false), .gone, .gone, .gone, .quiet (.bool false), .quiet (.bool false)] H2 ?ho3 ?he3
  case ho3 => exact ak (fun _ => ⟨rfl, fun _ _ => rfl⟩) (ak (by refine fun γ => ⟨rfl, fun w' h => ?_⟩; clear h; go_simp) (ak (fun _ => ⟨rfl, fun _ _ => rfl⟩) (ak (fun γ => rfl) (ak (fun γ => rfl) (ak (fun γ => rfl) (ak (by refine fun γ => ⟨rfl, fun w' h => ?_⟩; clear h; go_simp) (ak (fun _ => ⟨rfl, fun _ _ => rfl⟩) trivial)))))))
  intro _ w3 H3
  clear H2
  refine rest0 rfl (then_normal (wp_ret ?_))
  repeat (first | refine then_ret ?_ | refine block_ret ?_)
  refine bodyPost_ret (v := .bool false) (by simp [results, Try.results20, go_sem, *]) rfl ?_
  exact ⟨rfl, H3.out.2⟩
set_option maxHeartbeats 1000000 in
set_option maxRecDepth 100000 in
theorem Add_ok (k : Kd s p r c gx gy) (X Y : Nat) (Z : Bool) (X' Y' : Nat) (Z' : Bool) (h1 : oc p X Y Z = true) (h2 : oc p X' Y' Z' = true) (w : World) :
    Calls Try.prog 14 #[.int .i64 s, .agg (pt X Y Z).toArray, .agg (pt X' Y' Z').toArray] w fun e w' => e = .returned (.tuple #[V (pt (pX p (jnT p (tO X Y Z) X' Y' Z')) (pY p (jnT p (tO X Y Z) X' Y' Z')) (pZ (jnT p (tO X Y Z) X' Y' Z'))), .int .i64 0]) ∧ Below w.heap.size w w' := by
  have H0 : Hid (_ ∧ _) := ⟨Mm.nil w, Below.refl w.heap.size w⟩
  go_enter Try.func14, Try.ntmps14
  refine wp_seq ?_
  refine walk_seqA 4 [.made (pt X Y Z) 25, .made (pt X' Y' Z') 25, .made (pt 0 0 false) 25, .quiet (.int .i64 0)] (sB H0) ?ho1 ?he1
  case ho1 => exact ak (fun γ => ⟨rfl, fun w' => ex_boxT rfl rfl⟩) (ak (fun γ => ⟨rfl, fun w' => ex_boxT rfl rfl⟩) (ak (fun γ => ⟨rfl, fun w' => ex_made25 rfl⟩) (ak (fun _ => ⟨rfl, fun _ _ => rfl⟩) trivial)))
  intro γ w1 l hM hl
  have H1 : Hid (Mm w1 [(γ 0, pt X Y Z), (γ 1, pt X' Y' Z'), (γ 2, pt 0 0 false)] ∧ _) := growB H0 hM (Nat.le_refl _) hl [0, 1, 2] rfl (by decide)
  have o1_0 := ownB H0 hM (Nat.le_refl _) hl (i := 0) rfl
  have o1_1 := ownB H0 hM (Nat.le_refl _) hl (i := 1) rfl
  have o1_2 := ownB H0 hM (Nat.le_refl _) hl (i := 2) rfl
  clear hM hl l
  generalize γ 0 = γ1_0 at H1 o1_0 ⊢
  generalize γ 1 = γ1_1 at H1 o1_1 ⊢
  generalize γ 2 = γ1_2 at H1 o1_2 ⊢
  clear γ
  refine rest0 rfl (then_normal (wp_seq ?_))
  refine walk_seqB 3 [.quiet (.int .i64 s), .quiet (.agg (pt X Y Z).toArray), .quiet (.agg (pt X' Y' Z').toArray)] H1 ?ho2 ?he2
  case ho2 => exact ak (fun _ => ⟨rfl, fun _ _ => rfl⟩) (ak (fun γ => ⟨rfl, fun w' h => ex_loadT h 0 rfl rfl rfl Try.isAgg25 Try.sizeOf25 rfl rfl⟩) (ak (fun γ => ⟨rfl, fun w' h => ex_loadT h 1 rfl rfl rfl Try.isAgg25 Try.sizeOf25 rfl rfl⟩) trivial))
  intro _ w2 H2
  clear H1
  refine rest_at (l := [3, 4, 5, 6, 7, 8, 9, 10]) rfl ?_
  refine rest_set (d := 16) (v := .slice (some ⟨w2.heap.size, 0, none⟩) 2 2) (w' := w2.alloc (.cells (p2 X Y Z X' Y' Z' : List Value).toArray 25)) rfl rfl rfl (ex_bs2 rfl rfl rfl) ?_
  simp only [Act.put, sa, sz, ss]
  have o_γs3 : Hid (w.heap.size ≤ w2.heap.size) := H2.out.2.size
  have H3 : Hid (Mm (w2.alloc (.cells (p2 X Y Z X' Y' Z' : List Value).toArray 25)) ((w2.heap.size, p2 X Y Z X' Y' Z') :: [(γ1_0, pt X Y Z), (γ1_1, pt X' Y' Z'), (γ1_2, pt 0 0 false)]) ∧ Below w.heap.size w (w2.alloc (.cells (p2 X Y Z X' Y' Z' : List Value).toArray 25))) := ⟨H2.out.1.alloc _ 25 rfl, H2.out.2.alloc H2.out.2.size _⟩
  clear H2
  generalize hgw : w2.alloc (.cells (p2 X Y Z X' Y' Z' : List Value).toArray 25) = w3 at H3 ⊢
  clear hgw
  generalize w2.heap.size = γs3 at o_γs3 H3 ⊢
  refine rest_enter (d := 17) (R := fun vv w' => vv = .tuple #[.agg (kd p r c gx gy).toArray, .int .i64 0] ∧ Below w3.heap.size w3 w') rfl rfl rfl (exec_call (args := #[.int .i64 s, .slice (some ⟨γs3, 0, none⟩) 2 2]) rfl call43 rfl (mpn rfl)) (Calls.mono (kw2_ok k X Y Z X' Y' Z' h1 h2 γs3 w3 (H3.out.1.one 0 rfl)) (fun e w2 hh => ⟨_, hh.1, rfl, hh.2⟩)) ?_
  rintro _ w4 ⟨rfl, hb⟩
  have H4 : Hid (_ ∧ _) := ⟨H3.out.1.below hb, H3.out.2.trans (hb.mono H3.out.2.size)⟩
  clear hb H3
  simp only [Act.put, sa, sz, ss]
  refine rest_set (d := 12) rfl rfl rfl rfl ?_
  simp only [Act.put, sa, sz, ss]
  refine rest_set (d := 18) (v := .agg (kd p r c gx gy).toArray) (w' := w4) rfl rfl rfl (by go_simp) ?_
  simp only [Act.put, sa, sz, ss]
  refine rest_set (d := 19) (v := .int .i64 0) (w' := w4) rfl rfl rfl (by go_simp) ?_
  simp only [Act.put, sa, sz, ss]
  refine rest_set (d := 8) (v := PT w4.heap.size 0) (w' := w4.alloc (.cells (kd 0 0 0 0 0 : List Value).toArray 72)) rfl rfl rfl (ex_made72 rfl) ?_
  simp only [Act.put, sa, sz, ss]
  have o_γs5 : Hid (w.heap.size ≤ w4.heap.size) := H4.out.2.size
  have H5 : Hid (Mm (w4.alloc (.cells (kd 0 0 0 0 0 : List Value).toArray 72)) ((w4.heap.size, kd 0 0 0 0 0) :: [(γs3, p2 X Y Z X' Y' Z'), (γ1_0, pt X Y Z), (γ1_1, pt X' Y' Z'), (γ1_2, pt 0 0 false)]) ∧ Below w.heap.size w (w4.alloc (.cells (kd 0 0 0 0 0 : List Value).toArray 72))) := ⟨H4.out.1.alloc _ 72 rfl, H4.out.2.alloc H4.out.2.size _⟩
  clear H4
  generalize hgw : w4.alloc (.cells (kd 0 0 0 0 0 : List Value).toArray 72) = w5 at H5 ⊢
  clear hgw
  generalize w4.heap.size = γs5 at o_γs5 H5 ⊢
  refine rest_store rfl rfl rfl (ex_storeT (vs := kd p r c gx gy) H5.out.1 0 rfl rfl rfl rfl Try.sizeOf72 rfl (Nat.le_of_ble_eq_true rfl)) ?_
  have H6 : Hid (Mm (w5.setCells γs5 0 (kd p r c gx gy)) [(γs5, kd p r c gx gy), (γs3, p2 X Y Z X' Y' Z'), (γ1_0, pt X Y Z), (γ1_1, pt X' Y' Z'), (γ1_2, pt 0 0 false)] ∧ Below w.heap.size w (w5.setCells γs5 0 (kd p r c gx gy))) := ⟨H5.out.1.put 0 (off := 0) (vs := kd p r c gx gy) rfl (Nat.le_of_ble_eq_true rfl), below_setCells _ o_γs5.out _ _ _ H5.out.2⟩
  clear H5
  generalize hgw : World.setCells _ _ _ _ = w6 at H6 ⊢
  clear hgw
  refine rest_set (d := 9) rfl rfl rfl rfl ?_
  simp only [Act.put, sa, sz, ss]
  refine rest_nil (then_normal ?_)
  refine wp_seq (wp_seq ?_)
  refine walk_seqB 2 [.quiet (.int .i64 0), .quiet (.bool false)] H6 ?ho3 ?he3
  case ho3 => exact ak (fun _ => ⟨rfl, fun _ _ => rfl⟩) (ak (by refine fun γ => ⟨rfl, fun w' h => ?_⟩; clear h; go_simp) trivial)
  intro _ w7 H7
  clear H6
  refine rest0 rfl (then_normal (wp_cond_false rfl ?_))
  refine wp_skip (then_normal (wp_seq ?_))
  refine walk_anyA 11 [.quiet (.agg (kd p r c gx gy).toArray), .quiet (.agg (pt X Y Z).toArray), .call (.agg (tr ((tO X Y Z).1) ((tO X Y Z).2.1) ((tO X Y Z).2.2)).toArray), .quiet (.agg (pt X' Y' Z').toArray), .call (.tuple #[.agg (tr ((jnT p (tO X Y Z) X' Y' Z').1) ((jnT p (tO X Y Z) X' Y' Z').2.1) ((jnT p (tO X Y Z) X' Y' Z').2.2)).toArray, U (jnR p (tO X Y Z) X' Y' Z')]), .quiet (.tuple #[.agg (tr ((jnT p (tO X Y Z) X' Y' Z').1) ((jnT p (tO X Y Z) X' Y' Z').2.1) ((jnT p (tO X Y Z) X' Y' Z').2.2)).toArray, U (jnR p (tO X Y Z) X' Y' Z')]), .quiet (.agg (tr ((jnT p (tO X Y Z) X' Y' Z').1) ((jnT p (tO X Y Z) X' Y' Z').2.1) ((jnT p (tO X Y Z) X' Y' Z').2.2)).toArray), .quiet (U (jnR p (tO X Y Z) X' Y' Z')), .made (tr 0 0 0) 77, .laid 8 (tr 0 0 0) (tr ((jnT p (tO X Y Z) X' Y' Z').1) ((jnT p (tO X Y Z) X' Y' Z').2.1) ((jnT p (tO X Y Z) X' Y' Z').2.2)), .quiet (U (jnR p (tO X Y Z) X' Y' Z'))] (sB H7) ?ho4 ?he4 (hL := ?hL4)
  case hL4 => exact ⟨⟨_, rfl⟩, trivial⟩
  case ho4 => exact ak (fun γ => ⟨rfl, fun w' h => ex_loadT h 0 rfl rfl rfl Try.isAgg72 Try.sizeOf72 rfl rfl⟩) (ak (fun γ => ⟨rfl, fun w' h => ex_loadT h 2 rfl rfl rfl Try.isAgg25 Try.sizeOf25 rfl rfl⟩) (ak (fun γ => ⟨rfl, fun w' h => ⟨45, #[.agg (pt X Y Z).toArray], exec_call rfl call45 rfl (mpn rfl), tripleOf_any X Y Z w'⟩⟩) (ak (fun γ => ⟨rfl, fun w' h => ex_loadT h 3 rfl rfl rfl Try.isAgg25 Try.sizeOf25 rfl rfl⟩) (ak (fun γ => ⟨rfl, fun w' h => ⟨44, #[.agg (kd p r c gx gy).toArray, .agg (tr ((tO X Y Z).1) ((tO X Y Z).2.1) ((tO X Y Z).2.2)).toArray, .agg (pt X' Y' Z').toArray], exec_call rfl call44 rfl (mpn rfl), joined_any k.pr (tO X Y Z) (tO_lt k.pr (oc_lt k.pr h1).1 (oc_lt k.pr h1).2) X' Y' Z' (oc_lt k.pr h2).1 (oc_lt k.pr h2).2 w'⟩⟩) (ak (fun _ => ⟨rfl, fun _ _ => rfl⟩) (ak (by refine fun γ => ⟨rfl, fun w' h => ?_⟩; clear h; go_simp) (ak (by refine fun γ => ⟨rfl, fun w' h => ?_⟩; clear h; go_simp) (ak (fun γ => ⟨rfl, fun w' => ex_made77 rfl⟩) (ak (fun γ => ⟨rfl, rfl, rfl, fun w' h => ex_laidT h rfl rfl Try.sizeOf77 rfl rfl rfl⟩) (ak (fun _ => ⟨rfl, fun _ _ => rfl⟩) trivial))))))))))
  intro γ w8 l hM hl
  have H8 : Hid (Mm w8 [(γ 8, tr ((jnT p (tO X Y Z) X' Y' Z').1) ((jnT p (tO X Y Z) X' Y' Z').2.1) ((jnT p (tO X Y Z) X' Y' Z').2.2)), (γs5, kd p r c gx gy), (γs3, p2 X Y Z X' Y' Z'), (γ1_0, pt X Y Z), (γ1_1, pt X' Y' Z'), (γ1_2, pt 0 0 false)] ∧ _) := growB H7 hM (Nat.le_refl _) hl [8] rfl (by decide)
  have o4_8 := ownB H7 hM (Nat.le_refl _) hl (i := 8) rfl
  clear hM hl l H7
  generalize γ 8 = γ4_8 at H8 o4_8 ⊢
  clear γ
  refine rest0 rfl (then_normal (wp_seq ?_))
  refine walk_seqB 3 [.quiet (.agg (kd p r c gx gy).toArray), .quiet (.agg (tr ((jnT p (tO X Y Z) X' Y' Z').1) ((jnT p (tO X Y Z) X' Y' Z').2.1) ((jnT p (tO X Y Z) X' Y' Z').2.2)).toArray), .call (.agg (pt (pX p (jnT p (tO X Y Z) X' Y' Z')) (pY p (jnT p (tO X Y Z) X' Y' Z')) (pZ (jnT p (tO X Y Z) X' Y' Z'))).toArray)] H8 ?ho5 ?he5
  case ho5 => exact ak (fun γ => ⟨rfl, fun w' h => ex_loadT h 1 rfl rfl rfl Try.isAgg72 Try.sizeOf72 rfl rfl⟩) (ak (fun γ => ⟨rfl, fun w' h => ex_loadT h 0 rfl rfl rfl Try.isAgg77 Try.sizeOf77 rfl rfl⟩) (ak (fun γ => ⟨rfl, fun w' h => ⟨46, #[.agg (kd p r c gx gy).toArray, .agg (tr ((jnT p (tO X Y Z) X' Y' Z').1) ((jnT p (tO X Y Z) X' Y' Z').2.1) ((jnT p (tO X Y Z) X' Y' Z').2.2)).toArray], exec_call rfl call46 rfl (mpn rfl), point_any k.pr (jnT p (tO X Y Z) X' Y' Z') (jn_lt k.pr (tO_lt k.pr (oc_lt k.pr h1).1 (oc_lt k.pr h1).2) (oc_lt k.pr h2).1 (oc_lt k.pr h2).2) w'⟩⟩) trivial))
  intro _ w9 H9
  clear H8
  refine rest_at (l := [3, 4]) rfl ?_
  refine rest_store rfl rfl rfl (ex_storeT (vs := pt (pX p (jnT p (tO X Y Z) X' Y' Z')) (pY p (jnT p (tO X Y Z) X' Y' Z')) (pZ (jnT p (tO X Y Z) X' Y' Z'))) H9.out.1 5 rfl rfl rfl rfl Try.sizeOf25 rfl (Nat.le_of_ble_eq_true rfl)) ?_
  have H10 : Hid (Mm (w9.setCells γ1_2 0 (pt (pX p (jnT p (tO X Y Z) X' Y' Z')) (pY p (jnT p (tO X Y Z) X' Y' Z')) (pZ (jnT p (tO X Y Z) X' Y' Z')))) [(γ4_8, tr ((jnT p (tO X Y Z) X' Y' Z').1) ((jnT p (tO X Y Z) X' Y' Z').2.1) ((jnT p (tO X Y Z) X' Y' Z').2.2)), (γs5, kd p r c gx gy), (γs3, p2 X Y Z X' Y' Z'), (γ1_0, pt X Y Z), (γ1_1, pt X' Y' Z'), (γ1_2, pt (pX p (jnT p (tO X Y Z) X' Y' Z')) (pY p (jnT p (tO X Y Z) X' Y' Z')) (pZ (jnT p (tO X Y Z) X' Y' Z')))] ∧ Below w.heap.size w (w9.setCells γ1_2 0 (pt (pX p (jnT p (tO X Y Z) X' Y' Z')) (pY p (jnT p (tO X Y Z) X' Y' Z')) (pZ (jnT p (tO X Y Z) X' Y' Z'))))) := ⟨H9.out.1.put 5 (off := 0) (vs := pt (pX p (jnT p (tO X Y Z) X' Y' Z')) (pY p (jnT p (tO X Y Z) X' Y' Z')) (pZ (jnT p (tO X Y Z) X' Y' Z'))) rfl (Nat.le_of_ble_eq_true rfl), below_setCells _ o1_2.out _ _ _ H9.out.2⟩
  clear H9
  generalize hgw : World.setCells _ _ _ _ = w10 at H10 ⊢
  clear hgw
  refine rest_set (d := 7) rfl rfl rfl rfl ?_
  simp only [Act.put, sa, sz, ss]
  refine rest_nil (then_normal (wp_ret ?_))
  repeat (first | refine then_ret ?_ | refine block_ret ?_)
  have hf0 := var_T H10.out.1 5 rfl Try.isAgg25 Try.sizeOf25 rfl
  refine bodyPost_ret (v := .tuple #[.agg (pt (pX p (jnT p (tO X Y Z) X' Y' Z')) (pY p (jnT p (tO X Y Z) X' Y' Z')) (pZ (jnT p (tO X Y Z) X' Y' Z'))).toArray, .int .i64 0]) (by simp [results, Try.results14, asAddr, Act.eval, hf0]) rfl ?_
  exact ⟨rfl, H10.out.2⟩
set_option maxHeartbeats 1000000 in
set_option maxRecDepth 100000 in
theorem Mul_ok (k : Kd s p r c gx gy) (X Y : Nat) (Z : Bool) (n : Nat) (hn : n < 18446744073709551616) (h1 : oc p X Y Z = true) (w : World) :
    Calls Try.prog 15 #[.int .i64 s, .agg (pt X Y Z).toArray, U n] w fun e w' => e = .returned (.tuple #[V (pt (pX p (mt p X Y Z n)) (pY p (mt p X Y Z n)) (pZ (mt p X Y Z n))), .int .i64 0]) ∧ Below w.heap.size w w' := by
  have H0 : Hid (_ ∧ _) := ⟨Mm.nil w, Below.refl w.heap.size w⟩
  go_enter Try.func15, Try.ntmps15
  refine wp_seq ?_
  refine walk_seqA 3 [.made (pt X Y Z) 25, .made (pt 0 0 false) 25, .quiet (.int .i64 0)] (sB H0) ?ho1 ?he1
  case ho1 => exact ak (fun γ => ⟨rfl, fun w' => ex_boxT rfl rfl⟩) (ak (fun γ => ⟨rfl, fun w' => ex_made25 rfl⟩) (ak (fun _ => ⟨rfl, fun _ _ => rfl⟩) trivial))
  intro γ w1 l hM hl
  have H1 : Hid (Mm w1 [(γ 0, pt X Y Z), (γ 1, pt 0 0 false)] ∧ _) := growB H0 hM (Nat.le_refl _) hl [0, 1] rfl (by decide)
  have o1_0 := ownB H0 hM (Nat.le_refl _) hl (i := 0) rfl
  have o1_1 := ownB H0 hM (Nat.le_refl _) hl (i := 1) rfl
  clear hM hl l
  generalize γ 0 = γ1_0 at H1 o1_0 ⊢
  generalize γ 1 = γ1_1 at H1 o1_1 ⊢
  clear γ
  refine rest0 rfl (then_normal (wp_seq ?_))
  refine walk_seqB 2 [.quiet (.int .i64 s), .quiet (.agg (pt X Y Z).toArray)] H1 ?ho2 ?he2
  case ho2 => exact ak (fun _ => ⟨rfl, fun _ _ => rfl⟩) (ak (fun γ => ⟨rfl, fun w' h => ex_loadT h 0 rfl rfl rfl Try.isAgg25 Try.sizeOf25 rfl rfl⟩) trivial)
  intro _ w2 H2
  clear H1
  refine rest_at (l := [2, 3, 4, 5, 6, 7, 8, 9]) rfl ?_
  refine rest_set (d := 13) (v := .slice (some ⟨w2.heap.size, 0, none⟩) 1 1) (w' := w2.alloc (.cells (pt X Y Z : List Value).toArray 25)) rfl rfl rfl (ex_bs1 rfl rfl) ?_
  simp only [Act.put, sa, sz, ss]
  have o_γs3 : Hid (w.heap.size ≤ w2.heap.size) := H2.out.2.size
  have H3 : Hid (Mm (w2.alloc (.cells (pt X Y Z : List Value).toArray 25)) ((w2.heap.size, pt X Y Z) :: [(γ1_0, pt X Y Z), (γ1_1, pt 0 0 false)]) ∧ Below w.heap.size w (w2.alloc (.cells (pt X Y Z : List Value).toArray 25))) := ⟨H2.out.1.alloc _ 25 rfl, H2.out.2.alloc H2.out.2.size _⟩
  clear H2
  generalize hgw : w2.alloc (.cells (pt X Y Z : List Value).toArray 25) = w3 at H3 ⊢
  clear hgw
  generalize w2.heap.size = γs3 at o_γs3 H3 ⊢
  refine rest_enter (d := 14) (R := fun vv w' => vv = .tuple #[.agg (kd p r c gx gy).toArray, .int .i64 0] ∧ Below w3.heap.size w3 w') rfl rfl rfl (exec_call (args := #[.int .i64 s, .slice (some ⟨γs3, 0, none⟩) 1 1]) rfl call43 rfl (mpn rfl)) (Calls.mono (kw1_ok k X Y Z h1 γs3 w3 (H3.out.1.one 0 rfl)) (fun e w2 hh => ⟨_, hh.1, rfl, hh.2⟩)) ?_
  rintro _ w4 ⟨rfl, hb⟩
  have H4 : Hid (_ ∧ _) := ⟨H3.out.1.below hb, H3.out.2.trans (hb.mono H3.out.2.size)⟩
  clear hb H3
  simp only [Act.put, sa, sz, ss]
  refine rest_set (d := 10) rfl rfl rfl rfl ?_
  simp only [Act.put, sa, sz, ss]
  refine rest_set (d := 15) (v := .agg (kd p r c gx gy).toArray) (w' := w4) rfl rfl rfl (by go_simp) ?_
  simp only [Act.put, sa, sz, ss]
  refine rest_set (d := 16) (v := .int .i64 0) (w' := w4) rfl rfl rfl (by go_simp) ?_
  simp only [Act.put, sa, sz, ss]
  refine rest_set (d := 8) (v := PT w4.heap.size 0) (w' := w4.alloc (.cells (kd 0 0 0 0 0 : List Value).toArray 72)) rfl rfl rfl (ex_made72 rfl) ?_
  simp only [Act.put, sa, sz, ss]
  have o_γs5 : Hid (w.heap.size ≤ w4.heap.size) := H4.out.2.size
  have H5 : Hid (Mm (w4.alloc (.cells (kd 0 0 0 0 0 : List Value).toArray 72)) ((w4.heap.size, kd 0 0 0 0 0) :: [(γs3, pt X Y Z), (γ1_0, pt X Y Z), (γ1_1, pt 0 0 false)]) ∧ Below w.heap.size w (w4.alloc (.cells (kd 0 0 0 0 0 : List Value).toArray 72))) := ⟨H4.out.1.alloc _ 72 rfl, H4.out.2.alloc H4.out.2.size _⟩
  clear H4
  generalize hgw : w4.alloc (.cells (kd 0 0 0 0 0 : List Value).toArray 72) = w5 at H5 ⊢
  clear hgw
  generalize w4.heap.size = γs5 at o_γs5 H5 ⊢
  refine rest_store rfl rfl rfl (ex_storeT (vs := kd p r c gx gy) H5.out.1 0 rfl rfl rfl rfl Try.sizeOf72 rfl (Nat.le_of_ble_eq_true rfl)) ?_
  have H6 : Hid (Mm (w5.setCells γs5 0 (kd p r c gx gy)) [(γs5, kd p r c gx gy), (γs3, pt X Y Z), (γ1_0, pt X Y Z), (γ1_1, pt 0 0 false)] ∧ Below w.heap.size w (w5.setCells γs5 0 (kd p r c gx gy))) := ⟨H5.out.1.put 0 (off := 0) (vs := kd p r c gx gy) rfl (Nat.le_of_ble_eq_true rfl), below_setCells _ o_γs5.out _ _ _ H5.out.2⟩
  clear H5
  generalize hgw : World.setCells _ _ _ _ = w6 at H6 ⊢
  clear hgw
  refine rest_set (d := 9) rfl rfl rfl rfl ?_
  simp only [Act.put, sa, sz, ss]
  refine rest_nil (then_normal ?_)
  refine wp_seq (wp_seq ?_)
  refine walk_seqB 2 [.quiet (.int .i64 0), .quiet (.bool false)] H6 ?ho3 ?he3
  case ho3 => exact ak (fun _ => ⟨rfl, fun _ _ => rfl⟩) (ak (by refine fun γ => ⟨rfl, fun w' h => ?_⟩; clear h; go_simp) trivial)
  intro _ w7 H7
  clear H6
  refine rest0 rfl (then_normal (wp_cond_false rfl ?_))
  refine wp_skip (then_normal (wp_seq ?_))
  refine walk_anyB 6 [.quiet (.agg (kd p r c gx gy).toArray), .quiet (.agg (kd p r c gx gy).toArray), .quiet (.agg (pt X Y Z).toArray), .quiet (U n), .call (.agg (tr ((mt p X Y Z n).1) ((mt p X Y Z n).2.1) ((mt p X Y Z n).2.2)).toArray), .call (.agg (pt (pX p (mt p X Y Z n)) (pY p (mt p X Y Z n)) (pZ (mt p X Y Z n))).toArray)] H7 ?ho4 ?he4
  case ho4 => exact ak (fun γ => ⟨rfl, fun w' h => ex_loadT h 0 rfl rfl rfl Try.isAgg72 Try.sizeOf72 rfl rfl⟩) (ak (fun γ => ⟨rfl, fun w' h => ex_loadT h 0 rfl rfl rfl Try.isAgg72 Try.sizeOf72 rfl rfl⟩) (ak (fun γ => ⟨rfl, fun w' h => ex_loadT h 2 rfl rfl rfl Try.isAgg25 Try.sizeOf25 rfl rfl⟩) (ak (fun _ => ⟨rfl, fun _ _ => rfl⟩) (ak (fun γ => ⟨rfl, fun w' h => ⟨47, #[.agg (kd p r c gx gy).toArray, .agg (pt X Y Z).toArray, U n], exec_call rfl call47 rfl (mpn rfl), multiple_any k.pr X Y Z (oc_lt k.pr h1).1 (oc_lt k.pr h1).2 n hn w'⟩⟩) (ak (fun γ => ⟨rfl, fun w' h => ⟨46, #[.agg (kd p r c gx gy).toArray, .agg (tr ((mt p X Y Z n).1) ((mt p X Y Z n).2.1) ((mt p X Y Z n).2.2)).toArray], exec_call rfl call46 rfl (mpn rfl), point_any k.pr (mt p X Y Z n) (mt_lt k.pr (oc_lt k.pr h1).1 (oc_lt k.pr h1).2 _) w'⟩⟩) trivial)))))
  intro _ w8 H8
  clear H7
  refine rest_at (l := [6, 7]) rfl ?_
  refine rest_store rfl rfl rfl (ex_storeT (vs := pt (pX p (mt p X Y Z n)) (pY p (mt p X Y Z n)) (pZ (mt p X Y Z n))) H8.out.1 3 rfl rfl rfl rfl Try.sizeOf25 rfl (Nat.le_of_ble_eq_true rfl)) ?_
  have H9 : Hid (Mm (w8.setCells γ1_1 0 (pt (pX p (mt p X Y Z n)) (pY p (mt p X Y Z n)) (pZ (mt p X Y Z n)))) [(γs5, kd p r c gx gy), (γs3, pt X Y Z), (γ1_0, pt X Y Z), (γ1_1, pt (pX p (mt p X Y Z n)) (pY p (mt p X Y Z n)) (pZ (mt p X Y Z n)))] ∧ Below w.heap.size w (w8.setCells γ1_1 0 (pt (pX p (mt p X Y Z n)) (pY p (mt p X Y Z n)) (pZ (mt p X Y Z n))))) := ⟨H8.out.1.put 3 (off := 0) (vs := pt (pX p (mt p X Y Z n)) (pY p (mt p X Y Z n)) (pZ (mt p X Y Z n))) rfl (Nat.le_of_ble_eq_true rfl), below_setCells _ o1_1.out _ _ _ H8.out.2⟩
  clear H8
  generalize hgw : World.setCells _ _ _ _ = w9 at H9 ⊢
  clear hgw
  refine rest_set (d := 7) rfl rfl rfl rfl ?_
  simp only [Act.put, sa, sz, ss]
  refine rest_nil (then_normal (wp_ret ?_))
  repeat (first | refine then_ret ?_ | refine block_ret ?_)
  have hf0 := var_T H9.out.1 3 rfl Try.isAgg25 Try.sizeOf25 rfl
  refine bodyPost_ret (v := .tuple #[.agg (pt (pX p (mt p X Y Z n)) (pY p (mt p X Y Z n)) (pZ (mt p X Y Z n))).toArray, .int .i64 0]) (by simp [results, Try.results15, asAddr, Act.eval, hf0]) rfl ?_
  exact ⟨rfl, H9.out.2⟩
end
end Rg
end Go.Proofs.Ytjmbgchoioepjaa
end
section
namespace Go.Proofs.Ytjmbgchoioepjaa
open Go.RowKit
namespace Rg
/-! The document's answers. -/
abbrev P3 : Type := Nat × Nat × Bool
abbrev pc (a : P3) : List Value := pt a.1 a.2.1 a.2.2
def sl1 (p X Y : Nat) : Nat := tm p (pl p (pl p (pl p (tm p X X) (tm p X X)) (tm p X X)) 1) (pw p (pl p Y Y) (p - 2))
def sl2 (p X Y X' Y' : Nat) : Nat := tm p (mi p Y' Y) (pw p (mi p X' X) (p - 2))
def dS (p : Nat) (a b : P3) : Nat := if a = b then sl1 p a.1 a.2.1 else sl2 p a.1 a.2.1 b.1 b.2.1
def d3X (p m X X' : Nat) : Nat := mi p (mi p (tm p m m) X) X'
def d3Y (p m X X' Y : Nat) : Nat := mi p (tm p m (mi p X (d3X p m X X'))) Y
def dA (p : Nat) (a b : P3) : P3 :=
  if a.2.2 = true then b else if b.2.2 = true then a else if a = (b.1, mi p 0 b.2.1, b.2.2) then (0, 0, true)
  else (d3X p (dS p a b) a.1 b.1, d3Y p (dS p a b) a.1 b.1 a.2.1, false)
def dmf (p : Nat) (a : P3) : Nat → Nat → P3
  | 0, _ => (0, 0, true)
  | f + 1, n => if n = 0 then (0, 0, true) else if n % 2 = 1 then dA p (dA p (dmf p a f (n / 2)) (dmf p a f (n / 2))) a else dA p (dmf p a f (n / 2)) (dmf p a f (n / 2))
def dM (p : Nat) (a : P3) (n : Nat) : P3 := dmf p a 64 n
theorem dmf_up (p : Nat) (a : P3) : ∀ (f n : Nat), n < 2 ^ f → dmf p a f n = dmf p a (f + 1) n
  | 0, n, h => by
    have : n = 0 := by omega
    subst this
    rfl
  | f + 1, n, h => by
    have e := dmf_up p a f (n / 2) (by rw [Nat.pow_succ] at h; omega)
    rw [dmf, dmf, e]
theorem dM_step (p : Nat) (a : P3) (n : Nat) (hn : n < 18446744073709551616) (h0 : n ≠ 0) : dM p a n = if n % 2 = 1 then dA p (dA p (dM p a (n / 2)) (dM p a (n / 2))) a else dA p (dM p a (n / 2)) (dM p a (n / 2)) := by
  have e := dmf_up p a 63 (n / 2) (by rw [show 2 ^ 63 = 9223372036854775808 by decide]; omega)
  unfold dM
  rw [dmf, if_neg h0, e]
structure LtP (p : Nat) (a : P3) : Prop where
  x : a.1 < p
  y : a.2.1 < p
section
variable {p r c gx gy : Nat}
set_option maxRecDepth 100000 in
theorem Of_1  (w : World) :
    Calls Try.prog 10 #[.int .i64 1] w fun e w' => e = .returned (.tuple #[V (kd 786251 65521 12 9723 164643), .bool true]) ∧ Below w.heap.size w w' := by
  have H0 : Hid (_ ∧ _) := ⟨Mm.nil w, Below.refl w.heap.size w⟩
  go_enter Try.func10, Try.ntmps10
  refine wp_seq ?_
  refine walk_seqA 2 [.made (kd 0 0 0 0 0) 27, .quiet (.bool false)] (sB H0) ?ho1 ?he1
  case ho1 => exact ak (fun γ => ⟨rfl, fun w' => ex_made27 rfl⟩) (ak (fun _ => ⟨rfl, fun _ _ => rfl⟩) trivial)
  intro γ w1 l hM hl
  have H1 : Hid (Mm w1 [(γ 0, kd 0 0 0 0 0)] ∧ _) := growB H0 hM (Nat.le_refl _) hl [0] rfl (by decide)
  have o1_0 := ownB H0 hM (Nat.le_refl _) hl (i := 0) rfl
  clear hM hl l
  generalize γ 0 = γ1_0 at H1 o1_0 ⊢
  clear γ
  refine rest0 rfl (then_normal (wp_seq (wp_seq ?_)))
  refine walk_seqB 1 [.quiet (.int .i64 1)] H1 ?ho2 ?he2
  case ho2 => exact ak (fun _ => ⟨rfl, fun _ _ => rfl⟩) trivial
  intro _ w2 H2
  clear H1
  refine rest0 rfl (then_normal (wp_block (wp_seq ?_)))
  refine walk_seqB 2 [.quiet (.bool true), .quiet (.bool true)] H2 ?ho3 ?he3
  case ho3 => exact ak (by refine fun γ => ⟨rfl, fun w' h => ?_⟩; clear h; go_simp) (ak (fun _ => ⟨rfl, fun _ _ => rfl⟩) trivial)
  intro _ w3 H3
  clear H2
  refine rest0 rfl (then_normal (wp_cond_true rfl (wp_seq ?_)))
  refine walk_seqB 2 [.quiet (.agg (pt 9723 164643 false).toArray), .quiet (.agg (kd 786251 65521 12 9723 164643).toArray)] H3 ?ho4 ?he4
  case ho4 => exact ak (fun γ => ⟨rfl, fun w' _ => ex_build25_01 rfl rfl rfl⟩) (ak (fun γ => ⟨rfl, fun w' _ => ex_build27_0123 rfl rfl rfl rfl rfl⟩) trivial)
  intro _ w4 H4
  clear H3
  refine rest_at (l := [2, 3]) rfl ?_
  refine rest_store rfl rfl rfl (ex_storeT (vs := kd 786251 65521 12 9723 164643) H4.out.1 0 rfl rfl rfl rfl Try.sizeOf27 rfl (Nat.le_of_ble_eq_true rfl)) ?_
  have H5 : Hid (Mm (w4.setCells γ1_0 0 (kd 786251 65521 12 9723 164643)) [(γ1_0, kd 786251 65521 12 9723 164643)] ∧ Below w.heap.size w (w4.setCells γ1_0 0 (kd 786251 65521 12 9723 164643))) := ⟨H4.out.1.put 0 (off := 0) (vs := kd 786251 65521 12 9723 164643) rfl (Nat.le_of_ble_eq_true rfl), below_setCells _ o1_0.out _ _ _ H4.out.2⟩
  clear H4
  generalize hgw : World.setCells _ _ _ _ = w5 at H5 ⊢
  clear hgw
  refine rest_set (d := 3) rfl rfl rfl rfl ?_
  simp only [Act.put, sa, sz, ss]
  refine rest_nil (then_normal (wp_ret ?_))
  repeat (first | refine then_ret ?_ | refine block_ret ?_)
  have hf0 := var_T H5.out.1 0 rfl Try.isAgg27 Try.sizeOf27 rfl
  refine bodyPost_ret (v := .tuple #[.agg (kd 786251 65521 12 9723 164643).toArray, .bool true]) (by simp [results, Try.results10, asAddr, Act.eval, hf0]) rfl ?_
  exact ⟨rfl, H5.out.2⟩
set_option maxRecDepth 100000 in
theorem Of_2  (w : World) :
    Calls Try.prog 10 #[.int .i64 2] w fun e w' => e = .returned (.tuple #[V (kd 1152921504606846223 72057594037927889 16 613740293506734924 666621259561003659), .bool true]) ∧ Below w.heap.size w w' := by
  have H0 : Hid (_ ∧ _) := ⟨Mm.nil w, Below.refl w.heap.size w⟩
  go_enter Try.func10, Try.ntmps10
  refine wp_seq ?_
  refine walk_seqA 2 [.made (kd 0 0 0 0 0) 27, .quiet (.bool false)] (sB H0) ?ho1 ?he1
  case ho1 => exact ak (fun γ => ⟨rfl, fun w' => ex_made27 rfl⟩) (ak (fun _ => ⟨rfl, fun _ _ => rfl⟩) trivial)
  intro γ w1 l hM hl
  have H1 : Hid (Mm w1 [(γ 0, kd 0 0 0 0 0)] ∧ _) := growB H0 hM (Nat.le_refl _) hl [0] rfl (by decide)
  have o1_0 := ownB H0 hM (Nat.le_refl _) hl (i := 0) rfl
  clear hM hl l
  generalize γ 0 = γ1_0 at H1 o1_0 ⊢
  clear γ
  refine rest0 rfl (then_normal (wp_seq (wp_seq ?_)))
  refine walk_seqB 1 [.quiet (.int .i64 2)] H1 ?ho2 ?he2
  case ho2 => exact ak (fun _ => ⟨rfl, fun _ _ => rfl⟩) trivial
  intro _ w2 H2
  clear H1
  refine rest0 rfl (then_normal (wp_block (wp_seq ?_)))
  refine walk_seqB 2 [.quiet (.bool false), .quiet (.bool false)] H2 ?ho3 ?he3
  case ho3 => exact ak (by refine fun γ => ⟨rfl, fun w' h => ?_⟩; clear h; go_simp) (ak (fun _ => ⟨rfl, fun _ _ => rfl⟩) trivial)
  intro _ w3 H3
  clear H2
  refine rest0 rfl (then_normal (wp_cond_false rfl (wp_seq ?_)))
  refine walk_seqB 2 [.quiet (.bool true), .quiet (.bool true)] H3 ?ho4 ?he4
  case ho4 => exact ak (by refine fun γ => ⟨rfl, fun w' h => ?_⟩; clear h; go_simp) (ak (fun _ => ⟨rfl, fun _ _ => rfl⟩) trivial)
  intro _ w4 H4
  clear H3
  refine rest0 rfl (then_normal (wp_cond_true rfl (wp_seq ?_)))
  refine walk_seqB 2 [.quiet (.agg (pt 613740293506734924 666621259561003659 false).toArray), .quiet (.agg (kd 1152921504606846223 72057594037927889 16 613740293506734924 666621259561003659).toArray)] H4 ?ho5 ?he5
  case ho5 => exact ak (fun γ => ⟨rfl, fun w' _ => ex_build25_01 rfl rfl rfl⟩) (ak (fun γ => ⟨rfl, fun w' _ => ex_build27_0123 rfl rfl rfl rfl rfl⟩) trivial)
  intro _ w5 H5
  clear H4
  refine rest_at (l := [2, 3]) rfl ?_
  refine rest_store rfl rfl rfl (ex_storeT (vs := kd 1152921504606846223 72057594037927889 16 613740293506734924 666621259561003659) H5.out.1 0 rfl rfl rfl rfl Try.sizeOf27 rfl (Nat.le_of_ble_eq_true rfl)) ?_
  have H6 : Hid (Mm (w5.setCells γ1_0 0 (kd 1152921504606846223 72057594037927889 16 613740293506734924 666621259561003659)) [(γ1_0, kd 1152921504606846223 72057594037927889 16 613740293506734924 666621259561003659)] ∧ Below w.heap.size w (w5.setCells γ1_0 0 (kd 1152921504606846223 72057594037927889 16 613740293506734924 666621259561003659))) := ⟨H5.out.1.put 0 (off := 0) (vs := kd 1152921504606846223 72057594037927889 16 613740293506734924 666621259561003659) rfl (Nat.le_of_ble_eq_true rfl), below_setCells _ o1_0.out _ _ _ H5.out.2⟩
  clear H5
  generalize hgw : World.setCells _ _ _ _ = w6 at H6 ⊢
  clear hgw
  refine rest_set (d := 3) rfl rfl rfl rfl ?_
  simp only [Act.put, sa, sz, ss]
  refine rest_nil (then_normal (wp_ret ?_))
  repeat (first | refine then_ret ?_ | refine block_ret ?_)
  have hf0 := var_T H6.out.1 0 rfl Try.isAgg27 Try.sizeOf27 rfl
  refine bodyPost_ret (v := .tuple #[.agg (kd 1152921504606846223 72057594037927889 16 613740293506734924 666621259561003659).toArray, .bool true]) (by simp [results, Try.results10, asAddr, Act.eval, hf0]) rfl ?_
  exact ⟨rfl, H6.out.2⟩
theorem eq_self (X Y : Nat) (Z : Bool) (w : World) : (Op.equalIn 10000 25 (V (pt X Y Z)) (V (pt X Y Z))).run Try.prog w = .ok true w := by
  rw [run_eqP X Y X Y Z Z w, decide_eq_true rfl, decide_eq_true rfl, beq_self_eq_true]
  rfl
theorem eq_not (X Y X' Y' : Nat) (Z Z' : Bool) (h : ¬ ((X, Y, Z) : P3) = (X', Y', Z')) (w : World) : (Op.equalIn 10000 25 (V (pt X Y Z)) (V (pt X' Y' Z'))).run Try.prog w = .ok false w := by
  rw [run_eqP X Y X' Y' Z Z' w]
  refine congrArg (fun t => Result.ok t w) ?_
  by_cases h1 : X = X'
  · by_cases h2 : Y = Y'
    · have h3 : Z ≠ Z' := fun h3 => h (by rw [h1, h2, h3])
      simp [h3]
    · simp [h2]
  · simp [h1]
def di (p r X Y : Nat) (Z : Bool) : Bool := oc p X Y Z && (dM p (X, Y, Z) r).2.2
end
end Rg
end Go.Proofs.Ytjmbgchoioepjaa
end
section
namespace Go.Proofs.Ytjmbgchoioepjaa
namespace NT
/-- A prime. -/
def Prm (p : Nat) : Prop := 1 < p ∧ ∀ d, d ∣ p → d = 1 ∨ d = p
theorem Prm.cop {p : Nat} (h : Prm p) {a : Nat} (ha : ¬ p ∣ a) : Nat.Coprime p a := by
  rcases h.2 (Nat.gcd p a) (Nat.gcd_dvd_left p a) with h1 | h1
  · exact h1
  · exact absurd (h1 ▸ Nat.gcd_dvd_right p a) ha
theorem Prm.mul {p a b : Nat} (h : Prm p) (hd : p ∣ a * b) : p ∣ a ∨ p ∣ b := by
  by_cases ha : p ∣ a
  · exact Or.inl ha
  · exact Or.inr ((h.cop ha).dvd_of_dvd_mul_left hd)
theorem Prm.pos {p : Nat} (h : Prm p) : 0 < p := by have := h.1; omega
/-- Each number above 1 has a prime that divides it. -/
theorem prm_dvd (n : Nat) (h : 1 < n) : ∃ q, Prm q ∧ q ∣ n := by
  induction n using Nat.strongRecOn with
  | ind n ih =>
    by_cases hp : ∃ d, d ∣ n ∧ d ≠ 1 ∧ d ≠ n
    · obtain ⟨d, hd, h1, h2⟩ := hp
      have hle := Nat.le_of_dvd (by omega) hd
      have h0 : d ≠ 0 := by
        intro e; rw [e] at hd; have := Nat.eq_zero_of_zero_dvd hd; omega
      obtain ⟨q, hq, hqd⟩ := ih d (by omega) (by omega)
      exact ⟨q, hq, Nat.dvd_trans hqd hd⟩
    · refine ⟨n, ⟨h, ?_⟩, Nat.dvd_refl n⟩
      intro d hd
      by_cases h1 : d = 1
      · exact Or.inl h1
      · by_cases h2 : d = n
        · exact Or.inr h2
        · exact absurd ⟨d, hd, h1, h2⟩ hp
/-! Binomials. -/
def ch : Nat → Nat → Nat
  | _, 0 => 1
  | 0, _ + 1 => 0
  | n + 1, k + 1 => ch n k + ch n (k + 1)
theorem ch_zero (n : Nat) : ch n 0 = 1 := by cases n <;> rfl
theorem ch_big (n : Nat) : ∀ k, n < k → ch n k = 0 := by
  induction n with
  | zero => intro k hk; cases k with
    | zero => omega
    | succ k => rfl
  | succ n ih => intro k hk; cases k with
    | zero => omega
    | succ k => show ch n k + ch n (k + 1) = 0; rw [ih k (by omega), ih (k + 1) (by omega)]
theorem ch_self (n : Nat) : ch n n = 1 := by
  induction n with
  | zero => rfl
  | succ n ih => show ch n n + ch n (n + 1) = 1; rw [ih, ch_big n (n + 1) (by omega)]
theorem ch_absorb (n : Nat) : ∀ k, (k + 1) * ch (n + 1) (k + 1) = (n + 1) * ch n k := by
  induction n with
  | zero =>
    intro k
    cases k with
    | zero => rfl
    | succ k =>
      rw [ch_big 1 (k + 1 + 1) (by omega), ch_big 0 (k + 1) (by omega)]; omega
  | succ n ih =>
    intro k
    cases k with
    | zero =>
      have h := ih 0
      show (0 + 1) * (ch (n + 1) 0 + ch (n + 1) (0 + 1)) = _
      rw [Nat.mul_add, h, ch_zero, ch_zero]; omega
    | succ k =>
      have h1 := ih k
      have h2 := ih (k + 1)
      show (k + 1 + 1) * (ch (n + 1) (k + 1) + ch (n + 1) (k + 1 + 1)) = (n + 1 + 1) * (ch (n + 1) (k + 1))
      rw [Nat.mul_add, h2]
      have e : ch (n + 1) (k + 1) = ch n k + ch n (k + 1) := rfl
      rw [Nat.add_mul (k + 1) 1, h1, Nat.add_mul (n + 1) 1 (ch (n + 1) (k + 1))]
      have e' : (n + 1) * ch (n + 1) (k + 1) = (n + 1) * ch n k + (n + 1) * ch n (k + 1) := by rw [e, Nat.mul_add]
      omega
theorem ch_dvd {p : Nat} (hp : Prm p) (k : Nat) (h0 : 0 < k) (hk : k < p) : p ∣ ch p k := by
  obtain ⟨k, rfl⟩ : ∃ j, k = j + 1 := ⟨k - 1, by omega⟩
  obtain ⟨n, rfl⟩ : ∃ j, p = j + 1 := ⟨p - 1, by omega⟩
  have h : n + 1 ∣ (k + 1) * ch (n + 1) (k + 1) := ⟨ch n k, ch_absorb n k⟩
  rcases hp.mul h with h1 | h1
  · have := Nat.le_of_dvd (by omega) h1; omega
  · exact h1
def sm (f : Nat → Nat) : Nat → Nat
  | 0 => 0
  | n + 1 => sm f n + f n
theorem sm_first (f : Nat → Nat) (n : Nat) : sm f (n + 1) = f 0 + sm (fun k => f (k + 1)) n := by
  induction n with
  | zero => simp [sm]
  | succ n ih => rw [sm, ih]; simp only [sm]; omega
theorem sm_add (f g : Nat → Nat) (n : Nat) : sm (fun k => f k + g k) n = sm f n + sm g n := by
  induction n with
  | zero => rfl
  | succ n ih => simp only [sm]; rw [ih]; omega
theorem sm_mul (f : Nat → Nat) (c n : Nat) : sm (fun k => c * f k) n = c * sm f n := by
  induction n with
  | zero => rfl
  | succ n ih => simp only [sm]; rw [ih, Nat.mul_add]
theorem sm_congr (f g : Nat → Nat) (n : Nat) (h : ∀ k, k < n → f k = g k) : sm f n = sm g n := by
  induction n with
  | zero => rfl
  | succ n ih => simp only [sm]; rw [ih (fun k hk => h k (by omega)), h n (by omega)]
theorem sm_dvd (f : Nat → Nat) (p n : Nat) (h : ∀ k, k < n → p ∣ f k) : p ∣ sm f n := by
  induction n with
  | zero => exact Nat.dvd_zero p
  | succ n ih => exact Nat.dvd_add (ih (fun k hk => h k (by omega))) (h n (by omega))
theorem binom (a n : Nat) : (a + 1) ^ n = sm (fun k => ch n k * a ^ k) (n + 1) := by
  induction n with
  | zero => simp [sm, ch]
  | succ n ih =>
    rw [Nat.pow_succ, ih, Nat.mul_add, Nat.mul_one]
    rw [sm_first (fun k => ch (n + 1) k * a ^ k) (n + 1)]
    have e : ∀ k, ch (n + 1) (k + 1) * a ^ (k + 1) = a * (ch n k * a ^ k) + ch n (k + 1) * a ^ (k + 1) := by
      intro k
      show (ch n k + ch n (k + 1)) * a ^ (k + 1) = _
      rw [Nat.add_mul, Nat.pow_succ]
      congr 1
      rw [Nat.mul_comm (a ^ k) a, Nat.mul_left_comm]
    have e1 : sm (fun k => ch (n + 1) (k + 1) * a ^ (k + 1)) (n + 1)
        = a * sm (fun k => ch n k * a ^ k) (n + 1) + sm (fun k => ch n (k + 1) * a ^ (k + 1)) (n + 1) := by
      rw [← sm_mul, ← sm_add]
      exact sm_congr _ _ _ (fun k _ => e k)
    rw [e1]
    have e2 : sm (fun k => ch n k * a ^ k) (n + 1) = 1 + sm (fun k => ch n (k + 1) * a ^ (k + 1)) (n + 1) := by
      rw [sm_first (fun k => ch n k * a ^ k) n]
      have : sm (fun k => ch n (k + 1) * a ^ (k + 1)) (n + 1) = sm (fun k => ch n (k + 1) * a ^ (k + 1)) n + ch n (n + 1) * a ^ (n + 1) := rfl
      rw [this, ch_big n (n + 1) (by omega), ch_zero]
      simp
    rw [ch_zero, Nat.pow_zero, Nat.mul_comm _ a]
    omega
theorem dream {p : Nat} (hp : Prm p) (a : Nat) : (a + 1) ^ p % p = (a ^ p + 1) % p := by
  obtain ⟨n, rfl⟩ : ∃ j, p = j + 1 := ⟨p - 1, by have := hp.1; omega⟩
  rw [binom, sm, sm_first]
  obtain ⟨c, hc⟩ := sm_dvd (fun k => ch (n + 1) (k + 1) * a ^ (k + 1)) (n + 1) n
    (fun k hk => Nat.dvd_trans (ch_dvd hp (k + 1) (by omega) (by omega)) (Nat.dvd_mul_right _ _))
  rw [hc, ch_self, ch_zero, Nat.pow_zero]
  have : 1 * 1 + (n + 1) * c + 1 * a ^ (n + 1) = (a ^ (n + 1) + 1) + (n + 1) * c := by omega
  rw [this, Nat.add_mul_mod_self_left]
theorem fermat {p : Nat} (hp : Prm p) (a : Nat) : a ^ p % p = a % p := by
  induction a with
  | zero => rw [Nat.zero_pow hp.pos]
  | succ a ih => rw [dream hp, Nat.add_mod, ih, ← Nat.add_mod]
theorem fermat1 {p : Nat} (hp : Prm p) (a : Nat) (ha : ¬ p ∣ a) : a ^ (p - 1) % p = 1 := by
  have h := fermat hp a
  obtain ⟨n, rfl⟩ : ∃ j, p = j + 1 := ⟨p - 1, by have := hp.1; omega⟩
  rw [Nat.add_sub_cancel]
  rw [Nat.pow_succ] at h
  have hn : 0 < n := by have := hp.1; omega
  have h1 : 1 ≤ a ^ n := Nat.one_le_iff_ne_zero.mpr (fun e => by
    rcases Nat.pow_eq_zero.mp e with ⟨e1, -⟩
    rw [e1] at ha; exact ha (Nat.dvd_zero _))
  have h2 : n + 1 ∣ (a ^ n - 1) * a := by
    rw [Nat.sub_mul, Nat.one_mul]
    exact Nat.dvd_of_mod_eq_zero (Nat.sub_mod_eq_zero_of_mod_eq h)
  rcases hp.mul h2 with h3 | h3
  · obtain ⟨c, hc⟩ := h3
    have : a ^ n = 1 + (n + 1) * c := by omega
    rw [this, Nat.add_mul_mod_self_left, Nat.mod_eq_of_lt hp.1]
  · exact absurd h3 ha
/-! Orders. -/
theorem least (P : Nat → Prop) (n : Nat) (h : P n) : ∃ m, P m ∧ ∀ k, k < m → ¬ P k := by
  induction n using Nat.strongRecOn with
  | ind n ih =>
    by_cases hk : ∃ k, k < n ∧ P k
    · obtain ⟨k, h1, h2⟩ := hk
      exact ih k h1 h2
    · exact ⟨n, h, fun k h1 h2 => hk ⟨k, h1, h2⟩⟩
theorem order {d : Nat} (hd : Prm d) (a : Nat) (ha : ¬ d ∣ a) :
    ∃ e, e ∣ d - 1 ∧ a ^ e % d = 1 ∧ ∀ m, a ^ m % d = 1 → e ∣ m := by
  obtain ⟨e, ⟨h0, h1⟩, h2⟩ := least (fun e => 0 < e ∧ a ^ e % d = 1) (d - 1) ⟨by have := hd.1; omega, fermat1 hd a ha⟩
  have h3 : ∀ m, a ^ m % d = 1 → e ∣ m := by
    intro m hm
    by_cases hr : m % e = 0
    · exact Nat.dvd_of_mod_eq_zero hr
    · exfalso
      refine h2 (m % e) (Nat.mod_lt _ h0) ⟨by omega, ?_⟩
      have e1 : a ^ m = (a ^ e) ^ (m / e) * a ^ (m % e) := by
        rw [← Nat.pow_mul, ← Nat.pow_add, Nat.div_add_mod]
      rw [e1, Nat.mul_mod, Nat.pow_mod, h1, Nat.one_pow, Nat.mod_eq_of_lt hd.1, Nat.one_mul, Nat.mod_mod] at hm
      exact hm
  exact ⟨e, h3 _ (fermat1 hd a ha), h1, h3⟩
/-- Pocklington: each prime that divides N leaves 1 by F. -/
theorem pock {N M F a d : Nat} (qs : List Nat) (hM : N = M + 1) (hF : F ∣ M) (hd : Prm d) (hdN : d ∣ N) (h1 : a ^ M % N = 1)
    (hc : ∀ t, (∀ q, q ∈ qs → Nat.Coprime q t) → Nat.Coprime F t)
    (hq : ∀ q, q ∈ qs → Prm q ∧ q ∣ M ∧ Nat.Coprime (a ^ (M / q) % N + M) N) : F ∣ d - 1 := by
  have hmod : ∀ x, x % N % d = x % d := fun x => Nat.mod_mod_of_dvd x hdN
  have h1d : a ^ M % d = 1 := by rw [← hmod, h1, Nat.mod_eq_of_lt hd.1]
  have hM0 : M ≠ 0 := by
    intro e; rw [e] at hM; rw [hM] at hdN; have := Nat.dvd_one.mp hdN; have := hd.1; omega
  have ha : ¬ d ∣ a := by
    intro h
    have h2 : d ∣ a ^ M := Nat.dvd_trans h (by
      obtain ⟨k, hk⟩ : ∃ k, M = k + 1 := ⟨M - 1, by omega⟩
      rw [hk, Nat.pow_succ]; exact Nat.dvd_mul_left _ _)
    have := Nat.mod_eq_zero_of_dvd h2
    omega
  obtain ⟨e, h2, h3, h4⟩ := order hd a ha
  obtain ⟨t, ht⟩ := h4 M h1d
  have hcop : Nat.Coprime F t := by
    refine hc t (fun q hqm => ?_)
    obtain ⟨g1, g2, g3⟩ := hq q hqm
    refine g1.cop (fun hqt => ?_)
    obtain ⟨s, hs⟩ := hqt
    have g4 : M / q = e * s := by
      rw [ht, hs, Nat.mul_left_comm, Nat.mul_div_cancel_left _ g1.pos]
    have g5 : a ^ (M / q) % d = 1 := by
      rw [g4, Nat.pow_mul, Nat.pow_mod, h3, Nat.one_pow, Nat.mod_eq_of_lt hd.1]
    have g6 : d ∣ a ^ (M / q) % N + M := by
      refine Nat.dvd_of_mod_eq_zero ?_
      rw [Nat.add_mod, hmod, g5, ← Nat.mod_eq_of_lt hd.1, ← Nat.add_mod, Nat.add_comm 1 M, ← hM]
      exact Nat.mod_eq_zero_of_dvd hdN
    have g7 := Nat.dvd_gcd g6 hdN
    rw [g3] at g7
    have := Nat.dvd_one.mp g7; have := hd.1; omega
  have h5 : F ∣ e := hcop.dvd_of_dvd_mul_right (ht ▸ hF)
  exact Nat.dvd_trans h5 h2
/-- A number whose prime divisors all leave 1 by F, F F above it, is prime. -/
theorem prm_of {N F : Nat} (hN : 1 < N) (hF : N < F * F) (h : ∀ d, Prm d → d ∣ N → F ∣ d - 1) : Prm N := by
  obtain ⟨d, hd, hdN⟩ := prm_dvd N hN
  by_cases e : d = N
  · exact e ▸ hd
  · exfalso
    obtain ⟨c, hc⟩ := hdN
    have hc1 : 1 < c := by
      rcases c with _ | _ | c
      · omega
      · omega
      · omega
    obtain ⟨d', hd', hdc⟩ := prm_dvd c hc1
    have g1 : F ≤ d - 1 := Nat.le_of_dvd (by have := hd.1; omega) (h d hd ⟨c, hc⟩)
    have g2 : F ≤ d' - 1 := Nat.le_of_dvd (by have := hd'.1; omega) (h d' hd' (Nat.dvd_trans hdc ⟨d, by rw [hc, Nat.mul_comm]⟩))
    have g3 := Nat.le_of_dvd (by omega) hdc
    have g4 : F * F ≤ d * c := Nat.mul_le_mul (by omega) (by omega)
    omega
/-! Powers by squaring, for the kernel. -/
def pm (N : Nat) : Nat → Nat → Nat → Nat → Nat
  | 0, _, _, acc => acc
  | f + 1, b, e, acc => pm N f (b * b % N) (e / 2) (if e % 2 = 1 then acc * b % N else acc)
theorem pm_spec (N : Nat) (f : Nat) : ∀ b e acc, e < 2 ^ f → pm N f b e acc % N = acc * b ^ e % N := by
  induction f with
  | zero =>
    intro b e acc h
    have : e = 0 := by simpa using h
    rw [this, Nat.pow_zero, Nat.mul_one]; rfl
  | succ f ih =>
    intro b e acc h
    show pm N f (b * b % N) (e / 2) (if e % 2 = 1 then acc * b % N else acc) % N = _
    rw [ih _ _ _ (by rw [Nat.pow_succ] at h; omega)]
    have h1 : (b * b % N) ^ (e / 2) % N = b ^ (2 * (e / 2)) % N := by
      rw [← Nat.pow_mod, Nat.pow_mul, Nat.pow_two]
    rw [Nat.mul_mod, h1, ← Nat.mul_mod]
    by_cases he : e % 2 = 1
    · rw [if_pos he, Nat.mul_mod, Nat.mod_mod, ← Nat.mul_mod, Nat.mul_assoc, ← Nat.pow_add_one']
      have : 2 * (e / 2) + 1 = e := by omega
      rw [this]
    · rw [if_neg he]
      have : 2 * (e / 2) = e := by omega
      rw [this]
theorem pm_spec2 (N g h b e acc : Nat) (hh : e < 2 ^ g * 2 ^ h) : pm N (g + h) b e acc % N = acc * b ^ e % N :=
  pm_spec N (g + h) b e acc (by rw [Nat.pow_add]; exact hh)
theorem pm_eq {N a e c : Nat} (h : e < 2 ^ 256 * 2 ^ 256 ∧ pm N 512 a e 1 % N = c) : a ^ e % N = c := by
  have := pm_spec2 N 256 256 a e 1 h.1
  rw [Nat.one_mul] at this
  rw [← this]; exact h.2
theorem cop_pm {N a e M : Nat} (h : e < 2 ^ 256 * 2 ^ 256 ∧ Nat.gcd (pm N 512 a e 1 % N + M) N = 1) : Nat.Coprime (a ^ e % N + M) N := by
  have := pm_eq (N := N) (a := a) (e := e) ⟨h.1, rfl⟩
  rw [this]; exact h.2
/-! Trial division. -/
def tr (n : Nat) : Nat → Nat → Bool
  | 0, _ => true
  | f + 1, d => if n % d = 0 then false else tr n f (d + 1)
theorem tr_spec (n : Nat) (f : Nat) : ∀ d, tr n f d = true → ∀ c, d ≤ c → c < d + f → ¬ c ∣ n := by
  induction f with
  | zero => intro d _ c h1 h2; omega
  | succ f ih =>
    intro d h c h1 h2 hc
    unfold tr at h
    by_cases h0 : n % d = 0
    · rw [if_pos h0] at h; exact absurd h (by decide)
    · rw [if_neg h0] at h
      by_cases e : c = d
      · rw [e] at hc; exact h0 (Nat.mod_eq_zero_of_dvd hc)
      · exact ih (d + 1) h c (by omega) (by omega) hc
theorem prm_trial (n f : Nat) (h1 : 1 < n) (h2 : n < (f + 2) * (f + 2)) (h : n < 4 ∨ tr n f 2 = true) : Prm n := by
  refine ⟨h1, fun d hd => ?_⟩
  obtain ⟨c, hc⟩ := hd
  rcases h with h | h
  · have hd2 : d = 1 ∨ d = n := by
      have hle := Nat.le_of_dvd (by omega) (⟨c, hc⟩ : d ∣ n)
      have h0 : d ≠ 0 := by
        intro e; rw [e, Nat.zero_mul] at hc; omega
      rcases d with _ | _ | _ | d
      · exact absurd rfl h0
      · left; rfl
      · right
        have : n = 2 ∨ n = 3 := by omega
        rcases this with e | e
        · omega
        · omega
      · right; omega
    exact hd2
  · have key : ∀ x y, n = x * y → x ≤ y → x = 1 ∨ x = 0 := by
      intro x y e hle
      rcases Nat.lt_or_ge x 2 with g | g
      · omega
      · exfalso
        refine tr_spec n f 2 h x g ?_ ⟨y, e⟩
        rcases Nat.lt_or_ge x (2 + f) with g2 | g2
        · exact g2
        · exfalso
          have : (f + 2) * (f + 2) ≤ x * y := Nat.mul_le_mul (by omega) (by omega)
          omega
    rcases Nat.le_total d c with hle | hle
    · rcases key d c hc hle with e | e
      · exact Or.inl e
      · rw [e, Nat.zero_mul] at hc; omega
    · rcases key c d (by rw [hc, Nat.mul_comm]) hle with e | e
      · right; rw [hc, e, Nat.mul_one]
      · rw [e, Nat.mul_zero] at hc; omega
theorem pockp {N M F a d : Nat} (qs : List Nat) (hM : N = M + 1) (hF : F ∣ M) (hd : Prm d) (hdN : d ∣ N) (h1 : M < 2 ^ 256 * 2 ^ 256 ∧ pm N 512 a M 1 % N = 1)
    (hc : ∀ t, (∀ q, q ∈ qs → Nat.Coprime q t) → Nat.Coprime F t)
    (hq : ∀ q, q ∈ qs → Prm q ∧ q ∣ M ∧ M / q < 2 ^ 256 * 2 ^ 256 ∧ Nat.gcd (pm N 512 a (M / q) 1 % N + M) N = 1) : F ∣ d - 1 :=
  pock qs hM hF hd hdN (pm_eq h1) hc (fun q h => ⟨(hq q h).1, (hq q h).2.1, cop_pm (hq q h).2.2⟩)
theorem prm_786251 : Prm 786251 := prm_trial 786251 887 (by decide) (by decide) (by decide +kernel)
theorem prm_65521 : Prm 65521 := prm_trial 65521 256 (by decide) (by decide) (by decide +kernel)
theorem prm_376631 : Prm 376631 := prm_trial 376631 614 (by decide) (by decide) (by decide +kernel)
theorem prm_10056583 : Prm 10056583 := prm_trial 10056583 3172 (by decide) (by decide) (by decide +kernel)
theorem fac_192153584101141037 : ∀ d, Prm d → d ∣ 192153584101141037 → 3787620911873 ∣ d - 1 := by
  intro d hd hdN
  refine pockp (N := 192153584101141037) (M := 192153584101141036) (F := 3787620911873) (a := 2) [376631, 10056583] (by decide) (by decide +kernel) hd hdN (by decide +kernel) ?_ ?_
  · intro t h
    have e : 3787620911873 = (376631 * 10056583) := by decide
    rw [e]
    exact Nat.Coprime.mul_left ((h 376631 (by decide))) ((h 10056583 (by decide)))
  · intro q hq
    simp only [List.mem_cons, List.not_mem_nil, or_false] at hq
    rcases hq with rfl | rfl
    · exact ⟨prm_376631, by decide +kernel, by decide +kernel⟩
    · exact ⟨prm_10056583, by decide +kernel, by decide +kernel⟩
theorem prm_192153584101141037 : Prm 192153584101141037 := prm_of (by decide) (by decide) fac_192153584101141037
theorem fac_1152921504606846223 : ∀ d, Prm d → d ∣ 1152921504606846223 → 192153584101141037 ∣ d - 1 := by
  intro d hd hdN
  refine pockp (N := 1152921504606846223) (M := 1152921504606846222) (F := 192153584101141037) (a := 2) [192153584101141037] (by decide) (by decide +kernel) hd hdN (by decide +kernel) ?_ ?_
  · intro t h
    have e : 192153584101141037 = 192153584101141037 := by decide
    rw [e]
    exact (h 192153584101141037 (by decide))
  · intro q hq
    simp only [List.mem_cons, List.not_mem_nil, or_false] at hq
    subst hq
    · exact ⟨prm_192153584101141037, by decide +kernel, by decide +kernel⟩
theorem prm_1152921504606846223 : Prm 1152921504606846223 := prm_of (by decide) (by decide) fac_1152921504606846223
theorem prm_2192917 : Prm 2192917 := prm_trial 2192917 1481 (by decide) (by decide) (by decide +kernel)
theorem prm_6868571 : Prm 6868571 := prm_trial 6868571 2621 (by decide) (by decide) (by decide +kernel)
theorem fac_72057594037927889 : ∀ d, Prm d → d ∣ 72057594037927889 → 15062206111607 ∣ d - 1 := by
  intro d hd hdN
  refine pockp (N := 72057594037927889) (M := 72057594037927888) (F := 15062206111607) (a := 2) [2192917, 6868571] (by decide) (by decide +kernel) hd hdN (by decide +kernel) ?_ ?_
  · intro t h
    have e : 15062206111607 = (2192917 * 6868571) := by decide
    rw [e]
    exact Nat.Coprime.mul_left ((h 2192917 (by decide))) ((h 6868571 (by decide)))
  · intro q hq
    simp only [List.mem_cons, List.not_mem_nil, or_false] at hq
    rcases hq with rfl | rfl
    · exact ⟨prm_2192917, by decide +kernel, by decide +kernel⟩
    · exact ⟨prm_6868571, by decide +kernel, by decide +kernel⟩
theorem prm_72057594037927889 : Prm 72057594037927889 := prm_of (by decide) (by decide) fac_72057594037927889
theorem sq_mod {p z : Nat} (hp : Prm p) (h : z * z % p = 1) : z % p = 1 ∨ (z + 1) % p = 0 := by
  have h1 : 1 ≤ z := by
    rcases Nat.eq_zero_or_pos z with e | e
    · rw [e, Nat.mul_zero, Nat.zero_mod] at h; cases h
    · exact e
  have h2 : p ∣ (z - 1) * (z + 1) := by
    have e : (z - 1) * (z + 1) = z * z - 1 := by
      obtain ⟨y, rfl⟩ : ∃ y, z = y + 1 := ⟨z - 1, by omega⟩
      rw [Nat.add_sub_cancel]
      have : (y + 1) * (y + 1) = y * (y + 1 + 1) + 1 := by grind
      omega
    rw [e]
    refine Nat.dvd_of_mod_eq_zero (Nat.sub_mod_eq_zero_of_mod_eq ?_)
    rw [h, Nat.mod_eq_of_lt hp.1]
  rcases hp.mul h2 with h3 | h3
  · left
    obtain ⟨c, hc⟩ := h3
    rw [show z = 1 + p * c by omega, Nat.add_mul_mod_self_left, Nat.mod_eq_of_lt hp.1]
  · right; exact Nat.mod_eq_zero_of_dvd h3
/-- By a prime that leaves 3 by 4 the power is the number or the negated one. -/
theorem half_pow {p a j : Nat} (hp : Prm p) (h4 : p + 1 = 4 * (j + 1)) (ha : ¬ p ∣ a) : a ^ (2 * j + 2) % p = a % p ∨ (a ^ (2 * j + 2) + a) % p = 0 := by
  have hz : a ^ (2 * j + 1) * a ^ (2 * j + 1) % p = 1 := by
    rw [← Nat.pow_add, show 2 * j + 1 + (2 * j + 1) = p - 1 by omega]
    exact fermat1 hp a ha
  have e : a ^ (2 * j + 2) = a ^ (2 * j + 1) * a := by rw [show 2 * j + 2 = 2 * j + 1 + 1 by omega, Nat.pow_succ]
  rw [e]
  rcases sq_mod hp hz with h | h
  · left
    rw [Nat.mul_mod, h, Nat.one_mul, Nat.mod_mod]
  · right
    rw [show a ^ (2 * j + 1) * a + a = (a ^ (2 * j + 1) + 1) * a by rw [Nat.add_mul, Nat.one_mul], Nat.mul_mod, h, Nat.zero_mul, Nat.zero_mod]
theorem even_pow {p a b : Nat} (h : (a + b) % p = 0) (k : Nat) : a ^ (2 * k) % p = b ^ (2 * k) % p := by
  rw [Nat.pow_mul, Nat.pow_mul, Nat.pow_mod, Nat.pow_mod (b ^ 2)]
  congr 2
  rw [Nat.pow_two, Nat.pow_two]
  have e : a * a + b * (a + b) = b * b + a * (a + b) := by grind
  have e1 : (a * a + b * (a + b)) % p = a * a % p := by rw [Nat.add_mod, Nat.mul_mod b, h, Nat.mul_zero, Nat.zero_mod, Nat.add_zero, Nat.mod_mod]
  have e2 : (b * b + a * (a + b)) % p = b * b % p := by rw [Nat.add_mod, Nat.mul_mod a, h, Nat.mul_zero, Nat.zero_mod, Nat.add_zero, Nat.mod_mod]
  rw [← e1, ← e2, e]
end NT
end Go.Proofs.Ytjmbgchoioepjaa
end
section
namespace Go.Proofs.Ytjmbgchoioepjaa
open Go.RowKit
namespace Rg
open NT
section
variable {p : Nat} [NeZero p]
/-- A number, by p. -/
abbrev ph (p : Nat) [NeZero p] (n : Nat) : Fin p := Fin.ofNat p n
theorem ph_tm (a b : Nat) : ph p (tm p a b) = ph p a * ph p b := by
  apply Fin.ext
  simp [tm, Fin.val_mul]
theorem ph_pl (a b : Nat) : ph p (pl p a b) = ph p a + ph p b := by
  apply Fin.ext
  simp [pl, Fin.val_add]
theorem ph_val (a : Nat) : (ph p a).val = a % p := rfl
theorem ph_mi (a b : Nat) (hb : b < p) : ph p (mi p a b) = ph p a - ph p b := by
  apply Fin.ext
  rw [Fin.val_sub, ph_val, ph_val, ph_val]
  unfold mi
  rw [Nat.mod_mod, Nat.mod_eq_of_lt hb, Nat.add_mod_mod]
  congr 1
  omega
theorem ph_inj {a b : Nat} (ha : a < p) (hb : b < p) (h : ph p a = ph p b) : a = b := by
  have e := congrArg Fin.val h
  rw [ph_val, ph_val, Nat.mod_eq_of_lt ha, Nat.mod_eq_of_lt hb] at e
  exact e
theorem ph_zero : ph p 0 = 0 := rfl
theorem ph_one : ph p 1 = 1 := rfl
theorem ph_2 : ph p 2 = 2 := rfl
theorem ph_3 : ph p 3 = 3 := rfl
theorem ph_4 : ph p 4 = 4 := rfl
theorem ph_8 : ph p 8 = 8 := rfl
theorem ph_eq0 {a : Nat} (ha : a < p) : ph p a = 0 ↔ a = 0 := ⟨fun h => ph_inj ha (Nat.lt_of_le_of_lt (Nat.zero_le _) ha) h, fun h => by rw [h]; rfl⟩
theorem fp_mul {x y : Fin p} (hq : Prm p) (h : x * y = 0) : x = 0 ∨ y = 0 := by
  have e := congrArg Fin.val h
  rw [Fin.val_mul] at e
  have hd : p ∣ x.val * y.val := Nat.dvd_of_mod_eq_zero e
  rcases hq.mul hd with h | h
  · exact Or.inl (Fin.ext (Nat.eq_zero_of_dvd_of_lt h x.isLt))
  · exact Or.inr (Fin.ext (Nat.eq_zero_of_dvd_of_lt h y.isLt))
theorem fp_ne {x y : Fin p} (hq : Prm p) (hx : x ≠ 0) (hy : y ≠ 0) : x * y ≠ 0 := fun h => (fp_mul hq h).elim hx hy
theorem fp_cancel {x y z : Fin p} (hq : Prm p) (hz : z ≠ 0) (h : x * z = y * z) : x = y := by
  have e : (x - y) * z = 0 := by grind
  rcases fp_mul hq e with h | h
  · grind
  · exact absurd h hz
/-- By the power p - 2 a number is turned over. -/
theorem ph_inv {a : Nat} (hq : Prm p) (h2 : 2 < p) (ha : ph p a ≠ 0) : ph p a * ph p (pw p a (p - 2)) = 1 := by
  apply Fin.ext
  rw [Fin.val_mul, ph_val, ph_val]
  unfold pw
  rw [Nat.mod_mod, ← Nat.mul_mod, Nat.mul_comm, ← Nat.pow_succ, show (p - 2).succ = p - 1 by omega, fermat1 hq a (fun hd => ha (Fin.ext (Nat.mod_eq_zero_of_dvd hd)))]
  exact (Nat.mod_eq_of_lt (by omega)).symm
/-- A triple's point. -/
structure Rep (p : Nat) [NeZero p] (t : T3) (a : P3) : Prop where
  lt : Lt3 p t
  zr : a.2.2 = true → t.2.2 = 0
  nz : a.2.2 = false → ph p t.2.2 ≠ 0 ∧ ph p t.1 = ph p a.1 * ph p t.2.2 * ph p t.2.2 ∧ ph p t.2.1 = ph p a.2.1 * ph p t.2.2 * ph p t.2.2 * ph p t.2.2
/-- A point of the curve. -/
structure On (p : Nat) [NeZero p] (a : P3) : Prop where
  lt : LtP p a
  zr : a.2.2 = true → a = (0, 0, true)
  cv : a.2.2 = false → ph p a.2.1 * ph p a.2.1 = ph p a.1 * ph p a.1 * ph p a.1 + ph p a.1
theorem ph_cb (x : Nat) : ph p (cb p x) = ph p x * ph p x * ph p x + ph p x := by
  unfold cb
  rw [ph_tm, ph_pl, ph_tm, ph_one]
  grind
theorem on_of (hp : Pr p) {X Y : Nat} {Z : Bool} (h : oc p X Y Z = true) : On p (X, Y, Z) := by
  have hl := oc_lt hp h
  refine ⟨⟨hl.1, hl.2⟩, fun hz => ?_, fun hz => ?_⟩
  · simp only at hz
    subst hz
    simp [oc] at h
    rw [h.1, h.2]
  · simp only at hz
    subst hz
    simp [oc] at h
    have e := congrArg (ph p) h.2.2
    rw [ph_tm, ph_cb] at e
    exact e
theorem oc_of (hp : Pr p) {a : P3} (h : On p a) : oc p a.1 a.2.1 a.2.2 = true := by
  obtain ⟨X, Y, Z⟩ := a
  cases Z
  · have e : tm p Y Y = cb p X := by
      refine ph_inj (tm_lt hp) (tm_lt hp) ?_
      rw [ph_tm, ph_cb]
      exact h.cv rfl
    have h1 := h.lt.x
    have h2 := h.lt.y
    simp only at h1 h2
    simp [oc, e, h1, h2]
  · have := h.zr rfl
    injection this with h1 h2
    injection h2 with h2 _
    subst h1 h2
    simp [oc]
theorem rep_tO (hp : Pr p) {a : P3} (ha : On p a) : Rep p (tO a.1 a.2.1 a.2.2) a := by
  refine ⟨tO_lt hp ha.lt.x ha.lt.y, fun hz => ?_, fun hz => ?_⟩
  · unfold tO; rw [if_pos hz]
  · unfold tO
    rw [if_neg (by rw [hz]; decide)]
    have h1 : (1 : Fin p) ≠ 0 := fun e => by
      have := (ph_eq0 (p := p) (one_lt hp)).1 e
      omega
    simp only [ph_one]
    exact ⟨h1, by grind, by grind⟩
/-- The point is told. -/
theorem rep_pt (hp : Pr p) (hq : Prm p) {t : T3} {a : P3} (h : Rep p t a) (ha : On p a) : (pX p t, pY p t, pZ t) = a := by
  obtain ⟨X, Y, Z⟩ := a
  cases Z
  · obtain ⟨h1, h2, h3⟩ := h.nz rfl
    have hz : t.2.2 ≠ 0 := fun e => h1 ((ph_eq0 h.lt.z).2 e)
    have hi := ph_inv hq (by have := hp.lo; omega) h1
    unfold pX pY pZ
    rw [if_neg hz, if_neg hz, decide_eq_false hz]
    have e1 : tm p t.1 (tm p (pw p t.2.2 (p - 2)) (pw p t.2.2 (p - 2))) = X := by
      refine ph_inj (tm_lt hp) ha.lt.x ?_
      rw [ph_tm, ph_tm, h2]
      generalize ph p (pw p t.2.2 (p - 2)) = i at hi ⊢
      grind
    have e2 : tm p t.2.1 (tm p (tm p (pw p t.2.2 (p - 2)) (pw p t.2.2 (p - 2))) (pw p t.2.2 (p - 2))) = Y := by
      refine ph_inj (tm_lt hp) ha.lt.y ?_
      rw [ph_tm, ph_tm, ph_tm, h3]
      generalize ph p (pw p t.2.2 (p - 2)) = i at hi ⊢
      generalize ph p t.2.2 = z at *
      have : z * i * (z * i) * (z * i) = 1 := by rw [hi]; grind
      grind
    rw [e1, e2]
  · have hz := h.zr rfl
    unfold pX pY pZ
    rw [if_pos hz, if_pos hz, decide_eq_true hz]
    exact (ha.zr rfl).symm
end
end Rg
end Go.Proofs.Ytjmbgchoioepjaa
end
section
namespace Go.Proofs.Ytjmbgchoioepjaa
open Go.RowKit
namespace Rg
open NT
theorem dA_same {p : Nat} {a : P3} (hz : a.2.2 = false) (h : ¬ a = (a.1, mi p 0 a.2.1, a.2.2)) : dA p a a = (d3X p (sl1 p a.1 a.2.1) a.1 a.1, d3Y p (sl1 p a.1 a.2.1) a.1 a.1 a.2.1, false) := by
  unfold dA dS
  rw [if_neg (by rw [hz]; decide), if_neg (by rw [hz]; decide), if_neg h, if_pos rfl]
theorem dA_neg {p : Nat} {a b : P3} (hz : a.2.2 = false) (hy : b.2.2 = false) (h : a = (b.1, mi p 0 b.2.1, b.2.2)) : dA p a b = (0, 0, true) := by
  unfold dA
  rw [if_neg (by rw [hz]; decide), if_neg (by rw [hy]; decide), if_pos h]
theorem dA_else {p : Nat} {a b : P3} (hz : a.2.2 = false) (hy : b.2.2 = false) (h : ¬ a = (b.1, mi p 0 b.2.1, b.2.2)) (hn : ¬ a = b) : dA p a b = (d3X p (sl2 p a.1 a.2.1 b.1 b.2.1) a.1 b.1, d3Y p (sl2 p a.1 a.2.1 b.1 b.2.1) a.1 b.1 a.2.1, false) := by
  unfold dA dS
  rw [if_neg (by rw [hz]; decide), if_neg (by rw [hy]; decide), if_neg h, if_neg hn]
section
variable {p : Nat} [NeZero p]
theorem ph_mi0 (b : Nat) (hb : b < p) : ph p (mi p 0 b) = - ph p b := by
  rw [ph_mi 0 b hb, ph_zero]
  grind
/-- What a sum is, in the field. -/
theorem sum_on (x1 y1 x2 y2 m x3 : Fin p) (c1 : y1 * y1 = x1 * x1 * x1 + x1) (hm : m * (x2 - x1) = y2 - y1) (c2 : y2 * y2 = x2 * x2 * x2 + x2) (hne : x2 - x1 ≠ 0) (hq : Prm p) (h3 : x3 = m * m - x1 - x2) : (m * (x1 - x3) - y1) * (m * (x1 - x3) - y1) = x3 * x3 * x3 + x3 := by
  refine fp_cancel hq hne ?_
  have e : y2 = y1 + m * (x2 - x1) := by grind
  subst e h3
  grind
theorem twice_on (x1 y1 m x3 : Fin p) (c1 : y1 * y1 = x1 * x1 * x1 + x1) (hm : m * (y1 + y1) = 3 * (x1 * x1) + 1) (h3 : x3 = m * m - x1 - x1) : (m * (x1 - x3) - y1) * (m * (x1 - x3) - y1) = x3 * x3 * x3 + x3 := by
  subst h3
  grind
theorem on_zero' (hp : Pr p) : On p (0, 0, true) := ⟨⟨zero_lt hp, zero_lt hp⟩, fun _ => rfl, fun h => (by cases h)⟩
theorem ph_d3X {m x y : Nat} (hx : x < p) (hy : y < p) : ph p (d3X p m x y) = ph p m * ph p m - ph p x - ph p y := by
  unfold d3X
  rw [ph_mi _ _ hy, ph_mi _ _ hx, ph_tm]
theorem ph_d3Y (hp : Pr p) {m x x' y : Nat} (hy : y < p) : ph p (d3Y p m x x' y) = ph p m * (ph p x - ph p (d3X p m x x')) - ph p y := by
  unfold d3Y
  rw [ph_mi _ _ hy, ph_tm, ph_mi _ (d3X p m x x') (mi_lt hp)]
theorem neg_of (hp : Pr p) {a : P3} (ha : On p a) (h : ph p a.2.1 + ph p a.2.1 = 0) : a = (a.1, mi p 0 a.2.1, a.2.2) := by
  have e : a.2.1 = mi p 0 a.2.1 := by
    refine ph_inj ha.lt.y (mi_lt hp) ?_
    rw [ph_mi0 _ ha.lt.y]
    grind
  rw [← e]
/-- A point and itself. -/
theorem tw_rep (hp : Pr p) (hq : Prm p) {t : T3} {a : P3} (h : Rep p t a) (ha : On p a) : Rep p (twT p t) (dA p a a) ∧ On p (dA p a a) := by
  have hl := tw_lt hp t
  by_cases hz : a.2.2 = true
  · have e : dA p a a = a := by unfold dA; rw [if_pos hz]
    rw [e]
    refine ⟨⟨hl, fun _ => ?_, fun h' => (by rw [hz] at h'; cases h')⟩, ha⟩
    have h0 := h.zr hz
    unfold twT
    simp only [h0]
    unfold tm
    simp
  · have hz : a.2.2 = false := by simpa using hz
    obtain ⟨h1, h2, h3⟩ := h.nz hz
    have hc := ha.cv hz
    by_cases hn : a = (a.1, mi p 0 a.2.1, a.2.2)
    · rw [dA_neg hz hz hn]
      have e : ph p a.2.1 + ph p a.2.1 = 0 := by
        have e : a.2.1 = mi p 0 a.2.1 := congrArg (fun q : P3 => q.2.1) hn
        have e2 := congrArg (ph p) e
        rw [ph_mi0 _ ha.lt.y] at e2
        generalize ph p a.2.1 = y at e2
        have : y + y = y + -y := by rw [← e2]
        grind
      refine ⟨⟨hl, fun _ => ?_, fun h' => (by cases h')⟩, on_zero' hp⟩
      refine (ph_eq0 hl.z).1 ?_
      unfold twT
      rw [ph_tm, ph_tm, h3, ph_2]
      grind
    · have hy : ph p (pl p a.2.1 a.2.1) ≠ 0 := fun e => hn (neg_of hp ha (by rw [ph_pl] at e; exact e))
      have hi := ph_inv hq (by have := hp.lo; omega) hy
      rw [ph_pl] at hy hi
      rw [dA_same hz hn]
      have em : ph p (sl1 p a.1 a.2.1) * (ph p a.2.1 + ph p a.2.1) = 3 * (ph p a.1 * ph p a.1) + 1 := by
        unfold sl1
        rw [ph_tm, ph_pl, ph_pl, ph_pl, ph_tm, ph_one]
        generalize ph p (pw p (pl p a.2.1 a.2.1) (p - 2)) = i at hi ⊢
        grind
      have eX := ph_d3X (m := sl1 p a.1 a.2.1) ha.lt.x ha.lt.x
      have eY := ph_d3Y hp (m := sl1 p a.1 a.2.1) (x := a.1) (x' := a.1) ha.lt.y
      rw [eX] at eY
      have eR : ph p (tR p t.1 t.2.2) = 3 * (ph p t.1 * ph p t.1) + ph p t.2.2 * ph p t.2.2 * (ph p t.2.2 * ph p t.2.2) := by
        unfold tR
        rw [ph_pl, ph_tm, ph_tm, ph_tm, ph_tm, ph_3]
      have eM : ph p (tM p t.1 t.2.1) = 4 * (ph p t.1 * (ph p t.2.1 * ph p t.2.1)) := by
        unfold tM
        rw [ph_tm, ph_tm, ph_tm, ph_4]
      have fZ : ph p (twT p t).2.2 = 2 * (ph p t.2.1 * ph p t.2.2) := by
        unfold twT
        rw [ph_tm, ph_tm, ph_2]
      have fX : ph p (twT p t).1 = ph p (tR p t.1 t.2.2) * ph p (tR p t.1 t.2.2) - (ph p (tM p t.1 t.2.1) + ph p (tM p t.1 t.2.1)) := by
        show ph p (tX p t.1 t.2.1 t.2.2) = _
        unfold tX
        rw [ph_mi _ _ (pl_lt hp), ph_tm, ph_pl]
      have fY : ph p (twT p t).2.1 = ph p (tR p t.1 t.2.2) * (ph p (tM p t.1 t.2.1) - ph p (twT p t).1) - 8 * (ph p t.2.1 * ph p t.2.1 * (ph p t.2.1 * ph p t.2.1)) := by
        show ph p (tY p t.1 t.2.1 t.2.2) = _
        unfold tY
        rw [ph_mi _ _ (tm_lt hp), ph_tm, ph_mi _ (tX p t.1 t.2.1 t.2.2) (mi_lt hp), ph_tm, ph_tm, ph_tm, ph_8]
        rfl
      rw [fX] at fY
      rw [eR, eM] at fX fY
      refine ⟨⟨hl, fun h' => (by cases h'), fun _ => ⟨?_, ?_, ?_⟩⟩, ⟨⟨mi_lt hp, mi_lt hp⟩, fun h' => (by cases h'), fun _ => ?_⟩⟩
      · rw [fZ, h3]
        have := fp_ne hq hy (fp_ne hq h1 (fp_ne hq h1 (fp_ne hq h1 h1)))
        intro e
        apply this
        grind
      · rw [fX, fZ, eX]
        generalize ph p (sl1 p a.1 a.2.1) = m at em ⊢
        generalize ph p t.1 = x at *
        generalize ph p t.2.1 = y at *
        generalize ph p t.2.2 = z at *
        generalize ph p a.1 = X at *
        generalize ph p a.2.1 = Y at *
        clear hi h fX fY fZ eX eY eR eM
        subst h2 h3
        grind
      · rw [fY, fZ, eY]
        generalize ph p (sl1 p a.1 a.2.1) = m at em ⊢
        generalize ph p t.1 = x at *
        generalize ph p t.2.1 = y at *
        generalize ph p t.2.2 = z at *
        generalize ph p a.1 = X at *
        generalize ph p a.2.1 = Y at *
        clear hi h fX fY fZ eX eY eR eM
        subst h2 h3
        grind
      · rw [eY, eX]
        exact twice_on _ _ _ _ hc em rfl
end
end Rg
end Go.Proofs.Ytjmbgchoioepjaa
end
section
namespace Go.Proofs.Ytjmbgchoioepjaa
open Go.RowKit
namespace Rg
open NT
section
variable {p : Nat} [NeZero p]
theorem ph_jU {t : T3} (ht : Lt3 p t) (X : Nat) : ph p (jU p t.1 t.2.2 X) = ph p X * (ph p t.2.2 * ph p t.2.2) - ph p t.1 := by
  unfold jU
  rw [ph_mi _ _ ht.x, ph_tm, ph_tm]
theorem ph_jS {t : T3} (ht : Lt3 p t) (Y : Nat) : ph p (jS p t.2.1 t.2.2 Y) = ph p Y * (ph p t.2.2 * (ph p t.2.2 * ph p t.2.2)) - ph p t.2.1 := by
  unfold jS
  rw [ph_mi _ _ ht.y, ph_tm, ph_tm, ph_tm]
theorem p3_eq {a b : P3} (h1 : a.1 = b.1) (h2 : a.2.1 = b.2.1) (h3 : a.2.2 = b.2.2) : a = b := by
  obtain ⟨x, y, z⟩ := a
  obtain ⟨x', y', z'⟩ := b
  simp only at h1 h2 h3
  rw [h1, h2, h3]
/-- A triple and a point. -/
theorem jn_rep (hp : Pr p) (hq : Prm p) {t : T3} {a b : P3} (h : Rep p t a) (ha : On p a) (hb : On p b) : Rep p (jnT p t b.1 b.2.1 b.2.2) (dA p a b) ∧ On p (dA p a b) := by
  have hl := jn_lt hp h.lt (Z := b.2.2) hb.lt.x hb.lt.y
  by_cases hy : b.2.2 = true
  · have e : dA p a b = a := by
      unfold dA
      by_cases hz : a.2.2 = true
      · rw [if_pos hz, hb.zr hy, ha.zr hz]
      · rw [if_neg hz, if_pos hy]
    rw [e, hy, jnT_z]
    exact ⟨h, ha⟩
  · have hy : b.2.2 = false := by simpa using hy
    by_cases hz : a.2.2 = true
    · have e : dA p a b = b := by unfold dA; rw [if_pos hz]
      rw [e, hy, jnT_0 (h.zr hz)]
      have := rep_tO hp hb
      unfold tO at this
      rw [if_neg (by rw [hy]; decide)] at this
      exact ⟨this, hb⟩
    · have hz : a.2.2 = false := by simpa using hz
      obtain ⟨h1, h2, h3⟩ := h.nz hz
      have hc := ha.cv hz
      have hd := hb.cv hy
      have hz0 : t.2.2 ≠ 0 := fun e => h1 ((ph_eq0 h.lt.z).2 e)
      have eU : ph p (jU p t.1 t.2.2 b.1) = (ph p b.1 - ph p a.1) * (ph p t.2.2 * ph p t.2.2) := by
        rw [ph_jU h.lt, h2]
        grind
      have eS : ph p (jS p t.2.1 t.2.2 b.2.1) = (ph p b.2.1 - ph p a.2.1) * (ph p t.2.2 * (ph p t.2.2 * ph p t.2.2)) := by
        rw [ph_jS h.lt, h3]
        grind
      have hzz := fp_ne hq h1 h1
      have hzzz := fp_ne hq h1 hzz
      have xx : ∀ {u v : Nat}, u < p → v < p → ph p u - ph p v = 0 → u = v := fun hu hv e => ph_inj hu hv (by grind)
      by_cases hs : jU p t.1 t.2.2 b.1 = 0 ∧ jS p t.2.1 t.2.2 b.2.1 = 0
      · have e1 : b.1 = a.1 := by
          refine xx hb.lt.x ha.lt.x ?_
          rw [hs.1, ph_zero] at eU
          exact (fp_mul hq eU.symm).resolve_right hzz
        have e2 : b.2.1 = a.2.1 := by
          refine xx hb.lt.y ha.lt.y ?_
          rw [hs.2, ph_zero] at eS
          exact (fp_mul hq eS.symm).resolve_right hzzz
        have e : b = a := p3_eq e1 e2 (by rw [hy, hz])
        rw [hy, jnT_s hz0 hs, e]
        exact tw_rep hp hq h ha
      · rw [hy, jnT_g hz0 hs]
        rw [hy, jnT_g hz0 hs] at hl
        have hne : ¬ a = b := fun e => hs ⟨(ph_eq0 (mi_lt hp)).1 (by
          show ph p (jU p t.1 t.2.2 b.1) = 0
          rw [eU, e]; grind), (ph_eq0 (mi_lt hp)).1 (by
          show ph p (jS p t.2.1 t.2.2 b.2.1) = 0
          rw [eS, e]; grind)⟩
        by_cases hn : a = (b.1, mi p 0 b.2.1, b.2.2)
        · rw [dA_neg hz hy hn]
          have e1 : a.1 = b.1 := by
            have e2 := congrArg (fun q : P3 => q.1) hn
            exact e2
          refine ⟨⟨hl, fun _ => (ph_eq0 hl.z).1 ?_, fun h' => (by cases h')⟩, on_zero' hp⟩
          rw [ph_tm, eU, e1]
          grind
        · rw [dA_else hz hy hn hne]
          have hx : ph p b.1 - ph p a.1 ≠ 0 := fun e => by
            have e1 := xx hb.lt.x ha.lt.x e
            have e2 : (ph p b.2.1 - ph p a.2.1) * (ph p b.2.1 + ph p a.2.1) = 0 := by
              rw [e1] at hd
              grind
            rcases fp_mul hq e2 with e3 | e3
            · exact hne (p3_eq e1.symm (xx hb.lt.y ha.lt.y e3).symm (by rw [hy, hz]))
            · refine hn (p3_eq e1.symm (ph_inj ha.lt.y (mi_lt hp) ?_) (by show a.2.2 = b.2.2; rw [hy, hz]))
              rw [ph_mi0 _ hb.lt.y]
              grind
          have hmi : ph p (mi p b.1 a.1) ≠ 0 := by rw [ph_mi _ _ ha.lt.x]; exact hx
          have hi := ph_inv hq (by have := hp.lo; omega) hmi
          rw [ph_mi _ _ ha.lt.x] at hi
          have em : ph p (sl2 p a.1 a.2.1 b.1 b.2.1) * (ph p b.1 - ph p a.1) = ph p b.2.1 - ph p a.2.1 := by
            unfold sl2
            rw [ph_tm, ph_mi _ _ ha.lt.y]
            generalize ph p (pw p (mi p b.1 a.1) (p - 2)) = i at hi ⊢
            grind
          have eX := ph_d3X (m := sl2 p a.1 a.2.1 b.1 b.2.1) ha.lt.x hb.lt.x
          have eY := ph_d3Y hp (m := sl2 p a.1 a.2.1 b.1 b.2.1) (x := a.1) (x' := b.1) ha.lt.y
          rw [eX] at eY
          generalize jU p t.1 t.2.2 b.1 = u at hl eU ⊢
          generalize jS p t.2.1 t.2.2 b.2.1 = s at hl eS ⊢
          have fX : ph p (jX p t.1 u s) = ph p s * ph p s - ph p u * ph p u * ph p u - (ph p t.1 * (ph p u * ph p u) + ph p t.1 * (ph p u * ph p u)) := by
            unfold jX
            rw [ph_mi _ _ (pl_lt hp), ph_mi _ (jC p u) (tm_lt hp), ph_tm, ph_pl]
            unfold jC jM
            rw [ph_tm, ph_tm, ph_tm, ph_tm]
          have fY : ph p (jY p t.1 t.2.1 u s) = ph p s * (ph p t.1 * (ph p u * ph p u) - ph p (jX p t.1 u s)) - ph p t.2.1 * (ph p u * ph p u * ph p u) := by
            unfold jY
            rw [ph_mi _ _ (tm_lt hp), ph_tm, ph_mi _ (jX p t.1 u s) (mi_lt hp), ph_tm]
            unfold jC jM
            rw [ph_tm, ph_tm, ph_tm, ph_tm]
          rw [fX] at fY
          refine ⟨⟨hl, fun h' => (by cases h'), fun _ => ⟨?_, ?_, ?_⟩⟩, ⟨⟨mi_lt hp, mi_lt hp⟩, fun h' => (by cases h'), fun _ => ?_⟩⟩
          · rw [ph_tm, eU]
            exact fp_ne hq h1 (fp_ne hq hx hzz)
          · simp only
            rw [fX, ph_tm, eX, eU, eS]
            generalize ph p (sl2 p a.1 a.2.1 b.1 b.2.1) = m at em ⊢
            generalize ph p t.1 = x at *
            generalize ph p t.2.1 = y at *
            generalize ph p t.2.2 = z at *
            generalize ph p a.1 = X at *
            generalize ph p a.2.1 = Y at *
            generalize ph p b.1 = X' at *
            generalize ph p b.2.1 = Y' at *
            clear hi h fX fY eX eY eU eS xx
            have e : Y' = Y + m * (X' - X) := by grind
            subst h2 h3 e
            grind
          · simp only
            rw [fY, ph_tm, eY, eU, eS]
            generalize ph p (sl2 p a.1 a.2.1 b.1 b.2.1) = m at em ⊢
            generalize ph p t.1 = x at *
            generalize ph p t.2.1 = y at *
            generalize ph p t.2.2 = z at *
            generalize ph p a.1 = X at *
            generalize ph p a.2.1 = Y at *
            generalize ph p b.1 = X' at *
            generalize ph p b.2.1 = Y' at *
            clear hi h fX fY eX eY eU eS xx
            have e : Y' = Y + m * (X' - X) := by grind
            subst h2 h3 e
            grind
          · simp only
            rw [eY, eX]
            exact sum_on _ _ _ _ _ _ hc em hd hx hq rfl
theorem mtf_rep (hp : Pr p) (hq : Prm p) {a : P3} (ha : On p a) : ∀ (f n : Nat), Rep p (mtf p a.1 a.2.1 a.2.2 f n) (dmf p a f n) ∧ On p (dmf p a f n)
  | 0, _ => ⟨⟨⟨zero_lt hp, zero_lt hp, zero_lt hp⟩, fun _ => rfl, fun h => (by cases h)⟩, on_zero' hp⟩
  | f + 1, n => by
    obtain ⟨h1, h2⟩ := mtf_rep hp hq ha f (n / 2)
    obtain ⟨h3, h4⟩ := tw_rep hp hq h1 h2
    rw [mtf, dmf]
    split
    · exact ⟨⟨⟨zero_lt hp, zero_lt hp, zero_lt hp⟩, fun _ => rfl, fun h => (by cases h)⟩, on_zero' hp⟩
    · split
      · exact jn_rep hp hq h3 h4 ha
      · exact ⟨h3, h4⟩
/-- A point multiplied is the document's. -/
theorem mt_is (hp : Pr p) (hq : Prm p) {X Y : Nat} {Z : Bool} (h : oc p X Y Z = true) (n : Nat) : (pX p (mt p X Y Z n), pY p (mt p X Y Z n), pZ (mt p X Y Z n)) = dM p (X, Y, Z) n := by
  obtain ⟨h1, h2⟩ := mtf_rep hp hq (on_of hp h) 64 n
  exact rep_pt hp hq h1 h2
theorem add_is (hp : Pr p) (hq : Prm p) {X Y X' Y' : Nat} {Z Z' : Bool} (h : oc p X Y Z = true) (h' : oc p X' Y' Z' = true) : (pX p (jnT p (tO X Y Z) X' Y' Z'), pY p (jnT p (tO X Y Z) X' Y' Z'), pZ (jnT p (tO X Y Z) X' Y' Z')) = dA p (X, Y, Z) (X', Y', Z') := by
  obtain ⟨h1, h2⟩ := jn_rep hp hq (rep_tO hp (on_of hp h)) (on_of hp h) (on_of hp h')
  exact rep_pt hp hq h1 h2
theorem ig_is (hp : Pr p) (hq : Prm p) (r X Y : Nat) (Z : Bool) : ig p r X Y Z = di p r X Y Z := by
  unfold ig di
  cases h : oc p X Y Z
  · rfl
  · have e := mt_is hp hq h r
    rw [← e]
    rfl
end
end Rg
end Go.Proofs.Ytjmbgchoioepjaa
end
section
namespace Go.Proofs.Ytjmbgchoioepjaa
open Go.RowKit
namespace Rg
open NT
section
variable {p : Nat} [NeZero p]
/-- What makes 1 with a number that is not 0. -/
def iv (x : Fin p) : Fin p := ph p (pw p x.val (p - 2))
theorem ph_self (x : Fin p) : ph p x.val = x := Fin.ext (Nat.mod_eq_of_lt x.isLt)
theorem iv_spec (hp : Pr p) (hq : Prm p) {x : Fin p} (h : x ≠ 0) : x * iv x = 1 := by
  have e := ph_inv (a := x.val) hq (by have := hp.lo; omega) (by rw [ph_self]; exact h)
  rw [ph_self] at e
  exact e
/-- A field in which -1 is no square. -/
structure Fd (p : Nat) [NeZero p] : Prop where
  pr : Pr p
  prm : Prm p
  three : p % 4 = 3
theorem Fd.two (F : Fd p) : (2 : Fin p) ≠ 0 := fun e => by
  have h := congrArg Fin.val e
  have h2 : (2 : Fin p).val = 2 % p := rfl
  have h3 := F.pr.lo
  rw [h2, Nat.mod_eq_of_lt (by omega), show (0 : Fin p).val = 0 from Nat.zero_mod p] at h
  omega
theorem Fd.nosq (F : Fd p) (z : Fin p) : z * z ≠ -1 := fun e => by
  have h3 := F.three
  have hlo := F.pr.lo
  obtain ⟨k, hk⟩ : ∃ k, p = 4 * k + 3 := ⟨p / 4, by omega⟩
  have hz : z ≠ 0 := fun h => by
    rw [h] at e
    have : (1 : Fin p) = 0 := by grind
    have := congrArg Fin.val this
    have h2 : (1 : Fin p).val = 1 % p := rfl
    rw [h2, Nat.mod_eq_of_lt (by omega), show (0 : Fin p).val = 0 from Nat.zero_mod p] at this
    omega
  have e1 : (z.val * z.val + 1) % p = 0 := by
    have : z * z + 1 = 0 := by grind
    have h := congrArg Fin.val this
    rw [Fin.val_add, Fin.val_mul, Nat.mod_add_mod] at h
    rw [show (0 : Fin p).val = 0 from Nat.zero_mod p, show (1 : Fin p).val = 1 % p from rfl, Nat.add_mod_mod] at h
    exact h
  have e2 := even_pow e1 k
  have e3 := fermat1 F.prm z.val (fun hd => hz (Fin.ext (Nat.eq_zero_of_dvd_of_lt hd z.isLt)))
  rw [Nat.one_pow, Nat.mod_eq_of_lt (by omega : 1 < p)] at e2
  have e4 : z.val ^ (p - 1) % p = z.val * z.val % p := by
    have : z.val ^ (p - 1) = (z.val * z.val) ^ (2 * k) * (z.val * z.val) := by
      rw [← Nat.pow_succ, ← Nat.pow_two, ← Nat.pow_mul]
      congr 1
      omega
    rw [this, Nat.mul_mod, e2, Nat.one_mul, Nat.mod_mod]
  rw [e4] at e3
  rw [Nat.add_mod, e3, Nat.mod_eq_of_lt (by omega : 1 < p), Nat.mod_eq_of_lt (by omega)] at e1
  omega
theorem Fd.sum0 (F : Fd p) {a b : Fin p} (h : a * a + b * b = 0) : b = 0 := by
  by_cases hb : b = 0
  · exact hb
  · have hi := iv_spec F.pr F.prm hb
    refine absurd ?_ (F.nosq (a * iv b))
    generalize iv b = i at hi ⊢
    have : b * i * (b * i) = 1 := by rw [hi]; grind
    grind
/-- A point of it. -/
def Ec (a : Fin p × Fin p) : Prop := a.1 * a.1 + a.2 * a.2 + a.1 * a.1 * (a.2 * a.2) = 1
def ed (a b : Fin p × Fin p) : Fin p := a.1 * b.1 * (a.2 * b.2)
def eadd (a b : Fin p × Fin p) : Fin p × Fin p := ((a.1 * b.2 + a.2 * b.1) * iv (1 - ed a b), (a.2 * b.2 - a.1 * b.1) * iv (1 + ed a b))
theorem ed_sq (F : Fd p) {a b : Fin p × Fin p} (ha : Ec a) (hb : Ec b) : ed a b * ed a b ≠ 1 := by
  obtain ⟨x, y⟩ := a
  obtain ⟨u, v⟩ := b
  unfold Ec at ha hb
  unfold ed
  simp only at ha hb ⊢
  intro e
  have key : ∀ f : Fin p, f * f = 1 → x * y * (u + f * v) = 0 := fun f hf => by
    refine F.sum0 (a := x - f * (x * u * (y * v)) * y) ?_
    grind
  have h1 := key 1 (by grind)
  have h2 := key (-1) (by grind)
  have h3 : x * y ≠ 0 := fun h => by
    have : (0 : Fin p) = 1 := by
      rw [← e]
      have : x * u * (y * v) = 0 := by
        have : x * u * (y * v) = x * y * (u * v) := by grind
        rw [this, h]
        grind
      rw [this]
      grind
    exact F.two (by grind)
  have h4 := (fp_mul F.prm h1).resolve_left h3
  have h5 := (fp_mul F.prm h2).resolve_left h3
  have h6 : (2 : Fin p) * u = 0 := by grind
  have h7 := (fp_mul F.prm h6).resolve_left F.two
  rw [h7] at e
  exact F.two (by grind)
theorem ed_p (F : Fd p) {a b : Fin p × Fin p} (ha : Ec a) (hb : Ec b) : (1 + ed a b) * iv (1 + ed a b) = 1 := iv_spec F.pr F.prm (fun h => ed_sq F ha hb (by grind))
theorem ed_m (F : Fd p) {a b : Fin p × Fin p} (ha : Ec a) (hb : Ec b) : (1 - ed a b) * iv (1 - ed a b) = 1 := iv_spec F.pr F.prm (fun h => ed_sq F ha hb (by grind))
theorem eadd_comm (a b : Fin p × Fin p) : eadd a b = eadd b a := by
  unfold eadd
  have e : ed a b = ed b a := by unfold ed; grind
  rw [e, show a.1 * b.2 + a.2 * b.1 = b.1 * a.2 + b.2 * a.1 by grind, show a.2 * b.2 - a.1 * b.1 = b.2 * a.2 - b.1 * a.1 by grind]
theorem eadd_on (F : Fd p) {a b : Fin p × Fin p} (ha : Ec a) (hb : Ec b) : Ec (eadd a b) := by
  have h1 := ed_p F ha hb
  have h2 := ed_m F ha hb
  unfold eadd
  unfold Ec at ha hb ⊢
  simp only
  generalize iv (1 + ed a b) = i at *
  generalize iv (1 - ed a b) = j at *
  unfold ed at h1 h2
  obtain ⟨x, y⟩ := a
  obtain ⟨u, v⟩ := b
  simp only at *
  have hn : (x * v + y * u) * (x * v + y * u) * ((1 + x * u * (y * v)) * (1 + x * u * (y * v))) + (y * v - x * u) * (y * v - x * u) * ((1 - x * u * (y * v)) * (1 - x * u * (y * v))) + (x * v + y * u) * (x * v + y * u) * ((y * v - x * u) * (y * v - x * u)) = (1 + x * u * (y * v)) * (1 + x * u * (y * v)) * ((1 - x * u * (y * v)) * (1 - x * u * (y * v))) := by grind
  generalize hA : x * v + y * u = A at *
  generalize hB : y * v - x * u = B at *
  generalize hD : 1 + x * u * (y * v) = D at *
  generalize hE : 1 - x * u * (y * v) = E at *
  clear hA hB hD hE ha hb
  have q1 : D * i * (D * i) = 1 := by rw [h1]; grind
  have q2 : E * j * (E * j) = 1 := by rw [h2]; grind
  have : (A * A * (D * D) + B * B * (E * E) + A * A * (B * B)) * (i * i * (j * j)) = D * D * (E * E) * (i * i * (j * j)) := by rw [hn]
  grind
theorem eadd_zero (hp : Pr p) (hq : Prm p) (a : Fin p × Fin p) : eadd a (0, 1) = a := by
  have h1 : iv (1 : Fin p) = 1 := by
    have h : (1 : Fin p) ≠ 0 := fun e => by
      have := (ph_eq0 (p := p) (one_lt hp)).1 e
      omega
    have := iv_spec hp hq h
    grind
  unfold eadd ed
  simp only
  rw [show (1 : Fin p) - a.1 * 0 * (a.2 * 1) = 1 by grind, show (1 : Fin p) + a.1 * 0 * (a.2 * 1) = 1 by grind, h1]
  exact Prod.ext (by simp only; grind) (by simp only; grind)
theorem eadd_neg (F : Fd p) {a : Fin p × Fin p} (ha : Ec a) : eadd a (-a.1, a.2) = (0, 1) := by
  have hb : Ec (-a.1, a.2) := by unfold Ec at ha ⊢; simp only; grind
  have h1 := ed_p F ha hb
  unfold eadd
  have hN : a.2 * a.2 - a.1 * -a.1 = 1 + ed a (-a.1, a.2) := by
    unfold Ec at ha
    unfold ed
    simp only
    grind
  simp only
  rw [hN, h1]
  exact Prod.ext (by simp only; grind) rfl
end
end Rg
end Go.Proofs.Ytjmbgchoioepjaa
end
section
namespace Go.Proofs.Ytjmbgchoioepjaa
open Go.RowKit
namespace Rg
open NT
section
variable {p : Nat} [NeZero p]
theorem assoc_poly (a b c d e f : Fin p) (h1 : a * a + b * b + a * a * (b * b) = 1) (h2 : c * c + d * d + c * c * (d * d) = 1) (h3 : e * e + f * f + e * e * (f * f) = 1) :
    ((a * d + b * c) * (1 + a * c * (b * d)) * f + (b * d - a * c) * (1 - a * c * (b * d)) * e) * ((1 - c * e * (d * f)) * (1 + c * e * (d * f)) - a * b * ((c * f + d * e) * (d * f - c * e)))
    = (a * ((d * f - c * e) * (1 - c * e * (d * f))) + b * ((c * f + d * e) * (1 + c * e * (d * f)))) * ((1 - a * c * (b * d)) * (1 + a * c * (b * d)) - (a * d + b * c) * (b * d - a * c) * (e * f)) := by
  grind
theorem assoc_poly2 (a b c d e f : Fin p) (h1 : a * a + b * b + a * a * (b * b) = 1) (h2 : c * c + d * d + c * c * (d * d) = 1) (h3 : e * e + f * f + e * e * (f * f) = 1) :
    ((b * d - a * c) * (1 - a * c * (b * d)) * f - (a * d + b * c) * (1 + a * c * (b * d)) * e) * ((1 - c * e * (d * f)) * (1 + c * e * (d * f)) + a * b * ((c * f + d * e) * (d * f - c * e)))
    = (b * ((d * f - c * e) * (1 - c * e * (d * f))) - a * ((c * f + d * e) * (1 + c * e * (d * f)))) * ((1 - a * c * (b * d)) * (1 + a * c * (b * d)) + (a * d + b * c) * (b * d - a * c) * (e * f)) := by
  grind
theorem fr1 {A B D E i j : Fin p} (s t : Fin p) (hE : E * i = 1) (hD : D * j = 1) : A * i * t + B * j * s = (A * D * t + B * E * s) * (i * j) := by grind
theorem fr2 {A B D E i j : Fin p} (s t : Fin p) (hE : E * i = 1) (hD : D * j = 1) : 1 - A * i * s * (B * j * t) = (E * D - A * B * (s * t)) * (i * j) := by grind
theorem fr3 {A B D E i j : Fin p} (x y : Fin p) (hE : E * i = 1) (hD : D * j = 1) : x * (B * j) + y * (A * i) = (x * (B * E) + y * (A * D)) * (i * j) := by grind
theorem fr4 {A B D E i j : Fin p} (x y : Fin p) (hE : E * i = 1) (hD : D * j = 1) : 1 - x * (A * i) * (y * (B * j)) = (E * D - x * y * (A * B)) * (i * j) := by grind
theorem fr5 {A B D E i j : Fin p} (s t : Fin p) (hE : E * i = 1) (hD : D * j = 1) : B * j * t - A * i * s = (B * E * t - A * D * s) * (i * j) := by grind
theorem fr6 {A B D E i j : Fin p} (s t : Fin p) (hE : E * i = 1) (hD : D * j = 1) : 1 + A * i * s * (B * j * t) = (E * D + A * B * (s * t)) * (i * j) := by grind
theorem fr7 {A B D E i j : Fin p} (x y : Fin p) (hE : E * i = 1) (hD : D * j = 1) : y * (B * j) - x * (A * i) = (y * (B * E) - x * (A * D)) * (i * j) := by grind
theorem fr8 {A B D E i j : Fin p} (x y : Fin p) (hE : E * i = 1) (hD : D * j = 1) : 1 + x * (A * i) * (y * (B * j)) = (E * D + x * y * (A * B)) * (i * j) := by grind
theorem fr9 {N M N' M' : Fin p} (k k' : Fin p) (h : N * M' = N' * M) : N * k * (M' * k') = N' * k' * (M * k) := by grind
theorem cross {n m n' m' i i' : Fin p} (h : m * i = 1) (h' : m' * i' = 1) (e : n * m' = n' * m) : n * i = n' * i' := by
  have : n * i = n * (m' * i') * i := by rw [h']; grind
  rw [this]
  have : n' * i' = n' * (m * i) * i' := by rw [h]; grind
  rw [this]
  grind
theorem eadd_assoc (F : Fd p) {a b c : Fin p × Fin p} (ha : Ec a) (hb : Ec b) (hc : Ec c) : eadd (eadd a b) c = eadd a (eadd b c) := by
  have hab := eadd_on F ha hb
  have hbc := eadd_on F hb hc
  have m1 := ed_m F hab hc
  have m2 := ed_p F hab hc
  have m3 := ed_m F ha hbc
  have m4 := ed_p F ha hbc
  have d1 := ed_m F ha hb
  have d2 := ed_p F ha hb
  have d3 := ed_m F hb hc
  have d4 := ed_p F hb hc
  clear hab hbc
  unfold eadd
  unfold eadd at m1 m2 m3 m4
  generalize hi1 : iv (1 - ed a b) = i1 at *
  generalize hi2 : iv (1 + ed a b) = i2 at *
  generalize hi3 : iv (1 - ed b c) = i3 at *
  generalize hi4 : iv (1 + ed b c) = i4 at *
  generalize iv (1 - ed ((a.1 * b.2 + a.2 * b.1) * i1, (a.2 * b.2 - a.1 * b.1) * i2) c) = k1 at *
  generalize iv (1 + ed ((a.1 * b.2 + a.2 * b.1) * i1, (a.2 * b.2 - a.1 * b.1) * i2) c) = k2 at *
  generalize iv (1 - ed a ((b.1 * c.2 + b.2 * c.1) * i3, (b.2 * c.2 - b.1 * c.1) * i4)) = k3 at *
  generalize iv (1 + ed a ((b.1 * c.2 + b.2 * c.1) * i3, (b.2 * c.2 - b.1 * c.1) * i4)) = k4 at *
  clear hi1 hi2 hi3 hi4
  obtain ⟨x, y⟩ := a
  obtain ⟨u, v⟩ := b
  obtain ⟨s, t⟩ := c
  unfold Ec at ha hb hc
  unfold ed at *
  simp only at *
  have p1 := assoc_poly x y u v s t ha hb hc
  have p2 := assoc_poly2 x y u v s t ha hb hc
  clear ha hb hc
  generalize hE : 1 - x * u * (y * v) = E at *
  generalize hD : 1 + x * u * (y * v) = D at *
  generalize hE' : 1 - u * s * (v * t) = E' at *
  generalize hD' : 1 + u * s * (v * t) = D' at *
  generalize hA : x * v + y * u = A at *
  generalize hB : y * v - x * u = B at *
  generalize hA' : u * t + v * s = A' at *
  generalize hB' : v * t - u * s = B' at *
  clear hA hB hA' hB' hD hE hD' hE'
  refine Prod.ext ?_ ?_
  · refine cross m1 m3 ?_
    rw [fr1 s t d1 d2, fr2 s t d1 d2, fr3 x y d3 d4, fr4 x y d3 d4]
    exact fr9 _ _ p1
  · refine cross m2 m4 ?_
    rw [fr5 s t d1 d2, fr6 s t d1 d2, fr7 x y d3 d4, fr8 x y d3 d4]
    exact fr9 _ _ p2
end
end Rg
end Go.Proofs.Ytjmbgchoioepjaa
end
section
namespace Go.Proofs.Ytjmbgchoioepjaa
open Go.RowKit
namespace Rg
open NT
section
variable {p : Nat} [NeZero p]
/-- Numbers that carry y y = x x x + x over. -/
structure Al (p : Nat) [NeZero p] (al ep : Fin p) : Prop where
  fd : Fd p
  one : ep * ep = 1
  two : al * al = 2 * ep
theorem al_ex (F : Fd p) : ∃ al ep, Al p al ep := by
  have h3 := F.three
  have hlo := F.pr.lo
  obtain ⟨j, hj⟩ : ∃ j, p + 1 = 4 * (j + 1) := ⟨(p - 3) / 4, by omega⟩
  have hd : ¬ p ∣ 2 := fun h => by have := Nat.le_of_dvd (by decide) h; omega
  have e2 : 2 ^ (2 * j + 2) = 2 ^ (j + 1) * 2 ^ (j + 1) := by rw [← Nat.pow_add]; congr 1; omega
  rcases half_pow F.prm hj hd with h | h
  · refine ⟨ph p (2 ^ (j + 1)), 1, F, by grind, ?_⟩
    apply Fin.ext
    rw [Fin.val_mul, ph_val, ← Nat.mul_mod, ← e2, h]
    rw [show (2 : Fin p) * 1 = 2 by grind]
    rfl
  · refine ⟨ph p (2 ^ (j + 1)), -1, F, by grind, ?_⟩
    have : ph p (2 ^ (j + 1)) * ph p (2 ^ (j + 1)) + 2 = 0 := by
      apply Fin.ext
      rw [Fin.val_add, Fin.val_mul, ph_val, ← Nat.mul_mod, ← e2, show (2 : Fin p).val = 2 % p from rfl, ← Nat.add_mod, h]
      exact (Nat.zero_mod p).symm
    grind
section
variable {al ep : Fin p}
theorem Al.ep0 (A : Al p al ep) : ep ≠ 0 := fun e => A.fd.two (by have := A.one; grind)
theorem Al.s0 (A : Al p al ep) (u : Fin p) : u * u + 1 ≠ 0 := fun e => A.fd.nosq u (by grind)
theorem Al.w0 (A : Al p al ep) {u v : Fin p} (h : v * v = u * u * u + u) : u + ep ≠ 0 := fun e => by
  have e1 : u = -ep := by grind
  have h1 := A.one
  have h2 := A.two
  have : v * v + al * al = 0 := by
    rw [h, h2, e1]
    grind
  have h0 := A.fd.sum0 this
  rw [h0] at h2
  exact A.ep0 ((fp_mul A.fd.prm (show (2 : Fin p) * ep = 0 by grind)).resolve_left A.fd.two)
/-- The point on the other curve. -/
def fi (al ep u v : Fin p) : Fin p × Fin p := (al * v * iv (u * u + 1), (u - ep) * iv (u + ep))
theorem fi_on (A : Al p al ep) {u v : Fin p} (h : v * v = u * u * u + u) : Ec (fi al ep u v) := by
  have h1 := iv_spec A.fd.pr A.fd.prm (A.s0 u)
  have h2 := iv_spec A.fd.pr A.fd.prm (A.w0 h)
  have h3 := A.one
  have h4 := A.two
  unfold Ec fi
  simp only
  generalize iv (u * u + 1) = i at *
  generalize iv (u + ep) = j at *
  have e1 : al * v * i * (al * v * i) = 2 * ep * u * i := by
    have : al * v * i * (al * v * i) = al * al * (v * v) * (i * i) := by grind
    rw [this, h4, h]
    grind
  have e2 : (u - ep) * j * ((u - ep) * j) = (u * u + 1 - 2 * ep * u) * (j * j) := by grind
  have e3 : (u * u + 1 + 2 * ep * u) * (j * j) = 1 := by
    have : (u * u + 1 + 2 * ep * u) = (u + ep) * (u + ep) := by grind
    rw [this]
    have : (u + ep) * (u + ep) * (j * j) = (u + ep) * j * ((u + ep) * j) := by grind
    rw [this, h2]
    grind
  rw [e1, e2]
  grind
/-- A sum with the slope m. -/
theorem slope_y (u v m w ep : Fin p) (c : v * v = u * u * u + u) (r : 2 * v * m + m * m * (w - u) = u * u + u * w + w * w + 1) (h : ep * ep = 1) :
    (m * m - u - w - ep) * ((u * u + 1) * (w * w + 1) * ((u + ep) * (w + ep)) + 2 * ep * (v * (v + m * (w - u))) * ((u - ep) * (w - ep)))
    = (m * m - u - w + ep) * ((u - ep) * (w - ep) * ((u * u + 1) * (w * w + 1)) - 2 * ep * (v * (v + m * (w - u))) * ((u + ep) * (w + ep))) := by
  grind
theorem slope_x (u v m w x ep : Fin p) (c : v * v = u * u * u + u) (r : 2 * v * m + m * m * (w - u) = u * u + u * w + w * w + 1) (h : ep * ep = 1) (hx : x = m * m - u - w) :
    (m * (u - x) - v) * ((u * u + 1) * (w * w + 1) * ((u + ep) * (w + ep)) - 2 * ep * (v * (v + m * (w - u))) * ((u - ep) * (w - ep)))
    = (x * x + 1) * (v * (w * w + 1) * ((u + ep) * (w - ep)) + (v + m * (w - u)) * (u * u + 1) * ((w + ep) * (u - ep))) := by
  subst hx
  grind -lia (ringSteps := 100000)
theorem curve2 (u v m w : Fin p) (c : v * v = u * u * u + u) (r : 2 * v * m + m * m * (w - u) = u * u + u * w + w * w + 1) : (v + m * (w - u)) * (v + m * (w - u)) = w * w * w + w := by
  grind -lia (ringSteps := 100000)
theorem curve3 (u v m w x : Fin p) (c : v * v = u * u * u + u) (r : 2 * v * m + m * m * (w - u) = u * u + u * w + w * w + 1) (hx : x = m * m - u - w) : (m * (u - x) - v) * (m * (u - x) - v) = x * x * x + x := by
  subst hx
  grind -lia (ringSteps := 100000)
theorem fa1 {al ep a b c d s1 s2 w1 w2 i1 i2 j1 j2 : Fin p} (h : al * al = 2 * ep) (e1 : s1 * i1 = 1) (e2 : s2 * i2 = 1) (e3 : w1 * j1 = 1) (e4 : w2 * j2 = 1) : 1 - al * a * i1 * (al * b * i2) * (c * j1 * (d * j2)) = (s1 * s2 * (w1 * w2) - 2 * ep * (a * b) * (c * d)) * (i1 * i2 * (j1 * j2)) := by
  have q : s1 * i1 * (s2 * i2) * (w1 * j1 * (w2 * j2)) = 1 := by rw [e1, e2, e3, e4]; grind
  have q2 : al * a * i1 * (al * b * i2) = al * al * (a * b * i1 * i2) := by grind
  rw [q2, h]
  clear h q2 e1 e2 e3 e4
  grind
theorem fa2 {al ep a b c d s1 s2 w1 w2 i1 i2 j1 j2 : Fin p} (h : al * al = 2 * ep) (e1 : s1 * i1 = 1) (e2 : s2 * i2 = 1) (e3 : w1 * j1 = 1) (e4 : w2 * j2 = 1) : 1 + al * a * i1 * (al * b * i2) * (c * j1 * (d * j2)) = (s1 * s2 * (w1 * w2) + 2 * ep * (a * b) * (c * d)) * (i1 * i2 * (j1 * j2)) := by
  have q : s1 * i1 * (s2 * i2) * (w1 * j1 * (w2 * j2)) = 1 := by rw [e1, e2, e3, e4]; grind
  have q2 : al * a * i1 * (al * b * i2) = al * al * (a * b * i1 * i2) := by grind
  rw [q2, h]
  clear h q2 e1 e2 e3 e4
  grind
theorem fa3 {al a b c d s1 s2 w1 w2 i1 i2 j1 j2 : Fin p} (e1 : s1 * i1 = 1) (e2 : s2 * i2 = 1) (e3 : w1 * j1 = 1) (e4 : w2 * j2 = 1) : al * a * i1 * (d * j2) + c * j1 * (al * b * i2) = al * (a * s2 * (w1 * d) + b * s1 * (w2 * c)) * (i1 * i2 * (j1 * j2)) := by
  have q1 : al * (a * s2 * (w1 * d) + b * s1 * (w2 * c)) * (i1 * i2 * (j1 * j2)) = al * a * i1 * (d * j2) * (s2 * i2 * (w1 * j1)) + c * j1 * (al * b * i2) * (s1 * i1 * (w2 * j2)) := by grind
  rw [q1, e1, e2, e3, e4]
  grind
theorem fa4 {al ep a b c d s1 s2 w1 w2 i1 i2 j1 j2 : Fin p} (h : al * al = 2 * ep) (e1 : s1 * i1 = 1) (e2 : s2 * i2 = 1) (e3 : w1 * j1 = 1) (e4 : w2 * j2 = 1) : c * j1 * (d * j2) - al * a * i1 * (al * b * i2) = (c * d * (s1 * s2) - 2 * ep * (a * b) * (w1 * w2)) * (i1 * i2 * (j1 * j2)) := by
  have q1 : (c * d * (s1 * s2) - 2 * ep * (a * b) * (w1 * w2)) * (i1 * i2 * (j1 * j2)) = c * j1 * (d * j2) * (s1 * i1 * (s2 * i2)) - 2 * ep * (a * i1 * (b * i2)) * (w1 * j1 * (w2 * j2)) := by grind
  have q2 : al * a * i1 * (al * b * i2) = al * al * (a * b * i1 * i2) := by grind
  rw [q1, q2, h, e1, e2, e3, e4]
  grind
/-- To go over keeps sums. -/
theorem fi_add (A : Al p al ep) {u v m w z x y : Fin p} (c : v * v = u * u * u + u) (r : 2 * v * m + m * m * (w - u) = u * u + u * w + w * w + 1) (hz : z = v + m * (w - u)) (hx : x = m * m - u - w) (hy : y = m * (u - x) - v) : fi al ep x y = eadd (fi al ep u v) (fi al ep w z) := by
  have c2 : z * z = w * w * w + w := by rw [hz]; exact curve2 u v m w c r
  have c3 : y * y = x * x * x + x := by rw [hy]; exact curve3 u v m w x c r hx
  have k1 := ed_m A.fd (fi_on A c) (fi_on A c2)
  have k2 := ed_p A.fd (fi_on A c) (fi_on A c2)
  have e1 := iv_spec A.fd.pr A.fd.prm (A.s0 u)
  have e2 := iv_spec A.fd.pr A.fd.prm (A.s0 w)
  have e3 := iv_spec A.fd.pr A.fd.prm (A.w0 c)
  have e4 := iv_spec A.fd.pr A.fd.prm (A.w0 c2)
  have e5 := iv_spec A.fd.pr A.fd.prm (A.s0 x)
  have e6 := iv_spec A.fd.pr A.fd.prm (A.w0 c3)
  have sx := slope_x u v m w x ep c r A.one hx
  have sy := slope_y u v m w ep c r A.one
  rw [← hx] at sy
  rw [← hz] at sx sy
  rw [← hy] at sx
  have h2 := A.two
  unfold eadd
  generalize iv (1 - ed (fi al ep u v) (fi al ep w z)) = n1 at *
  generalize iv (1 + ed (fi al ep u v) (fi al ep w z)) = n2 at *
  unfold ed fi at *
  simp only at *
  generalize iv (u * u + 1) = i1 at *
  generalize iv (w * w + 1) = i2 at *
  generalize iv (x * x + 1) = i3 at *
  generalize iv (u + ep) = j1 at *
  generalize iv (w + ep) = j2 at *
  generalize iv (x + ep) = j3 at *
  refine Prod.ext ?_ ?_
  · refine cross e5 k1 ?_
    rw [fa1 h2 e1 e2 e3 e4, fa3 e1 e2 e3 e4]
    have := congrArg (fun q => al * (i1 * i2 * (j1 * j2)) * q) sx
    clear e1 e2 e3 e4 e5 e6 k1 k2 sx sy h2 c c2 c3 r hz hx hy
    grind -lia
  · refine cross e6 k2 ?_
    rw [fa2 h2 e1 e2 e3 e4, fa4 h2 e1 e2 e3 e4]
    have := congrArg (fun q => (i1 * i2 * (j1 * j2)) * q) sy
    clear e1 e2 e3 e4 e5 e6 k1 k2 sx sy h2 c c2 c3 r hz hx hy
    grind -lia
end
end
end Rg
end Go.Proofs.Ytjmbgchoioepjaa
end
section
namespace Go.Proofs.Ytjmbgchoioepjaa
open Go.RowKit
namespace Rg
open NT
theorem dA_zl {p : Nat} (b : P3) : dA p (0, 0, true) b = b := by unfold dA; rw [if_pos rfl]
section
variable {p : Nat} [NeZero p] {al ep : Fin p}
def gP (al ep : Fin p) (a : P3) : Fin p × Fin p := if a.2.2 = true then (0, 1) else fi al ep (ph p a.1) (ph p a.2.1)
theorem gP_z {a : P3} (h : a.2.2 = true) : gP al ep a = (0, 1) := if_pos h
theorem gP_f {a : P3} (h : a.2.2 = false) : gP al ep a = fi al ep (ph p a.1) (ph p a.2.1) := if_neg (by rw [h]; decide)
theorem gP_on (A : Al p al ep) {a : P3} (ha : On p a) : Ec (gP al ep a) := by
  by_cases h : a.2.2 = true
  · rw [gP_z h]
    unfold Ec
    simp only
    grind
  · have h : a.2.2 = false := by simpa using h
    rw [gP_f h]
    exact fi_on A (ha.cv h)
theorem eadd_zl (A : Al p al ep) (a : Fin p × Fin p) : eadd (0, 1) a = a := by rw [eadd_comm, eadd_zero A.fd.pr A.fd.prm]
/-- The slope of two points that are not each other's negated ones. -/
theorem slope_of (hp : Pr p) (hq : Prm p) {a b : P3} (ha : On p a) (hb : On p b) (hz : a.2.2 = false) (hy : b.2.2 = false) (hn : ¬ a = (b.1, mi p 0 b.2.1, b.2.2)) :
    dA p a b = (d3X p (dS p a b) a.1 b.1, d3Y p (dS p a b) a.1 b.1 a.2.1, false) ∧ ph p b.2.1 = ph p a.2.1 + ph p (dS p a b) * (ph p b.1 - ph p a.1) ∧
    2 * ph p a.2.1 * ph p (dS p a b) + ph p (dS p a b) * ph p (dS p a b) * (ph p b.1 - ph p a.1) = ph p a.1 * ph p a.1 + ph p a.1 * ph p b.1 + ph p b.1 * ph p b.1 + 1 := by
  have hc := ha.cv hz
  have hd := hb.cv hy
  refine ⟨by unfold dA; rw [if_neg (by rw [hz]; decide), if_neg (by rw [hy]; decide), if_neg hn], ?_⟩
  by_cases e : a = b
  · subst e
    have hy0 : ph p (pl p a.2.1 a.2.1) ≠ 0 := fun e => hn (neg_of hp ha (by rw [ph_pl] at e; exact e))
    have hi := ph_inv hq (by have := hp.lo; omega) hy0
    rw [ph_pl] at hi
    have em : ph p (dS p a a) * (ph p a.2.1 + ph p a.2.1) = 3 * (ph p a.1 * ph p a.1) + 1 := by
      unfold dS
      rw [if_pos rfl]
      unfold sl1
      rw [ph_tm, ph_pl, ph_pl, ph_pl, ph_tm, ph_one]
      generalize ph p (pw p (pl p a.2.1 a.2.1) (p - 2)) = i at hi ⊢
      generalize ph p a.2.1 = y at *
      generalize ph p a.1 = x at *
      grind
    exact ⟨by grind, by grind⟩
  · have xx : ∀ {u v : Nat}, u < p → v < p → ph p u - ph p v = 0 → u = v := fun hu hv e => ph_inj hu hv (by grind)
    have hx : ph p b.1 - ph p a.1 ≠ 0 := fun e0 => by
      have e1 := xx hb.lt.x ha.lt.x e0
      have e2 : (ph p b.2.1 - ph p a.2.1) * (ph p b.2.1 + ph p a.2.1) = 0 := by
        rw [e1] at hd
        grind
      rcases fp_mul hq e2 with e3 | e3
      · exact e (p3_eq e1.symm (xx hb.lt.y ha.lt.y e3).symm (by rw [hy, hz]))
      · refine hn (p3_eq e1.symm (ph_inj ha.lt.y (mi_lt hp) ?_) (by show a.2.2 = b.2.2; rw [hy, hz]))
        rw [ph_mi0 _ hb.lt.y]
        grind
    have hmi : ph p (mi p b.1 a.1) ≠ 0 := by rw [ph_mi _ _ ha.lt.x]; exact hx
    have hi := ph_inv hq (by have := hp.lo; omega) hmi
    rw [ph_mi _ _ ha.lt.x] at hi
    have em : ph p (dS p a b) * (ph p b.1 - ph p a.1) = ph p b.2.1 - ph p a.2.1 := by
      unfold dS
      rw [if_neg e]
      unfold sl2
      rw [ph_tm, ph_mi _ _ ha.lt.y]
      generalize ph p (pw p (mi p b.1 a.1) (p - 2)) = i at hi ⊢
      grind
    refine ⟨by grind, fp_cancel hq hx ?_⟩
    generalize ph p (dS p a b) = m at *
    generalize ph p a.1 = u at *
    generalize ph p b.1 = w at *
    generalize ph p a.2.1 = v at *
    generalize ph p b.2.1 = z at *
    have : z = v + m * (w - u) := by grind
    subst this
    clear hi em xx hmi
    grind
theorem on_add (hp : Pr p) (hq : Prm p) {a b : P3} (ha : On p a) (hb : On p b) : On p (dA p a b) := (jn_rep hp hq (rep_tO hp ha) ha hb).2
theorem gP_add (A : Al p al ep) {a b : P3} (ha : On p a) (hb : On p b) : gP al ep (dA p a b) = eadd (gP al ep a) (gP al ep b) := by
  by_cases hz : a.2.2 = true
  · have e : dA p a b = b := by unfold dA; rw [if_pos hz]
    rw [e, gP_z hz, eadd_zl A]
  · by_cases hy : b.2.2 = true
    · have e : dA p a b = a := by unfold dA; rw [if_neg hz, if_pos hy]
      rw [e, gP_z hy, eadd_zero A.fd.pr A.fd.prm]
    · have hz : a.2.2 = false := by simpa using hz
      have hy : b.2.2 = false := by simpa using hy
      by_cases hn : a = (b.1, mi p 0 b.2.1, b.2.2)
      · rw [dA_neg hz hy hn, gP_z rfl, eadd_comm, ← eadd_neg A.fd (gP_on A hb)]
        congr 1
        rw [hn, gP_f hy, gP_f (by exact hy)]
        unfold fi
        simp only
        rw [ph_mi0 _ hb.lt.y]
        exact Prod.ext (by simp only; grind) rfl
      · obtain ⟨e, e1, e2⟩ := slope_of A.fd.pr A.fd.prm ha hb hz hy hn
        rw [gP_f hz, gP_f hy, e, gP_f rfl]
        exact fi_add A (ha.cv hz) e2 e1 (ph_d3X ha.lt.x hb.lt.x) (ph_d3Y A.fd.pr ha.lt.y)
theorem gP_inj (A : Al p al ep) {a b : P3} (ha : On p a) (hb : On p b) (h : gP al ep a = gP al ep b) : a = b := by
  have ne : ∀ {c : P3}, On p c → c.2.2 = false → gP al ep c ≠ (0, 1) := fun {c} hc hz e => by
    rw [gP_f hz] at e
    unfold fi at e
    injection e with _ e
    have e6 := iv_spec A.fd.pr A.fd.prm (A.w0 (hc.cv hz))
    generalize iv (ph p c.1 + ep) = j at *
    have : (2 : Fin p) * ep = 0 := by grind
    exact A.ep0 ((fp_mul A.fd.prm this).resolve_left A.fd.two)
  by_cases hz : a.2.2 = true
  · by_cases hy : b.2.2 = true
    · rw [ha.zr hz, hb.zr hy]
    · rw [gP_z hz] at h
      exact absurd h.symm (ne hb (by simpa using hy))
  · by_cases hy : b.2.2 = true
    · rw [gP_z hy] at h
      exact absurd h (ne ha (by simpa using hz))
    · have hz : a.2.2 = false := by simpa using hz
      have hy : b.2.2 = false := by simpa using hy
      rw [gP_f hz, gP_f hy] at h
      unfold fi at h
      injection h with h1 h2
      have e6 := iv_spec A.fd.pr A.fd.prm (A.w0 (ha.cv hz))
      have e7 := iv_spec A.fd.pr A.fd.prm (A.w0 (hb.cv hy))
      have ex : ph p a.1 = ph p b.1 := by
        generalize iv (ph p a.1 + ep) = j at *
        generalize iv (ph p b.1 + ep) = j' at *
        have e8 : (ph p a.1 - ep) * (ph p b.1 + ep) = (ph p b.1 - ep) * (ph p a.1 + ep) := by
          have : (ph p a.1 - ep) * (ph p b.1 + ep) = (ph p a.1 - ep) * j * ((ph p a.1 + ep) * (ph p b.1 + ep)) := by
            have : (ph p a.1 - ep) * j * ((ph p a.1 + ep) * (ph p b.1 + ep)) = (ph p a.1 - ep) * (ph p b.1 + ep) * ((ph p a.1 + ep) * j) := by grind
            rw [this, e6]
            grind
          rw [this, h2]
          have : (ph p b.1 - ep) * j' * ((ph p a.1 + ep) * (ph p b.1 + ep)) = (ph p b.1 - ep) * (ph p a.1 + ep) * ((ph p b.1 + ep) * j') := by grind
          rw [this, e7]
          grind
        have e9 : (2 : Fin p) * ep * (ph p a.1 - ph p b.1) = 0 := by grind
        have := (fp_mul A.fd.prm e9).resolve_left (fp_ne A.fd.prm A.fd.two A.ep0)
        grind
      have ey : ph p a.2.1 = ph p b.2.1 := by
        rw [ex] at h1
        have e5 := iv_spec A.fd.pr A.fd.prm (A.s0 (ph p b.1))
        generalize iv (ph p b.1 * ph p b.1 + 1) = i at *
        have hal : al ≠ 0 := fun e => A.ep0 ((fp_mul A.fd.prm (show (2 : Fin p) * ep = 0 by have := A.two; grind)).resolve_left A.fd.two)
        have hi : i ≠ 0 := fun e => by
          rw [e] at e5
          exact A.fd.two (by grind)
        refine fp_cancel A.fd.prm (fp_ne A.fd.prm hal hi) ?_
        grind
      exact p3_eq (ph_inj ha.lt.x hb.lt.x ex) (ph_inj ha.lt.y hb.lt.y ey) (by rw [hz, hy])
/-! The group. -/
theorem dA_comm (F : Fd p) {a b : P3} (ha : On p a) (hb : On p b) : dA p a b = dA p b a := by
  obtain ⟨al, ep, A⟩ := al_ex F
  refine gP_inj A (on_add F.pr F.prm ha hb) (on_add F.pr F.prm hb ha) ?_
  rw [gP_add A ha hb, gP_add A hb ha, eadd_comm]
theorem dA_assoc (F : Fd p) {a b c : P3} (ha : On p a) (hb : On p b) (hc : On p c) : dA p (dA p a b) c = dA p a (dA p b c) := by
  obtain ⟨al, ep, A⟩ := al_ex F
  have hab := on_add F.pr F.prm ha hb
  have hbc := on_add F.pr F.prm hb hc
  refine gP_inj A (on_add F.pr F.prm hab hc) (on_add F.pr F.prm ha hbc) ?_
  rw [gP_add A hab hc, gP_add A ha hb, gP_add A ha hbc, gP_add A hb hc, eadd_assoc F (gP_on A ha) (gP_on A hb) (gP_on A hc)]
theorem dA_zr {a : P3} (ha : On p a) : dA p a (0, 0, true) = a := by
  unfold dA
  by_cases h : a.2.2 = true
  · rw [if_pos h, ha.zr h]
  · rw [if_neg h, if_pos rfl]
theorem on_neg (hp : Pr p) {a : P3} (ha : On p a) : On p (a.1, mi p 0 a.2.1, a.2.2) := by
  refine ⟨⟨ha.lt.x, mi_lt hp⟩, fun h => ?_, fun h => ?_⟩
  · have e := ha.zr h
    rw [e]
    have : mi p 0 0 = 0 := by unfold mi; rw [Nat.zero_add, Nat.sub_zero, Nat.mod_self]
    simp only [this]
  · have e := ha.cv h
    simp only
    rw [ph_mi0 _ ha.lt.y]
    grind
theorem dA_inv (F : Fd p) {a : P3} (ha : On p a) : dA p a (a.1, mi p 0 a.2.1, a.2.2) = (0, 0, true) := by
  by_cases h : a.2.2 = true
  · have e := ha.zr h
    rw [e]
    have : mi p 0 0 = 0 := by unfold mi; rw [Nat.zero_add, Nat.sub_zero, Nat.mod_self]
    simp only [this]
    exact dA_zl _
  · have h : a.2.2 = false := by simpa using h
    refine dA_neg h (by exact h) (p3_eq rfl ?_ rfl)
    refine ph_inj ha.lt.y (mi_lt F.pr) ?_
    rw [ph_mi0 _ (mi_lt F.pr), ph_mi0 _ ha.lt.y]
    grind
/-- So many times a point. -/
def dN (p : Nat) (a : P3) : Nat → P3
  | 0 => (0, 0, true)
  | n + 1 => dA p (dN p a n) a
theorem dN_on (F : Fd p) {a : P3} (ha : On p a) : ∀ n, On p (dN p a n)
  | 0 => on_zero' F.pr
  | n + 1 => on_add F.pr F.prm (dN_on F ha n) ha
theorem dN_add (F : Fd p) {a : P3} (ha : On p a) (m : Nat) : ∀ n, dN p a (m + n) = dA p (dN p a m) (dN p a n)
  | 0 => (dA_zr (dN_on F ha m)).symm
  | n + 1 => by
    show dA p (dN p a (m + n)) a = dA p (dN p a m) (dA p (dN p a n) a)
    rw [dN_add F ha m n, dA_assoc F (dN_on F ha m) (dN_on F ha n) ha]
theorem dN_mul (F : Fd p) {a : P3} (ha : On p a) (m : Nat) : ∀ n, dN p (dN p a m) n = dN p a (m * n)
  | 0 => rfl
  | n + 1 => by
    show dA p (dN p (dN p a m) n) (dN p a m) = dN p a (m * (n + 1))
    rw [dN_mul F ha m n, Nat.mul_add, Nat.mul_one, dN_add F ha]
theorem dM_dN (F : Fd p) {a : P3} (ha : On p a) (n : Nat) (hn : n < 18446744073709551616) : dM p a n = dN p a n := by
  induction n using Nat.strongRecOn with
  | ind n ih =>
    by_cases h : n = 0
    · subst h; rfl
    · rw [dM_step p a n hn h, ih (n / 2) (by omega) (by omega), ← dN_add F ha]
      split
      · rename_i h2
        have e : n = n / 2 + n / 2 + 1 := by omega
        have : dN p a n = dN p a (n / 2 + n / 2 + 1) := by rw [← e]
        rw [this]
        rfl
      · congr 1
        omega
end
end Rg
end Go.Proofs.Ytjmbgchoioepjaa
end
section
namespace Go.Proofs.Ytjmbgchoioepjaa
open Go.RowKit
namespace Rg
open NT
theorem cb_lt {p : Nat} (hp : Pr p) {x : Nat} : cb p x < p := tm_lt hp
theorem rb_lt {p : Nat} (hp : Pr p) {x : Nat} : rb p x < p := pw_lt hp
section
variable {p : Nat} [NeZero p]
theorem dA_cancel (F : Fd p) {a x y : P3} (ha : On p a) (hx : On p x) (hy : On p y) (h : dA p a x = dA p a y) : x = y := by
  have hn := on_neg F.pr ha
  have e : ∀ {z}, On p z → dA p (a.1, mi p 0 a.2.1, a.2.2) (dA p a z) = z := fun {z} hz => by
    rw [← dA_assoc F hn ha hz, dA_comm F hn ha, dA_inv F ha, dA_zl]
  rw [← e hx, h, e hy]
/-! The points of the curve. -/
theorem rb_sq (F : Fd p) {c : Nat} (hc : c < p) (h0 : c ≠ 0) : ph p (rb p c) * ph p (rb p c) = ph p c ∨ ph p (rb p c) * ph p (rb p c) = - ph p c := by
  have h3 := F.three
  have hlo := F.pr.lo
  obtain ⟨j, hj⟩ : ∃ j, p + 1 = 4 * (j + 1) := ⟨(p - 3) / 4, by omega⟩
  have hd : ¬ p ∣ c := fun h => h0 (Nat.eq_zero_of_dvd_of_lt h hc)
  have e4 : (p + 1) / 4 = j + 1 := by omega
  have e2 : c ^ (2 * j + 2) = c ^ (j + 1) * c ^ (j + 1) := by rw [← Nat.pow_add]; congr 1; omega
  have e3 : (ph p (rb p c) * ph p (rb p c)).val = c ^ (2 * j + 2) % p := by
    rw [Fin.val_mul, ph_val]
    unfold rb pw
    rw [e4, Nat.mod_mod, ← Nat.mul_mod, e2]
  rcases half_pow F.prm hj hd with h | h
  · left
    apply Fin.ext
    rw [e3, h, ph_val]
  · right
    have : ph p (rb p c) * ph p (rb p c) + ph p c = 0 := by
      apply Fin.ext
      rw [Fin.val_add, e3, ph_val, ← Nat.add_mod, h]
      exact (Nat.zero_mod p).symm
    grind
theorem sq_iff (hp : Pr p) {c : Nat} (hc : c < p) : sq p c = true ↔ ph p (rb p c) * ph p (rb p c) = ph p c := by
  unfold sq
  rw [decide_eq_true_iff]
  constructor
  · intro h
    rw [← ph_tm, h]
  · intro h
    refine ph_inj (tm_lt hp) hc ?_
    rw [ph_tm, h]
theorem ph_sub {x : Nat} (hx : x ≤ p) : ph p (p - x) = - ph p x := by
  have : ph p (p - x) + ph p x = 0 := by
    apply Fin.ext
    rw [Fin.val_add, ph_val, ph_val, ← Nat.add_mod, Nat.sub_add_cancel hx, Nat.mod_self]
    exact (Nat.zero_mod p).symm
  grind
theorem cb_ne (F : Fd p) {x : Nat} (hx : x < p) (h0 : x ≠ 0) : ph p (cb p x) ≠ 0 := by
  rw [ph_cb]
  intro e
  have h1 : ph p x ≠ 0 := fun e => h0 ((ph_eq0 hx).1 e)
  have e2 : ph p x * (ph p x * ph p x + 1) = 0 := by grind
  have e3 := (fp_mul F.prm e2).resolve_left h1
  exact F.nosq (ph p x) (by grind)
def Qp (p x : Nat) : P3 := if sq p (cb p x) = true then (x, rb p (cb p x), false) else (p - x, mi p 0 (rb p (cb p (p - x))), false)
theorem Qp_all (F : Fd p) {a : P3} (ha : On p a) (hz : a.2.2 = false) (hy : ph p a.2.1 ≠ 0) : ∃ x, x < p ∧ x ≠ 0 ∧ Qp p x = a := by
  have hc := ha.cv hz
  have hx := ha.lt.x
  have h0 : a.1 ≠ 0 := fun e => by
    rw [e, ph_zero] at hc
    exact fp_ne F.prm hy hy (by grind)
  have hcb : ph p (cb p a.1) = ph p a.2.1 * ph p a.2.1 := by rw [ph_cb, hc]
  have hne : cb p a.1 ≠ 0 := fun e => cb_ne F hx h0 (by rw [e]; rfl)
  have hs : sq p (cb p a.1) = true := by
    refine (sq_iff F.pr (cb_lt F.pr)).2 ((rb_sq F (cb_lt F.pr) hne).resolve_right fun e => ?_)
    have : ph p (rb p (cb p a.1)) * ph p (rb p (cb p a.1)) + ph p a.2.1 * ph p a.2.1 = 0 := by rw [e, hcb]; grind
    exact hy (F.sum0 this)
  have hr := (sq_iff F.pr (cb_lt F.pr)).1 hs
  have hf : (ph p (rb p (cb p a.1)) - ph p a.2.1) * (ph p (rb p (cb p a.1)) + ph p a.2.1) = 0 := by rw [hcb] at hr; grind
  rcases fp_mul F.prm hf with e | e
  · refine ⟨a.1, hx, h0, ?_⟩
    unfold Qp
    rw [if_pos hs]
    exact p3_eq rfl (ph_inj (pw_lt F.pr) ha.lt.y (by grind)) hz.symm
  · refine ⟨p - a.1, by omega, by omega, ?_⟩
    have hn : ¬ sq p (cb p (p - a.1)) = true := fun h => by
      have h2 := (sq_iff F.pr (cb_lt F.pr)).1 h
      rw [ph_cb, ph_sub (Nat.le_of_lt hx)] at h2
      have : ph p (rb p (cb p (p - a.1))) * ph p (rb p (cb p (p - a.1))) + ph p a.2.1 * ph p a.2.1 = 0 := by rw [h2, hc]; grind
      exact hy (F.sum0 this)
    unfold Qp
    rw [if_neg hn, show p - (p - a.1) = a.1 by omega]
    refine p3_eq rfl (ph_inj (mi_lt F.pr) ha.lt.y ?_) hz.symm
    simp only
    rw [ph_mi0 _ (rb_lt F.pr)]
    grind
/-- All points. -/
def allP (p : Nat) : List P3 := (0, 0, true) :: (0, 0, false) :: (List.range (p - 1)).map (fun i => Qp p (i + 1))
end
end Rg
end Go.Proofs.Ytjmbgchoioepjaa
end
section
namespace Go.Proofs.Ytjmbgchoioepjaa
open Go.RowKit
namespace Rg
open NT
theorem q_ext {α : Type} {a b : α × α} (h1 : a.1 = b.1) (h2 : a.2 = b.2) : a = b := Prod.ext h1 h2
section
variable {p : Nat} [NeZero p]
abbrev Q2 (p : Nat) : Type := Fin p × Fin p
/-- Products and powers of pairs. -/
def qm (a b : Q2 p) : Q2 p := (a.1 * b.1 - a.2 * b.2, a.1 * b.2 + a.2 * b.1)
def qp (a : Q2 p) : Nat → Q2 p
  | 0 => (1, 0)
  | n + 1 => qm (qp a n) a
def qa (a b : Q2 p) : Q2 p := (a.1 + b.1, a.2 + b.2)
def qs (x : Fin p) (a : Q2 p) : Q2 p := (x * a.1, x * a.2)
theorem qm_comm (a b : Q2 p) : qm a b = qm b a := q_ext (by simp only [qm]; grind) (by simp only [qm]; grind)
theorem qm_assoc (a b c : Q2 p) : qm (qm a b) c = qm a (qm b c) := q_ext (by simp only [qm]; grind) (by simp only [qm]; grind)
theorem qm_one (a : Q2 p) : qm a (1, 0) = a := q_ext (by simp only [qm]; grind) (by simp only [qm]; grind)
theorem one_qm (a : Q2 p) : qm (1, 0) a = a := by rw [qm_comm, qm_one]
theorem qm_four (a b c d : Q2 p) : qm (qm a b) (qm c d) = qm (qm a c) (qm b d) := q_ext (by simp only [qm]; grind) (by simp only [qm]; grind)
theorem qp_add (a : Q2 p) (m : Nat) : ∀ n, qp a (m + n) = qm (qp a m) (qp a n)
  | 0 => (qm_one _).symm
  | n + 1 => by rw [← Nat.add_assoc, qp, qp_add a m n, qp, qm_assoc]
theorem qp_one (a : Q2 p) : qp a 1 = a := one_qm a
theorem qp_qm (a b : Q2 p) : ∀ n, qp (qm a b) n = qm (qp a n) (qp b n)
  | 0 => (qm_one _).symm
  | n + 1 => by rw [qp, qp_qm a b n, qp, qp, qm_four]
theorem qp_mul (a : Q2 p) (m : Nat) : ∀ n, qp (qp a m) n = qp a (m * n)
  | 0 => rfl
  | n + 1 => by rw [qp, qp_mul a m n, Nat.mul_succ, qp_add]
theorem ph_mul (a b : Nat) : ph p (a * b) = ph p a * ph p b := by
  apply Fin.ext
  simp [Fin.val_mul]
theorem ph_add (a b : Nat) : ph p (a + b) = ph p a + ph p b := by
  apply Fin.ext
  simp [Fin.val_add]
theorem ph_self' (x : Fin p) : ph p x.val = x := Fin.ext (Nat.mod_eq_of_lt x.isLt)
/-! The binomial law. -/
def qsum (f : Nat → Q2 p) : Nat → Q2 p
  | 0 => (0, 0)
  | n + 1 => qa (qsum f n) (f n)
theorem qa_zero (a : Q2 p) : qa a (0, 0) = a := q_ext (by simp only [qa]; grind) (by simp only [qa]; grind)
theorem qa_assoc (a b c : Q2 p) : qa (qa a b) c = qa a (qa b c) := q_ext (by simp only [qa]; grind) (by simp only [qa]; grind)
theorem qa_comm (a b : Q2 p) : qa a b = qa b a := q_ext (by simp only [qa]; grind) (by simp only [qa]; grind)
theorem qsum_first (f : Nat → Q2 p) : ∀ n, qsum f (n + 1) = qa (f 0) (qsum (fun k => f (k + 1)) n)
  | 0 => by rw [qsum, qsum, qsum, qa_comm]
  | n + 1 => by rw [qsum, qsum_first f n, qsum, qa_assoc]
theorem qsum_add (f g : Nat → Q2 p) : ∀ n, qsum (fun k => qa (f k) (g k)) n = qa (qsum f n) (qsum g n)
  | 0 => (qa_zero _).symm
  | n + 1 => by
    rw [qsum, qsum_add f g n, qsum, qsum]
    exact q_ext (by simp only [qa]; grind) (by simp only [qa]; grind)
theorem qsum_mul (f : Nat → Q2 p) (c : Q2 p) : ∀ n, qsum (fun k => qm (f k) c) n = qm (qsum f n) c
  | 0 => q_ext (by simp only [qm, qsum]; grind) (by simp only [qm, qsum]; grind)
  | n + 1 => by
    rw [qsum, qsum_mul f c n, qsum]
    exact q_ext (by simp only [qa, qm]; grind) (by simp only [qa, qm]; grind)
theorem qsum_congr (f g : Nat → Q2 p) : ∀ n, (∀ k, k < n → f k = g k) → qsum f n = qsum g n
  | 0, _ => rfl
  | n + 1, h => by rw [qsum, qsum, qsum_congr f g n (fun k hk => h k (by omega)), h n (by omega)]
theorem qsum_zero (f : Nat → Q2 p) : ∀ n, (∀ k, k < n → f k = (0, 0)) → qsum f n = (0, 0)
  | 0, _ => rfl
  | n + 1, h => by rw [qsum, qsum_zero f n (fun k hk => h k (by omega)), h n (by omega), qa_zero]
theorem qs_one (a : Q2 p) : qs (ph p 1) a = a := q_ext (by simp only [qs, ph_one]; grind) (by simp only [qs, ph_one]; grind)
theorem qs_zero (a : Q2 p) : qs (ph p 0) a = (0, 0) := q_ext (by simp only [qs, ph_zero]; grind) (by simp only [qs, ph_zero]; grind)
theorem qbinom (a : Q2 p) : ∀ n, qp (qa a (1, 0)) n = qsum (fun k => qs (ph p (ch n k)) (qp a k)) (n + 1)
  | 0 => by
    rw [qsum, qsum, ch_zero, qs_one]
    show ((1, 0) : Q2 p) = qa (0, 0) (1, 0)
    rw [qa_comm, qa_zero]
  | n + 1 => by
    rw [qp, qbinom a n, qsum_first (fun k => qs (ph p (ch (n + 1) k)) (qp a k)) (n + 1)]
    have e1 : qsum (fun k => qs (ph p (ch (n + 1) (k + 1))) (qp a (k + 1))) (n + 1) = qa (qm (qsum (fun k => qs (ph p (ch n k)) (qp a k)) (n + 1)) a) (qsum (fun k => qs (ph p (ch n (k + 1))) (qp a (k + 1))) (n + 1)) := by
      rw [← qsum_mul, ← qsum_add]
      refine qsum_congr _ _ _ (fun k _ => ?_)
      rw [show ch (n + 1) (k + 1) = ch n k + ch n (k + 1) from rfl, ph_add, qp]
      exact q_ext (by simp only [qa, qm, qs]; grind) (by simp only [qa, qm, qs]; grind)
    have e2 : qsum (fun k => qs (ph p (ch n k)) (qp a k)) (n + 1) = qa (1, 0) (qsum (fun k => qs (ph p (ch n (k + 1))) (qp a (k + 1))) (n + 1)) := by
      rw [qsum_first (fun k => qs (ph p (ch n k)) (qp a k)) n]
      have : qsum (fun k => qs (ph p (ch n (k + 1))) (qp a (k + 1))) (n + 1) = qa (qsum (fun k => qs (ph p (ch n (k + 1))) (qp a (k + 1))) n) (qs (ph p (ch n (n + 1))) (qp a (n + 1))) := rfl
      rw [this, ch_big n (n + 1) (by omega), ch_zero, qs_one, qs_zero, qa_zero]
      rfl
    rw [e1, ch_zero, qs_one]
    generalize qsum (fun k => qs (ph p (ch n (k + 1))) (qp a (k + 1))) (n + 1) = S at e2 ⊢
    generalize qsum (fun k => qs (ph p (ch n k)) (qp a k)) (n + 1) = T at e2 ⊢
    rw [e2]
    show _ = qa (1, 0) _
    exact q_ext (by simp only [qa, qm]; grind) (by simp only [qa, qm]; grind)
theorem ph_dvd {n : Nat} (h : p ∣ n) : ph p n = 0 := by
  apply Fin.ext
  rw [ph_val, Nat.mod_eq_zero_of_dvd h]
  exact (Nat.zero_mod p).symm
theorem qdream (hq : Prm p) (a : Q2 p) : qp (qa a (1, 0)) p = qa (qp a p) (1, 0) := by
  obtain ⟨n, hn⟩ : ∃ j, p = j + 1 := ⟨p - 1, by have := hq.1; omega⟩
  have hz : ∀ k, k < n → qs (ph p (ch p (k + 1))) (qp a (k + 1)) = (0, 0) := fun k hk => by
    rw [ph_dvd (ch_dvd hq (k + 1) (by omega) (by omega))]
    exact qs_zero _
  have e := qbinom a p
  rw [qsum, ch_self, qs_one] at e
  have e2 : qsum (fun k => qs (ph p (ch p k)) (qp a k)) p = (1, 0) := by
    have : qsum (fun k => qs (ph p (ch p k)) (qp a k)) p = qsum (fun k => qs (ph p (ch p k)) (qp a k)) (n + 1) := by rw [← hn]
    rw [this, qsum_first, ch_zero, qs_one, qsum_zero _ n hz, qa_zero]
    rfl
  rw [e, e2, qa_comm]
/-! The p-th power. -/
theorem ph_pow_step (b n : Nat) : ph p (b ^ (n + 4)) = ph p (b ^ n) * (ph p b * ph p b * (ph p b * ph p b)) := by
  rw [show b ^ (n + 4) = b ^ n * (b * b * (b * b)) by rw [Nat.pow_add]; congr 1; rw [show 4 = 2 + 2 from rfl, Nat.pow_add, Nat.pow_two], ph_mul, ph_mul, ph_mul]
theorem qp_im (b : Nat) : ∀ j, qp ((0, ph p b) : Q2 p) (4 * j + 3) = (0, - ph p (b ^ (4 * j + 3)))
  | 0 => by
    have e : ph p (b ^ (4 * 0 + 3)) = ph p b * ph p b * ph p b := by rw [show b ^ (4 * 0 + 3) = b * b * b by rw [show 4 * 0 + 3 = 2 + 1 from rfl, Nat.pow_succ, Nat.pow_two], ph_mul, ph_mul]
    rw [e]
    show qm (qm (qm (1, 0) (0, ph p b)) (0, ph p b)) (0, ph p b) = _
    exact q_ext (by simp only [qm]; grind) (by simp only [qm]; grind)
  | j + 1 => by
    rw [show 4 * (j + 1) + 3 = 4 * j + 3 + 4 by omega, ph_pow_step, qp_add, qp_im b j]
    show qm _ (qm (qm (qm (qm (1, 0) (0, ph p b)) (0, ph p b)) (0, ph p b)) (0, ph p b)) = _
    exact q_ext (by simp only [qm]; grind) (by simp only [qm]; grind)
theorem qp_p (F : Fd p) (a : Q2 p) : qp a p = (a.1, - a.2) := by
  have h0 : ∀ n : Nat, qp ((ph p n, a.2) : Q2 p) p = (ph p n, - a.2) := by
    intro n
    induction n with
    | zero =>
      have e := qp_im (p := p) a.2.val (p / 4)
      rw [show 4 * (p / 4) + 3 = p by have := F.three; omega, ph_self'] at e
      rw [ph_zero, e]
      refine q_ext rfl ?_
      show - ph p (a.2.val ^ p) = - a.2
      have : ph p (a.2.val ^ p) = a.2 := by
        apply Fin.ext
        rw [ph_val, fermat F.prm, Nat.mod_eq_of_lt a.2.isLt]
      rw [this]
    | succ n ih =>
      have e := qdream F.prm (ph p n, a.2)
      rw [ih] at e
      rw [show ((ph p (n + 1), a.2) : Q2 p) = qa (ph p n, a.2) (1, 0) from q_ext (by rw [ph_add]; rfl) (by simp only [qa]; grind), e]
      exact q_ext (by rw [ph_add]; rfl) (by simp only [qa]; grind)
  have h := h0 a.1.val
  rw [ph_self'] at h
  exact h
/-! The last power. -/
theorem norm_ne (F : Fd p) {a : Q2 p} (h : a ≠ (0, 0)) : a.1 * a.1 + a.2 * a.2 ≠ 0 := fun e => h (q_ext (F.sum0 (a := a.2) (b := a.1) (by grind)) (F.sum0 e))
theorem qm_cancel (F : Fd p) {a x y : Q2 p} (h : a ≠ (0, 0)) (e : qm a x = qm a y) : x = y := by
  have hi := iv_spec F.pr F.prm (norm_ne F h)
  generalize iv (a.1 * a.1 + a.2 * a.2) = i at hi
  have e1 := congrArg Prod.fst e
  have e2 := congrArg Prod.snd e
  simp only [qm] at e1 e2
  refine q_ext ?_ ?_
  · have : (a.1 * a.1 + a.2 * a.2) * x.1 = (a.1 * a.1 + a.2 * a.2) * y.1 := by grind
    grind
  · have : (a.1 * a.1 + a.2 * a.2) * x.2 = (a.1 * a.1 + a.2 * a.2) * y.2 := by grind
    grind
theorem qp_zero {n : Nat} (h : 0 < n) : qp ((0, 0) : Q2 p) n = (0, 0) := by
  obtain ⟨m, rfl⟩ : ∃ m, n = m + 1 := ⟨n - 1, by omega⟩
  rw [qp]
  exact q_ext (by simp only [qm]; grind) (by simp only [qm]; grind)
/-- What the program takes in place of the power p - 1. -/
def qc (a : Q2 p) : Q2 p := qm (qm (a.1, - a.2) (a.1, - a.2)) (iv (a.1 * a.1 + a.2 * a.2), 0)
theorem qc_is (F : Fd p) (a : Q2 p) : qc a = qp a (p - 1) := by
  have h1 := F.pr.lo
  by_cases h : a = (0, 0)
  · rw [h, qp_zero (by omega)]
    exact q_ext (by simp only [qc, qm]; grind) (by simp only [qc, qm]; grind)
  · refine qm_cancel F h ?_
    have hi := iv_spec F.pr F.prm (norm_ne F h)
    have e : qm a (qp a (p - 1)) = qp a p := by rw [qm_comm, ← show qp a (p - 1 + 1) = qm (qp a (p - 1)) a from rfl, show p - 1 + 1 = p by omega]
    rw [e, qp_p F]
    unfold qc
    generalize iv (a.1 * a.1 + a.2 * a.2) = i at hi ⊢
    exact q_ext (by simp only [qm]; grind) (by simp only [qm]; grind)
theorem qp_scal (F : Fd p) {x : Fin p} (h : x ≠ 0) : qp ((x, 0) : Q2 p) (p - 1) = (1, 0) := by
  rw [← qc_is F]
  have hx : x * x + 0 * 0 ≠ 0 := fun e => fp_ne F.prm h h (by grind)
  have hi := iv_spec F.pr F.prm hx
  unfold qc
  simp only
  generalize iv (x * x + 0 * 0) = i at hi ⊢
  exact q_ext (by simp only [qm]; grind) (by simp only [qm]; grind)
theorem qc_scal (F : Fd p) {x : Fin p} (h : x ≠ 0) (a : Q2 p) : qc (qm (x, 0) a) = qp a (p - 1) := by rw [qc_is F, qp_qm, qp_scal F h, one_qm]
end
end Rg
end Go.Proofs.Ytjmbgchoioepjaa
end
section
namespace Go.Proofs.Ytjmbgchoioepjaa
open Go.RowKit
namespace Rg
/-- All that was there is as it was, but block g. -/
structure Kp (g : Nat) (w w' : World) : Prop where
  os : w'.os = w.os
  tape : w'.tape = w.tape
  output : w'.output = w.output
  size : w.heap.size ≤ w'.heap.size
  block : ∀ k, k < w.heap.size → k ≠ g → w'.heap[k]? = w.heap[k]?
theorem Kp.refl (g : Nat) (w : World) : Kp g w w := ⟨rfl, rfl, rfl, Nat.le_refl _, fun _ _ _ => rfl⟩
theorem Kp.trans {g : Nat} {a b c : World} (h : Kp g a b) (k : Below b.heap.size b c) : Kp g a c :=
  ⟨k.os.trans h.os, k.tape.trans h.tape, k.output.trans h.output, Nat.le_trans h.size k.size, fun i hi hg => (k.block i (Nat.lt_of_lt_of_le hi h.size)).trans (h.block i hi hg)⟩
theorem heap_setCells (g : Nat) (k : Nat) (hk : k ≠ g) : ∀ (vs : List Value) (o : Nat) (w : World), (w.setCells g o vs).heap[k]? = w.heap[k]?
  | [], _, _ => rfl
  | v :: r, o, w => by
    rw [World.setCells, heap_setCells g k hk r, Below.heap_setCell _ _ _ _ hk]
theorem Kp.put {g b off : Nat} {vs : List Value} {a w : World} (h : Kp g a w) (hb : b = g ∨ a.heap.size ≤ b) : Kp g a (w.setCells b off vs) := by
  have hB := below_setCells (B := 0) (w0 := w) b (Nat.zero_le _) vs off w (Below.refl _ _)
  refine ⟨hB.os.trans h.os, hB.tape.trans h.tape, hB.output.trans h.output, by rw [size_setCells]; exact h.size, fun k hk hg => ?_⟩
  rw [heap_setCells b k (by rcases hb with e | e <;> omega) vs off w]
  exact h.block k hk hg
theorem Below.kp {B g : Nat} {a w w' : World} (h : Below B a w) (k : Kp g w w') (hg : B ≤ g) (hB : B ≤ w.heap.size) : Below B a w' :=
  ⟨k.os.trans h.os, k.tape.trans h.tape, k.output.trans h.output, Nat.le_trans h.size k.size, fun i hi => (k.block i (Nat.lt_of_lt_of_le hi hB) (by omega)).trans (h.block i hi)⟩
theorem Blk.kp {g b : Nat} {cs : List Value} {w w' : World} (h : Blk w b cs) (k : Kp g w w') (hb : b < w.heap.size) (hg : b ≠ g) : Blk w' b cs := fun j v hv => by
  have e := k.block b hb hg
  exact ⟨by rw [World.cell?_of_block (w := w) (a := ⟨b, j, none⟩) e]; exact (h j v hv).1, by rw [World.frozen?_of_block (w := w) (a := ⟨b, j, none⟩) e]; exact (h j v hv).2⟩
theorem Mm.two {w : World} {l : List (Nat × List Value)} (h : Mm w l) (i j : Nat) {p q : Nat × List Value} (hi : l[i]? = some p) (hj : l[j]? = some q) (hij : i ≠ j) : Mm w [p, q] := by
  have hpw := List.pairwise_iff_getElem.1 h.nd
  obtain ⟨hi1, hi2⟩ := List.getElem?_eq_some_iff.1 hi
  obtain ⟨hj1, hj2⟩ := List.getElem?_eq_some_iff.1 hj
  have hne : p.1 ≠ q.1 := by
    rcases Nat.lt_or_ge i j with h' | h'
    · have := hpw i j hi1 hj1 h'
      rw [hi2, hj2] at this
      exact this
    · have := hpw j i hj1 hi1 (by omega)
      rw [hi2, hj2] at this
      exact this.symm
  refine ⟨fun r hr => ?_, ?_⟩
  · simp only [List.mem_cons, List.not_mem_nil, or_false] at hr
    rcases hr with e | e
    · rw [e]; exact h.blk p (List.mem_of_getElem? hi)
    · rw [e]; exact h.blk q (List.mem_of_getElem? hj)
  · exact List.Pairwise.cons (fun r hr => by rw [List.mem_singleton.1 hr]; exact hne) (List.pairwise_singleton _ _)
end Rg
end Go.Proofs.Ytjmbgchoioepjaa
end
section
namespace Go.Proofs.Ytjmbgchoioepjaa
open Go.RowKit
namespace Rg
abbrev ent (a : P3) (k : Int) (n : Nat) : MapEntry := ⟨V (pc a), .int .i64 k, n⟩
theorem check_pt (e : Bool) (a : P3) (w : World) : (Instr.checkKey e 10000 25 (V (pc a))).run Try.prog w = .ok () w := by kernel_rfl
theorem eq_pt (a b : P3) (w : World) : (Op.equal 25 (V (pc a)) (V (pc b))).run Try.prog w = .ok (decide (a = b)) w := by
  by_cases h : a = b
  · subst h
    rw [decide_eq_true rfl]
    exact eq_self a.1 a.2.1 a.2.2 w
  · rw [decide_eq_false h]
    exact eq_not a.1 a.2.1 b.1 b.2.1 a.2.2 b.2.2 h w
theorem find_0 (a : P3) (w : World) : (Instr.findKey 25 (V (pc a)) []).run Try.prog w = .ok none w := by kernel_rfl
theorem find_ask (a b : P3) (k : Int) (n : Nat) (r : List MapEntry) (w : World) : (Instr.findKey 25 (V (pc a)) (ent b k n :: r)).run Try.prog w = (Instr.findAsking 25 (V (pc a)) (ent b k n :: r)).run Try.prog w := by kernel_rfl
theorem find_1 (a b : P3) (k : Int) (n : Nat) (w : World) : (Instr.findKey 25 (V (pc a)) [ent b k n]).run Try.prog w = .ok (if a = b then some (0, .int .i64 k) else none) w := by
  rw [find_ask]
  unfold Instr.findAsking
  simp only [Sem.run_bind, eq_pt, Result.andThen_ok]
  by_cases h : a = b
  · simp [h]
  · simp [h, Instr.findAsking]
theorem find_2 (a b : P3) (k k' : Int) (n n' : Nat) (h : ¬ a = b) (w : World) : (Instr.findKey 25 (V (pc a)) [ent b k n, ent a k' n']).run Try.prog w = .ok (some (1, .int .i64 k')) w := by
  rw [find_ask]
  unfold Instr.findAsking
  simp only [Sem.run_bind, eq_pt, Result.andThen_ok]
  rw [decide_eq_false h]
  unfold Instr.findAsking
  simp [eq_pt]
theorem run_und99 (w : World) : (underlying 99).run Try.prog w = .ok (.map 25 3) w := by kernel_rfl
theorem zero_3 (w : World) : (zeroValue 3).run Try.prog w = .ok (.int .i64 0) w := by kernel_rfl
section
variable {ρ : Operand → Value} {o : Oper} {x y z : Operand} {g : Nat} {w : World} {a b : P3}
theorem ex_look {es : Array MapEntry} {c : Nat} {v : Int} {r : Option (Nat × Value)} (hb : w.heap[g]? = some (.map es c)) (hf : (Instr.findKey 25 (V (pc a)) es.toList).run Try.prog w = .ok r w) (hr : (match r with | some (_, v) => v | none => Value.int .i64 0) = .int .i64 v)
    (ho : o.op = .lookup 99 x y false) (hx : ρ x = .map (some g)) (hy : ρ y = V (pc a)) : (execOp ρ o).run Try.prog w = .ok (.value (.int .i64 v)) w := by
  have hl : (Instr.lookup 99 (.map (some g)) (V (pc a)) false).run Try.prog w = .ok (.int .i64 v) w := by
    simp only [Instr.lookup, Sem.run_bind, run_und99, Result.andThen_ok, MapKept.run_getObj_map hb, Sem.run_pure, check_pt, hf]
    cases r with
    | none =>
      have hr2 : Value.int .i64 0 = .int .i64 v := hr
      rw [← hr2]
      simp
    | some q => simp; exact hr
  simp only [execOp, ho, hx, hy]
  simp [hl]
/-- The block of a map is written. -/
def wm (w : World) (g : Nat) (es : Array MapEntry) (c : Nat) : World := { w with heap := w.heap.setIfInBounds g (.map es c) }
theorem ex_entryN {es : Array MapEntry} {c : Nat} (hb : w.heap[g]? = some (.map es c)) (hf : (Instr.findKey 25 (V (pc a)) es.toList).run Try.prog w = .ok none w)
    (ho : o.op = .mapEntry 99 x y) (hx : ρ x = .map (some g)) (hy : ρ y = V (pc a)) : (execOp ρ o).run Try.prog w = .ok (.value (.tuple #[.int .i64 0, .int .i64 (c : Int)])) (wm w g (es.push (ent a 0 c)) (c + 1)) := by
  have hl : (Instr.mapEntry 99 (.map (some g)) (V (pc a))).run Try.prog w = .ok (.tuple #[.int .i64 0, .int .i64 (c : Int)]) (wm w g (es.push (ent a 0 c)) (c + 1)) := by
    simp only [Instr.mapEntry, Sem.run_bind, run_und99, Result.andThen_ok, MapKept.run_getObj_map hb, check_pt, hf, zero_3]
    simp only [MapKept.run_setObj_map _ hb, Result.andThen_ok]
    rfl
  simp only [execOp, ho, hx, hy]
  simp [hl]
theorem same_pt (a : P3) : Instr.sameBits 10000 (V (pc a)) (V (pc a)) = true := by
  show (_ == _ && ([(U a.1, U a.1), (U a.2.1, U a.2.1), (Value.bool a.2.2, Value.bool a.2.2)].all fun q => Instr.sameBits 9999 q.1 q.2)) = true
  simp [Instr.sameBits]
theorem ex_entryS {k : Int} {n c : Nat} (hb : w.heap[g]? = some (.map #[ent a k n] c))
    (ho : o.op = .mapEntry 99 x y) (hx : ρ x = .map (some g)) (hy : ρ y = V (pc a)) : (execOp ρ o).run Try.prog w = .ok (.value (.tuple #[.int .i64 k, .int .i64 (n : Int)])) (wm w g #[ent a k n] c) := by
  have hf := find_1 a a k n w
  rw [if_pos rfl] at hf
  have hl : (Instr.mapEntry 99 (.map (some g)) (V (pc a))).run Try.prog w = .ok (.tuple #[.int .i64 k, .int .i64 (n : Int)]) (wm w g #[ent a k n] c) := by
    simp only [Instr.mapEntry, Sem.run_bind, run_und99, Result.andThen_ok, MapKept.run_getObj_map hb, check_pt, hf]
    simp only [Instr.keyThatStays]
    rw [show ((((#[ent a k n] : Array MapEntry)[0]?).map (·.key)).getD (V (pc a))) = V (pc a) from rfl, same_pt]
    simp only [if_true, Sem.run_pure, Result.andThen_ok, MapKept.run_setObj_map _ hb]
    rfl
  simp only [execOp, ho, hx, hy]
  simp [hl]
theorem ex_eStore {es es' : Array MapEntry} {c n i : Nat} {v : Value} (hb : w.heap[g]? = some (.map es c)) (hi : es.findIdx? (fun e => (e.born : Int) == (n : Int)) = some i) (he : (es.modify i fun e => { e with val := v }) = es')
    (ho : o.op = .entryStore 99 x y z) (hx : ρ x = .map (some g)) (hy : ρ y = .int .i64 (n : Int)) (hz : ρ z = v) : (execOp ρ o).run Try.prog w = .ok .skip (wm w g es' c) := by
  have hl : (Instr.entryStore 99 (.map (some g)) (.int .i64 (n : Int)) v).run Try.prog w = .ok () (wm w g es' c) := by
    simp only [Instr.entryStore, Sem.run_bind, MapKept.run_getObj_map hb, Result.andThen_ok]
    rw [show (asInt (.int .i64 (n : Int))).run Try.prog w = .ok (n : Int) w from rfl]
    simp only [Result.andThen_ok, hi, MapKept.run_setObj_map _ hb, he]
    rfl
  simp only [execOp, ho, hx, hy, hz]
  simp [hl]
theorem ex_makeM0 (ho : o.op = .makeMap 99 none) : (execOp ρ o).run Try.prog w = .ok (.value (.map (some w.heap.size))) (w.alloc (.map #[] 0)) := by
  simp only [execOp, ho, Option.map_none]
  simp [run_makeMap]
theorem wm_get (w : World) {g : Nat} (es : Array MapEntry) (c : Nat) (h : g < w.heap.size) : (wm w g es c).heap[g]? = some (.map es c) := by
  unfold wm
  simp [h]
theorem wm_other (w : World) {g k : Nat} (es : Array MapEntry) (c : Nat) (h : k ≠ g) : (wm w g es c).heap[k]? = w.heap[k]? := by
  unfold wm
  simp [Ne.symm h]
end
/-- What stays where a map of the call's own is written: what was there, and what the map holds. -/
structure Mr (g : Nat) (es : Array MapEntry) (c : Nat) (w0 w : World) : Prop where
  bl : Below w0.heap.size w0 w
  at_ : w.heap[g]? = some (.map es c)
  ge : w0.heap.size ≤ g
theorem idx_1 (a : P3) (k : Int) : (#[ent a k 0] : Array MapEntry).findIdx? (fun e => (e.born : Int) == ((0 : Nat) : Int)) = some 0 := by
  simp [List.findIdx?_cons]
theorem idx_2 (a b : P3) (k k' : Int) : (#[ent a k 0, ent b k' 1] : Array MapEntry).findIdx? (fun e => (e.born : Int) == ((1 : Nat) : Int)) = some 1 := by
  simp [List.findIdx?_cons]
section
variable {g c : Nat} {es : Array MapEntry} {w0 w w' : World} {L : List (Nat × List Value)}
theorem Mr.size (h : Mr g es c w0 w) : w0.heap.size ≤ w.heap.size := h.bl.size
theorem Mr.lt (h : Mr g es c w0 w) : g < w.heap.size := (Array.getElem?_eq_some_iff.1 h.at_).1
theorem Mr.grow (h : Mr g es c w0 w) (hb : Below w.heap.size w w') : Mr g es c w0 w' := ⟨h.bl.trans (hb.mono h.bl.size), (hb.block g h.lt).trans h.at_, h.ge⟩
theorem Mr.made (h : Below w0.heap.size w0 w) : Mr w.heap.size #[] 0 w0 (w.alloc (.map #[] 0)) := ⟨h.alloc h.size _, by show (w.heap.push _)[w.heap.size]? = _; simp, h.size⟩
theorem Mm.wm (hm : Mm w L) (h : Mr g es c w0 w) (es' : Array MapEntry) (c' : Nat) : Mm (wm w g es' c') L := by
  refine ⟨fun q hq => ?_, hm.nd⟩
  obtain ⟨h1, h2⟩ := hm.blk q hq
  have hs : (Rg.wm w g es' c').heap.size = w.heap.size := by unfold Rg.wm; simp
  refine ⟨by rw [hs]; exact h1, fun j v hv => ?_⟩
  obtain ⟨h3, h4⟩ := h2 j v hv
  have hne : q.1 ≠ g := fun e => by
    unfold World.cell? at h3
    simp only at h3
    rw [e, h.at_] at h3
    cases h3
  unfold World.cell? World.frozen? at *
  simp only at *
  rw [wm_other w es' c' hne]
  exact ⟨h3, h4⟩
theorem Mr.wm (h : Mr g es c w0 w) (es' : Array MapEntry) (c' : Nat) : Mr g es' c' w0 (Rg.wm w g es' c') := by
  refine ⟨⟨h.bl.os, h.bl.tape, h.bl.output, ?_, fun k hk => ?_⟩, wm_get w es' c' h.lt, h.ge⟩
  · have hs : (Rg.wm w g es' c').heap.size = w.heap.size := by unfold Rg.wm; simp
    rw [hs]; exact h.bl.size
  · have := h.ge
    rw [wm_other w es' c' (by omega)]
    exact h.bl.block k hk
end
/-! A region whose order is open, taken order by order. -/
section
variable {P : Program} {Q : Exit → Act → World → Prop} {ops : Array Oper} {a : Act} {w : World}
theorem any_ready {fuel : Nat} {l : Array Bool} (rs : List Nat) (hr : Region.ready .any ops l = rs) (h0 : rs ≠ []) (h : ∀ i ∈ rs, wpOp P ops Q i (wpAny P .any ops Q fuel (l.setIfInBounds i true)) a w) : wpAny P .any ops Q (fuel + 1) l a w :=
  ⟨fun e => absurd (hr.symm.trans e) h0, fun i hi => h i (hr ▸ hi)⟩
theorem op_val {i d : Nat} {K : Act → World → Prop} {o : Oper} {v : Value} {w' : World} (ho : ops[i]? = some o) (hd : o.dst = some d) (hw : Region.wanted o (yielded ops a.tmps) = true) (hx : (execOp a.eval o).run P w = .ok (.value v) w') (h : K (a.put (some d) v) w') : wpOp P ops Q i K a w := by
  refine wpOp_step ho (fun K' hK => ?_)
  rw [if_pos hw]
  unfold Oper.wp
  rw [hx]
  exact hK _ _ (by rw [hd]; exact h)
theorem op_skip {i : Nat} {K : Act → World → Prop} {o : Oper} {w' : World} (ho : ops[i]? = some o) (hd : o.dst = none) (hw : Region.wanted o (yielded ops a.tmps) = true) (hx : (execOp a.eval o).run P w = .ok .skip w') (h : K a w') : wpOp P ops Q i K a w := by
  refine wpOp_step ho (fun K' hK => ?_)
  rw [if_pos hw]
  unfold Oper.wp
  rw [hx]
  exact hK _ _ (by rw [hd]; exact h)
theorem region_k {id n : Nat} (F : Act) (R : World → Prop) (hm : P.follows .mixedOrders = true) (hn : ops.size = n) (h : wpAny P .any ops (fun e a w => e = .normal ∧ a = F ∧ R w) n (Array.replicate n false) a w.drew) (hk : ∀ w2, R w2 → Q .normal F w2) : (Code.region id ops true).wp P Q a w := by
  subst hn
  refine Code.wp_mono (fun e a' w' h' => ?_) (wp_region_any hm h)
  obtain ⟨rfl, rfl, h3⟩ := h'
  exact hk _ h3
end
end Rg
end Go.Proofs.Ytjmbgchoioepjaa
end
