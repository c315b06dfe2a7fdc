/- Texts of the proof, joined. -/
import Derived.Test.YtjmbgchoioepjaaP6
section
namespace Go.Proofs.Ytjmbgchoioepjaa
open Go.RowKit
namespace Rg
theorem ig_lt {p r X Y : Nat} {Z : Bool} (hp : Pr p) (h : ig p r X Y Z = true) : X < p ∧ Y < p := by
  unfold ig at h
  simp only [Bool.and_eq_true] at h
  exact oc_lt hp h.1
theorem allIn_is {p r c gx gy : Nat} (hp : Pr p) (hr : r < 18446744073709551616) (X Y : Nat) (Z : Bool) (X' Y' : Nat) (Z' : Bool) (v : Bool) (h : (ig p r X Y Z && ig p r X' Y' Z') = v) (g : Nat) (w : World) (hm : Mm w [(g, p2 X Y Z X' Y' Z')]) : Calls Try.prog 60 #[.agg (kd p r c gx gy).toArray, .slice (some ⟨g, 0, none⟩) 2 2] w fun e w' => e = .returned (.bool v) ∧ Below w.heap.size w w' := by
  rw [← h]
  exact allIn_any hp hr X Y Z X' Y' Z' g w hm
theorem call13 : ∀ args w, (callFunc 13 args).run Try.prog w = .ok (.enter 13 args) w := by intro args w; go_simp
theorem call27 : ∀ args w, (callFunc 27 args).run Try.prog w = .ok (.enter 27 args) w := by intro args w; go_simp
theorem call60 : ∀ args w, (callFunc 60 args).run Try.prog w = .ok (.enter 60 args) w := by intro args w; go_simp
theorem call61 : ∀ args w, (callFunc 61 args).run Try.prog w = .ok (.enter 61 args) w := by intro args w; go_simp
theorem call62 : ∀ args w, (callFunc 62 args).run Try.prog w = .ok (.enter 62 args) w := by intro args w; go_simp
section
variable {s : Int} {p r c gx gy : Nat}
set_option maxHeartbeats 1000000 in
set_option maxRecDepth 100000 in
theorem Pair_z (k : Kd s p r c gx gy) (X Y : Nat) (X' Y' : Nat) (Z' : Bool) (hg : (ig p r X Y true && ig p r X' Y' Z') = true) (w : World) :
    Calls Try.prog 27 #[.int .i64 s, .agg (pt X Y true).toArray, .agg (pt X' Y' Z').toArray] w fun e w' => e = .returned (.tuple #[V (l2 1 0), .int .i64 0]) ∧ Below w.heap.size w w' := by
  have H0 : Hid (_ ∧ _) := ⟨Mm.nil w, Below.refl w.heap.size w⟩
  go_enter Try.func27, Try.ntmps27
  refine wp_seq ?_
  refine walk_seqA 4 [.made (pt X Y true) 25, .made (pt X' Y' Z') 25, .made (l2 0 0) 49, .quiet (.int .i64 0)] (sB H0) ?ho1 ?he1
  case ho1 => exact ak (fun γ => ⟨rfl, fun w' => ex_boxT rfl rfl⟩) (ak (fun γ => ⟨rfl, fun w' => ex_boxT rfl rfl⟩) (ak (fun γ => ⟨rfl, fun w' => ex_made49 rfl⟩) (ak (fun _ => ⟨rfl, fun _ _ => rfl⟩) trivial)))
  intro γ w1 l hM hl
  have H1 : Hid (Mm w1 [(γ 0, pt X Y true), (γ 1, pt X' Y' Z'), (γ 2, l2 0 0)] ∧ _) := growB H0 hM (Nat.le_refl _) hl [0, 1, 2] rfl (by decide)
  have o1_0 := ownB H0 hM (Nat.le_refl _) hl (i := 0) rfl
  have o1_1 := ownB H0 hM (Nat.le_refl _) hl (i := 1) rfl
  have o1_2 := ownB H0 hM (Nat.le_refl _) hl (i := 2) rfl
  clear hM hl l
  generalize γ 0 = γ1_0 at H1 o1_0 ⊢
  generalize γ 1 = γ1_1 at H1 o1_1 ⊢
  generalize γ 2 = γ1_2 at H1 o1_2 ⊢
  clear γ
  refine rest0 rfl (then_normal (wp_seq ?_))
  refine walk_seqA 8 [.quiet (.int .i64 s), .call (.tuple #[.agg (kd p r c gx gy).toArray, .int .i64 0]), .quiet (.tuple #[.agg (kd p r c gx gy).toArray, .int .i64 0]), .quiet (.agg (kd p r c gx gy).toArray), .quiet (.int .i64 0), .made (kd 0 0 0 0 0) 72, .laid 5 (kd 0 0 0 0 0) (kd p r c gx gy), .quiet (.int .i64 0)] (sB H1) ?ho2 ?he2 (hL := ?hL2)
  case hL2 => exact ⟨⟨_, rfl⟩, trivial⟩
  case ho2 => exact ak (fun _ => ⟨rfl, fun _ _ => rfl⟩) (ak (fun γ => ⟨rfl, fun w' h => ⟨42, #[.int .i64 s], exec_call rfl call42 rfl (mpn rfl), k.kind w'⟩⟩) (ak (fun _ => ⟨rfl, fun _ _ => rfl⟩) (ak (by refine fun γ => ⟨rfl, fun w' h => ?_⟩; clear h; go_simp) (ak (by refine fun γ => ⟨rfl, fun w' h => ?_⟩; clear h; go_simp) (ak (fun γ => ⟨rfl, fun w' => ex_made72 rfl⟩) (ak (fun γ => ⟨rfl, rfl, rfl, fun w' h => ex_laidT h rfl rfl Try.sizeOf72 rfl rfl rfl⟩) (ak (fun _ => ⟨rfl, fun _ _ => rfl⟩) trivial)))))))
  intro γ w2 l hM hl
  have H2 : Hid (Mm w2 [(γ 5, kd p r c gx gy), (γ1_0, pt X Y true), (γ1_1, pt X' Y' Z'), (γ1_2, l2 0 0)] ∧ _) := growB H1 hM (Nat.le_refl _) hl [5] rfl (by decide)
  have o2_5 := ownB H1 hM (Nat.le_refl _) hl (i := 5) rfl
  clear hM hl l H1
  generalize γ 5 = γ2_5 at H2 o2_5 ⊢
  clear γ
  refine rest0 rfl (then_normal (wp_seq (wp_seq ?_)))
  refine walk_seqB 2 [.quiet (.int .i64 0), .quiet (.bool false)] H2 ?ho3 ?he3
  case ho3 => exact ak (fun _ => ⟨rfl, fun _ _ => rfl⟩) (ak (by refine fun γ => ⟨rfl, fun w' h => ?_⟩; clear h; go_simp) trivial)
  intro _ w3 H3
  clear H2
  refine rest0 rfl (then_normal (wp_cond_false rfl ?_))
  refine wp_skip (then_normal ?_)
  refine wp_seq (wp_seq ?_)
  refine walk_seqB 3 [.quiet (.agg (kd p r c gx gy).toArray), .quiet (.agg (pt X Y true).toArray), .quiet (.agg (pt X' Y' Z').toArray)] H3 ?ho4 ?he4
  case ho4 => exact ak (fun γ => ⟨rfl, fun w' h => ex_loadT h 0 rfl rfl rfl Try.isAgg72 Try.sizeOf72 rfl rfl⟩) (ak (fun γ => ⟨rfl, fun w' h => ex_loadT h 1 rfl rfl rfl Try.isAgg25 Try.sizeOf25 rfl rfl⟩) (ak (fun γ => ⟨rfl, fun w' h => ex_loadT h 2 rfl rfl rfl Try.isAgg25 Try.sizeOf25 rfl rfl⟩) trivial))
  intro _ w4 H4
  clear H3
  refine rest_at (l := [3, 4, 5]) rfl ?_
  refine rest_set (d := 22) (v := .slice (some ⟨w4.heap.size, 0, none⟩) 2 2) (w' := w4.alloc (.cells (p2 X Y true X' Y' Z' : List Value).toArray 25)) rfl rfl rfl (ex_bs2 rfl rfl rfl) ?_
  simp only [Act.put, sa, sz, ss]
  have o_γs5 : Hid (w.heap.size ≤ w4.heap.size) := H4.out.2.size
  have H5 : Hid (Mm (w4.alloc (.cells (p2 X Y true X' Y' Z' : List Value).toArray 25)) ((w4.heap.size, p2 X Y true X' Y' Z') :: [(γ2_5, kd p r c gx gy), (γ1_0, pt X Y true), (γ1_1, pt X' Y' Z'), (γ1_2, l2 0 0)]) ∧ Below w.heap.size w (w4.alloc (.cells (p2 X Y true X' Y' Z' : List Value).toArray 25))) := ⟨H4.out.1.alloc _ 25 rfl, H4.out.2.alloc H4.out.2.size _⟩
  clear H4
  generalize hgw : w4.alloc (.cells (p2 X Y true X' Y' Z' : List Value).toArray 25) = w5 at H5 ⊢
  clear hgw
  generalize w4.heap.size = γs5 at o_γs5 H5 ⊢
  refine rest_enter (d := 23) (R := fun vv w' => vv = .bool true ∧ Below w5.heap.size w5 w') rfl rfl rfl (exec_call (args := #[.agg (kd p r c gx gy).toArray, .slice (some ⟨γs5, 0, none⟩) 2 2]) rfl call60 rfl (mpn rfl)) (Calls.mono (allIn_is k.pr k.rb _ _ _ _ _ _ _ hg γs5 w5 (H5.out.1.one 0 rfl)) (fun e w2 hh => ⟨_, hh.1, rfl, hh.2⟩)) ?_
  rintro _ w6 ⟨rfl, hb⟩
  have H6 : Hid (_ ∧ _) := ⟨H5.out.1.below hb, H5.out.2.trans (hb.mono H5.out.2.size)⟩
  clear hb H5
  simp only [Act.put, sa, sz, ss]
  refine rest_set (d := 24) (v := .bool false) (w' := w6) rfl rfl rfl (by go_simp) ?_
  simp only [Act.put, sa, sz, ss]
  refine rest_nil (then_normal ?_)
  refine wp_cond_false rfl (wp_skip ?_)
  refine then_normal (wp_seq (wp_seq ?_))
  refine walk_seqB 6 [.quiet (PT γ1_0 2), .quiet (.bool true), .quiet (.bool true), .gone, .gone, .quiet (.bool true)] H6 ?ho5 ?he5
  case ho5 => exact ak (by refine fun γ => ⟨rfl, fun w' h => ?_⟩; clear h; go_simp) (ak (fun γ => ⟨rfl, fun w' h => ex_loadC h 2 rfl rfl rfl Try.isAgg4 rfl⟩) (ak (fun _ => ⟨rfl, fun _ _ => rfl⟩) (ak (fun γ => rfl) (ak (fun γ => rfl) (ak (by refine fun γ => ⟨rfl, fun w' h => ?_⟩; clear h; go_simp) trivial)))))
  intro _ w7 H7
  clear H6
  refine rest0 rfl (then_normal (wp_cond_true rfl (wp_seq ?_)))
  refine walk_seqB 1 [.quiet (.agg (l2 1 0).toArray)] H7 ?ho6 ?he6
  case ho6 => exact ak (fun γ => ⟨rfl, fun w' _ => ex_build49_0 rfl rfl⟩) trivial
  intro _ w8 H8
  clear H7
  refine rest_at (l := [1, 2]) rfl ?_
  refine rest_store rfl rfl rfl (ex_storeT (vs := l2 1 0) H8.out.1 4 rfl rfl rfl rfl Try.sizeOf49 rfl (Nat.le_of_ble_eq_true rfl)) ?_
  have H9 : Hid (Mm (w8.setCells γ1_2 0 (l2 1 0)) [(γs5, p2 X Y true X' Y' Z'), (γ2_5, kd p r c gx gy), (γ1_0, pt X Y true), (γ1_1, pt X' Y' Z'), (γ1_2, l2 1 0)] ∧ Below w.heap.size w (w8.setCells γ1_2 0 (l2 1 0))) := ⟨H8.out.1.put 4 (off := 0) (vs := l2 1 0) rfl (Nat.le_of_ble_eq_true rfl), below_setCells _ o1_2.out _ _ _ H8.out.2⟩
  clear H8
  generalize hgw : World.setCells _ _ _ _ = w9 at H9 ⊢
  clear hgw
  refine rest_set (d := 7) rfl rfl rfl rfl ?_
  simp only [Act.put, sa, sz, ss]
  refine rest_nil (then_normal (wp_ret ?_))
  repeat (first | refine then_ret ?_ | refine block_ret ?_)
  have hf0 := var_T H9.out.1 4 rfl Try.isAgg49 Try.sizeOf49 rfl
  refine bodyPost_ret (v := .tuple #[.agg (l2 1 0).toArray, .int .i64 0]) (by simp [results, Try.results27, asAddr, Act.eval, hf0]) rfl ?_
  exact ⟨rfl, H9.out.2⟩
set_option maxHeartbeats 1000000 in
set_option maxRecDepth 100000 in
theorem Pair_y (k : Kd s p r c gx gy) (X Y : Nat) (X' Y' : Nat) (hg : (ig p r X Y false && ig p r X' Y' true) = true) (w : World) :
    Calls Try.prog 27 #[.int .i64 s, .agg (pt X Y false).toArray, .agg (pt X' Y' true).toArray] w fun e w' => e = .returned (.tuple #[V (l2 1 0), .int .i64 0]) ∧ Below w.heap.size w w' := by
  have H0 : Hid (_ ∧ _) := ⟨Mm.nil w, Below.refl w.heap.size w⟩
  go_enter Try.func27, Try.ntmps27
  refine wp_seq ?_
  refine walk_seqA 4 [.made (pt X Y false) 25, .made (pt X' Y' true) 25, .made (l2 0 0) 49, .quiet (.int .i64 0)] (sB H0) ?ho1 ?he1
  case ho1 => exact ak (fun γ => ⟨rfl, fun w' => ex_boxT rfl rfl⟩) (ak (fun γ => ⟨rfl, fun w' => ex_boxT rfl rfl⟩) (ak (fun γ => ⟨rfl, fun w' => ex_made49 rfl⟩) (ak (fun _ => ⟨rfl, fun _ _ => rfl⟩) trivial)))
  intro γ w1 l hM hl
  have H1 : Hid (Mm w1 [(γ 0, pt X Y false), (γ 1, pt X' Y' true), (γ 2, l2 0 0)] ∧ _) := growB H0 hM (Nat.le_refl _) hl [0, 1, 2] rfl (by decide)
  have o1_0 := ownB H0 hM (Nat.le_refl _) hl (i := 0) rfl
  have o1_1 := ownB H0 hM (Nat.le_refl _) hl (i := 1) rfl
  have o1_2 := ownB H0 hM (Nat.le_refl _) hl (i := 2) rfl
  clear hM hl l
  generalize γ 0 = γ1_0 at H1 o1_0 ⊢
  generalize γ 1 = γ1_1 at H1 o1_1 ⊢
  generalize γ 2 = γ1_2 at H1 o1_2 ⊢
  clear γ
  refine rest0 rfl (then_normal (wp_seq ?_))
  refine walk_seqA 8 [.quiet (.int .i64 s), .call (.tuple #[.agg (kd p r c gx gy).toArray, .int .i64 0]), .quiet (.tuple #[.agg (kd p r c gx gy).toArray, .int .i64 0]), .quiet (.agg (kd p r c gx gy).toArray), .quiet (.int .i64 0), .made (kd 0 0 0 0 0) 72, .laid 5 (kd 0 0 0 0 0) (kd p r c gx gy), .quiet (.int .i64 0)] (sB H1) ?ho2 ?he2 (hL := ?hL2)
  case hL2 => exact ⟨⟨_, rfl⟩, trivial⟩
  case ho2 => exact ak (fun _ => ⟨rfl, fun _ _ => rfl⟩) (ak (fun γ => ⟨rfl, fun w' h => ⟨42, #[.int .i64 s], exec_call rfl call42 rfl (mpn rfl), k.kind w'⟩⟩) (ak (fun _ => ⟨rfl, fun _ _ => rfl⟩) (ak (by refine fun γ => ⟨rfl, fun w' h => ?_⟩; clear h; go_simp) (ak (by refine fun γ => ⟨rfl, fun w' h => ?_⟩; clear h; go_simp) (ak (fun γ => ⟨rfl, fun w' => ex_made72 rfl⟩) (ak (fun γ => ⟨rfl, rfl, rfl, fun w' h => ex_laidT h rfl rfl Try.sizeOf72 rfl rfl rfl⟩) (ak (fun _ => ⟨rfl, fun _ _ => rfl⟩) trivial)))))))
  intro γ w2 l hM hl
  have H2 : Hid (Mm w2 [(γ 5, kd p r c gx gy), (γ1_0, pt X Y false), (γ1_1, pt X' Y' true), (γ1_2, l2 0 0)] ∧ _) := growB H1 hM (Nat.le_refl _) hl [5] rfl (by decide)
  have o2_5 := ownB H1 hM (Nat.le_refl _) hl (i := 5) rfl
  clear hM hl l H1
  generalize γ 5 = γ2_5 at H2 o2_5 ⊢
  clear γ
  refine rest0 rfl (then_normal (wp_seq (wp_seq ?_)))
  refine walk_seqB 2 [.quiet (.int .i64 0), .quiet (.bool false)] H2 ?ho3 ?he3
  case ho3 => exact ak (fun _ => ⟨rfl, fun _ _ => rfl⟩) (ak (by refine fun γ => ⟨rfl, fun w' h => ?_⟩; clear h; go_simp) trivial)
  intro _ w3 H3
  clear H2
  refine rest0 rfl (then_normal (wp_cond_false rfl ?_))
  refine wp_skip (then_normal ?_)
  refine wp_seq (wp_seq ?_)
  refine walk_seqB 3 [.quiet (.agg (kd p r c gx gy).toArray), .quiet (.agg (pt X Y false).toArray), .quiet (.agg (pt X' Y' true).toArray)] H3 ?ho4 ?he4
  case ho4 => exact ak (fun γ => ⟨rfl, fun w' h => ex_loadT h 0 rfl rfl rfl Try.isAgg72 Try.sizeOf72 rfl rfl⟩) (ak (fun γ => ⟨rfl, fun w' h => ex_loadT h 1 rfl rfl rfl Try.isAgg25 Try.sizeOf25 rfl rfl⟩) (ak (fun γ => ⟨rfl, fun w' h => ex_loadT h 2 rfl rfl rfl Try.isAgg25 Try.sizeOf25 rfl rfl⟩) trivial))
  intro _ w4 H4
  clear H3
  refine rest_at (l := [3, 4, 5]) rfl ?_
  refine rest_set (d := 22) (v := .slice (some ⟨w4.heap.size, 0, none⟩) 2 2) (w' := w4.alloc (.cells (p2 X Y false X' Y' true : List Value).toArray 25)) rfl rfl rfl (ex_bs2 rfl rfl rfl) ?_
  simp only [Act.put, sa, sz, ss]
  have o_γs5 : Hid (w.heap.size ≤ w4.heap.size) := H4.out.2.size
  have H5 : Hid (Mm (w4.alloc (.cells (p2 X Y false X' Y' true : List Value).toArray 25)) ((w4.heap.size, p2 X Y false X' Y' true) :: [(γ2_5, kd p r c gx gy), (γ1_0, pt X Y false), (γ1_1, pt X' Y' true), (γ1_2, l2 0 0)]) ∧ Below w.heap.size w (w4.alloc (.cells (p2 X Y false X' Y' true : List Value).toArray 25))) := ⟨H4.out.1.alloc _ 25 rfl, H4.out.2.alloc H4.out.2.size _⟩
  clear H4
  generalize hgw : w4.alloc (.cells (p2 X Y false X' Y' true : List Value).toArray 25) = w5 at H5 ⊢
  clear hgw
  generalize w4.heap.size = γs5 at o_γs5 H5 ⊢
  refine rest_enter (d := 23) (R := fun vv w' => vv = .bool true ∧ Below w5.heap.size w5 w') rfl rfl rfl (exec_call (args := #[.agg (kd p r c gx gy).toArray, .slice (some ⟨γs5, 0, none⟩) 2 2]) rfl call60 rfl (mpn rfl)) (Calls.mono (allIn_is k.pr k.rb _ _ _ _ _ _ _ hg γs5 w5 (H5.out.1.one 0 rfl)) (fun e w2 hh => ⟨_, hh.1, rfl, hh.2⟩)) ?_
  rintro _ w6 ⟨rfl, hb⟩
  have H6 : Hid (_ ∧ _) := ⟨H5.out.1.below hb, H5.out.2.trans (hb.mono H5.out.2.size)⟩
  clear hb H5
  simp only [Act.put, sa, sz, ss]
  refine rest_set (d := 24) (v := .bool false) (w' := w6) rfl rfl rfl (by go_simp) ?_
  simp only [Act.put, sa, sz, ss]
  refine rest_nil (then_normal ?_)
  refine wp_cond_false rfl (wp_skip ?_)
  refine then_normal (wp_seq (wp_seq ?_))
  refine walk_seqB 6 [.quiet (PT γ1_0 2), .quiet (.bool false), .quiet (.bool false), .quiet (PT γ1_1 2), .quiet (.bool true), .quiet (.bool true)] H6 ?ho5 ?he5
  case ho5 => exact ak (by refine fun γ => ⟨rfl, fun w' h => ?_⟩; clear h; go_simp) (ak (fun γ => ⟨rfl, fun w' h => ex_loadC h 2 rfl rfl rfl Try.isAgg4 rfl⟩) (ak (fun _ => ⟨rfl, fun _ _ => rfl⟩) (ak (by refine fun γ => ⟨rfl, fun w' h => ?_⟩; clear h; go_simp) (ak (fun γ => ⟨rfl, fun w' h => ex_loadC h 3 rfl rfl rfl Try.isAgg4 rfl⟩) (ak (by refine fun γ => ⟨rfl, fun w' h => ?_⟩; clear h; go_simp) trivial)))))
  intro _ w7 H7
  clear H6
  refine rest0 rfl (then_normal (wp_cond_true rfl (wp_seq ?_)))
  refine walk_seqB 1 [.quiet (.agg (l2 1 0).toArray)] H7 ?ho6 ?he6
  case ho6 => exact ak (fun γ => ⟨rfl, fun w' _ => ex_build49_0 rfl rfl⟩) trivial
  intro _ w8 H8
  clear H7
  refine rest_at (l := [1, 2]) rfl ?_
  refine rest_store rfl rfl rfl (ex_storeT (vs := l2 1 0) H8.out.1 4 rfl rfl rfl rfl Try.sizeOf49 rfl (Nat.le_of_ble_eq_true rfl)) ?_
  have H9 : Hid (Mm (w8.setCells γ1_2 0 (l2 1 0)) [(γs5, p2 X Y false X' Y' true), (γ2_5, kd p r c gx gy), (γ1_0, pt X Y false), (γ1_1, pt X' Y' true), (γ1_2, l2 1 0)] ∧ Below w.heap.size w (w8.setCells γ1_2 0 (l2 1 0))) := ⟨H8.out.1.put 4 (off := 0) (vs := l2 1 0) rfl (Nat.le_of_ble_eq_true rfl), below_setCells _ o1_2.out _ _ _ H8.out.2⟩
  clear H8
  generalize hgw : World.setCells _ _ _ _ = w9 at H9 ⊢
  clear hgw
  refine rest_set (d := 7) rfl rfl rfl rfl ?_
  simp only [Act.put, sa, sz, ss]
  refine rest_nil (then_normal (wp_ret ?_))
  repeat (first | refine then_ret ?_ | refine block_ret ?_)
  have hf0 := var_T H9.out.1 4 rfl Try.isAgg49 Try.sizeOf49 rfl
  refine bodyPost_ret (v := .tuple #[.agg (l2 1 0).toArray, .int .i64 0]) (by simp [results, Try.results27, asAddr, Act.eval, hf0]) rfl ?_
  exact ⟨rfl, H9.out.2⟩
set_option maxHeartbeats 1000000 in
set_option maxRecDepth 100000 in
theorem Pair_g (k : Kd s p r c gx gy) (X Y : Nat) (X' Y' : Nat) (hg : (ig p r X Y false && ig p r X' Y' false) = true) (w : World) :
    Calls Try.prog 27 #[.int .i64 s, .agg (pt X Y false).toArray, .agg (pt X' Y' false).toArray] w fun e w' => e = .returned (.tuple #[V (lc (ls p c (wk p r X Y X' Y' false))), .int .i64 0]) ∧ Below w.heap.size w w' := by
  have H0 : Hid (_ ∧ _) := ⟨Mm.nil w, Below.refl w.heap.size w⟩
  go_enter Try.func27, Try.ntmps27
  refine wp_seq ?_
  refine walk_seqA 4 [.made (pt X Y false) 25, .made (pt X' Y' false) 25, .made (l2 0 0) 49, .quiet (.int .i64 0)] (sB H0) ?ho1 ?he1
  case ho1 => exact ak (fun γ => ⟨rfl, fun w' => ex_boxT rfl rfl⟩) (ak (fun γ => ⟨rfl, fun w' => ex_boxT rfl rfl⟩) (ak (fun γ => ⟨rfl, fun w' => ex_made49 rfl⟩) (ak (fun _ => ⟨rfl, fun _ _ => rfl⟩) trivial)))
  intro γ w1 l hM hl
  have H1 : Hid (Mm w1 [(γ 0, pt X Y false), (γ 1, pt X' Y' false), (γ 2, l2 0 0)] ∧ _) := growB H0 hM (Nat.le_refl _) hl [0, 1, 2] rfl (by decide)
  have o1_0 := ownB H0 hM (Nat.le_refl _) hl (i := 0) rfl
  have o1_1 := ownB H0 hM (Nat.le_refl _) hl (i := 1) rfl
  have o1_2 := ownB H0 hM (Nat.le_refl _) hl (i := 2) rfl
  clear hM hl l
  generalize γ 0 = γ1_0 at H1 o1_0 ⊢
  generalize γ 1 = γ1_1 at H1 o1_1 ⊢
  generalize γ 2 = γ1_2 at H1 o1_2 ⊢
  clear γ
  refine rest0 rfl (then_normal (wp_seq ?_))
  refine walk_seqA 8 [.quiet (.int .i64 s), .call (.tuple #[.agg (kd p r c gx gy).toArray, .int .i64 0]), .quiet (.tuple #[.agg (kd p r c gx gy).toArray, .int .i64 0]), .quiet (.agg (kd p r c gx gy).toArray), .quiet (.int .i64 0), .made (kd 0 0 0 0 0) 72, .laid 5 (kd 0 0 0 0 0) (kd p r c gx gy), .quiet (.int .i64 0)] (sB H1) ?ho2 ?he2 (hL := ?hL2)
  case hL2 => exact ⟨⟨_, rfl⟩, trivial⟩
  case ho2 => exact ak (fun _ => ⟨rfl, fun _ _ => rfl⟩) (ak (fun γ => ⟨rfl, fun w' h => ⟨42, #[.int .i64 s], exec_call rfl call42 rfl (mpn rfl), k.kind w'⟩⟩) (ak (fun _ => ⟨rfl, fun _ _ => rfl⟩) (ak (by refine fun γ => ⟨rfl, fun w' h => ?_⟩; clear h; go_simp) (ak (by refine fun γ => ⟨rfl, fun w' h => ?_⟩; clear h; go_simp) (ak (fun γ => ⟨rfl, fun w' => ex_made72 rfl⟩) (ak (fun γ => ⟨rfl, rfl, rfl, fun w' h => ex_laidT h rfl rfl Try.sizeOf72 rfl rfl rfl⟩) (ak (fun _ => ⟨rfl, fun _ _ => rfl⟩) trivial)))))))
  intro γ w2 l hM hl
  have H2 : Hid (Mm w2 [(γ 5, kd p r c gx gy), (γ1_0, pt X Y false), (γ1_1, pt X' Y' false), (γ1_2, l2 0 0)] ∧ _) := growB H1 hM (Nat.le_refl _) hl [5] rfl (by decide)
  have o2_5 := ownB H1 hM (Nat.le_refl _) hl (i := 5) rfl
  clear hM hl l H1
  generalize γ 5 = γ2_5 at H2 o2_5 ⊢
  clear γ
  refine rest0 rfl (then_normal (wp_seq (wp_seq ?_)))
  refine walk_seqB 2 [.quiet (.int .i64 0), .quiet (.bool false)] H2 ?ho3 ?he3
  case ho3 => exact ak (fun _ => ⟨rfl, fun _ _ => rfl⟩) (ak (by refine fun γ => ⟨rfl, fun w' h => ?_⟩; clear h; go_simp) trivial)
  intro _ w3 H3
  clear H2
  refine rest0 rfl (then_normal (wp_cond_false rfl ?_))
  refine wp_skip (then_normal ?_)
  refine wp_seq (wp_seq ?_)
  refine walk_seqB 3 [.quiet (.agg (kd p r c gx gy).toArray), .quiet (.agg (pt X Y false).toArray), .quiet (.agg (pt X' Y' false).toArray)] H3 ?ho4 ?he4
  case ho4 => exact ak (fun γ => ⟨rfl, fun w' h => ex_loadT h 0 rfl rfl rfl Try.isAgg72 Try.sizeOf72 rfl rfl⟩) (ak (fun γ => ⟨rfl, fun w' h => ex_loadT h 1 rfl rfl rfl Try.isAgg25 Try.sizeOf25 rfl rfl⟩) (ak (fun γ => ⟨rfl, fun w' h => ex_loadT h 2 rfl rfl rfl Try.isAgg25 Try.sizeOf25 rfl rfl⟩) trivial))
  intro _ w4 H4
  clear H3
  refine rest_at (l := [3, 4, 5]) rfl ?_
  refine rest_set (d := 22) (v := .slice (some ⟨w4.heap.size, 0, none⟩) 2 2) (w' := w4.alloc (.cells (p2 X Y false X' Y' false : List Value).toArray 25)) rfl rfl rfl (ex_bs2 rfl rfl rfl) ?_
  simp only [Act.put, sa, sz, ss]
  have o_γs5 : Hid (w.heap.size ≤ w4.heap.size) := H4.out.2.size
  have H5 : Hid (Mm (w4.alloc (.cells (p2 X Y false X' Y' false : List Value).toArray 25)) ((w4.heap.size, p2 X Y false X' Y' false) :: [(γ2_5, kd p r c gx gy), (γ1_0, pt X Y false), (γ1_1, pt X' Y' false), (γ1_2, l2 0 0)]) ∧ Below w.heap.size w (w4.alloc (.cells (p2 X Y false X' Y' false : List Value).toArray 25))) := ⟨H4.out.1.alloc _ 25 rfl, H4.out.2.alloc H4.out.2.size _⟩
  clear H4
  generalize hgw : w4.alloc (.cells (p2 X Y false X' Y' false : List Value).toArray 25) = w5 at H5 ⊢
  clear hgw
  generalize w4.heap.size = γs5 at o_γs5 H5 ⊢
  refine rest_enter (d := 23) (R := fun vv w' => vv = .bool true ∧ Below w5.heap.size w5 w') rfl rfl rfl (exec_call (args := #[.agg (kd p r c gx gy).toArray, .slice (some ⟨γs5, 0, none⟩) 2 2]) rfl call60 rfl (mpn rfl)) (Calls.mono (allIn_is k.pr k.rb _ _ _ _ _ _ _ hg γs5 w5 (H5.out.1.one 0 rfl)) (fun e w2 hh => ⟨_, hh.1, rfl, hh.2⟩)) ?_
  rintro _ w6 ⟨rfl, hb⟩
  have H6 : Hid (_ ∧ _) := ⟨H5.out.1.below hb, H5.out.2.trans (hb.mono H5.out.2.size)⟩
  clear hb H5
  simp only [Act.put, sa, sz, ss]
  refine rest_set (d := 24) (v := .bool false) (w' := w6) rfl rfl rfl (by go_simp) ?_
  simp only [Act.put, sa, sz, ss]
  refine rest_nil (then_normal ?_)
  refine wp_cond_false rfl (wp_skip ?_)
  refine then_normal (wp_seq (wp_seq ?_))
  refine walk_seqB 6 [.quiet (PT γ1_0 2), .quiet (.bool false), .quiet (.bool false), .quiet (PT γ1_1 2), .quiet (.bool false), .quiet (.bool false)] H6 ?ho5 ?he5
  case ho5 => exact ak (by refine fun γ => ⟨rfl, fun w' h => ?_⟩; clear h; go_simp) (ak (fun γ => ⟨rfl, fun w' h => ex_loadC h 2 rfl rfl rfl Try.isAgg4 rfl⟩) (ak (fun _ => ⟨rfl, fun _ _ => rfl⟩) (ak (by refine fun γ => ⟨rfl, fun w' h => ?_⟩; clear h; go_simp) (ak (fun γ => ⟨rfl, fun w' h => ex_loadC h 3 rfl rfl rfl Try.isAgg4 rfl⟩) (ak (by refine fun γ => ⟨rfl, fun w' h => ?_⟩; clear h; go_simp) trivial)))))
  intro _ w7 H7
  clear H6
  refine rest0 rfl (then_normal (wp_cond_false rfl ?_))
  refine wp_skip (then_normal (wp_seq ?_))
  refine walk_anyB 6 [.quiet (.agg (kd p r c gx gy).toArray), .quiet (.agg (kd p r c gx gy).toArray), .quiet (.agg (pt X Y false).toArray), .quiet (.agg (pt X' Y' false).toArray), .call (.agg (l2 ((wk p r X Y X' Y' false).1) ((wk p r X Y X' Y' false).2)).toArray), .call (.agg (l2 ((ls p c (wk p r X Y X' Y' false)).1) ((ls p c (wk p r X Y X' Y' false)).2)).toArray)] H7 ?ho6 ?he6
  case ho6 => exact ak (fun γ => ⟨rfl, fun w' h => ex_loadT h 1 rfl rfl rfl Try.isAgg72 Try.sizeOf72 rfl rfl⟩) (ak (fun γ => ⟨rfl, fun w' h => ex_loadT h 1 rfl rfl rfl Try.isAgg72 Try.sizeOf72 rfl rfl⟩) (ak (fun γ => ⟨rfl, fun w' h => ex_loadT h 2 rfl rfl rfl Try.isAgg25 Try.sizeOf25 rfl rfl⟩) (ak (fun γ => ⟨rfl, fun w' h => ex_loadT h 3 rfl rfl rfl Try.isAgg25 Try.sizeOf25 rfl rfl⟩) (ak (fun γ => ⟨rfl, fun w' h => ⟨62, #[.agg (kd p r c gx gy).toArray, .agg (pt X Y false).toArray, .agg (pt X' Y' false).toArray], exec_call rfl call62 rfl (mpn rfl), walked_any k.pr k.rb X Y false (ig_lt k.pr (Bool.and_eq_true_iff.1 hg).1).1 (ig_lt k.pr (Bool.and_eq_true_iff.1 hg).1).2 X' Y' false (ig_lt k.pr (Bool.and_eq_true_iff.1 hg).2).1 (ig_lt k.pr (Bool.and_eq_true_iff.1 hg).2).2 w'⟩⟩) (ak (fun γ => ⟨rfl, fun w' h => ⟨61, #[.agg (kd p r c gx gy).toArray, .agg (l2 ((wk p r X Y X' Y' false).1) ((wk p r X Y X' Y' false).2)).toArray], exec_call rfl call61 rfl (mpn rfl), last_any k.pr (wk p r X Y X' Y' false) (ws_lt k.pr (ig_lt k.pr (Bool.and_eq_true_iff.1 hg).1).1 (ig_lt k.pr (Bool.and_eq_true_iff.1 hg).1).2 _).f k.cb w'⟩⟩) trivial)))))
  intro _ w8 H8
  clear H7
  refine rest_at (l := [6, 7]) rfl ?_
  refine rest_store rfl rfl rfl (ex_storeT (vs := l2 ((ls p c (wk p r X Y X' Y' false)).1) ((ls p c (wk p r X Y X' Y' false)).2)) H8.out.1 4 rfl rfl rfl rfl Try.sizeOf49 rfl (Nat.le_of_ble_eq_true rfl)) ?_
  have H9 : Hid (Mm (w8.setCells γ1_2 0 (l2 ((ls p c (wk p r X Y X' Y' false)).1) ((ls p c (wk p r X Y X' Y' false)).2))) [(γs5, p2 X Y false X' Y' false), (γ2_5, kd p r c gx gy), (γ1_0, pt X Y false), (γ1_1, pt X' Y' false), (γ1_2, l2 ((ls p c (wk p r X Y X' Y' false)).1) ((ls p c (wk p r X Y X' Y' false)).2))] ∧ Below w.heap.size w (w8.setCells γ1_2 0 (l2 ((ls p c (wk p r X Y X' Y' false)).1) ((ls p c (wk p r X Y X' Y' false)).2)))) := ⟨H8.out.1.put 4 (off := 0) (vs := l2 ((ls p c (wk p r X Y X' Y' false)).1) ((ls p c (wk p r X Y X' Y' false)).2)) rfl (Nat.le_of_ble_eq_true rfl), below_setCells _ o1_2.out _ _ _ H8.out.2⟩
  clear H8
  generalize hgw : World.setCells _ _ _ _ = w9 at H9 ⊢
  clear hgw
  refine rest_set (d := 7) rfl rfl rfl rfl ?_
  simp only [Act.put, sa, sz, ss]
  refine rest_nil (then_normal (wp_ret ?_))
  repeat (first | refine then_ret ?_ | refine block_ret ?_)
  have hf0 := var_T H9.out.1 4 rfl Try.isAgg49 Try.sizeOf49 rfl
  refine bodyPost_ret (v := .tuple #[.agg (l2 ((ls p c (wk p r X Y X' Y' false)).1) ((ls p c (wk p r X Y X' Y' false)).2)).toArray, .int .i64 0]) (by simp [results, Try.results27, asAddr, Act.eval, hf0]) rfl ?_
  exact ⟨rfl, H9.out.2⟩
theorem Pair_ok (k : Kd s p r c gx gy) (X Y : Nat) (Z : Bool) (X' Y' : Nat) (Z' : Bool) (hg : (ig p r X Y Z && ig p r X' Y' Z') = true) (w : World) : Calls Try.prog 27 #[.int .i64 s, .agg (pt X Y Z).toArray, .agg (pt X' Y' Z').toArray] w fun e w' => e = .returned (.tuple #[V (lc (pr p r c X Y X' Y' Z Z')), .int .i64 0]) ∧ Below w.heap.size w w' := by
  unfold pr
  cases Z
  · cases Z'
    · rw [if_neg (by simp)]; exact Pair_g k X Y X' Y' hg w
    · rw [if_pos (Or.inr rfl)]; exact Pair_y k X Y X' Y' hg w
  · rw [if_pos (Or.inl rfl)]; exact Pair_z k X Y X' Y' Z' hg w
end
/-! What the examples say. -/
set_option maxRecDepth 100000 in
theorem run_eqL' (D a b a' b' : Nat) (p0 p1 : Bool) (hi0 : ∀ w, (Op.equalIn D 23 (U a) (U a')).run Try.prog w = .ok p0 w) (hi1 : ∀ w, (Op.equalIn D 23 (U b) (U b')).run Try.prog w = .ok p1 w) (w : World) : (Op.equalIn (D + 1) 49 (V (l2 a b)) (V (l2 a' b'))).run Try.prog w = .ok (p0 && p1) w := by
  have h49 : Try.prog.underlying 49 = some (.array 2 23) := by kernel_rfl
  have hsz : ∀ w, (sizeOf 23).run Try.prog w = .ok 1 w := fun w => by kernel_rfl
  have hp : ∀ (a b : Nat) (w : World), (Go.part 23 (l2 a b).toArray 0).run Try.prog w = .ok (U a) w ∧ (Go.part 23 (l2 a b).toArray 1).run Try.prog w = .ok (U b) w := fun a b w => ⟨by kernel_rfl, by kernel_rfl⟩
  have q1 := hp a b
  have q2 := hp a' b'
  clear hp
  unfold V
  generalize (l2 a b).toArray = xs at *
  generalize (l2 a' b').toArray = ys at *
  simp only [Op.equalIn, Sem.run_bind, run_underlying h49, Result.andThen_ok, hsz]
  simp [Std.Legacy.Range.forIn_eq_forIn_range', List.range', List.forIn_cons, hi0, hi1, q1, q2]
  cases p0 <;> cases p1 <;> simp
theorem run_eqL (a b a' b' : Nat) (w : World) : (Op.equalIn 10000 49 (V (l2 a b)) (V (l2 a' b'))).run Try.prog w = .ok (decide (a = a') && decide (b = b')) w :=
  run_eqL' 9999 a b a' b' _ _ (fun w => run_eqU 9998 a a' w) (fun w => run_eqU 9998 b b' w) w
theorem exec_eqT49 {ρ : Operand → Value} {o : Oper} {x y : Operand} {v v' : Array Value} {t : Bool} {w : World} (he : ∀ w, (Op.equalIn 10000 49 (.agg v) (.agg v')).run Try.prog w = .ok t w) (ho : o.op = .binOp .eql 49 x y 49) (hx : ρ x = .agg v) (hy : ρ y = .agg v') :
    (execOp ρ o).run Try.prog w = .ok (.value (.bool t)) w := by
  simp only [execOp, ho, hx, hy]
  clear hx hy
  go_simp
open NT in
theorem pw_pm (p a n : Nat) (hn : n < 2 ^ 64) : pw p a n = pm p 64 a n 1 % p := by
  unfold pw
  rw [pm_spec p 64 a n 1 hn, Nat.one_mul]
open NT in
theorem ls_pm (p c : Nat) (f : E2) (hp : p < 2 ^ 64) : ls p c f = rs p (1, 0) (pd p (pd p (f.1, mi p 0 f.2) (f.1, mi p 0 f.2)) (pm p 64 (t2 p f.1 f.1 f.2 f.2) (p - 2) 1 % p, 0)) c := by
  unfold ls
  rw [pw_pm p _ (p - 2) (by omega)]
theorem ig_g1 : ig 786251 65521 9723 164643 false = true := by decide +kernel
theorem pr_g1 : pr 786251 65521 12 9723 164643 9723 164643 false false = (414096, 460347) := by
  have : pr 786251 65521 12 9723 164643 9723 164643 false false = ls 786251 12 (wk 786251 65521 9723 164643 9723 164643 false) := rfl
  rw [this, ls_pm _ _ _ (by decide)]
  decide +kernel
theorem Pair_g1 (w : World) : Calls Try.prog 27 #[.int .i64 1, .agg (pt 9723 164643 false).toArray, .agg (pt 9723 164643 false).toArray] w fun e w' => e = .returned (.tuple #[V (l2 414096 460347), .int .i64 0]) ∧ Below w.heap.size w w' := by
  have h := Pair_ok kd_1 9723 164643 false 9723 164643 false (by rw [ig_g1]; rfl) w
  rw [pr_g1] at h
  exact h
set_option maxHeartbeats 1000000 in
set_option maxRecDepth 100000 in
theorem awake_any  (w : World) :
    Calls Try.prog 41 #[] w fun e w' => e = .returned (.bool true) ∧ Below w.heap.size w w' := by
  have H0 : Hid (_ ∧ _) := ⟨Mm.nil w, Below.refl w.heap.size w⟩
  go_enter Try.func41, Try.ntmps41
  refine wp_seq ?_
  refine walk_seqB 1 [.quiet (.bool false)] H0 ?ho1 ?he1
  case ho1 => exact ak (fun _ => ⟨rfl, fun _ _ => rfl⟩) trivial
  intro _ w1 H1
  refine rest0 rfl (then_normal (wp_seq ?_))
  refine walk_seqA 7 [.call (.tuple #[.agg (pt 9723 164643 false).toArray, .int .i64 0]), .quiet (.tuple #[.agg (pt 9723 164643 false).toArray, .int .i64 0]), .quiet (.agg (pt 9723 164643 false).toArray), .quiet (.int .i64 0), .made (pt 0 0 false) 25, .laid 4 (pt 0 0 false) (pt 9723 164643 false), .quiet (.int .i64 0)] (sB H1) ?ho2 ?he2 (hL := ?hL2)
  case hL2 => exact ⟨⟨_, rfl⟩, trivial⟩
  case ho2 => exact ak (fun γ => ⟨rfl, fun w' h => ⟨13, #[.int .i64 1], exec_call rfl call13 rfl (mpn rfl), Gen_ok kd_1 w'⟩⟩) (ak (fun _ => ⟨rfl, fun _ _ => rfl⟩) (ak (by refine fun γ => ⟨rfl, fun w' h => ?_⟩; clear h; go_simp) (ak (by refine fun γ => ⟨rfl, fun w' h => ?_⟩; clear h; go_simp) (ak (fun γ => ⟨rfl, fun w' => ex_made25 rfl⟩) (ak (fun γ => ⟨rfl, rfl, rfl, fun w' h => ex_laidT h rfl rfl Try.sizeOf25 rfl rfl rfl⟩) (ak (fun _ => ⟨rfl, fun _ _ => rfl⟩) trivial))))))
  intro γ w2 l hM hl
  have H2 : Hid (Mm w2 [(γ 4, pt 9723 164643 false)] ∧ _) := growB H1 hM (Nat.le_refl _) hl [4] rfl (by decide)
  have o2_4 := ownB H1 hM (Nat.le_refl _) hl (i := 4) rfl
  clear hM hl l H1
  generalize γ 4 = γ2_4 at H2 o2_4 ⊢
  clear γ
  refine rest0 rfl (then_normal (wp_seq ?_))
  refine walk_seqA 9 [.quiet (.agg (pt 9723 164643 false).toArray), .quiet (.agg (pt 9723 164643 false).toArray), .call (.tuple #[.agg (l2 414096 460347).toArray, .int .i64 0]), .quiet (.tuple #[.agg (l2 414096 460347).toArray, .int .i64 0]), .quiet (.agg (l2 414096 460347).toArray), .quiet (.int .i64 0), .made (l2 0 0) 49, .laid 6 (l2 0 0) (l2 414096 460347), .quiet (.int .i64 0)] (sB H2) ?ho3 ?he3 (hL := ?hL3)
  case hL3 => exact ⟨⟨_, rfl⟩, trivial⟩
  case ho3 => exact ak (fun γ => ⟨rfl, fun w' h => ex_loadT h 0 rfl rfl rfl Try.isAgg25 Try.sizeOf25 rfl rfl⟩) (ak (fun γ => ⟨rfl, fun w' h => ex_loadT h 0 rfl rfl rfl Try.isAgg25 Try.sizeOf25 rfl rfl⟩) (ak (fun γ => ⟨rfl, fun w' h => ⟨27, #[.int .i64 1, .agg (pt 9723 164643 false).toArray, .agg (pt 9723 164643 false).toArray], exec_call rfl call27 rfl (mpn rfl), Pair_g1 w'⟩⟩) (ak (fun _ => ⟨rfl, fun _ _ => rfl⟩) (ak (by refine fun γ => ⟨rfl, fun w' h => ?_⟩; clear h; go_simp) (ak (by refine fun γ => ⟨rfl, fun w' h => ?_⟩; clear h; go_simp) (ak (fun γ => ⟨rfl, fun w' => ex_made49 rfl⟩) (ak (fun γ => ⟨rfl, rfl, rfl, fun w' h => ex_laidT h rfl rfl Try.sizeOf49 rfl rfl rfl⟩) (ak (fun _ => ⟨rfl, fun _ _ => rfl⟩) trivial))))))))
  intro γ w3 l hM hl
  have H3 : Hid (Mm w3 [(γ 6, l2 414096 460347), (γ2_4, pt 9723 164643 false)] ∧ _) := growB H2 hM (Nat.le_refl _) hl [6] rfl (by decide)
  have o3_6 := ownB H2 hM (Nat.le_refl _) hl (i := 6) rfl
  clear hM hl l H2
  generalize γ 6 = γ3_6 at H3 o3_6 ⊢
  clear γ
  refine rest0 rfl (then_normal (wp_seq ?_))
  refine walk_seqB 17 [.quiet (.agg (pt 9723 164643 false).toArray), .quiet (.agg (pt 9723 164643 false).toArray), .quiet (.bool true), .quiet (.bool true), .quiet (.int .i64 0), .quiet (.bool true), .quiet (.bool true), .quiet (.bool true), .quiet (.agg (l2 414096 460347).toArray), .quiet (.agg (l2 414096 460347).toArray), .quiet (.bool true), .quiet (.bool true), .quiet (.bool true), .quiet (.int .i64 0), .quiet (.bool true), .quiet (.bool true), .quiet (.bool true)] H3 ?ho4 ?he4
  case ho4 => exact ak (fun γ => ⟨rfl, fun w' h => ex_loadT h 1 rfl rfl rfl Try.isAgg25 Try.sizeOf25 rfl rfl⟩) (ak (fun γ => ⟨rfl, fun w' _ => ex_build25_01 rfl rfl rfl⟩) (ak (fun γ => ⟨rfl, fun w' _ => exec_eqT25 (fun w => eq_self _ _ _ w) rfl rfl rfl⟩) (ak (fun _ => ⟨rfl, fun _ _ => rfl⟩) (ak (fun _ => ⟨rfl, fun _ _ => rfl⟩) (ak (by refine fun γ => ⟨rfl, fun w' h => ?_⟩; clear h; go_simp) (ak (by refine fun γ => ⟨rfl, fun w' h => ?_⟩; clear h; go_simp) (ak (fun _ => ⟨rfl, fun _ _ => rfl⟩) (ak (fun γ => ⟨rfl, fun w' h => ex_loadT h 0 rfl rfl rfl Try.isAgg49 Try.sizeOf49 rfl rfl⟩) (ak (fun γ => ⟨rfl, fun w' _ => ex_build49_01 rfl rfl rfl⟩) (ak (fun γ => ⟨rfl, fun w' _ => exec_eqT49 (fun w => run_eqL 414096 460347 414096 460347 w) rfl rfl rfl⟩) (ak (by refine fun γ => ⟨rfl, fun w' h => ?_⟩; clear h; go_simp) (ak (fun _ => ⟨rfl, fun _ _ => rfl⟩) (ak (fun _ => ⟨rfl, fun _ _ => rfl⟩) (ak (by refine fun γ => ⟨rfl, fun w' h => ?_⟩; clear h; go_simp) (ak (by refine fun γ => ⟨rfl, fun w' h => ?_⟩; clear h; go_simp) (ak (fun _ => ⟨rfl, fun _ _ => rfl⟩) trivial))))))))))))))))
  intro _ w4 H4
  clear H3
  refine rest0 rfl (then_normal (wp_ret ?_))
  repeat (first | refine then_ret ?_ | refine block_ret ?_)
  refine bodyPost_ret (v := .bool true) (by simp [results, Try.results41, go_sem, *]) rfl ?_
  exact ⟨rfl, H4.out.2⟩
end Rg
end Go.Proofs.Ytjmbgchoioepjaa
end
section
namespace Go.Proofs.Ytjmbgchoioepjaa
open Go.RowKit
namespace Rg
open NT
section
variable {p : Nat} [NeZero p]
/-- A number, by p. -/
abbrev ph (p : Nat) [NeZero p] (n : Nat) : Fin p := Fin.ofNat p n
theorem ph_tm (a b : Nat) : ph p (tm p a b) = ph p a * ph p b := by
  apply Fin.ext
  simp [tm, Fin.val_mul]
theorem ph_pl (a b : Nat) : ph p (pl p a b) = ph p a + ph p b := by
  apply Fin.ext
  simp [pl, Fin.val_add]
theorem ph_val (a : Nat) : (ph p a).val = a % p := rfl
theorem ph_mi (a b : Nat) (hb : b < p) : ph p (mi p a b) = ph p a - ph p b := by
  apply Fin.ext
  rw [Fin.val_sub, ph_val, ph_val, ph_val]
  unfold mi
  rw [Nat.mod_mod, Nat.mod_eq_of_lt hb, Nat.add_mod_mod]
  congr 1
  omega
theorem ph_inj {a b : Nat} (ha : a < p) (hb : b < p) (h : ph p a = ph p b) : a = b := by
  have e := congrArg Fin.val h
  rw [ph_val, ph_val, Nat.mod_eq_of_lt ha, Nat.mod_eq_of_lt hb] at e
  exact e
theorem ph_zero : ph p 0 = 0 := rfl
theorem ph_one : ph p 1 = 1 := rfl
theorem ph_2 : ph p 2 = 2 := rfl
theorem ph_3 : ph p 3 = 3 := rfl
theorem ph_4 : ph p 4 = 4 := rfl
theorem ph_8 : ph p 8 = 8 := rfl
theorem ph_eq0 {a : Nat} (ha : a < p) : ph p a = 0 ↔ a = 0 := ⟨fun h => ph_inj ha (Nat.lt_of_le_of_lt (Nat.zero_le _) ha) h, fun h => by rw [h]; rfl⟩
theorem fp_mul {x y : Fin p} (hq : Prm p) (h : x * y = 0) : x = 0 ∨ y = 0 := by
  have e := congrArg Fin.val h
  rw [Fin.val_mul] at e
  have hd : p ∣ x.val * y.val := Nat.dvd_of_mod_eq_zero e
  rcases hq.mul hd with h | h
  · exact Or.inl (Fin.ext (Nat.eq_zero_of_dvd_of_lt h x.isLt))
  · exact Or.inr (Fin.ext (Nat.eq_zero_of_dvd_of_lt h y.isLt))
theorem fp_ne {x y : Fin p} (hq : Prm p) (hx : x ≠ 0) (hy : y ≠ 0) : x * y ≠ 0 := fun h => (fp_mul hq h).elim hx hy
theorem fp_cancel {x y z : Fin p} (hq : Prm p) (hz : z ≠ 0) (h : x * z = y * z) : x = y := by
  have e : (x - y) * z = 0 := by grind
  rcases fp_mul hq e with h | h
  · grind
  · exact absurd h hz
/-- By the power p - 2 a number is turned over. -/
theorem ph_inv {a : Nat} (hq : Prm p) (h2 : 2 < p) (ha : ph p a ≠ 0) : ph p a * ph p (pw p a (p - 2)) = 1 := by
  apply Fin.ext
  rw [Fin.val_mul, ph_val, ph_val]
  unfold pw
  rw [Nat.mod_mod, ← Nat.mul_mod, Nat.mul_comm, ← Nat.pow_succ, show (p - 2).succ = p - 1 by omega, fermat1 hq a (fun hd => ha (Fin.ext (Nat.mod_eq_zero_of_dvd hd)))]
  exact (Nat.mod_eq_of_lt (by omega)).symm
/-- A triple's point. -/
structure Rep (p : Nat) [NeZero p] (t : T3) (a : P3) : Prop where
  lt : Lt3 p t
  zr : a.2.2 = true → t.2.2 = 0
  nz : a.2.2 = false → ph p t.2.2 ≠ 0 ∧ ph p t.1 = ph p a.1 * ph p t.2.2 * ph p t.2.2 ∧ ph p t.2.1 = ph p a.2.1 * ph p t.2.2 * ph p t.2.2 * ph p t.2.2
/-- A point of the curve. -/
structure On (p : Nat) [NeZero p] (a : P3) : Prop where
  lt : LtP p a
  zr : a.2.2 = true → a = (0, 0, true)
  cv : a.2.2 = false → ph p a.2.1 * ph p a.2.1 = ph p a.1 * ph p a.1 * ph p a.1 + ph p a.1
theorem ph_cb (x : Nat) : ph p (cb p x) = ph p x * ph p x * ph p x + ph p x := by
  unfold cb
  rw [ph_tm, ph_pl, ph_tm, ph_one]
  grind
theorem on_of (hp : Pr p) {X Y : Nat} {Z : Bool} (h : oc p X Y Z = true) : On p (X, Y, Z) := by
  have hl := oc_lt hp h
  refine ⟨⟨hl.1, hl.2⟩, fun hz => ?_, fun hz => ?_⟩
  · simp only at hz
    subst hz
    simp [oc] at h
    rw [h.1, h.2]
  · simp only at hz
    subst hz
    simp [oc] at h
    have e := congrArg (ph p) h.2.2
    rw [ph_tm, ph_cb] at e
    exact e
theorem oc_of (hp : Pr p) {a : P3} (h : On p a) : oc p a.1 a.2.1 a.2.2 = true := by
  obtain ⟨X, Y, Z⟩ := a
  cases Z
  · have e : tm p Y Y = cb p X := by
      refine ph_inj (tm_lt hp) (tm_lt hp) ?_
      rw [ph_tm, ph_cb]
      exact h.cv rfl
    have h1 := h.lt.x
    have h2 := h.lt.y
    simp only at h1 h2
    simp [oc, e, h1, h2]
  · have := h.zr rfl
    injection this with h1 h2
    injection h2 with h2 _
    subst h1 h2
    simp [oc]
theorem rep_tO (hp : Pr p) {a : P3} (ha : On p a) : Rep p (tO a.1 a.2.1 a.2.2) a := by
  refine ⟨tO_lt hp ha.lt.x ha.lt.y, fun hz => ?_, fun hz => ?_⟩
  · unfold tO; rw [if_pos hz]
  · unfold tO
    rw [if_neg (by rw [hz]; decide)]
    have h1 : (1 : Fin p) ≠ 0 := fun e => by
      have := (ph_eq0 (p := p) (one_lt hp)).1 e
      omega
    simp only [ph_one]
    exact ⟨h1, by grind, by grind⟩
/-- The point is told. -/
theorem rep_pt (hp : Pr p) (hq : Prm p) {t : T3} {a : P3} (h : Rep p t a) (ha : On p a) : (pX p t, pY p t, pZ t) = a := by
  obtain ⟨X, Y, Z⟩ := a
  cases Z
  · obtain ⟨h1, h2, h3⟩ := h.nz rfl
    have hz : t.2.2 ≠ 0 := fun e => h1 ((ph_eq0 h.lt.z).2 e)
    have hi := ph_inv hq (by have := hp.lo; omega) h1
    unfold pX pY pZ
    rw [if_neg hz, if_neg hz, decide_eq_false hz]
    have e1 : tm p t.1 (tm p (pw p t.2.2 (p - 2)) (pw p t.2.2 (p - 2))) = X := by
      refine ph_inj (tm_lt hp) ha.lt.x ?_
      rw [ph_tm, ph_tm, h2]
      generalize ph p (pw p t.2.2 (p - 2)) = i at hi ⊢
      grind
    have e2 : tm p t.2.1 (tm p (tm p (pw p t.2.2 (p - 2)) (pw p t.2.2 (p - 2))) (pw p t.2.2 (p - 2))) = Y := by
      refine ph_inj (tm_lt hp) ha.lt.y ?_
      rw [ph_tm, ph_tm, ph_tm, h3]
      generalize ph p (pw p t.2.2 (p - 2)) = i at hi ⊢
      generalize ph p t.2.2 = z at *
      have : z * i * (z * i) * (z * i) = 1 := by rw [hi]; grind
      grind
    rw [e1, e2]
  · have hz := h.zr rfl
    unfold pX pY pZ
    rw [if_pos hz, if_pos hz, decide_eq_true hz]
    exact (ha.zr rfl).symm
end
end Rg
end Go.Proofs.Ytjmbgchoioepjaa
end
section
namespace Go.Proofs.Ytjmbgchoioepjaa
open Go.RowKit
namespace Rg
open NT
theorem dA_same {p : Nat} {a : P3} (hz : a.2.2 = false) (h : ¬ a = (a.1, mi p 0 a.2.1, a.2.2)) : dA p a a = (d3X p (sl1 p a.1 a.2.1) a.1 a.1, d3Y p (sl1 p a.1 a.2.1) a.1 a.1 a.2.1, false) := by
  unfold dA dS
  rw [if_neg (by rw [hz]; decide), if_neg (by rw [hz]; decide), if_neg h, if_pos rfl]
theorem dA_neg {p : Nat} {a b : P3} (hz : a.2.2 = false) (hy : b.2.2 = false) (h : a = (b.1, mi p 0 b.2.1, b.2.2)) : dA p a b = (0, 0, true) := by
  unfold dA
  rw [if_neg (by rw [hz]; decide), if_neg (by rw [hy]; decide), if_pos h]
theorem dA_else {p : Nat} {a b : P3} (hz : a.2.2 = false) (hy : b.2.2 = false) (h : ¬ a = (b.1, mi p 0 b.2.1, b.2.2)) (hn : ¬ a = b) : dA p a b = (d3X p (sl2 p a.1 a.2.1 b.1 b.2.1) a.1 b.1, d3Y p (sl2 p a.1 a.2.1 b.1 b.2.1) a.1 b.1 a.2.1, false) := by
  unfold dA dS
  rw [if_neg (by rw [hz]; decide), if_neg (by rw [hy]; decide), if_neg h, if_neg hn]
section
variable {p : Nat} [NeZero p]
theorem ph_mi0 (b : Nat) (hb : b < p) : ph p (mi p 0 b) = - ph p b := by
  rw [ph_mi 0 b hb, ph_zero]
  grind
/-- What a sum is, in the field. -/
theorem sum_on (x1 y1 x2 y2 m x3 : Fin p) (c1 : y1 * y1 = x1 * x1 * x1 + x1) (hm : m * (x2 - x1) = y2 - y1) (c2 : y2 * y2 = x2 * x2 * x2 + x2) (hne : x2 - x1 ≠ 0) (hq : Prm p) (h3 : x3 = m * m - x1 - x2) : (m * (x1 - x3) - y1) * (m * (x1 - x3) - y1) = x3 * x3 * x3 + x3 := by
  refine fp_cancel hq hne ?_
  have e : y2 = y1 + m * (x2 - x1) := by grind
  subst e h3
  grind
theorem twice_on (x1 y1 m x3 : Fin p) (c1 : y1 * y1 = x1 * x1 * x1 + x1) (hm : m * (y1 + y1) = 3 * (x1 * x1) + 1) (h3 : x3 = m * m - x1 - x1) : (m * (x1 - x3) - y1) * (m * (x1 - x3) - y1) = x3 * x3 * x3 + x3 := by
  subst h3
  grind
theorem on_zero' (hp : Pr p) : On p (0, 0, true) := ⟨⟨zero_lt hp, zero_lt hp⟩, fun _ => rfl, fun h => (by cases h)⟩
theorem ph_d3X {m x y : Nat} (hx : x < p) (hy : y < p) : ph p (d3X p m x y) = ph p m * ph p m - ph p x - ph p y := by
  unfold d3X
  rw [ph_mi _ _ hy, ph_mi _ _ hx, ph_tm]
theorem ph_d3Y (hp : Pr p) {m x x' y : Nat} (hy : y < p) : ph p (d3Y p m x x' y) = ph p m * (ph p x - ph p (d3X p m x x')) - ph p y := by
  unfold d3Y
  rw [ph_mi _ _ hy, ph_tm, ph_mi _ (d3X p m x x') (mi_lt hp)]
theorem neg_of (hp : Pr p) {a : P3} (ha : On p a) (h : ph p a.2.1 + ph p a.2.1 = 0) : a = (a.1, mi p 0 a.2.1, a.2.2) := by
  have e : a.2.1 = mi p 0 a.2.1 := by
    refine ph_inj ha.lt.y (mi_lt hp) ?_
    rw [ph_mi0 _ ha.lt.y]
    grind
  rw [← e]
/-- A point and itself. -/
theorem tw_rep (hp : Pr p) (hq : Prm p) {t : T3} {a : P3} (h : Rep p t a) (ha : On p a) : Rep p (twT p t) (dA p a a) ∧ On p (dA p a a) := by
  have hl := tw_lt hp t
  by_cases hz : a.2.2 = true
  · have e : dA p a a = a := by unfold dA; rw [if_pos hz]
    rw [e]
    refine ⟨⟨hl, fun _ => ?_, fun h' => (by rw [hz] at h'; cases h')⟩, ha⟩
    have h0 := h.zr hz
    unfold twT
    simp only [h0]
    unfold tm
    simp
  · have hz : a.2.2 = false := by simpa using hz
    obtain ⟨h1, h2, h3⟩ := h.nz hz
    have hc := ha.cv hz
    by_cases hn : a = (a.1, mi p 0 a.2.1, a.2.2)
    · rw [dA_neg hz hz hn]
      have e : ph p a.2.1 + ph p a.2.1 = 0 := by
        have e : a.2.1 = mi p 0 a.2.1 := congrArg (fun q : P3 => q.2.1) hn
        have e2 := congrArg (ph p) e
        rw [ph_mi0 _ ha.lt.y] at e2
        generalize ph p a.2.1 = y at e2
        have : y + y = y + -y := by rw [← e2]
        grind
      refine ⟨⟨hl, fun _ => ?_, fun h' => (by cases h')⟩, on_zero' hp⟩
      refine (ph_eq0 hl.z).1 ?_
      unfold twT
      rw [ph_tm, ph_tm, h3, ph_2]
      grind
    · have hy : ph p (pl p a.2.1 a.2.1) ≠ 0 := fun e => hn (neg_of hp ha (by rw [ph_pl] at e; exact e))
      have hi := ph_inv hq (by have := hp.lo; omega) hy
      rw [ph_pl] at hy hi
      rw [dA_same hz hn]
      have em : ph p (sl1 p a.1 a.2.1) * (ph p a.2.1 + ph p a.2.1) = 3 * (ph p a.1 * ph p a.1) + 1 := by
        unfold sl1
        rw [ph_tm, ph_pl, ph_pl, ph_pl, ph_tm, ph_one]
        generalize ph p (pw p (pl p a.2.1 a.2.1) (p - 2)) = i at hi ⊢
        grind
      have eX := ph_d3X (m := sl1 p a.1 a.2.1) ha.lt.x ha.lt.x
      have eY := ph_d3Y hp (m := sl1 p a.1 a.2.1) (x := a.1) (x' := a.1) ha.lt.y
      rw [eX] at eY
      have eR : ph p (tR p t.1 t.2.2) = 3 * (ph p t.1 * ph p t.1) + ph p t.2.2 * ph p t.2.2 * (ph p t.2.2 * ph p t.2.2) := by
        unfold tR
        rw [ph_pl, ph_tm, ph_tm, ph_tm, ph_tm, ph_3]
      have eM : ph p (tM p t.1 t.2.1) = 4 * (ph p t.1 * (ph p t.2.1 * ph p t.2.1)) := by
        unfold tM
        rw [ph_tm, ph_tm, ph_tm, ph_4]
      have fZ : ph p (twT p t).2.2 = 2 * (ph p t.2.1 * ph p t.2.2) := by
        unfold twT
        rw [ph_tm, ph_tm, ph_2]
      have fX : ph p (twT p t).1 = ph p (tR p t.1 t.2.2) * ph p (tR p t.1 t.2.2) - (ph p (tM p t.1 t.2.1) + ph p (tM p t.1 t.2.1)) := by
        show ph p (tX p t.1 t.2.1 t.2.2) = _
        unfold tX
        rw [ph_mi _ _ (pl_lt hp), ph_tm, ph_pl]
      have fY : ph p (twT p t).2.1 = ph p (tR p t.1 t.2.2) * (ph p (tM p t.1 t.2.1) - ph p (twT p t).1) - 8 * (ph p t.2.1 * ph p t.2.1 * (ph p t.2.1 * ph p t.2.1)) := by
        show ph p (tY p t.1 t.2.1 t.2.2) = _
        unfold tY
        rw [ph_mi _ _ (tm_lt hp), ph_tm, ph_mi _ (tX p t.1 t.2.1 t.2.2) (mi_lt hp), ph_tm, ph_tm, ph_tm, ph_8]
        rfl
      rw [fX] at fY
      rw [eR, eM] at fX fY
      refine ⟨⟨hl, fun h' => (by cases h'), fun _ => ⟨?_, ?_, ?_⟩⟩, ⟨⟨mi_lt hp, mi_lt hp⟩, fun h' => (by cases h'), fun _ => ?_⟩⟩
      · rw [fZ, h3]
        have := fp_ne hq hy (fp_ne hq h1 (fp_ne hq h1 (fp_ne hq h1 h1)))
        intro e
        apply this
        grind
      · rw [fX, fZ, eX]
        generalize ph p (sl1 p a.1 a.2.1) = m at em ⊢
        generalize ph p t.1 = x at *
        generalize ph p t.2.1 = y at *
        generalize ph p t.2.2 = z at *
        generalize ph p a.1 = X at *
        generalize ph p a.2.1 = Y at *
        clear hi h fX fY fZ eX eY eR eM
        subst h2 h3
        grind
      · rw [fY, fZ, eY]
        generalize ph p (sl1 p a.1 a.2.1) = m at em ⊢
        generalize ph p t.1 = x at *
        generalize ph p t.2.1 = y at *
        generalize ph p t.2.2 = z at *
        generalize ph p a.1 = X at *
        generalize ph p a.2.1 = Y at *
        clear hi h fX fY fZ eX eY eR eM
        subst h2 h3
        grind
      · rw [eY, eX]
        exact twice_on _ _ _ _ hc em rfl
end
end Rg
end Go.Proofs.Ytjmbgchoioepjaa
end
section
namespace Go.Proofs.Ytjmbgchoioepjaa
open Go.RowKit
namespace Rg
open NT
section
variable {p : Nat} [NeZero p]
theorem ph_jU {t : T3} (ht : Lt3 p t) (X : Nat) : ph p (jU p t.1 t.2.2 X) = ph p X * (ph p t.2.2 * ph p t.2.2) - ph p t.1 := by
  unfold jU
  rw [ph_mi _ _ ht.x, ph_tm, ph_tm]
theorem ph_jS {t : T3} (ht : Lt3 p t) (Y : Nat) : ph p (jS p t.2.1 t.2.2 Y) = ph p Y * (ph p t.2.2 * (ph p t.2.2 * ph p t.2.2)) - ph p t.2.1 := by
  unfold jS
  rw [ph_mi _ _ ht.y, ph_tm, ph_tm, ph_tm]
theorem p3_eq {a b : P3} (h1 : a.1 = b.1) (h2 : a.2.1 = b.2.1) (h3 : a.2.2 = b.2.2) : a = b := by
  obtain ⟨x, y, z⟩ := a
  obtain ⟨x', y', z'⟩ := b
  simp only at h1 h2 h3
  rw [h1, h2, h3]
/-- A triple and a point. -/
theorem jn_rep (hp : Pr p) (hq : Prm p) {t : T3} {a b : P3} (h : Rep p t a) (ha : On p a) (hb : On p b) : Rep p (jnT p t b.1 b.2.1 b.2.2) (dA p a b) ∧ On p (dA p a b) := by
  have hl := jn_lt hp h.lt (Z := b.2.2) hb.lt.x hb.lt.y
  by_cases hy : b.2.2 = true
  · have e : dA p a b = a := by
      unfold dA
      by_cases hz : a.2.2 = true
      · rw [if_pos hz, hb.zr hy, ha.zr hz]
      · rw [if_neg hz, if_pos hy]
    rw [e, hy, jnT_z]
    exact ⟨h, ha⟩
  · have hy : b.2.2 = false := by simpa using hy
    by_cases hz : a.2.2 = true
    · have e : dA p a b = b := by unfold dA; rw [if_pos hz]
      rw [e, hy, jnT_0 (h.zr hz)]
      have := rep_tO hp hb
      unfold tO at this
      rw [if_neg (by rw [hy]; decide)] at this
      exact ⟨this, hb⟩
    · have hz : a.2.2 = false := by simpa using hz
      obtain ⟨h1, h2, h3⟩ := h.nz hz
      have hc := ha.cv hz
      have hd := hb.cv hy
      have hz0 : t.2.2 ≠ 0 := fun e => h1 ((ph_eq0 h.lt.z).2 e)
      have eU : ph p (jU p t.1 t.2.2 b.1) = (ph p b.1 - ph p a.1) * (ph p t.2.2 * ph p t.2.2) := by
        rw [ph_jU h.lt, h2]
        grind
      have eS : ph p (jS p t.2.1 t.2.2 b.2.1) = (ph p b.2.1 - ph p a.2.1) * (ph p t.2.2 * (ph p t.2.2 * ph p t.2.2)) := by
        rw [ph_jS h.lt, h3]
        grind
      have hzz := fp_ne hq h1 h1
      have hzzz := fp_ne hq h1 hzz
      have xx : ∀ {u v : Nat}, u < p → v < p → ph p u - ph p v = 0 → u = v := fun hu hv e => ph_inj hu hv (by grind)
      by_cases hs : jU p t.1 t.2.2 b.1 = 0 ∧ jS p t.2.1 t.2.2 b.2.1 = 0
      · have e1 : b.1 = a.1 := by
          refine xx hb.lt.x ha.lt.x ?_
          rw [hs.1, ph_zero] at eU
          exact (fp_mul hq eU.symm).resolve_right hzz
        have e2 : b.2.1 = a.2.1 := by
          refine xx hb.lt.y ha.lt.y ?_
          rw [hs.2, ph_zero] at eS
          exact (fp_mul hq eS.symm).resolve_right hzzz
        have e : b = a := p3_eq e1 e2 (by rw [hy, hz])
        rw [hy, jnT_s hz0 hs, e]
        exact tw_rep hp hq h ha
      · rw [hy, jnT_g hz0 hs]
        rw [hy, jnT_g hz0 hs] at hl
        have hne : ¬ a = b := fun e => hs ⟨(ph_eq0 (mi_lt hp)).1 (by
          show ph p (jU p t.1 t.2.2 b.1) = 0
          rw [eU, e]; grind), (ph_eq0 (mi_lt hp)).1 (by
          show ph p (jS p t.2.1 t.2.2 b.2.1) = 0
          rw [eS, e]; grind)⟩
        by_cases hn : a = (b.1, mi p 0 b.2.1, b.2.2)
        · rw [dA_neg hz hy hn]
          have e1 : a.1 = b.1 := by
            have e2 := congrArg (fun q : P3 => q.1) hn
            exact e2
          refine ⟨⟨hl, fun _ => (ph_eq0 hl.z).1 ?_, fun h' => (by cases h')⟩, on_zero' hp⟩
          rw [ph_tm, eU, e1]
          grind
        · rw [dA_else hz hy hn hne]
          have hx : ph p b.1 - ph p a.1 ≠ 0 := fun e => by
            have e1 := xx hb.lt.x ha.lt.x e
            have e2 : (ph p b.2.1 - ph p a.2.1) * (ph p b.2.1 + ph p a.2.1) = 0 := by
              rw [e1] at hd
              grind
            rcases fp_mul hq e2 with e3 | e3
            · exact hne (p3_eq e1.symm (xx hb.lt.y ha.lt.y e3).symm (by rw [hy, hz]))
            · refine hn (p3_eq e1.symm (ph_inj ha.lt.y (mi_lt hp) ?_) (by show a.2.2 = b.2.2; rw [hy, hz]))
              rw [ph_mi0 _ hb.lt.y]
              grind
          have hmi : ph p (mi p b.1 a.1) ≠ 0 := by rw [ph_mi _ _ ha.lt.x]; exact hx
          have hi := ph_inv hq (by have := hp.lo; omega) hmi
          rw [ph_mi _ _ ha.lt.x] at hi
          have em : ph p (sl2 p a.1 a.2.1 b.1 b.2.1) * (ph p b.1 - ph p a.1) = ph p b.2.1 - ph p a.2.1 := by
            unfold sl2
            rw [ph_tm, ph_mi _ _ ha.lt.y]
            generalize ph p (pw p (mi p b.1 a.1) (p - 2)) = i at hi ⊢
            grind
          have eX := ph_d3X (m := sl2 p a.1 a.2.1 b.1 b.2.1) ha.lt.x hb.lt.x
          have eY := ph_d3Y hp (m := sl2 p a.1 a.2.1 b.1 b.2.1) (x := a.1) (x' := b.1) ha.lt.y
          rw [eX] at eY
          generalize jU p t.1 t.2.2 b.1 = u at hl eU ⊢
          generalize jS p t.2.1 t.2.2 b.2.1 = s at hl eS ⊢
          have fX : ph p (jX p t.1 u s) = ph p s * ph p s - ph p u * ph p u * ph p u - (ph p t.1 * (ph p u * ph p u) + ph p t.1 * (ph p u * ph p u)) := by
            unfold jX
            rw [ph_mi _ _ (pl_lt hp), ph_mi _ (jC p u) (tm_lt hp), ph_tm, ph_pl]
            unfold jC jM
            rw [ph_tm, ph_tm, ph_tm, ph_tm]
          have fY : ph p (jY p t.1 t.2.1 u s) = ph p s * (ph p t.1 * (ph p u * ph p u) - ph p (jX p t.1 u s)) - ph p t.2.1 * (ph p u * ph p u * ph p u) := by
            unfold jY
            rw [ph_mi _ _ (tm_lt hp), ph_tm, ph_mi _ (jX p t.1 u s) (mi_lt hp), ph_tm]
            unfold jC jM
            rw [ph_tm, ph_tm, ph_tm, ph_tm]
          rw [fX] at fY
          refine ⟨⟨hl, fun h' => (by cases h'), fun _ => ⟨?_, ?_, ?_⟩⟩, ⟨⟨mi_lt hp, mi_lt hp⟩, fun h' => (by cases h'), fun _ => ?_⟩⟩
          · rw [ph_tm, eU]
            exact fp_ne hq h1 (fp_ne hq hx hzz)
          · simp only
            rw [fX, ph_tm, eX, eU, eS]
            generalize ph p (sl2 p a.1 a.2.1 b.1 b.2.1) = m at em ⊢
            generalize ph p t.1 = x at *
            generalize ph p t.2.1 = y at *
            generalize ph p t.2.2 = z at *
            generalize ph p a.1 = X at *
            generalize ph p a.2.1 = Y at *
            generalize ph p b.1 = X' at *
            generalize ph p b.2.1 = Y' at *
            clear hi h fX fY eX eY eU eS xx
            have e : Y' = Y + m * (X' - X) := by grind
            subst h2 h3 e
            grind
          · simp only
            rw [fY, ph_tm, eY, eU, eS]
            generalize ph p (sl2 p a.1 a.2.1 b.1 b.2.1) = m at em ⊢
            generalize ph p t.1 = x at *
            generalize ph p t.2.1 = y at *
            generalize ph p t.2.2 = z at *
            generalize ph p a.1 = X at *
            generalize ph p a.2.1 = Y at *
            generalize ph p b.1 = X' at *
            generalize ph p b.2.1 = Y' at *
            clear hi h fX fY eX eY eU eS xx
            have e : Y' = Y + m * (X' - X) := by grind
            subst h2 h3 e
            grind
          · simp only
            rw [eY, eX]
            exact sum_on _ _ _ _ _ _ hc em hd hx hq rfl
theorem mtf_rep (hp : Pr p) (hq : Prm p) {a : P3} (ha : On p a) : ∀ (f n : Nat), Rep p (mtf p a.1 a.2.1 a.2.2 f n) (dmf p a f n) ∧ On p (dmf p a f n)
  | 0, _ => ⟨⟨⟨zero_lt hp, zero_lt hp, zero_lt hp⟩, fun _ => rfl, fun h => (by cases h)⟩, on_zero' hp⟩
  | f + 1, n => by
    obtain ⟨h1, h2⟩ := mtf_rep hp hq ha f (n / 2)
    obtain ⟨h3, h4⟩ := tw_rep hp hq h1 h2
    rw [mtf, dmf]
    split
    · exact ⟨⟨⟨zero_lt hp, zero_lt hp, zero_lt hp⟩, fun _ => rfl, fun h => (by cases h)⟩, on_zero' hp⟩
    · split
      · exact jn_rep hp hq h3 h4 ha
      · exact ⟨h3, h4⟩
/-- A point multiplied is the document's. -/
theorem mt_is (hp : Pr p) (hq : Prm p) {X Y : Nat} {Z : Bool} (h : oc p X Y Z = true) (n : Nat) : (pX p (mt p X Y Z n), pY p (mt p X Y Z n), pZ (mt p X Y Z n)) = dM p (X, Y, Z) n := by
  obtain ⟨h1, h2⟩ := mtf_rep hp hq (on_of hp h) 64 n
  exact rep_pt hp hq h1 h2
theorem ig_is (hp : Pr p) (hq : Prm p) (r X Y : Nat) (Z : Bool) : ig p r X Y Z = di p r X Y Z := by
  unfold ig di
  cases h : oc p X Y Z
  · rfl
  · have e := mt_is hp hq h r
    rw [← e]
    rfl
end
end Rg
end Go.Proofs.Ytjmbgchoioepjaa
end
section
namespace Go.Proofs.Ytjmbgchoioepjaa
open Go.RowKit
namespace Rg
open NT
/-- A suite of which the document knows the same, and whose p is a prime. -/
structure Kq (s : Int) (p r c gx gy : Nat) : Prop where
  k : Kd s p r c gx gy
  prm : Prm p
  of : ∀ w, Calls Try.prog 10 #[.int .i64 s] w fun e w' => e = .returned (.tuple #[V (kd p r c gx gy), .bool true]) ∧ Below w.heap.size w w'
theorem kq_1 : Kq 1 786251 65521 12 9723 164643 := ⟨kd_1, prm_786251, Of_1⟩
theorem kq_2 : Kq 2 1152921504606846223 72057594037927889 16 613740293506734924 666621259561003659 := ⟨kd_2, prm_1152921504606846223, Of_2⟩
theorem Kq.ne {s : Int} {p r c gx gy : Nat} (k : Kq s p r c gx gy) : NeZero p := ⟨Nat.ne_of_gt (zero_lt k.k.pr)⟩
theorem call16 : ∀ args w, (callFunc 16 args).run Try.prog w = .ok (.enter 16 args) w := by intro args w; go_simp
theorem call19 : ∀ args w, (callFunc 19 args).run Try.prog w = .ok (.enter 19 args) w := by intro args w; go_simp
theorem call20 : ∀ args w, (callFunc 20 args).run Try.prog w = .ok (.enter 20 args) w := by intro args w; go_simp
section
variable {s : Int} {p r c gx gy : Nat}
theorem Clear_dc (k : Kq s p r c gx gy) (X Y : Nat) (Z : Bool) (h1 : oc p X Y Z = true) (w : World) : Calls Try.prog 16 #[.int .i64 s, .agg (pt X Y Z).toArray] w fun e w' => e = .returned (.tuple #[V (pc (dM p (X, Y, Z) c)), .int .i64 0]) ∧ Below w.heap.size w w' := by
  have := k.ne
  rw [← mt_is k.k.pr k.prm h1 c]
  exact Clear_ok k.k X Y Z h1 w
theorem Check_is (k : Kq s p r c gx gy) (X Y : Nat) (Z : Bool) (t : Bool) (h : oc p X Y Z = t) (w : World) : Calls Try.prog 19 #[.int .i64 s, .agg (pt X Y Z).toArray] w fun e w' => e = .returned (.bool t) ∧ Below w.heap.size w w' := by
  rw [← h]
  exact Check_ok k.k X Y Z w
end
end Rg
end Go.Proofs.Ytjmbgchoioepjaa
end
section
namespace Go.Proofs.Ytjmbgchoioepjaa
open Go.RowKit
namespace Rg
open NT
section
variable {p : Nat} [NeZero p]
/-- What makes 1 with a number that is not 0. -/
def iv (x : Fin p) : Fin p := ph p (pw p x.val (p - 2))
theorem ph_self (x : Fin p) : ph p x.val = x := Fin.ext (Nat.mod_eq_of_lt x.isLt)
theorem iv_spec (hp : Pr p) (hq : Prm p) {x : Fin p} (h : x ≠ 0) : x * iv x = 1 := by
  have e := ph_inv (a := x.val) hq (by have := hp.lo; omega) (by rw [ph_self]; exact h)
  rw [ph_self] at e
  exact e
/-- A field in which -1 is no square. -/
structure Fd (p : Nat) [NeZero p] : Prop where
  pr : Pr p
  prm : Prm p
  three : p % 4 = 3
theorem Fd.two (F : Fd p) : (2 : Fin p) ≠ 0 := fun e => by
  have h := congrArg Fin.val e
  have h2 : (2 : Fin p).val = 2 % p := rfl
  have h3 := F.pr.lo
  rw [h2, Nat.mod_eq_of_lt (by omega), show (0 : Fin p).val = 0 from Nat.zero_mod p] at h
  omega
theorem Fd.nosq (F : Fd p) (z : Fin p) : z * z ≠ -1 := fun e => by
  have h3 := F.three
  have hlo := F.pr.lo
  obtain ⟨k, hk⟩ : ∃ k, p = 4 * k + 3 := ⟨p / 4, by omega⟩
  have hz : z ≠ 0 := fun h => by
    rw [h] at e
    have : (1 : Fin p) = 0 := by grind
    have := congrArg Fin.val this
    have h2 : (1 : Fin p).val = 1 % p := rfl
    rw [h2, Nat.mod_eq_of_lt (by omega), show (0 : Fin p).val = 0 from Nat.zero_mod p] at this
    omega
  have e1 : (z.val * z.val + 1) % p = 0 := by
    have : z * z + 1 = 0 := by grind
    have h := congrArg Fin.val this
    rw [Fin.val_add, Fin.val_mul, Nat.mod_add_mod] at h
    rw [show (0 : Fin p).val = 0 from Nat.zero_mod p, show (1 : Fin p).val = 1 % p from rfl, Nat.add_mod_mod] at h
    exact h
  have e2 := even_pow e1 k
  have e3 := fermat1 F.prm z.val (fun hd => hz (Fin.ext (Nat.eq_zero_of_dvd_of_lt hd z.isLt)))
  rw [Nat.one_pow, Nat.mod_eq_of_lt (by omega : 1 < p)] at e2
  have e4 : z.val ^ (p - 1) % p = z.val * z.val % p := by
    have : z.val ^ (p - 1) = (z.val * z.val) ^ (2 * k) * (z.val * z.val) := by
      rw [← Nat.pow_succ, ← Nat.pow_two, ← Nat.pow_mul]
      congr 1
      omega
    rw [this, Nat.mul_mod, e2, Nat.one_mul, Nat.mod_mod]
  rw [e4] at e3
  rw [Nat.add_mod, e3, Nat.mod_eq_of_lt (by omega : 1 < p), Nat.mod_eq_of_lt (by omega)] at e1
  omega
theorem Fd.sum0 (F : Fd p) {a b : Fin p} (h : a * a + b * b = 0) : b = 0 := by
  by_cases hb : b = 0
  · exact hb
  · have hi := iv_spec F.pr F.prm hb
    refine absurd ?_ (F.nosq (a * iv b))
    generalize iv b = i at hi ⊢
    have : b * i * (b * i) = 1 := by rw [hi]; grind
    grind
/-- A point of it. -/
def Ec (a : Fin p × Fin p) : Prop := a.1 * a.1 + a.2 * a.2 + a.1 * a.1 * (a.2 * a.2) = 1
def ed (a b : Fin p × Fin p) : Fin p := a.1 * b.1 * (a.2 * b.2)
def eadd (a b : Fin p × Fin p) : Fin p × Fin p := ((a.1 * b.2 + a.2 * b.1) * iv (1 - ed a b), (a.2 * b.2 - a.1 * b.1) * iv (1 + ed a b))
theorem ed_sq (F : Fd p) {a b : Fin p × Fin p} (ha : Ec a) (hb : Ec b) : ed a b * ed a b ≠ 1 := by
  obtain ⟨x, y⟩ := a
  obtain ⟨u, v⟩ := b
  unfold Ec at ha hb
  unfold ed
  simp only at ha hb ⊢
  intro e
  have key : ∀ f : Fin p, f * f = 1 → x * y * (u + f * v) = 0 := fun f hf => by
    refine F.sum0 (a := x - f * (x * u * (y * v)) * y) ?_
    grind
  have h1 := key 1 (by grind)
  have h2 := key (-1) (by grind)
  have h3 : x * y ≠ 0 := fun h => by
    have : (0 : Fin p) = 1 := by
      rw [← e]
      have : x * u * (y * v) = 0 := by
        have : x * u * (y * v) = x * y * (u * v) := by grind
        rw [this, h]
        grind
      rw [this]
      grind
    exact F.two (by grind)
  have h4 := (fp_mul F.prm h1).resolve_left h3
  have h5 := (fp_mul F.prm h2).resolve_left h3
  have h6 : (2 : Fin p) * u = 0 := by grind
  have h7 := (fp_mul F.prm h6).resolve_left F.two
  rw [h7] at e
  exact F.two (by grind)
theorem ed_p (F : Fd p) {a b : Fin p × Fin p} (ha : Ec a) (hb : Ec b) : (1 + ed a b) * iv (1 + ed a b) = 1 := iv_spec F.pr F.prm (fun h => ed_sq F ha hb (by grind))
theorem ed_m (F : Fd p) {a b : Fin p × Fin p} (ha : Ec a) (hb : Ec b) : (1 - ed a b) * iv (1 - ed a b) = 1 := iv_spec F.pr F.prm (fun h => ed_sq F ha hb (by grind))
theorem eadd_comm (a b : Fin p × Fin p) : eadd a b = eadd b a := by
  unfold eadd
  have e : ed a b = ed b a := by unfold ed; grind
  rw [e, show a.1 * b.2 + a.2 * b.1 = b.1 * a.2 + b.2 * a.1 by grind, show a.2 * b.2 - a.1 * b.1 = b.2 * a.2 - b.1 * a.1 by grind]
theorem eadd_on (F : Fd p) {a b : Fin p × Fin p} (ha : Ec a) (hb : Ec b) : Ec (eadd a b) := by
  have h1 := ed_p F ha hb
  have h2 := ed_m F ha hb
  unfold eadd
  unfold Ec at ha hb ⊢
  simp only
  generalize iv (1 + ed a b) = i at *
  generalize iv (1 - ed a b) = j at *
  unfold ed at h1 h2
  obtain ⟨x, y⟩ := a
  obtain ⟨u, v⟩ := b
  simp only at *
  have hn : (x * v + y * u) * (x * v + y * u) * ((1 + x * u * (y * v)) * (1 + x * u * (y * v))) + (y * v - x * u) * (y * v - x * u) * ((1 - x * u * (y * v)) * (1 - x * u * (y * v))) + (x * v + y * u) * (x * v + y * u) * ((y * v - x * u) * (y * v - x * u)) = (1 + x * u * (y * v)) * (1 + x * u * (y * v)) * ((1 - x * u * (y * v)) * (1 - x * u * (y * v))) := by grind
  generalize hA : x * v + y * u = A at *
  generalize hB : y * v - x * u = B at *
  generalize hD : 1 + x * u * (y * v) = D at *
  generalize hE : 1 - x * u * (y * v) = E at *
  clear hA hB hD hE ha hb
  have q1 : D * i * (D * i) = 1 := by rw [h1]; grind
  have q2 : E * j * (E * j) = 1 := by rw [h2]; grind
  have : (A * A * (D * D) + B * B * (E * E) + A * A * (B * B)) * (i * i * (j * j)) = D * D * (E * E) * (i * i * (j * j)) := by rw [hn]
  grind
theorem eadd_zero (hp : Pr p) (hq : Prm p) (a : Fin p × Fin p) : eadd a (0, 1) = a := by
  have h1 : iv (1 : Fin p) = 1 := by
    have h : (1 : Fin p) ≠ 0 := fun e => by
      have := (ph_eq0 (p := p) (one_lt hp)).1 e
      omega
    have := iv_spec hp hq h
    grind
  unfold eadd ed
  simp only
  rw [show (1 : Fin p) - a.1 * 0 * (a.2 * 1) = 1 by grind, show (1 : Fin p) + a.1 * 0 * (a.2 * 1) = 1 by grind, h1]
  exact Prod.ext (by simp only; grind) (by simp only; grind)
theorem eadd_neg (F : Fd p) {a : Fin p × Fin p} (ha : Ec a) : eadd a (-a.1, a.2) = (0, 1) := by
  have hb : Ec (-a.1, a.2) := by unfold Ec at ha ⊢; simp only; grind
  have h1 := ed_p F ha hb
  unfold eadd
  have hN : a.2 * a.2 - a.1 * -a.1 = 1 + ed a (-a.1, a.2) := by
    unfold Ec at ha
    unfold ed
    simp only
    grind
  simp only
  rw [hN, h1]
  exact Prod.ext (by simp only; grind) rfl
end
end Rg
end Go.Proofs.Ytjmbgchoioepjaa
end
section
namespace Go.Proofs.Ytjmbgchoioepjaa
open Go.RowKit
namespace Rg
open NT
section
variable {p : Nat} [NeZero p]
theorem assoc_poly (a b c d e f : Fin p) (h1 : a * a + b * b + a * a * (b * b) = 1) (h2 : c * c + d * d + c * c * (d * d) = 1) (h3 : e * e + f * f + e * e * (f * f) = 1) :
    ((a * d + b * c) * (1 + a * c * (b * d)) * f + (b * d - a * c) * (1 - a * c * (b * d)) * e) * ((1 - c * e * (d * f)) * (1 + c * e * (d * f)) - a * b * ((c * f + d * e) * (d * f - c * e)))
    = (a * ((d * f - c * e) * (1 - c * e * (d * f))) + b * ((c * f + d * e) * (1 + c * e * (d * f)))) * ((1 - a * c * (b * d)) * (1 + a * c * (b * d)) - (a * d + b * c) * (b * d - a * c) * (e * f)) := by
  grind
theorem assoc_poly2 (a b c d e f : Fin p) (h1 : a * a + b * b + a * a * (b * b) = 1) (h2 : c * c + d * d + c * c * (d * d) = 1) (h3 : e * e + f * f + e * e * (f * f) = 1) :
    ((b * d - a * c) * (1 - a * c * (b * d)) * f - (a * d + b * c) * (1 + a * c * (b * d)) * e) * ((1 - c * e * (d * f)) * (1 + c * e * (d * f)) + a * b * ((c * f + d * e) * (d * f - c * e)))
    = (b * ((d * f - c * e) * (1 - c * e * (d * f))) - a * ((c * f + d * e) * (1 + c * e * (d * f)))) * ((1 - a * c * (b * d)) * (1 + a * c * (b * d)) + (a * d + b * c) * (b * d - a * c) * (e * f)) := by
  grind
theorem fr1 {A B D E i j : Fin p} (s t : Fin p) (hE : E * i = 1) (hD : D * j = 1) : A * i * t + B * j * s = (A * D * t + B * E * s) * (i * j) := by grind
theorem fr2 {A B D E i j : Fin p} (s t : Fin p) (hE : E * i = 1) (hD : D * j = 1) : 1 - A * i * s * (B * j * t) = (E * D - A * B * (s * t)) * (i * j) := by grind
theorem fr3 {A B D E i j : Fin p} (x y : Fin p) (hE : E * i = 1) (hD : D * j = 1) : x * (B * j) + y * (A * i) = (x * (B * E) + y * (A * D)) * (i * j) := by grind
theorem fr4 {A B D E i j : Fin p} (x y : Fin p) (hE : E * i = 1) (hD : D * j = 1) : 1 - x * (A * i) * (y * (B * j)) = (E * D - x * y * (A * B)) * (i * j) := by grind
theorem fr5 {A B D E i j : Fin p} (s t : Fin p) (hE : E * i = 1) (hD : D * j = 1) : B * j * t - A * i * s = (B * E * t - A * D * s) * (i * j) := by grind
theorem fr6 {A B D E i j : Fin p} (s t : Fin p) (hE : E * i = 1) (hD : D * j = 1) : 1 + A * i * s * (B * j * t) = (E * D + A * B * (s * t)) * (i * j) := by grind
theorem fr7 {A B D E i j : Fin p} (x y : Fin p) (hE : E * i = 1) (hD : D * j = 1) : y * (B * j) - x * (A * i) = (y * (B * E) - x * (A * D)) * (i * j) := by grind
theorem fr8 {A B D E i j : Fin p} (x y : Fin p) (hE : E * i = 1) (hD : D * j = 1) : 1 + x * (A * i) * (y * (B * j)) = (E * D + x * y * (A * B)) * (i * j) := by grind
theorem fr9 {N M N' M' : Fin p} (k k' : Fin p) (h : N * M' = N' * M) : N * k * (M' * k') = N' * k' * (M * k) := by grind
theorem cross {n m n' m' i i' : Fin p} (h : m * i = 1) (h' : m' * i' = 1) (e : n * m' = n' * m) : n * i = n' * i' := by
  have : n * i = n * (m' * i') * i := by rw [h']; grind
  rw [this]
  have : n' * i' = n' * (m * i) * i' := by rw [h]; grind
  rw [this]
  grind
theorem eadd_assoc (F : Fd p) {a b c : Fin p × Fin p} (ha : Ec a) (hb : Ec b) (hc : Ec c) : eadd (eadd a b) c = eadd a (eadd b c) := by
  have hab := eadd_on F ha hb
  have hbc := eadd_on F hb hc
  have m1 := ed_m F hab hc
  have m2 := ed_p F hab hc
  have m3 := ed_m F ha hbc
  have m4 := ed_p F ha hbc
  have d1 := ed_m F ha hb
  have d2 := ed_p F ha hb
  have d3 := ed_m F hb hc
  have d4 := ed_p F hb hc
  clear hab hbc
  unfold eadd
  unfold eadd at m1 m2 m3 m4
  generalize hi1 : iv (1 - ed a b) = i1 at *
  generalize hi2 : iv (1 + ed a b) = i2 at *
  generalize hi3 : iv (1 - ed b c) = i3 at *
  generalize hi4 : iv (1 + ed b c) = i4 at *
  generalize iv (1 - ed ((a.1 * b.2 + a.2 * b.1) * i1, (a.2 * b.2 - a.1 * b.1) * i2) c) = k1 at *
  generalize iv (1 + ed ((a.1 * b.2 + a.2 * b.1) * i1, (a.2 * b.2 - a.1 * b.1) * i2) c) = k2 at *
  generalize iv (1 - ed a ((b.1 * c.2 + b.2 * c.1) * i3, (b.2 * c.2 - b.1 * c.1) * i4)) = k3 at *
  generalize iv (1 + ed a ((b.1 * c.2 + b.2 * c.1) * i3, (b.2 * c.2 - b.1 * c.1) * i4)) = k4 at *
  clear hi1 hi2 hi3 hi4
  obtain ⟨x, y⟩ := a
  obtain ⟨u, v⟩ := b
  obtain ⟨s, t⟩ := c
  unfold Ec at ha hb hc
  unfold ed at *
  simp only at *
  have p1 := assoc_poly x y u v s t ha hb hc
  have p2 := assoc_poly2 x y u v s t ha hb hc
  clear ha hb hc
  generalize hE : 1 - x * u * (y * v) = E at *
  generalize hD : 1 + x * u * (y * v) = D at *
  generalize hE' : 1 - u * s * (v * t) = E' at *
  generalize hD' : 1 + u * s * (v * t) = D' at *
  generalize hA : x * v + y * u = A at *
  generalize hB : y * v - x * u = B at *
  generalize hA' : u * t + v * s = A' at *
  generalize hB' : v * t - u * s = B' at *
  clear hA hB hA' hB' hD hE hD' hE'
  refine Prod.ext ?_ ?_
  · refine cross m1 m3 ?_
    rw [fr1 s t d1 d2, fr2 s t d1 d2, fr3 x y d3 d4, fr4 x y d3 d4]
    exact fr9 _ _ p1
  · refine cross m2 m4 ?_
    rw [fr5 s t d1 d2, fr6 s t d1 d2, fr7 x y d3 d4, fr8 x y d3 d4]
    exact fr9 _ _ p2
end
end Rg
end Go.Proofs.Ytjmbgchoioepjaa
end
section
namespace Go.Proofs.Ytjmbgchoioepjaa
open Go.RowKit
namespace Rg
open NT
section
variable {p : Nat} [NeZero p]
/-- Numbers that carry y y = x x x + x over. -/
structure Al (p : Nat) [NeZero p] (al ep : Fin p) : Prop where
  fd : Fd p
  one : ep * ep = 1
  two : al * al = 2 * ep
theorem al_ex (F : Fd p) : ∃ al ep, Al p al ep := by
  have h3 := F.three
  have hlo := F.pr.lo
  obtain ⟨j, hj⟩ : ∃ j, p + 1 = 4 * (j + 1) := ⟨(p - 3) / 4, by omega⟩
  have hd : ¬ p ∣ 2 := fun h => by have := Nat.le_of_dvd (by decide) h; omega
  have e2 : 2 ^ (2 * j + 2) = 2 ^ (j + 1) * 2 ^ (j + 1) := by rw [← Nat.pow_add]; congr 1; omega
  rcases half_pow F.prm hj hd with h | h
  · refine ⟨ph p (2 ^ (j + 1)), 1, F, by grind, ?_⟩
    apply Fin.ext
    rw [Fin.val_mul, ph_val, ← Nat.mul_mod, ← e2, h]
    rw [show (2 : Fin p) * 1 = 2 by grind]
    rfl
  · refine ⟨ph p (2 ^ (j + 1)), -1, F, by grind, ?_⟩
    have : ph p (2 ^ (j + 1)) * ph p (2 ^ (j + 1)) + 2 = 0 := by
      apply Fin.ext
      rw [Fin.val_add, Fin.val_mul, ph_val, ← Nat.mul_mod, ← e2, show (2 : Fin p).val = 2 % p from rfl, ← Nat.add_mod, h]
      exact (Nat.zero_mod p).symm
    grind
section
variable {al ep : Fin p}
theorem Al.ep0 (A : Al p al ep) : ep ≠ 0 := fun e => A.fd.two (by have := A.one; grind)
theorem Al.s0 (A : Al p al ep) (u : Fin p) : u * u + 1 ≠ 0 := fun e => A.fd.nosq u (by grind)
theorem Al.w0 (A : Al p al ep) {u v : Fin p} (h : v * v = u * u * u + u) : u + ep ≠ 0 := fun e => by
  have e1 : u = -ep := by grind
  have h1 := A.one
  have h2 := A.two
  have : v * v + al * al = 0 := by
    rw [h, h2, e1]
    grind
  have h0 := A.fd.sum0 this
  rw [h0] at h2
  exact A.ep0 ((fp_mul A.fd.prm (show (2 : Fin p) * ep = 0 by grind)).resolve_left A.fd.two)
/-- The point on the other curve. -/
def fi (al ep u v : Fin p) : Fin p × Fin p := (al * v * iv (u * u + 1), (u - ep) * iv (u + ep))
theorem fi_on (A : Al p al ep) {u v : Fin p} (h : v * v = u * u * u + u) : Ec (fi al ep u v) := by
  have h1 := iv_spec A.fd.pr A.fd.prm (A.s0 u)
  have h2 := iv_spec A.fd.pr A.fd.prm (A.w0 h)
  have h3 := A.one
  have h4 := A.two
  unfold Ec fi
  simp only
  generalize iv (u * u + 1) = i at *
  generalize iv (u + ep) = j at *
  have e1 : al * v * i * (al * v * i) = 2 * ep * u * i := by
    have : al * v * i * (al * v * i) = al * al * (v * v) * (i * i) := by grind
    rw [this, h4, h]
    grind
  have e2 : (u - ep) * j * ((u - ep) * j) = (u * u + 1 - 2 * ep * u) * (j * j) := by grind
  have e3 : (u * u + 1 + 2 * ep * u) * (j * j) = 1 := by
    have : (u * u + 1 + 2 * ep * u) = (u + ep) * (u + ep) := by grind
    rw [this]
    have : (u + ep) * (u + ep) * (j * j) = (u + ep) * j * ((u + ep) * j) := by grind
    rw [this, h2]
    grind
  rw [e1, e2]
  grind
/-- A sum with the slope m. -/
theorem slope_y (u v m w ep : Fin p) (c : v * v = u * u * u + u) (r : 2 * v * m + m * m * (w - u) = u * u + u * w + w * w + 1) (h : ep * ep = 1) :
    (m * m - u - w - ep) * ((u * u + 1) * (w * w + 1) * ((u + ep) * (w + ep)) + 2 * ep * (v * (v + m * (w - u))) * ((u - ep) * (w - ep)))
    = (m * m - u - w + ep) * ((u - ep) * (w - ep) * ((u * u + 1) * (w * w + 1)) - 2 * ep * (v * (v + m * (w - u))) * ((u + ep) * (w + ep))) := by
  grind
theorem slope_x (u v m w x ep : Fin p) (c : v * v = u * u * u + u) (r : 2 * v * m + m * m * (w - u) = u * u + u * w + w * w + 1) (h : ep * ep = 1) (hx : x = m * m - u - w) :
    (m * (u - x) - v) * ((u * u + 1) * (w * w + 1) * ((u + ep) * (w + ep)) - 2 * ep * (v * (v + m * (w - u))) * ((u - ep) * (w - ep)))
    = (x * x + 1) * (v * (w * w + 1) * ((u + ep) * (w - ep)) + (v + m * (w - u)) * (u * u + 1) * ((w + ep) * (u - ep))) := by
  subst hx
  grind -lia (ringSteps := 100000)
theorem curve2 (u v m w : Fin p) (c : v * v = u * u * u + u) (r : 2 * v * m + m * m * (w - u) = u * u + u * w + w * w + 1) : (v + m * (w - u)) * (v + m * (w - u)) = w * w * w + w := by
  grind -lia (ringSteps := 100000)
theorem curve3 (u v m w x : Fin p) (c : v * v = u * u * u + u) (r : 2 * v * m + m * m * (w - u) = u * u + u * w + w * w + 1) (hx : x = m * m - u - w) : (m * (u - x) - v) * (m * (u - x) - v) = x * x * x + x := by
  subst hx
  grind -lia (ringSteps := 100000)
theorem fa1 {al ep a b c d s1 s2 w1 w2 i1 i2 j1 j2 : Fin p} (h : al * al = 2 * ep) (e1 : s1 * i1 = 1) (e2 : s2 * i2 = 1) (e3 : w1 * j1 = 1) (e4 : w2 * j2 = 1) : 1 - al * a * i1 * (al * b * i2) * (c * j1 * (d * j2)) = (s1 * s2 * (w1 * w2) - 2 * ep * (a * b) * (c * d)) * (i1 * i2 * (j1 * j2)) := by
  have q : s1 * i1 * (s2 * i2) * (w1 * j1 * (w2 * j2)) = 1 := by rw [e1, e2, e3, e4]; grind
  have q2 : al * a * i1 * (al * b * i2) = al * al * (a * b * i1 * i2) := by grind
  rw [q2, h]
  clear h q2 e1 e2 e3 e4
  grind
theorem fa2 {al ep a b c d s1 s2 w1 w2 i1 i2 j1 j2 : Fin p} (h : al * al = 2 * ep) (e1 : s1 * i1 = 1) (e2 : s2 * i2 = 1) (e3 : w1 * j1 = 1) (e4 : w2 * j2 = 1) : 1 + al * a * i1 * (al * b * i2) * (c * j1 * (d * j2)) = (s1 * s2 * (w1 * w2) + 2 * ep * (a * b) * (c * d)) * (i1 * i2 * (j1 * j2)) := by
  have q : s1 * i1 * (s2 * i2) * (w1 * j1 * (w2 * j2)) = 1 := by rw [e1, e2, e3, e4]; grind
  have q2 : al * a * i1 * (al * b * i2) = al * al * (a * b * i1 * i2) := by grind
  rw [q2, h]
  clear h q2 e1 e2 e3 e4
  grind
theorem fa3 {al a b c d s1 s2 w1 w2 i1 i2 j1 j2 : Fin p} (e1 : s1 * i1 = 1) (e2 : s2 * i2 = 1) (e3 : w1 * j1 = 1) (e4 : w2 * j2 = 1) : al * a * i1 * (d * j2) + c * j1 * (al * b * i2) = al * (a * s2 * (w1 * d) + b * s1 * (w2 * c)) * (i1 * i2 * (j1 * j2)) := by
  have q1 : al * (a * s2 * (w1 * d) + b * s1 * (w2 * c)) * (i1 * i2 * (j1 * j2)) = al * a * i1 * (d * j2) * (s2 * i2 * (w1 * j1)) + c * j1 * (al * b * i2) * (s1 * i1 * (w2 * j2)) := by grind
  rw [q1, e1, e2, e3, e4]
  grind
theorem fa4 {al ep a b c d s1 s2 w1 w2 i1 i2 j1 j2 : Fin p} (h : al * al = 2 * ep) (e1 : s1 * i1 = 1) (e2 : s2 * i2 = 1) (e3 : w1 * j1 = 1) (e4 : w2 * j2 = 1) : c * j1 * (d * j2) - al * a * i1 * (al * b * i2) = (c * d * (s1 * s2) - 2 * ep * (a * b) * (w1 * w2)) * (i1 * i2 * (j1 * j2)) := by
  have q1 : (c * d * (s1 * s2) - 2 * ep * (a * b) * (w1 * w2)) * (i1 * i2 * (j1 * j2)) = c * j1 * (d * j2) * (s1 * i1 * (s2 * i2)) - 2 * ep * (a * i1 * (b * i2)) * (w1 * j1 * (w2 * j2)) := by grind
  have q2 : al * a * i1 * (al * b * i2) = al * al * (a * b * i1 * i2) := by grind
  rw [q1, q2, h, e1, e2, e3, e4]
  grind
/-- To go over keeps sums. -/
theorem fi_add (A : Al p al ep) {u v m w z x y : Fin p} (c : v * v = u * u * u + u) (r : 2 * v * m + m * m * (w - u) = u * u + u * w + w * w + 1) (hz : z = v + m * (w - u)) (hx : x = m * m - u - w) (hy : y = m * (u - x) - v) : fi al ep x y = eadd (fi al ep u v) (fi al ep w z) := by
  have c2 : z * z = w * w * w + w := by rw [hz]; exact curve2 u v m w c r
  have c3 : y * y = x * x * x + x := by rw [hy]; exact curve3 u v m w x c r hx
  have k1 := ed_m A.fd (fi_on A c) (fi_on A c2)
  have k2 := ed_p A.fd (fi_on A c) (fi_on A c2)
  have e1 := iv_spec A.fd.pr A.fd.prm (A.s0 u)
  have e2 := iv_spec A.fd.pr A.fd.prm (A.s0 w)
  have e3 := iv_spec A.fd.pr A.fd.prm (A.w0 c)
  have e4 := iv_spec A.fd.pr A.fd.prm (A.w0 c2)
  have e5 := iv_spec A.fd.pr A.fd.prm (A.s0 x)
  have e6 := iv_spec A.fd.pr A.fd.prm (A.w0 c3)
  have sx := slope_x u v m w x ep c r A.one hx
  have sy := slope_y u v m w ep c r A.one
  rw [← hx] at sy
  rw [← hz] at sx sy
  rw [← hy] at sx
  have h2 := A.two
  unfold eadd
  generalize iv (1 - ed (fi al ep u v) (fi al ep w z)) = n1 at *
  generalize iv (1 + ed (fi al ep u v) (fi al ep w z)) = n2 at *
  unfold ed fi at *
  simp only at *
  generalize iv (u * u + 1) = i1 at *
  generalize iv (w * w + 1) = i2 at *
  generalize iv (x * x + 1) = i3 at *
  generalize iv (u + ep) = j1 at *
  generalize iv (w + ep) = j2 at *
  generalize iv (x + ep) = j3 at *
  refine Prod.ext ?_ ?_
  · refine cross e5 k1 ?_
    rw [fa1 h2 e1 e2 e3 e4, fa3 e1 e2 e3 e4]
    have := congrArg (fun q => al * (i1 * i2 * (j1 * j2)) * q) sx
    clear e1 e2 e3 e4 e5 e6 k1 k2 sx sy h2 c c2 c3 r hz hx hy
    grind -lia
  · refine cross e6 k2 ?_
    rw [fa2 h2 e1 e2 e3 e4, fa4 h2 e1 e2 e3 e4]
    have := congrArg (fun q => (i1 * i2 * (j1 * j2)) * q) sy
    clear e1 e2 e3 e4 e5 e6 k1 k2 sx sy h2 c c2 c3 r hz hx hy
    grind -lia
end
end
end Rg
end Go.Proofs.Ytjmbgchoioepjaa
end
section
namespace Go.Proofs.Ytjmbgchoioepjaa
open Go.RowKit
namespace Rg
open NT
theorem dA_zl {p : Nat} (b : P3) : dA p (0, 0, true) b = b := by unfold dA; rw [if_pos rfl]
section
variable {p : Nat} [NeZero p] {al ep : Fin p}
def gP (al ep : Fin p) (a : P3) : Fin p × Fin p := if a.2.2 = true then (0, 1) else fi al ep (ph p a.1) (ph p a.2.1)
theorem gP_z {a : P3} (h : a.2.2 = true) : gP al ep a = (0, 1) := if_pos h
theorem gP_f {a : P3} (h : a.2.2 = false) : gP al ep a = fi al ep (ph p a.1) (ph p a.2.1) := if_neg (by rw [h]; decide)
theorem gP_on (A : Al p al ep) {a : P3} (ha : On p a) : Ec (gP al ep a) := by
  by_cases h : a.2.2 = true
  · rw [gP_z h]
    unfold Ec
    simp only
    grind
  · have h : a.2.2 = false := by simpa using h
    rw [gP_f h]
    exact fi_on A (ha.cv h)
theorem eadd_zl (A : Al p al ep) (a : Fin p × Fin p) : eadd (0, 1) a = a := by rw [eadd_comm, eadd_zero A.fd.pr A.fd.prm]
/-- The slope of two points that are not each other's negated ones. -/
theorem slope_of (hp : Pr p) (hq : Prm p) {a b : P3} (ha : On p a) (hb : On p b) (hz : a.2.2 = false) (hy : b.2.2 = false) (hn : ¬ a = (b.1, mi p 0 b.2.1, b.2.2)) :
    dA p a b = (d3X p (dS p a b) a.1 b.1, d3Y p (dS p a b) a.1 b.1 a.2.1, false) ∧ ph p b.2.1 = ph p a.2.1 + ph p (dS p a b) * (ph p b.1 - ph p a.1) ∧
    2 * ph p a.2.1 * ph p (dS p a b) + ph p (dS p a b) * ph p (dS p a b) * (ph p b.1 - ph p a.1) = ph p a.1 * ph p a.1 + ph p a.1 * ph p b.1 + ph p b.1 * ph p b.1 + 1 := by
  have hc := ha.cv hz
  have hd := hb.cv hy
  refine ⟨by unfold dA; rw [if_neg (by rw [hz]; decide), if_neg (by rw [hy]; decide), if_neg hn], ?_⟩
  by_cases e : a = b
  · subst e
    have hy0 : ph p (pl p a.2.1 a.2.1) ≠ 0 := fun e => hn (neg_of hp ha (by rw [ph_pl] at e; exact e))
    have hi := ph_inv hq (by have := hp.lo; omega) hy0
    rw [ph_pl] at hi
    have em : ph p (dS p a a) * (ph p a.2.1 + ph p a.2.1) = 3 * (ph p a.1 * ph p a.1) + 1 := by
      unfold dS
      rw [if_pos rfl]
      unfold sl1
      rw [ph_tm, ph_pl, ph_pl, ph_pl, ph_tm, ph_one]
      generalize ph p (pw p (pl p a.2.1 a.2.1) (p - 2)) = i at hi ⊢
      generalize ph p a.2.1 = y at *
      generalize ph p a.1 = x at *
      grind
    exact ⟨by grind, by grind⟩
  · have xx : ∀ {u v : Nat}, u < p → v < p → ph p u - ph p v = 0 → u = v := fun hu hv e => ph_inj hu hv (by grind)
    have hx : ph p b.1 - ph p a.1 ≠ 0 := fun e0 => by
      have e1 := xx hb.lt.x ha.lt.x e0
      have e2 : (ph p b.2.1 - ph p a.2.1) * (ph p b.2.1 + ph p a.2.1) = 0 := by
        rw [e1] at hd
        grind
      rcases fp_mul hq e2 with e3 | e3
      · exact e (p3_eq e1.symm (xx hb.lt.y ha.lt.y e3).symm (by rw [hy, hz]))
      · refine hn (p3_eq e1.symm (ph_inj ha.lt.y (mi_lt hp) ?_) (by show a.2.2 = b.2.2; rw [hy, hz]))
        rw [ph_mi0 _ hb.lt.y]
        grind
    have hmi : ph p (mi p b.1 a.1) ≠ 0 := by rw [ph_mi _ _ ha.lt.x]; exact hx
    have hi := ph_inv hq (by have := hp.lo; omega) hmi
    rw [ph_mi _ _ ha.lt.x] at hi
    have em : ph p (dS p a b) * (ph p b.1 - ph p a.1) = ph p b.2.1 - ph p a.2.1 := by
      unfold dS
      rw [if_neg e]
      unfold sl2
      rw [ph_tm, ph_mi _ _ ha.lt.y]
      generalize ph p (pw p (mi p b.1 a.1) (p - 2)) = i at hi ⊢
      grind
    refine ⟨by grind, fp_cancel hq hx ?_⟩
    generalize ph p (dS p a b) = m at *
    generalize ph p a.1 = u at *
    generalize ph p b.1 = w at *
    generalize ph p a.2.1 = v at *
    generalize ph p b.2.1 = z at *
    have : z = v + m * (w - u) := by grind
    subst this
    clear hi em xx hmi
    grind
theorem on_add (hp : Pr p) (hq : Prm p) {a b : P3} (ha : On p a) (hb : On p b) : On p (dA p a b) := (jn_rep hp hq (rep_tO hp ha) ha hb).2
theorem gP_add (A : Al p al ep) {a b : P3} (ha : On p a) (hb : On p b) : gP al ep (dA p a b) = eadd (gP al ep a) (gP al ep b) := by
  by_cases hz : a.2.2 = true
  · have e : dA p a b = b := by unfold dA; rw [if_pos hz]
    rw [e, gP_z hz, eadd_zl A]
  · by_cases hy : b.2.2 = true
    · have e : dA p a b = a := by unfold dA; rw [if_neg hz, if_pos hy]
      rw [e, gP_z hy, eadd_zero A.fd.pr A.fd.prm]
    · have hz : a.2.2 = false := by simpa using hz
      have hy : b.2.2 = false := by simpa using hy
      by_cases hn : a = (b.1, mi p 0 b.2.1, b.2.2)
      · rw [dA_neg hz hy hn, gP_z rfl, eadd_comm, ← eadd_neg A.fd (gP_on A hb)]
        congr 1
        rw [hn, gP_f hy, gP_f (by exact hy)]
        unfold fi
        simp only
        rw [ph_mi0 _ hb.lt.y]
        exact Prod.ext (by simp only; grind) rfl
      · obtain ⟨e, e1, e2⟩ := slope_of A.fd.pr A.fd.prm ha hb hz hy hn
        rw [gP_f hz, gP_f hy, e, gP_f rfl]
        exact fi_add A (ha.cv hz) e2 e1 (ph_d3X ha.lt.x hb.lt.x) (ph_d3Y A.fd.pr ha.lt.y)
theorem gP_inj (A : Al p al ep) {a b : P3} (ha : On p a) (hb : On p b) (h : gP al ep a = gP al ep b) : a = b := by
  have ne : ∀ {c : P3}, On p c → c.2.2 = false → gP al ep c ≠ (0, 1) := fun {c} hc hz e => by
    rw [gP_f hz] at e
    unfold fi at e
    injection e with _ e
    have e6 := iv_spec A.fd.pr A.fd.prm (A.w0 (hc.cv hz))
    generalize iv (ph p c.1 + ep) = j at *
    have : (2 : Fin p) * ep = 0 := by grind
    exact A.ep0 ((fp_mul A.fd.prm this).resolve_left A.fd.two)
  by_cases hz : a.2.2 = true
  · by_cases hy : b.2.2 = true
    · rw [ha.zr hz, hb.zr hy]
    · rw [gP_z hz] at h
      exact absurd h.symm (ne hb (by simpa using hy))
  · by_cases hy : b.2.2 = true
    · rw [gP_z hy] at h
      exact absurd h (ne ha (by simpa using hz))
    · have hz : a.2.2 = false := by simpa using hz
      have hy : b.2.2 = false := by simpa using hy
      rw [gP_f hz, gP_f hy] at h
      unfold fi at h
      injection h with h1 h2
      have e6 := iv_spec A.fd.pr A.fd.prm (A.w0 (ha.cv hz))
      have e7 := iv_spec A.fd.pr A.fd.prm (A.w0 (hb.cv hy))
      have ex : ph p a.1 = ph p b.1 := by
        generalize iv (ph p a.1 + ep) = j at *
        generalize iv (ph p b.1 + ep) = j' at *
        have e8 : (ph p a.1 - ep) * (ph p b.1 + ep) = (ph p b.1 - ep) * (ph p a.1 + ep) := by
          have : (ph p a.1 - ep) * (ph p b.1 + ep) = (ph p a.1 - ep) * j * ((ph p a.1 + ep) * (ph p b.1 + ep)) := by
            have : (ph p a.1 - ep) * j * ((ph p a.1 + ep) * (ph p b.1 + ep)) = (ph p a.1 - ep) * (ph p b.1 + ep) * ((ph p a.1 + ep) * j) := by grind
            rw [this, e6]
            grind
          rw [this, h2]
          have : (ph p b.1 - ep) * j' * ((ph p a.1 + ep) * (ph p b.1 + ep)) = (ph p b.1 - ep) * (ph p a.1 + ep) * ((ph p b.1 + ep) * j') := by grind
          rw [this, e7]
          grind
        have e9 : (2 : Fin p) * ep * (ph p a.1 - ph p b.1) = 0 := by grind
        have := (fp_mul A.fd.prm e9).resolve_left (fp_ne A.fd.prm A.fd.two A.ep0)
        grind
      have ey : ph p a.2.1 = ph p b.2.1 := by
        rw [ex] at h1
        have e5 := iv_spec A.fd.pr A.fd.prm (A.s0 (ph p b.1))
        generalize iv (ph p b.1 * ph p b.1 + 1) = i at *
        have hal : al ≠ 0 := fun e => A.ep0 ((fp_mul A.fd.prm (show (2 : Fin p) * ep = 0 by have := A.two; grind)).resolve_left A.fd.two)
        have hi : i ≠ 0 := fun e => by
          rw [e] at e5
          exact A.fd.two (by grind)
        refine fp_cancel A.fd.prm (fp_ne A.fd.prm hal hi) ?_
        grind
      exact p3_eq (ph_inj ha.lt.x hb.lt.x ex) (ph_inj ha.lt.y hb.lt.y ey) (by rw [hz, hy])
/-! The group. -/
theorem dA_comm (F : Fd p) {a b : P3} (ha : On p a) (hb : On p b) : dA p a b = dA p b a := by
  obtain ⟨al, ep, A⟩ := al_ex F
  refine gP_inj A (on_add F.pr F.prm ha hb) (on_add F.pr F.prm hb ha) ?_
  rw [gP_add A ha hb, gP_add A hb ha, eadd_comm]
theorem dA_assoc (F : Fd p) {a b c : P3} (ha : On p a) (hb : On p b) (hc : On p c) : dA p (dA p a b) c = dA p a (dA p b c) := by
  obtain ⟨al, ep, A⟩ := al_ex F
  have hab := on_add F.pr F.prm ha hb
  have hbc := on_add F.pr F.prm hb hc
  refine gP_inj A (on_add F.pr F.prm hab hc) (on_add F.pr F.prm ha hbc) ?_
  rw [gP_add A hab hc, gP_add A ha hb, gP_add A ha hbc, gP_add A hb hc, eadd_assoc F (gP_on A ha) (gP_on A hb) (gP_on A hc)]
theorem dA_zr {a : P3} (ha : On p a) : dA p a (0, 0, true) = a := by
  unfold dA
  by_cases h : a.2.2 = true
  · rw [if_pos h, ha.zr h]
  · rw [if_neg h, if_pos rfl]
theorem on_neg (hp : Pr p) {a : P3} (ha : On p a) : On p (a.1, mi p 0 a.2.1, a.2.2) := by
  refine ⟨⟨ha.lt.x, mi_lt hp⟩, fun h => ?_, fun h => ?_⟩
  · have e := ha.zr h
    rw [e]
    have : mi p 0 0 = 0 := by unfold mi; rw [Nat.zero_add, Nat.sub_zero, Nat.mod_self]
    simp only [this]
  · have e := ha.cv h
    simp only
    rw [ph_mi0 _ ha.lt.y]
    grind
theorem dA_inv (F : Fd p) {a : P3} (ha : On p a) : dA p a (a.1, mi p 0 a.2.1, a.2.2) = (0, 0, true) := by
  by_cases h : a.2.2 = true
  · have e := ha.zr h
    rw [e]
    have : mi p 0 0 = 0 := by unfold mi; rw [Nat.zero_add, Nat.sub_zero, Nat.mod_self]
    simp only [this]
    exact dA_zl _
  · have h : a.2.2 = false := by simpa using h
    refine dA_neg h (by exact h) (p3_eq rfl ?_ rfl)
    refine ph_inj ha.lt.y (mi_lt F.pr) ?_
    rw [ph_mi0 _ (mi_lt F.pr), ph_mi0 _ ha.lt.y]
    grind
/-- So many times a point. -/
def dN (p : Nat) (a : P3) : Nat → P3
  | 0 => (0, 0, true)
  | n + 1 => dA p (dN p a n) a
theorem dN_on (F : Fd p) {a : P3} (ha : On p a) : ∀ n, On p (dN p a n)
  | 0 => on_zero' F.pr
  | n + 1 => on_add F.pr F.prm (dN_on F ha n) ha
theorem dN_add (F : Fd p) {a : P3} (ha : On p a) (m : Nat) : ∀ n, dN p a (m + n) = dA p (dN p a m) (dN p a n)
  | 0 => (dA_zr (dN_on F ha m)).symm
  | n + 1 => by
    show dA p (dN p a (m + n)) a = dA p (dN p a m) (dA p (dN p a n) a)
    rw [dN_add F ha m n, dA_assoc F (dN_on F ha m) (dN_on F ha n) ha]
theorem dN_mul (F : Fd p) {a : P3} (ha : On p a) (m : Nat) : ∀ n, dN p (dN p a m) n = dN p a (m * n)
  | 0 => rfl
  | n + 1 => by
    show dA p (dN p (dN p a m) n) (dN p a m) = dN p a (m * (n + 1))
    rw [dN_mul F ha m n, Nat.mul_add, Nat.mul_one, dN_add F ha]
theorem dM_dN (F : Fd p) {a : P3} (ha : On p a) (n : Nat) (hn : n < 18446744073709551616) : dM p a n = dN p a n := by
  induction n using Nat.strongRecOn with
  | ind n ih =>
    by_cases h : n = 0
    · subst h; rfl
    · rw [dM_step p a n hn h, ih (n / 2) (by omega) (by omega), ← dN_add F ha]
      split
      · rename_i h2
        have e : n = n / 2 + n / 2 + 1 := by omega
        have : dN p a n = dN p a (n / 2 + n / 2 + 1) := by rw [← e]
        rw [this]
        rfl
      · congr 1
        omega
end
end Rg
end Go.Proofs.Ytjmbgchoioepjaa
end
section
namespace Go.Proofs.Ytjmbgchoioepjaa
open Go.RowKit
namespace Rg
open NT
/-- A suite whose points are a group. -/
structure Kf (s : Int) (p r c gx gy : Nat) : Prop where
  q : Kq s p r c gx gy
  three : p % 4 = 3
theorem kf_1 : Kf 1 786251 65521 12 9723 164643 := ⟨kq_1, by decide⟩
theorem kf_2 : Kf 2 1152921504606846223 72057594037927889 16 613740293506734924 666621259561003659 := ⟨kq_2, by decide⟩
theorem call41 : ∀ args w, (callFunc 41 args).run Try.prog w = .ok (.enter 41 args) w := by intro args w; go_simp
section
variable {s : Int} {p r c gx gy : Nat}
theorem Kf.fd (k : Kf s p r c gx gy) [NeZero p] : Fd p := ⟨k.q.k.pr, k.q.prm, k.three⟩
end
end Rg
end Go.Proofs.Ytjmbgchoioepjaa
end
section
namespace Go.Proofs.Ytjmbgchoioepjaa
open Go.RowKit
namespace Rg
def by8 (f : Nat → Int) (n : Nat) : List Value := (List.range n).map fun j => .int .u8 (f j)
theorem by8_len (f : Nat → Int) (n : Nat) : (by8 f n).length = n := by simp [by8]
theorem by8_get (f : Nat → Int) {n j : Nat} (h : j < n) : (by8 f n)[j]? = some (.int .u8 (f j)) := by
  unfold by8
  rw [List.getElem?_map, List.getElem?_eq_getElem (by simpa using h), List.getElem_range]
  rfl
theorem by8_congr {f f' : Nat → Int} {n : Nat} (h : ∀ j, j < n → f j = f' j) : by8 f n = by8 f' n := by
  unfold by8
  exact List.map_congr_left fun j hj => by rw [h j (by simpa using hj)]
/-- A number's bytes, the highest first. -/
theorem by8_patch (f : Nat → Int) {n : Nat} (j : Nat) (v : Int) (h : j < n) : patch (by8 f n) j [.int .u8 v] = by8 (upd f j v) n := by
  apply List.ext_getElem?
  intro k
  rw [patch_get _ _ _ (by rw [by8_len]; simp; omega)]
  by_cases hk : k < n
  · rw [by8_get _ hk, by8_get _ hk]
    unfold upd
    by_cases e : k = j
    · rw [if_pos (by simp; omega), if_pos e, e]
      simp
    · rw [if_neg (by simp; omega), if_neg e]
  · rw [if_neg (by simp; omega), List.getElem?_eq_none (by rw [by8_len]; omega), List.getElem?_eq_none (by rw [by8_len]; omega)]
theorem ex_idxS {ρ : Operand → Value} {o : Oper} {x y : Operand} {g off m c k : Nat} {w : World} (ho : o.op = .indexAddr 59 x y) (hx : ρ x = .slice (some ⟨g, off, none⟩) m c) (hy : ρ y = .int .i64 (k : Int)) (h : k < m) : (execOp ρ o).run Try.prog w = .ok (.value (PT g (off + k))) w := by
  simp only [execOp, ho, hx, hy]
  clear ho hx hy
  go_simp
theorem ex_cv8 {ρ : Operand → Value} {o : Oper} {x : Operand} {a : Nat} {w : World} (ho : o.op = .convert 23 5 x) (hx : ρ x = U a) : (execOp ρ o).run Try.prog w = .ok (.value (.int .u8 ((a % 256 : Nat) : Int))) w := by
  simp only [execOp, ho, hx]
  clear ho hx
  go_simp
  simp [IntKind.wrap, IntKind.bits, IntKind.signed]
theorem ex_mk8 {ρ : Operand → Value} {o : Oper} {x y : Operand} {w : World} (ho : o.op = .makeSlice 59 x y) (hx : ρ x = .int .i64 17) (hy : ρ y = .int .i64 17) :
    (execOp ρ o).run Try.prog w = .ok (.value (.slice (some ⟨w.heap.size, 0, none⟩) 17 17)) (w.alloc (.cells (by8 (fun _ => 0) 17).toArray 5)) := by
  simp only [execOp, ho, hx, hy]
  kernel_rfl
theorem call67 : ∀ args w, (callFunc 67 args).run Try.prog w = .ok (.enter 67 args) w := by intro args w; go_simp
/-- The bytes of a number, the highest first. -/
def byt (n k : Nat) : Int := ((n / 2 ^ (8 * (7 - k)) % 256 : Nat) : Int)
def pn (f : Nat → Int) (off n k : Nat) : Nat → Int := fun j => if off ≤ j ∧ j < off + k then byt n (j - off) else f j
theorem pn_zero (f : Nat → Int) (off n : Nat) : pn f off n 0 = f := by
  funext j
  unfold pn
  rw [if_neg (by omega)]
theorem pn_step (f : Nat → Int) (off n k : Nat) : upd (pn f off n k) (off + k) (byt n k) = pn f off n (k + 1) := by
  funext j
  unfold upd pn
  by_cases h : j = off + k
  · rw [if_pos h, if_pos (by omega), show j - off = k by omega]
  · rw [if_neg h]
    by_cases h2 : off ≤ j ∧ j < off + k
    · rw [if_pos h2, if_pos (by omega)]
    · rw [if_neg h2, if_neg (by omega)]
set_option maxHeartbeats 1000000 in
set_option maxRecDepth 100000 in
theorem put_any (g off m0 cp n : Nat) (f : Nat → Int) (ho : off + 8 ≤ 17) (hm8 : 8 ≤ m0) (w : World) (hm : Mm w [(g, by8 f 17)]) :
    Calls Try.prog 67 #[.slice (some ⟨g, off, none⟩) m0 cp, U n] w fun e w' => e = .returned (.tuple #[]) ∧ Mm w' [(g, by8 (pn f off n 8) 17)] ∧ Kp g w w' := by
  have H0 : Hid (_ ∧ _) := ⟨hm, Kp.refl g w⟩
  clear hm
  go_enter Try.func67, Try.ntmps67
  refine wp_seq ?_
  refine walk_seqA 1 [.quiet (.int .i64 0)] (sB H0) ?ho1 ?he1
  case ho1 => exact ak (fun _ => ⟨rfl, fun _ _ => rfl⟩) trivial
  intro γ w1 l hM hl
  have H1 := keepK H0 hM.below
  clear hM hl l γ
  refine rest0 rfl (then_normal (wp_block ?_))
  refine loop_ghost (α := Nat) (fun k a' w' => ∃ s0 : Nat → Value, a' = ⟨#[.slice (some ⟨g, off, none⟩) m0 cp, U n, undef, undef, s0 4, .int .i64 ((k : Nat) : Int), s0 6, s0 7, s0 8, s0 9, s0 10, s0 11, s0 12, s0 13, s0 14, s0 15, s0 16, s0 17], []⟩ ∧ (Mm w' [(g, by8 (pn f off n k) 17)] ∧ Kp g w w') ∧ k ≤ 8) (fun k => 8 - k) 0 ?st0 ?rd0
  case st0 => exact ⟨(slotfn [undef, undef, undef, undef, undef, undef, undef, undef, undef, undef, undef, undef, undef, undef, undef, undef, undef, undef]), rfl, ⟨by rw [pn_zero]; exact H1.out.1, H1.out.2⟩, by omega⟩
  intro k a' w2 hI
  obtain ⟨s0, rfl, hMB, hk0⟩ := hI
  have H2 : Hid (_ ∧ _) := hMB
  clear hMB H1
  by_cases hlt : k < 8
  · have hrd : True := trivial
    clear hrd
    refine wp_seq ?_
    refine walk_seqA 1 [.quiet (.bool true)] (sB H2) ?ho2 ?he2
    case ho2 => exact ak (by refine fun γ => ⟨rfl, fun w' h => ?_⟩; clear h; go_simp <;> omega) trivial
    intro γ w3 l hM hl
    have H3 := keepK H2 hM.below
    clear hM hl l H2 γ
    refine rest0 rfl (then_normal (wp_seq ?_))
    refine wp_cond_true rfl (wp_skip ?_)
    refine then_normal (wp_seq ?_)
    refine wp_block (wp_seq ?_)
    refine walk_seqA 2 [.quiet (.int .i64 ((k : Nat) : Int)), .quiet (.int .i64 ((k : Nat) : Int))] (sB H3) ?ho3 ?he3
    case ho3 => exact ak (fun _ => ⟨rfl, fun _ _ => rfl⟩) (ak (fun _ => ⟨rfl, fun _ _ => rfl⟩) trivial)
    intro γ w4 l hM hl
    have H4 := keepK H3 hM.below
    clear hM hl l H3 γ
    refine rest0 rfl (then_normal ?_)
    refine walk_seqA 9 [.quiet (.slice (some ⟨g, off, none⟩) m0 cp), .quiet (.int .i64 ((k : Nat) : Int)), .quiet (U n), .quiet (.int .i64 ((k : Nat) : Int)), .quiet (.int .i64 ((7 - k : Nat) : Int)), .quiet (.int .i64 ((8 * (7 - k) : Nat) : Int)), .quiet (U (n / 2 ^ (8 * (7 - k)))), .quiet (.int .u8 ((n / 2 ^ (8 * (7 - k)) % 256 : Nat) : Int)), .quiet (PT g (off + k))] (sB H4) ?ho4 ?he4
    case ho4 => exact ak (fun _ => ⟨rfl, fun _ _ => rfl⟩) (ak (fun _ => ⟨rfl, fun _ _ => rfl⟩) (ak (fun _ => ⟨rfl, fun _ _ => rfl⟩) (ak (fun _ => ⟨rfl, fun _ _ => rfl⟩) (ak (by refine fun γ => ⟨rfl, fun w' h => ?_⟩; clear h; go_simp; rw [IntKind.wrap_i64]; omega) (ak (by refine fun γ => ⟨rfl, fun w' h => ?_⟩; clear h; go_simp; rw [IntKind.wrap_i64]; omega) (ak (fun γ => ⟨rfl, fun w' _ => ex_shrU (by omega) rfl rfl rfl⟩) (ak (fun γ => ⟨rfl, fun w' _ => ex_cv8 rfl rfl⟩) (ak (fun γ => ⟨rfl, fun w' _ => ex_idxS rfl rfl rfl (by omega)⟩) trivial))))))))
    intro γ w5 l hM hl
    have H5 := keepK H4 hM.below
    clear hM hl l H4 γ
    refine rest_at (l := [9]) rfl ?_
    refine rest_store rfl rfl rfl (ex_storeI H5.out.1 0 rfl rfl Try.sizeOf5 rfl rfl (by rw [by8_len]; omega)) ?_
    have H6 : Hid (Mm (w5.setCells g (off + k) [.int .u8 ((n / 2 ^ (8 * (7 - k)) % 256 : Nat) : Int)]) [(g, by8 (upd (pn f off n k) (off + k) ((n / 2 ^ (8 * (7 - k)) % 256 : Nat) : Int)) 17)] ∧ Kp g w (w5.setCells g (off + k) [.int .u8 ((n / 2 ^ (8 * (7 - k)) % 256 : Nat) : Int)])) := ⟨by
      have h := H5.out.1.put 0 (off := (off + k)) (vs := [.int .u8 ((n / 2 ^ (8 * (7 - k)) % 256 : Nat) : Int)]) rfl (by rw [by8_len]; simp only [List.length_cons, List.length_nil]; omega)
      rw [by8_patch _ _ _ (by omega)] at h
      exact h, H5.out.2.put (Or.inl rfl)⟩
    clear H5
    generalize hgw : World.setCells _ _ _ _ = w6 at H6 ⊢
    clear hgw
    refine rest_nil (block_normal (then_normal ?_))
    refine walk_seqA 1 [.quiet (.int .i64 ((k + 1 : Nat) : Int))] (sB H6) ?ho5 ?he5
    case ho5 => exact ak (by refine fun γ => ⟨rfl, fun w' h => ?_⟩; clear h; go_simp; rw [IntKind.wrap_i64]; omega) trivial
    intro γ w7 l hM hl
    have H7 := keepK H6 hM.below
    clear hM hl l H6 γ
    refine rest_at (l := [1]) rfl ?_
    refine rest_set (d := 5) rfl rfl rfl rfl ?_
    simp only [Act.put, sa, sz, ss]
    refine rest_nil (then_normal ?_)
    exact ⟨k + 1, ⟨(slotfn [undef, undef, undef, undef, .int .i64 ((k : Nat) : Int), undef, .bool true, .int .i64 ((k : Nat) : Int), .slice (some ⟨g, off, none⟩) m0 cp, .int .i64 ((k : Nat) : Int), U n, .int .i64 ((k : Nat) : Int), .int .i64 ((7 - k : Nat) : Int), .int .i64 ((8 * (7 - k) : Nat) : Int), U (n / 2 ^ (8 * (7 - k))), .int .u8 ((n / 2 ^ (8 * (7 - k)) % 256 : Nat) : Int), PT g (off + k), .int .i64 ((k + 1 : Nat) : Int)]), rfl, ⟨by rw [← pn_step]; exact H7.out.1, H7.out.2⟩, by omega⟩, by omega⟩
  have hk8 : k = 8 := by omega
  subst hk8
  refine wp_seq ?_
  refine walk_seqA 1 [.quiet (.bool false)] (sB H2) ?ho6 ?he6
  case ho6 => exact ak (by refine fun γ => ⟨rfl, fun w' h => ?_⟩; clear h; go_simp <;> omega) trivial
  intro γ w8 l hM hl
  have H8 := keepK H2 hM.below
  clear hM hl l H2 γ
  refine rest0 rfl (then_normal (wp_seq (wp_cond_false rfl ?_)))
  refine wp_exit ?_
  repeat refine then_exit ?_
  refine block_exit ?_
  refine bodyPost_end (v := .tuple #[]) (by simp [results, Try.results67, go_sem]) rfl ?_
  exact ⟨rfl, H8.out.1, H8.out.2⟩
section
variable {s : Int} {p r c gx gy : Nat}
set_option maxHeartbeats 1000000 in
set_option maxRecDepth 100000 in
theorem bytes_f (k : Kd s p r c gx gy) (X Y : Nat) (h1 : oc p X Y false = true) (w : World) :
    Calls Try.prog 35 #[.int .i64 s, .agg (pt X Y false).toArray] w fun e w' => Below w.heap.size w w' ∧ ∃ g, e = .returned (.tuple #[.slice (some ⟨g, 0, none⟩) 17 17, .int .i64 0]) ∧ w.heap.size ≤ g ∧ g < w'.heap.size ∧ Blk w' g (by8 (pn (pn (fun _ => 0) 1 X 8) 9 Y 8) 17) := by
  have H0 : Hid (_ ∧ _) := ⟨Mm.nil w, Below.refl w.heap.size w⟩
  go_enter Try.func35, Try.ntmps35
  refine wp_seq ?_
  refine walk_seqA 3 [.made (pt X Y false) 25, .quiet (.slice none 0 0), .quiet (.int .i64 0)] (sB H0) ?ho1 ?he1
  case ho1 => exact ak (fun γ => ⟨rfl, fun w' => ex_boxT rfl rfl⟩) (ak (fun _ => ⟨rfl, fun _ _ => rfl⟩) (ak (fun _ => ⟨rfl, fun _ _ => rfl⟩) trivial))
  intro γ w1 l hM hl
  have H1 : Hid (Mm w1 [(γ 0, pt X Y false)] ∧ _) := growB H0 hM (Nat.le_refl _) hl [0] rfl (by decide)
  have o1_0 := ownB H0 hM (Nat.le_refl _) hl (i := 0) rfl
  clear hM hl l
  generalize γ 0 = γ1_0 at H1 o1_0 ⊢
  clear γ
  refine rest0 rfl (then_normal (wp_seq (wp_seq ?_)))
  refine walk_seqB 2 [.quiet (.int .i64 s), .quiet (.agg (pt X Y false).toArray)] H1 ?ho2 ?he2
  case ho2 => exact ak (fun _ => ⟨rfl, fun _ _ => rfl⟩) (ak (fun γ => ⟨rfl, fun w' h => ex_loadT h 0 rfl rfl rfl Try.isAgg25 Try.sizeOf25 rfl rfl⟩) trivial)
  intro _ w2 H2
  clear H1
  refine rest_at (l := [2, 3, 4, 5, 6, 7, 8, 9]) rfl ?_
  refine rest_set (d := 12) (v := .slice (some ⟨w2.heap.size, 0, none⟩) 1 1) (w' := w2.alloc (.cells (pt X Y false : List Value).toArray 25)) rfl rfl rfl (ex_bs1 rfl rfl) ?_
  simp only [Act.put, sa, sz, ss]
  have o_γs3 : Hid (w.heap.size ≤ w2.heap.size) := H2.out.2.size
  have H3 : Hid (Mm (w2.alloc (.cells (pt X Y false : List Value).toArray 25)) ((w2.heap.size, pt X Y false) :: [(γ1_0, pt X Y false)]) ∧ Below w.heap.size w (w2.alloc (.cells (pt X Y false : List Value).toArray 25))) := ⟨H2.out.1.alloc _ 25 rfl, H2.out.2.alloc H2.out.2.size _⟩
  clear H2
  generalize hgw : w2.alloc (.cells (pt X Y false : List Value).toArray 25) = w3 at H3 ⊢
  clear hgw
  generalize w2.heap.size = γs3 at o_γs3 H3 ⊢
  refine rest_enter (d := 13) (R := fun vv w' => vv = .tuple #[.agg (kd p r c gx gy).toArray, .int .i64 0] ∧ Below w3.heap.size w3 w') rfl rfl rfl (exec_call (args := #[.int .i64 s, .slice (some ⟨γs3, 0, none⟩) 1 1]) rfl call43 rfl (mpn rfl)) (Calls.mono (kw1_ok k X Y false h1 γs3 w3 (H3.out.1.one 0 rfl)) (fun e w2 hh => ⟨_, hh.1, rfl, hh.2⟩)) ?_
  rintro _ w4 ⟨rfl, hb⟩
  have H4 : Hid (_ ∧ _) := ⟨H3.out.1.below hb, H3.out.2.trans (hb.mono H3.out.2.size)⟩
  clear hb H3
  simp only [Act.put, sa, sz, ss]
  refine rest_set (d := 9) rfl rfl rfl rfl ?_
  simp only [Act.put, sa, sz, ss]
  refine rest_set (d := 14) (v := .agg (kd p r c gx gy).toArray) (w' := w4) rfl rfl rfl (by go_simp) ?_
  simp only [Act.put, sa, sz, ss]
  refine rest_set (d := 15) (v := .int .i64 0) (w' := w4) rfl rfl rfl (by go_simp) ?_
  simp only [Act.put, sa, sz, ss]
  refine rest_set (d := 6) (v := PT w4.heap.size 0) (w' := w4.alloc (.cells (kd 0 0 0 0 0 : List Value).toArray 72)) rfl rfl rfl (ex_made72 rfl) ?_
  simp only [Act.put, sa, sz, ss]
  have o_γs5 : Hid (w.heap.size ≤ w4.heap.size) := H4.out.2.size
  have H5 : Hid (Mm (w4.alloc (.cells (kd 0 0 0 0 0 : List Value).toArray 72)) ((w4.heap.size, kd 0 0 0 0 0) :: [(γs3, pt X Y false), (γ1_0, pt X Y false)]) ∧ Below w.heap.size w (w4.alloc (.cells (kd 0 0 0 0 0 : List Value).toArray 72))) := ⟨H4.out.1.alloc _ 72 rfl, H4.out.2.alloc H4.out.2.size _⟩
  clear H4
  generalize hgw : w4.alloc (.cells (kd 0 0 0 0 0 : List Value).toArray 72) = w5 at H5 ⊢
  clear hgw
  generalize w4.heap.size = γs5 at o_γs5 H5 ⊢
  refine rest_store rfl rfl rfl (ex_storeT (vs := kd p r c gx gy) H5.out.1 0 rfl rfl rfl rfl Try.sizeOf72 rfl (Nat.le_of_ble_eq_true rfl)) ?_
  have H6 : Hid (Mm (w5.setCells γs5 0 (kd p r c gx gy)) [(γs5, kd p r c gx gy), (γs3, pt X Y false), (γ1_0, pt X Y false)] ∧ Below w.heap.size w (w5.setCells γs5 0 (kd p r c gx gy))) := ⟨H5.out.1.put 0 (off := 0) (vs := kd p r c gx gy) rfl (Nat.le_of_ble_eq_true rfl), below_setCells _ o_γs5.out _ _ _ H5.out.2⟩
  clear H5
  generalize hgw : World.setCells _ _ _ _ = w6 at H6 ⊢
  clear hgw
  refine rest_set (d := 7) rfl rfl rfl rfl ?_
  simp only [Act.put, sa, sz, ss]
  refine rest_nil (then_normal (wp_seq ?_))
  refine walk_seqB 2 [.quiet (.int .i64 0), .quiet (.bool false)] H6 ?ho3 ?he3
  case ho3 => exact ak (fun _ => ⟨rfl, fun _ _ => rfl⟩) (ak (by refine fun γ => ⟨rfl, fun w' h => ?_⟩; clear h; go_simp) trivial)
  intro _ w7 H7
  clear H6
  refine rest0 rfl (then_normal (wp_cond_false rfl ?_))
  refine wp_skip (then_normal (wp_seq ?_))
  refine walk_seqB 0 [] H7 ?ho4 ?he4
  case ho4 => exact trivial
  intro _ w8 H8
  clear H7
  refine rest_at (l := [0, 1]) rfl ?_
  refine rest_set (d := 19) (v := .slice (some ⟨w8.heap.size, 0, none⟩) 17 17) (w' := w8.alloc (.cells (by8 (fun _ => 0) 17 : List Value).toArray 5)) rfl rfl rfl (ex_mk8 rfl rfl rfl) ?_
  simp only [Act.put, sa, sz, ss]
  have o_γs9 : Hid (w.heap.size ≤ w8.heap.size) := H8.out.2.size
  have H9 : Hid (Mm (w8.alloc (.cells (by8 (fun _ => 0) 17 : List Value).toArray 5)) ((w8.heap.size, by8 (fun _ => 0) 17) :: [(γs5, kd p r c gx gy), (γs3, pt X Y false), (γ1_0, pt X Y false)]) ∧ Below w.heap.size w (w8.alloc (.cells (by8 (fun _ => 0) 17 : List Value).toArray 5))) := ⟨H8.out.1.alloc _ 5 rfl, H8.out.2.alloc H8.out.2.size _⟩
  clear H8
  generalize hgw : w8.alloc (.cells (by8 (fun _ => 0) 17 : List Value).toArray 5) = w9 at H9 ⊢
  clear hgw
  generalize w8.heap.size = γs9 at o_γs9 H9 ⊢
  refine rest_set (d := 8) rfl rfl rfl rfl ?_
  simp only [Act.put, sa, sz, ss]
  refine rest_nil (then_normal ?_)
  refine wp_seq (wp_seq ?_)
  refine walk_seqB 2 [.quiet (PT γ1_0 2), .quiet (.bool false)] H9 ?ho5 ?he5
  case ho5 => exact ak (by refine fun γ => ⟨rfl, fun w' h => ?_⟩; clear h; go_simp) (ak (fun γ => ⟨rfl, fun w' h => ex_loadC h 3 rfl rfl rfl Try.isAgg4 rfl⟩) trivial)
  intro _ w10 H10
  clear H9
  refine rest0 rfl (then_normal (wp_cond_false rfl ?_))
  refine wp_skip (then_normal (wp_seq ?_))
  refine walk_anyB 4 [.quiet (.slice (some ⟨γs9, 0, none⟩) 17 17), .quiet (.slice (some ⟨γs9, 1, none⟩) 16 16), .quiet (PT γ1_0 0), .quiet (U X)] H10 ?ho6 ?he6
  case ho6 => exact ak (fun _ => ⟨rfl, fun _ _ => rfl⟩) (ak (by refine fun γ => ⟨rfl, fun w' h => ?_⟩; clear h; go_simp) (ak (by refine fun γ => ⟨rfl, fun w' h => ?_⟩; clear h; go_simp) (ak (fun γ => ⟨rfl, fun w' h => ex_loadC h 3 rfl rfl rfl Try.isAgg23 rfl⟩) trivial)))
  intro _ w11 H11
  clear H10
  refine rest_at (l := [4]) rfl ?_
  refine rest_enter (d := 28) (R := fun vv w' => vv = .tuple #[] ∧ Mm w' [(γs9, by8 (pn (fun _ => 0) 1 X 8) 17)] ∧ Kp γs9 w11 w') rfl rfl rfl (exec_call (args := #[.slice (some ⟨γs9, 1, none⟩) 16 16, U X]) rfl call67 rfl (mpn rfl)) (Calls.mono (put_any γs9 1 16 16 X (fun _ => 0) (by decide) (by decide) w11 (H11.out.1.one 0 rfl)) (fun e w2 hh => ⟨_, hh.1, rfl, hh.2⟩)) ?_
  rintro _ w12 ⟨rfl, hn, hp⟩
  have H12 : Hid (Mm w12 [(γs9, by8 (pn (fun _ => 0) 1 X 8) 17), (γs5, kd p r c gx gy), (γs3, pt X Y false), (γ1_0, pt X Y false)] ∧ Below w.heap.size w w12) := ⟨H11.out.1.change 0 rfl hp hn, Below.kp H11.out.2 hp o_γs9.out H11.out.2.size⟩
  clear hn hp H11
  simp only [Act.put, sa, sz, ss]
  refine rest_nil (then_normal (wp_seq ?_))
  refine walk_anyB 4 [.quiet (.slice (some ⟨γs9, 0, none⟩) 17 17), .quiet (.slice (some ⟨γs9, 9, none⟩) 8 8), .quiet (PT γ1_0 1), .quiet (U Y)] H12 ?ho7 ?he7
  case ho7 => exact ak (fun _ => ⟨rfl, fun _ _ => rfl⟩) (ak (by refine fun γ => ⟨rfl, fun w' h => ?_⟩; clear h; go_simp) (ak (by refine fun γ => ⟨rfl, fun w' h => ?_⟩; clear h; go_simp) (ak (fun γ => ⟨rfl, fun w' h => ex_loadC h 3 rfl rfl rfl Try.isAgg23 rfl⟩) trivial)))
  intro _ w13 H13
  clear H12
  refine rest_at (l := [4]) rfl ?_
  refine rest_enter (d := 33) (R := fun vv w' => vv = .tuple #[] ∧ Mm w' [(γs9, by8 (pn (pn (fun _ => 0) 1 X 8) 9 Y 8) 17)] ∧ Kp γs9 w13 w') rfl rfl rfl (exec_call (args := #[.slice (some ⟨γs9, 9, none⟩) 8 8, U Y]) rfl call67 rfl (mpn rfl)) (Calls.mono (put_any γs9 9 8 8 Y (pn (fun _ => 0) 1 X 8) (by decide) (by decide) w13 (H13.out.1.one 0 rfl)) (fun e w2 hh => ⟨_, hh.1, rfl, hh.2⟩)) ?_
  rintro _ w14 ⟨rfl, hn, hp⟩
  have H14 : Hid (Mm w14 [(γs9, by8 (pn (pn (fun _ => 0) 1 X 8) 9 Y 8) 17), (γs5, kd p r c gx gy), (γs3, pt X Y false), (γ1_0, pt X Y false)] ∧ Below w.heap.size w w14) := ⟨H13.out.1.change 0 rfl hp hn, Below.kp H13.out.2 hp o_γs9.out H13.out.2.size⟩
  clear hn hp H13
  simp only [Act.put, sa, sz, ss]
  refine rest_nil (then_normal (wp_seq ?_))
  refine walk_seqB 3 [.quiet (.slice (some ⟨γs9, 0, none⟩) 17 17), .quiet (.slice (some ⟨γs9, 0, none⟩) 17 17), .quiet (.int .i64 0)] H14 ?ho8 ?he8
  case ho8 => exact ak (fun _ => ⟨rfl, fun _ _ => rfl⟩) (ak (fun _ => ⟨rfl, fun _ _ => rfl⟩) (ak (fun _ => ⟨rfl, fun _ _ => rfl⟩) trivial))
  intro _ w15 H15
  clear H14
  refine rest0 rfl (then_normal (wp_ret ?_))
  repeat (first | refine then_ret ?_ | refine block_ret ?_)
  refine bodyPost_ret (v := .tuple #[.slice (some ⟨γs9, 0, none⟩) 17 17, .int .i64 0]) (by simp [results, Try.results35, go_sem, *]) rfl ?_
  exact ⟨H15.out.2, γs9, rfl, o_γs9.out, H15.out.1.blk _ (List.mem_of_getElem? (i := 0) rfl)⟩
set_option maxHeartbeats 1000000 in
set_option maxRecDepth 100000 in
theorem bytes_t (k : Kd s p r c gx gy) (X Y : Nat) (h1 : oc p X Y true = true) (w : World) :
    Calls Try.prog 35 #[.int .i64 s, .agg (pt X Y true).toArray] w fun e w' => Below w.heap.size w w' ∧ ∃ g, e = .returned (.tuple #[.slice (some ⟨g, 0, none⟩) 17 17, .int .i64 0]) ∧ w.heap.size ≤ g ∧ g < w'.heap.size ∧ Blk w' g (by8 (pn (pn (upd (fun _ => 0) 0 1) 1 X 8) 9 Y 8) 17) := by
  have H0 : Hid (_ ∧ _) := ⟨Mm.nil w, Below.refl w.heap.size w⟩
  go_enter Try.func35, Try.ntmps35
  refine wp_seq ?_
  refine walk_seqA 3 [.made (pt X Y true) 25, .quiet (.slice none 0 0), .quiet (.int .i64 0)] (sB H0) ?ho1 ?he1
  case ho1 => exact ak (fun γ => ⟨rfl, fun w' => ex_boxT rfl rfl⟩) (ak (fun _ => ⟨rfl, fun _ _ => rfl⟩) (ak (fun _ => ⟨rfl, fun _ _ => rfl⟩) trivial))
  intro γ w1 l hM hl
  have H1 : Hid (Mm w1 [(γ 0, pt X Y true)] ∧ _) := growB H0 hM (Nat.le_refl _) hl [0] rfl (by decide)
  have o1_0 := ownB H0 hM (Nat.le_refl _) hl (i := 0) rfl
  clear hM hl l
  generalize γ 0 = γ1_0 at H1 o1_0 ⊢
  clear γ
  refine rest0 rfl (then_normal (wp_seq (wp_seq ?_)))
  refine walk_seqB 2 [.quiet (.int .i64 s), .quiet (.agg (pt X Y true).toArray)] H1 ?ho2 ?he2
  case ho2 => exact ak (fun _ => ⟨rfl, fun _ _ => rfl⟩) (ak (fun γ => ⟨rfl, fun w' h => ex_loadT h 0 rfl rfl rfl Try.isAgg25 Try.sizeOf25 rfl rfl⟩) trivial)
  intro _ w2 H2
  clear H1
  refine rest_at (l := [2, 3, 4, 5, 6, 7, 8, 9]) rfl ?_
  refine rest_set (d := 12) (v := .slice (some ⟨w2.heap.size, 0, none⟩) 1 1) (w' := w2.alloc (.cells (pt X Y true : List Value).toArray 25)) rfl rfl rfl (ex_bs1 rfl rfl) ?_
  simp only [Act.put, sa, sz, ss]
  have o_γs3 : Hid (w.heap.size ≤ w2.heap.size) := H2.out.2.size
  have H3 : Hid (Mm (w2.alloc (.cells (pt X Y true : List Value).toArray 25)) ((w2.heap.size, pt X Y true) :: [(γ1_0, pt X Y true)]) ∧ Below w.heap.size w (w2.alloc (.cells (pt X Y true : List Value).toArray 25))) := ⟨H2.out.1.alloc _ 25 rfl, H2.out.2.alloc H2.out.2.size _⟩
  clear H2
  generalize hgw : w2.alloc (.cells (pt X Y true : List Value).toArray 25) = w3 at H3 ⊢
  clear hgw
  generalize w2.heap.size = γs3 at o_γs3 H3 ⊢
  refine rest_enter (d := 13) (R := fun vv w' => vv = .tuple #[.agg (kd p r c gx gy).toArray, .int .i64 0] ∧ Below w3.heap.size w3 w') rfl rfl rfl (exec_call (args := #[.int .i64 s, .slice (some ⟨γs3, 0, none⟩) 1 1]) rfl call43 rfl (mpn rfl)) (Calls.mono (kw1_ok k X Y true h1 γs3 w3 (H3.out.1.one 0 rfl)) (fun e w2 hh => ⟨_, hh.1, rfl, hh.2⟩)) ?_
  rintro _ w4 ⟨rfl, hb⟩
  have H4 : Hid (_ ∧ _) := ⟨H3.out.1.below hb, H3.out.2.trans (hb.mono H3.out.2.size)⟩
  clear hb H3
  simp only [Act.put, sa, sz, ss]
  refine rest_set (d := 9) rfl rfl rfl rfl ?_
  simp only [Act.put, sa, sz, ss]
  refine rest_set (d := 14) (v := .agg (kd p r c gx gy).toArray) (w' := w4) rfl rfl rfl (by go_simp) ?_
  simp only [Act.put, sa, sz, ss]
  refine rest_set (d := 15) (v := .int .i64 0) (w' := w4) rfl rfl rfl (by go_simp) ?_
  simp only [Act.put, sa, sz, ss]
  refine rest_set (d := 6) (v := PT w4.heap.size 0) (w' := w4.alloc (.cells (kd 0 0 0 0 0 : List Value).toArray 72)) rfl rfl rfl (ex_made72 rfl) ?_
  simp only [Act.put, sa, sz, ss]
  have o_γs5 : Hid (w.heap.size ≤ w4.heap.size) := H4.out.2.size
  have H5 : Hid (Mm (w4.alloc (.cells (kd 0 0 0 0 0 : List Value).toArray 72)) ((w4.heap.size, kd 0 0 0 0 0) :: [(γs3, pt X Y true), (γ1_0, pt X Y true)]) ∧ Below w.heap.size w (w4.alloc (.cells (kd 0 0 0 0 0 : List Value).toArray 72))) := ⟨H4.out.1.alloc _ 72 rfl, H4.out.2.alloc H4.out.2.size _⟩
  clear H4
  generalize hgw : w4.alloc (.cells (kd 0 0 0 0 0 : List Value).toArray 72) = w5 at H5 ⊢
  clear hgw
  generalize w4.heap.size = γs5 at o_γs5 H5 ⊢
  refine rest_store rfl rfl rfl (ex_storeT (vs := kd p r c gx gy) H5.out.1 0 rfl rfl rfl rfl Try.sizeOf72 rfl (Nat.le_of_ble_eq_true rfl)) ?_
  have H6 : Hid (Mm (w5.setCells γs5 0 (kd p r c gx gy)) [(γs5, kd p r c gx gy), (γs3, pt X Y true), (γ1_0, pt X Y true)] ∧ Below w.heap.size w (w5.setCells γs5 0 (kd p r c gx gy))) := ⟨H5.out.1.put 0 (off := 0) (vs := kd p r c gx gy) rfl (Nat.le_of_ble_eq_true rfl), below_setCells _ o_γs5.out _ _ _ H5.out.2⟩
  clear H5
  generalize hgw : World.setCells _ _ _ _ = w6 at H6 ⊢
  clear hgw
  refine rest_set (d := 7) rfl rfl rfl rfl ?_
  simp only [Act.put, sa, sz, ss]
  refine rest_nil (then_normal (wp_seq ?_))
  refine walk_seqB 2 [.quiet (.int .i64 0), .quiet (.bool false)] H6 ?ho3 ?he3
  case ho3 => exact ak (fun _ => ⟨rfl, fun _ _ => rfl⟩) (ak (by refine fun γ => ⟨rfl, fun w' h => ?_⟩; clear h; go_simp) trivial)
  intro _ w7 H7
  clear H6
  refine rest0 rfl (then_normal (wp_cond_false rfl ?_))
  refine wp_skip (then_normal (wp_seq ?_))
  refine walk_seqB 0 [] H7 ?ho4 ?he4
  case ho4 => exact trivial
  intro _ w8 H8
  clear H7
  refine rest_at (l := [0, 1]) rfl ?_
  refine rest_set (d := 19) (v := .slice (some ⟨w8.heap.size, 0, none⟩) 17 17) (w' := w8.alloc (.cells (by8 (fun _ => 0) 17 : List Value).toArray 5)) rfl rfl rfl (ex_mk8 rfl rfl rfl) ?_
  simp only [Act.put, sa, sz, ss]
  have o_γs9 : Hid (w.heap.size ≤ w8.heap.size) := H8.out.2.size
  have H9 : Hid (Mm (w8.alloc (.cells (by8 (fun _ => 0) 17 : List Value).toArray 5)) ((w8.heap.size, by8 (fun _ => 0) 17) :: [(γs5, kd p r c gx gy), (γs3, pt X Y true), (γ1_0, pt X Y true)]) ∧ Below w.heap.size w (w8.alloc (.cells (by8 (fun _ => 0) 17 : List Value).toArray 5))) := ⟨H8.out.1.alloc _ 5 rfl, H8.out.2.alloc H8.out.2.size _⟩
  clear H8
  generalize hgw : w8.alloc (.cells (by8 (fun _ => 0) 17 : List Value).toArray 5) = w9 at H9 ⊢
  clear hgw
  generalize w8.heap.size = γs9 at o_γs9 H9 ⊢
  refine rest_set (d := 8) rfl rfl rfl rfl ?_
  simp only [Act.put, sa, sz, ss]
  refine rest_nil (then_normal ?_)
  refine wp_seq (wp_seq ?_)
  refine walk_seqB 2 [.quiet (PT γ1_0 2), .quiet (.bool true)] H9 ?ho5 ?he5
  case ho5 => exact ak (by refine fun γ => ⟨rfl, fun w' h => ?_⟩; clear h; go_simp) (ak (fun γ => ⟨rfl, fun w' h => ex_loadC h 3 rfl rfl rfl Try.isAgg4 rfl⟩) trivial)
  intro _ w10 H10
  clear H9
  refine rest0 rfl (then_normal (wp_cond_true rfl ?_))
  refine walk_seqB 2 [.quiet (.slice (some ⟨γs9, 0, none⟩) 17 17), .quiet (PT γs9 0)] H10 ?ho6 ?he6
  case ho6 => exact ak (fun _ => ⟨rfl, fun _ _ => rfl⟩) (ak (by refine fun γ => ⟨rfl, fun w' h => ?_⟩; clear h; go_simp) trivial)
  intro _ w11 H11
  clear H10
  refine rest_at (l := [2]) rfl ?_
  refine rest_store rfl rfl rfl (ex_storeI H11.out.1 0 rfl rfl Try.sizeOf5 rfl rfl (by simp [by8_len])) ?_
  have H12 : Hid (Mm (w11.setCells γs9 0 [.int .u8 1]) [(γs9, by8 (upd (fun _ => 0) 0 1) 17), (γs5, kd p r c gx gy), (γs3, pt X Y true), (γ1_0, pt X Y true)] ∧ Below w.heap.size w (w11.setCells γs9 0 [.int .u8 1])) := ⟨by
    have h := H11.out.1.put 0 (off := 0) (vs := [.int .u8 1]) rfl (by simp [by8_len])
    rw [by8_patch _ _ _ (by decide)] at h
    exact h, below_setCells _ o_γs9.out _ _ _ H11.out.2⟩
  clear H11
  generalize hgw : World.setCells _ _ _ _ = w12 at H12 ⊢
  clear hgw
  refine rest_nil (then_normal (wp_seq ?_))
  refine walk_anyB 4 [.quiet (.slice (some ⟨γs9, 0, none⟩) 17 17), .quiet (.slice (some ⟨γs9, 1, none⟩) 16 16), .quiet (PT γ1_0 0), .quiet (U X)] H12 ?ho7 ?he7
  case ho7 => exact ak (fun _ => ⟨rfl, fun _ _ => rfl⟩) (ak (by refine fun γ => ⟨rfl, fun w' h => ?_⟩; clear h; go_simp) (ak (by refine fun γ => ⟨rfl, fun w' h => ?_⟩; clear h; go_simp) (ak (fun γ => ⟨rfl, fun w' h => ex_loadC h 3 rfl rfl rfl Try.isAgg23 rfl⟩) trivial)))
  intro _ w13 H13
  clear H12
  refine rest_at (l := [4]) rfl ?_
  refine rest_enter (d := 28) (R := fun vv w' => vv = .tuple #[] ∧ Mm w' [(γs9, by8 (pn (upd (fun _ => 0) 0 1) 1 X 8) 17)] ∧ Kp γs9 w13 w') rfl rfl rfl (exec_call (args := #[.slice (some ⟨γs9, 1, none⟩) 16 16, U X]) rfl call67 rfl (mpn rfl)) (Calls.mono (put_any γs9 1 16 16 X (upd (fun _ => 0) 0 1) (by decide) (by decide) w13 (H13.out.1.one 0 rfl)) (fun e w2 hh => ⟨_, hh.1, rfl, hh.2⟩)) ?_
  rintro _ w14 ⟨rfl, hn, hp⟩
  have H14 : Hid (Mm w14 [(γs9, by8 (pn (upd (fun _ => 0) 0 1) 1 X 8) 17), (γs5, kd p r c gx gy), (γs3, pt X Y true), (γ1_0, pt X Y true)] ∧ Below w.heap.size w w14) := ⟨H13.out.1.change 0 rfl hp hn, Below.kp H13.out.2 hp o_γs9.out H13.out.2.size⟩
  clear hn hp H13
  simp only [Act.put, sa, sz, ss]
  refine rest_nil (then_normal (wp_seq ?_))
  refine walk_anyB 4 [.quiet (.slice (some ⟨γs9, 0, none⟩) 17 17), .quiet (.slice (some ⟨γs9, 9, none⟩) 8 8), .quiet (PT γ1_0 1), .quiet (U Y)] H14 ?ho8 ?he8
  case ho8 => exact ak (fun _ => ⟨rfl, fun _ _ => rfl⟩) (ak (by refine fun γ => ⟨rfl, fun w' h => ?_⟩; clear h; go_simp) (ak (by refine fun γ => ⟨rfl, fun w' h => ?_⟩; clear h; go_simp) (ak (fun γ => ⟨rfl, fun w' h => ex_loadC h 3 rfl rfl rfl Try.isAgg23 rfl⟩) trivial)))
  intro _ w15 H15
  clear H14
  refine rest_at (l := [4]) rfl ?_
  refine rest_enter (d := 33) (R := fun vv w' => vv = .tuple #[] ∧ Mm w' [(γs9, by8 (pn (pn (upd (fun _ => 0) 0 1) 1 X 8) 9 Y 8) 17)] ∧ Kp γs9 w15 w') rfl rfl rfl (exec_call (args := #[.slice (some ⟨γs9, 9, none⟩) 8 8, U Y]) rfl call67 rfl (mpn rfl)) (Calls.mono (put_any γs9 9 8 8 Y (pn (upd (fun _ => 0) 0 1) 1 X 8) (by decide) (by decide) w15 (H15.out.1.one 0 rfl)) (fun e w2 hh => ⟨_, hh.1, rfl, hh.2⟩)) ?_
  rintro _ w16 ⟨rfl, hn, hp⟩
  have H16 : Hid (Mm w16 [(γs9, by8 (pn (pn (upd (fun _ => 0) 0 1) 1 X 8) 9 Y 8) 17), (γs5, kd p r c gx gy), (γs3, pt X Y true), (γ1_0, pt X Y true)] ∧ Below w.heap.size w w16) := ⟨H15.out.1.change 0 rfl hp hn, Below.kp H15.out.2 hp o_γs9.out H15.out.2.size⟩
  clear hn hp H15
  simp only [Act.put, sa, sz, ss]
  refine rest_nil (then_normal (wp_seq ?_))
  refine walk_seqB 3 [.quiet (.slice (some ⟨γs9, 0, none⟩) 17 17), .quiet (.slice (some ⟨γs9, 0, none⟩) 17 17), .quiet (.int .i64 0)] H16 ?ho9 ?he9
  case ho9 => exact ak (fun _ => ⟨rfl, fun _ _ => rfl⟩) (ak (fun _ => ⟨rfl, fun _ _ => rfl⟩) (ak (fun _ => ⟨rfl, fun _ _ => rfl⟩) trivial))
  intro _ w17 H17
  clear H16
  refine rest0 rfl (then_normal (wp_ret ?_))
  repeat (first | refine then_ret ?_ | refine block_ret ?_)
  refine bodyPost_ret (v := .tuple #[.slice (some ⟨γs9, 0, none⟩) 17 17, .int .i64 0]) (by simp [results, Try.results35, go_sem, *]) rfl ?_
  exact ⟨H17.out.2, γs9, rfl, o_γs9.out, H17.out.1.blk _ (List.mem_of_getElem? (i := 0) rfl)⟩
set_option maxHeartbeats 1000000 in
set_option maxRecDepth 100000 in
theorem bytes_no (s : Int) (h1 : s ≠ 1) (h2 : s ≠ 2) (X Y : Nat) (Z : Bool) (w : World) :
    Calls Try.prog 35 #[.int .i64 s, .agg (pt X Y Z).toArray] w fun e w' => e = .returned (.tuple #[.slice none 0 0, .int .i64 2]) ∧ Below w.heap.size w w' := by
  have H0 : Hid (_ ∧ _) := ⟨Mm.nil w, Below.refl w.heap.size w⟩
  go_enter Try.func35, Try.ntmps35
  refine wp_seq ?_
  refine walk_seqA 3 [.made (pt X Y Z) 25, .quiet (.slice none 0 0), .quiet (.int .i64 0)] (sB H0) ?ho1 ?he1
  case ho1 => exact ak (fun γ => ⟨rfl, fun w' => ex_boxT rfl rfl⟩) (ak (fun _ => ⟨rfl, fun _ _ => rfl⟩) (ak (fun _ => ⟨rfl, fun _ _ => rfl⟩) trivial))
  intro γ w1 l hM hl
  have H1 : Hid (Mm w1 [(γ 0, pt X Y Z)] ∧ _) := growB H0 hM (Nat.le_refl _) hl [0] rfl (by decide)
  have o1_0 := ownB H0 hM (Nat.le_refl _) hl (i := 0) rfl
  clear hM hl l
  generalize γ 0 = γ1_0 at H1 o1_0 ⊢
  clear γ
  refine rest0 rfl (then_normal (wp_seq (wp_seq ?_)))
  refine walk_seqB 2 [.quiet (.int .i64 s), .quiet (.agg (pt X Y Z).toArray)] H1 ?ho2 ?he2
  case ho2 => exact ak (fun _ => ⟨rfl, fun _ _ => rfl⟩) (ak (fun γ => ⟨rfl, fun w' h => ex_loadT h 0 rfl rfl rfl Try.isAgg25 Try.sizeOf25 rfl rfl⟩) trivial)
  intro _ w2 H2
  clear H1
  refine rest_at (l := [2, 3, 4, 5, 6, 7, 8, 9]) rfl ?_
  refine rest_set (d := 12) (v := .slice (some ⟨w2.heap.size, 0, none⟩) 1 1) (w' := w2.alloc (.cells (pt X Y Z : List Value).toArray 25)) rfl rfl rfl (ex_bs1 rfl rfl) ?_
  simp only [Act.put, sa, sz, ss]
  have o_γs3 : Hid (w.heap.size ≤ w2.heap.size) := H2.out.2.size
  have H3 : Hid (Mm (w2.alloc (.cells (pt X Y Z : List Value).toArray 25)) ((w2.heap.size, pt X Y Z) :: [(γ1_0, pt X Y Z)]) ∧ Below w.heap.size w (w2.alloc (.cells (pt X Y Z : List Value).toArray 25))) := ⟨H2.out.1.alloc _ 25 rfl, H2.out.2.alloc H2.out.2.size _⟩
  clear H2
  generalize hgw : w2.alloc (.cells (pt X Y Z : List Value).toArray 25) = w3 at H3 ⊢
  clear hgw
  generalize w2.heap.size = γs3 at o_γs3 H3 ⊢
  refine rest_enter (d := 13) (R := fun vv w' => vv = .tuple #[.agg (kd 0 0 0 0 0).toArray, .int .i64 2] ∧ Below w3.heap.size w3 w') rfl rfl rfl (exec_call (args := #[.int .i64 s, .slice (some ⟨γs3, 0, none⟩) 1 1]) rfl call43 rfl (mpn rfl)) (Calls.mono (kw_arg s h1 h2 _ w3) (fun e w2 hh => ⟨_, hh.1, rfl, hh.2⟩)) ?_
  rintro _ w4 ⟨rfl, hb⟩
  have H4 : Hid (_ ∧ _) := ⟨H3.out.1.below hb, H3.out.2.trans (hb.mono H3.out.2.size)⟩
  clear hb H3
  simp only [Act.put, sa, sz, ss]
  refine rest_set (d := 9) rfl rfl rfl rfl ?_
  simp only [Act.put, sa, sz, ss]
  refine rest_set (d := 14) (v := .agg (kd 0 0 0 0 0).toArray) (w' := w4) rfl rfl rfl (by go_simp) ?_
  simp only [Act.put, sa, sz, ss]
  refine rest_set (d := 15) (v := .int .i64 2) (w' := w4) rfl rfl rfl (by go_simp) ?_
  simp only [Act.put, sa, sz, ss]
  refine rest_set (d := 6) (v := PT w4.heap.size 0) (w' := w4.alloc (.cells (kd 0 0 0 0 0 : List Value).toArray 72)) rfl rfl rfl (ex_made72 rfl) ?_
  simp only [Act.put, sa, sz, ss]
  have o_γs5 : Hid (w.heap.size ≤ w4.heap.size) := H4.out.2.size
  have H5 : Hid (Mm (w4.alloc (.cells (kd 0 0 0 0 0 : List Value).toArray 72)) ((w4.heap.size, kd 0 0 0 0 0) :: [(γs3, pt X Y Z), (γ1_0, pt X Y Z)]) ∧ Below w.heap.size w (w4.alloc (.cells (kd 0 0 0 0 0 : List Value).toArray 72))) := ⟨H4.out.1.alloc _ 72 rfl, H4.out.2.alloc H4.out.2.size _⟩
  clear H4
  generalize hgw : w4.alloc (.cells (kd 0 0 0 0 0 : List Value).toArray 72) = w5 at H5 ⊢
  clear hgw
  generalize w4.heap.size = γs5 at o_γs5 H5 ⊢
  refine rest_store rfl rfl rfl (ex_storeT (vs := kd 0 0 0 0 0) H5.out.1 0 rfl rfl rfl rfl Try.sizeOf72 rfl (Nat.le_of_ble_eq_true rfl)) ?_
  have H6 : Hid (Mm (w5.setCells γs5 0 (kd 0 0 0 0 0)) [(γs5, kd 0 0 0 0 0), (γs3, pt X Y Z), (γ1_0, pt X Y Z)] ∧ Below w.heap.size w (w5.setCells γs5 0 (kd 0 0 0 0 0))) := ⟨H5.out.1.put 0 (off := 0) (vs := kd 0 0 0 0 0) rfl (Nat.le_of_ble_eq_true rfl), below_setCells _ o_γs5.out _ _ _ H5.out.2⟩
  clear H5
  generalize hgw : World.setCells _ _ _ _ = w6 at H6 ⊢
  clear hgw
  refine rest_set (d := 7) rfl rfl rfl rfl ?_
  simp only [Act.put, sa, sz, ss]
  refine rest_nil (then_normal (wp_seq ?_))
  refine walk_seqB 2 [.quiet (.int .i64 2), .quiet (.bool true)] H6 ?ho3 ?he3
  case ho3 => exact ak (fun _ => ⟨rfl, fun _ _ => rfl⟩) (ak (by refine fun γ => ⟨rfl, fun w' h => ?_⟩; clear h; go_simp) trivial)
  intro _ w7 H7
  clear H6
  refine rest0 rfl (then_normal (wp_cond_true rfl (wp_seq ?_)))
  refine walk_seqB 3 [.quiet (.int .i64 2), .quiet (.slice none 0 0), .quiet (.int .i64 2)] H7 ?ho4 ?he4
  case ho4 => exact ak (fun _ => ⟨rfl, fun _ _ => rfl⟩) (ak (fun _ => ⟨rfl, fun _ _ => rfl⟩) (ak (fun _ => ⟨rfl, fun _ _ => rfl⟩) trivial))
  intro _ w8 H8
  clear H7
  refine rest0 rfl (then_normal (wp_ret ?_))
  repeat (first | refine then_ret ?_ | refine block_ret ?_)
  refine bodyPost_ret (v := .tuple #[.slice none 0 0, .int .i64 2]) (by simp [results, Try.results35, go_sem, *]) rfl ?_
  exact ⟨rfl, H8.out.2⟩
/-- A point's bytes. -/
def pb (X Y : Nat) (Z : Bool) : Nat → Int := fun j => if j = 0 then (if Z = true then 1 else 0) else if j < 9 then byt X (j - 1) else byt Y (j - 9)
theorem pb_f (X Y j : Nat) (h : j < 17) : pn (pn (fun _ => 0) 1 X 8) 9 Y 8 j = pb X Y false j := by
  unfold pn pb
  by_cases h0 : j = 0
  · rw [if_neg (by omega), if_neg (by omega), if_pos h0, if_neg (by decide)]
  · rw [if_neg h0]
    by_cases h9 : j < 9
    · rw [if_neg (by omega), if_pos (by omega), if_pos h9]
    · rw [if_pos (by omega), if_neg h9]
theorem pb_t (X Y j : Nat) (h : j < 17) : pn (pn (upd (fun _ => 0) 0 1) 1 X 8) 9 Y 8 j = pb X Y true j := by
  unfold pn pb upd
  by_cases h0 : j = 0
  · rw [if_neg (by omega), if_neg (by omega), if_pos h0, if_pos h0, if_pos rfl]
  · simp only [if_neg h0]
    by_cases h9 : j < 9
    · rw [if_neg (by omega), if_pos (by omega), if_pos h9]
    · rw [if_pos (by omega), if_neg h9]
theorem Bytes_ok (k : Kd s p r c gx gy) (X Y : Nat) (Z : Bool) (h1 : oc p X Y Z = true) (w : World) : Calls Try.prog 35 #[.int .i64 s, V (pt X Y Z)] w fun e w' => Below w.heap.size w w' ∧ ∃ g, e = .returned (.tuple #[.slice (some ⟨g, 0, none⟩) 17 17, .int .i64 0]) ∧ w.heap.size ≤ g ∧ g < w'.heap.size ∧ Blk w' g (by8 (pb X Y Z) 17) := by
  cases Z
  · have h := bytes_f k X Y h1 w
    rw [by8_congr (fun j hj => pb_f X Y j hj)] at h
    exact h
  · have h := bytes_t k X Y h1 w
    rw [by8_congr (fun j hj => pb_t X Y j hj)] at h
    exact h
end
end Rg
end Go.Proofs.Ytjmbgchoioepjaa
end
