/- Texts of the proof, joined. -/
import Derived.Test.YtjmbgchoioepjaaP6
section
namespace Go.Proofs.Ytjmbgchoioepjaa
open Go.RowKit
namespace Rg
theorem ig_lt {p r X Y : Nat} {Z : Bool} (hp : Pr p) (h : ig p r X Y Z = true) : X < p ∧ Y < p := by
  unfold ig at h
  simp only [Bool.and_eq_true] at h
  exact oc_lt hp h.1
theorem allIn_is {p r c gx gy : Nat} (hp : Pr p) (hr : r < 18446744073709551616) (X Y : Nat) (Z : Bool) (X' Y' : Nat) (Z' : Bool) (v : Bool) (h : (ig p r X Y Z && ig p r X' Y' Z') = v) (g : Nat) (w : World) (hm : Mm w [(g, p2 X Y Z X' Y' Z')]) : Calls Try.prog 60 #[.agg (kd p r c gx gy).toArray, .slice (some ⟨g, 0, none⟩) 2 2] w fun e w' => e = .returned (.bool v) ∧ Below w.heap.size w w' := by
  rw [← h]
  exact allIn_any hp hr X Y Z X' Y' Z' g w hm
theorem call27 : ∀ args w, (callFunc 27 args).run Try.prog w = .ok (.enter 27 args) w := by intro args w; go_simp
theorem call60 : ∀ args w, (callFunc 60 args).run Try.prog w = .ok (.enter 60 args) w := by intro args w; go_simp
theorem call61 : ∀ args w, (callFunc 61 args).run Try.prog w = .ok (.enter 61 args) w := by intro args w; go_simp
theorem call62 : ∀ args w, (callFunc 62 args).run Try.prog w = .ok (.enter 62 args) w := by intro args w; go_simp
theorem call64 : ∀ args w, (callFunc 64 args).run Try.prog w = .ok (.enter 64 args) w := by intro args w; go_simp
section
variable {s : Int} {p r c gx gy : Nat}
set_option maxHeartbeats 1000000 in
set_option maxRecDepth 100000 in
theorem Pair_pt (k : Kd s p r c gx gy) (X Y : Nat) (Z : Bool) (X' Y' : Nat) (Z' : Bool) (hg : (ig p r X Y Z && ig p r X' Y' Z') = false) (w : World) :
    Calls Try.prog 27 #[.int .i64 s, .agg (pt X Y Z).toArray, .agg (pt X' Y' Z').toArray] w fun e w' => e = .returned (.tuple #[V (l2 0 0), .int .i64 5]) ∧ Below w.heap.size w w' := by
  have H0 : Hid (_ ∧ _) := ⟨Mm.nil w, Below.refl w.heap.size w⟩
  go_enter Try.func27, Try.ntmps27
  refine wp_seq ?_
  refine walk_seqA 4 [.made (pt X Y Z) 25, .made (pt X' Y' Z') 25, .made (l2 0 0) 49, .quiet (.int .i64 0)] (sB H0) ?ho1 ?he1
  case ho1 => exact ak (fun γ => ⟨rfl, fun w' => ex_boxT rfl rfl⟩) (ak (fun γ => ⟨rfl, fun w' => ex_boxT rfl rfl⟩) (ak (fun γ => ⟨rfl, fun w' => ex_made49 rfl⟩) (ak (fun _ => ⟨rfl, fun _ _ => rfl⟩) trivial)))
  intro γ w1 l hM hl
  have H1 : Hid (Mm w1 [(γ 0, pt X Y Z), (γ 1, pt X' Y' Z'), (γ 2, l2 0 0)] ∧ _) := growB H0 hM (Nat.le_refl _) hl [0, 1, 2] rfl (by decide)
  have o1_0 := ownB H0 hM (Nat.le_refl _) hl (i := 0) rfl
  have o1_1 := ownB H0 hM (Nat.le_refl _) hl (i := 1) rfl
  have o1_2 := ownB H0 hM (Nat.le_refl _) hl (i := 2) rfl
  clear hM hl l
  generalize γ 0 = γ1_0 at H1 o1_0 ⊢
  generalize γ 1 = γ1_1 at H1 o1_1 ⊢
  generalize γ 2 = γ1_2 at H1 o1_2 ⊢
  clear γ
  refine rest0 rfl (then_normal (wp_seq ?_))
  refine walk_seqA 8 [.quiet (.int .i64 s), .call (.tuple #[.agg (kd p r c gx gy).toArray, .int .i64 0]), .quiet (.tuple #[.agg (kd p r c gx gy).toArray, .int .i64 0]), .quiet (.agg (kd p r c gx gy).toArray), .quiet (.int .i64 0), .made (kd 0 0 0 0 0) 72, .laid 5 (kd 0 0 0 0 0) (kd p r c gx gy), .quiet (.int .i64 0)] (sB H1) ?ho2 ?he2 (hL := ?hL2)
  case hL2 => exact ⟨⟨_, rfl⟩, trivial⟩
  case ho2 => exact ak (fun _ => ⟨rfl, fun _ _ => rfl⟩) (ak (fun γ => ⟨rfl, fun w' h => ⟨42, #[.int .i64 s], exec_call rfl call42 rfl (mpn rfl), k.kind w'⟩⟩) (ak (fun _ => ⟨rfl, fun _ _ => rfl⟩) (ak (by refine fun γ => ⟨rfl, fun w' h => ?_⟩; clear h; go_simp) (ak (by refine fun γ => ⟨rfl, fun w' h => ?_⟩; clear h; go_simp) (ak (fun γ => ⟨rfl, fun w' => ex_made72 rfl⟩) (ak (fun γ => ⟨rfl, rfl, rfl, fun w' h => ex_laidT h rfl rfl Try.sizeOf72 rfl rfl rfl⟩) (ak (fun _ => ⟨rfl, fun _ _ => rfl⟩) trivial)))))))
  intro γ w2 l hM hl
  have H2 : Hid (Mm w2 [(γ 5, kd p r c gx gy), (γ1_0, pt X Y Z), (γ1_1, pt X' Y' Z'), (γ1_2, l2 0 0)] ∧ _) := growB H1 hM (Nat.le_refl _) hl [5] rfl (by decide)
  have o2_5 := ownB H1 hM (Nat.le_refl _) hl (i := 5) rfl
  clear hM hl l H1
  generalize γ 5 = γ2_5 at H2 o2_5 ⊢
  clear γ
  refine rest0 rfl (then_normal (wp_seq (wp_seq ?_)))
  refine walk_seqB 2 [.quiet (.int .i64 0), .quiet (.bool false)] H2 ?ho3 ?he3
  case ho3 => exact ak (fun _ => ⟨rfl, fun _ _ => rfl⟩) (ak (by refine fun γ => ⟨rfl, fun w' h => ?_⟩; clear h; go_simp) trivial)
  intro _ w3 H3
  clear H2
  refine rest0 rfl (then_normal (wp_cond_false rfl ?_))
  refine wp_skip (then_normal ?_)
  refine wp_seq (wp_seq ?_)
  refine walk_seqB 3 [.quiet (.agg (kd p r c gx gy).toArray), .quiet (.agg (pt X Y Z).toArray), .quiet (.agg (pt X' Y' Z').toArray)] H3 ?ho4 ?he4
  case ho4 => exact ak (fun γ => ⟨rfl, fun w' h => ex_loadT h 0 rfl rfl rfl Try.isAgg72 Try.sizeOf72 rfl rfl⟩) (ak (fun γ => ⟨rfl, fun w' h => ex_loadT h 1 rfl rfl rfl Try.isAgg25 Try.sizeOf25 rfl rfl⟩) (ak (fun γ => ⟨rfl, fun w' h => ex_loadT h 2 rfl rfl rfl Try.isAgg25 Try.sizeOf25 rfl rfl⟩) trivial))
  intro _ w4 H4
  clear H3
  refine rest_at (l := [3, 4, 5]) rfl ?_
  refine rest_set (d := 22) (v := .slice (some ⟨w4.heap.size, 0, none⟩) 2 2) (w' := w4.alloc (.cells (p2 X Y Z X' Y' Z' : List Value).toArray 25)) rfl rfl rfl (ex_bs2 rfl rfl rfl) ?_
  simp only [Act.put, sa, sz, ss]
  have o_γs5 : Hid (w.heap.size ≤ w4.heap.size) := H4.out.2.size
  have H5 : Hid (Mm (w4.alloc (.cells (p2 X Y Z X' Y' Z' : List Value).toArray 25)) ((w4.heap.size, p2 X Y Z X' Y' Z') :: [(γ2_5, kd p r c gx gy), (γ1_0, pt X Y Z), (γ1_1, pt X' Y' Z'), (γ1_2, l2 0 0)]) ∧ Below w.heap.size w (w4.alloc (.cells (p2 X Y Z X' Y' Z' : List Value).toArray 25))) := ⟨H4.out.1.alloc _ 25 rfl, H4.out.2.alloc H4.out.2.size _⟩
  clear H4
  generalize hgw : w4.alloc (.cells (p2 X Y Z X' Y' Z' : List Value).toArray 25) = w5 at H5 ⊢
  clear hgw
  generalize w4.heap.size = γs5 at o_γs5 H5 ⊢
  refine rest_enter (d := 23) (R := fun vv w' => vv = .bool false ∧ Below w5.heap.size w5 w') rfl rfl rfl (exec_call (args := #[.agg (kd p r c gx gy).toArray, .slice (some ⟨γs5, 0, none⟩) 2 2]) rfl call60 rfl (mpn rfl)) (Calls.mono (allIn_is k.pr k.rb _ _ _ _ _ _ _ hg γs5 w5 (H5.out.1.one 0 rfl)) (fun e w2 hh => ⟨_, hh.1, rfl, hh.2⟩)) ?_
  rintro _ w6 ⟨rfl, hb⟩
  have H6 : Hid (_ ∧ _) := ⟨H5.out.1.below hb, H5.out.2.trans (hb.mono H5.out.2.size)⟩
  clear hb H5
  simp only [Act.put, sa, sz, ss]
  refine rest_set (d := 24) (v := .bool true) (w' := w6) rfl rfl rfl (by go_simp) ?_
  simp only [Act.put, sa, sz, ss]
  refine rest_nil (then_normal ?_)
  refine wp_cond_true rfl (wp_seq ?_)
  refine walk_seqB 1 [.quiet (.agg (l2 0 0).toArray)] H6 ?ho5 ?he5
  case ho5 => exact ak (fun γ => ⟨rfl, fun w' _ => ex_build49_ rfl⟩) trivial
  intro _ w7 H7
  clear H6
  refine rest_at (l := [1, 2]) rfl ?_
  refine rest_store rfl rfl rfl (ex_storeT (vs := l2 0 0) H7.out.1 4 rfl rfl rfl rfl Try.sizeOf49 rfl (Nat.le_of_ble_eq_true rfl)) ?_
  have H8 : Hid (Mm (w7.setCells γ1_2 0 (l2 0 0)) [(γs5, p2 X Y Z X' Y' Z'), (γ2_5, kd p r c gx gy), (γ1_0, pt X Y Z), (γ1_1, pt X' Y' Z'), (γ1_2, l2 0 0)] ∧ Below w.heap.size w (w7.setCells γ1_2 0 (l2 0 0))) := ⟨H7.out.1.put 4 (off := 0) (vs := l2 0 0) rfl (Nat.le_of_ble_eq_true rfl), below_setCells _ o1_2.out _ _ _ H7.out.2⟩
  clear H7
  generalize hgw : World.setCells _ _ _ _ = w8 at H8 ⊢
  clear hgw
  refine rest_set (d := 7) rfl rfl rfl rfl ?_
  simp only [Act.put, sa, sz, ss]
  refine rest_nil (then_normal (wp_ret ?_))
  repeat (first | refine then_ret ?_ | refine block_ret ?_)
  have hf0 := var_T H8.out.1 4 rfl Try.isAgg49 Try.sizeOf49 rfl
  refine bodyPost_ret (v := .tuple #[.agg (l2 0 0).toArray, .int .i64 5]) (by simp [results, Try.results27, asAddr, Act.eval, hf0]) rfl ?_
  exact ⟨rfl, H8.out.2⟩
set_option maxHeartbeats 1000000 in
set_option maxRecDepth 100000 in
theorem Pair_z (k : Kd s p r c gx gy) (X Y : Nat) (X' Y' : Nat) (Z' : Bool) (hg : (ig p r X Y true && ig p r X' Y' Z') = true) (w : World) :
    Calls Try.prog 27 #[.int .i64 s, .agg (pt X Y true).toArray, .agg (pt X' Y' Z').toArray] w fun e w' => e = .returned (.tuple #[V (l2 1 0), .int .i64 0]) ∧ Below w.heap.size w w' := by
  have H0 : Hid (_ ∧ _) := ⟨Mm.nil w, Below.refl w.heap.size w⟩
  go_enter Try.func27, Try.ntmps27
  refine wp_seq ?_
  refine walk_seqA 4 [.made (pt X Y true) 25, .made (pt X' Y' Z') 25, .made (l2 0 0) 49, .quiet (.int .i64 0)] (sB H0) ?ho1 ?he1
  case ho1 => exact ak (fun γ => ⟨rfl, fun w' => ex_boxT rfl rfl⟩) (ak (fun γ => ⟨rfl, fun w' => ex_boxT rfl rfl⟩) (ak (fun γ => ⟨rfl, fun w' => ex_made49 rfl⟩) (ak (fun _ => ⟨rfl, fun _ _ => rfl⟩) trivial)))
  intro γ w1 l hM hl
  have H1 : Hid (Mm w1 [(γ 0, pt X Y true), (γ 1, pt X' Y' Z'), (γ 2, l2 0 0)] ∧ _) := growB H0 hM (Nat.le_refl _) hl [0, 1, 2] rfl (by decide)
  have o1_0 := ownB H0 hM (Nat.le_refl _) hl (i := 0) rfl
  have o1_1 := ownB H0 hM (Nat.le_refl _) hl (i := 1) rfl
  have o1_2 := ownB H0 hM (Nat.le_refl _) hl (i := 2) rfl
  clear hM hl l
  generalize γ 0 = γ1_0 at H1 o1_0 ⊢
  generalize γ 1 = γ1_1 at H1 o1_1 ⊢
  generalize γ 2 = γ1_2 at H1 o1_2 ⊢
  clear γ
  refine rest0 rfl (then_normal (wp_seq ?_))
  refine walk_seqA 8 [.quiet (.int .i64 s), .call (.tuple #[.agg (kd p r c gx gy).toArray, .int .i64 0]), .quiet (.tuple #[.agg (kd p r c gx gy).toArray, .int .i64 0]), .quiet (.agg (kd p r c gx gy).toArray), .quiet (.int .i64 0), .made (kd 0 0 0 0 0) 72, .laid 5 (kd 0 0 0 0 0) (kd p r c gx gy), .quiet (.int .i64 0)] (sB H1) ?ho2 ?he2 (hL := ?hL2)
  case hL2 => exact ⟨⟨_, rfl⟩, trivial⟩
  case ho2 => exact ak (fun _ => ⟨rfl, fun _ _ => rfl⟩) (ak (fun γ => ⟨rfl, fun w' h => ⟨42, #[.int .i64 s], exec_call rfl call42 rfl (mpn rfl), k.kind w'⟩⟩) (ak (fun _ => ⟨rfl, fun _ _ => rfl⟩) (ak (by refine fun γ => ⟨rfl, fun w' h => ?_⟩; clear h; go_simp) (ak (by refine fun γ => ⟨rfl, fun w' h => ?_⟩; clear h; go_simp) (ak (fun γ => ⟨rfl, fun w' => ex_made72 rfl⟩) (ak (fun γ => ⟨rfl, rfl, rfl, fun w' h => ex_laidT h rfl rfl Try.sizeOf72 rfl rfl rfl⟩) (ak (fun _ => ⟨rfl, fun _ _ => rfl⟩) trivial)))))))
  intro γ w2 l hM hl
  have H2 : Hid (Mm w2 [(γ 5, kd p r c gx gy), (γ1_0, pt X Y true), (γ1_1, pt X' Y' Z'), (γ1_2, l2 0 0)] ∧ _) := growB H1 hM (Nat.le_refl _) hl [5] rfl (by decide)
  have o2_5 := ownB H1 hM (Nat.le_refl _) hl (i := 5) rfl
  clear hM hl l H1
  generalize γ 5 = γ2_5 at H2 o2_5 ⊢
  clear γ
  refine rest0 rfl (then_normal (wp_seq (wp_seq ?_)))
  refine walk_seqB 2 [.quiet (.int .i64 0), .quiet (.bool false)] H2 ?ho3 ?he3
  case ho3 => exact ak (fun _ => ⟨rfl, fun _ _ => rfl⟩) (ak (by refine fun γ => ⟨rfl, fun w' h => ?_⟩; clear h; go_simp) trivial)
  intro _ w3 H3
  clear H2
  refine rest0 rfl (then_normal (wp_cond_false rfl ?_))
  refine wp_skip (then_normal ?_)
  refine wp_seq (wp_seq ?_)
  refine walk_seqB 3 [.quiet (.agg (kd p r c gx gy).toArray), .quiet (.agg (pt X Y true).toArray), .quiet (.agg (pt X' Y' Z').toArray)] H3 ?ho4 ?he4
  case ho4 => exact ak (fun γ => ⟨rfl, fun w' h => ex_loadT h 0 rfl rfl rfl Try.isAgg72 Try.sizeOf72 rfl rfl⟩) (ak (fun γ => ⟨rfl, fun w' h => ex_loadT h 1 rfl rfl rfl Try.isAgg25 Try.sizeOf25 rfl rfl⟩) (ak (fun γ => ⟨rfl, fun w' h => ex_loadT h 2 rfl rfl rfl Try.isAgg25 Try.sizeOf25 rfl rfl⟩) trivial))
  intro _ w4 H4
  clear H3
  refine rest_at (l := [3, 4, 5]) rfl ?_
  refine rest_set (d := 22) (v := .slice (some ⟨w4.heap.size, 0, none⟩) 2 2) (w' := w4.alloc (.cells (p2 X Y true X' Y' Z' : List Value).toArray 25)) rfl rfl rfl (ex_bs2 rfl rfl rfl) ?_
  simp only [Act.put, sa, sz, ss]
  have o_γs5 : Hid (w.heap.size ≤ w4.heap.size) := H4.out.2.size
  have H5 : Hid (Mm (w4.alloc (.cells (p2 X Y true X' Y' Z' : List Value).toArray 25)) ((w4.heap.size, p2 X Y true X' Y' Z') :: [(γ2_5, kd p r c gx gy), (γ1_0, pt X Y true), (γ1_1, pt X' Y' Z'), (γ1_2, l2 0 0)]) ∧ Below w.heap.size w (w4.alloc (.cells (p2 X Y true X' Y' Z' : List Value).toArray 25))) := ⟨H4.out.1.alloc _ 25 rfl, H4.out.2.alloc H4.out.2.size _⟩
  clear H4
  generalize hgw : w4.alloc (.cells (p2 X Y true X' Y' Z' : List Value).toArray 25) = w5 at H5 ⊢
  clear hgw
  generalize w4.heap.size = γs5 at o_γs5 H5 ⊢
  refine rest_enter (d := 23) (R := fun vv w' => vv = .bool true ∧ Below w5.heap.size w5 w') rfl rfl rfl (exec_call (args := #[.agg (kd p r c gx gy).toArray, .slice (some ⟨γs5, 0, none⟩) 2 2]) rfl call60 rfl (mpn rfl)) (Calls.mono (allIn_is k.pr k.rb _ _ _ _ _ _ _ hg γs5 w5 (H5.out.1.one 0 rfl)) (fun e w2 hh => ⟨_, hh.1, rfl, hh.2⟩)) ?_
  rintro _ w6 ⟨rfl, hb⟩
  have H6 : Hid (_ ∧ _) := ⟨H5.out.1.below hb, H5.out.2.trans (hb.mono H5.out.2.size)⟩
  clear hb H5
  simp only [Act.put, sa, sz, ss]
  refine rest_set (d := 24) (v := .bool false) (w' := w6) rfl rfl rfl (by go_simp) ?_
  simp only [Act.put, sa, sz, ss]
  refine rest_nil (then_normal ?_)
  refine wp_cond_false rfl (wp_skip ?_)
  refine then_normal (wp_seq (wp_seq ?_))
  refine walk_seqB 6 [.quiet (PT γ1_0 2), .quiet (.bool true), .quiet (.bool true), .gone, .gone, .quiet (.bool true)] H6 ?ho5 ?he5
  case ho5 => exact ak (by refine fun γ => ⟨rfl, fun w' h => ?_⟩; clear h; go_simp) (ak (fun γ => ⟨rfl, fun w' h => ex_loadC h 2 rfl rfl rfl Try.isAgg4 rfl⟩) (ak (fun _ => ⟨rfl, fun _ _ => rfl⟩) (ak (fun γ => rfl) (ak (fun γ => rfl) (ak (by refine fun γ => ⟨rfl, fun w' h => ?_⟩; clear h; go_simp) trivial)))))
  intro _ w7 H7
  clear H6
  refine rest0 rfl (then_normal (wp_cond_true rfl (wp_seq ?_)))
  refine walk_seqB 1 [.quiet (.agg (l2 1 0).toArray)] H7 ?ho6 ?he6
  case ho6 => exact ak (fun γ => ⟨rfl, fun w' _ => ex_build49_0 rfl rfl⟩) trivial
  intro _ w8 H8
  clear H7
  refine rest_at (l := [1, 2]) rfl ?_
  refine rest_store rfl rfl rfl (ex_storeT (vs := l2 1 0) H8.out.1 4 rfl rfl rfl rfl Try.sizeOf49 rfl (Nat.le_of_ble_eq_true rfl)) ?_
  have H9 : Hid (Mm (w8.setCells γ1_2 0 (l2 1 0)) [(γs5, p2 X Y true X' Y' Z'), (γ2_5, kd p r c gx gy), (γ1_0, pt X Y true), (γ1_1, pt X' Y' Z'), (γ1_2, l2 1 0)] ∧ Below w.heap.size w (w8.setCells γ1_2 0 (l2 1 0))) := ⟨H8.out.1.put 4 (off := 0) (vs := l2 1 0) rfl (Nat.le_of_ble_eq_true rfl), below_setCells _ o1_2.out _ _ _ H8.out.2⟩
  clear H8
  generalize hgw : World.setCells _ _ _ _ = w9 at H9 ⊢
  clear hgw
  refine rest_set (d := 7) rfl rfl rfl rfl ?_
  simp only [Act.put, sa, sz, ss]
  refine rest_nil (then_normal (wp_ret ?_))
  repeat (first | refine then_ret ?_ | refine block_ret ?_)
  have hf0 := var_T H9.out.1 4 rfl Try.isAgg49 Try.sizeOf49 rfl
  refine bodyPost_ret (v := .tuple #[.agg (l2 1 0).toArray, .int .i64 0]) (by simp [results, Try.results27, asAddr, Act.eval, hf0]) rfl ?_
  exact ⟨rfl, H9.out.2⟩
set_option maxHeartbeats 1000000 in
set_option maxRecDepth 100000 in
theorem Pair_y (k : Kd s p r c gx gy) (X Y : Nat) (X' Y' : Nat) (hg : (ig p r X Y false && ig p r X' Y' true) = true) (w : World) :
    Calls Try.prog 27 #[.int .i64 s, .agg (pt X Y false).toArray, .agg (pt X' Y' true).toArray] w fun e w' => e = .returned (.tuple #[V (l2 1 0), .int .i64 0]) ∧ Below w.heap.size w w' := by
  have H0 : Hid (_ ∧ _) := ⟨Mm.nil w, Below.refl w.heap.size w⟩
  go_enter Try.func27, Try.ntmps27
  refine wp_seq ?_
  refine walk_seqA 4 [.made (pt X Y false) 25, .made (pt X' Y' true) 25, .made (l2 0 0) 49, .quiet (.int .i64 0)] (sB H0) ?ho1 ?he1
  case ho1 => exact ak (fun γ => ⟨rfl, fun w' => ex_boxT rfl rfl⟩) (ak (fun γ => ⟨rfl, fun w' => ex_boxT rfl rfl⟩) (ak (fun γ => ⟨rfl, fun w' => ex_made49 rfl⟩) (ak (fun _ => ⟨rfl, fun _ _ => rfl⟩) trivial)))
  intro γ w1 l hM hl
  have H1 : Hid (Mm w1 [(γ 0, pt X Y false), (γ 1, pt X' Y' true), (γ 2, l2 0 0)] ∧ _) := growB H0 hM (Nat.le_refl _) hl [0, 1, 2] rfl (by decide)
  have o1_0 := ownB H0 hM (Nat.le_refl _) hl (i := 0) rfl
  have o1_1 := ownB H0 hM (Nat.le_refl _) hl (i := 1) rfl
  have o1_2 := ownB H0 hM (Nat.le_refl _) hl (i := 2) rfl
  clear hM hl l
  generalize γ 0 = γ1_0 at H1 o1_0 ⊢
  generalize γ 1 = γ1_1 at H1 o1_1 ⊢
  generalize γ 2 = γ1_2 at H1 o1_2 ⊢
  clear γ
  refine rest0 rfl (then_normal (wp_seq ?_))
  refine walk_seqA 8 [.quiet (.int .i64 s), .call (.tuple #[.agg (kd p r c gx gy).toArray, .int .i64 0]), .quiet (.tuple #[.agg (kd p r c gx gy).toArray, .int .i64 0]), .quiet (.agg (kd p r c gx gy).toArray), .quiet (.int .i64 0), .made (kd 0 0 0 0 0) 72, .laid 5 (kd 0 0 0 0 0) (kd p r c gx gy), .quiet (.int .i64 0)] (sB H1) ?ho2 ?he2 (hL := ?hL2)
  case hL2 => exact ⟨⟨_, rfl⟩, trivial⟩
  case ho2 => exact ak (fun _ => ⟨rfl, fun _ _ => rfl⟩) (ak (fun γ => ⟨rfl, fun w' h => ⟨42, #[.int .i64 s], exec_call rfl call42 rfl (mpn rfl), k.kind w'⟩⟩) (ak (fun _ => ⟨rfl, fun _ _ => rfl⟩) (ak (by refine fun γ => ⟨rfl, fun w' h => ?_⟩; clear h; go_simp) (ak (by refine fun γ => ⟨rfl, fun w' h => ?_⟩; clear h; go_simp) (ak (fun γ => ⟨rfl, fun w' => ex_made72 rfl⟩) (ak (fun γ => ⟨rfl, rfl, rfl, fun w' h => ex_laidT h rfl rfl Try.sizeOf72 rfl rfl rfl⟩) (ak (fun _ => ⟨rfl, fun _ _ => rfl⟩) trivial)))))))
  intro γ w2 l hM hl
  have H2 : Hid (Mm w2 [(γ 5, kd p r c gx gy), (γ1_0, pt X Y false), (γ1_1, pt X' Y' true), (γ1_2, l2 0 0)] ∧ _) := growB H1 hM (Nat.le_refl _) hl [5] rfl (by decide)
  have o2_5 := ownB H1 hM (Nat.le_refl _) hl (i := 5) rfl
  clear hM hl l H1
  generalize γ 5 = γ2_5 at H2 o2_5 ⊢
  clear γ
  refine rest0 rfl (then_normal (wp_seq (wp_seq ?_)))
  refine walk_seqB 2 [.quiet (.int .i64 0), .quiet (.bool false)] H2 ?ho3 ?he3
  case ho3 => exact ak (fun _ => ⟨rfl, fun _ _ => rfl⟩) (ak (by refine fun γ => ⟨rfl, fun w' h => ?_⟩; clear h; go_simp) trivial)
  intro _ w3 H3
  clear H2
  refine rest0 rfl (then_normal (wp_cond_false rfl ?_))
  refine wp_skip (then_normal ?_)
  refine wp_seq (wp_seq ?_)
  refine walk_seqB 3 [.quiet (.agg (kd p r c gx gy).toArray), .quiet (.agg (pt X Y false).toArray), .quiet (.agg (pt X' Y' true).toArray)] H3 ?ho4 ?he4
  case ho4 => exact ak (fun γ => ⟨rfl, fun w' h => ex_loadT h 0 rfl rfl rfl Try.isAgg72 Try.sizeOf72 rfl rfl⟩) (ak (fun γ => ⟨rfl, fun w' h => ex_loadT h 1 rfl rfl rfl Try.isAgg25 Try.sizeOf25 rfl rfl⟩) (ak (fun γ => ⟨rfl, fun w' h => ex_loadT h 2 rfl rfl rfl Try.isAgg25 Try.sizeOf25 rfl rfl⟩) trivial))
  intro _ w4 H4
  clear H3
  refine rest_at (l := [3, 4, 5]) rfl ?_
  refine rest_set (d := 22) (v := .slice (some ⟨w4.heap.size, 0, none⟩) 2 2) (w' := w4.alloc (.cells (p2 X Y false X' Y' true : List Value).toArray 25)) rfl rfl rfl (ex_bs2 rfl rfl rfl) ?_
  simp only [Act.put, sa, sz, ss]
  have o_γs5 : Hid (w.heap.size ≤ w4.heap.size) := H4.out.2.size
  have H5 : Hid (Mm (w4.alloc (.cells (p2 X Y false X' Y' true : List Value).toArray 25)) ((w4.heap.size, p2 X Y false X' Y' true) :: [(γ2_5, kd p r c gx gy), (γ1_0, pt X Y false), (γ1_1, pt X' Y' true), (γ1_2, l2 0 0)]) ∧ Below w.heap.size w (w4.alloc (.cells (p2 X Y false X' Y' true : List Value).toArray 25))) := ⟨H4.out.1.alloc _ 25 rfl, H4.out.2.alloc H4.out.2.size _⟩
  clear H4
  generalize hgw : w4.alloc (.cells (p2 X Y false X' Y' true : List Value).toArray 25) = w5 at H5 ⊢
  clear hgw
  generalize w4.heap.size = γs5 at o_γs5 H5 ⊢
  refine rest_enter (d := 23) (R := fun vv w' => vv = .bool true ∧ Below w5.heap.size w5 w') rfl rfl rfl (exec_call (args := #[.agg (kd p r c gx gy).toArray, .slice (some ⟨γs5, 0, none⟩) 2 2]) rfl call60 rfl (mpn rfl)) (Calls.mono (allIn_is k.pr k.rb _ _ _ _ _ _ _ hg γs5 w5 (H5.out.1.one 0 rfl)) (fun e w2 hh => ⟨_, hh.1, rfl, hh.2⟩)) ?_
  rintro _ w6 ⟨rfl, hb⟩
  have H6 : Hid (_ ∧ _) := ⟨H5.out.1.below hb, H5.out.2.trans (hb.mono H5.out.2.size)⟩
  clear hb H5
  simp only [Act.put, sa, sz, ss]
  refine rest_set (d := 24) (v := .bool false) (w' := w6) rfl rfl rfl (by go_simp) ?_
  simp only [Act.put, sa, sz, ss]
  refine rest_nil (then_normal ?_)
  refine wp_cond_false rfl (wp_skip ?_)
  refine then_normal (wp_seq (wp_seq ?_))
  refine walk_seqB 6 [.quiet (PT γ1_0 2), .quiet (.bool false), .quiet (.bool false), .quiet (PT γ1_1 2), .quiet (.bool true), .quiet (.bool true)] H6 ?ho5 ?he5
  case ho5 => exact ak (by refine fun γ => ⟨rfl, fun w' h => ?_⟩; clear h; go_simp) (ak (fun γ => ⟨rfl, fun w' h => ex_loadC h 2 rfl rfl rfl Try.isAgg4 rfl⟩) (ak (fun _ => ⟨rfl, fun _ _ => rfl⟩) (ak (by refine fun γ => ⟨rfl, fun w' h => ?_⟩; clear h; go_simp) (ak (fun γ => ⟨rfl, fun w' h => ex_loadC h 3 rfl rfl rfl Try.isAgg4 rfl⟩) (ak (by refine fun γ => ⟨rfl, fun w' h => ?_⟩; clear h; go_simp) trivial)))))
  intro _ w7 H7
  clear H6
  refine rest0 rfl (then_normal (wp_cond_true rfl (wp_seq ?_)))
  refine walk_seqB 1 [.quiet (.agg (l2 1 0).toArray)] H7 ?ho6 ?he6
  case ho6 => exact ak (fun γ => ⟨rfl, fun w' _ => ex_build49_0 rfl rfl⟩) trivial
  intro _ w8 H8
  clear H7
  refine rest_at (l := [1, 2]) rfl ?_
  refine rest_store rfl rfl rfl (ex_storeT (vs := l2 1 0) H8.out.1 4 rfl rfl rfl rfl Try.sizeOf49 rfl (Nat.le_of_ble_eq_true rfl)) ?_
  have H9 : Hid (Mm (w8.setCells γ1_2 0 (l2 1 0)) [(γs5, p2 X Y false X' Y' true), (γ2_5, kd p r c gx gy), (γ1_0, pt X Y false), (γ1_1, pt X' Y' true), (γ1_2, l2 1 0)] ∧ Below w.heap.size w (w8.setCells γ1_2 0 (l2 1 0))) := ⟨H8.out.1.put 4 (off := 0) (vs := l2 1 0) rfl (Nat.le_of_ble_eq_true rfl), below_setCells _ o1_2.out _ _ _ H8.out.2⟩
  clear H8
  generalize hgw : World.setCells _ _ _ _ = w9 at H9 ⊢
  clear hgw
  refine rest_set (d := 7) rfl rfl rfl rfl ?_
  simp only [Act.put, sa, sz, ss]
  refine rest_nil (then_normal (wp_ret ?_))
  repeat (first | refine then_ret ?_ | refine block_ret ?_)
  have hf0 := var_T H9.out.1 4 rfl Try.isAgg49 Try.sizeOf49 rfl
  refine bodyPost_ret (v := .tuple #[.agg (l2 1 0).toArray, .int .i64 0]) (by simp [results, Try.results27, asAddr, Act.eval, hf0]) rfl ?_
  exact ⟨rfl, H9.out.2⟩
set_option maxHeartbeats 1000000 in
set_option maxRecDepth 100000 in
theorem Pair_g (k : Kd s p r c gx gy) (X Y : Nat) (X' Y' : Nat) (hg : (ig p r X Y false && ig p r X' Y' false) = true) (w : World) :
    Calls Try.prog 27 #[.int .i64 s, .agg (pt X Y false).toArray, .agg (pt X' Y' false).toArray] w fun e w' => e = .returned (.tuple #[V (lc (ls p c (wk p r X Y X' Y' false))), .int .i64 0]) ∧ Below w.heap.size w w' := by
  have H0 : Hid (_ ∧ _) := ⟨Mm.nil w, Below.refl w.heap.size w⟩
  go_enter Try.func27, Try.ntmps27
  refine wp_seq ?_
  refine walk_seqA 4 [.made (pt X Y false) 25, .made (pt X' Y' false) 25, .made (l2 0 0) 49, .quiet (.int .i64 0)] (sB H0) ?ho1 ?he1
  case ho1 => exact ak (fun γ => ⟨rfl, fun w' => ex_boxT rfl rfl⟩) (ak (fun γ => ⟨rfl, fun w' => ex_boxT rfl rfl⟩) (ak (fun γ => ⟨rfl, fun w' => ex_made49 rfl⟩) (ak (fun _ => ⟨rfl, fun _ _ => rfl⟩) trivial)))
  intro γ w1 l hM hl
  have H1 : Hid (Mm w1 [(γ 0, pt X Y false), (γ 1, pt X' Y' false), (γ 2, l2 0 0)] ∧ _) := growB H0 hM (Nat.le_refl _) hl [0, 1, 2] rfl (by decide)
  have o1_0 := ownB H0 hM (Nat.le_refl _) hl (i := 0) rfl
  have o1_1 := ownB H0 hM (Nat.le_refl _) hl (i := 1) rfl
  have o1_2 := ownB H0 hM (Nat.le_refl _) hl (i := 2) rfl
  clear hM hl l
  generalize γ 0 = γ1_0 at H1 o1_0 ⊢
  generalize γ 1 = γ1_1 at H1 o1_1 ⊢
  generalize γ 2 = γ1_2 at H1 o1_2 ⊢
  clear γ
  refine rest0 rfl (then_normal (wp_seq ?_))
  refine walk_seqA 8 [.quiet (.int .i64 s), .call (.tuple #[.agg (kd p r c gx gy).toArray, .int .i64 0]), .quiet (.tuple #[.agg (kd p r c gx gy).toArray, .int .i64 0]), .quiet (.agg (kd p r c gx gy).toArray), .quiet (.int .i64 0), .made (kd 0 0 0 0 0) 72, .laid 5 (kd 0 0 0 0 0) (kd p r c gx gy), .quiet (.int .i64 0)] (sB H1) ?ho2 ?he2 (hL := ?hL2)
  case hL2 => exact ⟨⟨_, rfl⟩, trivial⟩
  case ho2 => exact ak (fun _ => ⟨rfl, fun _ _ => rfl⟩) (ak (fun γ => ⟨rfl, fun w' h => ⟨42, #[.int .i64 s], exec_call rfl call42 rfl (mpn rfl), k.kind w'⟩⟩) (ak (fun _ => ⟨rfl, fun _ _ => rfl⟩) (ak (by refine fun γ => ⟨rfl, fun w' h => ?_⟩; clear h; go_simp) (ak (by refine fun γ => ⟨rfl, fun w' h => ?_⟩; clear h; go_simp) (ak (fun γ => ⟨rfl, fun w' => ex_made72 rfl⟩) (ak (fun γ => ⟨rfl, rfl, rfl, fun w' h => ex_laidT h rfl rfl Try.sizeOf72 rfl rfl rfl⟩) (ak (fun _ => ⟨rfl, fun _ _ => rfl⟩) trivial)))))))
  intro γ w2 l hM hl
  have H2 : Hid (Mm w2 [(γ 5, kd p r c gx gy), (γ1_0, pt X Y false), (γ1_1, pt X' Y' false), (γ1_2, l2 0 0)] ∧ _) := growB H1 hM (Nat.le_refl _) hl [5] rfl (by decide)
  have o2_5 := ownB H1 hM (Nat.le_refl _) hl (i := 5) rfl
  clear hM hl l H1
  generalize γ 5 = γ2_5 at H2 o2_5 ⊢
  clear γ
  refine rest0 rfl (then_normal (wp_seq (wp_seq ?_)))
  refine walk_seqB 2 [.quiet (.int .i64 0), .quiet (.bool false)] H2 ?ho3 ?he3
  case ho3 => exact ak (fun _ => ⟨rfl, fun _ _ => rfl⟩) (ak (by refine fun γ => ⟨rfl, fun w' h => ?_⟩; clear h; go_simp) trivial)
  intro _ w3 H3
  clear H2
  refine rest0 rfl (then_normal (wp_cond_false rfl ?_))
  refine wp_skip (then_normal ?_)
  refine wp_seq (wp_seq ?_)
  refine walk_seqB 3 [.quiet (.agg (kd p r c gx gy).toArray), .quiet (.agg (pt X Y false).toArray), .quiet (.agg (pt X' Y' false).toArray)] H3 ?ho4 ?he4
  case ho4 => exact ak (fun γ => ⟨rfl, fun w' h => ex_loadT h 0 rfl rfl rfl Try.isAgg72 Try.sizeOf72 rfl rfl⟩) (ak (fun γ => ⟨rfl, fun w' h => ex_loadT h 1 rfl rfl rfl Try.isAgg25 Try.sizeOf25 rfl rfl⟩) (ak (fun γ => ⟨rfl, fun w' h => ex_loadT h 2 rfl rfl rfl Try.isAgg25 Try.sizeOf25 rfl rfl⟩) trivial))
  intro _ w4 H4
  clear H3
  refine rest_at (l := [3, 4, 5]) rfl ?_
  refine rest_set (d := 22) (v := .slice (some ⟨w4.heap.size, 0, none⟩) 2 2) (w' := w4.alloc (.cells (p2 X Y false X' Y' false : List Value).toArray 25)) rfl rfl rfl (ex_bs2 rfl rfl rfl) ?_
  simp only [Act.put, sa, sz, ss]
  have o_γs5 : Hid (w.heap.size ≤ w4.heap.size) := H4.out.2.size
  have H5 : Hid (Mm (w4.alloc (.cells (p2 X Y false X' Y' false : List Value).toArray 25)) ((w4.heap.size, p2 X Y false X' Y' false) :: [(γ2_5, kd p r c gx gy), (γ1_0, pt X Y false), (γ1_1, pt X' Y' false), (γ1_2, l2 0 0)]) ∧ Below w.heap.size w (w4.alloc (.cells (p2 X Y false X' Y' false : List Value).toArray 25))) := ⟨H4.out.1.alloc _ 25 rfl, H4.out.2.alloc H4.out.2.size _⟩
  clear H4
  generalize hgw : w4.alloc (.cells (p2 X Y false X' Y' false : List Value).toArray 25) = w5 at H5 ⊢
  clear hgw
  generalize w4.heap.size = γs5 at o_γs5 H5 ⊢
  refine rest_enter (d := 23) (R := fun vv w' => vv = .bool true ∧ Below w5.heap.size w5 w') rfl rfl rfl (exec_call (args := #[.agg (kd p r c gx gy).toArray, .slice (some ⟨γs5, 0, none⟩) 2 2]) rfl call60 rfl (mpn rfl)) (Calls.mono (allIn_is k.pr k.rb _ _ _ _ _ _ _ hg γs5 w5 (H5.out.1.one 0 rfl)) (fun e w2 hh => ⟨_, hh.1, rfl, hh.2⟩)) ?_
  rintro _ w6 ⟨rfl, hb⟩
  have H6 : Hid (_ ∧ _) := ⟨H5.out.1.below hb, H5.out.2.trans (hb.mono H5.out.2.size)⟩
  clear hb H5
  simp only [Act.put, sa, sz, ss]
  refine rest_set (d := 24) (v := .bool false) (w' := w6) rfl rfl rfl (by go_simp) ?_
  simp only [Act.put, sa, sz, ss]
  refine rest_nil (then_normal ?_)
  refine wp_cond_false rfl (wp_skip ?_)
  refine then_normal (wp_seq (wp_seq ?_))
  refine walk_seqB 6 [.quiet (PT γ1_0 2), .quiet (.bool false), .quiet (.bool false), .quiet (PT γ1_1 2), .quiet (.bool false), .quiet (.bool false)] H6 ?ho5 ?he5
  case ho5 => exact ak (by refine fun γ => ⟨rfl, fun w' h => ?_⟩; clear h; go_simp) (ak (fun γ => ⟨rfl, fun w' h => ex_loadC h 2 rfl rfl rfl Try.isAgg4 rfl⟩) (ak (fun _ => ⟨rfl, fun _ _ => rfl⟩) (ak (by refine fun γ => ⟨rfl, fun w' h => ?_⟩; clear h; go_simp) (ak (fun γ => ⟨rfl, fun w' h => ex_loadC h 3 rfl rfl rfl Try.isAgg4 rfl⟩) (ak (by refine fun γ => ⟨rfl, fun w' h => ?_⟩; clear h; go_simp) trivial)))))
  intro _ w7 H7
  clear H6
  refine rest0 rfl (then_normal (wp_cond_false rfl ?_))
  refine wp_skip (then_normal (wp_seq ?_))
  refine walk_anyB 6 [.quiet (.agg (kd p r c gx gy).toArray), .quiet (.agg (kd p r c gx gy).toArray), .quiet (.agg (pt X Y false).toArray), .quiet (.agg (pt X' Y' false).toArray), .call (.agg (l2 ((wk p r X Y X' Y' false).1) ((wk p r X Y X' Y' false).2)).toArray), .call (.agg (l2 ((ls p c (wk p r X Y X' Y' false)).1) ((ls p c (wk p r X Y X' Y' false)).2)).toArray)] H7 ?ho6 ?he6
  case ho6 => exact ak (fun γ => ⟨rfl, fun w' h => ex_loadT h 1 rfl rfl rfl Try.isAgg72 Try.sizeOf72 rfl rfl⟩) (ak (fun γ => ⟨rfl, fun w' h => ex_loadT h 1 rfl rfl rfl Try.isAgg72 Try.sizeOf72 rfl rfl⟩) (ak (fun γ => ⟨rfl, fun w' h => ex_loadT h 2 rfl rfl rfl Try.isAgg25 Try.sizeOf25 rfl rfl⟩) (ak (fun γ => ⟨rfl, fun w' h => ex_loadT h 3 rfl rfl rfl Try.isAgg25 Try.sizeOf25 rfl rfl⟩) (ak (fun γ => ⟨rfl, fun w' h => ⟨62, #[.agg (kd p r c gx gy).toArray, .agg (pt X Y false).toArray, .agg (pt X' Y' false).toArray], exec_call rfl call62 rfl (mpn rfl), walked_any k.pr k.rb X Y false (ig_lt k.pr (Bool.and_eq_true_iff.1 hg).1).1 (ig_lt k.pr (Bool.and_eq_true_iff.1 hg).1).2 X' Y' false (ig_lt k.pr (Bool.and_eq_true_iff.1 hg).2).1 (ig_lt k.pr (Bool.and_eq_true_iff.1 hg).2).2 w'⟩⟩) (ak (fun γ => ⟨rfl, fun w' h => ⟨61, #[.agg (kd p r c gx gy).toArray, .agg (l2 ((wk p r X Y X' Y' false).1) ((wk p r X Y X' Y' false).2)).toArray], exec_call rfl call61 rfl (mpn rfl), last_any k.pr (wk p r X Y X' Y' false) (ws_lt k.pr (ig_lt k.pr (Bool.and_eq_true_iff.1 hg).1).1 (ig_lt k.pr (Bool.and_eq_true_iff.1 hg).1).2 _).f k.cb w'⟩⟩) trivial)))))
  intro _ w8 H8
  clear H7
  refine rest_at (l := [6, 7]) rfl ?_
  refine rest_store rfl rfl rfl (ex_storeT (vs := l2 ((ls p c (wk p r X Y X' Y' false)).1) ((ls p c (wk p r X Y X' Y' false)).2)) H8.out.1 4 rfl rfl rfl rfl Try.sizeOf49 rfl (Nat.le_of_ble_eq_true rfl)) ?_
  have H9 : Hid (Mm (w8.setCells γ1_2 0 (l2 ((ls p c (wk p r X Y X' Y' false)).1) ((ls p c (wk p r X Y X' Y' false)).2))) [(γs5, p2 X Y false X' Y' false), (γ2_5, kd p r c gx gy), (γ1_0, pt X Y false), (γ1_1, pt X' Y' false), (γ1_2, l2 ((ls p c (wk p r X Y X' Y' false)).1) ((ls p c (wk p r X Y X' Y' false)).2))] ∧ Below w.heap.size w (w8.setCells γ1_2 0 (l2 ((ls p c (wk p r X Y X' Y' false)).1) ((ls p c (wk p r X Y X' Y' false)).2)))) := ⟨H8.out.1.put 4 (off := 0) (vs := l2 ((ls p c (wk p r X Y X' Y' false)).1) ((ls p c (wk p r X Y X' Y' false)).2)) rfl (Nat.le_of_ble_eq_true rfl), below_setCells _ o1_2.out _ _ _ H8.out.2⟩
  clear H8
  generalize hgw : World.setCells _ _ _ _ = w9 at H9 ⊢
  clear hgw
  refine rest_set (d := 7) rfl rfl rfl rfl ?_
  simp only [Act.put, sa, sz, ss]
  refine rest_nil (then_normal (wp_ret ?_))
  repeat (first | refine then_ret ?_ | refine block_ret ?_)
  have hf0 := var_T H9.out.1 4 rfl Try.isAgg49 Try.sizeOf49 rfl
  refine bodyPost_ret (v := .tuple #[.agg (l2 ((ls p c (wk p r X Y X' Y' false)).1) ((ls p c (wk p r X Y X' Y' false)).2)).toArray, .int .i64 0]) (by simp [results, Try.results27, asAddr, Act.eval, hf0]) rfl ?_
  exact ⟨rfl, H9.out.2⟩
theorem Pair_ok (k : Kd s p r c gx gy) (X Y : Nat) (Z : Bool) (X' Y' : Nat) (Z' : Bool) (hg : (ig p r X Y Z && ig p r X' Y' Z') = true) (w : World) : Calls Try.prog 27 #[.int .i64 s, .agg (pt X Y Z).toArray, .agg (pt X' Y' Z').toArray] w fun e w' => e = .returned (.tuple #[V (lc (pr p r c X Y X' Y' Z Z')), .int .i64 0]) ∧ Below w.heap.size w w' := by
  unfold pr
  cases Z
  · cases Z'
    · rw [if_neg (by simp)]; exact Pair_g k X Y X' Y' hg w
    · rw [if_pos (Or.inr rfl)]; exact Pair_y k X Y X' Y' hg w
  · rw [if_pos (Or.inl rfl)]; exact Pair_z k X Y X' Y' Z' hg w
set_option maxHeartbeats 1000000 in
set_option maxRecDepth 100000 in
theorem Pair_no (s : Int) (h1 : s ≠ 1) (h2 : s ≠ 2) (X Y : Nat) (Z : Bool) (X' Y' : Nat) (Z' : Bool) (w : World) :
    Calls Try.prog 27 #[.int .i64 s, .agg (pt X Y Z).toArray, .agg (pt X' Y' Z').toArray] w fun e w' => e = .returned (.tuple #[V (l2 0 0), .int .i64 2]) ∧ Below w.heap.size w w' := by
  have H0 : Hid (_ ∧ _) := ⟨Mm.nil w, Below.refl w.heap.size w⟩
  go_enter Try.func27, Try.ntmps27
  refine wp_seq ?_
  refine walk_seqA 4 [.made (pt X Y Z) 25, .made (pt X' Y' Z') 25, .made (l2 0 0) 49, .quiet (.int .i64 0)] (sB H0) ?ho1 ?he1
  case ho1 => exact ak (fun γ => ⟨rfl, fun w' => ex_boxT rfl rfl⟩) (ak (fun γ => ⟨rfl, fun w' => ex_boxT rfl rfl⟩) (ak (fun γ => ⟨rfl, fun w' => ex_made49 rfl⟩) (ak (fun _ => ⟨rfl, fun _ _ => rfl⟩) trivial)))
  intro γ w1 l hM hl
  have H1 : Hid (Mm w1 [(γ 0, pt X Y Z), (γ 1, pt X' Y' Z'), (γ 2, l2 0 0)] ∧ _) := growB H0 hM (Nat.le_refl _) hl [0, 1, 2] rfl (by decide)
  have o1_0 := ownB H0 hM (Nat.le_refl _) hl (i := 0) rfl
  have o1_1 := ownB H0 hM (Nat.le_refl _) hl (i := 1) rfl
  have o1_2 := ownB H0 hM (Nat.le_refl _) hl (i := 2) rfl
  clear hM hl l
  generalize γ 0 = γ1_0 at H1 o1_0 ⊢
  generalize γ 1 = γ1_1 at H1 o1_1 ⊢
  generalize γ 2 = γ1_2 at H1 o1_2 ⊢
  clear γ
  refine rest0 rfl (then_normal (wp_seq ?_))
  refine walk_seqA 8 [.quiet (.int .i64 s), .call (.tuple #[.agg (kd 0 0 0 0 0).toArray, .int .i64 2]), .quiet (.tuple #[.agg (kd 0 0 0 0 0).toArray, .int .i64 2]), .quiet (.agg (kd 0 0 0 0 0).toArray), .quiet (.int .i64 2), .made (kd 0 0 0 0 0) 72, .laid 5 (kd 0 0 0 0 0) (kd 0 0 0 0 0), .quiet (.int .i64 2)] (sB H1) ?ho2 ?he2 (hL := ?hL2)
  case hL2 => exact ⟨⟨_, rfl⟩, trivial⟩
  case ho2 => exact ak (fun _ => ⟨rfl, fun _ _ => rfl⟩) (ak (fun γ => ⟨rfl, fun w' h => ⟨42, #[.int .i64 s], exec_call rfl call42 rfl (mpn rfl), kindOf_no s h1 h2 w'⟩⟩) (ak (fun _ => ⟨rfl, fun _ _ => rfl⟩) (ak (by refine fun γ => ⟨rfl, fun w' h => ?_⟩; clear h; go_simp) (ak (by refine fun γ => ⟨rfl, fun w' h => ?_⟩; clear h; go_simp) (ak (fun γ => ⟨rfl, fun w' => ex_made72 rfl⟩) (ak (fun γ => ⟨rfl, rfl, rfl, fun w' h => ex_laidT h rfl rfl Try.sizeOf72 rfl rfl rfl⟩) (ak (fun _ => ⟨rfl, fun _ _ => rfl⟩) trivial)))))))
  intro γ w2 l hM hl
  have H2 : Hid (Mm w2 [(γ 5, kd 0 0 0 0 0), (γ1_0, pt X Y Z), (γ1_1, pt X' Y' Z'), (γ1_2, l2 0 0)] ∧ _) := growB H1 hM (Nat.le_refl _) hl [5] rfl (by decide)
  have o2_5 := ownB H1 hM (Nat.le_refl _) hl (i := 5) rfl
  clear hM hl l H1
  generalize γ 5 = γ2_5 at H2 o2_5 ⊢
  clear γ
  refine rest0 rfl (then_normal (wp_seq (wp_seq ?_)))
  refine walk_seqB 2 [.quiet (.int .i64 2), .quiet (.bool true)] H2 ?ho3 ?he3
  case ho3 => exact ak (fun _ => ⟨rfl, fun _ _ => rfl⟩) (ak (by refine fun γ => ⟨rfl, fun w' h => ?_⟩; clear h; go_simp) trivial)
  intro _ w3 H3
  clear H2
  refine rest0 rfl (then_normal (wp_cond_true rfl (wp_seq ?_)))
  refine walk_seqB 2 [.quiet (.agg (l2 0 0).toArray), .quiet (.int .i64 2)] H3 ?ho4 ?he4
  case ho4 => exact ak (fun γ => ⟨rfl, fun w' _ => ex_build49_ rfl⟩) (ak (fun _ => ⟨rfl, fun _ _ => rfl⟩) trivial)
  intro _ w4 H4
  clear H3
  refine rest_at (l := [2, 3]) rfl ?_
  refine rest_store rfl rfl rfl (ex_storeT (vs := l2 0 0) H4.out.1 3 rfl rfl rfl rfl Try.sizeOf49 rfl (Nat.le_of_ble_eq_true rfl)) ?_
  have H5 : Hid (Mm (w4.setCells γ1_2 0 (l2 0 0)) [(γ2_5, kd 0 0 0 0 0), (γ1_0, pt X Y Z), (γ1_1, pt X' Y' Z'), (γ1_2, l2 0 0)] ∧ Below w.heap.size w (w4.setCells γ1_2 0 (l2 0 0))) := ⟨H4.out.1.put 3 (off := 0) (vs := l2 0 0) rfl (Nat.le_of_ble_eq_true rfl), below_setCells _ o1_2.out _ _ _ H4.out.2⟩
  clear H4
  generalize hgw : World.setCells _ _ _ _ = w5 at H5 ⊢
  clear hgw
  refine rest_set (d := 7) rfl rfl rfl rfl ?_
  simp only [Act.put, sa, sz, ss]
  refine rest_nil (then_normal (wp_ret ?_))
  repeat (first | refine then_ret ?_ | refine block_ret ?_)
  have hf0 := var_T H5.out.1 3 rfl Try.isAgg49 Try.sizeOf49 rfl
  refine bodyPost_ret (v := .tuple #[.agg (l2 0 0).toArray, .int .i64 2]) (by simp [results, Try.results27, asAddr, Act.eval, hf0]) rfl ?_
  exact ⟨rfl, H5.out.2⟩
set_option maxHeartbeats 1000000 in
set_option maxRecDepth 100000 in
theorem Times_ok (k : Kd s p r c gx gy) (a b : E2) (w : World) :
    Calls Try.prog 28 #[.int .i64 s, .agg (l2 a.1 a.2).toArray, .agg (l2 b.1 b.2).toArray] w fun e w' => e = .returned (.tuple #[V (lc (pd p (a.1 % p, a.2 % p) (b.1 % p, b.2 % p))), .int .i64 0]) ∧ Below w.heap.size w w' := by
  have H0 : Hid (_ ∧ _) := ⟨Mm.nil w, Below.refl w.heap.size w⟩
  go_enter Try.func28, Try.ntmps28
  refine wp_seq ?_
  refine walk_seqA 4 [.made (l2 a.1 a.2) 49, .made (l2 b.1 b.2) 49, .made (l2 0 0) 49, .quiet (.int .i64 0)] (sB H0) ?ho1 ?he1
  case ho1 => exact ak (fun γ => ⟨rfl, fun w' => ex_boxT rfl rfl⟩) (ak (fun γ => ⟨rfl, fun w' => ex_boxT rfl rfl⟩) (ak (fun γ => ⟨rfl, fun w' => ex_made49 rfl⟩) (ak (fun _ => ⟨rfl, fun _ _ => rfl⟩) trivial)))
  intro γ w1 l hM hl
  have H1 : Hid (Mm w1 [(γ 0, l2 a.1 a.2), (γ 1, l2 b.1 b.2), (γ 2, l2 0 0)] ∧ _) := growB H0 hM (Nat.le_refl _) hl [0, 1, 2] rfl (by decide)
  have o1_0 := ownB H0 hM (Nat.le_refl _) hl (i := 0) rfl
  have o1_1 := ownB H0 hM (Nat.le_refl _) hl (i := 1) rfl
  have o1_2 := ownB H0 hM (Nat.le_refl _) hl (i := 2) rfl
  clear hM hl l
  generalize γ 0 = γ1_0 at H1 o1_0 ⊢
  generalize γ 1 = γ1_1 at H1 o1_1 ⊢
  generalize γ 2 = γ1_2 at H1 o1_2 ⊢
  clear γ
  refine rest0 rfl (then_normal (wp_seq ?_))
  refine walk_seqA 8 [.quiet (.int .i64 s), .call (.tuple #[.agg (kd p r c gx gy).toArray, .int .i64 0]), .quiet (.tuple #[.agg (kd p r c gx gy).toArray, .int .i64 0]), .quiet (.agg (kd p r c gx gy).toArray), .quiet (.int .i64 0), .made (kd 0 0 0 0 0) 72, .laid 5 (kd 0 0 0 0 0) (kd p r c gx gy), .quiet (.int .i64 0)] (sB H1) ?ho2 ?he2 (hL := ?hL2)
  case hL2 => exact ⟨⟨_, rfl⟩, trivial⟩
  case ho2 => exact ak (fun _ => ⟨rfl, fun _ _ => rfl⟩) (ak (fun γ => ⟨rfl, fun w' h => ⟨42, #[.int .i64 s], exec_call rfl call42 rfl (mpn rfl), k.kind w'⟩⟩) (ak (fun _ => ⟨rfl, fun _ _ => rfl⟩) (ak (by refine fun γ => ⟨rfl, fun w' h => ?_⟩; clear h; go_simp) (ak (by refine fun γ => ⟨rfl, fun w' h => ?_⟩; clear h; go_simp) (ak (fun γ => ⟨rfl, fun w' => ex_made72 rfl⟩) (ak (fun γ => ⟨rfl, rfl, rfl, fun w' h => ex_laidT h rfl rfl Try.sizeOf72 rfl rfl rfl⟩) (ak (fun _ => ⟨rfl, fun _ _ => rfl⟩) trivial)))))))
  intro γ w2 l hM hl
  have H2 : Hid (Mm w2 [(γ 5, kd p r c gx gy), (γ1_0, l2 a.1 a.2), (γ1_1, l2 b.1 b.2), (γ1_2, l2 0 0)] ∧ _) := growB H1 hM (Nat.le_refl _) hl [5] rfl (by decide)
  have o2_5 := ownB H1 hM (Nat.le_refl _) hl (i := 5) rfl
  clear hM hl l H1
  generalize γ 5 = γ2_5 at H2 o2_5 ⊢
  clear γ
  refine rest0 rfl (then_normal (wp_seq (wp_seq ?_)))
  refine walk_seqB 2 [.quiet (.int .i64 0), .quiet (.bool false)] H2 ?ho3 ?he3
  case ho3 => exact ak (fun _ => ⟨rfl, fun _ _ => rfl⟩) (ak (by refine fun γ => ⟨rfl, fun w' h => ?_⟩; clear h; go_simp) trivial)
  intro _ w3 H3
  clear H2
  refine rest0 rfl (then_normal (wp_cond_false rfl ?_))
  refine wp_skip (then_normal (wp_seq ?_))
  refine walk_anyB 8 [.quiet (.agg (kd p r c gx gy).toArray), .quiet (.agg (kd p r c gx gy).toArray), .quiet (.agg (l2 a.1 a.2).toArray), .call (.agg (l2 (a.1 % p) (a.2 % p)).toArray), .quiet (.agg (kd p r c gx gy).toArray), .quiet (.agg (l2 b.1 b.2).toArray), .call (.agg (l2 (b.1 % p) (b.2 % p)).toArray), .call (.agg (l2 ((pd p (a.1 % p, a.2 % p) (b.1 % p, b.2 % p)).1) ((pd p (a.1 % p, a.2 % p) (b.1 % p, b.2 % p)).2)).toArray)] H3 ?ho4 ?he4
  case ho4 => exact ak (fun γ => ⟨rfl, fun w' h => ex_loadT h 0 rfl rfl rfl Try.isAgg72 Try.sizeOf72 rfl rfl⟩) (ak (fun γ => ⟨rfl, fun w' h => ex_loadT h 0 rfl rfl rfl Try.isAgg72 Try.sizeOf72 rfl rfl⟩) (ak (fun γ => ⟨rfl, fun w' h => ex_loadT h 1 rfl rfl rfl Try.isAgg49 Try.sizeOf49 rfl rfl⟩) (ak (fun γ => ⟨rfl, fun w' h => ⟨64, #[.agg (kd p r c gx gy).toArray, .agg (l2 a.1 a.2).toArray], exec_call rfl call64 rfl (mpn rfl), left_any k.pr a w'⟩⟩) (ak (fun γ => ⟨rfl, fun w' h => ex_loadT h 0 rfl rfl rfl Try.isAgg72 Try.sizeOf72 rfl rfl⟩) (ak (fun γ => ⟨rfl, fun w' h => ex_loadT h 2 rfl rfl rfl Try.isAgg49 Try.sizeOf49 rfl rfl⟩) (ak (fun γ => ⟨rfl, fun w' h => ⟨64, #[.agg (kd p r c gx gy).toArray, .agg (l2 b.1 b.2).toArray], exec_call rfl call64 rfl (mpn rfl), left_any k.pr b w'⟩⟩) (ak (fun γ => ⟨rfl, fun w' h => ⟨63, #[.agg (kd p r c gx gy).toArray, .agg (l2 (a.1 % p) (a.2 % p)).toArray, .agg (l2 (b.1 % p) (b.2 % p)).toArray], exec_call rfl call63 rfl (mpn rfl), product_any k.pr (a.1 % p, a.2 % p) (b.1 % p, b.2 % p) ⟨(Nat.mod_lt _ (zero_lt k.pr)), (Nat.mod_lt _ (zero_lt k.pr))⟩ ⟨(Nat.mod_lt _ (zero_lt k.pr)), (Nat.mod_lt _ (zero_lt k.pr))⟩ w'⟩⟩) trivial)))))))
  intro _ w4 H4
  clear H3
  refine rest_at (l := [8, 9]) rfl ?_
  refine rest_store rfl rfl rfl (ex_storeT (vs := l2 ((pd p (a.1 % p, a.2 % p) (b.1 % p, b.2 % p)).1) ((pd p (a.1 % p, a.2 % p) (b.1 % p, b.2 % p)).2)) H4.out.1 3 rfl rfl rfl rfl Try.sizeOf49 rfl (Nat.le_of_ble_eq_true rfl)) ?_
  have H5 : Hid (Mm (w4.setCells γ1_2 0 (l2 ((pd p (a.1 % p, a.2 % p) (b.1 % p, b.2 % p)).1) ((pd p (a.1 % p, a.2 % p) (b.1 % p, b.2 % p)).2))) [(γ2_5, kd p r c gx gy), (γ1_0, l2 a.1 a.2), (γ1_1, l2 b.1 b.2), (γ1_2, l2 ((pd p (a.1 % p, a.2 % p) (b.1 % p, b.2 % p)).1) ((pd p (a.1 % p, a.2 % p) (b.1 % p, b.2 % p)).2))] ∧ Below w.heap.size w (w4.setCells γ1_2 0 (l2 ((pd p (a.1 % p, a.2 % p) (b.1 % p, b.2 % p)).1) ((pd p (a.1 % p, a.2 % p) (b.1 % p, b.2 % p)).2)))) := ⟨H4.out.1.put 3 (off := 0) (vs := l2 ((pd p (a.1 % p, a.2 % p) (b.1 % p, b.2 % p)).1) ((pd p (a.1 % p, a.2 % p) (b.1 % p, b.2 % p)).2)) rfl (Nat.le_of_ble_eq_true rfl), below_setCells _ o1_2.out _ _ _ H4.out.2⟩
  clear H4
  generalize hgw : World.setCells _ _ _ _ = w5 at H5 ⊢
  clear hgw
  refine rest_set (d := 7) rfl rfl rfl rfl ?_
  simp only [Act.put, sa, sz, ss]
  refine rest_nil (then_normal (wp_ret ?_))
  repeat (first | refine then_ret ?_ | refine block_ret ?_)
  have hf0 := var_T H5.out.1 3 rfl Try.isAgg49 Try.sizeOf49 rfl
  refine bodyPost_ret (v := .tuple #[.agg (l2 ((pd p (a.1 % p, a.2 % p) (b.1 % p, b.2 % p)).1) ((pd p (a.1 % p, a.2 % p) (b.1 % p, b.2 % p)).2)).toArray, .int .i64 0]) (by simp [results, Try.results28, asAddr, Act.eval, hf0]) rfl ?_
  exact ⟨rfl, H5.out.2⟩
set_option maxHeartbeats 1000000 in
set_option maxRecDepth 100000 in
theorem Times_no (s : Int) (h1 : s ≠ 1) (h2 : s ≠ 2) (a b : E2) (w : World) :
    Calls Try.prog 28 #[.int .i64 s, .agg (l2 a.1 a.2).toArray, .agg (l2 b.1 b.2).toArray] w fun e w' => e = .returned (.tuple #[V (l2 0 0), .int .i64 2]) ∧ Below w.heap.size w w' := by
  have H0 : Hid (_ ∧ _) := ⟨Mm.nil w, Below.refl w.heap.size w⟩
  go_enter Try.func28, Try.ntmps28
  refine wp_seq ?_
  refine walk_seqA 4 [.made (l2 a.1 a.2) 49, .made (l2 b.1 b.2) 49, .made (l2 0 0) 49, .quiet (.int .i64 0)] (sB H0) ?ho1 ?he1
  case ho1 => exact ak (fun γ => ⟨rfl, fun w' => ex_boxT rfl rfl⟩) (ak (fun γ => ⟨rfl, fun w' => ex_boxT rfl rfl⟩) (ak (fun γ => ⟨rfl, fun w' => ex_made49 rfl⟩) (ak (fun _ => ⟨rfl, fun _ _ => rfl⟩) trivial)))
  intro γ w1 l hM hl
  have H1 : Hid (Mm w1 [(γ 0, l2 a.1 a.2), (γ 1, l2 b.1 b.2), (γ 2, l2 0 0)] ∧ _) := growB H0 hM (Nat.le_refl _) hl [0, 1, 2] rfl (by decide)
  have o1_0 := ownB H0 hM (Nat.le_refl _) hl (i := 0) rfl
  have o1_1 := ownB H0 hM (Nat.le_refl _) hl (i := 1) rfl
  have o1_2 := ownB H0 hM (Nat.le_refl _) hl (i := 2) rfl
  clear hM hl l
  generalize γ 0 = γ1_0 at H1 o1_0 ⊢
  generalize γ 1 = γ1_1 at H1 o1_1 ⊢
  generalize γ 2 = γ1_2 at H1 o1_2 ⊢
  clear γ
  refine rest0 rfl (then_normal (wp_seq ?_))
  refine walk_seqA 8 [.quiet (.int .i64 s), .call (.tuple #[.agg (kd 0 0 0 0 0).toArray, .int .i64 2]), .quiet (.tuple #[.agg (kd 0 0 0 0 0).toArray, .int .i64 2]), .quiet (.agg (kd 0 0 0 0 0).toArray), .quiet (.int .i64 2), .made (kd 0 0 0 0 0) 72, .laid 5 (kd 0 0 0 0 0) (kd 0 0 0 0 0), .quiet (.int .i64 2)] (sB H1) ?ho2 ?he2 (hL := ?hL2)
  case hL2 => exact ⟨⟨_, rfl⟩, trivial⟩
  case ho2 => exact ak (fun _ => ⟨rfl, fun _ _ => rfl⟩) (ak (fun γ => ⟨rfl, fun w' h => ⟨42, #[.int .i64 s], exec_call rfl call42 rfl (mpn rfl), kindOf_no s h1 h2 w'⟩⟩) (ak (fun _ => ⟨rfl, fun _ _ => rfl⟩) (ak (by refine fun γ => ⟨rfl, fun w' h => ?_⟩; clear h; go_simp) (ak (by refine fun γ => ⟨rfl, fun w' h => ?_⟩; clear h; go_simp) (ak (fun γ => ⟨rfl, fun w' => ex_made72 rfl⟩) (ak (fun γ => ⟨rfl, rfl, rfl, fun w' h => ex_laidT h rfl rfl Try.sizeOf72 rfl rfl rfl⟩) (ak (fun _ => ⟨rfl, fun _ _ => rfl⟩) trivial)))))))
  intro γ w2 l hM hl
  have H2 : Hid (Mm w2 [(γ 5, kd 0 0 0 0 0), (γ1_0, l2 a.1 a.2), (γ1_1, l2 b.1 b.2), (γ1_2, l2 0 0)] ∧ _) := growB H1 hM (Nat.le_refl _) hl [5] rfl (by decide)
  have o2_5 := ownB H1 hM (Nat.le_refl _) hl (i := 5) rfl
  clear hM hl l H1
  generalize γ 5 = γ2_5 at H2 o2_5 ⊢
  clear γ
  refine rest0 rfl (then_normal (wp_seq (wp_seq ?_)))
  refine walk_seqB 2 [.quiet (.int .i64 2), .quiet (.bool true)] H2 ?ho3 ?he3
  case ho3 => exact ak (fun _ => ⟨rfl, fun _ _ => rfl⟩) (ak (by refine fun γ => ⟨rfl, fun w' h => ?_⟩; clear h; go_simp) trivial)
  intro _ w3 H3
  clear H2
  refine rest0 rfl (then_normal (wp_cond_true rfl (wp_seq ?_)))
  refine walk_seqB 2 [.quiet (.agg (l2 0 0).toArray), .quiet (.int .i64 2)] H3 ?ho4 ?he4
  case ho4 => exact ak (fun γ => ⟨rfl, fun w' _ => ex_build49_ rfl⟩) (ak (fun _ => ⟨rfl, fun _ _ => rfl⟩) trivial)
  intro _ w4 H4
  clear H3
  refine rest_at (l := [2, 3]) rfl ?_
  refine rest_store rfl rfl rfl (ex_storeT (vs := l2 0 0) H4.out.1 3 rfl rfl rfl rfl Try.sizeOf49 rfl (Nat.le_of_ble_eq_true rfl)) ?_
  have H5 : Hid (Mm (w4.setCells γ1_2 0 (l2 0 0)) [(γ2_5, kd 0 0 0 0 0), (γ1_0, l2 a.1 a.2), (γ1_1, l2 b.1 b.2), (γ1_2, l2 0 0)] ∧ Below w.heap.size w (w4.setCells γ1_2 0 (l2 0 0))) := ⟨H4.out.1.put 3 (off := 0) (vs := l2 0 0) rfl (Nat.le_of_ble_eq_true rfl), below_setCells _ o1_2.out _ _ _ H4.out.2⟩
  clear H4
  generalize hgw : World.setCells _ _ _ _ = w5 at H5 ⊢
  clear hgw
  refine rest_set (d := 7) rfl rfl rfl rfl ?_
  simp only [Act.put, sa, sz, ss]
  refine rest_nil (then_normal (wp_ret ?_))
  repeat (first | refine then_ret ?_ | refine block_ret ?_)
  have hf0 := var_T H5.out.1 3 rfl Try.isAgg49 Try.sizeOf49 rfl
  refine bodyPost_ret (v := .tuple #[.agg (l2 0 0).toArray, .int .i64 2]) (by simp [results, Try.results28, asAddr, Act.eval, hf0]) rfl ?_
  exact ⟨rfl, H5.out.2⟩
set_option maxHeartbeats 1000000 in
set_option maxRecDepth 100000 in
theorem Power_ok (k : Kd s p r c gx gy) (a : E2) (n : Nat) (hn : n < 18446744073709551616) (w : World) :
    Calls Try.prog 29 #[.int .i64 s, .agg (l2 a.1 a.2).toArray, U n] w fun e w' => e = .returned (.tuple #[V (lc (rs p (1, 0) (a.1 % p, a.2 % p) n)), .int .i64 0]) ∧ Below w.heap.size w w' := by
  have H0 : Hid (_ ∧ _) := ⟨Mm.nil w, Below.refl w.heap.size w⟩
  go_enter Try.func29, Try.ntmps29
  refine wp_seq ?_
  refine walk_seqA 3 [.made (l2 a.1 a.2) 49, .made (l2 0 0) 49, .quiet (.int .i64 0)] (sB H0) ?ho1 ?he1
  case ho1 => exact ak (fun γ => ⟨rfl, fun w' => ex_boxT rfl rfl⟩) (ak (fun γ => ⟨rfl, fun w' => ex_made49 rfl⟩) (ak (fun _ => ⟨rfl, fun _ _ => rfl⟩) trivial))
  intro γ w1 l hM hl
  have H1 : Hid (Mm w1 [(γ 0, l2 a.1 a.2), (γ 1, l2 0 0)] ∧ _) := growB H0 hM (Nat.le_refl _) hl [0, 1] rfl (by decide)
  have o1_0 := ownB H0 hM (Nat.le_refl _) hl (i := 0) rfl
  have o1_1 := ownB H0 hM (Nat.le_refl _) hl (i := 1) rfl
  clear hM hl l
  generalize γ 0 = γ1_0 at H1 o1_0 ⊢
  generalize γ 1 = γ1_1 at H1 o1_1 ⊢
  clear γ
  refine rest0 rfl (then_normal (wp_seq ?_))
  refine walk_seqA 8 [.quiet (.int .i64 s), .call (.tuple #[.agg (kd p r c gx gy).toArray, .int .i64 0]), .quiet (.tuple #[.agg (kd p r c gx gy).toArray, .int .i64 0]), .quiet (.agg (kd p r c gx gy).toArray), .quiet (.int .i64 0), .made (kd 0 0 0 0 0) 72, .laid 5 (kd 0 0 0 0 0) (kd p r c gx gy), .quiet (.int .i64 0)] (sB H1) ?ho2 ?he2 (hL := ?hL2)
  case hL2 => exact ⟨⟨_, rfl⟩, trivial⟩
  case ho2 => exact ak (fun _ => ⟨rfl, fun _ _ => rfl⟩) (ak (fun γ => ⟨rfl, fun w' h => ⟨42, #[.int .i64 s], exec_call rfl call42 rfl (mpn rfl), k.kind w'⟩⟩) (ak (fun _ => ⟨rfl, fun _ _ => rfl⟩) (ak (by refine fun γ => ⟨rfl, fun w' h => ?_⟩; clear h; go_simp) (ak (by refine fun γ => ⟨rfl, fun w' h => ?_⟩; clear h; go_simp) (ak (fun γ => ⟨rfl, fun w' => ex_made72 rfl⟩) (ak (fun γ => ⟨rfl, rfl, rfl, fun w' h => ex_laidT h rfl rfl Try.sizeOf72 rfl rfl rfl⟩) (ak (fun _ => ⟨rfl, fun _ _ => rfl⟩) trivial)))))))
  intro γ w2 l hM hl
  have H2 : Hid (Mm w2 [(γ 5, kd p r c gx gy), (γ1_0, l2 a.1 a.2), (γ1_1, l2 0 0)] ∧ _) := growB H1 hM (Nat.le_refl _) hl [5] rfl (by decide)
  have o2_5 := ownB H1 hM (Nat.le_refl _) hl (i := 5) rfl
  clear hM hl l H1
  generalize γ 5 = γ2_5 at H2 o2_5 ⊢
  clear γ
  refine rest0 rfl (then_normal (wp_seq (wp_seq ?_)))
  refine walk_seqB 2 [.quiet (.int .i64 0), .quiet (.bool false)] H2 ?ho3 ?he3
  case ho3 => exact ak (fun _ => ⟨rfl, fun _ _ => rfl⟩) (ak (by refine fun γ => ⟨rfl, fun w' h => ?_⟩; clear h; go_simp) trivial)
  intro _ w3 H3
  clear H2
  refine rest0 rfl (then_normal (wp_cond_false rfl ?_))
  refine wp_skip (then_normal (wp_seq ?_))
  refine walk_anyB 6 [.quiet (.agg (kd p r c gx gy).toArray), .quiet (.agg (kd p r c gx gy).toArray), .quiet (.agg (l2 a.1 a.2).toArray), .call (.agg (l2 (a.1 % p) (a.2 % p)).toArray), .quiet (U n), .call (.agg (l2 ((rs p (1, 0) (a.1 % p, a.2 % p) n).1) ((rs p (1, 0) (a.1 % p, a.2 % p) n).2)).toArray)] H3 ?ho4 ?he4
  case ho4 => exact ak (fun γ => ⟨rfl, fun w' h => ex_loadT h 0 rfl rfl rfl Try.isAgg72 Try.sizeOf72 rfl rfl⟩) (ak (fun γ => ⟨rfl, fun w' h => ex_loadT h 0 rfl rfl rfl Try.isAgg72 Try.sizeOf72 rfl rfl⟩) (ak (fun γ => ⟨rfl, fun w' h => ex_loadT h 1 rfl rfl rfl Try.isAgg49 Try.sizeOf49 rfl rfl⟩) (ak (fun γ => ⟨rfl, fun w' h => ⟨64, #[.agg (kd p r c gx gy).toArray, .agg (l2 a.1 a.2).toArray], exec_call rfl call64 rfl (mpn rfl), left_any k.pr a w'⟩⟩) (ak (fun _ => ⟨rfl, fun _ _ => rfl⟩) (ak (fun γ => ⟨rfl, fun w' h => ⟨65, #[.agg (kd p r c gx gy).toArray, .agg (l2 (a.1 % p) (a.2 % p)).toArray, U n], exec_call rfl call65 rfl (mpn rfl), raised_any k.pr (a.1 % p, a.2 % p) ⟨(Nat.mod_lt _ (zero_lt k.pr)), (Nat.mod_lt _ (zero_lt k.pr))⟩ n hn w'⟩⟩) trivial)))))
  intro _ w4 H4
  clear H3
  refine rest_at (l := [6, 7]) rfl ?_
  refine rest_store rfl rfl rfl (ex_storeT (vs := l2 ((rs p (1, 0) (a.1 % p, a.2 % p) n).1) ((rs p (1, 0) (a.1 % p, a.2 % p) n).2)) H4.out.1 2 rfl rfl rfl rfl Try.sizeOf49 rfl (Nat.le_of_ble_eq_true rfl)) ?_
  have H5 : Hid (Mm (w4.setCells γ1_1 0 (l2 ((rs p (1, 0) (a.1 % p, a.2 % p) n).1) ((rs p (1, 0) (a.1 % p, a.2 % p) n).2))) [(γ2_5, kd p r c gx gy), (γ1_0, l2 a.1 a.2), (γ1_1, l2 ((rs p (1, 0) (a.1 % p, a.2 % p) n).1) ((rs p (1, 0) (a.1 % p, a.2 % p) n).2))] ∧ Below w.heap.size w (w4.setCells γ1_1 0 (l2 ((rs p (1, 0) (a.1 % p, a.2 % p) n).1) ((rs p (1, 0) (a.1 % p, a.2 % p) n).2)))) := ⟨H4.out.1.put 2 (off := 0) (vs := l2 ((rs p (1, 0) (a.1 % p, a.2 % p) n).1) ((rs p (1, 0) (a.1 % p, a.2 % p) n).2)) rfl (Nat.le_of_ble_eq_true rfl), below_setCells _ o1_1.out _ _ _ H4.out.2⟩
  clear H4
  generalize hgw : World.setCells _ _ _ _ = w5 at H5 ⊢
  clear hgw
  refine rest_set (d := 7) rfl rfl rfl rfl ?_
  simp only [Act.put, sa, sz, ss]
  refine rest_nil (then_normal (wp_ret ?_))
  repeat (first | refine then_ret ?_ | refine block_ret ?_)
  have hf0 := var_T H5.out.1 2 rfl Try.isAgg49 Try.sizeOf49 rfl
  refine bodyPost_ret (v := .tuple #[.agg (l2 ((rs p (1, 0) (a.1 % p, a.2 % p) n).1) ((rs p (1, 0) (a.1 % p, a.2 % p) n).2)).toArray, .int .i64 0]) (by simp [results, Try.results29, asAddr, Act.eval, hf0]) rfl ?_
  exact ⟨rfl, H5.out.2⟩
set_option maxHeartbeats 1000000 in
set_option maxRecDepth 100000 in
theorem Power_no (s : Int) (h1 : s ≠ 1) (h2 : s ≠ 2) (a : E2) (n : Nat) (w : World) :
    Calls Try.prog 29 #[.int .i64 s, .agg (l2 a.1 a.2).toArray, U n] w fun e w' => e = .returned (.tuple #[V (l2 0 0), .int .i64 2]) ∧ Below w.heap.size w w' := by
  have H0 : Hid (_ ∧ _) := ⟨Mm.nil w, Below.refl w.heap.size w⟩
  go_enter Try.func29, Try.ntmps29
  refine wp_seq ?_
  refine walk_seqA 3 [.made (l2 a.1 a.2) 49, .made (l2 0 0) 49, .quiet (.int .i64 0)] (sB H0) ?ho1 ?he1
  case ho1 => exact ak (fun γ => ⟨rfl, fun w' => ex_boxT rfl rfl⟩) (ak (fun γ => ⟨rfl, fun w' => ex_made49 rfl⟩) (ak (fun _ => ⟨rfl, fun _ _ => rfl⟩) trivial))
  intro γ w1 l hM hl
  have H1 : Hid (Mm w1 [(γ 0, l2 a.1 a.2), (γ 1, l2 0 0)] ∧ _) := growB H0 hM (Nat.le_refl _) hl [0, 1] rfl (by decide)
  have o1_0 := ownB H0 hM (Nat.le_refl _) hl (i := 0) rfl
  have o1_1 := ownB H0 hM (Nat.le_refl _) hl (i := 1) rfl
  clear hM hl l
  generalize γ 0 = γ1_0 at H1 o1_0 ⊢
  generalize γ 1 = γ1_1 at H1 o1_1 ⊢
  clear γ
  refine rest0 rfl (then_normal (wp_seq ?_))
  refine walk_seqA 8 [.quiet (.int .i64 s), .call (.tuple #[.agg (kd 0 0 0 0 0).toArray, .int .i64 2]), .quiet (.tuple #[.agg (kd 0 0 0 0 0).toArray, .int .i64 2]), .quiet (.agg (kd 0 0 0 0 0).toArray), .quiet (.int .i64 2), .made (kd 0 0 0 0 0) 72, .laid 5 (kd 0 0 0 0 0) (kd 0 0 0 0 0), .quiet (.int .i64 2)] (sB H1) ?ho2 ?he2 (hL := ?hL2)
  case hL2 => exact ⟨⟨_, rfl⟩, trivial⟩
  case ho2 => exact ak (fun _ => ⟨rfl, fun _ _ => rfl⟩) (ak (fun γ => ⟨rfl, fun w' h => ⟨42, #[.int .i64 s], exec_call rfl call42 rfl (mpn rfl), kindOf_no s h1 h2 w'⟩⟩) (ak (fun _ => ⟨rfl, fun _ _ => rfl⟩) (ak (by refine fun γ => ⟨rfl, fun w' h => ?_⟩; clear h; go_simp) (ak (by refine fun γ => ⟨rfl, fun w' h => ?_⟩; clear h; go_simp) (ak (fun γ => ⟨rfl, fun w' => ex_made72 rfl⟩) (ak (fun γ => ⟨rfl, rfl, rfl, fun w' h => ex_laidT h rfl rfl Try.sizeOf72 rfl rfl rfl⟩) (ak (fun _ => ⟨rfl, fun _ _ => rfl⟩) trivial)))))))
  intro γ w2 l hM hl
  have H2 : Hid (Mm w2 [(γ 5, kd 0 0 0 0 0), (γ1_0, l2 a.1 a.2), (γ1_1, l2 0 0)] ∧ _) := growB H1 hM (Nat.le_refl _) hl [5] rfl (by decide)
  have o2_5 := ownB H1 hM (Nat.le_refl _) hl (i := 5) rfl
  clear hM hl l H1
  generalize γ 5 = γ2_5 at H2 o2_5 ⊢
  clear γ
  refine rest0 rfl (then_normal (wp_seq (wp_seq ?_)))
  refine walk_seqB 2 [.quiet (.int .i64 2), .quiet (.bool true)] H2 ?ho3 ?he3
  case ho3 => exact ak (fun _ => ⟨rfl, fun _ _ => rfl⟩) (ak (by refine fun γ => ⟨rfl, fun w' h => ?_⟩; clear h; go_simp) trivial)
  intro _ w3 H3
  clear H2
  refine rest0 rfl (then_normal (wp_cond_true rfl (wp_seq ?_)))
  refine walk_seqB 2 [.quiet (.agg (l2 0 0).toArray), .quiet (.int .i64 2)] H3 ?ho4 ?he4
  case ho4 => exact ak (fun γ => ⟨rfl, fun w' _ => ex_build49_ rfl⟩) (ak (fun _ => ⟨rfl, fun _ _ => rfl⟩) trivial)
  intro _ w4 H4
  clear H3
  refine rest_at (l := [2, 3]) rfl ?_
  refine rest_store rfl rfl rfl (ex_storeT (vs := l2 0 0) H4.out.1 2 rfl rfl rfl rfl Try.sizeOf49 rfl (Nat.le_of_ble_eq_true rfl)) ?_
  have H5 : Hid (Mm (w4.setCells γ1_1 0 (l2 0 0)) [(γ2_5, kd 0 0 0 0 0), (γ1_0, l2 a.1 a.2), (γ1_1, l2 0 0)] ∧ Below w.heap.size w (w4.setCells γ1_1 0 (l2 0 0))) := ⟨H4.out.1.put 2 (off := 0) (vs := l2 0 0) rfl (Nat.le_of_ble_eq_true rfl), below_setCells _ o1_1.out _ _ _ H4.out.2⟩
  clear H4
  generalize hgw : World.setCells _ _ _ _ = w5 at H5 ⊢
  clear hgw
  refine rest_set (d := 7) rfl rfl rfl rfl ?_
  simp only [Act.put, sa, sz, ss]
  refine rest_nil (then_normal (wp_ret ?_))
  repeat (first | refine then_ret ?_ | refine block_ret ?_)
  have hf0 := var_T H5.out.1 2 rfl Try.isAgg49 Try.sizeOf49 rfl
  refine bodyPost_ret (v := .tuple #[.agg (l2 0 0).toArray, .int .i64 2]) (by simp [results, Try.results29, asAddr, Act.eval, hf0]) rfl ?_
  exact ⟨rfl, H5.out.2⟩
end
/-! What the examples say. -/
set_option maxRecDepth 100000 in
theorem run_eqL' (D a b a' b' : Nat) (p0 p1 : Bool) (hi0 : ∀ w, (Op.equalIn D 23 (U a) (U a')).run Try.prog w = .ok p0 w) (hi1 : ∀ w, (Op.equalIn D 23 (U b) (U b')).run Try.prog w = .ok p1 w) (w : World) : (Op.equalIn (D + 1) 49 (V (l2 a b)) (V (l2 a' b'))).run Try.prog w = .ok (p0 && p1) w := by
  have h49 : Try.prog.underlying 49 = some (.array 2 23) := by kernel_rfl
  have hsz : ∀ w, (sizeOf 23).run Try.prog w = .ok 1 w := fun w => by kernel_rfl
  have hp : ∀ (a b : Nat) (w : World), (Go.part 23 (l2 a b).toArray 0).run Try.prog w = .ok (U a) w ∧ (Go.part 23 (l2 a b).toArray 1).run Try.prog w = .ok (U b) w := fun a b w => ⟨by kernel_rfl, by kernel_rfl⟩
  have q1 := hp a b
  have q2 := hp a' b'
  clear hp
  unfold V
  generalize (l2 a b).toArray = xs at *
  generalize (l2 a' b').toArray = ys at *
  simp only [Op.equalIn, Sem.run_bind, run_underlying h49, Result.andThen_ok, hsz]
  simp [Std.Legacy.Range.forIn_eq_forIn_range', List.range', List.forIn_cons, hi0, hi1, q1, q2]
  cases p0 <;> cases p1 <;> simp
theorem run_eqL (a b a' b' : Nat) (w : World) : (Op.equalIn 10000 49 (V (l2 a b)) (V (l2 a' b'))).run Try.prog w = .ok (decide (a = a') && decide (b = b')) w :=
  run_eqL' 9999 a b a' b' _ _ (fun w => run_eqU 9998 a a' w) (fun w => run_eqU 9998 b b' w) w
theorem exec_eqT49 {ρ : Operand → Value} {o : Oper} {x y : Operand} {v v' : Array Value} {t : Bool} {w : World} (he : ∀ w, (Op.equalIn 10000 49 (.agg v) (.agg v')).run Try.prog w = .ok t w) (ho : o.op = .binOp .eql 49 x y 49) (hx : ρ x = .agg v) (hy : ρ y = .agg v') :
    (execOp ρ o).run Try.prog w = .ok (.value (.bool t)) w := by
  simp only [execOp, ho, hx, hy]
  clear hx hy
  go_simp
end Rg
end Go.Proofs.Ytjmbgchoioepjaa
end
section
namespace Go.Proofs.Ytjmbgchoioepjaa
open Go.RowKit
namespace Rg
theorem call30 : ∀ args w, (callFunc 30 args).run Try.prog w = .ok (.enter 30 args) w := by intro args w; go_simp
theorem call32 : ∀ args w, (callFunc 32 args).run Try.prog w = .ok (.enter 32 args) w := by intro args w; go_simp
theorem call66 : ∀ args w, (callFunc 66 args).run Try.prog w = .ok (.enter 66 args) w := by intro args w; go_simp
section
variable {p r c gx gy : Nat}
set_option maxHeartbeats 1000000 in
set_option maxRecDepth 100000 in
theorem dTimes_raw (hp : Pr p) (a b : E2) (ha : Lt2 p a) (hb : Lt2 p b) (w : World) :
    Calls Try.prog 30 #[.agg (kd p r c gx gy).toArray, .agg (l2 a.1 a.2).toArray, .agg (l2 b.1 b.2).toArray] w fun e w' => e = .returned (V (lc (dT p a b))) ∧ Below w.heap.size w w' := by
  have H0 : Hid (_ ∧ _) := ⟨Mm.nil w, Below.refl w.heap.size w⟩
  go_enter Try.func30, Try.ntmps30
  refine wp_seq ?_
  refine walk_seqA 4 [.made (kd p r c gx gy) 27, .made (l2 a.1 a.2) 49, .made (l2 b.1 b.2) 49, .made (l2 0 0) 49] (sB H0) ?ho1 ?he1
  case ho1 => exact ak (fun γ => ⟨rfl, fun w' => ex_boxT rfl rfl⟩) (ak (fun γ => ⟨rfl, fun w' => ex_boxT rfl rfl⟩) (ak (fun γ => ⟨rfl, fun w' => ex_boxT rfl rfl⟩) (ak (fun γ => ⟨rfl, fun w' => ex_made49 rfl⟩) trivial)))
  intro γ w1 l hM hl
  have H1 : Hid (Mm w1 [(γ 0, kd p r c gx gy), (γ 1, l2 a.1 a.2), (γ 2, l2 b.1 b.2), (γ 3, l2 0 0)] ∧ _) := growB H0 hM (Nat.le_refl _) hl [0, 1, 2, 3] rfl (by decide)
  have o1_0 := ownB H0 hM (Nat.le_refl _) hl (i := 0) rfl
  have o1_1 := ownB H0 hM (Nat.le_refl _) hl (i := 1) rfl
  have o1_2 := ownB H0 hM (Nat.le_refl _) hl (i := 2) rfl
  have o1_3 := ownB H0 hM (Nat.le_refl _) hl (i := 3) rfl
  clear hM hl l
  generalize γ 0 = γ1_0 at H1 o1_0 ⊢
  generalize γ 1 = γ1_1 at H1 o1_1 ⊢
  generalize γ 2 = γ1_2 at H1 o1_2 ⊢
  generalize γ 3 = γ1_3 at H1 o1_3 ⊢
  clear γ
  refine rest0 rfl (then_normal (wp_seq ?_))
  refine walk_anyB 29 [.quiet (.agg (kd p r c gx gy).toArray), .quiet (.agg (kd p r c gx gy).toArray), .quiet (PT γ1_1 0), .quiet (U a.1), .quiet (PT γ1_2 0), .quiet (U b.1), .call (U (tm p a.1 b.1)), .quiet (.agg (kd p r c gx gy).toArray), .quiet (PT γ1_1 1), .quiet (U a.2), .quiet (PT γ1_2 1), .quiet (U b.2), .call (U (tm p a.2 b.2)), .call (U (mi p (tm p a.1 b.1) (tm p a.2 b.2))), .quiet (.agg (kd p r c gx gy).toArray), .quiet (.agg (kd p r c gx gy).toArray), .quiet (PT γ1_1 0), .quiet (U a.1), .quiet (PT γ1_2 1), .quiet (U b.2), .call (U (tm p a.1 b.2)), .quiet (.agg (kd p r c gx gy).toArray), .quiet (PT γ1_1 1), .quiet (U a.2), .quiet (PT γ1_2 0), .quiet (U b.1), .call (U (tm p a.2 b.1)), .call (U (pl p (tm p a.1 b.2) (tm p a.2 b.1))), .quiet (.agg (l2 (mi p (tm p a.1 b.1) (tm p a.2 b.2)) (pl p (tm p a.1 b.2) (tm p a.2 b.1))).toArray)] H1 ?ho2 ?he2 (hL := ?hL2)
  case hL2 => exact trivial
  case ho2 => exact ak (fun γ => ⟨rfl, fun w' h => ex_loadT h 0 rfl rfl rfl Try.isAgg27 Try.sizeOf27 rfl rfl⟩) (ak (fun γ => ⟨rfl, fun w' h => ex_loadT h 0 rfl rfl rfl Try.isAgg27 Try.sizeOf27 rfl rfl⟩) (ak (by refine fun γ => ⟨rfl, fun w' h => ?_⟩; clear h; go_simp) (ak (fun γ => ⟨rfl, fun w' h => ex_loadC h 1 rfl rfl rfl Try.isAgg23 rfl⟩) (ak (by refine fun γ => ⟨rfl, fun w' h => ?_⟩; clear h; go_simp) (ak (fun γ => ⟨rfl, fun w' h => ex_loadC h 2 rfl rfl rfl Try.isAgg23 rfl⟩) (ak (fun γ => ⟨rfl, fun w' h => ⟨54, #[.agg (kd p r c gx gy).toArray, U a.1, U b.1], exec_call rfl call54 rfl (mpn rfl), dmul_any hp a.1 b.1 ha.x hb.x w'⟩⟩) (ak (fun γ => ⟨rfl, fun w' h => ex_loadT h 0 rfl rfl rfl Try.isAgg27 Try.sizeOf27 rfl rfl⟩) (ak (by refine fun γ => ⟨rfl, fun w' h => ?_⟩; clear h; go_simp) (ak (fun γ => ⟨rfl, fun w' h => ex_loadC h 1 rfl rfl rfl Try.isAgg23 rfl⟩) (ak (by refine fun γ => ⟨rfl, fun w' h => ?_⟩; clear h; go_simp) (ak (fun γ => ⟨rfl, fun w' h => ex_loadC h 2 rfl rfl rfl Try.isAgg23 rfl⟩) (ak (fun γ => ⟨rfl, fun w' h => ⟨54, #[.agg (kd p r c gx gy).toArray, U a.2, U b.2], exec_call rfl call54 rfl (mpn rfl), dmul_any hp a.2 b.2 ha.y hb.y w'⟩⟩) (ak (fun γ => ⟨rfl, fun w' h => ⟨59, #[.agg (kd p r c gx gy).toArray, U (tm p a.1 b.1), U (tm p a.2 b.2)], exec_call rfl call59 rfl (mpn rfl), dsub_any hp (tm p a.1 b.1) (tm p a.2 b.2) (tm_lt hp) (tm_lt hp) w'⟩⟩) (ak (fun γ => ⟨rfl, fun w' h => ex_loadT h 0 rfl rfl rfl Try.isAgg27 Try.sizeOf27 rfl rfl⟩) (ak (fun γ => ⟨rfl, fun w' h => ex_loadT h 0 rfl rfl rfl Try.isAgg27 Try.sizeOf27 rfl rfl⟩) (ak (by refine fun γ => ⟨rfl, fun w' h => ?_⟩; clear h; go_simp) (ak (fun γ => ⟨rfl, fun w' h => ex_loadC h 1 rfl rfl rfl Try.isAgg23 rfl⟩) (ak (by refine fun γ => ⟨rfl, fun w' h => ?_⟩; clear h; go_simp) (ak (fun γ => ⟨rfl, fun w' h => ex_loadC h 2 rfl rfl rfl Try.isAgg23 rfl⟩) (ak (fun γ => ⟨rfl, fun w' h => ⟨54, #[.agg (kd p r c gx gy).toArray, U a.1, U b.2], exec_call rfl call54 rfl (mpn rfl), dmul_any hp a.1 b.2 ha.x hb.y w'⟩⟩) (ak (fun γ => ⟨rfl, fun w' h => ex_loadT h 0 rfl rfl rfl Try.isAgg27 Try.sizeOf27 rfl rfl⟩) (ak (by refine fun γ => ⟨rfl, fun w' h => ?_⟩; clear h; go_simp) (ak (fun γ => ⟨rfl, fun w' h => ex_loadC h 1 rfl rfl rfl Try.isAgg23 rfl⟩) (ak (by refine fun γ => ⟨rfl, fun w' h => ?_⟩; clear h; go_simp) (ak (fun γ => ⟨rfl, fun w' h => ex_loadC h 2 rfl rfl rfl Try.isAgg23 rfl⟩) (ak (fun γ => ⟨rfl, fun w' h => ⟨54, #[.agg (kd p r c gx gy).toArray, U a.2, U b.1], exec_call rfl call54 rfl (mpn rfl), dmul_any hp a.2 b.1 ha.y hb.x w'⟩⟩) (ak (fun γ => ⟨rfl, fun w' h => ⟨56, #[.agg (kd p r c gx gy).toArray, U (tm p a.1 b.2), U (tm p a.2 b.1)], exec_call rfl call56 rfl (mpn rfl), dadd_any hp (tm p a.1 b.2) (tm p a.2 b.1) (tm_lt hp) (tm_lt hp) w'⟩⟩) (ak (fun γ => ⟨rfl, fun w' _ => ex_build49_01 rfl rfl rfl⟩) trivial))))))))))))))))))))))))))))
  intro _ w2 H2
  clear H1
  refine rest_at (l := [29]) rfl ?_
  refine rest_store rfl rfl rfl (ex_storeT (vs := l2 (mi p (tm p a.1 b.1) (tm p a.2 b.2)) (pl p (tm p a.1 b.2) (tm p a.2 b.1))) H2.out.1 3 rfl rfl rfl rfl Try.sizeOf49 rfl (Nat.le_of_ble_eq_true rfl)) ?_
  have H3 : Hid (Mm (w2.setCells γ1_3 0 (l2 (mi p (tm p a.1 b.1) (tm p a.2 b.2)) (pl p (tm p a.1 b.2) (tm p a.2 b.1)))) [(γ1_0, kd p r c gx gy), (γ1_1, l2 a.1 a.2), (γ1_2, l2 b.1 b.2), (γ1_3, l2 (mi p (tm p a.1 b.1) (tm p a.2 b.2)) (pl p (tm p a.1 b.2) (tm p a.2 b.1)))] ∧ Below w.heap.size w (w2.setCells γ1_3 0 (l2 (mi p (tm p a.1 b.1) (tm p a.2 b.2)) (pl p (tm p a.1 b.2) (tm p a.2 b.1))))) := ⟨H2.out.1.put 3 (off := 0) (vs := l2 (mi p (tm p a.1 b.1) (tm p a.2 b.2)) (pl p (tm p a.1 b.2) (tm p a.2 b.1))) rfl (Nat.le_of_ble_eq_true rfl), below_setCells _ o1_3.out _ _ _ H2.out.2⟩
  clear H2
  generalize hgw : World.setCells _ _ _ _ = w3 at H3 ⊢
  clear hgw
  refine rest_nil (then_normal (wp_ret ?_))
  repeat (first | refine then_ret ?_ | refine block_ret ?_)
  have hf0 := var_T H3.out.1 3 rfl Try.isAgg49 Try.sizeOf49 rfl
  refine bodyPost_ret (v := .agg (l2 (mi p (tm p a.1 b.1) (tm p a.2 b.2)) (pl p (tm p a.1 b.2) (tm p a.2 b.1))).toArray) (by simp [results, Try.results30, asAddr, hf0]) rfl ?_
  exact ⟨rfl, H3.out.2⟩
theorem dTimes_any (hp : Pr p) (a b : E2) (ha : Lt2 p a) (hb : Lt2 p b) (w : World) : Calls Try.prog 30 #[.agg (kd p r c gx gy).toArray, .agg (l2 a.1 a.2).toArray, .agg (l2 b.1 b.2).toArray] w fun e w' => e = .returned (V (lc (pd p a b))) ∧ Below w.heap.size w w' := by
  have : NeZero p := ⟨Nat.ne_of_gt (zero_lt hp)⟩
  rw [← dT_pd hp ha]
  exact dTimes_raw hp a b ha hb w
set_option maxHeartbeats 1000000 in
set_option maxRecDepth 100000 in
theorem dOf2_any (hp : Pr p) (a : E2) (w : World) :
    Calls Try.prog 31 #[.agg (kd p r c gx gy).toArray, .agg (l2 a.1 a.2).toArray] w fun e w' => e = .returned (V (l2 (a.1 % p) (a.2 % p))) ∧ Below w.heap.size w w' := by
  have H0 : Hid (_ ∧ _) := ⟨Mm.nil w, Below.refl w.heap.size w⟩
  go_enter Try.func31, Try.ntmps31
  refine wp_seq ?_
  refine walk_seqA 3 [.made (kd p r c gx gy) 27, .made (l2 a.1 a.2) 49, .made (l2 0 0) 49] (sB H0) ?ho1 ?he1
  case ho1 => exact ak (fun γ => ⟨rfl, fun w' => ex_boxT rfl rfl⟩) (ak (fun γ => ⟨rfl, fun w' => ex_boxT rfl rfl⟩) (ak (fun γ => ⟨rfl, fun w' => ex_made49 rfl⟩) trivial))
  intro γ w1 l hM hl
  have H1 : Hid (Mm w1 [(γ 0, kd p r c gx gy), (γ 1, l2 a.1 a.2), (γ 2, l2 0 0)] ∧ _) := growB H0 hM (Nat.le_refl _) hl [0, 1, 2] rfl (by decide)
  have o1_0 := ownB H0 hM (Nat.le_refl _) hl (i := 0) rfl
  have o1_1 := ownB H0 hM (Nat.le_refl _) hl (i := 1) rfl
  have o1_2 := ownB H0 hM (Nat.le_refl _) hl (i := 2) rfl
  clear hM hl l
  generalize γ 0 = γ1_0 at H1 o1_0 ⊢
  generalize γ 1 = γ1_1 at H1 o1_1 ⊢
  generalize γ 2 = γ1_2 at H1 o1_2 ⊢
  clear γ
  refine rest0 rfl (then_normal (wp_seq ?_))
  refine walk_anyB 11 [.quiet (PT γ1_1 0), .quiet (U a.1), .quiet (PT γ1_0 0), .quiet (U p), .quiet (U (a.1 % p)), .quiet (PT γ1_1 1), .quiet (U a.2), .quiet (PT γ1_0 0), .quiet (U p), .quiet (U (a.2 % p)), .quiet (.agg (l2 (a.1 % p) (a.2 % p)).toArray)] H1 ?ho2 ?he2
  case ho2 => exact ak (by refine fun γ => ⟨rfl, fun w' h => ?_⟩; clear h; go_simp) (ak (fun γ => ⟨rfl, fun w' h => ex_loadC h 1 rfl rfl rfl Try.isAgg23 rfl⟩) (ak (by refine fun γ => ⟨rfl, fun w' h => ?_⟩; clear h; go_simp) (ak (fun γ => ⟨rfl, fun w' h => ex_loadC h 0 rfl rfl rfl Try.isAgg23 rfl⟩) (ak (fun γ => ⟨rfl, fun w' _ => ex_remU (by have := hp.lo; omega) rfl rfl rfl⟩) (ak (by refine fun γ => ⟨rfl, fun w' h => ?_⟩; clear h; go_simp) (ak (fun γ => ⟨rfl, fun w' h => ex_loadC h 1 rfl rfl rfl Try.isAgg23 rfl⟩) (ak (by refine fun γ => ⟨rfl, fun w' h => ?_⟩; clear h; go_simp) (ak (fun γ => ⟨rfl, fun w' h => ex_loadC h 0 rfl rfl rfl Try.isAgg23 rfl⟩) (ak (fun γ => ⟨rfl, fun w' _ => ex_remU (by have := hp.lo; omega) rfl rfl rfl⟩) (ak (fun γ => ⟨rfl, fun w' _ => ex_build49_01 rfl rfl rfl⟩) trivial))))))))))
  intro _ w2 H2
  clear H1
  refine rest_at (l := [11]) rfl ?_
  refine rest_store rfl rfl rfl (ex_storeT (vs := l2 (a.1 % p) (a.2 % p)) H2.out.1 2 rfl rfl rfl rfl Try.sizeOf49 rfl (Nat.le_of_ble_eq_true rfl)) ?_
  have H3 : Hid (Mm (w2.setCells γ1_2 0 (l2 (a.1 % p) (a.2 % p))) [(γ1_0, kd p r c gx gy), (γ1_1, l2 a.1 a.2), (γ1_2, l2 (a.1 % p) (a.2 % p))] ∧ Below w.heap.size w (w2.setCells γ1_2 0 (l2 (a.1 % p) (a.2 % p)))) := ⟨H2.out.1.put 2 (off := 0) (vs := l2 (a.1 % p) (a.2 % p)) rfl (Nat.le_of_ble_eq_true rfl), below_setCells _ o1_2.out _ _ _ H2.out.2⟩
  clear H2
  generalize hgw : World.setCells _ _ _ _ = w3 at H3 ⊢
  clear hgw
  refine rest_nil (then_normal (wp_ret ?_))
  repeat (first | refine then_ret ?_ | refine block_ret ?_)
  have hf0 := var_T H3.out.1 2 rfl Try.isAgg49 Try.sizeOf49 rfl
  refine bodyPost_ret (v := .agg (l2 (a.1 % p) (a.2 % p)).toArray) (by simp [results, Try.results31, asAddr, hf0]) rfl ?_
  exact ⟨rfl, H3.out.2⟩
set_option maxHeartbeats 1000000 in
set_option maxRecDepth 100000 in
theorem dPower_any (hp : Pr p) [NeZero p] (a : E2) (ha : Lt2 p a) (n : Nat) (hn : n < 18446744073709551616) (w : World) :
    Calls Try.prog 32 #[.agg (kd p r c gx gy).toArray, .agg (l2 a.1 a.2).toArray, U n] w fun e w' => e = .returned (V (lc (po p a n))) ∧ Below w.heap.size w w' := by
  have H0 : Hid (_ ∧ _) := ⟨Mm.nil w, Below.refl w.heap.size w⟩
  go_enter Try.func32, Try.ntmps32
  refine wp_seq ?_
  refine walk_seqA 3 [.made (kd p r c gx gy) 27, .made (l2 a.1 a.2) 49, .made (l2 0 0) 49] (sB H0) ?ho1 ?he1
  case ho1 => exact ak (fun γ => ⟨rfl, fun w' => ex_boxT rfl rfl⟩) (ak (fun γ => ⟨rfl, fun w' => ex_boxT rfl rfl⟩) (ak (fun γ => ⟨rfl, fun w' => ex_made49 rfl⟩) trivial))
  intro γ w1 l hM hl
  have H1 : Hid (Mm w1 [(γ 0, kd p r c gx gy), (γ 1, l2 a.1 a.2), (γ 2, l2 0 0)] ∧ _) := growB H0 hM (Nat.le_refl _) hl [0, 1, 2] rfl (by decide)
  have o1_0 := ownB H0 hM (Nat.le_refl _) hl (i := 0) rfl
  have o1_1 := ownB H0 hM (Nat.le_refl _) hl (i := 1) rfl
  have o1_2 := ownB H0 hM (Nat.le_refl _) hl (i := 2) rfl
  clear hM hl l
  generalize γ 0 = γ1_0 at H1 o1_0 ⊢
  generalize γ 1 = γ1_1 at H1 o1_1 ⊢
  generalize γ 2 = γ1_2 at H1 o1_2 ⊢
  clear γ
  refine rest0 rfl (then_normal (wp_seq ?_))
  refine walk_seqA 3 [.quiet (.agg (l2 1 0).toArray), .made (l2 0 0) 49, .laid 1 (l2 0 0) (l2 1 0)] (sB H1) ?ho2 ?he2 (hL := ?hL2)
  case hL2 => exact ⟨⟨_, rfl⟩, trivial⟩
  case ho2 => exact ak (fun γ => ⟨rfl, fun w' _ => ex_build49_01 rfl rfl rfl⟩) (ak (fun γ => ⟨rfl, fun w' => ex_made49 rfl⟩) (ak (fun γ => ⟨rfl, rfl, rfl, fun w' h => ex_laidT h rfl rfl Try.sizeOf49 rfl rfl rfl⟩) trivial))
  intro γ w2 l hM hl
  have H2 : Hid (Mm w2 [(γ 1, l2 1 0), (γ1_0, kd p r c gx gy), (γ1_1, l2 a.1 a.2), (γ1_2, l2 0 0)] ∧ _) := growB H1 hM (Nat.le_refl _) hl [1] rfl (by decide)
  have o2_1 := ownB H1 hM (Nat.le_refl _) hl (i := 1) rfl
  clear hM hl l H1
  generalize γ 1 = γ2_1 at H2 o2_1 ⊢
  clear γ
  refine rest0 rfl (then_normal (wp_seq (wp_seq ?_)))
  refine walk_seqB 4 [.quiet (U n), .call (.int .i64 ((bl n : Nat) : Int)), .quiet (.int .i64 (((bl n : Nat) : Int) - 1)), .quiet (.int .i64 (((bl n : Nat) : Int) - 1))] H2 ?ho3 ?he3
  case ho3 => exact ak (fun _ => ⟨rfl, fun _ _ => rfl⟩) (ak (fun γ => ⟨rfl, fun w' h => ⟨57, #[U n], exec_call rfl call57 rfl (mpn rfl), len_in n hn w'⟩⟩) (ak (by refine fun γ => ⟨rfl, fun w' h => ?_⟩; clear h; have hbl := bl_le_of n 64 hn; go_simp; rw [IntKind.wrap_i64]; omega) (ak (fun _ => ⟨rfl, fun _ _ => rfl⟩) trivial)))
  intro _ w3 H3
  clear H2
  refine rest0 rfl (then_normal (wp_block ?_))
  refine loop_ghost (α := Nat) (fun k a' w' => ∃ s0 : Nat → Value, a' = ⟨#[.agg (kd p r c gx gy).toArray, .agg (l2 a.1 a.2).toArray, U n, PT γ1_0 0, PT γ1_1 0, undef, PT γ1_2 0, PT γ2_1 0, .int .i64 (((k : Nat) : Int) - 1), .agg (l2 1 0).toArray, U n, .int .i64 ((bl n : Nat) : Int), .int .i64 (((bl n : Nat) : Int) - 1), s0 13, s0 14, s0 15, s0 16, s0 17, s0 18, s0 19, s0 20, s0 21, s0 22, s0 23, s0 24, s0 25, s0 26, s0 27, s0 28, s0 29, undef], []⟩ ∧ (Mm w' [(γ2_1, lc (po p a (n / 2 ^ k))), (γ1_0, kd p r c gx gy), (γ1_1, l2 a.1 a.2), (γ1_2, l2 0 0)] ∧ Below w.heap.size w w') ∧ k ≤ 64) (fun k => k) (bl n) ?st0 ?rd0
  case st0 => exact ⟨(slotfn [undef, undef, undef, undef, undef, undef, undef, undef, undef, undef, undef, undef, undef, undef, undef, undef, undef, undef, undef, undef, undef, undef, undef, undef, undef, undef, undef, undef, undef, undef]), rfl, ⟨by rw [Nat.div_eq_of_lt (bl_lt n)]; exact H3.out.1, H3.out.2⟩, bl_le_of n 64 hn⟩
  intro k a' w4 hI
  obtain ⟨s0, rfl, hMB, hk0⟩ := hI
  have H4 : Hid (_ ∧ _) := hMB
  clear hMB H3
  by_cases hlt : 0 < k
  · have hrd : True := trivial
    clear hrd
    obtain ⟨j, rfl⟩ : ∃ j, k = j + 1 := ⟨k - 1, by omega⟩
    rw [show (((j + 1 : Nat) : Int) - 1) = ((j : Nat) : Int) by omega]
    by_cases hb : n / 2 ^ j % 2 = 1
    · have hrd : True := trivial
      clear hrd
      refine wp_seq (wp_seq ?_)
      refine walk_seqB 2 [.quiet (.int .i64 ((j : Nat) : Int)), .quiet (.bool true)] H4 ?ho4 ?he4
      case ho4 => exact ak (fun _ => ⟨rfl, fun _ _ => rfl⟩) (ak (by refine fun γ => ⟨rfl, fun w' h => ?_⟩; clear h; go_simp) trivial)
      intro _ w5 H5
      clear H4
      refine rest0 rfl (then_normal (wp_cond_true rfl ?_))
      refine wp_skip (then_normal ?_)
      refine wp_seq (wp_block (wp_seq ?_))
      refine walk_seqB 4 [.quiet (.agg (kd p r c gx gy).toArray), .quiet (.agg (lc (po p a (n / 2 ^ (j + 1)))).toArray), .quiet (.agg (lc (po p a (n / 2 ^ (j + 1)))).toArray), .call (.agg (l2 ((pd p (po p a (n / 2 ^ (j + 1))) (po p a (n / 2 ^ (j + 1)))).1) ((pd p (po p a (n / 2 ^ (j + 1))) (po p a (n / 2 ^ (j + 1)))).2)).toArray)] H5 ?ho5 ?he5
      case ho5 => exact ak (fun γ => ⟨rfl, fun w' h => ex_loadT h 1 rfl rfl rfl Try.isAgg27 Try.sizeOf27 rfl rfl⟩) (ak (fun γ => ⟨rfl, fun w' h => ex_loadT h 0 rfl rfl rfl Try.isAgg49 Try.sizeOf49 rfl rfl⟩) (ak (fun γ => ⟨rfl, fun w' h => ex_loadT h 0 rfl rfl rfl Try.isAgg49 Try.sizeOf49 rfl rfl⟩) (ak (fun γ => ⟨rfl, fun w' h => ⟨30, #[.agg (kd p r c gx gy).toArray, .agg (lc (po p a (n / 2 ^ (j + 1)))).toArray, .agg (lc (po p a (n / 2 ^ (j + 1)))).toArray], exec_call rfl call30 rfl (mpn rfl), dTimes_any hp (po p a (n / 2 ^ (j + 1))) (po p a (n / 2 ^ (j + 1))) (po_lt hp _ _) (po_lt hp _ _) w'⟩⟩) trivial)))
      intro _ w6 H6
      clear H5
      refine rest_at (l := [4]) rfl ?_
      refine rest_store rfl rfl rfl (ex_storeT (vs := l2 ((pd p (po p a (n / 2 ^ (j + 1))) (po p a (n / 2 ^ (j + 1)))).1) ((pd p (po p a (n / 2 ^ (j + 1))) (po p a (n / 2 ^ (j + 1)))).2)) H6.out.1 0 rfl rfl rfl rfl Try.sizeOf49 rfl (Nat.le_of_ble_eq_true rfl)) ?_
      have H7 : Hid (Mm (w6.setCells γ2_1 0 (l2 ((pd p (po p a (n / 2 ^ (j + 1))) (po p a (n / 2 ^ (j + 1)))).1) ((pd p (po p a (n / 2 ^ (j + 1))) (po p a (n / 2 ^ (j + 1)))).2))) [(γ2_1, l2 ((pd p (po p a (n / 2 ^ (j + 1))) (po p a (n / 2 ^ (j + 1)))).1) ((pd p (po p a (n / 2 ^ (j + 1))) (po p a (n / 2 ^ (j + 1)))).2)), (γ1_0, kd p r c gx gy), (γ1_1, l2 a.1 a.2), (γ1_2, l2 0 0)] ∧ Below w.heap.size w (w6.setCells γ2_1 0 (l2 ((pd p (po p a (n / 2 ^ (j + 1))) (po p a (n / 2 ^ (j + 1)))).1) ((pd p (po p a (n / 2 ^ (j + 1))) (po p a (n / 2 ^ (j + 1)))).2)))) := ⟨H6.out.1.put 0 (off := 0) (vs := l2 ((pd p (po p a (n / 2 ^ (j + 1))) (po p a (n / 2 ^ (j + 1)))).1) ((pd p (po p a (n / 2 ^ (j + 1))) (po p a (n / 2 ^ (j + 1)))).2)) rfl (Nat.le_of_ble_eq_true rfl), below_setCells _ o2_1.out _ _ _ H6.out.2⟩
      clear H6
      generalize hgw : World.setCells _ _ _ _ = w7 at H7 ⊢
      clear hgw
      refine rest_nil (then_normal (wp_seq ?_))
      refine walk_seqB 5 [.quiet (U n), .quiet (.int .i64 ((j : Nat) : Int)), .quiet (U (n / 2 ^ j)), .quiet (U (n / 2 ^ j % 2)), .quiet (.bool true)] H7 ?ho6 ?he6
      case ho6 => exact ak (fun _ => ⟨rfl, fun _ _ => rfl⟩) (ak (fun _ => ⟨rfl, fun _ _ => rfl⟩) (ak (fun γ => ⟨rfl, fun w' _ => ex_shrU (by omega) rfl rfl rfl⟩) (ak (fun γ => ⟨rfl, fun w' _ => ex_and1 rfl (Nat.lt_of_le_of_lt (Nat.div_le_self _ _) hn) rfl rfl⟩) (ak (fun γ => ⟨rfl, fun w' _ => ex_eqU rfl rfl rfl (decide_eq_true (hb))⟩) trivial))))
      intro _ w8 H8
      clear H7
      refine rest0 rfl (then_normal (wp_cond_true rfl ?_))
      refine walk_seqB 4 [.quiet (.agg (kd p r c gx gy).toArray), .quiet (.agg (l2 ((pd p (po p a (n / 2 ^ (j + 1))) (po p a (n / 2 ^ (j + 1)))).1) ((pd p (po p a (n / 2 ^ (j + 1))) (po p a (n / 2 ^ (j + 1)))).2)).toArray), .quiet (.agg (l2 a.1 a.2).toArray), .call (.agg (l2 ((pd p (pd p (po p a (n / 2 ^ (j + 1))) (po p a (n / 2 ^ (j + 1)))) a).1) ((pd p (pd p (po p a (n / 2 ^ (j + 1))) (po p a (n / 2 ^ (j + 1)))) a).2)).toArray)] H8 ?ho7 ?he7
      case ho7 => exact ak (fun γ => ⟨rfl, fun w' h => ex_loadT h 1 rfl rfl rfl Try.isAgg27 Try.sizeOf27 rfl rfl⟩) (ak (fun γ => ⟨rfl, fun w' h => ex_loadT h 0 rfl rfl rfl Try.isAgg49 Try.sizeOf49 rfl rfl⟩) (ak (fun γ => ⟨rfl, fun w' h => ex_loadT h 2 rfl rfl rfl Try.isAgg49 Try.sizeOf49 rfl rfl⟩) (ak (fun γ => ⟨rfl, fun w' h => ⟨30, #[.agg (kd p r c gx gy).toArray, .agg (l2 ((pd p (po p a (n / 2 ^ (j + 1))) (po p a (n / 2 ^ (j + 1)))).1) ((pd p (po p a (n / 2 ^ (j + 1))) (po p a (n / 2 ^ (j + 1)))).2)).toArray, .agg (l2 a.1 a.2).toArray], exec_call rfl call30 rfl (mpn rfl), dTimes_any hp (pd p (po p a (n / 2 ^ (j + 1))) (po p a (n / 2 ^ (j + 1)))) a (pd_lt hp _ _) ha w'⟩⟩) trivial)))
      intro _ w9 H9
      clear H8
      refine rest_at (l := [4]) rfl ?_
      refine rest_store rfl rfl rfl (ex_storeT (vs := l2 ((pd p (pd p (po p a (n / 2 ^ (j + 1))) (po p a (n / 2 ^ (j + 1)))) a).1) ((pd p (pd p (po p a (n / 2 ^ (j + 1))) (po p a (n / 2 ^ (j + 1)))) a).2)) H9.out.1 0 rfl rfl rfl rfl Try.sizeOf49 rfl (Nat.le_of_ble_eq_true rfl)) ?_
      have H10 : Hid (Mm (w9.setCells γ2_1 0 (l2 ((pd p (pd p (po p a (n / 2 ^ (j + 1))) (po p a (n / 2 ^ (j + 1)))) a).1) ((pd p (pd p (po p a (n / 2 ^ (j + 1))) (po p a (n / 2 ^ (j + 1)))) a).2))) [(γ2_1, l2 ((pd p (pd p (po p a (n / 2 ^ (j + 1))) (po p a (n / 2 ^ (j + 1)))) a).1) ((pd p (pd p (po p a (n / 2 ^ (j + 1))) (po p a (n / 2 ^ (j + 1)))) a).2)), (γ1_0, kd p r c gx gy), (γ1_1, l2 a.1 a.2), (γ1_2, l2 0 0)] ∧ Below w.heap.size w (w9.setCells γ2_1 0 (l2 ((pd p (pd p (po p a (n / 2 ^ (j + 1))) (po p a (n / 2 ^ (j + 1)))) a).1) ((pd p (pd p (po p a (n / 2 ^ (j + 1))) (po p a (n / 2 ^ (j + 1)))) a).2)))) := ⟨H9.out.1.put 0 (off := 0) (vs := l2 ((pd p (pd p (po p a (n / 2 ^ (j + 1))) (po p a (n / 2 ^ (j + 1)))) a).1) ((pd p (pd p (po p a (n / 2 ^ (j + 1))) (po p a (n / 2 ^ (j + 1)))) a).2)) rfl (Nat.le_of_ble_eq_true rfl), below_setCells _ o2_1.out _ _ _ H9.out.2⟩
      clear H9
      generalize hgw : World.setCells _ _ _ _ = w10 at H10 ⊢
      clear hgw
      refine rest_nil (block_normal (then_normal ?_))
      refine walk_seqB 2 [.quiet (.int .i64 ((j : Nat) : Int)), .quiet (.int .i64 (((j : Nat) : Int) - 1))] H10 ?ho8 ?he8
      case ho8 => exact ak (fun _ => ⟨rfl, fun _ _ => rfl⟩) (ak (by refine fun γ => ⟨rfl, fun w' h => ?_⟩; clear h; go_simp; rw [IntKind.wrap_i64]; omega) trivial)
      intro _ w11 H11
      clear H10
      refine rest_at (l := [2]) rfl ?_
      refine rest_set (d := 8) rfl rfl rfl rfl ?_
      simp only [Act.put, sa, sz, ss]
      refine rest_nil (then_normal ?_)
      exact ⟨j, ⟨(slotfn [undef, undef, undef, undef, undef, undef, undef, undef, undef, undef, undef, undef, undef, .int .i64 ((j : Nat) : Int), .bool true, .int .i64 ((j : Nat) : Int), .int .i64 (((j : Nat) : Int) - 1), .agg (kd p r c gx gy).toArray, .agg (lc (po p a (n / 2 ^ (j + 1)))).toArray, .agg (lc (po p a (n / 2 ^ (j + 1)))).toArray, .agg (l2 ((pd p (po p a (n / 2 ^ (j + 1))) (po p a (n / 2 ^ (j + 1)))).1) ((pd p (po p a (n / 2 ^ (j + 1))) (po p a (n / 2 ^ (j + 1)))).2)).toArray, U n, .int .i64 ((j : Nat) : Int), U (n / 2 ^ j), U (n / 2 ^ j % 2), .bool true, .agg (kd p r c gx gy).toArray, .agg (l2 ((pd p (po p a (n / 2 ^ (j + 1))) (po p a (n / 2 ^ (j + 1)))).1) ((pd p (po p a (n / 2 ^ (j + 1))) (po p a (n / 2 ^ (j + 1)))).2)).toArray, .agg (l2 a.1 a.2).toArray, .agg (l2 ((pd p (pd p (po p a (n / 2 ^ (j + 1))) (po p a (n / 2 ^ (j + 1)))) a).1) ((pd p (pd p (po p a (n / 2 ^ (j + 1))) (po p a (n / 2 ^ (j + 1)))) a).2)).toArray]), rfl, ⟨by rw [po_bit hp a n j, if_pos hb]; exact H11.out.1, H11.out.2⟩, by omega⟩, by omega⟩
    · have hrd : True := trivial
      clear hrd
      refine wp_seq (wp_seq ?_)
      refine walk_seqB 2 [.quiet (.int .i64 ((j : Nat) : Int)), .quiet (.bool true)] H4 ?ho9 ?he9
      case ho9 => exact ak (fun _ => ⟨rfl, fun _ _ => rfl⟩) (ak (by refine fun γ => ⟨rfl, fun w' h => ?_⟩; clear h; go_simp) trivial)
      intro _ w12 H12
      clear H4
      refine rest0 rfl (then_normal (wp_cond_true rfl ?_))
      refine wp_skip (then_normal ?_)
      refine wp_seq (wp_block (wp_seq ?_))
      refine walk_seqB 4 [.quiet (.agg (kd p r c gx gy).toArray), .quiet (.agg (lc (po p a (n / 2 ^ (j + 1)))).toArray), .quiet (.agg (lc (po p a (n / 2 ^ (j + 1)))).toArray), .call (.agg (l2 ((pd p (po p a (n / 2 ^ (j + 1))) (po p a (n / 2 ^ (j + 1)))).1) ((pd p (po p a (n / 2 ^ (j + 1))) (po p a (n / 2 ^ (j + 1)))).2)).toArray)] H12 ?ho10 ?he10
      case ho10 => exact ak (fun γ => ⟨rfl, fun w' h => ex_loadT h 1 rfl rfl rfl Try.isAgg27 Try.sizeOf27 rfl rfl⟩) (ak (fun γ => ⟨rfl, fun w' h => ex_loadT h 0 rfl rfl rfl Try.isAgg49 Try.sizeOf49 rfl rfl⟩) (ak (fun γ => ⟨rfl, fun w' h => ex_loadT h 0 rfl rfl rfl Try.isAgg49 Try.sizeOf49 rfl rfl⟩) (ak (fun γ => ⟨rfl, fun w' h => ⟨30, #[.agg (kd p r c gx gy).toArray, .agg (lc (po p a (n / 2 ^ (j + 1)))).toArray, .agg (lc (po p a (n / 2 ^ (j + 1)))).toArray], exec_call rfl call30 rfl (mpn rfl), dTimes_any hp (po p a (n / 2 ^ (j + 1))) (po p a (n / 2 ^ (j + 1))) (po_lt hp _ _) (po_lt hp _ _) w'⟩⟩) trivial)))
      intro _ w13 H13
      clear H12
      refine rest_at (l := [4]) rfl ?_
      refine rest_store rfl rfl rfl (ex_storeT (vs := l2 ((pd p (po p a (n / 2 ^ (j + 1))) (po p a (n / 2 ^ (j + 1)))).1) ((pd p (po p a (n / 2 ^ (j + 1))) (po p a (n / 2 ^ (j + 1)))).2)) H13.out.1 0 rfl rfl rfl rfl Try.sizeOf49 rfl (Nat.le_of_ble_eq_true rfl)) ?_
      have H14 : Hid (Mm (w13.setCells γ2_1 0 (l2 ((pd p (po p a (n / 2 ^ (j + 1))) (po p a (n / 2 ^ (j + 1)))).1) ((pd p (po p a (n / 2 ^ (j + 1))) (po p a (n / 2 ^ (j + 1)))).2))) [(γ2_1, l2 ((pd p (po p a (n / 2 ^ (j + 1))) (po p a (n / 2 ^ (j + 1)))).1) ((pd p (po p a (n / 2 ^ (j + 1))) (po p a (n / 2 ^ (j + 1)))).2)), (γ1_0, kd p r c gx gy), (γ1_1, l2 a.1 a.2), (γ1_2, l2 0 0)] ∧ Below w.heap.size w (w13.setCells γ2_1 0 (l2 ((pd p (po p a (n / 2 ^ (j + 1))) (po p a (n / 2 ^ (j + 1)))).1) ((pd p (po p a (n / 2 ^ (j + 1))) (po p a (n / 2 ^ (j + 1)))).2)))) := ⟨H13.out.1.put 0 (off := 0) (vs := l2 ((pd p (po p a (n / 2 ^ (j + 1))) (po p a (n / 2 ^ (j + 1)))).1) ((pd p (po p a (n / 2 ^ (j + 1))) (po p a (n / 2 ^ (j + 1)))).2)) rfl (Nat.le_of_ble_eq_true rfl), below_setCells _ o2_1.out _ _ _ H13.out.2⟩
      clear H13
      generalize hgw : World.setCells _ _ _ _ = w14 at H14 ⊢
      clear hgw
      refine rest_nil (then_normal (wp_seq ?_))
      refine walk_seqB 5 [.quiet (U n), .quiet (.int .i64 ((j : Nat) : Int)), .quiet (U (n / 2 ^ j)), .quiet (U (n / 2 ^ j % 2)), .quiet (.bool false)] H14 ?ho11 ?he11
      case ho11 => exact ak (fun _ => ⟨rfl, fun _ _ => rfl⟩) (ak (fun _ => ⟨rfl, fun _ _ => rfl⟩) (ak (fun γ => ⟨rfl, fun w' _ => ex_shrU (by omega) rfl rfl rfl⟩) (ak (fun γ => ⟨rfl, fun w' _ => ex_and1 rfl (Nat.lt_of_le_of_lt (Nat.div_le_self _ _) hn) rfl rfl⟩) (ak (fun γ => ⟨rfl, fun w' _ => ex_eqU rfl rfl rfl (decide_eq_false (hb))⟩) trivial))))
      intro _ w15 H15
      clear H14
      refine rest0 rfl (then_normal (wp_cond_false rfl ?_))
      refine wp_skip (block_normal (then_normal ?_))
      refine walk_seqB 2 [.quiet (.int .i64 ((j : Nat) : Int)), .quiet (.int .i64 (((j : Nat) : Int) - 1))] H15 ?ho12 ?he12
      case ho12 => exact ak (fun _ => ⟨rfl, fun _ _ => rfl⟩) (ak (by refine fun γ => ⟨rfl, fun w' h => ?_⟩; clear h; go_simp; rw [IntKind.wrap_i64]; omega) trivial)
      intro _ w16 H16
      clear H15
      refine rest_at (l := [2]) rfl ?_
      refine rest_set (d := 8) rfl rfl rfl rfl ?_
      simp only [Act.put, sa, sz, ss]
      refine rest_nil (then_normal ?_)
      exact ⟨j, ⟨(slotfn [undef, undef, undef, undef, undef, undef, undef, undef, undef, undef, undef, undef, undef, .int .i64 ((j : Nat) : Int), .bool true, .int .i64 ((j : Nat) : Int), .int .i64 (((j : Nat) : Int) - 1), .agg (kd p r c gx gy).toArray, .agg (lc (po p a (n / 2 ^ (j + 1)))).toArray, .agg (lc (po p a (n / 2 ^ (j + 1)))).toArray, .agg (l2 ((pd p (po p a (n / 2 ^ (j + 1))) (po p a (n / 2 ^ (j + 1)))).1) ((pd p (po p a (n / 2 ^ (j + 1))) (po p a (n / 2 ^ (j + 1)))).2)).toArray, U n, .int .i64 ((j : Nat) : Int), U (n / 2 ^ j), U (n / 2 ^ j % 2), .bool false, s0 26, s0 27, s0 28, s0 29]), rfl, ⟨by rw [po_bit hp a n j, if_neg hb]; exact H16.out.1, H16.out.2⟩, by omega⟩, by omega⟩
  have hk : k = 0 := by omega
  subst hk
  refine wp_seq (wp_seq ?_)
  refine walk_seqB 2 [.quiet (.int .i64 (((0 : Nat) : Int) - 1)), .quiet (.bool false)] H4 ?ho13 ?he13
  case ho13 => exact ak (fun _ => ⟨rfl, fun _ _ => rfl⟩) (ak (by refine fun γ => ⟨rfl, fun w' h => ?_⟩; clear h; go_simp) trivial)
  intro _ w17 H17
  clear H4
  refine rest0 rfl (then_normal (wp_cond_false rfl ?_))
  refine wp_exit ?_
  repeat refine then_exit ?_
  refine block_exit ?_
  refine then_normal (wp_seq ?_)
  refine walk_seqB 1 [.quiet (.agg (lc (po p a (n / 2 ^ 0))).toArray)] H17 ?ho14 ?he14
  case ho14 => exact ak (fun γ => ⟨rfl, fun w' h => ex_loadT h 0 rfl rfl rfl Try.isAgg49 Try.sizeOf49 rfl rfl⟩) trivial
  intro _ w18 H18
  clear H17
  refine rest_at (l := [1]) rfl ?_
  refine rest_store rfl rfl rfl (ex_storeT (vs := lc (po p a (n / 2 ^ 0))) H18.out.1 3 rfl rfl rfl rfl Try.sizeOf49 rfl (Nat.le_of_ble_eq_true rfl)) ?_
  have H19 : Hid (Mm (w18.setCells γ1_2 0 (lc (po p a (n / 2 ^ 0)))) [(γ2_1, lc (po p a (n / 2 ^ 0))), (γ1_0, kd p r c gx gy), (γ1_1, l2 a.1 a.2), (γ1_2, lc (po p a (n / 2 ^ 0)))] ∧ Below w.heap.size w (w18.setCells γ1_2 0 (lc (po p a (n / 2 ^ 0))))) := ⟨H18.out.1.put 3 (off := 0) (vs := lc (po p a (n / 2 ^ 0))) rfl (Nat.le_of_ble_eq_true rfl), below_setCells _ o1_2.out _ _ _ H18.out.2⟩
  clear H18
  generalize hgw : World.setCells _ _ _ _ = w19 at H19 ⊢
  clear hgw
  refine rest_nil (then_normal (wp_ret ?_))
  repeat (first | refine then_ret ?_ | refine block_ret ?_)
  have hf0 := var_T H19.out.1 3 rfl Try.isAgg49 Try.sizeOf49 rfl
  refine bodyPost_ret (v := .agg (lc (po p a (n / 2 ^ 0))).toArray) (by simp [results, Try.results32, asAddr, hf0]) rfl ?_
  exact ⟨by rw [Nat.pow_zero, Nat.div_one], H19.out.2⟩
set_option maxHeartbeats 1000000 in
set_option maxRecDepth 100000 in
theorem dline_any (hp : Pr p) (t : P3) (ht : LtP p t) (m : Nat) (hm0 : m < p) (X' Y' : Nat) (Z' : Bool) (hX' : X' < p) (_hY' : Y' < p) (w : World) :
    Calls Try.prog 66 #[.agg (kd p r c gx gy).toArray, .agg (pt t.1 t.2.1 (t.2.2)).toArray, U m, .agg (pt X' Y' Z').toArray] w fun e w' => e = .returned (V (lc (dl p t m X' Y'))) ∧ Below w.heap.size w w' := by
  have H0 : Hid (_ ∧ _) := ⟨Mm.nil w, Below.refl w.heap.size w⟩
  go_enter Try.func66, Try.ntmps66
  refine wp_seq ?_
  refine walk_seqA 4 [.made (kd p r c gx gy) 27, .made (pt t.1 t.2.1 (t.2.2)) 25, .made (pt X' Y' Z') 25, .made (l2 0 0) 49] (sB H0) ?ho1 ?he1
  case ho1 => exact ak (fun γ => ⟨rfl, fun w' => ex_boxT rfl rfl⟩) (ak (fun γ => ⟨rfl, fun w' => ex_boxT rfl rfl⟩) (ak (fun γ => ⟨rfl, fun w' => ex_boxT rfl rfl⟩) (ak (fun γ => ⟨rfl, fun w' => ex_made49 rfl⟩) trivial)))
  intro γ w1 l hM hl
  have H1 : Hid (Mm w1 [(γ 0, kd p r c gx gy), (γ 1, pt t.1 t.2.1 (t.2.2)), (γ 2, pt X' Y' Z'), (γ 3, l2 0 0)] ∧ _) := growB H0 hM (Nat.le_refl _) hl [0, 1, 2, 3] rfl (by decide)
  have o1_0 := ownB H0 hM (Nat.le_refl _) hl (i := 0) rfl
  have o1_1 := ownB H0 hM (Nat.le_refl _) hl (i := 1) rfl
  have o1_2 := ownB H0 hM (Nat.le_refl _) hl (i := 2) rfl
  have o1_3 := ownB H0 hM (Nat.le_refl _) hl (i := 3) rfl
  clear hM hl l
  generalize γ 0 = γ1_0 at H1 o1_0 ⊢
  generalize γ 1 = γ1_1 at H1 o1_1 ⊢
  generalize γ 2 = γ1_2 at H1 o1_2 ⊢
  generalize γ 3 = γ1_3 at H1 o1_3 ⊢
  clear γ
  refine rest0 rfl (then_normal (wp_seq ?_))
  refine walk_anyB 16 [.quiet (.agg (kd p r c gx gy).toArray), .quiet (.agg (kd p r c gx gy).toArray), .quiet (U m), .quiet (.agg (kd p r c gx gy).toArray), .quiet (PT γ1_2 0), .quiet (U X'), .quiet (PT γ1_1 0), .quiet (U t.1), .call (U (pl p X' t.1)), .call (U (tm p m (pl p X' t.1))), .quiet (PT γ1_1 1), .quiet (U t.2.1), .call (U (mi p (tm p m (pl p X' t.1)) t.2.1)), .quiet (PT γ1_2 1), .quiet (U Y'), .quiet (.agg (l2 (mi p (tm p m (pl p X' t.1)) t.2.1) Y').toArray)] H1 ?ho2 ?he2
  case ho2 => exact ak (fun γ => ⟨rfl, fun w' h => ex_loadT h 0 rfl rfl rfl Try.isAgg27 Try.sizeOf27 rfl rfl⟩) (ak (fun γ => ⟨rfl, fun w' h => ex_loadT h 0 rfl rfl rfl Try.isAgg27 Try.sizeOf27 rfl rfl⟩) (ak (fun _ => ⟨rfl, fun _ _ => rfl⟩) (ak (fun γ => ⟨rfl, fun w' h => ex_loadT h 0 rfl rfl rfl Try.isAgg27 Try.sizeOf27 rfl rfl⟩) (ak (by refine fun γ => ⟨rfl, fun w' h => ?_⟩; clear h; go_simp) (ak (fun γ => ⟨rfl, fun w' h => ex_loadC h 2 rfl rfl rfl Try.isAgg23 rfl⟩) (ak (by refine fun γ => ⟨rfl, fun w' h => ?_⟩; clear h; go_simp) (ak (fun γ => ⟨rfl, fun w' h => ex_loadC h 1 rfl rfl rfl Try.isAgg23 rfl⟩) (ak (fun γ => ⟨rfl, fun w' h => ⟨56, #[.agg (kd p r c gx gy).toArray, U X', U t.1], exec_call rfl call56 rfl (mpn rfl), dadd_any hp X' t.1 hX' ht.x w'⟩⟩) (ak (fun γ => ⟨rfl, fun w' h => ⟨54, #[.agg (kd p r c gx gy).toArray, U m, U (pl p X' t.1)], exec_call rfl call54 rfl (mpn rfl), dmul_any hp m (pl p X' t.1) hm0 (pl_lt hp) w'⟩⟩) (ak (by refine fun γ => ⟨rfl, fun w' h => ?_⟩; clear h; go_simp) (ak (fun γ => ⟨rfl, fun w' h => ex_loadC h 1 rfl rfl rfl Try.isAgg23 rfl⟩) (ak (fun γ => ⟨rfl, fun w' h => ⟨59, #[.agg (kd p r c gx gy).toArray, U (tm p m (pl p X' t.1)), U t.2.1], exec_call rfl call59 rfl (mpn rfl), dsub_any hp (tm p m (pl p X' t.1)) t.2.1 (tm_lt hp) ht.y w'⟩⟩) (ak (by refine fun γ => ⟨rfl, fun w' h => ?_⟩; clear h; go_simp) (ak (fun γ => ⟨rfl, fun w' h => ex_loadC h 2 rfl rfl rfl Try.isAgg23 rfl⟩) (ak (fun γ => ⟨rfl, fun w' _ => ex_build49_01 rfl rfl rfl⟩) trivial)))))))))))))))
  intro _ w2 H2
  clear H1
  refine rest_at (l := [16]) rfl ?_
  refine rest_store rfl rfl rfl (ex_storeT (vs := l2 (mi p (tm p m (pl p X' t.1)) t.2.1) Y') H2.out.1 3 rfl rfl rfl rfl Try.sizeOf49 rfl (Nat.le_of_ble_eq_true rfl)) ?_
  have H3 : Hid (Mm (w2.setCells γ1_3 0 (l2 (mi p (tm p m (pl p X' t.1)) t.2.1) Y')) [(γ1_0, kd p r c gx gy), (γ1_1, pt t.1 t.2.1 (t.2.2)), (γ1_2, pt X' Y' Z'), (γ1_3, l2 (mi p (tm p m (pl p X' t.1)) t.2.1) Y')] ∧ Below w.heap.size w (w2.setCells γ1_3 0 (l2 (mi p (tm p m (pl p X' t.1)) t.2.1) Y'))) := ⟨H2.out.1.put 3 (off := 0) (vs := l2 (mi p (tm p m (pl p X' t.1)) t.2.1) Y') rfl (Nat.le_of_ble_eq_true rfl), below_setCells _ o1_3.out _ _ _ H2.out.2⟩
  clear H2
  generalize hgw : World.setCells _ _ _ _ = w3 at H3 ⊢
  clear hgw
  refine rest_nil (then_normal (wp_ret ?_))
  repeat (first | refine then_ret ?_ | refine block_ret ?_)
  have hf0 := var_T H3.out.1 3 rfl Try.isAgg49 Try.sizeOf49 rfl
  refine bodyPost_ret (v := .agg (l2 (mi p (tm p m (pl p X' t.1)) t.2.1) Y').toArray) (by simp [results, Try.results66, asAddr, hf0]) rfl ?_
  exact ⟨rfl, H3.out.2⟩
set_option maxHeartbeats 1000000 in
set_option maxRecDepth 100000 in
theorem dPair_z (X Y X' Y' : Nat) (Z' : Bool) (w : World) :
    Calls Try.prog 33 #[.agg (kd p r c gx gy).toArray, .agg (pt X Y true).toArray, .agg (pt X' Y' Z').toArray] w fun e w' => e = .returned (V (l2 1 0)) ∧ Below w.heap.size w w' := by
  have H0 : Hid (_ ∧ _) := ⟨Mm.nil w, Below.refl w.heap.size w⟩
  go_enter Try.func33, Try.ntmps33
  refine wp_seq ?_
  refine walk_seqA 4 [.made (kd p r c gx gy) 27, .made (pt X Y true) 25, .made (pt X' Y' Z') 25, .made (l2 0 0) 49] (sB H0) ?ho1 ?he1
  case ho1 => exact ak (fun γ => ⟨rfl, fun w' => ex_boxT rfl rfl⟩) (ak (fun γ => ⟨rfl, fun w' => ex_boxT rfl rfl⟩) (ak (fun γ => ⟨rfl, fun w' => ex_boxT rfl rfl⟩) (ak (fun γ => ⟨rfl, fun w' => ex_made49 rfl⟩) trivial)))
  intro γ w1 l hM hl
  have H1 : Hid (Mm w1 [(γ 0, kd p r c gx gy), (γ 1, pt X Y true), (γ 2, pt X' Y' Z'), (γ 3, l2 0 0)] ∧ _) := growB H0 hM (Nat.le_refl _) hl [0, 1, 2, 3] rfl (by decide)
  have o1_0 := ownB H0 hM (Nat.le_refl _) hl (i := 0) rfl
  have o1_1 := ownB H0 hM (Nat.le_refl _) hl (i := 1) rfl
  have o1_2 := ownB H0 hM (Nat.le_refl _) hl (i := 2) rfl
  have o1_3 := ownB H0 hM (Nat.le_refl _) hl (i := 3) rfl
  clear hM hl l
  generalize γ 0 = γ1_0 at H1 o1_0 ⊢
  generalize γ 1 = γ1_1 at H1 o1_1 ⊢
  generalize γ 2 = γ1_2 at H1 o1_2 ⊢
  generalize γ 3 = γ1_3 at H1 o1_3 ⊢
  clear γ
  refine rest0 rfl (then_normal (wp_seq (wp_seq ?_)))
  refine walk_seqB 6 [.quiet (PT γ1_1 2), .quiet (.bool true), .quiet (.bool true), .gone, .gone, .quiet (.bool true)] H1 ?ho2 ?he2
  case ho2 => exact ak (by refine fun γ => ⟨rfl, fun w' h => ?_⟩; clear h; go_simp) (ak (fun γ => ⟨rfl, fun w' h => ex_loadC h 1 rfl rfl rfl Try.isAgg4 rfl⟩) (ak (fun _ => ⟨rfl, fun _ _ => rfl⟩) (ak (fun γ => rfl) (ak (fun γ => rfl) (ak (by refine fun γ => ⟨rfl, fun w' h => ?_⟩; clear h; go_simp) trivial)))))
  intro _ w2 H2
  clear H1
  refine rest0 rfl (then_normal (wp_cond_true rfl (wp_seq ?_)))
  refine walk_seqB 1 [.quiet (.agg (l2 1 0).toArray)] H2 ?ho3 ?he3
  case ho3 => exact ak (fun γ => ⟨rfl, fun w' _ => ex_build49_01 rfl rfl rfl⟩) trivial
  intro _ w3 H3
  clear H2
  refine rest_at (l := [1]) rfl ?_
  refine rest_store rfl rfl rfl (ex_storeT (vs := l2 1 0) H3.out.1 3 rfl rfl rfl rfl Try.sizeOf49 rfl (Nat.le_of_ble_eq_true rfl)) ?_
  have H4 : Hid (Mm (w3.setCells γ1_3 0 (l2 1 0)) [(γ1_0, kd p r c gx gy), (γ1_1, pt X Y true), (γ1_2, pt X' Y' Z'), (γ1_3, l2 1 0)] ∧ Below w.heap.size w (w3.setCells γ1_3 0 (l2 1 0))) := ⟨H3.out.1.put 3 (off := 0) (vs := l2 1 0) rfl (Nat.le_of_ble_eq_true rfl), below_setCells _ o1_3.out _ _ _ H3.out.2⟩
  clear H3
  generalize hgw : World.setCells _ _ _ _ = w4 at H4 ⊢
  clear hgw
  refine rest_nil (then_normal (wp_ret ?_))
  repeat (first | refine then_ret ?_ | refine block_ret ?_)
  have hf0 := var_T H4.out.1 3 rfl Try.isAgg49 Try.sizeOf49 rfl
  refine bodyPost_ret (v := .agg (l2 1 0).toArray) (by simp [results, Try.results33, asAddr, hf0]) rfl ?_
  exact ⟨rfl, H4.out.2⟩
set_option maxHeartbeats 1000000 in
set_option maxRecDepth 100000 in
theorem dPair_y (X Y X' Y' : Nat) (w : World) :
    Calls Try.prog 33 #[.agg (kd p r c gx gy).toArray, .agg (pt X Y false).toArray, .agg (pt X' Y' true).toArray] w fun e w' => e = .returned (V (l2 1 0)) ∧ Below w.heap.size w w' := by
  have H0 : Hid (_ ∧ _) := ⟨Mm.nil w, Below.refl w.heap.size w⟩
  go_enter Try.func33, Try.ntmps33
  refine wp_seq ?_
  refine walk_seqA 4 [.made (kd p r c gx gy) 27, .made (pt X Y false) 25, .made (pt X' Y' true) 25, .made (l2 0 0) 49] (sB H0) ?ho1 ?he1
  case ho1 => exact ak (fun γ => ⟨rfl, fun w' => ex_boxT rfl rfl⟩) (ak (fun γ => ⟨rfl, fun w' => ex_boxT rfl rfl⟩) (ak (fun γ => ⟨rfl, fun w' => ex_boxT rfl rfl⟩) (ak (fun γ => ⟨rfl, fun w' => ex_made49 rfl⟩) trivial)))
  intro γ w1 l hM hl
  have H1 : Hid (Mm w1 [(γ 0, kd p r c gx gy), (γ 1, pt X Y false), (γ 2, pt X' Y' true), (γ 3, l2 0 0)] ∧ _) := growB H0 hM (Nat.le_refl _) hl [0, 1, 2, 3] rfl (by decide)
  have o1_0 := ownB H0 hM (Nat.le_refl _) hl (i := 0) rfl
  have o1_1 := ownB H0 hM (Nat.le_refl _) hl (i := 1) rfl
  have o1_2 := ownB H0 hM (Nat.le_refl _) hl (i := 2) rfl
  have o1_3 := ownB H0 hM (Nat.le_refl _) hl (i := 3) rfl
  clear hM hl l
  generalize γ 0 = γ1_0 at H1 o1_0 ⊢
  generalize γ 1 = γ1_1 at H1 o1_1 ⊢
  generalize γ 2 = γ1_2 at H1 o1_2 ⊢
  generalize γ 3 = γ1_3 at H1 o1_3 ⊢
  clear γ
  refine rest0 rfl (then_normal (wp_seq (wp_seq ?_)))
  refine walk_seqB 6 [.quiet (PT γ1_1 2), .quiet (.bool false), .quiet (.bool false), .quiet (PT γ1_2 2), .quiet (.bool true), .quiet (.bool true)] H1 ?ho2 ?he2
  case ho2 => exact ak (by refine fun γ => ⟨rfl, fun w' h => ?_⟩; clear h; go_simp) (ak (fun γ => ⟨rfl, fun w' h => ex_loadC h 1 rfl rfl rfl Try.isAgg4 rfl⟩) (ak (fun _ => ⟨rfl, fun _ _ => rfl⟩) (ak (by refine fun γ => ⟨rfl, fun w' h => ?_⟩; clear h; go_simp) (ak (fun γ => ⟨rfl, fun w' h => ex_loadC h 2 rfl rfl rfl Try.isAgg4 rfl⟩) (ak (by refine fun γ => ⟨rfl, fun w' h => ?_⟩; clear h; go_simp) trivial)))))
  intro _ w2 H2
  clear H1
  refine rest0 rfl (then_normal (wp_cond_true rfl (wp_seq ?_)))
  refine walk_seqB 1 [.quiet (.agg (l2 1 0).toArray)] H2 ?ho3 ?he3
  case ho3 => exact ak (fun γ => ⟨rfl, fun w' _ => ex_build49_01 rfl rfl rfl⟩) trivial
  intro _ w3 H3
  clear H2
  refine rest_at (l := [1]) rfl ?_
  refine rest_store rfl rfl rfl (ex_storeT (vs := l2 1 0) H3.out.1 3 rfl rfl rfl rfl Try.sizeOf49 rfl (Nat.le_of_ble_eq_true rfl)) ?_
  have H4 : Hid (Mm (w3.setCells γ1_3 0 (l2 1 0)) [(γ1_0, kd p r c gx gy), (γ1_1, pt X Y false), (γ1_2, pt X' Y' true), (γ1_3, l2 1 0)] ∧ Below w.heap.size w (w3.setCells γ1_3 0 (l2 1 0))) := ⟨H3.out.1.put 3 (off := 0) (vs := l2 1 0) rfl (Nat.le_of_ble_eq_true rfl), below_setCells _ o1_3.out _ _ _ H3.out.2⟩
  clear H3
  generalize hgw : World.setCells _ _ _ _ = w4 at H4 ⊢
  clear hgw
  refine rest_nil (then_normal (wp_ret ?_))
  repeat (first | refine then_ret ?_ | refine block_ret ?_)
  have hf0 := var_T H4.out.1 3 rfl Try.isAgg49 Try.sizeOf49 rfl
  refine bodyPost_ret (v := .agg (l2 1 0).toArray) (by simp [results, Try.results33, asAddr, hf0]) rfl ?_
  exact ⟨rfl, H4.out.2⟩
structure LtD (p : Nat) (s : E2 × P3) : Prop where
  f : Lt2 p s.1
  t : LtP p s.2
theorem dw_lt (hp : Pr p) {r X Y X' Y' : Nat} (hX : X < p) (hY : Y < p) : ∀ m, LtD p (dws p r X Y X' Y' m)
  | 0 => ⟨⟨one_lt hp, zero_lt hp⟩, ⟨hX, hY⟩⟩
  | m + 1 => by
    have h := dw_lt hp (r := r) (X' := X') (Y' := Y') hX hY m
    rw [dws]
    unfold dst
    split
    · exact ⟨pd_lt hp _ _, dA_lt hp (dA_lt hp h.t h.t) ⟨hX, hY⟩⟩
    · exact ⟨pd_lt hp _ _, dA_lt hp h.t h.t⟩
theorem dst_g (p X Y X' Y' bit : Nat) (s : E2 × P3) (h : bit = 1) (h2 : (dA p s.2 s.2).1 ≠ X) : dst p X Y X' Y' bit s = (pd p (df p s X' Y') (dl p (dA p s.2 s.2) (dS p (dA p s.2 s.2) (X, Y, false)) X' Y'), dA p (dA p s.2 s.2) (X, Y, false)) := by unfold dst; rw [if_pos ⟨h, h2⟩]
theorem dst_0 (p X Y X' Y' bit : Nat) (s : E2 × P3) (h : ¬ bit = 1) : dst p X Y X' Y' bit s = (df p s X' Y', dA p s.2 s.2) := by unfold dst; rw [if_neg (fun k => h k.1)]
theorem dst_s (p X Y X' Y' bit : Nat) (s : E2 × P3) (h : (dA p s.2 s.2).1 = X) : dst p X Y X' Y' bit s = (df p s X' Y', dA p s.2 s.2) := by unfold dst; rw [if_neg (fun k => k.2 h)]
theorem d_cases (n a b : Nat) : ¬ n = 1 ∨ (n = 1 ∧ a = b) ∨ (n = 1 ∧ a ≠ b) := by omega
set_option maxHeartbeats 2000000 in
set_option maxRecDepth 100000 in
theorem dPair_g (hp : Pr p) [NeZero p] (hr : r < 18446744073709551616) (hc : c < 18446744073709551616) (X Y : Nat) (hX : X < p) (hY : Y < p) (X' Y' : Nat) (hX' : X' < p) (hY' : Y' < p) (w : World) :
    Calls Try.prog 33 #[.agg (kd p r c gx gy).toArray, .agg (pt X Y false).toArray, .agg (pt X' Y' false).toArray] w fun e w' => e = .returned (V (lc (po p (po p (dws p r X Y X' Y' (bl r - 1)).1 (p - 1)) c))) ∧ Below w.heap.size w w' := by
  have H0 : Hid (_ ∧ _) := ⟨Mm.nil w, Below.refl w.heap.size w⟩
  go_enter Try.func33, Try.ntmps33
  refine wp_seq ?_
  refine walk_seqA 4 [.made (kd p r c gx gy) 27, .made (pt X Y false) 25, .made (pt X' Y' false) 25, .made (l2 0 0) 49] (sB H0) ?ho1 ?he1
  case ho1 => exact ak (fun γ => ⟨rfl, fun w' => ex_boxT rfl rfl⟩) (ak (fun γ => ⟨rfl, fun w' => ex_boxT rfl rfl⟩) (ak (fun γ => ⟨rfl, fun w' => ex_boxT rfl rfl⟩) (ak (fun γ => ⟨rfl, fun w' => ex_made49 rfl⟩) trivial)))
  intro γ w1 l hM hl
  have H1 : Hid (Mm w1 [(γ 0, kd p r c gx gy), (γ 1, pt X Y false), (γ 2, pt X' Y' false), (γ 3, l2 0 0)] ∧ _) := growB H0 hM (Nat.le_refl _) hl [0, 1, 2, 3] rfl (by decide)
  have o1_0 := ownB H0 hM (Nat.le_refl _) hl (i := 0) rfl
  have o1_1 := ownB H0 hM (Nat.le_refl _) hl (i := 1) rfl
  have o1_2 := ownB H0 hM (Nat.le_refl _) hl (i := 2) rfl
  have o1_3 := ownB H0 hM (Nat.le_refl _) hl (i := 3) rfl
  clear hM hl l
  generalize γ 0 = γ1_0 at H1 o1_0 ⊢
  generalize γ 1 = γ1_1 at H1 o1_1 ⊢
  generalize γ 2 = γ1_2 at H1 o1_2 ⊢
  generalize γ 3 = γ1_3 at H1 o1_3 ⊢
  clear γ
  refine rest0 rfl (then_normal (wp_seq (wp_seq ?_)))
  refine walk_seqB 6 [.quiet (PT γ1_1 2), .quiet (.bool false), .quiet (.bool false), .quiet (PT γ1_2 2), .quiet (.bool false), .quiet (.bool false)] H1 ?ho2 ?he2
  case ho2 => exact ak (by refine fun γ => ⟨rfl, fun w' h => ?_⟩; clear h; go_simp) (ak (fun γ => ⟨rfl, fun w' h => ex_loadC h 1 rfl rfl rfl Try.isAgg4 rfl⟩) (ak (fun _ => ⟨rfl, fun _ _ => rfl⟩) (ak (by refine fun γ => ⟨rfl, fun w' h => ?_⟩; clear h; go_simp) (ak (fun γ => ⟨rfl, fun w' h => ex_loadC h 2 rfl rfl rfl Try.isAgg4 rfl⟩) (ak (by refine fun γ => ⟨rfl, fun w' h => ?_⟩; clear h; go_simp) trivial)))))
  intro _ w2 H2
  clear H1
  refine rest0 rfl (then_normal (wp_cond_false rfl ?_))
  refine wp_skip (then_normal (wp_seq ?_))
  refine walk_seqA 3 [.quiet (.agg (l2 1 0).toArray), .made (l2 0 0) 49, .laid 1 (l2 0 0) (l2 1 0)] (sB H2) ?ho3 ?he3 (hL := ?hL3)
  case hL3 => exact ⟨⟨_, rfl⟩, trivial⟩
  case ho3 => exact ak (fun γ => ⟨rfl, fun w' _ => ex_build49_01 rfl rfl rfl⟩) (ak (fun γ => ⟨rfl, fun w' => ex_made49 rfl⟩) (ak (fun γ => ⟨rfl, rfl, rfl, fun w' h => ex_laidT h rfl rfl Try.sizeOf49 rfl rfl rfl⟩) trivial))
  intro γ w3 l hM hl
  have H3 : Hid (Mm w3 [(γ 1, l2 1 0), (γ1_0, kd p r c gx gy), (γ1_1, pt X Y false), (γ1_2, pt X' Y' false), (γ1_3, l2 0 0)] ∧ _) := growB H2 hM (Nat.le_refl _) hl [1] rfl (by decide)
  have o3_1 := ownB H2 hM (Nat.le_refl _) hl (i := 1) rfl
  clear hM hl l H2
  generalize γ 1 = γ3_1 at H3 o3_1 ⊢
  clear γ
  refine rest0 rfl (then_normal (wp_seq ?_))
  refine walk_seqA 3 [.quiet (.agg (pt X Y false).toArray), .made (pt 0 0 false) 25, .laid 1 (pt 0 0 false) (pt X Y false)] (sB H3) ?ho4 ?he4 (hL := ?hL4)
  case hL4 => exact ⟨⟨_, rfl⟩, trivial⟩
  case ho4 => exact ak (fun γ => ⟨rfl, fun w' h => ex_loadT h 2 rfl rfl rfl Try.isAgg25 Try.sizeOf25 rfl rfl⟩) (ak (fun γ => ⟨rfl, fun w' => ex_made25 rfl⟩) (ak (fun γ => ⟨rfl, rfl, rfl, fun w' h => ex_laidT h rfl rfl Try.sizeOf25 rfl rfl rfl⟩) trivial))
  intro γ w4 l hM hl
  have H4 : Hid (Mm w4 [(γ 1, pt X Y false), (γ3_1, l2 1 0), (γ1_0, kd p r c gx gy), (γ1_1, pt X Y false), (γ1_2, pt X' Y' false), (γ1_3, l2 0 0)] ∧ _) := growB H3 hM (Nat.le_refl _) hl [1] rfl (by decide)
  have o4_1 := ownB H3 hM (Nat.le_refl _) hl (i := 1) rfl
  clear hM hl l H3
  generalize γ 1 = γ4_1 at H4 o4_1 ⊢
  clear γ
  refine rest0 rfl (then_normal (wp_seq (wp_seq ?_)))
  refine walk_seqB 5 [.quiet (PT γ1_0 1), .quiet (U r), .call (.int .i64 ((bl r : Nat) : Int)), .quiet (.int .i64 (((bl r : Nat) : Int) - 2)), .quiet (.int .i64 (((bl r : Nat) : Int) - 2))] H4 ?ho5 ?he5
  case ho5 => exact ak (by refine fun γ => ⟨rfl, fun w' h => ?_⟩; clear h; go_simp) (ak (fun γ => ⟨rfl, fun w' h => ex_loadC h 2 rfl rfl rfl Try.isAgg23 rfl⟩) (ak (fun γ => ⟨rfl, fun w' h => ⟨57, #[U r], exec_call rfl call57 rfl (mpn rfl), len_in r hr w'⟩⟩) (ak (by refine fun γ => ⟨rfl, fun w' h => ?_⟩; clear h; have hbl := bl_le_of r 64 hr; go_simp; rw [IntKind.wrap_i64]; omega) (ak (fun _ => ⟨rfl, fun _ _ => rfl⟩) trivial))))
  intro _ w5 H5
  clear H4
  refine rest0 rfl (then_normal (wp_block ?_))
  refine loop_ghost (α := Nat) (fun m a' w' => ∃ s0 : Nat → Value, a' = ⟨#[.agg (kd p r c gx gy).toArray, .agg (pt X Y false).toArray, .agg (pt X' Y' false).toArray, PT γ1_0 0, PT γ1_1 0, PT γ1_2 0, PT γ1_3 0, PT γ3_1 0, PT γ4_1 0, .int .i64 (((bl r : Nat) : Int) - 2 - ((m : Nat) : Int)), PT γ1_1 2, .bool false, .bool false, PT γ1_2 2, .bool false, .bool false, undef, .agg (l2 1 0).toArray, .agg (pt X Y false).toArray, PT γ1_0 1, U r, .int .i64 ((bl r : Nat) : Int), .int .i64 (((bl r : Nat) : Int) - 2), s0 23, s0 24, s0 25, s0 26, s0 27, s0 28, s0 29, s0 30, s0 31, s0 32, s0 33, s0 34, s0 35, s0 36, s0 37, s0 38, s0 39, s0 40, s0 41, s0 42, s0 43, s0 44, s0 45, s0 46, s0 47, s0 48, s0 49, s0 50, s0 51, s0 52, s0 53, s0 54, s0 55, s0 56, s0 57, s0 58, s0 59, s0 60, s0 61, s0 62, s0 63, s0 64, s0 65, s0 66, s0 67, s0 68, s0 69, s0 70, s0 71, s0 72, undef, undef, undef, undef, undef, undef, undef, undef, undef, undef], []⟩ ∧ (Mm w' [(γ4_1, pc (dws p r X Y X' Y' m).2), (γ3_1, lc (dws p r X Y X' Y' m).1), (γ1_0, kd p r c gx gy), (γ1_1, pt X Y false), (γ1_2, pt X' Y' false), (γ1_3, l2 0 0)] ∧ Below w.heap.size w w') ∧ m ≤ bl r - 1) (fun m => (bl r - 1) - m) 0 ?st0 ?rd0
  case st0 => exact ⟨(slotfn [undef, undef, undef, undef, undef, undef, undef, undef, undef, undef, undef, undef, undef, undef, undef, undef, undef, undef, undef, undef, undef, undef, undef, undef, undef, undef, undef, undef, undef, undef, undef, undef, undef, undef, undef, undef, undef, undef, undef, undef, undef, undef, undef, undef, undef, undef, undef, undef, undef, undef, undef, undef, undef, undef, undef, undef, undef, undef, undef, undef, undef, undef, undef, undef, undef, undef, undef, undef, undef, undef, undef, undef, undef]), by rw [show (((bl r : Nat) : Int) - 2 - ((0 : Nat) : Int)) = ((bl r : Nat) : Int) - 2 by omega]; rfl, ⟨H5.out.1, H5.out.2⟩, Nat.zero_le _⟩
  intro m a' w6 hI
  obtain ⟨s0, rfl, hMB, hk0⟩ := hI
  have H6 : Hid (_ ∧ _) := hMB
  clear hMB H5
  by_cases hlt : m < bl r - 1
  · have hrd : True := trivial
    clear hrd
    obtain ⟨j, hj⟩ : ∃ j, j = bl r - 1 - 1 - m := ⟨_, rfl⟩
    have hjb : j < 64 := by have := bl_le_of r 64 hr; omega
    have hw := dw_lt hp (r := r) (X' := X') (Y' := Y') hX hY m
    rw [show (((bl r : Nat) : Int) - 2 - ((m : Nat) : Int)) = ((j : Nat) : Int) by omega]
    rcases d_cases (r / 2 ^ j % 2) (dA p (dws p r X Y X' Y' m).2 (dws p r X Y X' Y' m).2).1 X with hb | ⟨hb, hs⟩ | ⟨hb, hs⟩
    · have hrd : True := trivial
      clear hrd
      refine wp_seq (wp_seq ?_)
      refine walk_seqB 2 [.quiet (.int .i64 ((j : Nat) : Int)), .quiet (.bool true)] H6 ?ho6 ?he6
      case ho6 => exact ak (fun _ => ⟨rfl, fun _ _ => rfl⟩) (ak (by refine fun γ => ⟨rfl, fun w' h => ?_⟩; clear h; go_simp) trivial)
      intro _ w7 H7
      clear H6
      refine rest0 rfl (then_normal (wp_cond_true rfl ?_))
      refine wp_skip (then_normal ?_)
      refine wp_seq (wp_block (wp_seq ?_))
      refine walk_anyB 14 [.quiet (.agg (kd p r c gx gy).toArray), .quiet (.agg (kd p r c gx gy).toArray), .quiet (.agg (lc (dws p r X Y X' Y' m).1).toArray), .quiet (.agg (lc (dws p r X Y X' Y' m).1).toArray), .call (.agg (l2 ((pd p (dws p r X Y X' Y' m).1 (dws p r X Y X' Y' m).1).1) ((pd p (dws p r X Y X' Y' m).1 (dws p r X Y X' Y' m).1).2)).toArray), .quiet (.agg (kd p r c gx gy).toArray), .quiet (.agg (pc (dws p r X Y X' Y' m).2).toArray), .quiet (.agg (kd p r c gx gy).toArray), .quiet (.agg (pc (dws p r X Y X' Y' m).2).toArray), .quiet (.agg (pc (dws p r X Y X' Y' m).2).toArray), .call (U (dS p (dws p r X Y X' Y' m).2 (dws p r X Y X' Y' m).2)), .quiet (.agg (pt X' Y' false).toArray), .call (.agg (l2 ((dl p (dws p r X Y X' Y' m).2 (dS p (dws p r X Y X' Y' m).2 (dws p r X Y X' Y' m).2) X' Y').1) ((dl p (dws p r X Y X' Y' m).2 (dS p (dws p r X Y X' Y' m).2 (dws p r X Y X' Y' m).2) X' Y').2)).toArray), .call (.agg (l2 ((df p (dws p r X Y X' Y' m) X' Y').1) ((df p (dws p r X Y X' Y' m) X' Y').2)).toArray)] H7 ?ho7 ?he7
      case ho7 => exact ak (fun γ => ⟨rfl, fun w' h => ex_loadT h 2 rfl rfl rfl Try.isAgg27 Try.sizeOf27 rfl rfl⟩) (ak (fun γ => ⟨rfl, fun w' h => ex_loadT h 2 rfl rfl rfl Try.isAgg27 Try.sizeOf27 rfl rfl⟩) (ak (fun γ => ⟨rfl, fun w' h => ex_loadT h 1 rfl rfl rfl Try.isAgg49 Try.sizeOf49 rfl rfl⟩) (ak (fun γ => ⟨rfl, fun w' h => ex_loadT h 1 rfl rfl rfl Try.isAgg49 Try.sizeOf49 rfl rfl⟩) (ak (fun γ => ⟨rfl, fun w' h => ⟨30, #[.agg (kd p r c gx gy).toArray, .agg (lc (dws p r X Y X' Y' m).1).toArray, .agg (lc (dws p r X Y X' Y' m).1).toArray], exec_call rfl call30 rfl (mpn rfl), dTimes_any hp (dws p r X Y X' Y' m).1 (dws p r X Y X' Y' m).1 hw.f hw.f w'⟩⟩) (ak (fun γ => ⟨rfl, fun w' h => ex_loadT h 2 rfl rfl rfl Try.isAgg27 Try.sizeOf27 rfl rfl⟩) (ak (fun γ => ⟨rfl, fun w' h => ex_loadT h 0 rfl rfl rfl Try.isAgg25 Try.sizeOf25 rfl rfl⟩) (ak (fun γ => ⟨rfl, fun w' h => ex_loadT h 2 rfl rfl rfl Try.isAgg27 Try.sizeOf27 rfl rfl⟩) (ak (fun γ => ⟨rfl, fun w' h => ex_loadT h 0 rfl rfl rfl Try.isAgg25 Try.sizeOf25 rfl rfl⟩) (ak (fun γ => ⟨rfl, fun w' h => ex_loadT h 0 rfl rfl rfl Try.isAgg25 Try.sizeOf25 rfl rfl⟩) (ak (fun γ => ⟨rfl, fun w' h => ⟨58, #[.agg (kd p r c gx gy).toArray, .agg (pc (dws p r X Y X' Y' m).2).toArray, .agg (pc (dws p r X Y X' Y' m).2).toArray], exec_call rfl call58 rfl (mpn rfl), slope_any hp (dws p r X Y X' Y' m).2 (dws p r X Y X' Y' m).2 hw.t hw.t w'⟩⟩) (ak (fun γ => ⟨rfl, fun w' h => ex_loadT h 4 rfl rfl rfl Try.isAgg25 Try.sizeOf25 rfl rfl⟩) (ak (fun γ => ⟨rfl, fun w' h => ⟨66, #[.agg (kd p r c gx gy).toArray, .agg (pc (dws p r X Y X' Y' m).2).toArray, U (dS p (dws p r X Y X' Y' m).2 (dws p r X Y X' Y' m).2), .agg (pt X' Y' false).toArray], exec_call rfl call66 rfl (mpn rfl), dline_any hp (dws p r X Y X' Y' m).2 hw.t _ (dS_lt hp) X' Y' false hX' hY' w'⟩⟩) (ak (fun γ => ⟨rfl, fun w' h => ⟨30, #[.agg (kd p r c gx gy).toArray, .agg (l2 ((pd p (dws p r X Y X' Y' m).1 (dws p r X Y X' Y' m).1).1) ((pd p (dws p r X Y X' Y' m).1 (dws p r X Y X' Y' m).1).2)).toArray, .agg (l2 ((dl p (dws p r X Y X' Y' m).2 (dS p (dws p r X Y X' Y' m).2 (dws p r X Y X' Y' m).2) X' Y').1) ((dl p (dws p r X Y X' Y' m).2 (dS p (dws p r X Y X' Y' m).2 (dws p r X Y X' Y' m).2) X' Y').2)).toArray], exec_call rfl call30 rfl (mpn rfl), dTimes_any hp (pd p (dws p r X Y X' Y' m).1 (dws p r X Y X' Y' m).1) (dl p (dws p r X Y X' Y' m).2 (dS p (dws p r X Y X' Y' m).2 (dws p r X Y X' Y' m).2) X' Y') (pd_lt hp _ _) ⟨mi_lt hp, hY'⟩ w'⟩⟩) trivial)))))))))))))
      intro _ w8 H8
      clear H7
      refine rest_at (l := [14]) rfl ?_
      refine rest_store rfl rfl rfl (ex_storeT (vs := l2 ((df p (dws p r X Y X' Y' m) X' Y').1) ((df p (dws p r X Y X' Y' m) X' Y').2)) H8.out.1 1 rfl rfl rfl rfl Try.sizeOf49 rfl (Nat.le_of_ble_eq_true rfl)) ?_
      have H9 : Hid (Mm (w8.setCells γ3_1 0 (l2 ((df p (dws p r X Y X' Y' m) X' Y').1) ((df p (dws p r X Y X' Y' m) X' Y').2))) [(γ4_1, pc (dws p r X Y X' Y' m).2), (γ3_1, l2 ((df p (dws p r X Y X' Y' m) X' Y').1) ((df p (dws p r X Y X' Y' m) X' Y').2)), (γ1_0, kd p r c gx gy), (γ1_1, pt X Y false), (γ1_2, pt X' Y' false), (γ1_3, l2 0 0)] ∧ Below w.heap.size w (w8.setCells γ3_1 0 (l2 ((df p (dws p r X Y X' Y' m) X' Y').1) ((df p (dws p r X Y X' Y' m) X' Y').2)))) := ⟨H8.out.1.put 1 (off := 0) (vs := l2 ((df p (dws p r X Y X' Y' m) X' Y').1) ((df p (dws p r X Y X' Y' m) X' Y').2)) rfl (Nat.le_of_ble_eq_true rfl), below_setCells _ o3_1.out _ _ _ H8.out.2⟩
      clear H8
      generalize hgw : World.setCells _ _ _ _ = w9 at H9 ⊢
      clear hgw
      refine rest_nil (then_normal (wp_seq ?_))
      refine walk_seqB 4 [.quiet (.agg (kd p r c gx gy).toArray), .quiet (.agg (pc (dws p r X Y X' Y' m).2).toArray), .quiet (.agg (pc (dws p r X Y X' Y' m).2).toArray), .call (.agg (pt ((dA p (dws p r X Y X' Y' m).2 (dws p r X Y X' Y' m).2).1) ((dA p (dws p r X Y X' Y' m).2 (dws p r X Y X' Y' m).2).2.1) ((dA p (dws p r X Y X' Y' m).2 (dws p r X Y X' Y' m).2).2.2)).toArray)] H9 ?ho8 ?he8
      case ho8 => exact ak (fun γ => ⟨rfl, fun w' h => ex_loadT h 2 rfl rfl rfl Try.isAgg27 Try.sizeOf27 rfl rfl⟩) (ak (fun γ => ⟨rfl, fun w' h => ex_loadT h 0 rfl rfl rfl Try.isAgg25 Try.sizeOf25 rfl rfl⟩) (ak (fun γ => ⟨rfl, fun w' h => ex_loadT h 0 rfl rfl rfl Try.isAgg25 Try.sizeOf25 rfl rfl⟩) (ak (fun γ => ⟨rfl, fun w' h => ⟨26, #[.agg (kd p r c gx gy).toArray, .agg (pc (dws p r X Y X' Y' m).2).toArray, .agg (pc (dws p r X Y X' Y' m).2).toArray], exec_call rfl call26 rfl (mpn rfl), dAdd_any hp (dws p r X Y X' Y' m).2 (dws p r X Y X' Y' m).2 hw.t hw.t w'⟩⟩) trivial)))
      intro _ w10 H10
      clear H9
      refine rest_at (l := [4]) rfl ?_
      refine rest_store rfl rfl rfl (ex_storeT (vs := pt ((dA p (dws p r X Y X' Y' m).2 (dws p r X Y X' Y' m).2).1) ((dA p (dws p r X Y X' Y' m).2 (dws p r X Y X' Y' m).2).2.1) ((dA p (dws p r X Y X' Y' m).2 (dws p r X Y X' Y' m).2).2.2)) H10.out.1 0 rfl rfl rfl rfl Try.sizeOf25 rfl (Nat.le_of_ble_eq_true rfl)) ?_
      have H11 : Hid (Mm (w10.setCells γ4_1 0 (pt ((dA p (dws p r X Y X' Y' m).2 (dws p r X Y X' Y' m).2).1) ((dA p (dws p r X Y X' Y' m).2 (dws p r X Y X' Y' m).2).2.1) ((dA p (dws p r X Y X' Y' m).2 (dws p r X Y X' Y' m).2).2.2))) [(γ4_1, pt ((dA p (dws p r X Y X' Y' m).2 (dws p r X Y X' Y' m).2).1) ((dA p (dws p r X Y X' Y' m).2 (dws p r X Y X' Y' m).2).2.1) ((dA p (dws p r X Y X' Y' m).2 (dws p r X Y X' Y' m).2).2.2)), (γ3_1, l2 ((df p (dws p r X Y X' Y' m) X' Y').1) ((df p (dws p r X Y X' Y' m) X' Y').2)), (γ1_0, kd p r c gx gy), (γ1_1, pt X Y false), (γ1_2, pt X' Y' false), (γ1_3, l2 0 0)] ∧ Below w.heap.size w (w10.setCells γ4_1 0 (pt ((dA p (dws p r X Y X' Y' m).2 (dws p r X Y X' Y' m).2).1) ((dA p (dws p r X Y X' Y' m).2 (dws p r X Y X' Y' m).2).2.1) ((dA p (dws p r X Y X' Y' m).2 (dws p r X Y X' Y' m).2).2.2)))) := ⟨H10.out.1.put 0 (off := 0) (vs := pt ((dA p (dws p r X Y X' Y' m).2 (dws p r X Y X' Y' m).2).1) ((dA p (dws p r X Y X' Y' m).2 (dws p r X Y X' Y' m).2).2.1) ((dA p (dws p r X Y X' Y' m).2 (dws p r X Y X' Y' m).2).2.2)) rfl (Nat.le_of_ble_eq_true rfl), below_setCells _ o4_1.out _ _ _ H10.out.2⟩
      clear H10
      generalize hgw : World.setCells _ _ _ _ = w11 at H11 ⊢
      clear hgw
      refine rest_nil (then_normal (wp_seq ?_))
      refine walk_seqB 13 [.quiet (PT γ1_0 1), .quiet (U r), .quiet (.int .i64 ((j : Nat) : Int)), .quiet (U (r / 2 ^ j)), .quiet (U (r / 2 ^ j % 2)), .quiet (.bool false), .quiet (.bool false), .gone, .gone, .gone, .gone, .gone, .quiet (.bool false)] H11 ?ho9 ?he9
      case ho9 => exact ak (by refine fun γ => ⟨rfl, fun w' h => ?_⟩; clear h; go_simp) (ak (fun γ => ⟨rfl, fun w' h => ex_loadC h 2 rfl rfl rfl Try.isAgg23 rfl⟩) (ak (fun _ => ⟨rfl, fun _ _ => rfl⟩) (ak (fun γ => ⟨rfl, fun w' _ => ex_shrU (hjb) rfl rfl rfl⟩) (ak (fun γ => ⟨rfl, fun w' _ => ex_and1 rfl (Nat.lt_of_le_of_lt (Nat.div_le_self _ _) hr) rfl rfl⟩) (ak (fun γ => ⟨rfl, fun w' _ => ex_eqU rfl rfl rfl (decide_eq_false (hb))⟩) (ak (fun _ => ⟨rfl, fun _ _ => rfl⟩) (ak (fun γ => rfl) (ak (fun γ => rfl) (ak (fun γ => rfl) (ak (fun γ => rfl) (ak (fun γ => rfl) (ak (by refine fun γ => ⟨rfl, fun w' h => ?_⟩; clear h; go_simp) trivial))))))))))))
      intro _ w12 H12
      clear H11
      refine rest0 rfl (then_normal (wp_cond_false rfl ?_))
      refine wp_skip (block_normal (then_normal ?_))
      refine walk_seqB 2 [.quiet (.int .i64 ((j : Nat) : Int)), .quiet (.int .i64 (((bl r : Nat) : Int) - 2 - ((m + 1 : Nat) : Int)))] H12 ?ho10 ?he10
      case ho10 => exact ak (fun _ => ⟨rfl, fun _ _ => rfl⟩) (ak (by refine fun γ => ⟨rfl, fun w' h => ?_⟩; clear h; go_simp; rw [IntKind.wrap_i64]; omega) trivial)
      intro _ w13 H13
      clear H12
      refine rest_at (l := [2]) rfl ?_
      refine rest_set (d := 9) rfl rfl rfl rfl ?_
      simp only [Act.put, sa, sz, ss]
      refine rest_nil (then_normal ?_)
      exact ⟨m + 1, ⟨(slotfn [undef, undef, undef, undef, undef, undef, undef, undef, undef, undef, undef, undef, undef, undef, undef, undef, undef, undef, undef, undef, undef, undef, undef, .int .i64 ((j : Nat) : Int), .bool true, .int .i64 ((j : Nat) : Int), .int .i64 (((bl r : Nat) : Int) - 2 - ((m + 1 : Nat) : Int)), .agg (kd p r c gx gy).toArray, .agg (kd p r c gx gy).toArray, .agg (lc (dws p r X Y X' Y' m).1).toArray, .agg (lc (dws p r X Y X' Y' m).1).toArray, .agg (l2 ((pd p (dws p r X Y X' Y' m).1 (dws p r X Y X' Y' m).1).1) ((pd p (dws p r X Y X' Y' m).1 (dws p r X Y X' Y' m).1).2)).toArray, .agg (kd p r c gx gy).toArray, .agg (pc (dws p r X Y X' Y' m).2).toArray, .agg (kd p r c gx gy).toArray, .agg (pc (dws p r X Y X' Y' m).2).toArray, .agg (pc (dws p r X Y X' Y' m).2).toArray, U (dS p (dws p r X Y X' Y' m).2 (dws p r X Y X' Y' m).2), .agg (pt X' Y' false).toArray, .agg (l2 ((dl p (dws p r X Y X' Y' m).2 (dS p (dws p r X Y X' Y' m).2 (dws p r X Y X' Y' m).2) X' Y').1) ((dl p (dws p r X Y X' Y' m).2 (dS p (dws p r X Y X' Y' m).2 (dws p r X Y X' Y' m).2) X' Y').2)).toArray, .agg (l2 ((df p (dws p r X Y X' Y' m) X' Y').1) ((df p (dws p r X Y X' Y' m) X' Y').2)).toArray, .agg (kd p r c gx gy).toArray, .agg (pc (dws p r X Y X' Y' m).2).toArray, .agg (pc (dws p r X Y X' Y' m).2).toArray, .agg (pt ((dA p (dws p r X Y X' Y' m).2 (dws p r X Y X' Y' m).2).1) ((dA p (dws p r X Y X' Y' m).2 (dws p r X Y X' Y' m).2).2.1) ((dA p (dws p r X Y X' Y' m).2 (dws p r X Y X' Y' m).2).2.2)).toArray, PT γ1_0 1, U r, .int .i64 ((j : Nat) : Int), U (r / 2 ^ j), U (r / 2 ^ j % 2), .bool false, .bool false, undef, undef, undef, undef, undef, .bool false, s0 58, s0 59, s0 60, s0 61, s0 62, s0 63, s0 64, s0 65, s0 66, s0 67, s0 68, s0 69, s0 70, s0 71, s0 72]), rfl, ⟨by rw [show dws p r X Y X' Y' (m + 1) = _ from dst_0 p X Y X' Y' _ (dws p r X Y X' Y' m) (by rw [← hj]; exact hb)]; exact H13.out.1.pick [0, 1, 2, 3, 4, 5] rfl (by decide), H13.out.2⟩, by omega⟩, by omega⟩
    · have hrd : True := trivial
      clear hrd
      refine wp_seq (wp_seq ?_)
      refine walk_seqB 2 [.quiet (.int .i64 ((j : Nat) : Int)), .quiet (.bool true)] H6 ?ho11 ?he11
      case ho11 => exact ak (fun _ => ⟨rfl, fun _ _ => rfl⟩) (ak (by refine fun γ => ⟨rfl, fun w' h => ?_⟩; clear h; go_simp) trivial)
      intro _ w14 H14
      clear H6
      refine rest0 rfl (then_normal (wp_cond_true rfl ?_))
      refine wp_skip (then_normal ?_)
      refine wp_seq (wp_block (wp_seq ?_))
      refine walk_anyB 14 [.quiet (.agg (kd p r c gx gy).toArray), .quiet (.agg (kd p r c gx gy).toArray), .quiet (.agg (lc (dws p r X Y X' Y' m).1).toArray), .quiet (.agg (lc (dws p r X Y X' Y' m).1).toArray), .call (.agg (l2 ((pd p (dws p r X Y X' Y' m).1 (dws p r X Y X' Y' m).1).1) ((pd p (dws p r X Y X' Y' m).1 (dws p r X Y X' Y' m).1).2)).toArray), .quiet (.agg (kd p r c gx gy).toArray), .quiet (.agg (pc (dws p r X Y X' Y' m).2).toArray), .quiet (.agg (kd p r c gx gy).toArray), .quiet (.agg (pc (dws p r X Y X' Y' m).2).toArray), .quiet (.agg (pc (dws p r X Y X' Y' m).2).toArray), .call (U (dS p (dws p r X Y X' Y' m).2 (dws p r X Y X' Y' m).2)), .quiet (.agg (pt X' Y' false).toArray), .call (.agg (l2 ((dl p (dws p r X Y X' Y' m).2 (dS p (dws p r X Y X' Y' m).2 (dws p r X Y X' Y' m).2) X' Y').1) ((dl p (dws p r X Y X' Y' m).2 (dS p (dws p r X Y X' Y' m).2 (dws p r X Y X' Y' m).2) X' Y').2)).toArray), .call (.agg (l2 ((df p (dws p r X Y X' Y' m) X' Y').1) ((df p (dws p r X Y X' Y' m) X' Y').2)).toArray)] H14 ?ho12 ?he12
      case ho12 => exact ak (fun γ => ⟨rfl, fun w' h => ex_loadT h 2 rfl rfl rfl Try.isAgg27 Try.sizeOf27 rfl rfl⟩) (ak (fun γ => ⟨rfl, fun w' h => ex_loadT h 2 rfl rfl rfl Try.isAgg27 Try.sizeOf27 rfl rfl⟩) (ak (fun γ => ⟨rfl, fun w' h => ex_loadT h 1 rfl rfl rfl Try.isAgg49 Try.sizeOf49 rfl rfl⟩) (ak (fun γ => ⟨rfl, fun w' h => ex_loadT h 1 rfl rfl rfl Try.isAgg49 Try.sizeOf49 rfl rfl⟩) (ak (fun γ => ⟨rfl, fun w' h => ⟨30, #[.agg (kd p r c gx gy).toArray, .agg (lc (dws p r X Y X' Y' m).1).toArray, .agg (lc (dws p r X Y X' Y' m).1).toArray], exec_call rfl call30 rfl (mpn rfl), dTimes_any hp (dws p r X Y X' Y' m).1 (dws p r X Y X' Y' m).1 hw.f hw.f w'⟩⟩) (ak (fun γ => ⟨rfl, fun w' h => ex_loadT h 2 rfl rfl rfl Try.isAgg27 Try.sizeOf27 rfl rfl⟩) (ak (fun γ => ⟨rfl, fun w' h => ex_loadT h 0 rfl rfl rfl Try.isAgg25 Try.sizeOf25 rfl rfl⟩) (ak (fun γ => ⟨rfl, fun w' h => ex_loadT h 2 rfl rfl rfl Try.isAgg27 Try.sizeOf27 rfl rfl⟩) (ak (fun γ => ⟨rfl, fun w' h => ex_loadT h 0 rfl rfl rfl Try.isAgg25 Try.sizeOf25 rfl rfl⟩) (ak (fun γ => ⟨rfl, fun w' h => ex_loadT h 0 rfl rfl rfl Try.isAgg25 Try.sizeOf25 rfl rfl⟩) (ak (fun γ => ⟨rfl, fun w' h => ⟨58, #[.agg (kd p r c gx gy).toArray, .agg (pc (dws p r X Y X' Y' m).2).toArray, .agg (pc (dws p r X Y X' Y' m).2).toArray], exec_call rfl call58 rfl (mpn rfl), slope_any hp (dws p r X Y X' Y' m).2 (dws p r X Y X' Y' m).2 hw.t hw.t w'⟩⟩) (ak (fun γ => ⟨rfl, fun w' h => ex_loadT h 4 rfl rfl rfl Try.isAgg25 Try.sizeOf25 rfl rfl⟩) (ak (fun γ => ⟨rfl, fun w' h => ⟨66, #[.agg (kd p r c gx gy).toArray, .agg (pc (dws p r X Y X' Y' m).2).toArray, U (dS p (dws p r X Y X' Y' m).2 (dws p r X Y X' Y' m).2), .agg (pt X' Y' false).toArray], exec_call rfl call66 rfl (mpn rfl), dline_any hp (dws p r X Y X' Y' m).2 hw.t _ (dS_lt hp) X' Y' false hX' hY' w'⟩⟩) (ak (fun γ => ⟨rfl, fun w' h => ⟨30, #[.agg (kd p r c gx gy).toArray, .agg (l2 ((pd p (dws p r X Y X' Y' m).1 (dws p r X Y X' Y' m).1).1) ((pd p (dws p r X Y X' Y' m).1 (dws p r X Y X' Y' m).1).2)).toArray, .agg (l2 ((dl p (dws p r X Y X' Y' m).2 (dS p (dws p r X Y X' Y' m).2 (dws p r X Y X' Y' m).2) X' Y').1) ((dl p (dws p r X Y X' Y' m).2 (dS p (dws p r X Y X' Y' m).2 (dws p r X Y X' Y' m).2) X' Y').2)).toArray], exec_call rfl call30 rfl (mpn rfl), dTimes_any hp (pd p (dws p r X Y X' Y' m).1 (dws p r X Y X' Y' m).1) (dl p (dws p r X Y X' Y' m).2 (dS p (dws p r X Y X' Y' m).2 (dws p r X Y X' Y' m).2) X' Y') (pd_lt hp _ _) ⟨mi_lt hp, hY'⟩ w'⟩⟩) trivial)))))))))))))
      intro _ w15 H15
      clear H14
      refine rest_at (l := [14]) rfl ?_
      refine rest_store rfl rfl rfl (ex_storeT (vs := l2 ((df p (dws p r X Y X' Y' m) X' Y').1) ((df p (dws p r X Y X' Y' m) X' Y').2)) H15.out.1 1 rfl rfl rfl rfl Try.sizeOf49 rfl (Nat.le_of_ble_eq_true rfl)) ?_
      have H16 : Hid (Mm (w15.setCells γ3_1 0 (l2 ((df p (dws p r X Y X' Y' m) X' Y').1) ((df p (dws p r X Y X' Y' m) X' Y').2))) [(γ4_1, pc (dws p r X Y X' Y' m).2), (γ3_1, l2 ((df p (dws p r X Y X' Y' m) X' Y').1) ((df p (dws p r X Y X' Y' m) X' Y').2)), (γ1_0, kd p r c gx gy), (γ1_1, pt X Y false), (γ1_2, pt X' Y' false), (γ1_3, l2 0 0)] ∧ Below w.heap.size w (w15.setCells γ3_1 0 (l2 ((df p (dws p r X Y X' Y' m) X' Y').1) ((df p (dws p r X Y X' Y' m) X' Y').2)))) := ⟨H15.out.1.put 1 (off := 0) (vs := l2 ((df p (dws p r X Y X' Y' m) X' Y').1) ((df p (dws p r X Y X' Y' m) X' Y').2)) rfl (Nat.le_of_ble_eq_true rfl), below_setCells _ o3_1.out _ _ _ H15.out.2⟩
      clear H15
      generalize hgw : World.setCells _ _ _ _ = w16 at H16 ⊢
      clear hgw
      refine rest_nil (then_normal (wp_seq ?_))
      refine walk_seqB 4 [.quiet (.agg (kd p r c gx gy).toArray), .quiet (.agg (pc (dws p r X Y X' Y' m).2).toArray), .quiet (.agg (pc (dws p r X Y X' Y' m).2).toArray), .call (.agg (pt ((dA p (dws p r X Y X' Y' m).2 (dws p r X Y X' Y' m).2).1) ((dA p (dws p r X Y X' Y' m).2 (dws p r X Y X' Y' m).2).2.1) ((dA p (dws p r X Y X' Y' m).2 (dws p r X Y X' Y' m).2).2.2)).toArray)] H16 ?ho13 ?he13
      case ho13 => exact ak (fun γ => ⟨rfl, fun w' h => ex_loadT h 2 rfl rfl rfl Try.isAgg27 Try.sizeOf27 rfl rfl⟩) (ak (fun γ => ⟨rfl, fun w' h => ex_loadT h 0 rfl rfl rfl Try.isAgg25 Try.sizeOf25 rfl rfl⟩) (ak (fun γ => ⟨rfl, fun w' h => ex_loadT h 0 rfl rfl rfl Try.isAgg25 Try.sizeOf25 rfl rfl⟩) (ak (fun γ => ⟨rfl, fun w' h => ⟨26, #[.agg (kd p r c gx gy).toArray, .agg (pc (dws p r X Y X' Y' m).2).toArray, .agg (pc (dws p r X Y X' Y' m).2).toArray], exec_call rfl call26 rfl (mpn rfl), dAdd_any hp (dws p r X Y X' Y' m).2 (dws p r X Y X' Y' m).2 hw.t hw.t w'⟩⟩) trivial)))
      intro _ w17 H17
      clear H16
      refine rest_at (l := [4]) rfl ?_
      refine rest_store rfl rfl rfl (ex_storeT (vs := pt ((dA p (dws p r X Y X' Y' m).2 (dws p r X Y X' Y' m).2).1) ((dA p (dws p r X Y X' Y' m).2 (dws p r X Y X' Y' m).2).2.1) ((dA p (dws p r X Y X' Y' m).2 (dws p r X Y X' Y' m).2).2.2)) H17.out.1 0 rfl rfl rfl rfl Try.sizeOf25 rfl (Nat.le_of_ble_eq_true rfl)) ?_
      have H18 : Hid (Mm (w17.setCells γ4_1 0 (pt ((dA p (dws p r X Y X' Y' m).2 (dws p r X Y X' Y' m).2).1) ((dA p (dws p r X Y X' Y' m).2 (dws p r X Y X' Y' m).2).2.1) ((dA p (dws p r X Y X' Y' m).2 (dws p r X Y X' Y' m).2).2.2))) [(γ4_1, pt ((dA p (dws p r X Y X' Y' m).2 (dws p r X Y X' Y' m).2).1) ((dA p (dws p r X Y X' Y' m).2 (dws p r X Y X' Y' m).2).2.1) ((dA p (dws p r X Y X' Y' m).2 (dws p r X Y X' Y' m).2).2.2)), (γ3_1, l2 ((df p (dws p r X Y X' Y' m) X' Y').1) ((df p (dws p r X Y X' Y' m) X' Y').2)), (γ1_0, kd p r c gx gy), (γ1_1, pt X Y false), (γ1_2, pt X' Y' false), (γ1_3, l2 0 0)] ∧ Below w.heap.size w (w17.setCells γ4_1 0 (pt ((dA p (dws p r X Y X' Y' m).2 (dws p r X Y X' Y' m).2).1) ((dA p (dws p r X Y X' Y' m).2 (dws p r X Y X' Y' m).2).2.1) ((dA p (dws p r X Y X' Y' m).2 (dws p r X Y X' Y' m).2).2.2)))) := ⟨H17.out.1.put 0 (off := 0) (vs := pt ((dA p (dws p r X Y X' Y' m).2 (dws p r X Y X' Y' m).2).1) ((dA p (dws p r X Y X' Y' m).2 (dws p r X Y X' Y' m).2).2.1) ((dA p (dws p r X Y X' Y' m).2 (dws p r X Y X' Y' m).2).2.2)) rfl (Nat.le_of_ble_eq_true rfl), below_setCells _ o4_1.out _ _ _ H17.out.2⟩
      clear H17
      generalize hgw : World.setCells _ _ _ _ = w18 at H18 ⊢
      clear hgw
      refine rest_nil (then_normal (wp_seq ?_))
      refine walk_seqB 13 [.quiet (PT γ1_0 1), .quiet (U r), .quiet (.int .i64 ((j : Nat) : Int)), .quiet (U (r / 2 ^ j)), .quiet (U (r / 2 ^ j % 2)), .quiet (.bool true), .quiet (.bool true), .quiet (PT γ4_1 0), .quiet (U ((dA p (dws p r X Y X' Y' m).2 (dws p r X Y X' Y' m).2).1)), .quiet (PT γ1_1 0), .quiet (U X), .quiet (.bool false), .quiet (.bool false)] H18 ?ho14 ?he14
      case ho14 => exact ak (by refine fun γ => ⟨rfl, fun w' h => ?_⟩; clear h; go_simp) (ak (fun γ => ⟨rfl, fun w' h => ex_loadC h 2 rfl rfl rfl Try.isAgg23 rfl⟩) (ak (fun _ => ⟨rfl, fun _ _ => rfl⟩) (ak (fun γ => ⟨rfl, fun w' _ => ex_shrU (hjb) rfl rfl rfl⟩) (ak (fun γ => ⟨rfl, fun w' _ => ex_and1 rfl (Nat.lt_of_le_of_lt (Nat.div_le_self _ _) hr) rfl rfl⟩) (ak (fun γ => ⟨rfl, fun w' _ => ex_eqU rfl rfl rfl (decide_eq_true (hb))⟩) (ak (fun _ => ⟨rfl, fun _ _ => rfl⟩) (ak (by refine fun γ => ⟨rfl, fun w' h => ?_⟩; clear h; go_simp) (ak (fun γ => ⟨rfl, fun w' h => ex_loadC h 0 rfl rfl rfl Try.isAgg23 rfl⟩) (ak (by refine fun γ => ⟨rfl, fun w' h => ?_⟩; clear h; go_simp) (ak (fun γ => ⟨rfl, fun w' h => ex_loadC h 3 rfl rfl rfl Try.isAgg23 rfl⟩) (ak (fun γ => ⟨rfl, fun w' _ => ex_neU rfl rfl rfl (decide_eq_false (fun k => k hs))⟩) (ak (by refine fun γ => ⟨rfl, fun w' h => ?_⟩; clear h; go_simp) trivial))))))))))))
      intro _ w19 H19
      clear H18
      refine rest0 rfl (then_normal (wp_cond_false rfl ?_))
      refine wp_skip (block_normal (then_normal ?_))
      refine walk_seqB 2 [.quiet (.int .i64 ((j : Nat) : Int)), .quiet (.int .i64 (((bl r : Nat) : Int) - 2 - ((m + 1 : Nat) : Int)))] H19 ?ho15 ?he15
      case ho15 => exact ak (fun _ => ⟨rfl, fun _ _ => rfl⟩) (ak (by refine fun γ => ⟨rfl, fun w' h => ?_⟩; clear h; go_simp; rw [IntKind.wrap_i64]; omega) trivial)
      intro _ w20 H20
      clear H19
      refine rest_at (l := [2]) rfl ?_
      refine rest_set (d := 9) rfl rfl rfl rfl ?_
      simp only [Act.put, sa, sz, ss]
      refine rest_nil (then_normal ?_)
      exact ⟨m + 1, ⟨(slotfn [undef, undef, undef, undef, undef, undef, undef, undef, undef, undef, undef, undef, undef, undef, undef, undef, undef, undef, undef, undef, undef, undef, undef, .int .i64 ((j : Nat) : Int), .bool true, .int .i64 ((j : Nat) : Int), .int .i64 (((bl r : Nat) : Int) - 2 - ((m + 1 : Nat) : Int)), .agg (kd p r c gx gy).toArray, .agg (kd p r c gx gy).toArray, .agg (lc (dws p r X Y X' Y' m).1).toArray, .agg (lc (dws p r X Y X' Y' m).1).toArray, .agg (l2 ((pd p (dws p r X Y X' Y' m).1 (dws p r X Y X' Y' m).1).1) ((pd p (dws p r X Y X' Y' m).1 (dws p r X Y X' Y' m).1).2)).toArray, .agg (kd p r c gx gy).toArray, .agg (pc (dws p r X Y X' Y' m).2).toArray, .agg (kd p r c gx gy).toArray, .agg (pc (dws p r X Y X' Y' m).2).toArray, .agg (pc (dws p r X Y X' Y' m).2).toArray, U (dS p (dws p r X Y X' Y' m).2 (dws p r X Y X' Y' m).2), .agg (pt X' Y' false).toArray, .agg (l2 ((dl p (dws p r X Y X' Y' m).2 (dS p (dws p r X Y X' Y' m).2 (dws p r X Y X' Y' m).2) X' Y').1) ((dl p (dws p r X Y X' Y' m).2 (dS p (dws p r X Y X' Y' m).2 (dws p r X Y X' Y' m).2) X' Y').2)).toArray, .agg (l2 ((df p (dws p r X Y X' Y' m) X' Y').1) ((df p (dws p r X Y X' Y' m) X' Y').2)).toArray, .agg (kd p r c gx gy).toArray, .agg (pc (dws p r X Y X' Y' m).2).toArray, .agg (pc (dws p r X Y X' Y' m).2).toArray, .agg (pt ((dA p (dws p r X Y X' Y' m).2 (dws p r X Y X' Y' m).2).1) ((dA p (dws p r X Y X' Y' m).2 (dws p r X Y X' Y' m).2).2.1) ((dA p (dws p r X Y X' Y' m).2 (dws p r X Y X' Y' m).2).2.2)).toArray, PT γ1_0 1, U r, .int .i64 ((j : Nat) : Int), U (r / 2 ^ j), U (r / 2 ^ j % 2), .bool true, .bool true, PT γ4_1 0, U ((dA p (dws p r X Y X' Y' m).2 (dws p r X Y X' Y' m).2).1), PT γ1_1 0, U X, .bool false, .bool false, s0 58, s0 59, s0 60, s0 61, s0 62, s0 63, s0 64, s0 65, s0 66, s0 67, s0 68, s0 69, s0 70, s0 71, s0 72]), rfl, ⟨by rw [show dws p r X Y X' Y' (m + 1) = _ from dst_s p X Y X' Y' _ (dws p r X Y X' Y' m) hs]; exact H20.out.1.pick [0, 1, 2, 3, 4, 5] rfl (by decide), H20.out.2⟩, by omega⟩, by omega⟩
    · have hrd : True := trivial
      clear hrd
      refine wp_seq (wp_seq ?_)
      refine walk_seqB 2 [.quiet (.int .i64 ((j : Nat) : Int)), .quiet (.bool true)] H6 ?ho16 ?he16
      case ho16 => exact ak (fun _ => ⟨rfl, fun _ _ => rfl⟩) (ak (by refine fun γ => ⟨rfl, fun w' h => ?_⟩; clear h; go_simp) trivial)
      intro _ w21 H21
      clear H6
      refine rest0 rfl (then_normal (wp_cond_true rfl ?_))
      refine wp_skip (then_normal ?_)
      refine wp_seq (wp_block (wp_seq ?_))
      refine walk_anyB 14 [.quiet (.agg (kd p r c gx gy).toArray), .quiet (.agg (kd p r c gx gy).toArray), .quiet (.agg (lc (dws p r X Y X' Y' m).1).toArray), .quiet (.agg (lc (dws p r X Y X' Y' m).1).toArray), .call (.agg (l2 ((pd p (dws p r X Y X' Y' m).1 (dws p r X Y X' Y' m).1).1) ((pd p (dws p r X Y X' Y' m).1 (dws p r X Y X' Y' m).1).2)).toArray), .quiet (.agg (kd p r c gx gy).toArray), .quiet (.agg (pc (dws p r X Y X' Y' m).2).toArray), .quiet (.agg (kd p r c gx gy).toArray), .quiet (.agg (pc (dws p r X Y X' Y' m).2).toArray), .quiet (.agg (pc (dws p r X Y X' Y' m).2).toArray), .call (U (dS p (dws p r X Y X' Y' m).2 (dws p r X Y X' Y' m).2)), .quiet (.agg (pt X' Y' false).toArray), .call (.agg (l2 ((dl p (dws p r X Y X' Y' m).2 (dS p (dws p r X Y X' Y' m).2 (dws p r X Y X' Y' m).2) X' Y').1) ((dl p (dws p r X Y X' Y' m).2 (dS p (dws p r X Y X' Y' m).2 (dws p r X Y X' Y' m).2) X' Y').2)).toArray), .call (.agg (l2 ((df p (dws p r X Y X' Y' m) X' Y').1) ((df p (dws p r X Y X' Y' m) X' Y').2)).toArray)] H21 ?ho17 ?he17
      case ho17 => exact ak (fun γ => ⟨rfl, fun w' h => ex_loadT h 2 rfl rfl rfl Try.isAgg27 Try.sizeOf27 rfl rfl⟩) (ak (fun γ => ⟨rfl, fun w' h => ex_loadT h 2 rfl rfl rfl Try.isAgg27 Try.sizeOf27 rfl rfl⟩) (ak (fun γ => ⟨rfl, fun w' h => ex_loadT h 1 rfl rfl rfl Try.isAgg49 Try.sizeOf49 rfl rfl⟩) (ak (fun γ => ⟨rfl, fun w' h => ex_loadT h 1 rfl rfl rfl Try.isAgg49 Try.sizeOf49 rfl rfl⟩) (ak (fun γ => ⟨rfl, fun w' h => ⟨30, #[.agg (kd p r c gx gy).toArray, .agg (lc (dws p r X Y X' Y' m).1).toArray, .agg (lc (dws p r X Y X' Y' m).1).toArray], exec_call rfl call30 rfl (mpn rfl), dTimes_any hp (dws p r X Y X' Y' m).1 (dws p r X Y X' Y' m).1 hw.f hw.f w'⟩⟩) (ak (fun γ => ⟨rfl, fun w' h => ex_loadT h 2 rfl rfl rfl Try.isAgg27 Try.sizeOf27 rfl rfl⟩) (ak (fun γ => ⟨rfl, fun w' h => ex_loadT h 0 rfl rfl rfl Try.isAgg25 Try.sizeOf25 rfl rfl⟩) (ak (fun γ => ⟨rfl, fun w' h => ex_loadT h 2 rfl rfl rfl Try.isAgg27 Try.sizeOf27 rfl rfl⟩) (ak (fun γ => ⟨rfl, fun w' h => ex_loadT h 0 rfl rfl rfl Try.isAgg25 Try.sizeOf25 rfl rfl⟩) (ak (fun γ => ⟨rfl, fun w' h => ex_loadT h 0 rfl rfl rfl Try.isAgg25 Try.sizeOf25 rfl rfl⟩) (ak (fun γ => ⟨rfl, fun w' h => ⟨58, #[.agg (kd p r c gx gy).toArray, .agg (pc (dws p r X Y X' Y' m).2).toArray, .agg (pc (dws p r X Y X' Y' m).2).toArray], exec_call rfl call58 rfl (mpn rfl), slope_any hp (dws p r X Y X' Y' m).2 (dws p r X Y X' Y' m).2 hw.t hw.t w'⟩⟩) (ak (fun γ => ⟨rfl, fun w' h => ex_loadT h 4 rfl rfl rfl Try.isAgg25 Try.sizeOf25 rfl rfl⟩) (ak (fun γ => ⟨rfl, fun w' h => ⟨66, #[.agg (kd p r c gx gy).toArray, .agg (pc (dws p r X Y X' Y' m).2).toArray, U (dS p (dws p r X Y X' Y' m).2 (dws p r X Y X' Y' m).2), .agg (pt X' Y' false).toArray], exec_call rfl call66 rfl (mpn rfl), dline_any hp (dws p r X Y X' Y' m).2 hw.t _ (dS_lt hp) X' Y' false hX' hY' w'⟩⟩) (ak (fun γ => ⟨rfl, fun w' h => ⟨30, #[.agg (kd p r c gx gy).toArray, .agg (l2 ((pd p (dws p r X Y X' Y' m).1 (dws p r X Y X' Y' m).1).1) ((pd p (dws p r X Y X' Y' m).1 (dws p r X Y X' Y' m).1).2)).toArray, .agg (l2 ((dl p (dws p r X Y X' Y' m).2 (dS p (dws p r X Y X' Y' m).2 (dws p r X Y X' Y' m).2) X' Y').1) ((dl p (dws p r X Y X' Y' m).2 (dS p (dws p r X Y X' Y' m).2 (dws p r X Y X' Y' m).2) X' Y').2)).toArray], exec_call rfl call30 rfl (mpn rfl), dTimes_any hp (pd p (dws p r X Y X' Y' m).1 (dws p r X Y X' Y' m).1) (dl p (dws p r X Y X' Y' m).2 (dS p (dws p r X Y X' Y' m).2 (dws p r X Y X' Y' m).2) X' Y') (pd_lt hp _ _) ⟨mi_lt hp, hY'⟩ w'⟩⟩) trivial)))))))))))))
      intro _ w22 H22
      clear H21
      refine rest_at (l := [14]) rfl ?_
      refine rest_store rfl rfl rfl (ex_storeT (vs := l2 ((df p (dws p r X Y X' Y' m) X' Y').1) ((df p (dws p r X Y X' Y' m) X' Y').2)) H22.out.1 1 rfl rfl rfl rfl Try.sizeOf49 rfl (Nat.le_of_ble_eq_true rfl)) ?_
      have H23 : Hid (Mm (w22.setCells γ3_1 0 (l2 ((df p (dws p r X Y X' Y' m) X' Y').1) ((df p (dws p r X Y X' Y' m) X' Y').2))) [(γ4_1, pc (dws p r X Y X' Y' m).2), (γ3_1, l2 ((df p (dws p r X Y X' Y' m) X' Y').1) ((df p (dws p r X Y X' Y' m) X' Y').2)), (γ1_0, kd p r c gx gy), (γ1_1, pt X Y false), (γ1_2, pt X' Y' false), (γ1_3, l2 0 0)] ∧ Below w.heap.size w (w22.setCells γ3_1 0 (l2 ((df p (dws p r X Y X' Y' m) X' Y').1) ((df p (dws p r X Y X' Y' m) X' Y').2)))) := ⟨H22.out.1.put 1 (off := 0) (vs := l2 ((df p (dws p r X Y X' Y' m) X' Y').1) ((df p (dws p r X Y X' Y' m) X' Y').2)) rfl (Nat.le_of_ble_eq_true rfl), below_setCells _ o3_1.out _ _ _ H22.out.2⟩
      clear H22
      generalize hgw : World.setCells _ _ _ _ = w23 at H23 ⊢
      clear hgw
      refine rest_nil (then_normal (wp_seq ?_))
      refine walk_seqB 4 [.quiet (.agg (kd p r c gx gy).toArray), .quiet (.agg (pc (dws p r X Y X' Y' m).2).toArray), .quiet (.agg (pc (dws p r X Y X' Y' m).2).toArray), .call (.agg (pt ((dA p (dws p r X Y X' Y' m).2 (dws p r X Y X' Y' m).2).1) ((dA p (dws p r X Y X' Y' m).2 (dws p r X Y X' Y' m).2).2.1) ((dA p (dws p r X Y X' Y' m).2 (dws p r X Y X' Y' m).2).2.2)).toArray)] H23 ?ho18 ?he18
      case ho18 => exact ak (fun γ => ⟨rfl, fun w' h => ex_loadT h 2 rfl rfl rfl Try.isAgg27 Try.sizeOf27 rfl rfl⟩) (ak (fun γ => ⟨rfl, fun w' h => ex_loadT h 0 rfl rfl rfl Try.isAgg25 Try.sizeOf25 rfl rfl⟩) (ak (fun γ => ⟨rfl, fun w' h => ex_loadT h 0 rfl rfl rfl Try.isAgg25 Try.sizeOf25 rfl rfl⟩) (ak (fun γ => ⟨rfl, fun w' h => ⟨26, #[.agg (kd p r c gx gy).toArray, .agg (pc (dws p r X Y X' Y' m).2).toArray, .agg (pc (dws p r X Y X' Y' m).2).toArray], exec_call rfl call26 rfl (mpn rfl), dAdd_any hp (dws p r X Y X' Y' m).2 (dws p r X Y X' Y' m).2 hw.t hw.t w'⟩⟩) trivial)))
      intro _ w24 H24
      clear H23
      refine rest_at (l := [4]) rfl ?_
      refine rest_store rfl rfl rfl (ex_storeT (vs := pt ((dA p (dws p r X Y X' Y' m).2 (dws p r X Y X' Y' m).2).1) ((dA p (dws p r X Y X' Y' m).2 (dws p r X Y X' Y' m).2).2.1) ((dA p (dws p r X Y X' Y' m).2 (dws p r X Y X' Y' m).2).2.2)) H24.out.1 0 rfl rfl rfl rfl Try.sizeOf25 rfl (Nat.le_of_ble_eq_true rfl)) ?_
      have H25 : Hid (Mm (w24.setCells γ4_1 0 (pt ((dA p (dws p r X Y X' Y' m).2 (dws p r X Y X' Y' m).2).1) ((dA p (dws p r X Y X' Y' m).2 (dws p r X Y X' Y' m).2).2.1) ((dA p (dws p r X Y X' Y' m).2 (dws p r X Y X' Y' m).2).2.2))) [(γ4_1, pt ((dA p (dws p r X Y X' Y' m).2 (dws p r X Y X' Y' m).2).1) ((dA p (dws p r X Y X' Y' m).2 (dws p r X Y X' Y' m).2).2.1) ((dA p (dws p r X Y X' Y' m).2 (dws p r X Y X' Y' m).2).2.2)), (γ3_1, l2 ((df p (dws p r X Y X' Y' m) X' Y').1) ((df p (dws p r X Y X' Y' m) X' Y').2)), (γ1_0, kd p r c gx gy), (γ1_1, pt X Y false), (γ1_2, pt X' Y' false), (γ1_3, l2 0 0)] ∧ Below w.heap.size w (w24.setCells γ4_1 0 (pt ((dA p (dws p r X Y X' Y' m).2 (dws p r X Y X' Y' m).2).1) ((dA p (dws p r X Y X' Y' m).2 (dws p r X Y X' Y' m).2).2.1) ((dA p (dws p r X Y X' Y' m).2 (dws p r X Y X' Y' m).2).2.2)))) := ⟨H24.out.1.put 0 (off := 0) (vs := pt ((dA p (dws p r X Y X' Y' m).2 (dws p r X Y X' Y' m).2).1) ((dA p (dws p r X Y X' Y' m).2 (dws p r X Y X' Y' m).2).2.1) ((dA p (dws p r X Y X' Y' m).2 (dws p r X Y X' Y' m).2).2.2)) rfl (Nat.le_of_ble_eq_true rfl), below_setCells _ o4_1.out _ _ _ H24.out.2⟩
      clear H24
      generalize hgw : World.setCells _ _ _ _ = w25 at H25 ⊢
      clear hgw
      refine rest_nil (then_normal (wp_seq ?_))
      refine walk_seqB 13 [.quiet (PT γ1_0 1), .quiet (U r), .quiet (.int .i64 ((j : Nat) : Int)), .quiet (U (r / 2 ^ j)), .quiet (U (r / 2 ^ j % 2)), .quiet (.bool true), .quiet (.bool true), .quiet (PT γ4_1 0), .quiet (U ((dA p (dws p r X Y X' Y' m).2 (dws p r X Y X' Y' m).2).1)), .quiet (PT γ1_1 0), .quiet (U X), .quiet (.bool true), .quiet (.bool true)] H25 ?ho19 ?he19
      case ho19 => exact ak (by refine fun γ => ⟨rfl, fun w' h => ?_⟩; clear h; go_simp) (ak (fun γ => ⟨rfl, fun w' h => ex_loadC h 2 rfl rfl rfl Try.isAgg23 rfl⟩) (ak (fun _ => ⟨rfl, fun _ _ => rfl⟩) (ak (fun γ => ⟨rfl, fun w' _ => ex_shrU (hjb) rfl rfl rfl⟩) (ak (fun γ => ⟨rfl, fun w' _ => ex_and1 rfl (Nat.lt_of_le_of_lt (Nat.div_le_self _ _) hr) rfl rfl⟩) (ak (fun γ => ⟨rfl, fun w' _ => ex_eqU rfl rfl rfl (decide_eq_true (hb))⟩) (ak (fun _ => ⟨rfl, fun _ _ => rfl⟩) (ak (by refine fun γ => ⟨rfl, fun w' h => ?_⟩; clear h; go_simp) (ak (fun γ => ⟨rfl, fun w' h => ex_loadC h 0 rfl rfl rfl Try.isAgg23 rfl⟩) (ak (by refine fun γ => ⟨rfl, fun w' h => ?_⟩; clear h; go_simp) (ak (fun γ => ⟨rfl, fun w' h => ex_loadC h 3 rfl rfl rfl Try.isAgg23 rfl⟩) (ak (fun γ => ⟨rfl, fun w' _ => ex_neU rfl rfl rfl (decide_eq_true (hs))⟩) (ak (by refine fun γ => ⟨rfl, fun w' h => ?_⟩; clear h; go_simp) trivial))))))))))))
      intro _ w26 H26
      clear H25
      refine rest0 rfl (then_normal (wp_cond_true rfl (wp_seq ?_)))
      refine walk_anyB 11 [.quiet (.agg (kd p r c gx gy).toArray), .quiet (.agg (l2 ((df p (dws p r X Y X' Y' m) X' Y').1) ((df p (dws p r X Y X' Y' m) X' Y').2)).toArray), .quiet (.agg (kd p r c gx gy).toArray), .quiet (.agg (pt ((dA p (dws p r X Y X' Y' m).2 (dws p r X Y X' Y' m).2).1) ((dA p (dws p r X Y X' Y' m).2 (dws p r X Y X' Y' m).2).2.1) ((dA p (dws p r X Y X' Y' m).2 (dws p r X Y X' Y' m).2).2.2)).toArray), .quiet (.agg (kd p r c gx gy).toArray), .quiet (.agg (pt ((dA p (dws p r X Y X' Y' m).2 (dws p r X Y X' Y' m).2).1) ((dA p (dws p r X Y X' Y' m).2 (dws p r X Y X' Y' m).2).2.1) ((dA p (dws p r X Y X' Y' m).2 (dws p r X Y X' Y' m).2).2.2)).toArray), .quiet (.agg (pt X Y false).toArray), .call (U (dS p (dA p (dws p r X Y X' Y' m).2 (dws p r X Y X' Y' m).2) (X, Y, false))), .quiet (.agg (pt X' Y' false).toArray), .call (.agg (l2 ((dl p (dA p (dws p r X Y X' Y' m).2 (dws p r X Y X' Y' m).2) (dS p (dA p (dws p r X Y X' Y' m).2 (dws p r X Y X' Y' m).2) (X, Y, false)) X' Y').1) ((dl p (dA p (dws p r X Y X' Y' m).2 (dws p r X Y X' Y' m).2) (dS p (dA p (dws p r X Y X' Y' m).2 (dws p r X Y X' Y' m).2) (X, Y, false)) X' Y').2)).toArray), .call (.agg (l2 ((pd p (df p (dws p r X Y X' Y' m) X' Y') (dl p (dA p (dws p r X Y X' Y' m).2 (dws p r X Y X' Y' m).2) (dS p (dA p (dws p r X Y X' Y' m).2 (dws p r X Y X' Y' m).2) (X, Y, false)) X' Y')).1) ((pd p (df p (dws p r X Y X' Y' m) X' Y') (dl p (dA p (dws p r X Y X' Y' m).2 (dws p r X Y X' Y' m).2) (dS p (dA p (dws p r X Y X' Y' m).2 (dws p r X Y X' Y' m).2) (X, Y, false)) X' Y')).2)).toArray)] H26 ?ho20 ?he20
      case ho20 => exact ak (fun γ => ⟨rfl, fun w' h => ex_loadT h 2 rfl rfl rfl Try.isAgg27 Try.sizeOf27 rfl rfl⟩) (ak (fun γ => ⟨rfl, fun w' h => ex_loadT h 1 rfl rfl rfl Try.isAgg49 Try.sizeOf49 rfl rfl⟩) (ak (fun γ => ⟨rfl, fun w' h => ex_loadT h 2 rfl rfl rfl Try.isAgg27 Try.sizeOf27 rfl rfl⟩) (ak (fun γ => ⟨rfl, fun w' h => ex_loadT h 0 rfl rfl rfl Try.isAgg25 Try.sizeOf25 rfl rfl⟩) (ak (fun γ => ⟨rfl, fun w' h => ex_loadT h 2 rfl rfl rfl Try.isAgg27 Try.sizeOf27 rfl rfl⟩) (ak (fun γ => ⟨rfl, fun w' h => ex_loadT h 0 rfl rfl rfl Try.isAgg25 Try.sizeOf25 rfl rfl⟩) (ak (fun γ => ⟨rfl, fun w' h => ex_loadT h 3 rfl rfl rfl Try.isAgg25 Try.sizeOf25 rfl rfl⟩) (ak (fun γ => ⟨rfl, fun w' h => ⟨58, #[.agg (kd p r c gx gy).toArray, .agg (pt ((dA p (dws p r X Y X' Y' m).2 (dws p r X Y X' Y' m).2).1) ((dA p (dws p r X Y X' Y' m).2 (dws p r X Y X' Y' m).2).2.1) ((dA p (dws p r X Y X' Y' m).2 (dws p r X Y X' Y' m).2).2.2)).toArray, .agg (pt X Y false).toArray], exec_call rfl call58 rfl (mpn rfl), slope_any hp (dA p (dws p r X Y X' Y' m).2 (dws p r X Y X' Y' m).2) (X, Y, false) (dA_lt hp hw.t hw.t) ⟨hX, hY⟩ w'⟩⟩) (ak (fun γ => ⟨rfl, fun w' h => ex_loadT h 4 rfl rfl rfl Try.isAgg25 Try.sizeOf25 rfl rfl⟩) (ak (fun γ => ⟨rfl, fun w' h => ⟨66, #[.agg (kd p r c gx gy).toArray, .agg (pt ((dA p (dws p r X Y X' Y' m).2 (dws p r X Y X' Y' m).2).1) ((dA p (dws p r X Y X' Y' m).2 (dws p r X Y X' Y' m).2).2.1) ((dA p (dws p r X Y X' Y' m).2 (dws p r X Y X' Y' m).2).2.2)).toArray, U (dS p (dA p (dws p r X Y X' Y' m).2 (dws p r X Y X' Y' m).2) (X, Y, false)), .agg (pt X' Y' false).toArray], exec_call rfl call66 rfl (mpn rfl), dline_any hp (dA p (dws p r X Y X' Y' m).2 (dws p r X Y X' Y' m).2) (dA_lt hp hw.t hw.t) _ (dS_lt hp) X' Y' false hX' hY' w'⟩⟩) (ak (fun γ => ⟨rfl, fun w' h => ⟨30, #[.agg (kd p r c gx gy).toArray, .agg (l2 ((df p (dws p r X Y X' Y' m) X' Y').1) ((df p (dws p r X Y X' Y' m) X' Y').2)).toArray, .agg (l2 ((dl p (dA p (dws p r X Y X' Y' m).2 (dws p r X Y X' Y' m).2) (dS p (dA p (dws p r X Y X' Y' m).2 (dws p r X Y X' Y' m).2) (X, Y, false)) X' Y').1) ((dl p (dA p (dws p r X Y X' Y' m).2 (dws p r X Y X' Y' m).2) (dS p (dA p (dws p r X Y X' Y' m).2 (dws p r X Y X' Y' m).2) (X, Y, false)) X' Y').2)).toArray], exec_call rfl call30 rfl (mpn rfl), dTimes_any hp (df p (dws p r X Y X' Y' m) X' Y') (dl p (dA p (dws p r X Y X' Y' m).2 (dws p r X Y X' Y' m).2) (dS p (dA p (dws p r X Y X' Y' m).2 (dws p r X Y X' Y' m).2) (X, Y, false)) X' Y') (pd_lt hp _ _) ⟨mi_lt hp, hY'⟩ w'⟩⟩) trivial))))))))))
      intro _ w27 H27
      clear H26
      refine rest_at (l := [11]) rfl ?_
      refine rest_store rfl rfl rfl (ex_storeT (vs := l2 ((pd p (df p (dws p r X Y X' Y' m) X' Y') (dl p (dA p (dws p r X Y X' Y' m).2 (dws p r X Y X' Y' m).2) (dS p (dA p (dws p r X Y X' Y' m).2 (dws p r X Y X' Y' m).2) (X, Y, false)) X' Y')).1) ((pd p (df p (dws p r X Y X' Y' m) X' Y') (dl p (dA p (dws p r X Y X' Y' m).2 (dws p r X Y X' Y' m).2) (dS p (dA p (dws p r X Y X' Y' m).2 (dws p r X Y X' Y' m).2) (X, Y, false)) X' Y')).2)) H27.out.1 1 rfl rfl rfl rfl Try.sizeOf49 rfl (Nat.le_of_ble_eq_true rfl)) ?_
      have H28 : Hid (Mm (w27.setCells γ3_1 0 (l2 ((pd p (df p (dws p r X Y X' Y' m) X' Y') (dl p (dA p (dws p r X Y X' Y' m).2 (dws p r X Y X' Y' m).2) (dS p (dA p (dws p r X Y X' Y' m).2 (dws p r X Y X' Y' m).2) (X, Y, false)) X' Y')).1) ((pd p (df p (dws p r X Y X' Y' m) X' Y') (dl p (dA p (dws p r X Y X' Y' m).2 (dws p r X Y X' Y' m).2) (dS p (dA p (dws p r X Y X' Y' m).2 (dws p r X Y X' Y' m).2) (X, Y, false)) X' Y')).2))) [(γ4_1, pt ((dA p (dws p r X Y X' Y' m).2 (dws p r X Y X' Y' m).2).1) ((dA p (dws p r X Y X' Y' m).2 (dws p r X Y X' Y' m).2).2.1) ((dA p (dws p r X Y X' Y' m).2 (dws p r X Y X' Y' m).2).2.2)), (γ3_1, l2 ((pd p (df p (dws p r X Y X' Y' m) X' Y') (dl p (dA p (dws p r X Y X' Y' m).2 (dws p r X Y X' Y' m).2) (dS p (dA p (dws p r X Y X' Y' m).2 (dws p r X Y X' Y' m).2) (X, Y, false)) X' Y')).1) ((pd p (df p (dws p r X Y X' Y' m) X' Y') (dl p (dA p (dws p r X Y X' Y' m).2 (dws p r X Y X' Y' m).2) (dS p (dA p (dws p r X Y X' Y' m).2 (dws p r X Y X' Y' m).2) (X, Y, false)) X' Y')).2)), (γ1_0, kd p r c gx gy), (γ1_1, pt X Y false), (γ1_2, pt X' Y' false), (γ1_3, l2 0 0)] ∧ Below w.heap.size w (w27.setCells γ3_1 0 (l2 ((pd p (df p (dws p r X Y X' Y' m) X' Y') (dl p (dA p (dws p r X Y X' Y' m).2 (dws p r X Y X' Y' m).2) (dS p (dA p (dws p r X Y X' Y' m).2 (dws p r X Y X' Y' m).2) (X, Y, false)) X' Y')).1) ((pd p (df p (dws p r X Y X' Y' m) X' Y') (dl p (dA p (dws p r X Y X' Y' m).2 (dws p r X Y X' Y' m).2) (dS p (dA p (dws p r X Y X' Y' m).2 (dws p r X Y X' Y' m).2) (X, Y, false)) X' Y')).2)))) := ⟨H27.out.1.put 1 (off := 0) (vs := l2 ((pd p (df p (dws p r X Y X' Y' m) X' Y') (dl p (dA p (dws p r X Y X' Y' m).2 (dws p r X Y X' Y' m).2) (dS p (dA p (dws p r X Y X' Y' m).2 (dws p r X Y X' Y' m).2) (X, Y, false)) X' Y')).1) ((pd p (df p (dws p r X Y X' Y' m) X' Y') (dl p (dA p (dws p r X Y X' Y' m).2 (dws p r X Y X' Y' m).2) (dS p (dA p (dws p r X Y X' Y' m).2 (dws p r X Y X' Y' m).2) (X, Y, false)) X' Y')).2)) rfl (Nat.le_of_ble_eq_true rfl), below_setCells _ o3_1.out _ _ _ H27.out.2⟩
      clear H27
      generalize hgw : World.setCells _ _ _ _ = w28 at H28 ⊢
      clear hgw
      refine rest_nil (then_normal ?_)
      refine walk_seqB 4 [.quiet (.agg (kd p r c gx gy).toArray), .quiet (.agg (pt ((dA p (dws p r X Y X' Y' m).2 (dws p r X Y X' Y' m).2).1) ((dA p (dws p r X Y X' Y' m).2 (dws p r X Y X' Y' m).2).2.1) ((dA p (dws p r X Y X' Y' m).2 (dws p r X Y X' Y' m).2).2.2)).toArray), .quiet (.agg (pt X Y false).toArray), .call (.agg (pt ((dA p (dA p (dws p r X Y X' Y' m).2 (dws p r X Y X' Y' m).2) (X, Y, false)).1) ((dA p (dA p (dws p r X Y X' Y' m).2 (dws p r X Y X' Y' m).2) (X, Y, false)).2.1) ((dA p (dA p (dws p r X Y X' Y' m).2 (dws p r X Y X' Y' m).2) (X, Y, false)).2.2)).toArray)] H28 ?ho21 ?he21
      case ho21 => exact ak (fun γ => ⟨rfl, fun w' h => ex_loadT h 2 rfl rfl rfl Try.isAgg27 Try.sizeOf27 rfl rfl⟩) (ak (fun γ => ⟨rfl, fun w' h => ex_loadT h 0 rfl rfl rfl Try.isAgg25 Try.sizeOf25 rfl rfl⟩) (ak (fun γ => ⟨rfl, fun w' h => ex_loadT h 3 rfl rfl rfl Try.isAgg25 Try.sizeOf25 rfl rfl⟩) (ak (fun γ => ⟨rfl, fun w' h => ⟨26, #[.agg (kd p r c gx gy).toArray, .agg (pt ((dA p (dws p r X Y X' Y' m).2 (dws p r X Y X' Y' m).2).1) ((dA p (dws p r X Y X' Y' m).2 (dws p r X Y X' Y' m).2).2.1) ((dA p (dws p r X Y X' Y' m).2 (dws p r X Y X' Y' m).2).2.2)).toArray, .agg (pt X Y false).toArray], exec_call rfl call26 rfl (mpn rfl), dAdd_any hp (dA p (dws p r X Y X' Y' m).2 (dws p r X Y X' Y' m).2) (X, Y, false) (dA_lt hp hw.t hw.t) ⟨hX, hY⟩ w'⟩⟩) trivial)))
      intro _ w29 H29
      clear H28
      refine rest_at (l := [4]) rfl ?_
      refine rest_store rfl rfl rfl (ex_storeT (vs := pt ((dA p (dA p (dws p r X Y X' Y' m).2 (dws p r X Y X' Y' m).2) (X, Y, false)).1) ((dA p (dA p (dws p r X Y X' Y' m).2 (dws p r X Y X' Y' m).2) (X, Y, false)).2.1) ((dA p (dA p (dws p r X Y X' Y' m).2 (dws p r X Y X' Y' m).2) (X, Y, false)).2.2)) H29.out.1 0 rfl rfl rfl rfl Try.sizeOf25 rfl (Nat.le_of_ble_eq_true rfl)) ?_
      have H30 : Hid (Mm (w29.setCells γ4_1 0 (pt ((dA p (dA p (dws p r X Y X' Y' m).2 (dws p r X Y X' Y' m).2) (X, Y, false)).1) ((dA p (dA p (dws p r X Y X' Y' m).2 (dws p r X Y X' Y' m).2) (X, Y, false)).2.1) ((dA p (dA p (dws p r X Y X' Y' m).2 (dws p r X Y X' Y' m).2) (X, Y, false)).2.2))) [(γ4_1, pt ((dA p (dA p (dws p r X Y X' Y' m).2 (dws p r X Y X' Y' m).2) (X, Y, false)).1) ((dA p (dA p (dws p r X Y X' Y' m).2 (dws p r X Y X' Y' m).2) (X, Y, false)).2.1) ((dA p (dA p (dws p r X Y X' Y' m).2 (dws p r X Y X' Y' m).2) (X, Y, false)).2.2)), (γ3_1, l2 ((pd p (df p (dws p r X Y X' Y' m) X' Y') (dl p (dA p (dws p r X Y X' Y' m).2 (dws p r X Y X' Y' m).2) (dS p (dA p (dws p r X Y X' Y' m).2 (dws p r X Y X' Y' m).2) (X, Y, false)) X' Y')).1) ((pd p (df p (dws p r X Y X' Y' m) X' Y') (dl p (dA p (dws p r X Y X' Y' m).2 (dws p r X Y X' Y' m).2) (dS p (dA p (dws p r X Y X' Y' m).2 (dws p r X Y X' Y' m).2) (X, Y, false)) X' Y')).2)), (γ1_0, kd p r c gx gy), (γ1_1, pt X Y false), (γ1_2, pt X' Y' false), (γ1_3, l2 0 0)] ∧ Below w.heap.size w (w29.setCells γ4_1 0 (pt ((dA p (dA p (dws p r X Y X' Y' m).2 (dws p r X Y X' Y' m).2) (X, Y, false)).1) ((dA p (dA p (dws p r X Y X' Y' m).2 (dws p r X Y X' Y' m).2) (X, Y, false)).2.1) ((dA p (dA p (dws p r X Y X' Y' m).2 (dws p r X Y X' Y' m).2) (X, Y, false)).2.2)))) := ⟨H29.out.1.put 0 (off := 0) (vs := pt ((dA p (dA p (dws p r X Y X' Y' m).2 (dws p r X Y X' Y' m).2) (X, Y, false)).1) ((dA p (dA p (dws p r X Y X' Y' m).2 (dws p r X Y X' Y' m).2) (X, Y, false)).2.1) ((dA p (dA p (dws p r X Y X' Y' m).2 (dws p r X Y X' Y' m).2) (X, Y, false)).2.2)) rfl (Nat.le_of_ble_eq_true rfl), below_setCells _ o4_1.out _ _ _ H29.out.2⟩
      clear H29
      generalize hgw : World.setCells _ _ _ _ = w30 at H30 ⊢
      clear hgw
      refine rest_nil (block_normal (then_normal ?_))
      refine walk_seqB 2 [.quiet (.int .i64 ((j : Nat) : Int)), .quiet (.int .i64 (((bl r : Nat) : Int) - 2 - ((m + 1 : Nat) : Int)))] H30 ?ho22 ?he22
      case ho22 => exact ak (fun _ => ⟨rfl, fun _ _ => rfl⟩) (ak (by refine fun γ => ⟨rfl, fun w' h => ?_⟩; clear h; go_simp; rw [IntKind.wrap_i64]; omega) trivial)
      intro _ w31 H31
      clear H30
      refine rest_at (l := [2]) rfl ?_
      refine rest_set (d := 9) rfl rfl rfl rfl ?_
      simp only [Act.put, sa, sz, ss]
      refine rest_nil (then_normal ?_)
      exact ⟨m + 1, ⟨(slotfn [undef, undef, undef, undef, undef, undef, undef, undef, undef, undef, undef, undef, undef, undef, undef, undef, undef, undef, undef, undef, undef, undef, undef, .int .i64 ((j : Nat) : Int), .bool true, .int .i64 ((j : Nat) : Int), .int .i64 (((bl r : Nat) : Int) - 2 - ((m + 1 : Nat) : Int)), .agg (kd p r c gx gy).toArray, .agg (kd p r c gx gy).toArray, .agg (lc (dws p r X Y X' Y' m).1).toArray, .agg (lc (dws p r X Y X' Y' m).1).toArray, .agg (l2 ((pd p (dws p r X Y X' Y' m).1 (dws p r X Y X' Y' m).1).1) ((pd p (dws p r X Y X' Y' m).1 (dws p r X Y X' Y' m).1).2)).toArray, .agg (kd p r c gx gy).toArray, .agg (pc (dws p r X Y X' Y' m).2).toArray, .agg (kd p r c gx gy).toArray, .agg (pc (dws p r X Y X' Y' m).2).toArray, .agg (pc (dws p r X Y X' Y' m).2).toArray, U (dS p (dws p r X Y X' Y' m).2 (dws p r X Y X' Y' m).2), .agg (pt X' Y' false).toArray, .agg (l2 ((dl p (dws p r X Y X' Y' m).2 (dS p (dws p r X Y X' Y' m).2 (dws p r X Y X' Y' m).2) X' Y').1) ((dl p (dws p r X Y X' Y' m).2 (dS p (dws p r X Y X' Y' m).2 (dws p r X Y X' Y' m).2) X' Y').2)).toArray, .agg (l2 ((df p (dws p r X Y X' Y' m) X' Y').1) ((df p (dws p r X Y X' Y' m) X' Y').2)).toArray, .agg (kd p r c gx gy).toArray, .agg (pc (dws p r X Y X' Y' m).2).toArray, .agg (pc (dws p r X Y X' Y' m).2).toArray, .agg (pt ((dA p (dws p r X Y X' Y' m).2 (dws p r X Y X' Y' m).2).1) ((dA p (dws p r X Y X' Y' m).2 (dws p r X Y X' Y' m).2).2.1) ((dA p (dws p r X Y X' Y' m).2 (dws p r X Y X' Y' m).2).2.2)).toArray, PT γ1_0 1, U r, .int .i64 ((j : Nat) : Int), U (r / 2 ^ j), U (r / 2 ^ j % 2), .bool true, .bool true, PT γ4_1 0, U ((dA p (dws p r X Y X' Y' m).2 (dws p r X Y X' Y' m).2).1), PT γ1_1 0, U X, .bool true, .bool true, .agg (kd p r c gx gy).toArray, .agg (l2 ((df p (dws p r X Y X' Y' m) X' Y').1) ((df p (dws p r X Y X' Y' m) X' Y').2)).toArray, .agg (kd p r c gx gy).toArray, .agg (pt ((dA p (dws p r X Y X' Y' m).2 (dws p r X Y X' Y' m).2).1) ((dA p (dws p r X Y X' Y' m).2 (dws p r X Y X' Y' m).2).2.1) ((dA p (dws p r X Y X' Y' m).2 (dws p r X Y X' Y' m).2).2.2)).toArray, .agg (kd p r c gx gy).toArray, .agg (pt ((dA p (dws p r X Y X' Y' m).2 (dws p r X Y X' Y' m).2).1) ((dA p (dws p r X Y X' Y' m).2 (dws p r X Y X' Y' m).2).2.1) ((dA p (dws p r X Y X' Y' m).2 (dws p r X Y X' Y' m).2).2.2)).toArray, .agg (pt X Y false).toArray, U (dS p (dA p (dws p r X Y X' Y' m).2 (dws p r X Y X' Y' m).2) (X, Y, false)), .agg (pt X' Y' false).toArray, .agg (l2 ((dl p (dA p (dws p r X Y X' Y' m).2 (dws p r X Y X' Y' m).2) (dS p (dA p (dws p r X Y X' Y' m).2 (dws p r X Y X' Y' m).2) (X, Y, false)) X' Y').1) ((dl p (dA p (dws p r X Y X' Y' m).2 (dws p r X Y X' Y' m).2) (dS p (dA p (dws p r X Y X' Y' m).2 (dws p r X Y X' Y' m).2) (X, Y, false)) X' Y').2)).toArray, .agg (l2 ((pd p (df p (dws p r X Y X' Y' m) X' Y') (dl p (dA p (dws p r X Y X' Y' m).2 (dws p r X Y X' Y' m).2) (dS p (dA p (dws p r X Y X' Y' m).2 (dws p r X Y X' Y' m).2) (X, Y, false)) X' Y')).1) ((pd p (df p (dws p r X Y X' Y' m) X' Y') (dl p (dA p (dws p r X Y X' Y' m).2 (dws p r X Y X' Y' m).2) (dS p (dA p (dws p r X Y X' Y' m).2 (dws p r X Y X' Y' m).2) (X, Y, false)) X' Y')).2)).toArray, .agg (kd p r c gx gy).toArray, .agg (pt ((dA p (dws p r X Y X' Y' m).2 (dws p r X Y X' Y' m).2).1) ((dA p (dws p r X Y X' Y' m).2 (dws p r X Y X' Y' m).2).2.1) ((dA p (dws p r X Y X' Y' m).2 (dws p r X Y X' Y' m).2).2.2)).toArray, .agg (pt X Y false).toArray, .agg (pt ((dA p (dA p (dws p r X Y X' Y' m).2 (dws p r X Y X' Y' m).2) (X, Y, false)).1) ((dA p (dA p (dws p r X Y X' Y' m).2 (dws p r X Y X' Y' m).2) (X, Y, false)).2.1) ((dA p (dA p (dws p r X Y X' Y' m).2 (dws p r X Y X' Y' m).2) (X, Y, false)).2.2)).toArray]), rfl, ⟨by rw [show dws p r X Y X' Y' (m + 1) = _ from dst_g p X Y X' Y' _ (dws p r X Y X' Y' m) (by rw [← hj]; exact hb) hs]; exact H31.out.1.pick [0, 1, 2, 3, 4, 5] rfl (by decide), H31.out.2⟩, by omega⟩, by omega⟩
  have hm : m = bl r - 1 := by omega
  subst hm
  refine wp_seq (wp_seq ?_)
  refine walk_seqB 2 [.quiet (.int .i64 (((bl r : Nat) : Int) - 2 - ((bl r - 1 : Nat) : Int))), .quiet (.bool false)] H6 ?ho23 ?he23
  case ho23 => exact ak (fun _ => ⟨rfl, fun _ _ => rfl⟩) (ak (by refine fun γ => ⟨rfl, fun w' h => ?_⟩; clear h; go_simp; omega) trivial)
  intro _ w32 H32
  clear H6
  refine rest0 rfl (then_normal (wp_cond_false rfl ?_))
  refine wp_exit ?_
  repeat refine then_exit ?_
  refine block_exit ?_
  refine then_normal (wp_seq ?_)
  refine walk_anyB 10 [.quiet (.agg (kd p r c gx gy).toArray), .quiet (.agg (kd p r c gx gy).toArray), .quiet (.agg (lc (dws p r X Y X' Y' (bl r - 1)).1).toArray), .quiet (PT γ1_0 0), .quiet (U p), .quiet (U (p - 1)), .call (.agg (l2 ((po p (dws p r X Y X' Y' (bl r - 1)).1 (p - 1)).1) ((po p (dws p r X Y X' Y' (bl r - 1)).1 (p - 1)).2)).toArray), .quiet (PT γ1_0 2), .quiet (U c), .call (.agg (l2 ((po p (po p (dws p r X Y X' Y' (bl r - 1)).1 (p - 1)) c).1) ((po p (po p (dws p r X Y X' Y' (bl r - 1)).1 (p - 1)) c).2)).toArray)] H32 ?ho24 ?he24
  case ho24 => exact ak (fun γ => ⟨rfl, fun w' h => ex_loadT h 2 rfl rfl rfl Try.isAgg27 Try.sizeOf27 rfl rfl⟩) (ak (fun γ => ⟨rfl, fun w' h => ex_loadT h 2 rfl rfl rfl Try.isAgg27 Try.sizeOf27 rfl rfl⟩) (ak (fun γ => ⟨rfl, fun w' h => ex_loadT h 1 rfl rfl rfl Try.isAgg49 Try.sizeOf49 rfl rfl⟩) (ak (by refine fun γ => ⟨rfl, fun w' h => ?_⟩; clear h; go_simp) (ak (fun γ => ⟨rfl, fun w' h => ex_loadC h 2 rfl rfl rfl Try.isAgg23 rfl⟩) (ak (fun γ => ⟨rfl, fun w' _ => ex_subU (by have := hp.lo; omega) (by have := hp.hi; omega) rfl rfl rfl⟩) (ak (fun γ => ⟨rfl, fun w' h => ⟨32, #[.agg (kd p r c gx gy).toArray, .agg (lc (dws p r X Y X' Y' (bl r - 1)).1).toArray, U (p - 1)], exec_call rfl call32 rfl (mpn rfl), dPower_any hp (dws p r X Y X' Y' (bl r - 1)).1 (dw_lt hp hX hY _).f (p - 1) (by have := hp.hi; omega) w'⟩⟩) (ak (by refine fun γ => ⟨rfl, fun w' h => ?_⟩; clear h; go_simp) (ak (fun γ => ⟨rfl, fun w' h => ex_loadC h 2 rfl rfl rfl Try.isAgg23 rfl⟩) (ak (fun γ => ⟨rfl, fun w' h => ⟨32, #[.agg (kd p r c gx gy).toArray, .agg (l2 ((po p (dws p r X Y X' Y' (bl r - 1)).1 (p - 1)).1) ((po p (dws p r X Y X' Y' (bl r - 1)).1 (p - 1)).2)).toArray, U c], exec_call rfl call32 rfl (mpn rfl), dPower_any hp (po p (dws p r X Y X' Y' (bl r - 1)).1 (p - 1)) (po_lt hp _ _) c hc w'⟩⟩) trivial)))))))))
  intro _ w33 H33
  clear H32
  refine rest_at (l := [10]) rfl ?_
  refine rest_store rfl rfl rfl (ex_storeT (vs := l2 ((po p (po p (dws p r X Y X' Y' (bl r - 1)).1 (p - 1)) c).1) ((po p (po p (dws p r X Y X' Y' (bl r - 1)).1 (p - 1)) c).2)) H33.out.1 5 rfl rfl rfl rfl Try.sizeOf49 rfl (Nat.le_of_ble_eq_true rfl)) ?_
  have H34 : Hid (Mm (w33.setCells γ1_3 0 (l2 ((po p (po p (dws p r X Y X' Y' (bl r - 1)).1 (p - 1)) c).1) ((po p (po p (dws p r X Y X' Y' (bl r - 1)).1 (p - 1)) c).2))) [(γ4_1, pc (dws p r X Y X' Y' (bl r - 1)).2), (γ3_1, lc (dws p r X Y X' Y' (bl r - 1)).1), (γ1_0, kd p r c gx gy), (γ1_1, pt X Y false), (γ1_2, pt X' Y' false), (γ1_3, l2 ((po p (po p (dws p r X Y X' Y' (bl r - 1)).1 (p - 1)) c).1) ((po p (po p (dws p r X Y X' Y' (bl r - 1)).1 (p - 1)) c).2))] ∧ Below w.heap.size w (w33.setCells γ1_3 0 (l2 ((po p (po p (dws p r X Y X' Y' (bl r - 1)).1 (p - 1)) c).1) ((po p (po p (dws p r X Y X' Y' (bl r - 1)).1 (p - 1)) c).2)))) := ⟨H33.out.1.put 5 (off := 0) (vs := l2 ((po p (po p (dws p r X Y X' Y' (bl r - 1)).1 (p - 1)) c).1) ((po p (po p (dws p r X Y X' Y' (bl r - 1)).1 (p - 1)) c).2)) rfl (Nat.le_of_ble_eq_true rfl), below_setCells _ o1_3.out _ _ _ H33.out.2⟩
  clear H33
  generalize hgw : World.setCells _ _ _ _ = w34 at H34 ⊢
  clear hgw
  refine rest_nil (then_normal (wp_ret ?_))
  repeat (first | refine then_ret ?_ | refine block_ret ?_)
  have hf0 := var_T H34.out.1 5 rfl Try.isAgg49 Try.sizeOf49 rfl
  refine bodyPost_ret (v := .agg (l2 ((po p (po p (dws p r X Y X' Y' (bl r - 1)).1 (p - 1)) c).1) ((po p (po p (dws p r X Y X' Y' (bl r - 1)).1 (p - 1)) c).2)).toArray) (by simp [results, Try.results33, asAddr, hf0]) rfl ?_
  exact ⟨rfl, H34.out.2⟩
theorem dPair_any (hp : Pr p) [NeZero p] (hr : r < 18446744073709551616) (hc : c < 18446744073709551616) (X Y : Nat) (Z : Bool) (hX : X < p) (hY : Y < p) (X' Y' : Nat) (Z' : Bool) (hX' : X' < p) (hY' : Y' < p) (w : World) : Calls Try.prog 33 #[.agg (kd p r c gx gy).toArray, .agg (pt X Y Z).toArray, .agg (pt X' Y' Z').toArray] w fun e w' => e = .returned (V (lc (dpr p r c X Y X' Y' Z Z'))) ∧ Below w.heap.size w w' := by
  unfold dpr
  cases Z
  · cases Z'
    · rw [if_neg (by simp)]; exact dPair_g hp hr hc X Y hX hY X' Y' hX' hY' w
    · rw [if_pos (Or.inr rfl)]; exact dPair_y X Y X' Y' w
  · rw [if_pos (Or.inl rfl)]; exact dPair_z X Y X' Y' Z' w
end
end Rg
end Go.Proofs.Ytjmbgchoioepjaa
end
section
namespace Go.Proofs.Ytjmbgchoioepjaa
open Go.RowKit
namespace Rg
open NT
/-- A suite of which the document knows the same, and whose p is a prime. -/
structure Kq (s : Int) (p r c gx gy : Nat) : Prop where
  k : Kd s p r c gx gy
  prm : Prm p
  of : ∀ w, Calls Try.prog 10 #[.int .i64 s] w fun e w' => e = .returned (.tuple #[V (kd p r c gx gy), .bool true]) ∧ Below w.heap.size w w'
theorem kq_1 : Kq 1 786251 65521 12 9723 164643 := ⟨kd_1, prm_786251, Of_1⟩
theorem kq_2 : Kq 2 1152921504606846223 72057594037927889 16 613740293506734924 666621259561003659 := ⟨kd_2, prm_1152921504606846223, Of_2⟩
theorem Kq.ne {s : Int} {p r c gx gy : Nat} (k : Kq s p r c gx gy) : NeZero p := ⟨Nat.ne_of_gt (zero_lt k.k.pr)⟩
theorem call10 : ∀ args w, (callFunc 10 args).run Try.prog w = .ok (.enter 10 args) w := by intro args w; go_simp
theorem call23 : ∀ args w, (callFunc 23 args).run Try.prog w = .ok (.enter 23 args) w := by intro args w; go_simp
section
variable {s : Int} {p r c gx gy : Nat}
end
end Rg
end Go.Proofs.Ytjmbgchoioepjaa
end
section
namespace Go.Proofs.Ytjmbgchoioepjaa
open Go.RowKit
namespace Rg
open NT
/-- A suite whose points are a group. -/
structure Kf (s : Int) (p r c gx gy : Nat) : Prop where
  q : Kq s p r c gx gy
  three : p % 4 = 3
theorem kf_1 : Kf 1 786251 65521 12 9723 164643 := ⟨kq_1, by decide⟩
theorem kf_2 : Kf 2 1152921504606846223 72057594037927889 16 613740293506734924 666621259561003659 := ⟨kq_2, by decide⟩
section
variable {s : Int} {p r c gx gy : Nat}
theorem Kf.fd (k : Kf s p r c gx gy) [NeZero p] : Fd p := ⟨k.q.k.pr, k.q.prm, k.three⟩
end
end Rg
end Go.Proofs.Ytjmbgchoioepjaa
end
