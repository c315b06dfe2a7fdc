/- Pair, Times, Power; what the examples say -/
import Derived.Test.YtjmbgchoioepjaaV3
import Derived.Test.YtjmbgchoioepjaaN0
namespace Go.Proofs.Ytjmbgchoioepjaa
open Go.RowKit
namespace Rg
theorem ig_lt {p r X Y : Nat} {Z : Bool} (hp : Pr p) (h : ig p r X Y Z = true) : X < p ∧ Y < p := by
  unfold ig at h
  simp only [Bool.and_eq_true] at h
  exact oc_lt hp h.1
theorem allIn_is {p r c gx gy : Nat} (hp : Pr p) (hr : r < 18446744073709551616) (X Y : Nat) (Z : Bool) (X' Y' : Nat) (Z' : Bool) (v : Bool) (h : (ig p r X Y Z && ig p r X' Y' Z') = v) (g : Nat) (w : World) (hm : Mm w [(g, p2 X Y Z X' Y' Z')]) : Calls Try.prog 60 #[.agg (kd p r c gx gy).toArray, .slice (some ⟨g, 0, none⟩) 2 2] w fun e w' => e = .returned (.bool v) ∧ Below w.heap.size w w' := by
  rw [← h]
  exact allIn_any hp hr X Y Z X' Y' Z' g w hm
theorem call13 : ∀ args w, (callFunc 13 args).run Try.prog w = .ok (.enter 13 args) w := by intro args w; go_simp
theorem call27 : ∀ args w, (callFunc 27 args).run Try.prog w = .ok (.enter 27 args) w := by intro args w; go_simp
theorem call60 : ∀ args w, (callFunc 60 args).run Try.prog w = .ok (.enter 60 args) w := by intro args w; go_simp
theorem call61 : ∀ args w, (callFunc 61 args).run Try.prog w = .ok (.enter 61 args) w := by intro args w; go_simp
theorem call62 : ∀ args w, (callFunc 62 args).run Try.prog w = .ok (.enter 62 args) w := by intro args w; go_simp
theorem call64 : ∀ args w, (callFunc 64 args).run Try.prog w = .ok (.enter 64 args) w := by intro args w; go_simp
section
variable {s : Int} {p r c gx gy : Nat}
set_option maxHeartbeats 1000000 in
set_option maxRecDepth 100000 in
theorem Pair_pt (k : Kd s p r c gx gy) (X Y : Nat) (Z : Bool) (X' Y' : Nat) (Z' : Bool) (hg : (ig p r X Y Z && ig p r X' Y' Z') = false) (w : World) :
    Calls Try.prog 27 #[.int .i64 s, .agg (pt X Y Z).toArray, .agg (pt X' Y' Z').toArray] w fun e w' => e = .returned (.tuple #[V (l2 0 0), .int .i64 5]) ∧ Below w.heap.size w w' := by
  have H0 : Hid (_ ∧ _) := ⟨Mm.nil w, Below.refl w.heap.size w⟩
  go_enter Try.func27, Try.ntmps27
  refine wp_seq ?_
  refine walk_seqA 4 [.made (pt X Y Z) 25, .made (pt X' Y' Z') 25, .made (l2 0 0) 49, .quiet (.int .i64 0)] (sB H0) ?ho1 ?he1
  case ho1 => exact ak (fun γ => ⟨rfl, fun w' => ex_boxT rfl rfl⟩) (ak (fun γ => ⟨rfl, fun w' => ex_boxT rfl rfl⟩) (ak (fun γ => ⟨rfl, fun w' => ex_made49 rfl⟩) (ak (fun _ => ⟨rfl, fun _ _ => rfl⟩) trivial)))
  intro γ w1 l hM hl
  have H1 : Hid (Mm w1 [(γ 0, pt X Y Z), (γ 1, pt X' Y' Z'), (γ 2, l2 0 0)] ∧ _) := growB H0 hM (Nat.le_refl _) hl [0, 1, 2] rfl (by decide)
  have o1_0 := ownB H0 hM (Nat.le_refl _) hl (i := 0) rfl
  have o1_1 := ownB H0 hM (Nat.le_refl _) hl (i := 1) rfl
  have o1_2 := ownB H0 hM (Nat.le_refl _) hl (i := 2) rfl
  clear hM hl l
  generalize γ 0 = γ1_0 at H1 o1_0 ⊢
  generalize γ 1 = γ1_1 at H1 o1_1 ⊢
  generalize γ 2 = γ1_2 at H1 o1_2 ⊢
  clear γ
  refine rest0 rfl (then_normal (wp_seq ?_))
  refine walk_seqA 8 [.quiet (.int .i64 s), .call (.tuple #[.agg (kd p r c gx gy).toArray, .int .i64 0]), .quiet (.tuple #[.agg (kd p r c gx gy).toArray, .int .i64 0]), .quiet (.agg (kd p r c gx gy).toArray), .quiet (.int .i64 0), .made (kd 0 0 0 0 0) 72, .laid 5 (kd 0 0 0 0 0) (kd p r c gx gy), .quiet (.int .i64 0)] (sB H1) ?ho2 ?he2 (hL := ?hL2)
  case hL2 => exact ⟨⟨_, rfl⟩, trivial⟩
  case ho2 => exact ak (fun _ => ⟨rfl, fun _ _ => rfl⟩) (ak (fun γ => ⟨rfl, fun w' h => ⟨42, #[.int .i64 s], exec_call rfl call42 rfl (mpn rfl), k.kind w'⟩⟩) (ak (fun _ => ⟨rfl, fun _ _ => rfl⟩) (ak (by refine fun γ => ⟨rfl, fun w' h => ?_⟩; clear h; go_simp) (ak (by refine fun γ => ⟨rfl, fun w' h => ?_⟩; clear h; go_simp) (ak (fun γ => ⟨rfl, fun w' => ex_made72 rfl⟩) (ak (fun γ => ⟨rfl, rfl, rfl, fun w' h => ex_laidT h rfl rfl Try.sizeOf72 rfl rfl rfl⟩) (ak (fun _ => ⟨rfl, fun _ _ => rfl⟩) trivial)))))))
  intro γ w2 l hM hl
  have H2 : Hid (Mm w2 [(γ 5, kd p r c gx gy), (γ1_0, pt X Y Z), (γ1_1, pt X' Y' Z'), (γ1_2, l2 0 0)] ∧ _) := growB H1 hM (Nat.le_refl _) hl [5] rfl (by decide)
  have o2_5 := ownB H1 hM (Nat.le_refl _) hl (i := 5) rfl
  clear hM hl l H1
  generalize γ 5 = γ2_5 at H2 o2_5 ⊢
  clear γ
  refine rest0 rfl (then_normal (wp_seq (wp_seq ?_)))
  refine walk_seqB 2 [.quiet (.int .i64 0), .quiet (.bool false)] H2 ?ho3 ?he3
  case ho3 => exact ak (fun _ => ⟨rfl, fun _ _ => rfl⟩) (ak (by refine fun γ => ⟨rfl, fun w' h => ?_⟩; clear h; go_simp) trivial)
  intro _ w3 H3
  clear H2
  refine rest0 rfl (then_normal (wp_cond_false rfl ?_))
  refine wp_skip (then_normal ?_)
  refine wp_seq (wp_seq ?_)
  refine walk_seqB 3 [.quiet (.agg (kd p r c gx gy).toArray), .quiet (.agg (pt X Y Z).toArray), .quiet (.agg (pt X' Y' Z').toArray)] H3 ?ho4 ?he4
  case ho4 => exact ak (fun γ => ⟨rfl, fun w' h => ex_loadT h 0 rfl rfl rfl Try.isAgg72 Try.sizeOf72 rfl rfl⟩) (ak (fun γ => ⟨rfl, fun w' h => ex_loadT h 1 rfl rfl rfl Try.isAgg25 Try.sizeOf25 rfl rfl⟩) (ak (fun γ => ⟨rfl, fun w' h => ex_loadT h 2 rfl rfl rfl Try.isAgg25 Try.sizeOf25 rfl rfl⟩) trivial))
  intro _ w4 H4
  clear H3
  refine rest_at (l := [3, 4, 5]) rfl ?_
  refine rest_set (d := 22) (v := .slice (some ⟨w4.heap.size, 0, none⟩) 2 2) (w' := w4.alloc (.cells (p2 X Y Z X' Y' Z' : List Value).toArray 25)) rfl rfl rfl (ex_bs2 rfl rfl rfl) ?_
  simp only [Act.put, sa, sz, ss]
  have o_γs5 : Hid (w.heap.size ≤ w4.heap.size) := H4.out.2.size
  have H5 : Hid (Mm (w4.alloc (.cells (p2 X Y Z X' Y' Z' : List Value).toArray 25)) ((w4.heap.size, p2 X Y Z X' Y' Z') :: [(γ2_5, kd p r c gx gy), (γ1_0, pt X Y Z), (γ1_1, pt X' Y' Z'), (γ1_2, l2 0 0)]) ∧ Below w.heap.size w (w4.alloc (.cells (p2 X Y Z X' Y' Z' : List Value).toArray 25))) := ⟨H4.out.1.alloc _ 25 rfl, H4.out.2.alloc H4.out.2.size _⟩
  clear H4
  generalize hgw : w4.alloc (.cells (p2 X Y Z X' Y' Z' : List Value).toArray 25) = w5 at H5 ⊢
  clear hgw
  generalize w4.heap.size = γs5 at o_γs5 H5 ⊢
  refine rest_enter (d := 23) (R := fun vv w' => vv = .bool false ∧ Below w5.heap.size w5 w') rfl rfl rfl (exec_call (args := #[.agg (kd p r c gx gy).toArray, .slice (some ⟨γs5, 0, none⟩) 2 2]) rfl call60 rfl (mpn rfl)) (Calls.mono (allIn_is k.pr k.rb _ _ _ _ _ _ _ hg γs5 w5 (H5.out.1.one 0 rfl)) (fun e w2 hh => ⟨_, hh.1, rfl, hh.2⟩)) ?_
  rintro _ w6 ⟨rfl, hb⟩
  have H6 : Hid (_ ∧ _) := ⟨H5.out.1.below hb, H5.out.2.trans (hb.mono H5.out.2.size)⟩
  clear hb H5
  simp only [Act.put, sa, sz, ss]
  refine rest_set (d := 24) (v := .bool true) (w' := w6) rfl rfl rfl (by go_simp) ?_
  simp only [Act.put, sa, sz, ss]
  refine rest_nil (then_normal ?_)
  refine wp_cond_true rfl (wp_seq ?_)
  refine walk_seqB 1 [.quiet (.agg (l2 0 0).toArray)] H6 ?ho5 ?he5
  case ho5 => exact ak (fun γ => ⟨rfl, fun w' _ => ex_build49_ rfl⟩) trivial
  intro _ w7 H7
  clear H6
  refine rest_at (l := [1, 2]) rfl ?_
  refine rest_store rfl rfl rfl (ex_storeT (vs := l2 0 0) H7.out.1 4 rfl rfl rfl rfl Try.sizeOf49 rfl (Nat.le_of_ble_eq_true rfl)) ?_
  have H8 : Hid (Mm (w7.setCells γ1_2 0 (l2 0 0)) [(γs5, p2 X Y Z X' Y' Z'), (γ2_5, kd p r c gx gy), (γ1_0, pt X Y Z), (γ1_1, pt X' Y' Z'), (γ1_2, l2 0 0)] ∧ Below w.heap.size w (w7.setCells γ1_2 0 (l2 0 0))) := ⟨H7.out.1.put 4 (off := 0) (vs := l2 0 0) rfl (Nat.le_of_ble_eq_true rfl), below_setCells _ o1_2.out _ _ _ H7.out.2⟩
  clear H7
  generalize hgw : World.setCells _ _ _ _ = w8 at H8 ⊢
  clear hgw
  refine rest_set (d := 7) rfl rfl rfl rfl ?_
  simp only [Act.put, sa, sz, ss]
  refine rest_nil (then_normal (wp_ret ?_))
  repeat (first | refine then_ret ?_ | refine block_ret ?_)
  have hf0 := var_T H8.out.1 4 rfl Try.isAgg49 Try.sizeOf49 rfl
  refine bodyPost_ret (v := .tuple #[.agg (l2 0 0).toArray, .int .i64 5]) (by simp [results, Try.results27, asAddr, Act.eval, hf0]) rfl ?_
  exact ⟨rfl, H8.out.2⟩
set_option maxHeartbeats 1000000 in
set_option maxRecDepth 100000 in
theorem Pair_z (k : Kd s p r c gx gy) (X Y : Nat) (X' Y' : Nat) (Z' : Bool) (hg : (ig p r X Y true && ig p r X' Y' Z') = true) (w : World) :
    Calls Try.prog 27 #[.int .i64 s, .agg (pt X Y true).toArray, .agg (pt X' Y' Z').toArray] w fun e w' => e = .returned (.tuple #[V (l2 1 0), .int .i64 0]) ∧ Below w.heap.size w w' := by
  have H0 : Hid (_ ∧ _) := ⟨Mm.nil w, Below.refl w.heap.size w⟩
  go_enter Try.func27, Try.ntmps27
  refine wp_seq ?_
  refine walk_seqA 4 [.made (pt X Y true) 25, .made (pt X' Y' Z') 25, .made (l2 0 0) 49, .quiet (.int .i64 0)] (sB H0) ?ho1 ?he1
  case ho1 => exact ak (fun γ => ⟨rfl, fun w' => ex_boxT rfl rfl⟩) (ak (fun γ => ⟨rfl, fun w' => ex_boxT rfl rfl⟩) (ak (fun γ => ⟨rfl, fun w' => ex_made49 rfl⟩) (ak (fun _ => ⟨rfl, fun _ _ => rfl⟩) trivial)))
  intro γ w1 l hM hl
  have H1 : Hid (Mm w1 [(γ 0, pt X Y true), (γ 1, pt X' Y' Z'), (γ 2, l2 0 0)] ∧ _) := growB H0 hM (Nat.le_refl _) hl [0, 1, 2] rfl (by decide)
  have o1_0 := ownB H0 hM (Nat.le_refl _) hl (i := 0) rfl
  have o1_1 := ownB H0 hM (Nat.le_refl _) hl (i := 1) rfl
  have o1_2 := ownB H0 hM (Nat.le_refl _) hl (i := 2) rfl
  clear hM hl l
  generalize γ 0 = γ1_0 at H1 o1_0 ⊢
  generalize γ 1 = γ1_1 at H1 o1_1 ⊢
  generalize γ 2 = γ1_2 at H1 o1_2 ⊢
  clear γ
  refine rest0 rfl (then_normal (wp_seq ?_))
  refine walk_seqA 8 [.quiet (.int .i64 s), .call (.tuple #[.agg (kd p r c gx gy).toArray, .int .i64 0]), .quiet (.tuple #[.agg (kd p r c gx gy).toArray, .int .i64 0]), .quiet (.agg (kd p r c gx gy).toArray), .quiet (.int .i64 0), .made (kd 0 0 0 0 0) 72, .laid 5 (kd 0 0 0 0 0) (kd p r c gx gy), .quiet (.int .i64 0)] (sB H1) ?ho2 ?he2 (hL := ?hL2)
  case hL2 => exact ⟨⟨_, rfl⟩, trivial⟩
  case ho2 => exact ak (fun _ => ⟨rfl, fun _ _ => rfl⟩) (ak (fun γ => ⟨rfl, fun w' h => ⟨42, #[.int .i64 s], exec_call rfl call42 rfl (mpn rfl), k.kind w'⟩⟩) (ak (fun _ => ⟨rfl, fun _ _ => rfl⟩) (ak (by refine fun γ => ⟨rfl, fun w' h => ?_⟩; clear h; go_simp) (ak (by refine fun γ => ⟨rfl, fun w' h => ?_⟩; clear h; go_simp) (ak (fun γ => ⟨rfl, fun w' => ex_made72 rfl⟩) (ak (fun γ => ⟨rfl, rfl, rfl, fun w' h => ex_laidT h rfl rfl Try.sizeOf72 rfl rfl rfl⟩) (ak (fun _ => ⟨rfl, fun _ _ => rfl⟩) trivial)))))))
  intro γ w2 l hM hl
  have H2 : Hid (Mm w2 [(γ 5, kd p r c gx gy), (γ1_0, pt X Y true), (γ1_1, pt X' Y' Z'), (γ1_2, l2 0 0)] ∧ _) := growB H1 hM (Nat.le_refl _) hl [5] rfl (by decide)
  have o2_5 := ownB H1 hM (Nat.le_refl _) hl (i := 5) rfl
  clear hM hl l H1
  generalize γ 5 = γ2_5 at H2 o2_5 ⊢
  clear γ
  refine rest0 rfl (then_normal (wp_seq (wp_seq ?_)))
  refine walk_seqB 2 [.quiet (.int .i64 0), .quiet (.bool false)] H2 ?ho3 ?he3
  case ho3 => exact ak (fun _ => ⟨rfl, fun _ _ => rfl⟩) (ak (by refine fun γ => ⟨rfl, fun w' h => ?_⟩; clear h; go_simp) trivial)
  intro _ w3 H3
  clear H2
  refine rest0 rfl (then_normal (wp_cond_false rfl ?_))
  refine wp_skip (then_normal ?_)
  refine wp_seq (wp_seq ?_)
  refine walk_seqB 3 [.quiet (.agg (kd p r c gx gy).toArray), .quiet (.agg (pt X Y true).toArray), .quiet (.agg (pt X' Y' Z').toArray)] H3 ?ho4 ?he4
  case ho4 => exact ak (fun γ => ⟨rfl, fun w' h => ex_loadT h 0 rfl rfl rfl Try.isAgg72 Try.sizeOf72 rfl rfl⟩) (ak (fun γ => ⟨rfl, fun w' h => ex_loadT h 1 rfl rfl rfl Try.isAgg25 Try.sizeOf25 rfl rfl⟩) (ak (fun γ => ⟨rfl, fun w' h => ex_loadT h 2 rfl rfl rfl Try.isAgg25 Try.sizeOf25 rfl rfl⟩) trivial))
  intro _ w4 H4
  clear H3
  refine rest_at (l := [3, 4, 5]) rfl ?_
  refine rest_set (d := 22) (v := .slice (some ⟨w4.heap.size, 0, none⟩) 2 2) (w' := w4.alloc (.cells (p2 X Y true X' Y' Z' : List Value).toArray 25)) rfl rfl rfl (ex_bs2 rfl rfl rfl) ?_
  simp only [Act.put, sa, sz, ss]
  have o_γs5 : Hid (w.heap.size ≤ w4.heap.size) := H4.out.2.size
  have H5 : Hid (Mm (w4.alloc (.cells (p2 X Y true X' Y' Z' : List Value).toArray 25)) ((w4.heap.size, p2 X Y true X' Y' Z') :: [(γ2_5, kd p r c gx gy), (γ1_0, pt X Y true), (γ1_1, pt X' Y' Z'), (γ1_2, l2 0 0)]) ∧ Below w.heap.size w (w4.alloc (.cells (p2 X Y true X' Y' Z' : List Value).toArray 25))) := ⟨H4.out.1.alloc _ 25 rfl, H4.out.2.alloc H4.out.2.size _⟩
  clear H4
  generalize hgw : w4.alloc (.cells (p2 X Y true X' Y' Z' : List Value).toArray 25) = w5 at H5 ⊢
  clear hgw
  generalize w4.heap.size = γs5 at o_γs5 H5 ⊢
  refine rest_enter (d := 23) (R := fun vv w' => vv = .bool true ∧ Below w5.heap.size w5 w') rfl rfl rfl (exec_call (args := #[.agg (kd p r c gx gy).toArray, .slice (some ⟨γs5, 0, none⟩) 2 2]) rfl call60 rfl (mpn rfl)) (Calls.mono (allIn_is k.pr k.rb _ _ _ _ _ _ _ hg γs5 w5 (H5.out.1.one 0 rfl)) (fun e w2 hh => ⟨_, hh.1, rfl, hh.2⟩)) ?_
  rintro _ w6 ⟨rfl, hb⟩
  have H6 : Hid (_ ∧ _) := ⟨H5.out.1.below hb, H5.out.2.trans (hb.mono H5.out.2.size)⟩
  clear hb H5
  simp only [Act.put, sa, sz, ss]
  refine rest_set (d := 24) (v := .bool false) (w' := w6) rfl rfl rfl (by go_simp) ?_
  simp only [Act.put, sa, sz, ss]
  refine rest_nil (then_normal ?_)
  refine wp_cond_false rfl (wp_skip ?_)
  refine then_normal (wp_seq (wp_seq ?_))
  refine walk_seqB 6 [.quiet (PT γ1_0 2), .quiet (.bool true), .quiet (.bool true), .gone, .gone, .quiet (.bool true)] H6 ?ho5 ?he5
  case ho5 => exact ak (by refine fun γ => ⟨rfl, fun w' h => ?_⟩; clear h; go_simp) (ak (fun γ => ⟨rfl, fun w' h => ex_loadC h 2 rfl rfl rfl Try.isAgg4 rfl⟩) (ak (fun _ => ⟨rfl, fun _ _ => rfl⟩) (ak (fun γ => rfl) (ak (fun γ => rfl) (ak (by refine fun γ => ⟨rfl, fun w' h => ?_⟩; clear h; go_simp) trivial)))))
  intro _ w7 H7
  clear H6
  refine rest0 rfl (then_normal (wp_cond_true rfl (wp_seq ?_)))
  refine walk_seqB 1 [.quiet (.agg (l2 1 0).toArray)] H7 ?ho6 ?he6
  case ho6 => exact ak (fun γ => ⟨rfl, fun w' _ => ex_build49_0 rfl rfl⟩) trivial
  intro _ w8 H8
  clear H7
  refine rest_at (l := [1, 2]) rfl ?_
  refine rest_store rfl rfl rfl (ex_storeT (vs := l2 1 0) H8.out.1 4 rfl rfl rfl rfl Try.sizeOf49 rfl (Nat.le_of_ble_eq_true rfl)) ?_
  have H9 : Hid (Mm (w8.setCells γ1_2 0 (l2 1 0)) [(γs5, p2 X Y true X' Y' Z'), (γ2_5, kd p r c gx gy), (γ1_0, pt X Y true), (γ1_1, pt X' Y' Z'), (γ1_2, l2 1 0)] ∧ Below w.heap.size w (w8.setCells γ1_2 0 (l2 1 0))) := ⟨H8.out.1.put 4 (off := 0) (vs := l2 1 0) rfl (Nat.le_of_ble_eq_true rfl), below_setCells _ o1_2.out _ _ _ H8.out.2⟩
  clear H8
  generalize hgw : World.setCells _ _ _ _ = w9 at H9 ⊢
  clear hgw
  refine rest_set (d := 7) rfl rfl rfl rfl ?_
  simp only [Act.put, sa, sz, ss]
  refine rest_nil (then_normal (wp_ret ?_))
  repeat (first | refine then_ret ?_ | refine block_ret ?_)
  have hf0 := var_T H9.out.1 4 rfl Try.isAgg49 Try.sizeOf49 rfl
  refine bodyPost_ret (v := .tuple #[.agg (l2 1 0).toArray, .int .i64 0]) (by simp [results, Try.results27, asAddr, Act.eval, hf0]) rfl ?_
  exact ⟨rfl, H9.out.2⟩
set_option maxHeartbeats 1000000 in
set_option maxRecDepth 100000 in
theorem Pair_y (k : Kd s p r c gx gy) (X Y : Nat) (X' Y' : Nat) (hg : (ig p r X Y false && ig p r X' Y' true) = true) (w : World) :
    Calls Try.prog 27 #[.int .i64 s, .agg (pt X Y false).toArray, .agg (pt X' Y' true).toArray] w fun e w' => e = .returned (.tuple #[V (l2 1 0), .int .i64 0]) ∧ Below w.heap.size w w' := by
  have H0 : Hid (_ ∧ _) := ⟨Mm.nil w, Below.refl w.heap.size w⟩
  go_enter Try.func27, Try.ntmps27
  refine wp_seq ?_
  refine walk_seqA 4 [.made (pt X Y false) 25, .made (pt X' Y' true) 25, .made (l2 0 0) 49, .quiet (.int .i64 0)] (sB H0) ?ho1 ?he1
  case ho1 => exact ak (fun γ => ⟨rfl, fun w' => ex_boxT rfl rfl⟩) (ak (fun γ => ⟨rfl, fun w' => ex_boxT rfl rfl⟩) (ak (fun γ => ⟨rfl, fun w' => ex_made49 rfl⟩) (ak (fun _ => ⟨rfl, fun _ _ => rfl⟩) trivial)))
  intro γ w1 l hM hl
  have H1 : Hid (Mm w1 [(γ 0, pt X Y false), (γ 1, pt X' Y' true), (γ 2, l2 0 0)] ∧ _) := growB H0 hM (Nat.le_refl _) hl [0, 1, 2] rfl (by decide)
  have o1_0 := ownB H0 hM (Nat.le_refl _) hl (i := 0) rfl
  have o1_1 := ownB H0 hM (Nat.le_refl _) hl (i := 1) rfl
  have o1_2 := ownB H0 hM (Nat.le_refl _) hl (i := 2) rfl
  clear hM hl l
  generalize γ 0 = γ1_0 at H1 o1_0 ⊢
  generalize γ 1 = γ1_1 at H1 o1_1 ⊢
  generalize γ 2 = γ1_2 at H1 o1_2 ⊢
  clear γ
  refine rest0 rfl (then_normal (wp_seq ?_))
  refine walk_seqA 8 [.quiet (.int .i64 s), .call (.tuple #[.agg (kd p r c gx gy).toArray, .int .i64 0]), .quiet (.tuple #[.agg (kd p r c gx gy).toArray, .int .i64 0]), .quiet (.agg (kd p r c gx gy).toArray), .quiet (.int .i64 0), .made (kd 0 0 0 0 0) 72, .laid 5 (kd 0 0 0 0 0) (kd p r c gx gy), .quiet (.int .i64 0)] (sB H1) ?ho2 ?he2 (hL := ?hL2)
  case hL2 => exact ⟨⟨_, rfl⟩, trivial⟩
  case ho2 => exact ak (fun _ => ⟨rfl, fun _ _ => rfl⟩) (ak (fun γ => ⟨rfl, fun w' h => ⟨42, #[.int .i64 s], exec_call rfl call42 rfl (mpn rfl), k.kind w'⟩⟩) (ak (fun _ => ⟨rfl, fun _ _ => rfl⟩) (ak (by refine fun γ => ⟨rfl, fun w' h => ?_⟩; clear h; go_simp) (ak (by refine fun γ => ⟨rfl, fun w' h => ?_⟩; clear h; go_simp) (ak (fun γ => ⟨rfl, fun w' => ex_made72 rfl⟩) (ak (fun γ => ⟨rfl, rfl, rfl, fun w' h => ex_laidT h rfl rfl Try.sizeOf72 rfl rfl rfl⟩) (ak (fun _ => ⟨rfl, fun _ _ => rfl⟩) trivial)))))))
  intro γ w2 l hM hl
  have H2 : Hid (Mm w2 [(γ 5, kd p r c gx gy), (γ1_0, pt X Y false), (γ1_1, pt X' Y' true), (γ1_2, l2 0 0)] ∧ _) := growB H1 hM (Nat.le_refl _) hl [5] rfl (by decide)
  have o2_5 := ownB H1 hM (Nat.le_refl _) hl (i := 5) rfl
  clear hM hl l H1
  generalize γ 5 = γ2_5 at H2 o2_5 ⊢
  clear γ
  refine rest0 rfl (then_normal (wp_seq (wp_seq ?_)))
  refine walk_seqB 2 [.quiet (.int .i64 0), .quiet (.bool false)] H2 ?ho3 ?he3
  case ho3 => exact ak (fun _ => ⟨rfl, fun _ _ => rfl⟩) (ak (by refine fun γ => ⟨rfl, fun w' h => ?_⟩; clear h; go_simp) trivial)
  intro _ w3 H3
  clear H2
  refine rest0 rfl (then_normal (wp_cond_false rfl ?_))
  refine wp_skip (then_normal ?_)
  refine wp_seq (wp_seq ?_)
  refine walk_seqB 3 [.quiet (.agg (kd p r c gx gy).toArray), .quiet (.agg (pt X Y false).toArray), .quiet (.agg (pt X' Y' true).toArray)] H3 ?ho4 ?he4
  case ho4 => exact ak (fun γ => ⟨rfl, fun w' h => ex_loadT h 0 rfl rfl rfl Try.isAgg72 Try.sizeOf72 rfl rfl⟩) (ak (fun γ => ⟨rfl, fun w' h => ex_loadT h 1 rfl rfl rfl Try.isAgg25 Try.sizeOf25 rfl rfl⟩) (ak (fun γ => ⟨rfl, fun w' h => ex_loadT h 2 rfl rfl rfl Try.isAgg25 Try.sizeOf25 rfl rfl⟩) trivial))
  intro _ w4 H4
  clear H3
  refine rest_at (l := [3, 4, 5]) rfl ?_
  refine rest_set (d := 22) (v := .slice (some ⟨w4.heap.size, 0, none⟩) 2 2) (w' := w4.alloc (.cells (p2 X Y false X' Y' true : List Value).toArray 25)) rfl rfl rfl (ex_bs2 rfl rfl rfl) ?_
  simp only [Act.put, sa, sz, ss]
  have o_γs5 : Hid (w.heap.size ≤ w4.heap.size) := H4.out.2.size
  have H5 : Hid (Mm (w4.alloc (.cells (p2 X Y false X' Y' true : List Value).toArray 25)) ((w4.heap.size, p2 X Y false X' Y' true) :: [(γ2_5, kd p r c gx gy), (γ1_0, pt X Y false), (γ1_1, pt X' Y' true), (γ1_2, l2 0 0)]) ∧ Below w.heap.size w (w4.alloc (.cells (p2 X Y false X' Y' true : List Value).toArray 25))) := ⟨H4.out.1.alloc _ 25 rfl, H4.out.2.alloc H4.out.2.size _⟩
  clear H4
  generalize hgw : w4.alloc (.cells (p2 X Y false X' Y' true : List Value).toArray 25) = w5 at H5 ⊢
  clear hgw
  generalize w4.heap.size = γs5 at o_γs5 H5 ⊢
  refine rest_enter (d := 23) (R := fun vv w' => vv = .bool true ∧ Below w5.heap.size w5 w') rfl rfl rfl (exec_call (args := #[.agg (kd p r c gx gy).toArray, .slice (some ⟨γs5, 0, none⟩) 2 2]) rfl call60 rfl (mpn rfl)) (Calls.mono (allIn_is k.pr k.rb _ _ _ _ _ _ _ hg γs5 w5 (H5.out.1.one 0 rfl)) (fun e w2 hh => ⟨_, hh.1, rfl, hh.2⟩)) ?_
  rintro _ w6 ⟨rfl, hb⟩
  have H6 : Hid (_ ∧ _) := ⟨H5.out.1.below hb, H5.out.2.trans (hb.mono H5.out.2.size)⟩
  clear hb H5
  simp only [Act.put, sa, sz, ss]
  refine rest_set (d := 24) (v := .bool false) (w' := w6) rfl rfl rfl (by go_simp) ?_
  simp only [Act.put, sa, sz, ss]
  refine rest_nil (then_normal ?_)
  refine wp_cond_false rfl (wp_skip ?_)
  refine then_normal (wp_seq (wp_seq ?_))
  refine walk_seqB 6 [.quiet (PT γ1_0 2), .quiet (.bool false), .quiet (.bool false), .quiet (PT γ1_1 2), .quiet (.bool true), .quiet (.bool true)] H6 ?ho5 ?he5
  case ho5 => exact ak (by refine fun γ => ⟨rfl, fun w' h => ?_⟩; clear h; go_simp) (ak (fun γ => ⟨rfl, fun w' h => ex_loadC h 2 rfl rfl rfl Try.isAgg4 rfl⟩) (ak (fun _ => ⟨rfl, fun _ _ => rfl⟩) (ak (by refine fun γ => ⟨rfl, fun w' h => ?_⟩; clear h; go_simp) (ak (fun γ => ⟨rfl, fun w' h => ex_loadC h 3 rfl rfl rfl Try.isAgg4 rfl⟩) (ak (by refine fun γ => ⟨rfl, fun w' h => ?_⟩; clear h; go_simp) trivial)))))
  intro _ w7 H7
  clear H6
  refine rest0 rfl (then_normal (wp_cond_true rfl (wp_seq ?_)))
  refine walk_seqB 1 [.quiet (.agg (l2 1 0).toArray)] H7 ?ho6 ?he6
  case ho6 => exact ak (fun γ => ⟨rfl, fun w' _ => ex_build49_0 rfl rfl⟩) trivial
  intro _ w8 H8
  clear H7
  refine rest_at (l := [1, 2]) rfl ?_
  refine rest_store rfl rfl rfl (ex_storeT (vs := l2 1 0) H8.out.1 4 rfl rfl rfl rfl Try.sizeOf49 rfl (Nat.le_of_ble_eq_true rfl)) ?_
  have H9 : Hid (Mm (w8.setCells γ1_2 0 (l2 1 0)) [(γs5, p2 X Y false X' Y' true), (γ2_5, kd p r c gx gy), (γ1_0, pt X Y false), (γ1_1, pt X' Y' true), (γ1_2, l2 1 0)] ∧ Below w.heap.size w (w8.setCells γ1_2 0 (l2 1 0))) := ⟨H8.out.1.put 4 (off := 0) (vs := l2 1 0) rfl (Nat.le_of_ble_eq_true rfl), below_setCells _ o1_2.out _ _ _ H8.out.2⟩
  clear H8
  generalize hgw : World.setCells _ _ _ _ = w9 at H9 ⊢
  clear hgw
  refine rest_set (d := 7) rfl rfl rfl rfl ?_
  simp only [Act.put, sa, sz, ss]
  refine rest_nil (then_normal (wp_ret ?_))
  repeat (first | refine then_ret ?_ | refine block_ret ?_)
  have hf0 := var_T H9.out.1 4 rfl Try.isAgg49 Try.sizeOf49 rfl
  refine bodyPost_ret (v := .tuple #[.agg (l2 1 0).toArray, .int .i64 0]) (by simp [results, Try.results27, asAddr, Act.eval, hf0]) rfl ?_
  exact ⟨rfl, H9.out.2⟩
set_option maxHeartbeats 1000000 in
set_option maxRecDepth 100000 in
theorem Pair_g (k : Kd s p r c gx gy) (X Y : Nat) (X' Y' : Nat) (hg : (ig p r X Y false && ig p r X' Y' false) = true) (w : World) :
    Calls Try.prog 27 #[.int .i64 s, .agg (pt X Y false).toArray, .agg (pt X' Y' false).toArray] w fun e w' => e = .returned (.tuple #[V (lc (ls p c (wk p r X Y X' Y' false))), .int .i64 0]) ∧ Below w.heap.size w w' := by
  have H0 : Hid (_ ∧ _) := ⟨Mm.nil w, Below.refl w.heap.size w⟩
  go_enter Try.func27, Try.ntmps27
  refine wp_seq ?_
  refine walk_seqA 4 [.made (pt X Y false) 25, .made (pt X' Y' false) 25, .made (l2 0 0) 49, .quiet (.int .i64 0)] (sB H0) ?ho1 ?he1
  case ho1 => exact ak (fun γ => ⟨rfl, fun w' => ex_boxT rfl rfl⟩) (ak (fun γ => ⟨rfl, fun w' => ex_boxT rfl rfl⟩) (ak (fun γ => ⟨rfl, fun w' => ex_made49 rfl⟩) (ak (fun _ => ⟨rfl, fun _ _ => rfl⟩) trivial)))
  intro γ w1 l hM hl
  have H1 : Hid (Mm w1 [(γ 0, pt X Y false), (γ 1, pt X' Y' false), (γ 2, l2 0 0)] ∧ _) := growB H0 hM (Nat.le_refl _) hl [0, 1, 2] rfl (by decide)
  have o1_0 := ownB H0 hM (Nat.le_refl _) hl (i := 0) rfl
  have o1_1 := ownB H0 hM (Nat.le_refl _) hl (i := 1) rfl
  have o1_2 := ownB H0 hM (Nat.le_refl _) hl (i := 2) rfl
  clear hM hl l
  generalize γ 0 = γ1_0 at H1 o1_0 ⊢
  generalize γ 1 = γ1_1 at H1 o1_1 ⊢
  generalize γ 2 = γ1_2 at H1 o1_2 ⊢
  clear γ
  refine rest0 rfl (then_normal (wp_seq ?_))
  refine walk_seqA 8 [.quiet (.int .i64 s), .call (.tuple #[.agg (kd p r c gx gy).toArray, .int .i64 0]), .quiet (.tuple #[.agg (kd p r c gx gy).toArray, .int .i64 0]), .quiet (.agg (kd p r c gx gy).toArray), .quiet (.int .i64 0), .made (kd 0 0 0 0 0) 72, .laid 5 (kd 0 0 0 0 0) (kd p r c gx gy), .quiet (.int .i64 0)] (sB H1) ?ho2 ?he2 (hL := ?hL2)
  case hL2 => exact ⟨⟨_, rfl⟩, trivial⟩
  case ho2 => exact ak (fun _ => ⟨rfl, fun _ _ => rfl⟩) (ak (fun γ => ⟨rfl, fun w' h => ⟨42, #[.int .i64 s], exec_call rfl call42 rfl (mpn rfl), k.kind w'⟩⟩) (ak (fun _ => ⟨rfl, fun _ _ => rfl⟩) (ak (by refine fun γ => ⟨rfl, fun w' h => ?_⟩; clear h; go_simp) (ak (by refine fun γ => ⟨rfl, fun w' h => ?_⟩; clear h; go_simp) (ak (fun γ => ⟨rfl, fun w' => ex_made72 rfl⟩) (ak (fun γ => ⟨rfl, rfl, rfl, fun w' h => ex_laidT h rfl rfl Try.sizeOf72 rfl rfl rfl⟩) (ak (fun _ => ⟨rfl, fun _ _ => rfl⟩) trivial)))))))
  intro γ w2 l hM hl
  have H2 : Hid (Mm w2 [(γ 5, kd p r c gx gy), (γ1_0, pt X Y false), (γ1_1, pt X' Y' false), (γ1_2, l2 0 0)] ∧ _) := growB H1 hM (Nat.le_refl _) hl [5] rfl (by decide)
  have o2_5 := ownB H1 hM (Nat.le_refl _) hl (i := 5) rfl
  clear hM hl l H1
  generalize γ 5 = γ2_5 at H2 o2_5 ⊢
  clear γ
  refine rest0 rfl (then_normal (wp_seq (wp_seq ?_)))
  refine walk_seqB 2 [.quiet (.int .i64 0), .quiet (.bool false)] H2 ?ho3 ?he3
  case ho3 => exact ak (fun _ => ⟨rfl, fun _ _ => rfl⟩) (ak (by refine fun γ => ⟨rfl, fun w' h => ?_⟩; clear h; go_simp) trivial)
  intro _ w3 H3
  clear H2
  refine rest0 rfl (then_normal (wp_cond_false rfl ?_))
  refine wp_skip (then_normal ?_)
  refine wp_seq (wp_seq ?_)
  refine walk_seqB 3 [.quiet (.agg (kd p r c gx gy).toArray), .quiet (.agg (pt X Y false).toArray), .quiet (.agg (pt X' Y' false).toArray)] H3 ?ho4 ?he4
  case ho4 => exact ak (fun γ => ⟨rfl, fun w' h => ex_loadT h 0 rfl rfl rfl Try.isAgg72 Try.sizeOf72 rfl rfl⟩) (ak (fun γ => ⟨rfl, fun w' h => ex_loadT h 1 rfl rfl rfl Try.isAgg25 Try.sizeOf25 rfl rfl⟩) (ak (fun γ => ⟨rfl, fun w' h => ex_loadT h 2 rfl rfl rfl Try.isAgg25 Try.sizeOf25 rfl rfl⟩) trivial))
  intro _ w4 H4
  clear H3
  refine rest_at (l := [3, 4, 5]) rfl ?_
  refine rest_set (d := 22) (v := .slice (some ⟨w4.heap.size, 0, none⟩) 2 2) (w' := w4.alloc (.cells (p2 X Y false X' Y' false : List Value).toArray 25)) rfl rfl rfl (ex_bs2 rfl rfl rfl) ?_
  simp only [Act.put, sa, sz, ss]
  have o_γs5 : Hid (w.heap.size ≤ w4.heap.size) := H4.out.2.size
  have H5 : Hid (Mm (w4.alloc (.cells (p2 X Y false X' Y' false : List Value).toArray 25)) ((w4.heap.size, p2 X Y false X' Y' false) :: [(γ2_5, kd p r c gx gy), (γ1_0, pt X Y false), (γ1_1, pt X' Y' false), (γ1_2, l2 0 0)]) ∧ Below w.heap.size w (w4.alloc (.cells (p2 X Y false X' Y' false : List Value).toArray 25))) := ⟨H4.out.1.alloc _ 25 rfl, H4.out.2.alloc H4.out.2.size _⟩
  clear H4
  generalize hgw : w4.alloc (.cells (p2 X Y false X' Y' false : List Value).toArray 25) = w5 at H5 ⊢
  clear hgw
  generalize w4.heap.size = γs5 at o_γs5 H5 ⊢
  refine rest_enter (d := 23) (R := fun vv w' => vv = .bool true ∧ Below w5.heap.size w5 w') rfl rfl rfl (exec_call (args := #[.agg (kd p r c gx gy).toArray, .slice (some ⟨γs5, 0, none⟩) 2 2]) rfl call60 rfl (mpn rfl)) (Calls.mono (allIn_is k.pr k.rb _ _ _ _ _ _ _ hg γs5 w5 (H5.out.1.one 0 rfl)) (fun e w2 hh => ⟨_, hh.1, rfl, hh.2⟩)) ?_
  rintro _ w6 ⟨rfl, hb⟩
  have H6 : Hid (_ ∧ _) := ⟨H5.out.1.below hb, H5.out.2.trans (hb.mono H5.out.2.size)⟩
  clear hb H5
  simp only [Act.put, sa, sz, ss]
  refine rest_set (d := 24) (v := .bool false) (w' := w6) rfl rfl rfl (by go_simp) ?_
  simp only [Act.put, sa, sz, ss]
  refine rest_nil (then_normal ?_)
  refine wp_cond_false rfl (wp_skip ?_)
  refine then_normal (wp_seq (wp_seq ?_))
  refine walk_seqB 6 [.quiet (PT γ1_0 2), .quiet (.bool false), .quiet (.bool false), .quiet (PT γ1_1 2), .quiet (.bool false), .quiet (.bool false)] H6 ?ho5 ?he5
  case ho5 => exact ak (by refine fun γ => ⟨rfl, fun w' h => ?_⟩; clear h; go_simp) (ak (fun γ => ⟨rfl, fun w' h => ex_loadC h 2 rfl rfl rfl Try.isAgg4 rfl⟩) (ak (fun _ => ⟨rfl, fun _ _ => rfl⟩) (ak (by refine fun γ => ⟨rfl, fun w' h => ?_⟩; clear h; go_simp) (ak (fun γ => ⟨rfl, fun w' h => ex_loadC h 3 rfl rfl rfl Try.isAgg4 rfl⟩) (ak (by refine fun γ => ⟨rfl, fun w' h => ?_⟩; clear h; go_simp) trivial)))))
  intro _ w7 H7
  clear H6
  refine rest0 rfl (then_normal (wp_cond_false rfl ?_))
  refine wp_skip (then_normal (wp_seq ?_))
  refine walk_anyB 6 [.quiet (.agg (kd p r c gx gy).toArray), .quiet (.agg (kd p r c gx gy).toArray), .quiet (.agg (pt X Y false).toArray), .quiet (.agg (pt X' Y' false).toArray), .call (.agg (l2 ((wk p r X Y X' Y' false).1) ((wk p r X Y X' Y' false).2)).toArray), .call (.agg (l2 ((ls p c (wk p r X Y X' Y' false)).1) ((ls p c (wk p r X Y X' Y' false)).2)).toArray)] H7 ?ho6 ?he6
  case ho6 => exact ak (fun γ => ⟨rfl, fun w' h => ex_loadT h 1 rfl rfl rfl Try.isAgg72 Try.sizeOf72 rfl rfl⟩) (ak (fun γ => ⟨rfl, fun w' h => ex_loadT h 1 rfl rfl rfl Try.isAgg72 Try.sizeOf72 rfl rfl⟩) (ak (fun γ => ⟨rfl, fun w' h => ex_loadT h 2 rfl rfl rfl Try.isAgg25 Try.sizeOf25 rfl rfl⟩) (ak (fun γ => ⟨rfl, fun w' h => ex_loadT h 3 rfl rfl rfl Try.isAgg25 Try.sizeOf25 rfl rfl⟩) (ak (fun γ => ⟨rfl, fun w' h => ⟨62, #[.agg (kd p r c gx gy).toArray, .agg (pt X Y false).toArray, .agg (pt X' Y' false).toArray], exec_call rfl call62 rfl (mpn rfl), walked_any k.pr k.rb X Y false (ig_lt k.pr (Bool.and_eq_true_iff.1 hg).1).1 (ig_lt k.pr (Bool.and_eq_true_iff.1 hg).1).2 X' Y' false (ig_lt k.pr (Bool.and_eq_true_iff.1 hg).2).1 (ig_lt k.pr (Bool.and_eq_true_iff.1 hg).2).2 w'⟩⟩) (ak (fun γ => ⟨rfl, fun w' h => ⟨61, #[.agg (kd p r c gx gy).toArray, .agg (l2 ((wk p r X Y X' Y' false).1) ((wk p r X Y X' Y' false).2)).toArray], exec_call rfl call61 rfl (mpn rfl), last_any k.pr (wk p r X Y X' Y' false) (ws_lt k.pr (ig_lt k.pr (Bool.and_eq_true_iff.1 hg).1).1 (ig_lt k.pr (Bool.and_eq_true_iff.1 hg).1).2 _).f k.cb w'⟩⟩) trivial)))))
  intro _ w8 H8
  clear H7
  refine rest_at (l := [6, 7]) rfl ?_
  refine rest_store rfl rfl rfl (ex_storeT (vs := l2 ((ls p c (wk p r X Y X' Y' false)).1) ((ls p c (wk p r X Y X' Y' false)).2)) H8.out.1 4 rfl rfl rfl rfl Try.sizeOf49 rfl (Nat.le_of_ble_eq_true rfl)) ?_
  have H9 : Hid (Mm (w8.setCells γ1_2 0 (l2 ((ls p c (wk p r X Y X' Y' false)).1) ((ls p c (wk p r X Y X' Y' false)).2))) [(γs5, p2 X Y false X' Y' false), (γ2_5, kd p r c gx gy), (γ1_0, pt X Y false), (γ1_1, pt X' Y' false), (γ1_2, l2 ((ls p c (wk p r X Y X' Y' false)).1) ((ls p c (wk p r X Y X' Y' false)).2))] ∧ Below w.heap.size w (w8.setCells γ1_2 0 (l2 ((ls p c (wk p r X Y X' Y' false)).1) ((ls p c (wk p r X Y X' Y' false)).2)))) := ⟨H8.out.1.put 4 (off := 0) (vs := l2 ((ls p c (wk p r X Y X' Y' false)).1) ((ls p c (wk p r X Y X' Y' false)).2)) rfl (Nat.le_of_ble_eq_true rfl), below_setCells _ o1_2.out _ _ _ H8.out.2⟩
  clear H8
  generalize hgw : World.setCells _ _ _ _ = w9 at H9 ⊢
  clear hgw
  refine rest_set (d := 7) rfl rfl rfl rfl ?_
  simp only [Act.put, sa, sz, ss]
  refine rest_nil (then_normal (wp_ret ?_))
  repeat (first | refine then_ret ?_ | refine block_ret ?_)
  have hf0 := var_T H9.out.1 4 rfl Try.isAgg49 Try.sizeOf49 rfl
  refine bodyPost_ret (v := .tuple #[.agg (l2 ((ls p c (wk p r X Y X' Y' false)).1) ((ls p c (wk p r X Y X' Y' false)).2)).toArray, .int .i64 0]) (by simp [results, Try.results27, asAddr, Act.eval, hf0]) rfl ?_
  exact ⟨rfl, H9.out.2⟩
theorem Pair_ok (k : Kd s p r c gx gy) (X Y : Nat) (Z : Bool) (X' Y' : Nat) (Z' : Bool) (hg : (ig p r X Y Z && ig p r X' Y' Z') = true) (w : World) : Calls Try.prog 27 #[.int .i64 s, .agg (pt X Y Z).toArray, .agg (pt X' Y' Z').toArray] w fun e w' => e = .returned (.tuple #[V (lc (pr p r c X Y X' Y' Z Z')), .int .i64 0]) ∧ Below w.heap.size w w' := by
  unfold pr
  cases Z
  · cases Z'
    · rw [if_neg (by simp)]; exact Pair_g k X Y X' Y' hg w
    · rw [if_pos (Or.inr rfl)]; exact Pair_y k X Y X' Y' hg w
  · rw [if_pos (Or.inl rfl)]; exact Pair_z k X Y X' Y' Z' hg w
set_option maxHeartbeats 1000000 in
set_option maxRecDepth 100000 in
theorem Pair_no (s : Int) (h1 : s ≠ 1) (h2 : s ≠ 2) (X Y : Nat) (Z : Bool) (X' Y' : Nat) (Z' : Bool) (w : World) :
    Calls Try.prog 27 #[.int .i64 s, .agg (pt X Y Z).toArray, .agg (pt X' Y' Z').toArray] w fun e w' => e = .returned (.tuple #[V (l2 0 0), .int .i64 2]) ∧ Below w.heap.size w w' := by
  have H0 : Hid (_ ∧ _) := ⟨Mm.nil w, Below.refl w.heap.size w⟩
  go_enter Try.func27, Try.ntmps27
  refine wp_seq ?_
  refine walk_seqA 4 [.made (pt X Y Z) 25, .made (pt X' Y' Z') 25, .made (l2 0 0) 49, .quiet (.int .i64 0)] (sB H0) ?ho1 ?he1
  case ho1 => exact ak (fun γ => ⟨rfl, fun w' => ex_boxT rfl rfl⟩) (ak (fun γ => ⟨rfl, fun w' => ex_boxT rfl rfl⟩) (ak (fun γ => ⟨rfl, fun w' => ex_made49 rfl⟩) (ak (fun _ => ⟨rfl, fun _ _ => rfl⟩) trivial)))
  intro γ w1 l hM hl
  have H1 : Hid (Mm w1 [(γ 0, pt X Y Z), (γ 1, pt X' Y' Z'), (γ 2, l2 0 0)] ∧ _) := growB H0 hM (Nat.le_refl _) hl [0, 1, 2] rfl (by decide)
  have o1_0 := ownB H0 hM (Nat.le_refl _) hl (i := 0) rfl
  have o1_1 := ownB H0 hM (Nat.le_refl _) hl (i := 1) rfl
  have o1_2 := ownB H0 hM (Nat.le_refl _) hl (i := 2) rfl
  clear hM hl l
  generalize γ 0 = γ1_0 at H1 o1_0 ⊢
  generalize γ 1 = γ1_1 at H1 o1_1 ⊢
  generalize γ 2 = γ1_2 at H1 o1_2 ⊢
  clear γ
  refine rest0 rfl (then_normal (wp_seq ?_))
  refine walk_seqA 8 [.quiet (.int .i64 s), .call (.tuple #[.agg (kd 0 0 0 0 0).toArray, .int .i64 2]), .quiet (.tuple #[.agg (kd 0 0 0 0 0).toArray, .int .i64 2]), .quiet (.agg (kd 0 0 0 0 0).toArray), .quiet (.int .i64 2), .made (kd 0 0 0 0 0) 72, .laid 5 (kd 0 0 0 0 0) (kd 0 0 0 0 0), .quiet (.int .i64 2)] (sB H1) ?ho2 ?he2 (hL := ?hL2)
  case hL2 => exact ⟨⟨_, rfl⟩, trivial⟩
  case ho2 => exact ak (fun _ => ⟨rfl, fun _ _ => rfl⟩) (ak (fun γ => ⟨rfl, fun w' h => ⟨42, #[.int .i64 s], exec_call rfl call42 rfl (mpn rfl), kindOf_no s h1 h2 w'⟩⟩) (ak (fun _ => ⟨rfl, fun _ _ => rfl⟩) (ak (by refine fun γ => ⟨rfl, fun w' h => ?_⟩; clear h; go_simp) (ak (by refine fun γ => ⟨rfl, fun w' h => ?_⟩; clear h; go_simp) (ak (fun γ => ⟨rfl, fun w' => ex_made72 rfl⟩) (ak (fun γ => ⟨rfl, rfl, rfl, fun w' h => ex_laidT h rfl rfl Try.sizeOf72 rfl rfl rfl⟩) (ak (fun _ => ⟨rfl, fun _ _ => rfl⟩) trivial)))))))
  intro γ w2 l hM hl
  have H2 : Hid (Mm w2 [(γ 5, kd 0 0 0 0 0), (γ1_0, pt X Y Z), (γ1_1, pt X' Y' Z'), (γ1_2, l2 0 0)] ∧ _) := growB H1 hM (Nat.le_refl _) hl [5] rfl (by decide)
  have o2_5 := ownB H1 hM (Nat.le_refl _) hl (i := 5) rfl
  clear hM hl l H1
  generalize γ 5 = γ2_5 at H2 o2_5 ⊢
  clear γ
  refine rest0 rfl (then_normal (wp_seq (wp_seq ?_)))
  refine walk_seqB 2 [.quiet (.int .i64 2), .quiet (.bool true)] H2 ?ho3 ?he3
  case ho3 => exact ak (fun _ => ⟨rfl, fun _ _ => rfl⟩) (ak (by refine fun γ => ⟨rfl, fun w' h => ?_⟩; clear h; go_simp) trivial)
  intro _ w3 H3
  clear H2
  refine rest0 rfl (then_normal (wp_cond_true rfl (wp_seq ?_)))
  refine walk_seqB 2 [.quiet (.agg (l2 0 0).toArray), .quiet (.int .i64 2)] H3 ?ho4 ?he4
  case ho4 => exact ak (fun γ => ⟨rfl, fun w' _ => ex_build49_ rfl⟩) (ak (fun _ => ⟨rfl, fun _ _ => rfl⟩) trivial)
  intro _ w4 H4
  clear H3
  refine rest_at (l := [2, 3]) rfl ?_
  refine rest_store rfl rfl rfl (ex_storeT (vs := l2 0 0) H4.out.1 3 rfl rfl rfl rfl Try.sizeOf49 rfl (Nat.le_of_ble_eq_true rfl)) ?_
  have H5 : Hid (Mm (w4.setCells γ1_2 0 (l2 0 0)) [(γ2_5, kd 0 0 0 0 0), (γ1_0, pt X Y Z), (γ1_1, pt X' Y' Z'), (γ1_2, l2 0 0)] ∧ Below w.heap.size w (w4.setCells γ1_2 0 (l2 0 0))) := ⟨H4.out.1.put 3 (off := 0) (vs := l2 0 0) rfl (Nat.le_of_ble_eq_true rfl), below_setCells _ o1_2.out _ _ _ H4.out.2⟩
  clear H4
  generalize hgw : World.setCells _ _ _ _ = w5 at H5 ⊢
  clear hgw
  refine rest_set (d := 7) rfl rfl rfl rfl ?_
  simp only [Act.put, sa, sz, ss]
  refine rest_nil (then_normal (wp_ret ?_))
  repeat (first | refine then_ret ?_ | refine block_ret ?_)
  have hf0 := var_T H5.out.1 3 rfl Try.isAgg49 Try.sizeOf49 rfl
  refine bodyPost_ret (v := .tuple #[.agg (l2 0 0).toArray, .int .i64 2]) (by simp [results, Try.results27, asAddr, Act.eval, hf0]) rfl ?_
  exact ⟨rfl, H5.out.2⟩
set_option maxHeartbeats 1000000 in
set_option maxRecDepth 100000 in
theorem Times_ok (k : Kd s p r c gx gy) (a b : E2) (w : World) :
    Calls Try.prog 28 #[.int .i64 s, .agg (l2 a.1 a.2).toArray, .agg (l2 b.1 b.2).toArray] w fun e w' => e = .returned (.tuple #[V (lc (pd p (a.1 % p, a.2 % p) (b.1 % p, b.2 % p))), .int .i64 0]) ∧ Below w.heap.size w w' := by
  have H0 : Hid (_ ∧ _) := ⟨Mm.nil w, Below.refl w.heap.size w⟩
  go_enter Try.func28, Try.ntmps28
  refine wp_seq ?_
  refine walk_seqA 4 [.made (l2 a.1 a.2) 49, .made (l2 b.1 b.2) 49, .made (l2 0 0) 49, .quiet (.int .i64 0)] (sB H0) ?ho1 ?he1
  case ho1 => exact ak (fun γ => ⟨rfl, fun w' => ex_boxT rfl rfl⟩) (ak (fun γ => ⟨rfl, fun w' => ex_boxT rfl rfl⟩) (ak (fun γ => ⟨rfl, fun w' => ex_made49 rfl⟩) (ak (fun _ => ⟨rfl, fun _ _ => rfl⟩) trivial)))
  intro γ w1 l hM hl
  have H1 : Hid (Mm w1 [(γ 0, l2 a.1 a.2), (γ 1, l2 b.1 b.2), (γ 2, l2 0 0)] ∧ _) := growB H0 hM (Nat.le_refl _) hl [0, 1, 2] rfl (by decide)
  have o1_0 := ownB H0 hM (Nat.le_refl _) hl (i := 0) rfl
  have o1_1 := ownB H0 hM (Nat.le_refl _) hl (i := 1) rfl
  have o1_2 := ownB H0 hM (Nat.le_refl _) hl (i := 2) rfl
  clear hM hl l
  generalize γ 0 = γ1_0 at H1 o1_0 ⊢
  generalize γ 1 = γ1_1 at H1 o1_1 ⊢
  generalize γ 2 = γ1_2 at H1 o1_2 ⊢
  clear γ
  refine rest0 rfl (then_normal (wp_seq ?_))
  refine walk_seqA 8 [.quiet (.int .i64 s), .call (.tuple #[.agg (kd p r c gx gy).toArray, .int .i64 0]), .quiet (.tuple #[.agg (kd p r c gx gy).toArray, .int .i64 0]), .quiet (.agg (kd p r c gx gy).toArray), .quiet (.int .i64 0), .made (kd 0 0 0 0 0) 72, .laid 5 (kd 0 0 0 0 0) (kd p r c gx gy), .quiet (.int .i64 0)] (sB H1) ?ho2 ?he2 (hL := ?hL2)
  case hL2 => exact ⟨⟨_, rfl⟩, trivial⟩
  case ho2 => exact ak (fun _ => ⟨rfl, fun _ _ => rfl⟩) (ak (fun γ => ⟨rfl, fun w' h => ⟨42, #[.int .i64 s], exec_call rfl call42 rfl (mpn rfl), k.kind w'⟩⟩) (ak (fun _ => ⟨rfl, fun _ _ => rfl⟩) (ak (by refine fun γ => ⟨rfl, fun w' h => ?_⟩; clear h; go_simp) (ak (by refine fun γ => ⟨rfl, fun w' h => ?_⟩; clear h; go_simp) (ak (fun γ => ⟨rfl, fun w' => ex_made72 rfl⟩) (ak (fun γ => ⟨rfl, rfl, rfl, fun w' h => ex_laidT h rfl rfl Try.sizeOf72 rfl rfl rfl⟩) (ak (fun _ => ⟨rfl, fun _ _ => rfl⟩) trivial)))))))
  intro γ w2 l hM hl
  have H2 : Hid (Mm w2 [(γ 5, kd p r c gx gy), (γ1_0, l2 a.1 a.2), (γ1_1, l2 b.1 b.2), (γ1_2, l2 0 0)] ∧ _) := growB H1 hM (Nat.le_refl _) hl [5] rfl (by decide)
  have o2_5 := ownB H1 hM (Nat.le_refl _) hl (i := 5) rfl
  clear hM hl l H1
  generalize γ 5 = γ2_5 at H2 o2_5 ⊢
  clear γ
  refine rest0 rfl (then_normal (wp_seq (wp_seq ?_)))
  refine walk_seqB 2 [.quiet (.int .i64 0), .quiet (.bool false)] H2 ?ho3 ?he3
  case ho3 => exact ak (fun _ => ⟨rfl, fun _ _ => rfl⟩) (ak (by refine fun γ => ⟨rfl, fun w' h => ?_⟩; clear h; go_simp) trivial)
  intro _ w3 H3
  clear H2
  refine rest0 rfl (then_normal (wp_cond_false rfl ?_))
  refine wp_skip (then_normal (wp_seq ?_))
  refine walk_anyB 8 [.quiet (.agg (kd p r c gx gy).toArray), .quiet (.agg (kd p r c gx gy).toArray), .quiet (.agg (l2 a.1 a.2).toArray), .call (.agg (l2 (a.1 % p) (a.2 % p)).toArray), .quiet (.agg (kd p r c gx gy).toArray), .quiet (.agg (l2 b.1 b.2).toArray), .call (.agg (l2 (b.1 % p) (b.2 % p)).toArray), .call (.agg (l2 ((pd p (a.1 % p, a.2 % p) (b.1 % p, b.2 % p)).1) ((pd p (a.1 % p, a.2 % p) (b.1 % p, b.2 % p)).2)).toArray)] H3 ?ho4 ?he4
  case ho4 => exact ak (fun γ => ⟨rfl, fun w' h => ex_loadT h 0 rfl rfl rfl Try.isAgg72 Try.sizeOf72 rfl rfl⟩) (ak (fun γ => ⟨rfl, fun w' h => ex_loadT h 0 rfl rfl rfl Try.isAgg72 Try.sizeOf72 rfl rfl⟩) (ak (fun γ => ⟨rfl, fun w' h => ex_loadT h 1 rfl rfl rfl Try.isAgg49 Try.sizeOf49 rfl rfl⟩) (ak (fun γ => ⟨rfl, fun w' h => ⟨64, #[.agg (kd p r c gx gy).toArray, .agg (l2 a.1 a.2).toArray], exec_call rfl call64 rfl (mpn rfl), left_any k.pr a w'⟩⟩) (ak (fun γ => ⟨rfl, fun w' h => ex_loadT h 0 rfl rfl rfl Try.isAgg72 Try.sizeOf72 rfl rfl⟩) (ak (fun γ => ⟨rfl, fun w' h => ex_loadT h 2 rfl rfl rfl Try.isAgg49 Try.sizeOf49 rfl rfl⟩) (ak (fun γ => ⟨rfl, fun w' h => ⟨64, #[.agg (kd p r c gx gy).toArray, .agg (l2 b.1 b.2).toArray], exec_call rfl call64 rfl (mpn rfl), left_any k.pr b w'⟩⟩) (ak (fun γ => ⟨rfl, fun w' h => ⟨63, #[.agg (kd p r c gx gy).toArray, .agg (l2 (a.1 % p) (a.2 % p)).toArray, .agg (l2 (b.1 % p) (b.2 % p)).toArray], exec_call rfl call63 rfl (mpn rfl), product_any k.pr (a.1 % p, a.2 % p) (b.1 % p, b.2 % p) ⟨(Nat.mod_lt _ (zero_lt k.pr)), (Nat.mod_lt _ (zero_lt k.pr))⟩ ⟨(Nat.mod_lt _ (zero_lt k.pr)), (Nat.mod_lt _ (zero_lt k.pr))⟩ w'⟩⟩) trivial)))))))
  intro _ w4 H4
  clear H3
  refine rest_at (l := [8, 9]) rfl ?_
  refine rest_store rfl rfl rfl (ex_storeT (vs := l2 ((pd p (a.1 % p, a.2 % p) (b.1 % p, b.2 % p)).1) ((pd p (a.1 % p, a.2 % p) (b.1 % p, b.2 % p)).2)) H4.out.1 3 rfl rfl rfl rfl Try.sizeOf49 rfl (Nat.le_of_ble_eq_true rfl)) ?_
  have H5 : Hid (Mm (w4.setCells γ1_2 0 (l2 ((pd p (a.1 % p, a.2 % p) (b.1 % p, b.2 % p)).1) ((pd p (a.1 % p, a.2 % p) (b.1 % p, b.2 % p)).2))) [(γ2_5, kd p r c gx gy), (γ1_0, l2 a.1 a.2), (γ1_1, l2 b.1 b.2), (γ1_2, l2 ((pd p (a.1 % p, a.2 % p) (b.1 % p, b.2 % p)).1) ((pd p (a.1 % p, a.2 % p) (b.1 % p, b.2 % p)).2))] ∧ Below w.heap.size w (w4.setCells γ1_2 0 (l2 ((pd p (a.1 % p, a.2 % p) (b.1 % p, b.2 % p)).1) ((pd p (a.1 % p, a.2 % p) (b.1 % p, b.2 % p)).2)))) := ⟨H4.out.1.put 3 (off := 0) (vs := l2 ((pd p (a.1 % p, a.2 % p) (b.1 % p, b.2 % p)).1) ((pd p (a.1 % p, a.2 % p) (b.1 % p, b.2 % p)).2)) rfl (Nat.le_of_ble_eq_true rfl), below_setCells _ o1_2.out _ _ _ H4.out.2⟩
  clear H4
  generalize hgw : World.setCells _ _ _ _ = w5 at H5 ⊢
  clear hgw
  refine rest_set (d := 7) rfl rfl rfl rfl ?_
  simp only [Act.put, sa, sz, ss]
  refine rest_nil (then_normal (wp_ret ?_))
  repeat (first | refine then_ret ?_ | refine block_ret ?_)
  have hf0 := var_T H5.out.1 3 rfl Try.isAgg49 Try.sizeOf49 rfl
  refine bodyPost_ret (v := .tuple #[.agg (l2 ((pd p (a.1 % p, a.2 % p) (b.1 % p, b.2 % p)).1) ((pd p (a.1 % p, a.2 % p) (b.1 % p, b.2 % p)).2)).toArray, .int .i64 0]) (by simp [results, Try.results28, asAddr, Act.eval, hf0]) rfl ?_
  exact ⟨rfl, H5.out.2⟩
set_option maxHeartbeats 1000000 in
set_option maxRecDepth 100000 in
theorem Times_no (s : Int) (h1 : s ≠ 1) (h2 : s ≠ 2) (a b : E2) (w : World) :
    Calls Try.prog 28 #[.int .i64 s, .agg (l2 a.1 a.2).toArray, .agg (l2 b.1 b.2).toArray] w fun e w' => e = .returned (.tuple #[V (l2 0 0), .int .i64 2]) ∧ Below w.heap.size w w' := by
  have H0 : Hid (_ ∧ _) := ⟨Mm.nil w, Below.refl w.heap.size w⟩
  go_enter Try.func28, Try.ntmps28
  refine wp_seq ?_
  refine walk_seqA 4 [.made (l2 a.1 a.2) 49, .made (l2 b.1 b.2) 49, .made (l2 0 0) 49, .quiet (.int .i64 0)] (sB H0) ?ho1 ?he1
  case ho1 => exact ak (fun γ => ⟨rfl, fun w' => ex_boxT rfl rfl⟩) (ak (fun γ => ⟨rfl, fun w' => ex_boxT rfl rfl⟩) (ak (fun γ => ⟨rfl, fun w' => ex_made49 rfl⟩) (ak (fun _ => ⟨rfl, fun _ _ => rfl⟩) trivial)))
  intro γ w1 l hM hl
  have H1 : Hid (Mm w1 [(γ 0, l2 a.1 a.2), (γ 1, l2 b.1 b.2), (γ 2, l2 0 0)] ∧ _) := growB H0 hM (Nat.le_refl _) hl [0, 1, 2] rfl (by decide)
  have o1_0 := ownB H0 hM (Nat.le_refl _) hl (i := 0) rfl
  have o1_1 := ownB H0 hM (Nat.le_refl _) hl (i := 1) rfl
  have o1_2 := ownB H0 hM (Nat.le_refl _) hl (i := 2) rfl
  clear hM hl l
  generalize γ 0 = γ1_0 at H1 o1_0 ⊢
  generalize γ 1 = γ1_1 at H1 o1_1 ⊢
  generalize γ 2 = γ1_2 at H1 o1_2 ⊢
  clear γ
  refine rest0 rfl (then_normal (wp_seq ?_))
  refine walk_seqA 8 [.quiet (.int .i64 s), .call (.tuple #[.agg (kd 0 0 0 0 0).toArray, .int .i64 2]), .quiet (.tuple #[.agg (kd 0 0 0 0 0).toArray, .int .i64 2]), .quiet (.agg (kd 0 0 0 0 0).toArray), .quiet (.int .i64 2), .made (kd 0 0 0 0 0) 72, .laid 5 (kd 0 0 0 0 0) (kd 0 0 0 0 0), .quiet (.int .i64 2)] (sB H1) ?ho2 ?he2 (hL := ?hL2)
  case hL2 => exact ⟨⟨_, rfl⟩, trivial⟩
  case ho2 => exact ak (fun _ => ⟨rfl, fun _ _ => rfl⟩) (ak (fun γ => ⟨rfl, fun w' h => ⟨42, #[.int .i64 s], exec_call rfl call42 rfl (mpn rfl), kindOf_no s h1 h2 w'⟩⟩) (ak (fun _ => ⟨rfl, fun _ _ => rfl⟩) (ak (by refine fun γ => ⟨rfl, fun w' h => ?_⟩; clear h; go_simp) (ak (by refine fun γ => ⟨rfl, fun w' h => ?_⟩; clear h; go_simp) (ak (fun γ => ⟨rfl, fun w' => ex_made72 rfl⟩) (ak (fun γ => ⟨rfl, rfl, rfl, fun w' h => ex_laidT h rfl rfl Try.sizeOf72 rfl rfl rfl⟩) (ak (fun _ => ⟨rfl, fun _ _ => rfl⟩) trivial)))))))
  intro γ w2 l hM hl
  have H2 : Hid (Mm w2 [(γ 5, kd 0 0 0 0 0), (γ1_0, l2 a.1 a.2), (γ1_1, l2 b.1 b.2), (γ1_2, l2 0 0)] ∧ _) := growB H1 hM (Nat.le_refl _) hl [5] rfl (by decide)
  have o2_5 := ownB H1 hM (Nat.le_refl _) hl (i := 5) rfl
  clear hM hl l H1
  generalize γ 5 = γ2_5 at H2 o2_5 ⊢
  clear γ
  refine rest0 rfl (then_normal (wp_seq (wp_seq ?_)))
  refine walk_seqB 2 [.quiet (.int .i64 2), .quiet (.bool true)] H2 ?ho3 ?he3
  case ho3 => exact ak (fun _ => ⟨rfl, fun _ _ => rfl⟩) (ak (by refine fun γ => ⟨rfl, fun w' h => ?_⟩; clear h; go_simp) trivial)
  intro _ w3 H3
  clear H2
  refine rest0 rfl (then_normal (wp_cond_true rfl (wp_seq ?_)))
  refine walk_seqB 2 [.quiet (.agg (l2 0 0).toArray), .quiet (.int .i64 2)] H3 ?ho4 ?he4
  case ho4 => exact ak (fun γ => ⟨rfl, fun w' _ => ex_build49_ rfl⟩) (ak (fun _ => ⟨rfl, fun _ _ => rfl⟩) trivial)
  intro _ w4 H4
  clear H3
  refine rest_at (l := [2, 3]) rfl ?_
  refine rest_store rfl rfl rfl (ex_storeT (vs := l2 0 0) H4.out.1 3 rfl rfl rfl rfl Try.sizeOf49 rfl (Nat.le_of_ble_eq_true rfl)) ?_
  have H5 : Hid (Mm (w4.setCells γ1_2 0 (l2 0 0)) [(γ2_5, kd 0 0 0 0 0), (γ1_0, l2 a.1 a.2), (γ1_1, l2 b.1 b.2), (γ1_2, l2 0 0)] ∧ Below w.heap.size w (w4.setCells γ1_2 0 (l2 0 0))) := ⟨H4.out.1.put 3 (off := 0) (vs := l2 0 0) rfl (Nat.le_of_ble_eq_true rfl), below_setCells _ o1_2.out _ _ _ H4.out.2⟩
  clear H4
  generalize hgw : World.setCells _ _ _ _ = w5 at H5 ⊢
  clear hgw
  refine rest_set (d := 7) rfl rfl rfl rfl ?_
  simp only [Act.put, sa, sz, ss]
  refine rest_nil (then_normal (wp_ret ?_))
  repeat (first | refine then_ret ?_ | refine block_ret ?_)
  have hf0 := var_T H5.out.1 3 rfl Try.isAgg49 Try.sizeOf49 rfl
  refine bodyPost_ret (v := .tuple #[.agg (l2 0 0).toArray, .int .i64 2]) (by simp [results, Try.results28, asAddr, Act.eval, hf0]) rfl ?_
  exact ⟨rfl, H5.out.2⟩
set_option maxHeartbeats 1000000 in
set_option maxRecDepth 100000 in
theorem Power_ok (k : Kd s p r c gx gy) (a : E2) (n : Nat) (hn : n < 18446744073709551616) (w : World) :
    Calls Try.prog 29 #[.int .i64 s, .agg (l2 a.1 a.2).toArray, U n] w fun e w' => e = .returned (.tuple #[V (lc (rs p (1, 0) (a.1 % p, a.2 % p) n)), .int .i64 0]) ∧ Below w.heap.size w w' := by
  have H0 : Hid (_ ∧ _) := ⟨Mm.nil w, Below.refl w.heap.size w⟩
  go_enter Try.func29, Try.ntmps29
  refine wp_seq ?_
  refine walk_seqA 3 [.made (l2 a.1 a.2) 49, .made (l2 0 0) 49, .quiet (.int .i64 0)] (sB H0) ?ho1 ?he1
  case ho1 => exact ak (fun γ => ⟨rfl, fun w' => ex_boxT rfl rfl⟩) (ak (fun γ => ⟨rfl, fun w' => ex_made49 rfl⟩) (ak (fun _ => ⟨rfl, fun _ _ => rfl⟩) trivial))
  intro γ w1 l hM hl
  have H1 : Hid (Mm w1 [(γ 0, l2 a.1 a.2), (γ 1, l2 0 0)] ∧ _) := growB H0 hM (Nat.le_refl _) hl [0, 1] rfl (by decide)
  have o1_0 := ownB H0 hM (Nat.le_refl _) hl (i := 0) rfl
  have o1_1 := ownB H0 hM (Nat.le_refl _) hl (i := 1) rfl
  clear hM hl l
  generalize γ 0 = γ1_0 at H1 o1_0 ⊢
  generalize γ 1 = γ1_1 at H1 o1_1 ⊢
  clear γ
  refine rest0 rfl (then_normal (wp_seq ?_))
  refine walk_seqA 8 [.quiet (.int .i64 s), .call (.tuple #[.agg (kd p r c gx gy).toArray, .int .i64 0]), .quiet (.tuple #[.agg (kd p r c gx gy).toArray, .int .i64 0]), .quiet (.agg (kd p r c gx gy).toArray), .quiet (.int .i64 0), .made (kd 0 0 0 0 0) 72, .laid 5 (kd 0 0 0 0 0) (kd p r c gx gy), .quiet (.int .i64 0)] (sB H1) ?ho2 ?he2 (hL := ?hL2)
  case hL2 => exact ⟨⟨_, rfl⟩, trivial⟩
  case ho2 => exact ak (fun _ => ⟨rfl, fun _ _ => rfl⟩) (ak (fun γ => ⟨rfl, fun w' h => ⟨42, #[.int .i64 s], exec_call rfl call42 rfl (mpn rfl), k.kind w'⟩⟩) (ak (fun _ => ⟨rfl, fun _ _ => rfl⟩) (ak (by refine fun γ => ⟨rfl, fun w' h => ?_⟩; clear h; go_simp) (ak (by refine fun γ => ⟨rfl, fun w' h => ?_⟩; clear h; go_simp) (ak (fun γ => ⟨rfl, fun w' => ex_made72 rfl⟩) (ak (fun γ => ⟨rfl, rfl, rfl, fun w' h => ex_laidT h rfl rfl Try.sizeOf72 rfl rfl rfl⟩) (ak (fun _ => ⟨rfl, fun _ _ => rfl⟩) trivial)))))))
  intro γ w2 l hM hl
  have H2 : Hid (Mm w2 [(γ 5, kd p r c gx gy), (γ1_0, l2 a.1 a.2), (γ1_1, l2 0 0)] ∧ _) := growB H1 hM (Nat.le_refl _) hl [5] rfl (by decide)
  have o2_5 := ownB H1 hM (Nat.le_refl _) hl (i := 5) rfl
  clear hM hl l H1
  generalize γ 5 = γ2_5 at H2 o2_5 ⊢
  clear γ
  refine rest0 rfl (then_normal (wp_seq (wp_seq ?_)))
  refine walk_seqB 2 [.quiet (.int .i64 0), .quiet (.bool false)] H2 ?ho3 ?he3
  case ho3 => exact ak (fun _ => ⟨rfl, fun _ _ => rfl⟩) (ak (by refine fun γ => ⟨rfl, fun w' h => ?_⟩; clear h; go_simp) trivial)
  intro _ w3 H3
  clear H2
  refine rest0 rfl (then_normal (wp_cond_false rfl ?_))
  refine wp_skip (then_normal (wp_seq ?_))
  refine walk_anyB 6 [.quiet (.agg (kd p r c gx gy).toArray), .quiet (.agg (kd p r c gx gy).toArray), .quiet (.agg (l2 a.1 a.2).toArray), .call (.agg (l2 (a.1 % p) (a.2 % p)).toArray), .quiet (U n), .call (.agg (l2 ((rs p (1, 0) (a.1 % p, a.2 % p) n).1) ((rs p (1, 0) (a.1 % p, a.2 % p) n).2)).toArray)] H3 ?ho4 ?he4
  case ho4 => exact ak (fun γ => ⟨rfl, fun w' h => ex_loadT h 0 rfl rfl rfl Try.isAgg72 Try.sizeOf72 rfl rfl⟩) (ak (fun γ => ⟨rfl, fun w' h => ex_loadT h 0 rfl rfl rfl Try.isAgg72 Try.sizeOf72 rfl rfl⟩) (ak (fun γ => ⟨rfl, fun w' h => ex_loadT h 1 rfl rfl rfl Try.isAgg49 Try.sizeOf49 rfl rfl⟩) (ak (fun γ => ⟨rfl, fun w' h => ⟨64, #[.agg (kd p r c gx gy).toArray, .agg (l2 a.1 a.2).toArray], exec_call rfl call64 rfl (mpn rfl), left_any k.pr a w'⟩⟩) (ak (fun _ => ⟨rfl, fun _ _ => rfl⟩) (ak (fun γ => ⟨rfl, fun w' h => ⟨65, #[.agg (kd p r c gx gy).toArray, .agg (l2 (a.1 % p) (a.2 % p)).toArray, U n], exec_call rfl call65 rfl (mpn rfl), raised_any k.pr (a.1 % p, a.2 % p) ⟨(Nat.mod_lt _ (zero_lt k.pr)), (Nat.mod_lt _ (zero_lt k.pr))⟩ n hn w'⟩⟩) trivial)))))
  intro _ w4 H4
  clear H3
  refine rest_at (l := [6, 7]) rfl ?_
  refine rest_store rfl rfl rfl (ex_storeT (vs := l2 ((rs p (1, 0) (a.1 % p, a.2 % p) n).1) ((rs p (1, 0) (a.1 % p, a.2 % p) n).2)) H4.out.1 2 rfl rfl rfl rfl Try.sizeOf49 rfl (Nat.le_of_ble_eq_true rfl)) ?_
  have H5 : Hid (Mm (w4.setCells γ1_1 0 (l2 ((rs p (1, 0) (a.1 % p, a.2 % p) n).1) ((rs p (1, 0) (a.1 % p, a.2 % p) n).2))) [(γ2_5, kd p r c gx gy), (γ1_0, l2 a.1 a.2), (γ1_1, l2 ((rs p (1, 0) (a.1 % p, a.2 % p) n).1) ((rs p (1, 0) (a.1 % p, a.2 % p) n).2))] ∧ Below w.heap.size w (w4.setCells γ1_1 0 (l2 ((rs p (1, 0) (a.1 % p, a.2 % p) n).1) ((rs p (1, 0) (a.1 % p, a.2 % p) n).2)))) := ⟨H4.out.1.put 2 (off := 0) (vs := l2 ((rs p (1, 0) (a.1 % p, a.2 % p) n).1) ((rs p (1, 0) (a.1 % p, a.2 % p) n).2)) rfl (Nat.le_of_ble_eq_true rfl), below_setCells _ o1_1.out _ _ _ H4.out.2⟩
  clear H4
  generalize hgw : World.setCells _ _ _ _ = w5 at H5 ⊢
  clear hgw
  refine rest_set (d := 7) rfl rfl rfl rfl ?_
  simp only [Act.put, sa, sz, ss]
  refine rest_nil (then_normal (wp_ret ?_))
  repeat (first | refine then_ret ?_ | refine block_ret ?_)
  have hf0 := var_T H5.out.1 2 rfl Try.isAgg49 Try.sizeOf49 rfl
  refine bodyPost_ret (v := .tuple #[.agg (l2 ((rs p (1, 0) (a.1 % p, a.2 % p) n).1) ((rs p (1, 0) (a.1 % p, a.2 % p) n).2)).toArray, .int .i64 0]) (by simp [results, Try.results29, asAddr, Act.eval, hf0]) rfl ?_
  exact ⟨rfl, H5.out.2⟩
set_option maxHeartbeats 1000000 in
set_option maxRecDepth 100000 in
theorem Power_no (s : Int) (h1 : s ≠ 1) (h2 : s ≠ 2) (a : E2) (n : Nat) (w : World) :
    Calls Try.prog 29 #[.int .i64 s, .agg (l2 a.1 a.2).toArray, U n] w fun e w' => e = .returned (.tuple #[V (l2 0 0), .int .i64 2]) ∧ Below w.heap.size w w' := by
  have H0 : Hid (_ ∧ _) := ⟨Mm.nil w, Below.refl w.heap.size w⟩
  go_enter Try.func29, Try.ntmps29
  refine wp_seq ?_
  refine walk_seqA 3 [.made (l2 a.1 a.2) 49, .made (l2 0 0) 49, .quiet (.int .i64 0)] (sB H0) ?ho1 ?he1
  case ho1 => exact ak (fun γ => ⟨rfl, fun w' => ex_boxT rfl rfl⟩) (ak (fun γ => ⟨rfl, fun w' => ex_made49 rfl⟩) (ak (fun _ => ⟨rfl, fun _ _ => rfl⟩) trivial))
  intro γ w1 l hM hl
  have H1 : Hid (Mm w1 [(γ 0, l2 a.1 a.2), (γ 1, l2 0 0)] ∧ _) := growB H0 hM (Nat.le_refl _) hl [0, 1] rfl (by decide)
  have o1_0 := ownB H0 hM (Nat.le_refl _) hl (i := 0) rfl
  have o1_1 := ownB H0 hM (Nat.le_refl _) hl (i := 1) rfl
  clear hM hl l
  generalize γ 0 = γ1_0 at H1 o1_0 ⊢
  generalize γ 1 = γ1_1 at H1 o1_1 ⊢
  clear γ
  refine rest0 rfl (then_normal (wp_seq ?_))
  refine walk_seqA 8 [.quiet (.int .i64 s), .call (.tuple #[.agg (kd 0 0 0 0 0).toArray, .int .i64 2]), .quiet (.tuple #[.agg (kd 0 0 0 0 0).toArray, .int .i64 2]), .quiet (.agg (kd 0 0 0 0 0).toArray), .quiet (.int .i64 2), .made (kd 0 0 0 0 0) 72, .laid 5 (kd 0 0 0 0 0) (kd 0 0 0 0 0), .quiet (.int .i64 2)] (sB H1) ?ho2 ?he2 (hL := ?hL2)
  case hL2 => exact ⟨⟨_, rfl⟩, trivial⟩
  case ho2 => exact ak (fun _ => ⟨rfl, fun _ _ => rfl⟩) (ak (fun γ => ⟨rfl, fun w' h => ⟨42, #[.int .i64 s], exec_call rfl call42 rfl (mpn rfl), kindOf_no s h1 h2 w'⟩⟩) (ak (fun _ => ⟨rfl, fun _ _ => rfl⟩) (ak (by refine fun γ => ⟨rfl, fun w' h => ?_⟩; clear h; go_simp) (ak (by refine fun γ => ⟨rfl, fun w' h => ?_⟩; clear h; go_simp) (ak (fun γ => ⟨rfl, fun w' => ex_made72 rfl⟩) (ak (fun γ => ⟨rfl, rfl, rfl, fun w' h => ex_laidT h rfl rfl Try.sizeOf72 rfl rfl rfl⟩) (ak (fun _ => ⟨rfl, fun _ _ => rfl⟩) trivial)))))))
  intro γ w2 l hM hl
  have H2 : Hid (Mm w2 [(γ 5, kd 0 0 0 0 0), (γ1_0, l2 a.1 a.2), (γ1_1, l2 0 0)] ∧ _) := growB H1 hM (Nat.le_refl _) hl [5] rfl (by decide)
  have o2_5 := ownB H1 hM (Nat.le_refl _) hl (i := 5) rfl
  clear hM hl l H1
  generalize γ 5 = γ2_5 at H2 o2_5 ⊢
  clear γ
  refine rest0 rfl (then_normal (wp_seq (wp_seq ?_)))
  refine walk_seqB 2 [.quiet (.int .i64 2), .quiet (.bool true)] H2 ?ho3 ?he3
  case ho3 => exact ak (fun _ => ⟨rfl, fun _ _ => rfl⟩) (ak (by refine fun γ => ⟨rfl, fun w' h => ?_⟩; clear h; go_simp) trivial)
  intro _ w3 H3
  clear H2
  refine rest0 rfl (then_normal (wp_cond_true rfl (wp_seq ?_)))
  refine walk_seqB 2 [.quiet (.agg (l2 0 0).toArray), .quiet (.int .i64 2)] H3 ?ho4 ?he4
  case ho4 => exact ak (fun γ => ⟨rfl, fun w' _ => ex_build49_ rfl⟩) (ak (fun _ => ⟨rfl, fun _ _ => rfl⟩) trivial)
  intro _ w4 H4
  clear H3
  refine rest_at (l := [2, 3]) rfl ?_
  refine rest_store rfl rfl rfl (ex_storeT (vs := l2 0 0) H4.out.1 2 rfl rfl rfl rfl Try.sizeOf49 rfl (Nat.le_of_ble_eq_true rfl)) ?_
  have H5 : Hid (Mm (w4.setCells γ1_1 0 (l2 0 0)) [(γ2_5, kd 0 0 0 0 0), (γ1_0, l2 a.1 a.2), (γ1_1, l2 0 0)] ∧ Below w.heap.size w (w4.setCells γ1_1 0 (l2 0 0))) := ⟨H4.out.1.put 2 (off := 0) (vs := l2 0 0) rfl (Nat.le_of_ble_eq_true rfl), below_setCells _ o1_1.out _ _ _ H4.out.2⟩
  clear H4
  generalize hgw : World.setCells _ _ _ _ = w5 at H5 ⊢
  clear hgw
  refine rest_set (d := 7) rfl rfl rfl rfl ?_
  simp only [Act.put, sa, sz, ss]
  refine rest_nil (then_normal (wp_ret ?_))
  repeat (first | refine then_ret ?_ | refine block_ret ?_)
  have hf0 := var_T H5.out.1 2 rfl Try.isAgg49 Try.sizeOf49 rfl
  refine bodyPost_ret (v := .tuple #[.agg (l2 0 0).toArray, .int .i64 2]) (by simp [results, Try.results29, asAddr, Act.eval, hf0]) rfl ?_
  exact ⟨rfl, H5.out.2⟩
end
/-! What the examples say. -/
set_option maxRecDepth 100000 in
theorem run_eqL' (D a b a' b' : Nat) (p0 p1 : Bool) (hi0 : ∀ w, (Op.equalIn D 23 (U a) (U a')).run Try.prog w = .ok p0 w) (hi1 : ∀ w, (Op.equalIn D 23 (U b) (U b')).run Try.prog w = .ok p1 w) (w : World) : (Op.equalIn (D + 1) 49 (V (l2 a b)) (V (l2 a' b'))).run Try.prog w = .ok (p0 && p1) w := by
  have h49 : Try.prog.underlying 49 = some (.array 2 23) := by kernel_rfl
  have hsz : ∀ w, (sizeOf 23).run Try.prog w = .ok 1 w := fun w => by kernel_rfl
  have hp : ∀ (a b : Nat) (w : World), (Go.part 23 (l2 a b).toArray 0).run Try.prog w = .ok (U a) w ∧ (Go.part 23 (l2 a b).toArray 1).run Try.prog w = .ok (U b) w := fun a b w => ⟨by kernel_rfl, by kernel_rfl⟩
  have q1 := hp a b
  have q2 := hp a' b'
  clear hp
  unfold V
  generalize (l2 a b).toArray = xs at *
  generalize (l2 a' b').toArray = ys at *
  simp only [Op.equalIn, Sem.run_bind, run_underlying h49, Result.andThen_ok, hsz]
  simp [Std.Legacy.Range.forIn_eq_forIn_range', List.range', List.forIn_cons, hi0, hi1, q1, q2]
  cases p0 <;> cases p1 <;> simp
theorem run_eqL (a b a' b' : Nat) (w : World) : (Op.equalIn 10000 49 (V (l2 a b)) (V (l2 a' b'))).run Try.prog w = .ok (decide (a = a') && decide (b = b')) w :=
  run_eqL' 9999 a b a' b' _ _ (fun w => run_eqU 9998 a a' w) (fun w => run_eqU 9998 b b' w) w
theorem exec_eqT49 {ρ : Operand → Value} {o : Oper} {x y : Operand} {v v' : Array Value} {t : Bool} {w : World} (he : ∀ w, (Op.equalIn 10000 49 (.agg v) (.agg v')).run Try.prog w = .ok t w) (ho : o.op = .binOp .eql 49 x y 49) (hx : ρ x = .agg v) (hy : ρ y = .agg v') :
    (execOp ρ o).run Try.prog w = .ok (.value (.bool t)) w := by
  simp only [execOp, ho, hx, hy]
  clear hx hy
  go_simp
open NT in
theorem pw_pm (p a n : Nat) (hn : n < 2 ^ 64) : pw p a n = pm p 64 a n 1 % p := by
  unfold pw
  rw [pm_spec p 64 a n 1 hn, Nat.one_mul]
open NT in
theorem ls_pm (p c : Nat) (f : E2) (hp : p < 2 ^ 64) : ls p c f = rs p (1, 0) (pd p (pd p (f.1, mi p 0 f.2) (f.1, mi p 0 f.2)) (pm p 64 (t2 p f.1 f.1 f.2 f.2) (p - 2) 1 % p, 0)) c := by
  unfold ls
  rw [pw_pm p _ (p - 2) (by omega)]
theorem ig_g1 : ig 786251 65521 9723 164643 false = true := by decide +kernel
theorem pr_g1 : pr 786251 65521 12 9723 164643 9723 164643 false false = (414096, 460347) := by
  have : pr 786251 65521 12 9723 164643 9723 164643 false false = ls 786251 12 (wk 786251 65521 9723 164643 9723 164643 false) := rfl
  rw [this, ls_pm _ _ _ (by decide)]
  decide +kernel
theorem Pair_g1 (w : World) : Calls Try.prog 27 #[.int .i64 1, .agg (pt 9723 164643 false).toArray, .agg (pt 9723 164643 false).toArray] w fun e w' => e = .returned (.tuple #[V (l2 414096 460347), .int .i64 0]) ∧ Below w.heap.size w w' := by
  have h := Pair_ok kd_1 9723 164643 false 9723 164643 false (by rw [ig_g1]; rfl) w
  rw [pr_g1] at h
  exact h
set_option maxHeartbeats 1000000 in
set_option maxRecDepth 100000 in
theorem awake_any  (w : World) :
    Calls Try.prog 41 #[] w fun e w' => e = .returned (.bool true) ∧ Below w.heap.size w w' := by
  have H0 : Hid (_ ∧ _) := ⟨Mm.nil w, Below.refl w.heap.size w⟩
  go_enter Try.func41, Try.ntmps41
  refine wp_seq ?_
  refine walk_seqB 1 [.quiet (.bool false)] H0 ?ho1 ?he1
  case ho1 => exact ak (fun _ => ⟨rfl, fun _ _ => rfl⟩) trivial
  intro _ w1 H1
  refine rest0 rfl (then_normal (wp_seq ?_))
  refine walk_seqA 7 [.call (.tuple #[.agg (pt 9723 164643 false).toArray, .int .i64 0]), .quiet (.tuple #[.agg (pt 9723 164643 false).toArray, .int .i64 0]), .quiet (.agg (pt 9723 164643 false).toArray), .quiet (.int .i64 0), .made (pt 0 0 false) 25, .laid 4 (pt 0 0 false) (pt 9723 164643 false), .quiet (.int .i64 0)] (sB H1) ?ho2 ?he2 (hL := ?hL2)
  case hL2 => exact ⟨⟨_, rfl⟩, trivial⟩
  case ho2 => exact ak (fun γ => ⟨rfl, fun w' h => ⟨13, #[.int .i64 1], exec_call rfl call13 rfl (mpn rfl), Gen_ok kd_1 w'⟩⟩) (ak (fun _ => ⟨rfl, fun _ _ => rfl⟩) (ak (by refine fun γ => ⟨rfl, fun w' h => ?_⟩; clear h; go_simp) (ak (by refine fun γ => ⟨rfl, fun w' h => ?_⟩; clear h; go_simp) (ak (fun γ => ⟨rfl, fun w' => ex_made25 rfl⟩) (ak (fun γ => ⟨rfl, rfl, rfl, fun w' h => ex_laidT h rfl rfl Try.sizeOf25 rfl rfl rfl⟩) (ak (fun _ => ⟨rfl, fun _ _ => rfl⟩) trivial))))))
  intro γ w2 l hM hl
  have H2 : Hid (Mm w2 [(γ 4, pt 9723 164643 false)] ∧ _) := growB H1 hM (Nat.le_refl _) hl [4] rfl (by decide)
  have o2_4 := ownB H1 hM (Nat.le_refl _) hl (i := 4) rfl
  clear hM hl l H1
  generalize γ 4 = γ2_4 at H2 o2_4 ⊢
  clear γ
  refine rest0 rfl (then_normal (wp_seq ?_))
  refine walk_seqA 9 [.quiet (.agg (pt 9723 164643 false).toArray), .quiet (.agg (pt 9723 164643 false).toArray), .call (.tuple #[.agg (l2 414096 460347).toArray, .int .i64 0]), .quiet (.tuple #[.agg (l2 414096 460347).toArray, .int .i64 0]), .quiet (.agg (l2 414096 460347).toArray), .quiet (.int .i64 0), .made (l2 0 0) 49, .laid 6 (l2 0 0) (l2 414096 460347), .quiet (.int .i64 0)] (sB H2) ?ho3 ?he3 (hL := ?hL3)
  case hL3 => exact ⟨⟨_, rfl⟩, trivial⟩
  case ho3 => exact ak (fun γ => ⟨rfl, fun w' h => ex_loadT h 0 rfl rfl rfl Try.isAgg25 Try.sizeOf25 rfl rfl⟩) (ak (fun γ => ⟨rfl, fun w' h => ex_loadT h 0 rfl rfl rfl Try.isAgg25 Try.sizeOf25 rfl rfl⟩) (ak (fun γ => ⟨rfl, fun w' h => ⟨27, #[.int .i64 1, .agg (pt 9723 164643 false).toArray, .agg (pt 9723 164643 false).toArray], exec_call rfl call27 rfl (mpn rfl), Pair_g1 w'⟩⟩) (ak (fun _ => ⟨rfl, fun _ _ => rfl⟩) (ak (by refine fun γ => ⟨rfl, fun w' h => ?_⟩; clear h; go_simp) (ak (by refine fun γ => ⟨rfl, fun w' h => ?_⟩; clear h; go_simp) (ak (fun γ => ⟨rfl, fun w' => ex_made49 rfl⟩) (ak (fun γ => ⟨rfl, rfl, rfl, fun w' h => ex_laidT h rfl rfl Try.sizeOf49 rfl rfl rfl⟩) (ak (fun _ => ⟨rfl, fun _ _ => rfl⟩) trivial))))))))
  intro γ w3 l hM hl
  have H3 : Hid (Mm w3 [(γ 6, l2 414096 460347), (γ2_4, pt 9723 164643 false)] ∧ _) := growB H2 hM (Nat.le_refl _) hl [6] rfl (by decide)
  have o3_6 := ownB H2 hM (Nat.le_refl _) hl (i := 6) rfl
  clear hM hl l H2
  generalize γ 6 = γ3_6 at H3 o3_6 ⊢
  clear γ
  refine rest0 rfl (then_normal (wp_seq ?_))
  refine walk_seqB 17 [.quiet (.agg (pt 9723 164643 false).toArray), .quiet (.agg (pt 9723 164643 false).toArray), .quiet (.bool true), .quiet (.bool true), .quiet (.int .i64 0), .quiet (.bool true), .quiet (.bool true), .quiet (.bool true), .quiet (.agg (l2 414096 460347).toArray), .quiet (.agg (l2 414096 460347).toArray), .quiet (.bool true), .quiet (.bool true), .quiet (.bool true), .quiet (.int .i64 0), .quiet (.bool true), .quiet (.bool true), .quiet (.bool true)] H3 ?ho4 ?he4
  case ho4 => exact ak (fun γ => ⟨rfl, fun w' h => ex_loadT h 1 rfl rfl rfl Try.isAgg25 Try.sizeOf25 rfl rfl⟩) (ak (fun γ => ⟨rfl, fun w' _ => ex_build25_01 rfl rfl rfl⟩) (ak (fun γ => ⟨rfl, fun w' _ => exec_eqT25 (fun w => eq_self _ _ _ w) rfl rfl rfl⟩) (ak (fun _ => ⟨rfl, fun _ _ => rfl⟩) (ak (fun _ => ⟨rfl, fun _ _ => rfl⟩) (ak (by refine fun γ => ⟨rfl, fun w' h => ?_⟩; clear h; go_simp) (ak (by refine fun γ => ⟨rfl, fun w' h => ?_⟩; clear h; go_simp) (ak (fun _ => ⟨rfl, fun _ _ => rfl⟩) (ak (fun γ => ⟨rfl, fun w' h => ex_loadT h 0 rfl rfl rfl Try.isAgg49 Try.sizeOf49 rfl rfl⟩) (ak (fun γ => ⟨rfl, fun w' _ => ex_build49_01 rfl rfl rfl⟩) (ak (fun γ => ⟨rfl, fun w' _ => exec_eqT49 (fun w => run_eqL 414096 460347 414096 460347 w) rfl rfl rfl⟩) (ak (by refine fun γ => ⟨rfl, fun w' h => ?_⟩; clear h; go_simp) (ak (fun _ => ⟨rfl, fun _ _ => rfl⟩) (ak (fun _ => ⟨rfl, fun _ _ => rfl⟩) (ak (by refine fun γ => ⟨rfl, fun w' h => ?_⟩; clear h; go_simp) (ak (by refine fun γ => ⟨rfl, fun w' h => ?_⟩; clear h; go_simp) (ak (fun _ => ⟨rfl, fun _ _ => rfl⟩) trivial))))))))))))))))
  intro _ w4 H4
  clear H3
  refine rest0 rfl (then_normal (wp_ret ?_))
  repeat (first | refine then_ret ?_ | refine block_ret ?_)
  refine bodyPost_ret (v := .bool true) (by simp [results, Try.results41, go_sem, *]) rfl ?_
  exact ⟨rfl, H4.out.2⟩
end Rg
end Go.Proofs.Ytjmbgchoioepjaa
