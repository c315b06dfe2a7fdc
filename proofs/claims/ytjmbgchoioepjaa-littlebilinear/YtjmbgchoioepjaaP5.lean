/- Texts of the proof, joined. -/
import Derived.Test.YtjmbgchoioepjaaP4
section
namespace Go.Proofs.Ytjmbgchoioepjaa
open Go.RowKit
namespace Rg
section
variable {p r c gx gy : Nat}
theorem ig_in (hp : Pr p) (hr : r < 18446744073709551616) (X Y : Nat) (Z t : Bool) (h : ig p r X Y Z = t) (w : World) : Calls Try.prog 51 #[.agg (kd p r c gx gy).toArray, .agg (pt X Y Z).toArray] w fun e w' => e = .returned (.bool t) ∧ Below w.heap.size w w' := by
  rw [← h]
  exact inGroup_any hp hr X Y Z w
set_option maxHeartbeats 4000000 in
set_option maxRecDepth 100000 in
theorem all_same (hp : Pr p) (hr : r < 18446744073709551616) (X Y : Nat) (Z : Bool) (h1 : ig p r X Y Z = true) (g : Nat) (w : World) (hm : Mm w [(g, p2 X Y Z X Y Z)]) :
    Calls Try.prog 60 #[.agg (kd p r c gx gy).toArray, .slice (some ⟨g, 0, none⟩) 2 2] w fun e w' => e = .returned (.bool true) ∧ Below w.heap.size w w' := by
  have H0 : Hid (_ ∧ _) := ⟨hm, Below.refl w.heap.size w⟩
  clear hm
  go_enter Try.func60, Try.ntmps60
  refine wp_seq ?_
  refine walk_seqA 2 [.made (kd p r c gx gy) 72, .quiet (.bool false)] (sB H0) ?ho1 ?he1
  case ho1 => exact ak (fun γ => ⟨rfl, fun w' => ex_boxT rfl rfl⟩) (ak (fun _ => ⟨rfl, fun _ _ => rfl⟩) trivial)
  intro γ w1 l hM hl
  have H1 : Hid (Mm w1 [(γ 0, kd p r c gx gy), (g, p2 X Y Z X Y Z)] ∧ _) := growB H0 hM (Nat.le_refl _) hl [0] rfl (by decide)
  have o1_0 := ownB H0 hM (Nat.le_refl _) hl (i := 0) rfl
  clear hM hl l
  generalize γ 0 = γ1_0 at H1 o1_0 ⊢
  clear γ
  refine rest0 rfl (then_normal (wp_seq ?_))
  refine walk_seqB 0 [] H1 ?ho2 ?he2
  case ho2 => exact trivial
  intro _ w2 H2
  clear H1
  refine rest_at (l := [0, 1]) rfl ?_
  refine rest_set (d := 8) (v := .map (some w2.heap.size)) (w' := w2.alloc (.map #[] 0)) rfl rfl rfl (ex_makeM0 rfl) ?_
  simp only [Act.put, sa, sz, ss]
  have H3 : Hid (Mm (w2.alloc (.map #[] 0)) [(γ1_0, kd p r c gx gy), (g, p2 X Y Z X Y Z)] ∧ Mr w2.heap.size #[] 0 w (w2.alloc (.map #[] 0))) := ⟨H2.out.1.below ((Below.refl _ _).alloc (Nat.le_refl _) _), Mr.made H2.out.2⟩
  clear H2
  generalize hgw : w2.alloc (.map #[] 0) = w3 at H3 ⊢
  clear hgw
  generalize w2.heap.size = γm3 at H3 ⊢
  refine rest_set (d := 5) rfl rfl rfl rfl ?_
  simp only [Act.put, sa, sz, ss]
  refine rest_nil (then_normal ?_)
  refine wp_seq (wp_seq ?_)
  refine walk_seqA 3 [.quiet (.slice (some ⟨g, 0, none⟩) 2 2), .quiet (.int .i64 2), .quiet (.int .i64 0)] (sB H3) ?ho3 ?he3
  case ho3 => exact ak (fun _ => ⟨rfl, fun _ _ => rfl⟩) (ak (by refine fun γ => ⟨rfl, fun w' h => ?_⟩; clear h; go_simp) (ak (fun _ => ⟨rfl, fun _ _ => rfl⟩) trivial))
  intro γ w4 l hM hl
  have M4 : Mm w4 [(γ1_0, kd p r c gx gy), (g, p2 X Y Z X Y Z)] := H3.out.1.grow hM (Nat.le_refl _) hl [] rfl (by decide)
  have B4 : Mr γm3 (#[]) 0 w w4 := Mr.grow H3.out.2 (hM.below)
  clear hM hl l H3
  clear γ
  have H4 : Hid (_ ∧ _) := ⟨M4, B4⟩
  clear M4 B4
  refine rest0 rfl (then_normal (wp_block ?_))
  refine wp_loop_rounds 3 ?_
  refine rounds_in (n := 2) ?_
  refine wp_seq ?_
  refine walk_seqA 1 [.quiet (.bool true)] (sB H4) ?ho4 ?he4
  case ho4 => exact ak (by refine fun γ => ⟨rfl, fun w' h => ?_⟩; clear h; go_simp) trivial
  intro γ w5 l hM hl
  have M5 : Mm w5 [(γ1_0, kd p r c gx gy), (g, p2 X Y Z X Y Z)] := H4.out.1.grow hM (Nat.le_refl _) hl [] rfl (by decide)
  have B5 : Mr γm3 (#[]) 0 w w5 := Mr.grow H4.out.2 (hM.below)
  clear hM hl l H4
  clear γ
  have H5 : Hid (_ ∧ _) := ⟨M5, B5⟩
  clear M5 B5
  refine rest0 rfl (then_normal (wp_seq ?_))
  refine wp_cond_true rfl (wp_skip ?_)
  refine then_normal (wp_seq ?_)
  refine wp_block (wp_seq ?_)
  refine walk_seqA 4 [.quiet (PT g 0), .quiet (.agg (pt X Y Z).toArray), .made (pt 0 0 false) 25, .laid 2 (pt 0 0 false) (pt X Y Z)] (sB H5) ?ho5 ?he5 (hL := ?hL5)
  case hL5 => exact ⟨⟨_, rfl⟩, trivial⟩
  case ho5 => exact ak (by refine fun γ => ⟨rfl, fun w' h => ?_⟩; clear h; go_simp) (ak (fun γ => ⟨rfl, fun w' h => ex_loadT h 1 rfl rfl rfl Try.isAgg25 Try.sizeOf25 rfl rfl⟩) (ak (fun γ => ⟨rfl, fun w' => ex_made25 rfl⟩) (ak (fun γ => ⟨rfl, rfl, rfl, fun w' h => ex_laidT h rfl rfl Try.sizeOf25 rfl rfl rfl⟩) trivial)))
  intro γ w6 l hM hl
  have M6 : Mm w6 [(γ 2, pt X Y Z), (γ1_0, kd p r c gx gy), (g, p2 X Y Z X Y Z)] := H5.out.1.grow hM (Nat.le_refl _) hl [2] rfl (by decide)
  have B6 : Mr γm3 (#[]) 0 w w6 := Mr.grow H5.out.2 (hM.below)
  have o5_2 : Hid (w.heap.size ≤ γ 2) := Nat.le_trans H5.out.2.size (hM.fin (Nat.le_refl _) hl (i := 2) rfl).2.1
  clear hM hl l H5
  generalize γ 2 = γ5_2 at M6 o5_2 ⊢
  clear γ
  have H6 : Hid (_ ∧ _) := ⟨M6, B6⟩
  clear M6 B6
  refine rest0 rfl (then_normal (wp_seq (wp_seq ?_)))
  refine (walk_seq) 10 [.quiet (.map (some γm3)), .quiet (.agg (pt X Y Z).toArray), .quiet (.int .i64 0), .quiet (.bool true), .quiet (.bool true), .quiet (.agg (kd p r c gx gy).toArray), .quiet (.agg (pt X Y Z).toArray), .call (.bool true), .quiet (.bool false), .quiet (.bool false)] (fun u' => Mm u' [(γ5_2, pt X Y Z), (γ1_0, kd p r c gx gy), (g, p2 X Y Z X Y Z)] ∧ u'.heap[γm3]? = some (.map #[] 0)) ?pre6 ?F6 ?hpre6 (fun γ => ?hF6) (by kernel_rfl) ?hL6 ?hS6 ?ho6 ?he6
  case hpre6 => simp only [tk, tz]; rfl
  case hF6 => simp only [fill, Kind.val, Act.put, sa, sz, ss]; rfl
  case hL6 => exact trivial
  case hS6 => exact fun w' hb => ⟨H6.out.1.below hb, (Mr.grow H6.out.2 (hb)).at_⟩
  case ho6 =>
    refine ak (fun _ => ⟨rfl, fun _ _ => rfl⟩) ?_
    refine ak (fun γ => ⟨rfl, fun w' hX => have h := hX.1; ex_loadT h 0 rfl rfl rfl Try.isAgg25 Try.sizeOf25 rfl rfl⟩) ?_
    refine ak (fun γ => ⟨rfl, fun w' hX => ex_look hX.2 (find_0 (X, Y, Z) _) rfl rfl rfl rfl⟩) ?_
    refine ak (by refine fun γ => ⟨rfl, fun w' h => ?_⟩; clear h; go_simp) ?_
    refine ak (fun _ => ⟨rfl, fun _ _ => rfl⟩) ?_
    refine ak (fun γ => ⟨rfl, fun w' hX => have h := hX.1; ex_loadT h 1 rfl rfl rfl Try.isAgg72 Try.sizeOf72 rfl rfl⟩) ?_
    refine ak (fun γ => ⟨rfl, fun w' hX => have h := hX.1; ex_loadT h 0 rfl rfl rfl Try.isAgg25 Try.sizeOf25 rfl rfl⟩) ?_
    refine ak (fun γ => ⟨rfl, fun w' hX => ⟨51, #[.agg (kd p r c gx gy).toArray, .agg (pt X Y Z).toArray], exec_call rfl call51 rfl (mpn rfl), ig_in hp hr X Y Z _ h1 w'⟩⟩) ?_
    refine ak (by refine fun γ => ⟨rfl, fun w' h => ?_⟩; clear h; go_simp) ?_
    refine ak (by refine fun γ => ⟨rfl, fun w' h => ?_⟩; clear h; go_simp) ?_
    exact trivial
  intro γ w7 l hM hl
  have M7 : Mm w7 [(γ5_2, pt X Y Z), (γ1_0, kd p r c gx gy), (g, p2 X Y Z X Y Z)] := H6.out.1.grow hM (Nat.le_refl _) hl [] rfl (by decide)
  have B7 : Mr γm3 (#[]) 0 w w7 := Mr.grow H6.out.2 (hM.below)
  clear hM hl l H6
  clear γ
  have H7 : Hid (_ ∧ _) := ⟨M7, B7⟩
  clear M7 B7
  refine rest0 rfl (then_normal (wp_cond_false rfl ?_))
  refine wp_skip (then_normal ?_)
  refine region_k (n := 7) ⟨#[.agg (kd p r c gx gy).toArray, .slice (some ⟨g, 0, none⟩) 2 2, PT γ1_0 0, undef, .bool false, .map (some γm3), undef, PT γ5_2 0, .map (some γm3), .slice (some ⟨g, 0, none⟩) 2 2, .int .i64 2, .int .i64 0, .bool true, PT g 0, .agg (pt X Y Z).toArray, .map (some γm3), .agg (pt X Y Z).toArray, .int .i64 0, .bool true, .bool true, .agg (kd p r c gx gy).toArray, .agg (pt X Y Z).toArray, .bool true, .bool false, .bool false, .map (some γm3), .agg (pt X Y Z).toArray, .int .i64 0, .int .i64 1, .tuple #[.int .i64 0, .int .i64 0], .int .i64 0, undef], []⟩ (fun w2 => Mm w2 [(γ5_2, pt X Y Z), (γ1_0, kd p r c gx gy), (g, p2 X Y Z X Y Z)] ∧ Mr γm3 (#[ent (X, Y, Z) 1 0]) 1 w w2) (by kernel_rfl) rfl ?tree7 ?cont7
  case tree7 =>
    have Ha : Hid (Mm w7.drew [(γ5_2, pt X Y Z), (γ1_0, kd p r c gx gy), (g, p2 X Y Z X Y Z)] ∧ Mr γm3 (#[]) 0 w w7.drew) := ⟨H7.out.1.drew, H7.out.2.grow (Below.refl _ _).drew⟩
    generalize w7.drew = u0 at Ha ⊢
    refine any_ready [0, 1] (by kernel_rfl) (by decide) (fun i hi => ?_)
    rcases List.mem_cons.1 hi with rfl | hi
    · have hrd : True := trivial
      clear hrd
      refine op_val (d := 25) (v := .map (some γm3)) (w' := u0) rfl rfl rfl (by rfl) ?_
      simp only [Act.put, sa, sz, ss]
      refine any_ready [1] (by kernel_rfl) (by decide) (fun i hi => ?_)
      obtain rfl := List.mem_singleton.1 hi
      refine op_val (d := 26) (v := .agg (pt X Y Z).toArray) (w' := u0) rfl rfl rfl (ex_loadT Ha.out.1 0 rfl rfl rfl Try.isAgg25 Try.sizeOf25 rfl rfl) ?_
      simp only [Act.put, sa, sz, ss]
      refine any_ready [2, 4] (by kernel_rfl) (by decide) (fun i hi => ?_)
      rcases List.mem_cons.1 hi with rfl | hi
      · have hrd : True := trivial
        clear hrd
        refine op_val (d := 27) (v := .int .i64 0) (w' := u0) rfl rfl rfl (ex_look Ha.out.2.at_ (find_0 (X, Y, Z) _) rfl rfl rfl rfl) ?_
        simp only [Act.put, sa, sz, ss]
        refine any_ready [3, 4] (by kernel_rfl) (by decide) (fun i hi => ?_)
        rcases List.mem_cons.1 hi with rfl | hi
        · have hrd : True := trivial
          clear hrd
          refine op_val (d := 28) (v := .int .i64 1) (w' := u0) rfl rfl rfl (by kernel_rfl) ?_
          simp only [Act.put, sa, sz, ss]
          refine any_ready [4] (by kernel_rfl) (by decide) (fun i hi => ?_)
          obtain rfl := List.mem_singleton.1 hi
          refine op_val (d := 29) (v := .tuple #[.int .i64 0, .int .i64 0]) (w' := (wm u0 γm3 (#[ent (X, Y, Z) 0 0]) 1)) rfl rfl rfl (ex_entryN (a := (X, Y, Z)) Ha.out.2.at_ (find_0 (X, Y, Z) _) rfl rfl rfl) ?_
          simp only [Act.put, sa, sz, ss]
          have Hb : Hid (Mm (wm u0 γm3 (#[ent (X, Y, Z) 0 0]) 1) [(γ5_2, pt X Y Z), (γ1_0, kd p r c gx gy), (g, p2 X Y Z X Y Z)] ∧ Mr γm3 (#[ent (X, Y, Z) 0 0]) 1 w (wm u0 γm3 (#[ent (X, Y, Z) 0 0]) 1)) := ⟨Ha.out.1.wm Ha.out.2 _ _, Ha.out.2.wm _ _⟩
          generalize wm u0 γm3 (#[ent (X, Y, Z) 0 0]) 1 = u1 at Hb ⊢
          refine any_ready [5] (by kernel_rfl) (by decide) (fun i hi => ?_)
          obtain rfl := List.mem_singleton.1 hi
          refine op_val (d := 30) (v := .int .i64 0) (w' := u1) rfl rfl rfl (by go_simp) ?_
          simp only [Act.put, sa, sz, ss]
          refine any_ready [6] (by kernel_rfl) (by decide) (fun i hi => ?_)
          obtain rfl := List.mem_singleton.1 hi
          refine op_skip (w' := wm u1 γm3 (#[ent (X, Y, Z) 1 0]) 1) rfl rfl rfl (ex_eStore Hb.out.2.at_ (idx_1 _ _) rfl rfl rfl rfl rfl) ?_
          have Hc : Mm (wm u1 γm3 (#[ent (X, Y, Z) 1 0]) 1) [(γ5_2, pt X Y Z), (γ1_0, kd p r c gx gy), (g, p2 X Y Z X Y Z)] ∧ Mr γm3 (#[ent (X, Y, Z) 1 0]) 1 w (wm u1 γm3 (#[ent (X, Y, Z) 1 0]) 1) := ⟨Hb.out.1.wm Hb.out.2 _ _, Hb.out.2.wm _ _⟩
          exact ⟨by kernel_rfl, rfl, rfl, Hc⟩
        obtain rfl := List.mem_singleton.1 hi
        refine op_val (d := 29) (v := .tuple #[.int .i64 0, .int .i64 0]) (w' := (wm u0 γm3 (#[ent (X, Y, Z) 0 0]) 1)) rfl rfl rfl (ex_entryN (a := (X, Y, Z)) Ha.out.2.at_ (find_0 (X, Y, Z) _) rfl rfl rfl) ?_
        simp only [Act.put, sa, sz, ss]
        have Hb : Hid (Mm (wm u0 γm3 (#[ent (X, Y, Z) 0 0]) 1) [(γ5_2, pt X Y Z), (γ1_0, kd p r c gx gy), (g, p2 X Y Z X Y Z)] ∧ Mr γm3 (#[ent (X, Y, Z) 0 0]) 1 w (wm u0 γm3 (#[ent (X, Y, Z) 0 0]) 1)) := ⟨Ha.out.1.wm Ha.out.2 _ _, Ha.out.2.wm _ _⟩
        generalize wm u0 γm3 (#[ent (X, Y, Z) 0 0]) 1 = u1 at Hb ⊢
        refine any_ready [3, 5] (by kernel_rfl) (by decide) (fun i hi => ?_)
        rcases List.mem_cons.1 hi with rfl | hi
        · have hrd : True := trivial
          clear hrd
          refine op_val (d := 28) (v := .int .i64 1) (w' := u1) rfl rfl rfl (by kernel_rfl) ?_
          simp only [Act.put, sa, sz, ss]
          refine any_ready [5] (by kernel_rfl) (by decide) (fun i hi => ?_)
          obtain rfl := List.mem_singleton.1 hi
          refine op_val (d := 30) (v := .int .i64 0) (w' := u1) rfl rfl rfl (by go_simp) ?_
          simp only [Act.put, sa, sz, ss]
          refine any_ready [6] (by kernel_rfl) (by decide) (fun i hi => ?_)
          obtain rfl := List.mem_singleton.1 hi
          refine op_skip (w' := wm u1 γm3 (#[ent (X, Y, Z) 1 0]) 1) rfl rfl rfl (ex_eStore Hb.out.2.at_ (idx_1 _ _) rfl rfl rfl rfl rfl) ?_
          have Hc : Mm (wm u1 γm3 (#[ent (X, Y, Z) 1 0]) 1) [(γ5_2, pt X Y Z), (γ1_0, kd p r c gx gy), (g, p2 X Y Z X Y Z)] ∧ Mr γm3 (#[ent (X, Y, Z) 1 0]) 1 w (wm u1 γm3 (#[ent (X, Y, Z) 1 0]) 1) := ⟨Hb.out.1.wm Hb.out.2 _ _, Hb.out.2.wm _ _⟩
          exact ⟨by kernel_rfl, rfl, rfl, Hc⟩
        obtain rfl := List.mem_singleton.1 hi
        refine op_val (d := 30) (v := .int .i64 0) (w' := u1) rfl rfl rfl (by go_simp) ?_
        simp only [Act.put, sa, sz, ss]
        refine any_ready [3] (by kernel_rfl) (by decide) (fun i hi => ?_)
        obtain rfl := List.mem_singleton.1 hi
        refine op_val (d := 28) (v := .int .i64 1) (w' := u1) rfl rfl rfl (by kernel_rfl) ?_
        simp only [Act.put, sa, sz, ss]
        refine any_ready [6] (by kernel_rfl) (by decide) (fun i hi => ?_)
        obtain rfl := List.mem_singleton.1 hi
        refine op_skip (w' := wm u1 γm3 (#[ent (X, Y, Z) 1 0]) 1) rfl rfl rfl (ex_eStore Hb.out.2.at_ (idx_1 _ _) rfl rfl rfl rfl rfl) ?_
        have Hc : Mm (wm u1 γm3 (#[ent (X, Y, Z) 1 0]) 1) [(γ5_2, pt X Y Z), (γ1_0, kd p r c gx gy), (g, p2 X Y Z X Y Z)] ∧ Mr γm3 (#[ent (X, Y, Z) 1 0]) 1 w (wm u1 γm3 (#[ent (X, Y, Z) 1 0]) 1) := ⟨Hb.out.1.wm Hb.out.2 _ _, Hb.out.2.wm _ _⟩
        exact ⟨by kernel_rfl, rfl, rfl, Hc⟩
      obtain rfl := List.mem_singleton.1 hi
      refine op_val (d := 29) (v := .tuple #[.int .i64 0, .int .i64 0]) (w' := (wm u0 γm3 (#[ent (X, Y, Z) 0 0]) 1)) rfl rfl rfl (ex_entryN (a := (X, Y, Z)) Ha.out.2.at_ (find_0 (X, Y, Z) _) rfl rfl rfl) ?_
      simp only [Act.put, sa, sz, ss]
      have Hb : Hid (Mm (wm u0 γm3 (#[ent (X, Y, Z) 0 0]) 1) [(γ5_2, pt X Y Z), (γ1_0, kd p r c gx gy), (g, p2 X Y Z X Y Z)] ∧ Mr γm3 (#[ent (X, Y, Z) 0 0]) 1 w (wm u0 γm3 (#[ent (X, Y, Z) 0 0]) 1)) := ⟨Ha.out.1.wm Ha.out.2 _ _, Ha.out.2.wm _ _⟩
      generalize wm u0 γm3 (#[ent (X, Y, Z) 0 0]) 1 = u1 at Hb ⊢
      refine any_ready [2, 5] (by kernel_rfl) (by decide) (fun i hi => ?_)
      rcases List.mem_cons.1 hi with rfl | hi
      · have hrd : True := trivial
        clear hrd
        refine op_val (d := 27) (v := .int .i64 0) (w' := u1) rfl rfl rfl (ex_look Hb.out.2.at_ (by have e := find_1 (X, Y, Z) (X, Y, Z) 0 0 u1; rw [if_pos rfl] at e; exact e) rfl rfl rfl rfl) ?_
        simp only [Act.put, sa, sz, ss]
        refine any_ready [3, 5] (by kernel_rfl) (by decide) (fun i hi => ?_)
        rcases List.mem_cons.1 hi with rfl | hi
        · have hrd : True := trivial
          clear hrd
          refine op_val (d := 28) (v := .int .i64 1) (w' := u1) rfl rfl rfl (by kernel_rfl) ?_
          simp only [Act.put, sa, sz, ss]
          refine any_ready [5] (by kernel_rfl) (by decide) (fun i hi => ?_)
          obtain rfl := List.mem_singleton.1 hi
          refine op_val (d := 30) (v := .int .i64 0) (w' := u1) rfl rfl rfl (by go_simp) ?_
          simp only [Act.put, sa, sz, ss]
          refine any_ready [6] (by kernel_rfl) (by decide) (fun i hi => ?_)
          obtain rfl := List.mem_singleton.1 hi
          refine op_skip (w' := wm u1 γm3 (#[ent (X, Y, Z) 1 0]) 1) rfl rfl rfl (ex_eStore Hb.out.2.at_ (idx_1 _ _) rfl rfl rfl rfl rfl) ?_
          have Hc : Mm (wm u1 γm3 (#[ent (X, Y, Z) 1 0]) 1) [(γ5_2, pt X Y Z), (γ1_0, kd p r c gx gy), (g, p2 X Y Z X Y Z)] ∧ Mr γm3 (#[ent (X, Y, Z) 1 0]) 1 w (wm u1 γm3 (#[ent (X, Y, Z) 1 0]) 1) := ⟨Hb.out.1.wm Hb.out.2 _ _, Hb.out.2.wm _ _⟩
          exact ⟨by kernel_rfl, rfl, rfl, Hc⟩
        obtain rfl := List.mem_singleton.1 hi
        refine op_val (d := 30) (v := .int .i64 0) (w' := u1) rfl rfl rfl (by go_simp) ?_
        simp only [Act.put, sa, sz, ss]
        refine any_ready [3] (by kernel_rfl) (by decide) (fun i hi => ?_)
        obtain rfl := List.mem_singleton.1 hi
        refine op_val (d := 28) (v := .int .i64 1) (w' := u1) rfl rfl rfl (by kernel_rfl) ?_
        simp only [Act.put, sa, sz, ss]
        refine any_ready [6] (by kernel_rfl) (by decide) (fun i hi => ?_)
        obtain rfl := List.mem_singleton.1 hi
        refine op_skip (w' := wm u1 γm3 (#[ent (X, Y, Z) 1 0]) 1) rfl rfl rfl (ex_eStore Hb.out.2.at_ (idx_1 _ _) rfl rfl rfl rfl rfl) ?_
        have Hc : Mm (wm u1 γm3 (#[ent (X, Y, Z) 1 0]) 1) [(γ5_2, pt X Y Z), (γ1_0, kd p r c gx gy), (g, p2 X Y Z X Y Z)] ∧ Mr γm3 (#[ent (X, Y, Z) 1 0]) 1 w (wm u1 γm3 (#[ent (X, Y, Z) 1 0]) 1) := ⟨Hb.out.1.wm Hb.out.2 _ _, Hb.out.2.wm _ _⟩
        exact ⟨by kernel_rfl, rfl, rfl, Hc⟩
      obtain rfl := List.mem_singleton.1 hi
      refine op_val (d := 30) (v := .int .i64 0) (w' := u1) rfl rfl rfl (by go_simp) ?_
      simp only [Act.put, sa, sz, ss]
      refine any_ready [2] (by kernel_rfl) (by decide) (fun i hi => ?_)
      obtain rfl := List.mem_singleton.1 hi
      refine op_val (d := 27) (v := .int .i64 0) (w' := u1) rfl rfl rfl (ex_look Hb.out.2.at_ (by have e := find_1 (X, Y, Z) (X, Y, Z) 0 0 u1; rw [if_pos rfl] at e; exact e) rfl rfl rfl rfl) ?_
      simp only [Act.put, sa, sz, ss]
      refine any_ready [3] (by kernel_rfl) (by decide) (fun i hi => ?_)
      obtain rfl := List.mem_singleton.1 hi
      refine op_val (d := 28) (v := .int .i64 1) (w' := u1) rfl rfl rfl (by kernel_rfl) ?_
      simp only [Act.put, sa, sz, ss]
      refine any_ready [6] (by kernel_rfl) (by decide) (fun i hi => ?_)
      obtain rfl := List.mem_singleton.1 hi
      refine op_skip (w' := wm u1 γm3 (#[ent (X, Y, Z) 1 0]) 1) rfl rfl rfl (ex_eStore Hb.out.2.at_ (idx_1 _ _) rfl rfl rfl rfl rfl) ?_
      have Hc : Mm (wm u1 γm3 (#[ent (X, Y, Z) 1 0]) 1) [(γ5_2, pt X Y Z), (γ1_0, kd p r c gx gy), (g, p2 X Y Z X Y Z)] ∧ Mr γm3 (#[ent (X, Y, Z) 1 0]) 1 w (wm u1 γm3 (#[ent (X, Y, Z) 1 0]) 1) := ⟨Hb.out.1.wm Hb.out.2 _ _, Hb.out.2.wm _ _⟩
      exact ⟨by kernel_rfl, rfl, rfl, Hc⟩
    obtain rfl := List.mem_singleton.1 hi
    refine op_val (d := 26) (v := .agg (pt X Y Z).toArray) (w' := u0) rfl rfl rfl (ex_loadT Ha.out.1 0 rfl rfl rfl Try.isAgg25 Try.sizeOf25 rfl rfl) ?_
    simp only [Act.put, sa, sz, ss]
    refine any_ready [0] (by kernel_rfl) (by decide) (fun i hi => ?_)
    obtain rfl := List.mem_singleton.1 hi
    refine op_val (d := 25) (v := .map (some γm3)) (w' := u0) rfl rfl rfl (by rfl) ?_
    simp only [Act.put, sa, sz, ss]
    refine any_ready [2, 4] (by kernel_rfl) (by decide) (fun i hi => ?_)
    rcases List.mem_cons.1 hi with rfl | hi
    · have hrd : True := trivial
      clear hrd
      refine op_val (d := 27) (v := .int .i64 0) (w' := u0) rfl rfl rfl (ex_look Ha.out.2.at_ (find_0 (X, Y, Z) _) rfl rfl rfl rfl) ?_
      simp only [Act.put, sa, sz, ss]
      refine any_ready [3, 4] (by kernel_rfl) (by decide) (fun i hi => ?_)
      rcases List.mem_cons.1 hi with rfl | hi
      · have hrd : True := trivial
        clear hrd
        refine op_val (d := 28) (v := .int .i64 1) (w' := u0) rfl rfl rfl (by kernel_rfl) ?_
        simp only [Act.put, sa, sz, ss]
        refine any_ready [4] (by kernel_rfl) (by decide) (fun i hi => ?_)
        obtain rfl := List.mem_singleton.1 hi
        refine op_val (d := 29) (v := .tuple #[.int .i64 0, .int .i64 0]) (w' := (wm u0 γm3 (#[ent (X, Y, Z) 0 0]) 1)) rfl rfl rfl (ex_entryN (a := (X, Y, Z)) Ha.out.2.at_ (find_0 (X, Y, Z) _) rfl rfl rfl) ?_
        simp only [Act.put, sa, sz, ss]
        have Hb : Hid (Mm (wm u0 γm3 (#[ent (X, Y, Z) 0 0]) 1) [(γ5_2, pt X Y Z), (γ1_0, kd p r c gx gy), (g, p2 X Y Z X Y Z)] ∧ Mr γm3 (#[ent (X, Y, Z) 0 0]) 1 w (wm u0 γm3 (#[ent (X, Y, Z) 0 0]) 1)) := ⟨Ha.out.1.wm Ha.out.2 _ _, Ha.out.2.wm _ _⟩
        generalize wm u0 γm3 (#[ent (X, Y, Z) 0 0]) 1 = u1 at Hb ⊢
        refine any_ready [5] (by kernel_rfl) (by decide) (fun i hi => ?_)
        obtain rfl := List.mem_singleton.1 hi
        refine op_val (d := 30) (v := .int .i64 0) (w' := u1) rfl rfl rfl (by go_simp) ?_
        simp only [Act.put, sa, sz, ss]
        refine any_ready [6] (by kernel_rfl) (by decide) (fun i hi => ?_)
        obtain rfl := List.mem_singleton.1 hi
        refine op_skip (w' := wm u1 γm3 (#[ent (X, Y, Z) 1 0]) 1) rfl rfl rfl (ex_eStore Hb.out.2.at_ (idx_1 _ _) rfl rfl rfl rfl rfl) ?_
        have Hc : Mm (wm u1 γm3 (#[ent (X, Y, Z) 1 0]) 1) [(γ5_2, pt X Y Z), (γ1_0, kd p r c gx gy), (g, p2 X Y Z X Y Z)] ∧ Mr γm3 (#[ent (X, Y, Z) 1 0]) 1 w (wm u1 γm3 (#[ent (X, Y, Z) 1 0]) 1) := ⟨Hb.out.1.wm Hb.out.2 _ _, Hb.out.2.wm _ _⟩
        exact ⟨by kernel_rfl, rfl, rfl, Hc⟩
      obtain rfl := List.mem_singleton.1 hi
      refine op_val (d := 29) (v := .tuple #[.int .i64 0, .int .i64 0]) (w' := (wm u0 γm3 (#[ent (X, Y, Z) 0 0]) 1)) rfl rfl rfl (ex_entryN (a := (X, Y, Z)) Ha.out.2.at_ (find_0 (X, Y, Z) _) rfl rfl rfl) ?_
      simp only [Act.put, sa, sz, ss]
      have Hb : Hid (Mm (wm u0 γm3 (#[ent (X, Y, Z) 0 0]) 1) [(γ5_2, pt X Y Z), (γ1_0, kd p r c gx gy), (g, p2 X Y Z X Y Z)] ∧ Mr γm3 (#[ent (X, Y, Z) 0 0]) 1 w (wm u0 γm3 (#[ent (X, Y, Z) 0 0]) 1)) := ⟨Ha.out.1.wm Ha.out.2 _ _, Ha.out.2.wm _ _⟩
      generalize wm u0 γm3 (#[ent (X, Y, Z) 0 0]) 1 = u1 at Hb ⊢
      refine any_ready [3, 5] (by kernel_rfl) (by decide) (fun i hi => ?_)
      rcases List.mem_cons.1 hi with rfl | hi
      · have hrd : True := trivial
        clear hrd
        refine op_val (d := 28) (v := .int .i64 1) (w' := u1) rfl rfl rfl (by kernel_rfl) ?_
        simp only [Act.put, sa, sz, ss]
        refine any_ready [5] (by kernel_rfl) (by decide) (fun i hi => ?_)
        obtain rfl := List.mem_singleton.1 hi
        refine op_val (d := 30) (v := .int .i64 0) (w' := u1) rfl rfl rfl (by go_simp) ?_
        simp only [Act.put, sa, sz, ss]
        refine any_ready [6] (by kernel_rfl) (by decide) (fun i hi => ?_)
        obtain rfl := List.mem_singleton.1 hi
        refine op_skip (w' := wm u1 γm3 (#[ent (X, Y, Z) 1 0]) 1) rfl rfl rfl (ex_eStore Hb.out.2.at_ (idx_1 _ _) rfl rfl rfl rfl rfl) ?_
        have Hc : Mm (wm u1 γm3 (#[ent (X, Y, Z) 1 0]) 1) [(γ5_2, pt X Y Z), (γ1_0, kd p r c gx gy), (g, p2 X Y Z X Y Z)] ∧ Mr γm3 (#[ent (X, Y, Z) 1 0]) 1 w (wm u1 γm3 (#[ent (X, Y, Z) 1 0]) 1) := ⟨Hb.out.1.wm Hb.out.2 _ _, Hb.out.2.wm _ _⟩
        exact ⟨by kernel_rfl, rfl, rfl, Hc⟩
      obtain rfl := List.mem_singleton.1 hi
      refine op_val (d := 30) (v := .int .i64 0) (w' := u1) rfl rfl rfl (by go_simp) ?_
      simp only [Act.put, sa, sz, ss]
      refine any_ready [3] (by kernel_rfl) (by decide) (fun i hi => ?_)
      obtain rfl := List.mem_singleton.1 hi
      refine op_val (d := 28) (v := .int .i64 1) (w' := u1) rfl rfl rfl (by kernel_rfl) ?_
      simp only [Act.put, sa, sz, ss]
      refine any_ready [6] (by kernel_rfl) (by decide) (fun i hi => ?_)
      obtain rfl := List.mem_singleton.1 hi
      refine op_skip (w' := wm u1 γm3 (#[ent (X, Y, Z) 1 0]) 1) rfl rfl rfl (ex_eStore Hb.out.2.at_ (idx_1 _ _) rfl rfl rfl rfl rfl) ?_
      have Hc : Mm (wm u1 γm3 (#[ent (X, Y, Z) 1 0]) 1) [(γ5_2, pt X Y Z), (γ1_0, kd p r c gx gy), (g, p2 X Y Z X Y Z)] ∧ Mr γm3 (#[ent (X, Y, Z) 1 0]) 1 w (wm u1 γm3 (#[ent (X, Y, Z) 1 0]) 1) := ⟨Hb.out.1.wm Hb.out.2 _ _, Hb.out.2.wm _ _⟩
      exact ⟨by kernel_rfl, rfl, rfl, Hc⟩
    obtain rfl := List.mem_singleton.1 hi
    refine op_val (d := 29) (v := .tuple #[.int .i64 0, .int .i64 0]) (w' := (wm u0 γm3 (#[ent (X, Y, Z) 0 0]) 1)) rfl rfl rfl (ex_entryN (a := (X, Y, Z)) Ha.out.2.at_ (find_0 (X, Y, Z) _) rfl rfl rfl) ?_
    simp only [Act.put, sa, sz, ss]
    have Hb : Hid (Mm (wm u0 γm3 (#[ent (X, Y, Z) 0 0]) 1) [(γ5_2, pt X Y Z), (γ1_0, kd p r c gx gy), (g, p2 X Y Z X Y Z)] ∧ Mr γm3 (#[ent (X, Y, Z) 0 0]) 1 w (wm u0 γm3 (#[ent (X, Y, Z) 0 0]) 1)) := ⟨Ha.out.1.wm Ha.out.2 _ _, Ha.out.2.wm _ _⟩
    generalize wm u0 γm3 (#[ent (X, Y, Z) 0 0]) 1 = u1 at Hb ⊢
    refine any_ready [2, 5] (by kernel_rfl) (by decide) (fun i hi => ?_)
    rcases List.mem_cons.1 hi with rfl | hi
    · have hrd : True := trivial
      clear hrd
      refine op_val (d := 27) (v := .int .i64 0) (w' := u1) rfl rfl rfl (ex_look Hb.out.2.at_ (by have e := find_1 (X, Y, Z) (X, Y, Z) 0 0 u1; rw [if_pos rfl] at e; exact e) rfl rfl rfl rfl) ?_
      simp only [Act.put, sa, sz, ss]
      refine any_ready [3, 5] (by kernel_rfl) (by decide) (fun i hi => ?_)
      rcases List.mem_cons.1 hi with rfl | hi
      · have hrd : True := trivial
        clear hrd
        refine op_val (d := 28) (v := .int .i64 1) (w' := u1) rfl rfl rfl (by kernel_rfl) ?_
        simp only [Act.put, sa, sz, ss]
        refine any_ready [5] (by kernel_rfl) (by decide) (fun i hi => ?_)
        obtain rfl := List.mem_singleton.1 hi
        refine op_val (d := 30) (v := .int .i64 0) (w' := u1) rfl rfl rfl (by go_simp) ?_
        simp only [Act.put, sa, sz, ss]
        refine any_ready [6] (by kernel_rfl) (by decide) (fun i hi => ?_)
        obtain rfl := List.mem_singleton.1 hi
        refine op_skip (w' := wm u1 γm3 (#[ent (X, Y, Z) 1 0]) 1) rfl rfl rfl (ex_eStore Hb.out.2.at_ (idx_1 _ _) rfl rfl rfl rfl rfl) ?_
        have Hc : Mm (wm u1 γm3 (#[ent (X, Y, Z) 1 0]) 1) [(γ5_2, pt X Y Z), (γ1_0, kd p r c gx gy), (g, p2 X Y Z X Y Z)] ∧ Mr γm3 (#[ent (X, Y, Z) 1 0]) 1 w (wm u1 γm3 (#[ent (X, Y, Z) 1 0]) 1) := ⟨Hb.out.1.wm Hb.out.2 _ _, Hb.out.2.wm _ _⟩
        exact ⟨by kernel_rfl, rfl, rfl, Hc⟩
      obtain rfl := List.mem_singleton.1 hi
      refine op_val (d := 30) (v := .int .i64 0) (w' := u1) rfl rfl rfl (by go_simp) ?_
      simp only [Act.put, sa, sz, ss]
      refine any_ready [3] (by kernel_rfl) (by decide) (fun i hi => ?_)
      obtain rfl := List.mem_singleton.1 hi
      refine op_val (d := 28) (v := .int .i64 1) (w' := u1) rfl rfl rfl (by kernel_rfl) ?_
      simp only [Act.put, sa, sz, ss]
      refine any_ready [6] (by kernel_rfl) (by decide) (fun i hi => ?_)
      obtain rfl := List.mem_singleton.1 hi
      refine op_skip (w' := wm u1 γm3 (#[ent (X, Y, Z) 1 0]) 1) rfl rfl rfl (ex_eStore Hb.out.2.at_ (idx_1 _ _) rfl rfl rfl rfl rfl) ?_
      have Hc : Mm (wm u1 γm3 (#[ent (X, Y, Z) 1 0]) 1) [(γ5_2, pt X Y Z), (γ1_0, kd p r c gx gy), (g, p2 X Y Z X Y Z)] ∧ Mr γm3 (#[ent (X, Y, Z) 1 0]) 1 w (wm u1 γm3 (#[ent (X, Y, Z) 1 0]) 1) := ⟨Hb.out.1.wm Hb.out.2 _ _, Hb.out.2.wm _ _⟩
      exact ⟨by kernel_rfl, rfl, rfl, Hc⟩
    obtain rfl := List.mem_singleton.1 hi
    refine op_val (d := 30) (v := .int .i64 0) (w' := u1) rfl rfl rfl (by go_simp) ?_
    simp only [Act.put, sa, sz, ss]
    refine any_ready [2] (by kernel_rfl) (by decide) (fun i hi => ?_)
    obtain rfl := List.mem_singleton.1 hi
    refine op_val (d := 27) (v := .int .i64 0) (w' := u1) rfl rfl rfl (ex_look Hb.out.2.at_ (by have e := find_1 (X, Y, Z) (X, Y, Z) 0 0 u1; rw [if_pos rfl] at e; exact e) rfl rfl rfl rfl) ?_
    simp only [Act.put, sa, sz, ss]
    refine any_ready [3] (by kernel_rfl) (by decide) (fun i hi => ?_)
    obtain rfl := List.mem_singleton.1 hi
    refine op_val (d := 28) (v := .int .i64 1) (w' := u1) rfl rfl rfl (by kernel_rfl) ?_
    simp only [Act.put, sa, sz, ss]
    refine any_ready [6] (by kernel_rfl) (by decide) (fun i hi => ?_)
    obtain rfl := List.mem_singleton.1 hi
    refine op_skip (w' := wm u1 γm3 (#[ent (X, Y, Z) 1 0]) 1) rfl rfl rfl (ex_eStore Hb.out.2.at_ (idx_1 _ _) rfl rfl rfl rfl rfl) ?_
    have Hc : Mm (wm u1 γm3 (#[ent (X, Y, Z) 1 0]) 1) [(γ5_2, pt X Y Z), (γ1_0, kd p r c gx gy), (g, p2 X Y Z X Y Z)] ∧ Mr γm3 (#[ent (X, Y, Z) 1 0]) 1 w (wm u1 γm3 (#[ent (X, Y, Z) 1 0]) 1) := ⟨Hb.out.1.wm Hb.out.2 _ _, Hb.out.2.wm _ _⟩
    exact ⟨by kernel_rfl, rfl, rfl, Hc⟩
  case cont7 =>
    intro w8 hMB
    have H8 : Hid (_ ∧ _) := hMB
    clear hMB H7
    refine block_normal (then_normal ?_)
    refine walk_seqA 1 [.quiet (.int .i64 1)] (sB H8) ?ho8 ?he8
    case ho8 => exact ak (fun γ => ⟨rfl, fun w' _ => by kernel_rfl⟩) trivial
    intro γ w9 l hM hl
    have M9 : Mm w9 [(γ5_2, pt X Y Z), (γ1_0, kd p r c gx gy), (g, p2 X Y Z X Y Z)] := H8.out.1.grow hM (Nat.le_refl _) hl [] rfl (by decide)
    have B9 : Mr γm3 (#[ent (X, Y, Z) 1 0]) 1 w w9 := Mr.grow H8.out.2 (hM.below)
    clear hM hl l H8
    clear γ
    have H9 : Hid (_ ∧ _) := ⟨M9, B9⟩
    clear M9 B9
    refine rest_at (l := [1]) rfl ?_
    refine rest_set (d := 11) rfl rfl rfl rfl ?_
    simp only [Act.put, sa, sz, ss]
    refine rest_nil (then_normal ?_)
    refine rounds_in (n := 1) ?_
    refine wp_seq ?_
    refine walk_seqA 1 [.quiet (.bool true)] (sB H9) ?ho9 ?he9
    case ho9 => exact ak (by refine fun γ => ⟨rfl, fun w' h => ?_⟩; clear h; go_simp) trivial
    intro γ w10 l hM hl
    have M10 : Mm w10 [(γ5_2, pt X Y Z), (γ1_0, kd p r c gx gy), (g, p2 X Y Z X Y Z)] := H9.out.1.grow hM (Nat.le_refl _) hl [] rfl (by decide)
    have B10 : Mr γm3 (#[ent (X, Y, Z) 1 0]) 1 w w10 := Mr.grow H9.out.2 (hM.below)
    clear hM hl l H9
    clear γ
    have H10 : Hid (_ ∧ _) := ⟨M10, B10⟩
    clear M10 B10
    refine rest0 rfl (then_normal (wp_seq ?_))
    refine wp_cond_true rfl (wp_skip ?_)
    refine then_normal (wp_seq ?_)
    refine wp_block (wp_seq ?_)
    refine walk_seqA 4 [.quiet (PT g 3), .quiet (.agg (pt X Y Z).toArray), .made (pt 0 0 false) 25, .laid 2 (pt 0 0 false) (pt X Y Z)] (sB H10) ?ho10 ?he10 (hL := ?hL10)
    case hL10 => exact ⟨⟨_, rfl⟩, trivial⟩
    case ho10 => exact ak (by refine fun γ => ⟨rfl, fun w' h => ?_⟩; clear h; go_simp) (ak (fun γ => ⟨rfl, fun w' h => ex_loadT h 2 rfl rfl rfl Try.isAgg25 Try.sizeOf25 rfl rfl⟩) (ak (fun γ => ⟨rfl, fun w' => ex_made25 rfl⟩) (ak (fun γ => ⟨rfl, rfl, rfl, fun w' h => ex_laidT h rfl rfl Try.sizeOf25 rfl rfl rfl⟩) trivial)))
    intro γ w11 l hM hl
    have M11 : Mm w11 [(γ 2, pt X Y Z), (γ5_2, pt X Y Z), (γ1_0, kd p r c gx gy), (g, p2 X Y Z X Y Z)] := H10.out.1.grow hM (Nat.le_refl _) hl [2] rfl (by decide)
    have B11 : Mr γm3 (#[ent (X, Y, Z) 1 0]) 1 w w11 := Mr.grow H10.out.2 (hM.below)
    have o10_2 : Hid (w.heap.size ≤ γ 2) := Nat.le_trans H10.out.2.size (hM.fin (Nat.le_refl _) hl (i := 2) rfl).2.1
    clear hM hl l H10
    generalize γ 2 = γ10_2 at M11 o10_2 ⊢
    clear γ
    have H11 : Hid (_ ∧ _) := ⟨M11, B11⟩
    clear M11 B11
    refine rest0 rfl (then_normal (wp_seq (wp_seq ?_)))
    refine (walk_seq) 10 [.quiet (.map (some γm3)), .quiet (.agg (pt X Y Z).toArray), .quiet (.int .i64 1), .quiet (.bool false), .quiet (.bool false), .gone, .gone, .gone, .gone, .quiet (.bool false)] (fun u' => Mm u' [(γ10_2, pt X Y Z), (γ5_2, pt X Y Z), (γ1_0, kd p r c gx gy), (g, p2 X Y Z X Y Z)] ∧ u'.heap[γm3]? = some (.map (#[ent (X, Y, Z) 1 0]) 1)) ?pre11 ?F11 ?hpre11 (fun γ => ?hF11) (by kernel_rfl) ?hL11 ?hS11 ?ho11 ?he11
    case hpre11 => simp only [tk, tz]; rfl
    case hF11 => simp only [fill, Kind.val, Act.put, sa, sz, ss]; rfl
    case hL11 => exact trivial
    case hS11 => exact fun w' hb => ⟨H11.out.1.below hb, (Mr.grow H11.out.2 (hb)).at_⟩
    case ho11 =>
      refine ak (fun _ => ⟨rfl, fun _ _ => rfl⟩) ?_
      refine ak (fun γ => ⟨rfl, fun w' hX => have h := hX.1; ex_loadT h 0 rfl rfl rfl Try.isAgg25 Try.sizeOf25 rfl rfl⟩) ?_
      refine ak (fun γ => ⟨rfl, fun w' hX => ex_look hX.2 (by have e := find_1 (X, Y, Z) (X, Y, Z) 1 0 w'; rw [if_pos rfl] at e; exact e) rfl rfl rfl rfl⟩) ?_
      refine ak (by refine fun γ => ⟨rfl, fun w' h => ?_⟩; clear h; go_simp) ?_
      refine ak (fun _ => ⟨rfl, fun _ _ => rfl⟩) ?_
      refine ak (fun γ => rfl) ?_
      refine ak (fun γ => rfl) ?_
      refine ak (fun γ => rfl) ?_
      refine ak (fun γ => rfl) ?_
      refine ak (by refine fun γ => ⟨rfl, fun w' h => ?_⟩; clear h; go_simp) ?_
      exact trivial
    intro γ w12 l hM hl
    have M12 : Mm w12 [(γ10_2, pt X Y Z), (γ5_2, pt X Y Z), (γ1_0, kd p r c gx gy), (g, p2 X Y Z X Y Z)] := H11.out.1.grow hM (Nat.le_refl _) hl [] rfl (by decide)
    have B12 : Mr γm3 (#[ent (X, Y, Z) 1 0]) 1 w w12 := Mr.grow H11.out.2 (hM.below)
    clear hM hl l H11
    clear γ
    have H12 : Hid (_ ∧ _) := ⟨M12, B12⟩
    clear M12 B12
    refine rest0 rfl (then_normal (wp_cond_false rfl ?_))
    refine wp_skip (then_normal ?_)
    refine region_k (n := 7) ⟨#[.agg (kd p r c gx gy).toArray, .slice (some ⟨g, 0, none⟩) 2 2, PT γ1_0 0, undef, .bool false, .map (some γm3), undef, PT γ10_2 0, .map (some γm3), .slice (some ⟨g, 0, none⟩) 2 2, .int .i64 2, .int .i64 1, .bool true, PT g 3, .agg (pt X Y Z).toArray, .map (some γm3), .agg (pt X Y Z).toArray, .int .i64 1, .bool false, .bool false, undef, undef, undef, undef, .bool false, .map (some γm3), .agg (pt X Y Z).toArray, .int .i64 1, .int .i64 2, .tuple #[.int .i64 1, .int .i64 0], .int .i64 0, .int .i64 1], []⟩ (fun w2 => Mm w2 [(γ10_2, pt X Y Z), (γ5_2, pt X Y Z), (γ1_0, kd p r c gx gy), (g, p2 X Y Z X Y Z)] ∧ Mr γm3 (#[ent (X, Y, Z) 2 0]) 1 w w2) (by kernel_rfl) rfl ?tree12 ?cont12
    case tree12 =>
      have Ha : Hid (Mm w12.drew [(γ10_2, pt X Y Z), (γ5_2, pt X Y Z), (γ1_0, kd p r c gx gy), (g, p2 X Y Z X Y Z)] ∧ Mr γm3 (#[ent (X, Y, Z) 1 0]) 1 w w12.drew) := ⟨H12.out.1.drew, H12.out.2.grow (Below.refl _ _).drew⟩
      generalize w12.drew = u0 at Ha ⊢
      refine any_ready [0, 1] (by kernel_rfl) (by decide) (fun i hi => ?_)
      rcases List.mem_cons.1 hi with rfl | hi
      · have hrd : True := trivial
        clear hrd
        refine op_val (d := 25) (v := .map (some γm3)) (w' := u0) rfl rfl rfl (by rfl) ?_
        simp only [Act.put, sa, sz, ss]
        refine any_ready [1] (by kernel_rfl) (by decide) (fun i hi => ?_)
        obtain rfl := List.mem_singleton.1 hi
        refine op_val (d := 26) (v := .agg (pt X Y Z).toArray) (w' := u0) rfl rfl rfl (ex_loadT Ha.out.1 0 rfl rfl rfl Try.isAgg25 Try.sizeOf25 rfl rfl) ?_
        simp only [Act.put, sa, sz, ss]
        refine any_ready [2, 4] (by kernel_rfl) (by decide) (fun i hi => ?_)
        rcases List.mem_cons.1 hi with rfl | hi
        · have hrd : True := trivial
          clear hrd
          refine op_val (d := 27) (v := .int .i64 1) (w' := u0) rfl rfl rfl (ex_look Ha.out.2.at_ (by have e := find_1 (X, Y, Z) (X, Y, Z) 1 0 u0; rw [if_pos rfl] at e; exact e) rfl rfl rfl rfl) ?_
          simp only [Act.put, sa, sz, ss]
          refine any_ready [3, 4] (by kernel_rfl) (by decide) (fun i hi => ?_)
          rcases List.mem_cons.1 hi with rfl | hi
          · have hrd : True := trivial
            clear hrd
            refine op_val (d := 28) (v := .int .i64 2) (w' := u0) rfl rfl rfl (by kernel_rfl) ?_
            simp only [Act.put, sa, sz, ss]
            refine any_ready [4] (by kernel_rfl) (by decide) (fun i hi => ?_)
            obtain rfl := List.mem_singleton.1 hi
            refine op_val (d := 29) (v := .tuple #[.int .i64 1, .int .i64 0]) (w' := (wm u0 γm3 (#[ent (X, Y, Z) 1 0]) 1)) rfl rfl rfl (ex_entryS (a := (X, Y, Z)) Ha.out.2.at_ rfl rfl rfl) ?_
            simp only [Act.put, sa, sz, ss]
            have Hb : Hid (Mm (wm u0 γm3 (#[ent (X, Y, Z) 1 0]) 1) [(γ10_2, pt X Y Z), (γ5_2, pt X Y Z), (γ1_0, kd p r c gx gy), (g, p2 X Y Z X Y Z)] ∧ Mr γm3 (#[ent (X, Y, Z) 1 0]) 1 w (wm u0 γm3 (#[ent (X, Y, Z) 1 0]) 1)) := ⟨Ha.out.1.wm Ha.out.2 _ _, Ha.out.2.wm _ _⟩
            generalize wm u0 γm3 (#[ent (X, Y, Z) 1 0]) 1 = u1 at Hb ⊢
            refine any_ready [5] (by kernel_rfl) (by decide) (fun i hi => ?_)
            obtain rfl := List.mem_singleton.1 hi
            refine op_val (d := 30) (v := .int .i64 0) (w' := u1) rfl rfl rfl (by go_simp) ?_
            simp only [Act.put, sa, sz, ss]
            refine any_ready [6] (by kernel_rfl) (by decide) (fun i hi => ?_)
            obtain rfl := List.mem_singleton.1 hi
            refine op_skip (w' := wm u1 γm3 (#[ent (X, Y, Z) 2 0]) 1) rfl rfl rfl (ex_eStore Hb.out.2.at_ (idx_1 _ _) rfl rfl rfl rfl rfl) ?_
            have Hc : Mm (wm u1 γm3 (#[ent (X, Y, Z) 2 0]) 1) [(γ10_2, pt X Y Z), (γ5_2, pt X Y Z), (γ1_0, kd p r c gx gy), (g, p2 X Y Z X Y Z)] ∧ Mr γm3 (#[ent (X, Y, Z) 2 0]) 1 w (wm u1 γm3 (#[ent (X, Y, Z) 2 0]) 1) := ⟨Hb.out.1.wm Hb.out.2 _ _, Hb.out.2.wm _ _⟩
            exact ⟨by kernel_rfl, rfl, rfl, Hc⟩
          obtain rfl := List.mem_singleton.1 hi
          refine op_val (d := 29) (v := .tuple #[.int .i64 1, .int .i64 0]) (w' := (wm u0 γm3 (#[ent (X, Y, Z) 1 0]) 1)) rfl rfl rfl (ex_entryS (a := (X, Y, Z)) Ha.out.2.at_ rfl rfl rfl) ?_
          simp only [Act.put, sa, sz, ss]
          have Hb : Hid (Mm (wm u0 γm3 (#[ent (X, Y, Z) 1 0]) 1) [(γ10_2, pt X Y Z), (γ5_2, pt X Y Z), (γ1_0, kd p r c gx gy), (g, p2 X Y Z X Y Z)] ∧ Mr γm3 (#[ent (X, Y, Z) 1 0]) 1 w (wm u0 γm3 (#[ent (X, Y, Z) 1 0]) 1)) := ⟨Ha.out.1.wm Ha.out.2 _ _, Ha.out.2.wm _ _⟩
          generalize wm u0 γm3 (#[ent (X, Y, Z) 1 0]) 1 = u1 at Hb ⊢
          refine any_ready [3, 5] (by kernel_rfl) (by decide) (fun i hi => ?_)
          rcases List.mem_cons.1 hi with rfl | hi
          · have hrd : True := trivial
            clear hrd
            refine op_val (d := 28) (v := .int .i64 2) (w' := u1) rfl rfl rfl (by kernel_rfl) ?_
            simp only [Act.put, sa, sz, ss]
            refine any_ready [5] (by kernel_rfl) (by decide) (fun i hi => ?_)
            obtain rfl := List.mem_singleton.1 hi
            refine op_val (d := 30) (v := .int .i64 0) (w' := u1) rfl rfl rfl (by go_simp) ?_
            simp only [Act.put, sa, sz, ss]
            refine any_ready [6] (by kernel_rfl) (by decide) (fun i hi => ?_)
            obtain rfl := List.mem_singleton.1 hi
            refine op_skip (w' := wm u1 γm3 (#[ent (X, Y, Z) 2 0]) 1) rfl rfl rfl (ex_eStore Hb.out.2.at_ (idx_1 _ _) rfl rfl rfl rfl rfl) ?_
            have Hc : Mm (wm u1 γm3 (#[ent (X, Y, Z) 2 0]) 1) [(γ10_2, pt X Y Z), (γ5_2, pt X Y Z), (γ1_0, kd p r c gx gy), (g, p2 X Y Z X Y Z)] ∧ Mr γm3 (#[ent (X, Y, Z) 2 0]) 1 w (wm u1 γm3 (#[ent (X, Y, Z) 2 0]) 1) := ⟨Hb.out.1.wm Hb.out.2 _ _, Hb.out.2.wm _ _⟩
            exact ⟨by kernel_rfl, rfl, rfl, Hc⟩
          obtain rfl := List.mem_singleton.1 hi
          refine op_val (d := 30) (v := .int .i64 0) (w' := u1) rfl rfl rfl (by go_simp) ?_
          simp only [Act.put, sa, sz, ss]
          refine any_ready [3] (by kernel_rfl) (by decide) (fun i hi => ?_)
          obtain rfl := List.mem_singleton.1 hi
          refine op_val (d := 28) (v := .int .i64 2) (w' := u1) rfl rfl rfl (by kernel_rfl) ?_
          simp only [Act.put, sa, sz, ss]
          refine any_ready [6] (by kernel_rfl) (by decide) (fun i hi => ?_)
          obtain rfl := List.mem_singleton.1 hi
          refine op_skip (w' := wm u1 γm3 (#[ent (X, Y, Z) 2 0]) 1) rfl rfl rfl (ex_eStore Hb.out.2.at_ (idx_1 _ _) rfl rfl rfl rfl rfl) ?_
          have Hc : Mm (wm u1 γm3 (#[ent (X, Y, Z) 2 0]) 1) [(γ10_2, pt X Y Z), (γ5_2, pt X Y Z), (γ1_0, kd p r c gx gy), (g, p2 X Y Z X Y Z)] ∧ Mr γm3 (#[ent (X, Y, Z) 2 0]) 1 w (wm u1 γm3 (#[ent (X, Y, Z) 2 0]) 1) := ⟨Hb.out.1.wm Hb.out.2 _ _, Hb.out.2.wm _ _⟩
          exact ⟨by kernel_rfl, rfl, rfl, Hc⟩
        obtain rfl := List.mem_singleton.1 hi
        refine op_val (d := 29) (v := .tuple #[.int .i64 1, .int .i64 0]) (w' := (wm u0 γm3 (#[ent (X, Y, Z) 1 0]) 1)) rfl rfl rfl (ex_entryS (a := (X, Y, Z)) Ha.out.2.at_ rfl rfl rfl) ?_
        simp only [Act.put, sa, sz, ss]
        have Hb : Hid (Mm (wm u0 γm3 (#[ent (X, Y, Z) 1 0]) 1) [(γ10_2, pt X Y Z), (γ5_2, pt X Y Z), (γ1_0, kd p r c gx gy), (g, p2 X Y Z X Y Z)] ∧ Mr γm3 (#[ent (X, Y, Z) 1 0]) 1 w (wm u0 γm3 (#[ent (X, Y, Z) 1 0]) 1)) := ⟨Ha.out.1.wm Ha.out.2 _ _, Ha.out.2.wm _ _⟩
        generalize wm u0 γm3 (#[ent (X, Y, Z) 1 0]) 1 = u1 at Hb ⊢
        refine any_ready [2, 5] (by kernel_rfl) (by decide) (fun i hi => ?_)
        rcases List.mem_cons.1 hi with rfl | hi
        · have hrd : True := trivial
          clear hrd
          refine op_val (d := 27) (v := .int .i64 1) (w' := u1) rfl rfl rfl (ex_look Hb.out.2.at_ (by have e := find_1 (X, Y, Z) (X, Y, Z) 1 0 u1; rw [if_pos rfl] at e; exact e) rfl rfl rfl rfl) ?_
          simp only [Act.put, sa, sz, ss]
          refine any_ready [3, 5] (by kernel_rfl) (by decide) (fun i hi => ?_)
          rcases List.mem_cons.1 hi with rfl | hi
          · have hrd : True := trivial
            clear hrd
            refine op_val (d := 28) (v := .int .i64 2) (w' := u1) rfl rfl rfl (by kernel_rfl) ?_
            simp only [Act.put, sa, sz, ss]
            refine any_ready [5] (by kernel_rfl) (by decide) (fun i hi => ?_)
            obtain rfl := List.mem_singleton.1 hi
            refine op_val (d := 30) (v := .int .i64 0) (w' := u1) rfl rfl rfl (by go_simp) ?_
            simp only [Act.put, sa, sz, ss]
            refine any_ready [6] (by kernel_rfl) (by decide) (fun i hi => ?_)
            obtain rfl := List.mem_singleton.1 hi
            refine op_skip (w' := wm u1 γm3 (#[ent (X, Y, Z) 2 0]) 1) rfl rfl rfl (ex_eStore Hb.out.2.at_ (idx_1 _ _) rfl rfl rfl rfl rfl) ?_
            have Hc : Mm (wm u1 γm3 (#[ent (X, Y, Z) 2 0]) 1) [(γ10_2, pt X Y Z), (γ5_2, pt X Y Z), (γ1_0, kd p r c gx gy), (g, p2 X Y Z X Y Z)] ∧ Mr γm3 (#[ent (X, Y, Z) 2 0]) 1 w (wm u1 γm3 (#[ent (X, Y, Z) 2 0]) 1) := ⟨Hb.out.1.wm Hb.out.2 _ _, Hb.out.2.wm _ _⟩
            exact ⟨by kernel_rfl, rfl, rfl, Hc⟩
          obtain rfl := List.mem_singleton.1 hi
          refine op_val (d := 30) (v := .int .i64 0) (w' := u1) rfl rfl rfl (by go_simp) ?_
          simp only [Act.put, sa, sz, ss]
          refine any_ready [3] (by kernel_rfl) (by decide) (fun i hi => ?_)
          obtain rfl := List.mem_singleton.1 hi
          refine op_val (d := 28) (v := .int .i64 2) (w' := u1) rfl rfl rfl (by kernel_rfl) ?_
          simp only [Act.put, sa, sz, ss]
          refine any_ready [6] (by kernel_rfl) (by decide) (fun i hi => ?_)
          obtain rfl := List.mem_singleton.1 hi
          refine op_skip (w' := wm u1 γm3 (#[ent (X, Y, Z) 2 0]) 1) rfl rfl rfl (ex_eStore Hb.out.2.at_ (idx_1 _ _) rfl rfl rfl rfl rfl) ?_
          have Hc : Mm (wm u1 γm3 (#[ent (X, Y, Z) 2 0]) 1) [(γ10_2, pt X Y Z), (γ5_2, pt X Y Z), (γ1_0, kd p r c gx gy), (g, p2 X Y Z X Y Z)] ∧ Mr γm3 (#[ent (X, Y, Z) 2 0]) 1 w (wm u1 γm3 (#[ent (X, Y, Z) 2 0]) 1) := ⟨Hb.out.1.wm Hb.out.2 _ _, Hb.out.2.wm _ _⟩
          exact ⟨by kernel_rfl, rfl, rfl, Hc⟩
        obtain rfl := List.mem_singleton.1 hi
        refine op_val (d := 30) (v := .int .i64 0) (w' := u1) rfl rfl rfl (by go_simp) ?_
        simp only [Act.put, sa, sz, ss]
        refine any_ready [2] (by kernel_rfl) (by decide) (fun i hi => ?_)
        obtain rfl := List.mem_singleton.1 hi
        refine op_val (d := 27) (v := .int .i64 1) (w' := u1) rfl rfl rfl (ex_look Hb.out.2.at_ (by have e := find_1 (X, Y, Z) (X, Y, Z) 1 0 u1; rw [if_pos rfl] at e; exact e) rfl rfl rfl rfl) ?_
        simp only [Act.put, sa, sz, ss]
        refine any_ready [3] (by kernel_rfl) (by decide) (fun i hi => ?_)
        obtain rfl := List.mem_singleton.1 hi
        refine op_val (d := 28) (v := .int .i64 2) (w' := u1) rfl rfl rfl (by kernel_rfl) ?_
        simp only [Act.put, sa, sz, ss]
        refine any_ready [6] (by kernel_rfl) (by decide) (fun i hi => ?_)
        obtain rfl := List.mem_singleton.1 hi
        refine op_skip (w' := wm u1 γm3 (#[ent (X, Y, Z) 2 0]) 1) rfl rfl rfl (ex_eStore Hb.out.2.at_ (idx_1 _ _) rfl rfl rfl rfl rfl) ?_
        have Hc : Mm (wm u1 γm3 (#[ent (X, Y, Z) 2 0]) 1) [(γ10_2, pt X Y Z), (γ5_2, pt X Y Z), (γ1_0, kd p r c gx gy), (g, p2 X Y Z X Y Z)] ∧ Mr γm3 (#[ent (X, Y, Z) 2 0]) 1 w (wm u1 γm3 (#[ent (X, Y, Z) 2 0]) 1) := ⟨Hb.out.1.wm Hb.out.2 _ _, Hb.out.2.wm _ _⟩
        exact ⟨by kernel_rfl, rfl, rfl, Hc⟩
      obtain rfl := List.mem_singleton.1 hi
      refine op_val (d := 26) (v := .agg (pt X Y Z).toArray) (w' := u0) rfl rfl rfl (ex_loadT Ha.out.1 0 rfl rfl rfl Try.isAgg25 Try.sizeOf25 rfl rfl) ?_
      simp only [Act.put, sa, sz, ss]
      refine any_ready [0] (by kernel_rfl) (by decide) (fun i hi => ?_)
      obtain rfl := List.mem_singleton.1 hi
      refine op_val (d := 25) (v := .map (some γm3)) (w' := u0) rfl rfl rfl (by rfl) ?_
      simp only [Act.put, sa, sz, ss]
      refine any_ready [2, 4] (by kernel_rfl) (by decide) (fun i hi => ?_)
      rcases List.mem_cons.1 hi with rfl | hi
      · have hrd : True := trivial
        clear hrd
        refine op_val (d := 27) (v := .int .i64 1) (w' := u0) rfl rfl rfl (ex_look Ha.out.2.at_ (by have e := find_1 (X, Y, Z) (X, Y, Z) 1 0 u0; rw [if_pos rfl] at e; exact e) rfl rfl rfl rfl) ?_
        simp only [Act.put, sa, sz, ss]
        refine any_ready [3, 4] (by kernel_rfl) (by decide) (fun i hi => ?_)
        rcases List.mem_cons.1 hi with rfl | hi
        · have hrd : True := trivial
          clear hrd
          refine op_val (d := 28) (v := .int .i64 2) (w' := u0) rfl rfl rfl (by kernel_rfl) ?_
          simp only [Act.put, sa, sz, ss]
          refine any_ready [4] (by kernel_rfl) (by decide) (fun i hi => ?_)
          obtain rfl := List.mem_singleton.1 hi
          refine op_val (d := 29) (v := .tuple #[.int .i64 1, .int .i64 0]) (w' := (wm u0 γm3 (#[ent (X, Y, Z) 1 0]) 1)) rfl rfl rfl (ex_entryS (a := (X, Y, Z)) Ha.out.2.at_ rfl rfl rfl) ?_
          simp only [Act.put, sa, sz, ss]
          have Hb : Hid (Mm (wm u0 γm3 (#[ent (X, Y, Z) 1 0]) 1) [(γ10_2, pt X Y Z), (γ5_2, pt X Y Z), (γ1_0, kd p r c gx gy), (g, p2 X Y Z X Y Z)] ∧ Mr γm3 (#[ent (X, Y, Z) 1 0]) 1 w (wm u0 γm3 (#[ent (X, Y, Z) 1 0]) 1)) := ⟨Ha.out.1.wm Ha.out.2 _ _, Ha.out.2.wm _ _⟩
          generalize wm u0 γm3 (#[ent (X, Y, Z) 1 0]) 1 = u1 at Hb ⊢
          refine any_ready [5] (by kernel_rfl) (by decide) (fun i hi => ?_)
          obtain rfl := List.mem_singleton.1 hi
          refine op_val (d := 30) (v := .int .i64 0) (w' := u1) rfl rfl rfl (by go_simp) ?_
          simp only [Act.put, sa, sz, ss]
          refine any_ready [6] (by kernel_rfl) (by decide) (fun i hi => ?_)
          obtain rfl := List.mem_singleton.1 hi
          refine op_skip (w' := wm u1 γm3 (#[ent (X, Y, Z) 2 0]) 1) rfl rfl rfl (ex_eStore Hb.out.2.at_ (idx_1 _ _) rfl rfl rfl rfl rfl) ?_
          have Hc : Mm (wm u1 γm3 (#[ent (X, Y, Z) 2 0]) 1) [(γ10_2, pt X Y Z), (γ5_2, pt X Y Z), (γ1_0, kd p r c gx gy), (g, p2 X Y Z X Y Z)] ∧ Mr γm3 (#[ent (X, Y, Z) 2 0]) 1 w (wm u1 γm3 (#[ent (X, Y, Z) 2 0]) 1) := ⟨Hb.out.1.wm Hb.out.2 _ _, Hb.out.2.wm _ _⟩
          exact ⟨by kernel_rfl, rfl, rfl, Hc⟩
        obtain rfl := List.mem_singleton.1 hi
        refine op_val (d := 29) (v := .tuple #[.int .i64 1, .int .i64 0]) (w' := (wm u0 γm3 (#[ent (X, Y, Z) 1 0]) 1)) rfl rfl rfl (ex_entryS (a := (X, Y, Z)) Ha.out.2.at_ rfl rfl rfl) ?_
        simp only [Act.put, sa, sz, ss]
        have Hb : Hid (Mm (wm u0 γm3 (#[ent (X, Y, Z) 1 0]) 1) [(γ10_2, pt X Y Z), (γ5_2, pt X Y Z), (γ1_0, kd p r c gx gy), (g, p2 X Y Z X Y Z)] ∧ Mr γm3 (#[ent (X, Y, Z) 1 0]) 1 w (wm u0 γm3 (#[ent (X, Y, Z) 1 0]) 1)) := ⟨Ha.out.1.wm Ha.out.2 _ _, Ha.out.2.wm _ _⟩
        generalize wm u0 γm3 (#[ent (X, Y, Z) 1 0]) 1 = u1 at Hb ⊢
        refine any_ready [3, 5] (by kernel_rfl) (by decide) (fun i hi => ?_)
        rcases List.mem_cons.1 hi with rfl | hi
        · have hrd : True := trivial
          clear hrd
          refine op_val (d := 28) (v := .int .i64 2) (w' := u1) rfl rfl rfl (by kernel_rfl) ?_
          simp only [Act.put, sa, sz, ss]
          refine any_ready [5] (by kernel_rfl) (by decide) (fun i hi => ?_)
          obtain rfl := List.mem_singleton.1 hi
          refine op_val (d := 30) (v := .int .i64 0) (w' := u1) rfl rfl rfl (by go_simp) ?_
          simp only [Act.put, sa, sz, ss]
          refine any_ready [6] (by kernel_rfl) (by decide) (fun i hi => ?_)
          obtain rfl := List.mem_singleton.1 hi
          refine op_skip (w' := wm u1 γm3 (#[ent (X, Y, Z) 2 0]) 1) rfl rfl rfl (ex_eStore Hb.out.2.at_ (idx_1 _ _) rfl rfl rfl rfl rfl) ?_
          have Hc : Mm (wm u1 γm3 (#[ent (X, Y, Z) 2 0]) 1) [(γ10_2, pt X Y Z), (γ5_2, pt X Y Z), (γ1_0, kd p r c gx gy), (g, p2 X Y Z X Y Z)] ∧ Mr γm3 (#[ent (X, Y, Z) 2 0]) 1 w (wm u1 γm3 (#[ent (X, Y, Z) 2 0]) 1) := ⟨Hb.out.1.wm Hb.out.2 _ _, Hb.out.2.wm _ _⟩
          exact ⟨by kernel_rfl, rfl, rfl, Hc⟩
        obtain rfl := List.mem_singleton.1 hi
        refine op_val (d := 30) (v := .int .i64 0) (w' := u1) rfl rfl rfl (by go_simp) ?_
        simp only [Act.put, sa, sz, ss]
        refine any_ready [3] (by kernel_rfl) (by decide) (fun i hi => ?_)
        obtain rfl := List.mem_singleton.1 hi
        refine op_val (d := 28) (v := .int .i64 2) (w' := u1) rfl rfl rfl (by kernel_rfl) ?_
        simp only [Act.put, sa, sz, ss]
        refine any_ready [6] (by kernel_rfl) (by decide) (fun i hi => ?_)
        obtain rfl := List.mem_singleton.1 hi
        refine op_skip (w' := wm u1 γm3 (#[ent (X, Y, Z) 2 0]) 1) rfl rfl rfl (ex_eStore Hb.out.2.at_ (idx_1 _ _) rfl rfl rfl rfl rfl) ?_
        have Hc : Mm (wm u1 γm3 (#[ent (X, Y, Z) 2 0]) 1) [(γ10_2, pt X Y Z), (γ5_2, pt X Y Z), (γ1_0, kd p r c gx gy), (g, p2 X Y Z X Y Z)] ∧ Mr γm3 (#[ent (X, Y, Z) 2 0]) 1 w (wm u1 γm3 (#[ent (X, Y, Z) 2 0]) 1) := ⟨Hb.out.1.wm Hb.out.2 _ _, Hb.out.2.wm _ _⟩
        exact ⟨by kernel_rfl, rfl, rfl, Hc⟩
      obtain rfl := List.mem_singleton.1 hi
      refine op_val (d := 29) (v := .tuple #[.int .i64 1, .int .i64 0]) (w' := (wm u0 γm3 (#[ent (X, Y, Z) 1 0]) 1)) rfl rfl rfl (ex_entryS (a := (X, Y, Z)) Ha.out.2.at_ rfl rfl rfl) ?_
      simp only [Act.put, sa, sz, ss]
      have Hb : Hid (Mm (wm u0 γm3 (#[ent (X, Y, Z) 1 0]) 1) [(γ10_2, pt X Y Z), (γ5_2, pt X Y Z), (γ1_0, kd p r c gx gy), (g, p2 X Y Z X Y Z)] ∧ Mr γm3 (#[ent (X, Y, Z) 1 0]) 1 w (wm u0 γm3 (#[ent (X, Y, Z) 1 0]) 1)) := ⟨Ha.out.1.wm Ha.out.2 _ _, Ha.out.2.wm _ _⟩
      generalize wm u0 γm3 (#[ent (X, Y, Z) 1 0]) 1 = u1 at Hb ⊢
      refine any_ready [2, 5] (by kernel_rfl) (by decide) (fun i hi => ?_)
      rcases List.mem_cons.1 hi with rfl | hi
      · have hrd : True := trivial
        clear hrd
        refine op_val (d := 27) (v := .int .i64 1) (w' := u1) rfl rfl rfl (ex_look Hb.out.2.at_ (by have e := find_1 (X, Y, Z) (X, Y, Z) 1 0 u1; rw [if_pos rfl] at e; exact e) rfl rfl rfl rfl) ?_
        simp only [Act.put, sa, sz, ss]
        refine any_ready [3, 5] (by kernel_rfl) (by decide) (fun i hi => ?_)
        rcases List.mem_cons.1 hi with rfl | hi
        · have hrd : True := trivial
          clear hrd
          refine op_val (d := 28) (v := .int .i64 2) (w' := u1) rfl rfl rfl (by kernel_rfl) ?_
          simp only [Act.put, sa, sz, ss]
          refine any_ready [5] (by kernel_rfl) (by decide) (fun i hi => ?_)
          obtain rfl := List.mem_singleton.1 hi
          refine op_val (d := 30) (v := .int .i64 0) (w' := u1) rfl rfl rfl (by go_simp) ?_
          simp only [Act.put, sa, sz, ss]
          refine any_ready [6] (by kernel_rfl) (by decide) (fun i hi => ?_)
          obtain rfl := List.mem_singleton.1 hi
          refine op_skip (w' := wm u1 γm3 (#[ent (X, Y, Z) 2 0]) 1) rfl rfl rfl (ex_eStore Hb.out.2.at_ (idx_1 _ _) rfl rfl rfl rfl rfl) ?_
          have Hc : Mm (wm u1 γm3 (#[ent (X, Y, Z) 2 0]) 1) [(γ10_2, pt X Y Z), (γ5_2, pt X Y Z), (γ1_0, kd p r c gx gy), (g, p2 X Y Z X Y Z)] ∧ Mr γm3 (#[ent (X, Y, Z) 2 0]) 1 w (wm u1 γm3 (#[ent (X, Y, Z) 2 0]) 1) := ⟨Hb.out.1.wm Hb.out.2 _ _, Hb.out.2.wm _ _⟩
          exact ⟨by kernel_rfl, rfl, rfl, Hc⟩
        obtain rfl := List.mem_singleton.1 hi
        refine op_val (d := 30) (v := .int .i64 0) (w' := u1) rfl rfl rfl (by go_simp) ?_
        simp only [Act.put, sa, sz, ss]
        refine any_ready [3] (by kernel_rfl) (by decide) (fun i hi => ?_)
        obtain rfl := List.mem_singleton.1 hi
        refine op_val (d := 28) (v := .int .i64 2) (w' := u1) rfl rfl rfl (by kernel_rfl) ?_
        simp only [Act.put, sa, sz, ss]
        refine any_ready [6] (by kernel_rfl) (by decide) (fun i hi => ?_)
        obtain rfl := List.mem_singleton.1 hi
        refine op_skip (w' := wm u1 γm3 (#[ent (X, Y, Z) 2 0]) 1) rfl rfl rfl (ex_eStore Hb.out.2.at_ (idx_1 _ _) rfl rfl rfl rfl rfl) ?_
        have Hc : Mm (wm u1 γm3 (#[ent (X, Y, Z) 2 0]) 1) [(γ10_2, pt X Y Z), (γ5_2, pt X Y Z), (γ1_0, kd p r c gx gy), (g, p2 X Y Z X Y Z)] ∧ Mr γm3 (#[ent (X, Y, Z) 2 0]) 1 w (wm u1 γm3 (#[ent (X, Y, Z) 2 0]) 1) := ⟨Hb.out.1.wm Hb.out.2 _ _, Hb.out.2.wm _ _⟩
        exact ⟨by kernel_rfl, rfl, rfl, Hc⟩
      obtain rfl := List.mem_singleton.1 hi
      refine op_val (d := 30) (v := .int .i64 0) (w' := u1) rfl rfl rfl (by go_simp) ?_
      simp only [Act.put, sa, sz, ss]
      refine any_ready [2] (by kernel_rfl) (by decide) (fun i hi => ?_)
      obtain rfl := List.mem_singleton.1 hi
      refine op_val (d := 27) (v := .int .i64 1) (w' := u1) rfl rfl rfl (ex_look Hb.out.2.at_ (by have e := find_1 (X, Y, Z) (X, Y, Z) 1 0 u1; rw [if_pos rfl] at e; exact e) rfl rfl rfl rfl) ?_
      simp only [Act.put, sa, sz, ss]
      refine any_ready [3] (by kernel_rfl) (by decide) (fun i hi => ?_)
      obtain rfl := List.mem_singleton.1 hi
      refine op_val (d := 28) (v := .int .i64 2) (w' := u1) rfl rfl rfl (by kernel_rfl) ?_
      simp only [Act.put, sa, sz, ss]
      refine any_ready [6] (by kernel_rfl) (by decide) (fun i hi => ?_)
      obtain rfl := List.mem_singleton.1 hi
      refine op_skip (w' := wm u1 γm3 (#[ent (X, Y, Z) 2 0]) 1) rfl rfl rfl (ex_eStore Hb.out.2.at_ (idx_1 _ _) rfl rfl rfl rfl rfl) ?_
      have Hc : Mm (wm u1 γm3 (#[ent (X, Y, Z) 2 0]) 1) [(γ10_2, pt X Y Z), (γ5_2, pt X Y Z), (γ1_0, kd p r c gx gy), (g, p2 X Y Z X Y Z)] ∧ Mr γm3 (#[ent (X, Y, Z) 2 0]) 1 w (wm u1 γm3 (#[ent (X, Y, Z) 2 0]) 1) := ⟨Hb.out.1.wm Hb.out.2 _ _, Hb.out.2.wm _ _⟩
      exact ⟨by kernel_rfl, rfl, rfl, Hc⟩
    case cont12 =>
      intro w13 hMB
      have H13 : Hid (_ ∧ _) := hMB
      clear hMB H12
      refine block_normal (then_normal ?_)
      refine walk_seqA 1 [.quiet (.int .i64 2)] (sB H13) ?ho13 ?he13
      case ho13 => exact ak (fun γ => ⟨rfl, fun w' _ => by kernel_rfl⟩) trivial
      intro γ w14 l hM hl
      have M14 : Mm w14 [(γ10_2, pt X Y Z), (γ5_2, pt X Y Z), (γ1_0, kd p r c gx gy), (g, p2 X Y Z X Y Z)] := H13.out.1.grow hM (Nat.le_refl _) hl [] rfl (by decide)
      have B14 : Mr γm3 (#[ent (X, Y, Z) 2 0]) 1 w w14 := Mr.grow H13.out.2 (hM.below)
      clear hM hl l H13
      clear γ
      have H14 : Hid (_ ∧ _) := ⟨M14, B14⟩
      clear M14 B14
      refine rest_at (l := [1]) rfl ?_
      refine rest_set (d := 11) rfl rfl rfl rfl ?_
      simp only [Act.put, sa, sz, ss]
      refine rest_nil (then_normal ?_)
      refine rounds_in (n := 0) ?_
      refine wp_seq ?_
      refine walk_seqA 1 [.quiet (.bool false)] (sB H14) ?ho14 ?he14
      case ho14 => exact ak (by refine fun γ => ⟨rfl, fun w' h => ?_⟩; clear h; go_simp) trivial
      intro γ w15 l hM hl
      have M15 : Mm w15 [(γ10_2, pt X Y Z), (γ5_2, pt X Y Z), (γ1_0, kd p r c gx gy), (g, p2 X Y Z X Y Z)] := H14.out.1.grow hM (Nat.le_refl _) hl [] rfl (by decide)
      have B15 : Mr γm3 (#[ent (X, Y, Z) 2 0]) 1 w w15 := Mr.grow H14.out.2 (hM.below)
      clear hM hl l H14
      clear γ
      have H15 : Hid (_ ∧ _) := ⟨M15, B15⟩
      clear M15 B15
      refine rest0 rfl (then_normal (wp_seq (wp_cond_false rfl ?_)))
      refine wp_exit ?_
      repeat refine then_exit ?_
      refine block_exit ?_
      refine then_normal (wp_seq ?_)
      refine walk_seqA 1 [.quiet (.bool true)] (sB H15) ?ho15 ?he15
      case ho15 => exact ak (fun _ => ⟨rfl, fun _ _ => rfl⟩) trivial
      intro γ w16 l hM hl
      have M16 : Mm w16 [(γ10_2, pt X Y Z), (γ5_2, pt X Y Z), (γ1_0, kd p r c gx gy), (g, p2 X Y Z X Y Z)] := H15.out.1.grow hM (Nat.le_refl _) hl [] rfl (by decide)
      have B16 : Mr γm3 (#[ent (X, Y, Z) 2 0]) 1 w w16 := Mr.grow H15.out.2 (hM.below)
      clear hM hl l H15
      clear γ
      have H16 : Hid (_ ∧ _) := ⟨M16, B16⟩
      clear M16 B16
      refine rest0 rfl (then_normal (wp_ret ?_))
      repeat (first | refine then_ret ?_ | refine block_ret ?_)
      refine bodyPost_ret (v := .bool true) (by simp [results, Try.results60, go_sem, *]) rfl ?_
      exact ⟨rfl, H16.out.2.bl⟩
set_option maxHeartbeats 4000000 in
set_option maxRecDepth 100000 in
theorem all_both (hp : Pr p) (hr : r < 18446744073709551616) (X Y : Nat) (Z : Bool) (X' Y' : Nat) (Z' : Bool) (hne : ¬ (X', Y', Z') = (X, Y, Z)) (h1 : ig p r X Y Z = true) (h2 : ig p r X' Y' Z' = true) (g : Nat) (w : World) (hm : Mm w [(g, p2 X Y Z X' Y' Z')]) :
    Calls Try.prog 60 #[.agg (kd p r c gx gy).toArray, .slice (some ⟨g, 0, none⟩) 2 2] w fun e w' => e = .returned (.bool true) ∧ Below w.heap.size w w' := by
  have H0 : Hid (_ ∧ _) := ⟨hm, Below.refl w.heap.size w⟩
  clear hm
  go_enter Try.func60, Try.ntmps60
  refine wp_seq ?_
  refine walk_seqA 2 [.made (kd p r c gx gy) 72, .quiet (.bool false)] (sB H0) ?ho1 ?he1
  case ho1 => exact ak (fun γ => ⟨rfl, fun w' => ex_boxT rfl rfl⟩) (ak (fun _ => ⟨rfl, fun _ _ => rfl⟩) trivial)
  intro γ w1 l hM hl
  have H1 : Hid (Mm w1 [(γ 0, kd p r c gx gy), (g, p2 X Y Z X' Y' Z')] ∧ _) := growB H0 hM (Nat.le_refl _) hl [0] rfl (by decide)
  have o1_0 := ownB H0 hM (Nat.le_refl _) hl (i := 0) rfl
  clear hM hl l
  generalize γ 0 = γ1_0 at H1 o1_0 ⊢
  clear γ
  refine rest0 rfl (then_normal (wp_seq ?_))
  refine walk_seqB 0 [] H1 ?ho2 ?he2
  case ho2 => exact trivial
  intro _ w2 H2
  clear H1
  refine rest_at (l := [0, 1]) rfl ?_
  refine rest_set (d := 8) (v := .map (some w2.heap.size)) (w' := w2.alloc (.map #[] 0)) rfl rfl rfl (ex_makeM0 rfl) ?_
  simp only [Act.put, sa, sz, ss]
  have H3 : Hid (Mm (w2.alloc (.map #[] 0)) [(γ1_0, kd p r c gx gy), (g, p2 X Y Z X' Y' Z')] ∧ Mr w2.heap.size #[] 0 w (w2.alloc (.map #[] 0))) := ⟨H2.out.1.below ((Below.refl _ _).alloc (Nat.le_refl _) _), Mr.made H2.out.2⟩
  clear H2
  generalize hgw : w2.alloc (.map #[] 0) = w3 at H3 ⊢
  clear hgw
  generalize w2.heap.size = γm3 at H3 ⊢
  refine rest_set (d := 5) rfl rfl rfl rfl ?_
  simp only [Act.put, sa, sz, ss]
  refine rest_nil (then_normal ?_)
  refine wp_seq (wp_seq ?_)
  refine walk_seqA 3 [.quiet (.slice (some ⟨g, 0, none⟩) 2 2), .quiet (.int .i64 2), .quiet (.int .i64 0)] (sB H3) ?ho3 ?he3
  case ho3 => exact ak (fun _ => ⟨rfl, fun _ _ => rfl⟩) (ak (by refine fun γ => ⟨rfl, fun w' h => ?_⟩; clear h; go_simp) (ak (fun _ => ⟨rfl, fun _ _ => rfl⟩) trivial))
  intro γ w4 l hM hl
  have M4 : Mm w4 [(γ1_0, kd p r c gx gy), (g, p2 X Y Z X' Y' Z')] := H3.out.1.grow hM (Nat.le_refl _) hl [] rfl (by decide)
  have B4 : Mr γm3 (#[]) 0 w w4 := Mr.grow H3.out.2 (hM.below)
  clear hM hl l H3
  clear γ
  have H4 : Hid (_ ∧ _) := ⟨M4, B4⟩
  clear M4 B4
  refine rest0 rfl (then_normal (wp_block ?_))
  refine wp_loop_rounds 3 ?_
  refine rounds_in (n := 2) ?_
  refine wp_seq ?_
  refine walk_seqA 1 [.quiet (.bool true)] (sB H4) ?ho4 ?he4
  case ho4 => exact ak (by refine fun γ => ⟨rfl, fun w' h => ?_⟩; clear h; go_simp) trivial
  intro γ w5 l hM hl
  have M5 : Mm w5 [(γ1_0, kd p r c gx gy), (g, p2 X Y Z X' Y' Z')] := H4.out.1.grow hM (Nat.le_refl _) hl [] rfl (by decide)
  have B5 : Mr γm3 (#[]) 0 w w5 := Mr.grow H4.out.2 (hM.below)
  clear hM hl l H4
  clear γ
  have H5 : Hid (_ ∧ _) := ⟨M5, B5⟩
  clear M5 B5
  refine rest0 rfl (then_normal (wp_seq ?_))
  refine wp_cond_true rfl (wp_skip ?_)
  refine then_normal (wp_seq ?_)
  refine wp_block (wp_seq ?_)
  refine walk_seqA 4 [.quiet (PT g 0), .quiet (.agg (pt X Y Z).toArray), .made (pt 0 0 false) 25, .laid 2 (pt 0 0 false) (pt X Y Z)] (sB H5) ?ho5 ?he5 (hL := ?hL5)
  case hL5 => exact ⟨⟨_, rfl⟩, trivial⟩
  case ho5 => exact ak (by refine fun γ => ⟨rfl, fun w' h => ?_⟩; clear h; go_simp) (ak (fun γ => ⟨rfl, fun w' h => ex_loadT h 1 rfl rfl rfl Try.isAgg25 Try.sizeOf25 rfl rfl⟩) (ak (fun γ => ⟨rfl, fun w' => ex_made25 rfl⟩) (ak (fun γ => ⟨rfl, rfl, rfl, fun w' h => ex_laidT h rfl rfl Try.sizeOf25 rfl rfl rfl⟩) trivial)))
  intro γ w6 l hM hl
  have M6 : Mm w6 [(γ 2, pt X Y Z), (γ1_0, kd p r c gx gy), (g, p2 X Y Z X' Y' Z')] := H5.out.1.grow hM (Nat.le_refl _) hl [2] rfl (by decide)
  have B6 : Mr γm3 (#[]) 0 w w6 := Mr.grow H5.out.2 (hM.below)
  have o5_2 : Hid (w.heap.size ≤ γ 2) := Nat.le_trans H5.out.2.size (hM.fin (Nat.le_refl _) hl (i := 2) rfl).2.1
  clear hM hl l H5
  generalize γ 2 = γ5_2 at M6 o5_2 ⊢
  clear γ
  have H6 : Hid (_ ∧ _) := ⟨M6, B6⟩
  clear M6 B6
  refine rest0 rfl (then_normal (wp_seq (wp_seq ?_)))
  refine (walk_seq) 10 [.quiet (.map (some γm3)), .quiet (.agg (pt X Y Z).toArray), .quiet (.int .i64 0), .quiet (.bool true), .quiet (.bool true), .quiet (.agg (kd p r c gx gy).toArray), .quiet (.agg (pt X Y Z).toArray), .call (.bool true), .quiet (.bool false), .quiet (.bool false)] (fun u' => Mm u' [(γ5_2, pt X Y Z), (γ1_0, kd p r c gx gy), (g, p2 X Y Z X' Y' Z')] ∧ u'.heap[γm3]? = some (.map #[] 0)) ?pre6 ?F6 ?hpre6 (fun γ => ?hF6) (by kernel_rfl) ?hL6 ?hS6 ?ho6 ?he6
  case hpre6 => simp only [tk, tz]; rfl
  case hF6 => simp only [fill, Kind.val, Act.put, sa, sz, ss]; rfl
  case hL6 => exact trivial
  case hS6 => exact fun w' hb => ⟨H6.out.1.below hb, (Mr.grow H6.out.2 (hb)).at_⟩
  case ho6 =>
    refine ak (fun _ => ⟨rfl, fun _ _ => rfl⟩) ?_
    refine ak (fun γ => ⟨rfl, fun w' hX => have h := hX.1; ex_loadT h 0 rfl rfl rfl Try.isAgg25 Try.sizeOf25 rfl rfl⟩) ?_
    refine ak (fun γ => ⟨rfl, fun w' hX => ex_look hX.2 (find_0 (X, Y, Z) _) rfl rfl rfl rfl⟩) ?_
    refine ak (by refine fun γ => ⟨rfl, fun w' h => ?_⟩; clear h; go_simp) ?_
    refine ak (fun _ => ⟨rfl, fun _ _ => rfl⟩) ?_
    refine ak (fun γ => ⟨rfl, fun w' hX => have h := hX.1; ex_loadT h 1 rfl rfl rfl Try.isAgg72 Try.sizeOf72 rfl rfl⟩) ?_
    refine ak (fun γ => ⟨rfl, fun w' hX => have h := hX.1; ex_loadT h 0 rfl rfl rfl Try.isAgg25 Try.sizeOf25 rfl rfl⟩) ?_
    refine ak (fun γ => ⟨rfl, fun w' hX => ⟨51, #[.agg (kd p r c gx gy).toArray, .agg (pt X Y Z).toArray], exec_call rfl call51 rfl (mpn rfl), ig_in hp hr X Y Z _ h1 w'⟩⟩) ?_
    refine ak (by refine fun γ => ⟨rfl, fun w' h => ?_⟩; clear h; go_simp) ?_
    refine ak (by refine fun γ => ⟨rfl, fun w' h => ?_⟩; clear h; go_simp) ?_
    exact trivial
  intro γ w7 l hM hl
  have M7 : Mm w7 [(γ5_2, pt X Y Z), (γ1_0, kd p r c gx gy), (g, p2 X Y Z X' Y' Z')] := H6.out.1.grow hM (Nat.le_refl _) hl [] rfl (by decide)
  have B7 : Mr γm3 (#[]) 0 w w7 := Mr.grow H6.out.2 (hM.below)
  clear hM hl l H6
  clear γ
  have H7 : Hid (_ ∧ _) := ⟨M7, B7⟩
  clear M7 B7
  refine rest0 rfl (then_normal (wp_cond_false rfl ?_))
  refine wp_skip (then_normal ?_)
  refine region_k (n := 7) ⟨#[.agg (kd p r c gx gy).toArray, .slice (some ⟨g, 0, none⟩) 2 2, PT γ1_0 0, undef, .bool false, .map (some γm3), undef, PT γ5_2 0, .map (some γm3), .slice (some ⟨g, 0, none⟩) 2 2, .int .i64 2, .int .i64 0, .bool true, PT g 0, .agg (pt X Y Z).toArray, .map (some γm3), .agg (pt X Y Z).toArray, .int .i64 0, .bool true, .bool true, .agg (kd p r c gx gy).toArray, .agg (pt X Y Z).toArray, .bool true, .bool false, .bool false, .map (some γm3), .agg (pt X Y Z).toArray, .int .i64 0, .int .i64 1, .tuple #[.int .i64 0, .int .i64 0], .int .i64 0, undef], []⟩ (fun w2 => Mm w2 [(γ5_2, pt X Y Z), (γ1_0, kd p r c gx gy), (g, p2 X Y Z X' Y' Z')] ∧ Mr γm3 (#[ent (X, Y, Z) 1 0]) 1 w w2) (by kernel_rfl) rfl ?tree7 ?cont7
  case tree7 =>
    have Ha : Hid (Mm w7.drew [(γ5_2, pt X Y Z), (γ1_0, kd p r c gx gy), (g, p2 X Y Z X' Y' Z')] ∧ Mr γm3 (#[]) 0 w w7.drew) := ⟨H7.out.1.drew, H7.out.2.grow (Below.refl _ _).drew⟩
    generalize w7.drew = u0 at Ha ⊢
    refine any_ready [0, 1] (by kernel_rfl) (by decide) (fun i hi => ?_)
    rcases List.mem_cons.1 hi with rfl | hi
    · have hrd : True := trivial
      clear hrd
      refine op_val (d := 25) (v := .map (some γm3)) (w' := u0) rfl rfl rfl (by rfl) ?_
      simp only [Act.put, sa, sz, ss]
      refine any_ready [1] (by kernel_rfl) (by decide) (fun i hi => ?_)
      obtain rfl := List.mem_singleton.1 hi
      refine op_val (d := 26) (v := .agg (pt X Y Z).toArray) (w' := u0) rfl rfl rfl (ex_loadT Ha.out.1 0 rfl rfl rfl Try.isAgg25 Try.sizeOf25 rfl rfl) ?_
      simp only [Act.put, sa, sz, ss]
      refine any_ready [2, 4] (by kernel_rfl) (by decide) (fun i hi => ?_)
      rcases List.mem_cons.1 hi with rfl | hi
      · have hrd : True := trivial
        clear hrd
        refine op_val (d := 27) (v := .int .i64 0) (w' := u0) rfl rfl rfl (ex_look Ha.out.2.at_ (find_0 (X, Y, Z) _) rfl rfl rfl rfl) ?_
        simp only [Act.put, sa, sz, ss]
        refine any_ready [3, 4] (by kernel_rfl) (by decide) (fun i hi => ?_)
        rcases List.mem_cons.1 hi with rfl | hi
        · have hrd : True := trivial
          clear hrd
          refine op_val (d := 28) (v := .int .i64 1) (w' := u0) rfl rfl rfl (by kernel_rfl) ?_
          simp only [Act.put, sa, sz, ss]
          refine any_ready [4] (by kernel_rfl) (by decide) (fun i hi => ?_)
          obtain rfl := List.mem_singleton.1 hi
          refine op_val (d := 29) (v := .tuple #[.int .i64 0, .int .i64 0]) (w' := (wm u0 γm3 (#[ent (X, Y, Z) 0 0]) 1)) rfl rfl rfl (ex_entryN (a := (X, Y, Z)) Ha.out.2.at_ (find_0 (X, Y, Z) _) rfl rfl rfl) ?_
          simp only [Act.put, sa, sz, ss]
          have Hb : Hid (Mm (wm u0 γm3 (#[ent (X, Y, Z) 0 0]) 1) [(γ5_2, pt X Y Z), (γ1_0, kd p r c gx gy), (g, p2 X Y Z X' Y' Z')] ∧ Mr γm3 (#[ent (X, Y, Z) 0 0]) 1 w (wm u0 γm3 (#[ent (X, Y, Z) 0 0]) 1)) := ⟨Ha.out.1.wm Ha.out.2 _ _, Ha.out.2.wm _ _⟩
          generalize wm u0 γm3 (#[ent (X, Y, Z) 0 0]) 1 = u1 at Hb ⊢
          refine any_ready [5] (by kernel_rfl) (by decide) (fun i hi => ?_)
          obtain rfl := List.mem_singleton.1 hi
          refine op_val (d := 30) (v := .int .i64 0) (w' := u1) rfl rfl rfl (by go_simp) ?_
          simp only [Act.put, sa, sz, ss]
          refine any_ready [6] (by kernel_rfl) (by decide) (fun i hi => ?_)
          obtain rfl := List.mem_singleton.1 hi
          refine op_skip (w' := wm u1 γm3 (#[ent (X, Y, Z) 1 0]) 1) rfl rfl rfl (ex_eStore Hb.out.2.at_ (idx_1 _ _) rfl rfl rfl rfl rfl) ?_
          have Hc : Mm (wm u1 γm3 (#[ent (X, Y, Z) 1 0]) 1) [(γ5_2, pt X Y Z), (γ1_0, kd p r c gx gy), (g, p2 X Y Z X' Y' Z')] ∧ Mr γm3 (#[ent (X, Y, Z) 1 0]) 1 w (wm u1 γm3 (#[ent (X, Y, Z) 1 0]) 1) := ⟨Hb.out.1.wm Hb.out.2 _ _, Hb.out.2.wm _ _⟩
          exact ⟨by kernel_rfl, rfl, rfl, Hc⟩
        obtain rfl := List.mem_singleton.1 hi
        refine op_val (d := 29) (v := .tuple #[.int .i64 0, .int .i64 0]) (w' := (wm u0 γm3 (#[ent (X, Y, Z) 0 0]) 1)) rfl rfl rfl (ex_entryN (a := (X, Y, Z)) Ha.out.2.at_ (find_0 (X, Y, Z) _) rfl rfl rfl) ?_
        simp only [Act.put, sa, sz, ss]
        have Hb : Hid (Mm (wm u0 γm3 (#[ent (X, Y, Z) 0 0]) 1) [(γ5_2, pt X Y Z), (γ1_0, kd p r c gx gy), (g, p2 X Y Z X' Y' Z')] ∧ Mr γm3 (#[ent (X, Y, Z) 0 0]) 1 w (wm u0 γm3 (#[ent (X, Y, Z) 0 0]) 1)) := ⟨Ha.out.1.wm Ha.out.2 _ _, Ha.out.2.wm _ _⟩
        generalize wm u0 γm3 (#[ent (X, Y, Z) 0 0]) 1 = u1 at Hb ⊢
        refine any_ready [3, 5] (by kernel_rfl) (by decide) (fun i hi => ?_)
        rcases List.mem_cons.1 hi with rfl | hi
        · have hrd : True := trivial
          clear hrd
          refine op_val (d := 28) (v := .int .i64 1) (w' := u1) rfl rfl rfl (by kernel_rfl) ?_
          simp only [Act.put, sa, sz, ss]
          refine any_ready [5] (by kernel_rfl) (by decide) (fun i hi => ?_)
          obtain rfl := List.mem_singleton.1 hi
          refine op_val (d := 30) (v := .int .i64 0) (w' := u1) rfl rfl rfl (by go_simp) ?_
          simp only [Act.put, sa, sz, ss]
          refine any_ready [6] (by kernel_rfl) (by decide) (fun i hi => ?_)
          obtain rfl := List.mem_singleton.1 hi
          refine op_skip (w' := wm u1 γm3 (#[ent (X, Y, Z) 1 0]) 1) rfl rfl rfl (ex_eStore Hb.out.2.at_ (idx_1 _ _) rfl rfl rfl rfl rfl) ?_
          have Hc : Mm (wm u1 γm3 (#[ent (X, Y, Z) 1 0]) 1) [(γ5_2, pt X Y Z), (γ1_0, kd p r c gx gy), (g, p2 X Y Z X' Y' Z')] ∧ Mr γm3 (#[ent (X, Y, Z) 1 0]) 1 w (wm u1 γm3 (#[ent (X, Y, Z) 1 0]) 1) := ⟨Hb.out.1.wm Hb.out.2 _ _, Hb.out.2.wm _ _⟩
          exact ⟨by kernel_rfl, rfl, rfl, Hc⟩
        obtain rfl := List.mem_singleton.1 hi
        refine op_val (d := 30) (v := .int .i64 0) (w' := u1) rfl rfl rfl (by go_simp) ?_
        simp only [Act.put, sa, sz, ss]
        refine any_ready [3] (by kernel_rfl) (by decide) (fun i hi => ?_)
        obtain rfl := List.mem_singleton.1 hi
        refine op_val (d := 28) (v := .int .i64 1) (w' := u1) rfl rfl rfl (by kernel_rfl) ?_
        simp only [Act.put, sa, sz, ss]
        refine any_ready [6] (by kernel_rfl) (by decide) (fun i hi => ?_)
        obtain rfl := List.mem_singleton.1 hi
        refine op_skip (w' := wm u1 γm3 (#[ent (X, Y, Z) 1 0]) 1) rfl rfl rfl (ex_eStore Hb.out.2.at_ (idx_1 _ _) rfl rfl rfl rfl rfl) ?_
        have Hc : Mm (wm u1 γm3 (#[ent (X, Y, Z) 1 0]) 1) [(γ5_2, pt X Y Z), (γ1_0, kd p r c gx gy), (g, p2 X Y Z X' Y' Z')] ∧ Mr γm3 (#[ent (X, Y, Z) 1 0]) 1 w (wm u1 γm3 (#[ent (X, Y, Z) 1 0]) 1) := ⟨Hb.out.1.wm Hb.out.2 _ _, Hb.out.2.wm _ _⟩
        exact ⟨by kernel_rfl, rfl, rfl, Hc⟩
      obtain rfl := List.mem_singleton.1 hi
      refine op_val (d := 29) (v := .tuple #[.int .i64 0, .int .i64 0]) (w' := (wm u0 γm3 (#[ent (X, Y, Z) 0 0]) 1)) rfl rfl rfl (ex_entryN (a := (X, Y, Z)) Ha.out.2.at_ (find_0 (X, Y, Z) _) rfl rfl rfl) ?_
      simp only [Act.put, sa, sz, ss]
      have Hb : Hid (Mm (wm u0 γm3 (#[ent (X, Y, Z) 0 0]) 1) [(γ5_2, pt X Y Z), (γ1_0, kd p r c gx gy), (g, p2 X Y Z X' Y' Z')] ∧ Mr γm3 (#[ent (X, Y, Z) 0 0]) 1 w (wm u0 γm3 (#[ent (X, Y, Z) 0 0]) 1)) := ⟨Ha.out.1.wm Ha.out.2 _ _, Ha.out.2.wm _ _⟩
      generalize wm u0 γm3 (#[ent (X, Y, Z) 0 0]) 1 = u1 at Hb ⊢
      refine any_ready [2, 5] (by kernel_rfl) (by decide) (fun i hi => ?_)
      rcases List.mem_cons.1 hi with rfl | hi
      · have hrd : True := trivial
        clear hrd
        refine op_val (d := 27) (v := .int .i64 0) (w' := u1) rfl rfl rfl (ex_look Hb.out.2.at_ (by have e := find_1 (X, Y, Z) (X, Y, Z) 0 0 u1; rw [if_pos rfl] at e; exact e) rfl rfl rfl rfl) ?_
        simp only [Act.put, sa, sz, ss]
        refine any_ready [3, 5] (by kernel_rfl) (by decide) (fun i hi => ?_)
        rcases List.mem_cons.1 hi with rfl | hi
        · have hrd : True := trivial
          clear hrd
          refine op_val (d := 28) (v := .int .i64 1) (w' := u1) rfl rfl rfl (by kernel_rfl) ?_
          simp only [Act.put, sa, sz, ss]
          refine any_ready [5] (by kernel_rfl) (by decide) (fun i hi => ?_)
          obtain rfl := List.mem_singleton.1 hi
          refine op_val (d := 30) (v := .int .i64 0) (w' := u1) rfl rfl rfl (by go_simp) ?_
          simp only [Act.put, sa, sz, ss]
          refine any_ready [6] (by kernel_rfl) (by decide) (fun i hi => ?_)
          obtain rfl := List.mem_singleton.1 hi
          refine op_skip (w' := wm u1 γm3 (#[ent (X, Y, Z) 1 0]) 1) rfl rfl rfl (ex_eStore Hb.out.2.at_ (idx_1 _ _) rfl rfl rfl rfl rfl) ?_
          have Hc : Mm (wm u1 γm3 (#[ent (X, Y, Z) 1 0]) 1) [(γ5_2, pt X Y Z), (γ1_0, kd p r c gx gy), (g, p2 X Y Z X' Y' Z')] ∧ Mr γm3 (#[ent (X, Y, Z) 1 0]) 1 w (wm u1 γm3 (#[ent (X, Y, Z) 1 0]) 1) := ⟨Hb.out.1.wm Hb.out.2 _ _, Hb.out.2.wm _ _⟩
          exact ⟨by kernel_rfl, rfl, rfl, Hc⟩
        obtain rfl := List.mem_singleton.1 hi
        refine op_val (d := 30) (v := .int .i64 0) (w' := u1) rfl rfl rfl (by go_simp) ?_
        simp only [Act.put, sa, sz, ss]
        refine any_ready [3] (by kernel_rfl) (by decide) (fun i hi => ?_)
        obtain rfl := List.mem_singleton.1 hi
        refine op_val (d := 28) (v := .int .i64 1) (w' := u1) rfl rfl rfl (by kernel_rfl) ?_
        simp only [Act.put, sa, sz, ss]
        refine any_ready [6] (by kernel_rfl) (by decide) (fun i hi => ?_)
        obtain rfl := List.mem_singleton.1 hi
        refine op_skip (w' := wm u1 γm3 (#[ent (X, Y, Z) 1 0]) 1) rfl rfl rfl (ex_eStore Hb.out.2.at_ (idx_1 _ _) rfl rfl rfl rfl rfl) ?_
        have Hc : Mm (wm u1 γm3 (#[ent (X, Y, Z) 1 0]) 1) [(γ5_2, pt X Y Z), (γ1_0, kd p r c gx gy), (g, p2 X Y Z X' Y' Z')] ∧ Mr γm3 (#[ent (X, Y, Z) 1 0]) 1 w (wm u1 γm3 (#[ent (X, Y, Z) 1 0]) 1) := ⟨Hb.out.1.wm Hb.out.2 _ _, Hb.out.2.wm _ _⟩
        exact ⟨by kernel_rfl, rfl, rfl, Hc⟩
      obtain rfl := List.mem_singleton.1 hi
      refine op_val (d := 30) (v := .int .i64 0) (w' := u1) rfl rfl rfl (by go_simp) ?_
      simp only [Act.put, sa, sz, ss]
      refine any_ready [2] (by kernel_rfl) (by decide) (fun i hi => ?_)
      obtain rfl := List.mem_singleton.1 hi
      refine op_val (d := 27) (v := .int .i64 0) (w' := u1) rfl rfl rfl (ex_look Hb.out.2.at_ (by have e := find_1 (X, Y, Z) (X, Y, Z) 0 0 u1; rw [if_pos rfl] at e; exact e) rfl rfl rfl rfl) ?_
      simp only [Act.put, sa, sz, ss]
      refine any_ready [3] (by kernel_rfl) (by decide) (fun i hi => ?_)
      obtain rfl := List.mem_singleton.1 hi
      refine op_val (d := 28) (v := .int .i64 1) (w' := u1) rfl rfl rfl (by kernel_rfl) ?_
      simp only [Act.put, sa, sz, ss]
      refine any_ready [6] (by kernel_rfl) (by decide) (fun i hi => ?_)
      obtain rfl := List.mem_singleton.1 hi
      refine op_skip (w' := wm u1 γm3 (#[ent (X, Y, Z) 1 0]) 1) rfl rfl rfl (ex_eStore Hb.out.2.at_ (idx_1 _ _) rfl rfl rfl rfl rfl) ?_
      have Hc : Mm (wm u1 γm3 (#[ent (X, Y, Z) 1 0]) 1) [(γ5_2, pt X Y Z), (γ1_0, kd p r c gx gy), (g, p2 X Y Z X' Y' Z')] ∧ Mr γm3 (#[ent (X, Y, Z) 1 0]) 1 w (wm u1 γm3 (#[ent (X, Y, Z) 1 0]) 1) := ⟨Hb.out.1.wm Hb.out.2 _ _, Hb.out.2.wm _ _⟩
      exact ⟨by kernel_rfl, rfl, rfl, Hc⟩
    obtain rfl := List.mem_singleton.1 hi
    refine op_val (d := 26) (v := .agg (pt X Y Z).toArray) (w' := u0) rfl rfl rfl (ex_loadT Ha.out.1 0 rfl rfl rfl Try.isAgg25 Try.sizeOf25 rfl rfl) ?_
    simp only [Act.put, sa, sz, ss]
    refine any_ready [0] (by kernel_rfl) (by decide) (fun i hi => ?_)
    obtain rfl := List.mem_singleton.1 hi
    refine op_val (d := 25) (v := .map (some γm3)) (w' := u0) rfl rfl rfl (by rfl) ?_
    simp only [Act.put, sa, sz, ss]
    refine any_ready [2, 4] (by kernel_rfl) (by decide) (fun i hi => ?_)
    rcases List.mem_cons.1 hi with rfl | hi
    · have hrd : True := trivial
      clear hrd
      refine op_val (d := 27) (v := .int .i64 0) (w' := u0) rfl rfl rfl (ex_look Ha.out.2.at_ (find_0 (X, Y, Z) _) rfl rfl rfl rfl) ?_
      simp only [Act.put, sa, sz, ss]
      refine any_ready [3, 4] (by kernel_rfl) (by decide) (fun i hi => ?_)
      rcases List.mem_cons.1 hi with rfl | hi
      · have hrd : True := trivial
        clear hrd
        refine op_val (d := 28) (v := .int .i64 1) (w' := u0) rfl rfl rfl (by kernel_rfl) ?_
        simp only [Act.put, sa, sz, ss]
        refine any_ready [4] (by kernel_rfl) (by decide) (fun i hi => ?_)
        obtain rfl := List.mem_singleton.1 hi
        refine op_val (d := 29) (v := .tuple #[.int .i64 0, .int .i64 0]) (w' := (wm u0 γm3 (#[ent (X, Y, Z) 0 0]) 1)) rfl rfl rfl (ex_entryN (a := (X, Y, Z)) Ha.out.2.at_ (find_0 (X, Y, Z) _) rfl rfl rfl) ?_
        simp only [Act.put, sa, sz, ss]
        have Hb : Hid (Mm (wm u0 γm3 (#[ent (X, Y, Z) 0 0]) 1) [(γ5_2, pt X Y Z), (γ1_0, kd p r c gx gy), (g, p2 X Y Z X' Y' Z')] ∧ Mr γm3 (#[ent (X, Y, Z) 0 0]) 1 w (wm u0 γm3 (#[ent (X, Y, Z) 0 0]) 1)) := ⟨Ha.out.1.wm Ha.out.2 _ _, Ha.out.2.wm _ _⟩
        generalize wm u0 γm3 (#[ent (X, Y, Z) 0 0]) 1 = u1 at Hb ⊢
        refine any_ready [5] (by kernel_rfl) (by decide) (fun i hi => ?_)
        obtain rfl := List.mem_singleton.1 hi
        refine op_val (d := 30) (v := .int .i64 0) (w' := u1) rfl rfl rfl (by go_simp) ?_
        simp only [Act.put, sa, sz, ss]
        refine any_ready [6] (by kernel_rfl) (by decide) (fun i hi => ?_)
        obtain rfl := List.mem_singleton.1 hi
        refine op_skip (w' := wm u1 γm3 (#[ent (X, Y, Z) 1 0]) 1) rfl rfl rfl (ex_eStore Hb.out.2.at_ (idx_1 _ _) rfl rfl rfl rfl rfl) ?_
        have Hc : Mm (wm u1 γm3 (#[ent (X, Y, Z) 1 0]) 1) [(γ5_2, pt X Y Z), (γ1_0, kd p r c gx gy), (g, p2 X Y Z X' Y' Z')] ∧ Mr γm3 (#[ent (X, Y, Z) 1 0]) 1 w (wm u1 γm3 (#[ent (X, Y, Z) 1 0]) 1) := ⟨Hb.out.1.wm Hb.out.2 _ _, Hb.out.2.wm _ _⟩
        exact ⟨by kernel_rfl, rfl, rfl, Hc⟩
      obtain rfl := List.mem_singleton.1 hi
      refine op_val (d := 29) (v := .tuple #[.int .i64 0, .int .i64 0]) (w' := (wm u0 γm3 (#[ent (X, Y, Z) 0 0]) 1)) rfl rfl rfl (ex_entryN (a := (X, Y, Z)) Ha.out.2.at_ (find_0 (X, Y, Z) _) rfl rfl rfl) ?_
      simp only [Act.put, sa, sz, ss]
      have Hb : Hid (Mm (wm u0 γm3 (#[ent (X, Y, Z) 0 0]) 1) [(γ5_2, pt X Y Z), (γ1_0, kd p r c gx gy), (g, p2 X Y Z X' Y' Z')] ∧ Mr γm3 (#[ent (X, Y, Z) 0 0]) 1 w (wm u0 γm3 (#[ent (X, Y, Z) 0 0]) 1)) := ⟨Ha.out.1.wm Ha.out.2 _ _, Ha.out.2.wm _ _⟩
      generalize wm u0 γm3 (#[ent (X, Y, Z) 0 0]) 1 = u1 at Hb ⊢
      refine any_ready [3, 5] (by kernel_rfl) (by decide) (fun i hi => ?_)
      rcases List.mem_cons.1 hi with rfl | hi
      · have hrd : True := trivial
        clear hrd
        refine op_val (d := 28) (v := .int .i64 1) (w' := u1) rfl rfl rfl (by kernel_rfl) ?_
        simp only [Act.put, sa, sz, ss]
        refine any_ready [5] (by kernel_rfl) (by decide) (fun i hi => ?_)
        obtain rfl := List.mem_singleton.1 hi
        refine op_val (d := 30) (v := .int .i64 0) (w' := u1) rfl rfl rfl (by go_simp) ?_
        simp only [Act.put, sa, sz, ss]
        refine any_ready [6] (by kernel_rfl) (by decide) (fun i hi => ?_)
        obtain rfl := List.mem_singleton.1 hi
        refine op_skip (w' := wm u1 γm3 (#[ent (X, Y, Z) 1 0]) 1) rfl rfl rfl (ex_eStore Hb.out.2.at_ (idx_1 _ _) rfl rfl rfl rfl rfl) ?_
        have Hc : Mm (wm u1 γm3 (#[ent (X, Y, Z) 1 0]) 1) [(γ5_2, pt X Y Z), (γ1_0, kd p r c gx gy), (g, p2 X Y Z X' Y' Z')] ∧ Mr γm3 (#[ent (X, Y, Z) 1 0]) 1 w (wm u1 γm3 (#[ent (X, Y, Z) 1 0]) 1) := ⟨Hb.out.1.wm Hb.out.2 _ _, Hb.out.2.wm _ _⟩
        exact ⟨by kernel_rfl, rfl, rfl, Hc⟩
      obtain rfl := List.mem_singleton.1 hi
      refine op_val (d := 30) (v := .int .i64 0) (w' := u1) rfl rfl rfl (by go_simp) ?_
      simp only [Act.put, sa, sz, ss]
      refine any_ready [3] (by kernel_rfl) (by decide) (fun i hi => ?_)
      obtain rfl := List.mem_singleton.1 hi
      refine op_val (d := 28) (v := .int .i64 1) (w' := u1) rfl rfl rfl (by kernel_rfl) ?_
      simp only [Act.put, sa, sz, ss]
      refine any_ready [6] (by kernel_rfl) (by decide) (fun i hi => ?_)
      obtain rfl := List.mem_singleton.1 hi
      refine op_skip (w' := wm u1 γm3 (#[ent (X, Y, Z) 1 0]) 1) rfl rfl rfl (ex_eStore Hb.out.2.at_ (idx_1 _ _) rfl rfl rfl rfl rfl) ?_
      have Hc : Mm (wm u1 γm3 (#[ent (X, Y, Z) 1 0]) 1) [(γ5_2, pt X Y Z), (γ1_0, kd p r c gx gy), (g, p2 X Y Z X' Y' Z')] ∧ Mr γm3 (#[ent (X, Y, Z) 1 0]) 1 w (wm u1 γm3 (#[ent (X, Y, Z) 1 0]) 1) := ⟨Hb.out.1.wm Hb.out.2 _ _, Hb.out.2.wm _ _⟩
      exact ⟨by kernel_rfl, rfl, rfl, Hc⟩
    obtain rfl := List.mem_singleton.1 hi
    refine op_val (d := 29) (v := .tuple #[.int .i64 0, .int .i64 0]) (w' := (wm u0 γm3 (#[ent (X, Y, Z) 0 0]) 1)) rfl rfl rfl (ex_entryN (a := (X, Y, Z)) Ha.out.2.at_ (find_0 (X, Y, Z) _) rfl rfl rfl) ?_
    simp only [Act.put, sa, sz, ss]
    have Hb : Hid (Mm (wm u0 γm3 (#[ent (X, Y, Z) 0 0]) 1) [(γ5_2, pt X Y Z), (γ1_0, kd p r c gx gy), (g, p2 X Y Z X' Y' Z')] ∧ Mr γm3 (#[ent (X, Y, Z) 0 0]) 1 w (wm u0 γm3 (#[ent (X, Y, Z) 0 0]) 1)) := ⟨Ha.out.1.wm Ha.out.2 _ _, Ha.out.2.wm _ _⟩
    generalize wm u0 γm3 (#[ent (X, Y, Z) 0 0]) 1 = u1 at Hb ⊢
    refine any_ready [2, 5] (by kernel_rfl) (by decide) (fun i hi => ?_)
    rcases List.mem_cons.1 hi with rfl | hi
    · have hrd : True := trivial
      clear hrd
      refine op_val (d := 27) (v := .int .i64 0) (w' := u1) rfl rfl rfl (ex_look Hb.out.2.at_ (by have e := find_1 (X, Y, Z) (X, Y, Z) 0 0 u1; rw [if_pos rfl] at e; exact e) rfl rfl rfl rfl) ?_
      simp only [Act.put, sa, sz, ss]
      refine any_ready [3, 5] (by kernel_rfl) (by decide) (fun i hi => ?_)
      rcases List.mem_cons.1 hi with rfl | hi
      · have hrd : True := trivial
        clear hrd
        refine op_val (d := 28) (v := .int .i64 1) (w' := u1) rfl rfl rfl (by kernel_rfl) ?_
        simp only [Act.put, sa, sz, ss]
        refine any_ready [5] (by kernel_rfl) (by decide) (fun i hi => ?_)
        obtain rfl := List.mem_singleton.1 hi
        refine op_val (d := 30) (v := .int .i64 0) (w' := u1) rfl rfl rfl (by go_simp) ?_
        simp only [Act.put, sa, sz, ss]
        refine any_ready [6] (by kernel_rfl) (by decide) (fun i hi => ?_)
        obtain rfl := List.mem_singleton.1 hi
        refine op_skip (w' := wm u1 γm3 (#[ent (X, Y, Z) 1 0]) 1) rfl rfl rfl (ex_eStore Hb.out.2.at_ (idx_1 _ _) rfl rfl rfl rfl rfl) ?_
        have Hc : Mm (wm u1 γm3 (#[ent (X, Y, Z) 1 0]) 1) [(γ5_2, pt X Y Z), (γ1_0, kd p r c gx gy), (g, p2 X Y Z X' Y' Z')] ∧ Mr γm3 (#[ent (X, Y, Z) 1 0]) 1 w (wm u1 γm3 (#[ent (X, Y, Z) 1 0]) 1) := ⟨Hb.out.1.wm Hb.out.2 _ _, Hb.out.2.wm _ _⟩
        exact ⟨by kernel_rfl, rfl, rfl, Hc⟩
      obtain rfl := List.mem_singleton.1 hi
      refine op_val (d := 30) (v := .int .i64 0) (w' := u1) rfl rfl rfl (by go_simp) ?_
      simp only [Act.put, sa, sz, ss]
      refine any_ready [3] (by kernel_rfl) (by decide) (fun i hi => ?_)
      obtain rfl := List.mem_singleton.1 hi
      refine op_val (d := 28) (v := .int .i64 1) (w' := u1) rfl rfl rfl (by kernel_rfl) ?_
      simp only [Act.put, sa, sz, ss]
      refine any_ready [6] (by kernel_rfl) (by decide) (fun i hi => ?_)
      obtain rfl := List.mem_singleton.1 hi
      refine op_skip (w' := wm u1 γm3 (#[ent (X, Y, Z) 1 0]) 1) rfl rfl rfl (ex_eStore Hb.out.2.at_ (idx_1 _ _) rfl rfl rfl rfl rfl) ?_
      have Hc : Mm (wm u1 γm3 (#[ent (X, Y, Z) 1 0]) 1) [(γ5_2, pt X Y Z), (γ1_0, kd p r c gx gy), (g, p2 X Y Z X' Y' Z')] ∧ Mr γm3 (#[ent (X, Y, Z) 1 0]) 1 w (wm u1 γm3 (#[ent (X, Y, Z) 1 0]) 1) := ⟨Hb.out.1.wm Hb.out.2 _ _, Hb.out.2.wm _ _⟩
      exact ⟨by kernel_rfl, rfl, rfl, Hc⟩
    obtain rfl := List.mem_singleton.1 hi
    refine op_val (d := 30) (v := .int .i64 0) (w' := u1) rfl rfl rfl (by go_simp) ?_
    simp only [Act.put, sa, sz, ss]
    refine any_ready [2] (by kernel_rfl) (by decide) (fun i hi => ?_)
    obtain rfl := List.mem_singleton.1 hi
    refine op_val (d := 27) (v := .int .i64 0) (w' := u1) rfl rfl rfl (ex_look Hb.out.2.at_ (by have e := find_1 (X, Y, Z) (X, Y, Z) 0 0 u1; rw [if_pos rfl] at e; exact e) rfl rfl rfl rfl) ?_
    simp only [Act.put, sa, sz, ss]
    refine any_ready [3] (by kernel_rfl) (by decide) (fun i hi => ?_)
    obtain rfl := List.mem_singleton.1 hi
    refine op_val (d := 28) (v := .int .i64 1) (w' := u1) rfl rfl rfl (by kernel_rfl) ?_
    simp only [Act.put, sa, sz, ss]
    refine any_ready [6] (by kernel_rfl) (by decide) (fun i hi => ?_)
    obtain rfl := List.mem_singleton.1 hi
    refine op_skip (w' := wm u1 γm3 (#[ent (X, Y, Z) 1 0]) 1) rfl rfl rfl (ex_eStore Hb.out.2.at_ (idx_1 _ _) rfl rfl rfl rfl rfl) ?_
    have Hc : Mm (wm u1 γm3 (#[ent (X, Y, Z) 1 0]) 1) [(γ5_2, pt X Y Z), (γ1_0, kd p r c gx gy), (g, p2 X Y Z X' Y' Z')] ∧ Mr γm3 (#[ent (X, Y, Z) 1 0]) 1 w (wm u1 γm3 (#[ent (X, Y, Z) 1 0]) 1) := ⟨Hb.out.1.wm Hb.out.2 _ _, Hb.out.2.wm _ _⟩
    exact ⟨by kernel_rfl, rfl, rfl, Hc⟩
  case cont7 =>
    intro w8 hMB
    have H8 : Hid (_ ∧ _) := hMB
    clear hMB H7
    refine block_normal (then_normal ?_)
    refine walk_seqA 1 [.quiet (.int .i64 1)] (sB H8) ?ho8 ?he8
    case ho8 => exact ak (fun γ => ⟨rfl, fun w' _ => by kernel_rfl⟩) trivial
    intro γ w9 l hM hl
    have M9 : Mm w9 [(γ5_2, pt X Y Z), (γ1_0, kd p r c gx gy), (g, p2 X Y Z X' Y' Z')] := H8.out.1.grow hM (Nat.le_refl _) hl [] rfl (by decide)
    have B9 : Mr γm3 (#[ent (X, Y, Z) 1 0]) 1 w w9 := Mr.grow H8.out.2 (hM.below)
    clear hM hl l H8
    clear γ
    have H9 : Hid (_ ∧ _) := ⟨M9, B9⟩
    clear M9 B9
    refine rest_at (l := [1]) rfl ?_
    refine rest_set (d := 11) rfl rfl rfl rfl ?_
    simp only [Act.put, sa, sz, ss]
    refine rest_nil (then_normal ?_)
    refine rounds_in (n := 1) ?_
    refine wp_seq ?_
    refine walk_seqA 1 [.quiet (.bool true)] (sB H9) ?ho9 ?he9
    case ho9 => exact ak (by refine fun γ => ⟨rfl, fun w' h => ?_⟩; clear h; go_simp) trivial
    intro γ w10 l hM hl
    have M10 : Mm w10 [(γ5_2, pt X Y Z), (γ1_0, kd p r c gx gy), (g, p2 X Y Z X' Y' Z')] := H9.out.1.grow hM (Nat.le_refl _) hl [] rfl (by decide)
    have B10 : Mr γm3 (#[ent (X, Y, Z) 1 0]) 1 w w10 := Mr.grow H9.out.2 (hM.below)
    clear hM hl l H9
    clear γ
    have H10 : Hid (_ ∧ _) := ⟨M10, B10⟩
    clear M10 B10
    refine rest0 rfl (then_normal (wp_seq ?_))
    refine wp_cond_true rfl (wp_skip ?_)
    refine then_normal (wp_seq ?_)
    refine wp_block (wp_seq ?_)
    refine walk_seqA 4 [.quiet (PT g 3), .quiet (.agg (pt X' Y' Z').toArray), .made (pt 0 0 false) 25, .laid 2 (pt 0 0 false) (pt X' Y' Z')] (sB H10) ?ho10 ?he10 (hL := ?hL10)
    case hL10 => exact ⟨⟨_, rfl⟩, trivial⟩
    case ho10 => exact ak (by refine fun γ => ⟨rfl, fun w' h => ?_⟩; clear h; go_simp) (ak (fun γ => ⟨rfl, fun w' h => ex_loadT h 2 rfl rfl rfl Try.isAgg25 Try.sizeOf25 rfl rfl⟩) (ak (fun γ => ⟨rfl, fun w' => ex_made25 rfl⟩) (ak (fun γ => ⟨rfl, rfl, rfl, fun w' h => ex_laidT h rfl rfl Try.sizeOf25 rfl rfl rfl⟩) trivial)))
    intro γ w11 l hM hl
    have M11 : Mm w11 [(γ 2, pt X' Y' Z'), (γ5_2, pt X Y Z), (γ1_0, kd p r c gx gy), (g, p2 X Y Z X' Y' Z')] := H10.out.1.grow hM (Nat.le_refl _) hl [2] rfl (by decide)
    have B11 : Mr γm3 (#[ent (X, Y, Z) 1 0]) 1 w w11 := Mr.grow H10.out.2 (hM.below)
    have o10_2 : Hid (w.heap.size ≤ γ 2) := Nat.le_trans H10.out.2.size (hM.fin (Nat.le_refl _) hl (i := 2) rfl).2.1
    clear hM hl l H10
    generalize γ 2 = γ10_2 at M11 o10_2 ⊢
    clear γ
    have H11 : Hid (_ ∧ _) := ⟨M11, B11⟩
    clear M11 B11
    refine rest0 rfl (then_normal (wp_seq (wp_seq ?_)))
    refine (walk_seq) 10 [.quiet (.map (some γm3)), .quiet (.agg (pt X' Y' Z').toArray), .quiet (.int .i64 0), .quiet (.bool true), .quiet (.bool true), .quiet (.agg (kd p r c gx gy).toArray), .quiet (.agg (pt X' Y' Z').toArray), .call (.bool true), .quiet (.bool false), .quiet (.bool false)] (fun u' => Mm u' [(γ10_2, pt X' Y' Z'), (γ5_2, pt X Y Z), (γ1_0, kd p r c gx gy), (g, p2 X Y Z X' Y' Z')] ∧ u'.heap[γm3]? = some (.map (#[ent (X, Y, Z) 1 0]) 1)) ?pre11 ?F11 ?hpre11 (fun γ => ?hF11) (by kernel_rfl) ?hL11 ?hS11 ?ho11 ?he11
    case hpre11 => simp only [tk, tz]; rfl
    case hF11 => simp only [fill, Kind.val, Act.put, sa, sz, ss]; rfl
    case hL11 => exact trivial
    case hS11 => exact fun w' hb => ⟨H11.out.1.below hb, (Mr.grow H11.out.2 (hb)).at_⟩
    case ho11 =>
      refine ak (fun _ => ⟨rfl, fun _ _ => rfl⟩) ?_
      refine ak (fun γ => ⟨rfl, fun w' hX => have h := hX.1; ex_loadT h 0 rfl rfl rfl Try.isAgg25 Try.sizeOf25 rfl rfl⟩) ?_
      refine ak (fun γ => ⟨rfl, fun w' hX => ex_look hX.2 (by have e := find_1 (X', Y', Z') (X, Y, Z) 1 0 w'; rw [if_neg hne] at e; exact e) rfl rfl rfl rfl⟩) ?_
      refine ak (by refine fun γ => ⟨rfl, fun w' h => ?_⟩; clear h; go_simp) ?_
      refine ak (fun _ => ⟨rfl, fun _ _ => rfl⟩) ?_
      refine ak (fun γ => ⟨rfl, fun w' hX => have h := hX.1; ex_loadT h 2 rfl rfl rfl Try.isAgg72 Try.sizeOf72 rfl rfl⟩) ?_
      refine ak (fun γ => ⟨rfl, fun w' hX => have h := hX.1; ex_loadT h 0 rfl rfl rfl Try.isAgg25 Try.sizeOf25 rfl rfl⟩) ?_
      refine ak (fun γ => ⟨rfl, fun w' hX => ⟨51, #[.agg (kd p r c gx gy).toArray, .agg (pt X' Y' Z').toArray], exec_call rfl call51 rfl (mpn rfl), ig_in hp hr X' Y' Z' _ h2 w'⟩⟩) ?_
      refine ak (by refine fun γ => ⟨rfl, fun w' h => ?_⟩; clear h; go_simp) ?_
      refine ak (by refine fun γ => ⟨rfl, fun w' h => ?_⟩; clear h; go_simp) ?_
      exact trivial
    intro γ w12 l hM hl
    have M12 : Mm w12 [(γ10_2, pt X' Y' Z'), (γ5_2, pt X Y Z), (γ1_0, kd p r c gx gy), (g, p2 X Y Z X' Y' Z')] := H11.out.1.grow hM (Nat.le_refl _) hl [] rfl (by decide)
    have B12 : Mr γm3 (#[ent (X, Y, Z) 1 0]) 1 w w12 := Mr.grow H11.out.2 (hM.below)
    clear hM hl l H11
    clear γ
    have H12 : Hid (_ ∧ _) := ⟨M12, B12⟩
    clear M12 B12
    refine rest0 rfl (then_normal (wp_cond_false rfl ?_))
    refine wp_skip (then_normal ?_)
    refine region_k (n := 7) ⟨#[.agg (kd p r c gx gy).toArray, .slice (some ⟨g, 0, none⟩) 2 2, PT γ1_0 0, undef, .bool false, .map (some γm3), undef, PT γ10_2 0, .map (some γm3), .slice (some ⟨g, 0, none⟩) 2 2, .int .i64 2, .int .i64 1, .bool true, PT g 3, .agg (pt X' Y' Z').toArray, .map (some γm3), .agg (pt X' Y' Z').toArray, .int .i64 0, .bool true, .bool true, .agg (kd p r c gx gy).toArray, .agg (pt X' Y' Z').toArray, .bool true, .bool false, .bool false, .map (some γm3), .agg (pt X' Y' Z').toArray, .int .i64 0, .int .i64 1, .tuple #[.int .i64 0, .int .i64 1], .int .i64 1, .int .i64 1], []⟩ (fun w2 => Mm w2 [(γ10_2, pt X' Y' Z'), (γ5_2, pt X Y Z), (γ1_0, kd p r c gx gy), (g, p2 X Y Z X' Y' Z')] ∧ Mr γm3 (#[ent (X, Y, Z) 1 0, ent (X', Y', Z') 1 1]) 2 w w2) (by kernel_rfl) rfl ?tree12 ?cont12
    case tree12 =>
      have Ha : Hid (Mm w12.drew [(γ10_2, pt X' Y' Z'), (γ5_2, pt X Y Z), (γ1_0, kd p r c gx gy), (g, p2 X Y Z X' Y' Z')] ∧ Mr γm3 (#[ent (X, Y, Z) 1 0]) 1 w w12.drew) := ⟨H12.out.1.drew, H12.out.2.grow (Below.refl _ _).drew⟩
      generalize w12.drew = u0 at Ha ⊢
      refine any_ready [0, 1] (by kernel_rfl) (by decide) (fun i hi => ?_)
      rcases List.mem_cons.1 hi with rfl | hi
      · have hrd : True := trivial
        clear hrd
        refine op_val (d := 25) (v := .map (some γm3)) (w' := u0) rfl rfl rfl (by rfl) ?_
        simp only [Act.put, sa, sz, ss]
        refine any_ready [1] (by kernel_rfl) (by decide) (fun i hi => ?_)
        obtain rfl := List.mem_singleton.1 hi
        refine op_val (d := 26) (v := .agg (pt X' Y' Z').toArray) (w' := u0) rfl rfl rfl (ex_loadT Ha.out.1 0 rfl rfl rfl Try.isAgg25 Try.sizeOf25 rfl rfl) ?_
        simp only [Act.put, sa, sz, ss]
        refine any_ready [2, 4] (by kernel_rfl) (by decide) (fun i hi => ?_)
        rcases List.mem_cons.1 hi with rfl | hi
        · have hrd : True := trivial
          clear hrd
          refine op_val (d := 27) (v := .int .i64 0) (w' := u0) rfl rfl rfl (ex_look Ha.out.2.at_ (by have e := find_1 (X', Y', Z') (X, Y, Z) 1 0 u0; rw [if_neg hne] at e; exact e) rfl rfl rfl rfl) ?_
          simp only [Act.put, sa, sz, ss]
          refine any_ready [3, 4] (by kernel_rfl) (by decide) (fun i hi => ?_)
          rcases List.mem_cons.1 hi with rfl | hi
          · have hrd : True := trivial
            clear hrd
            refine op_val (d := 28) (v := .int .i64 1) (w' := u0) rfl rfl rfl (by kernel_rfl) ?_
            simp only [Act.put, sa, sz, ss]
            refine any_ready [4] (by kernel_rfl) (by decide) (fun i hi => ?_)
            obtain rfl := List.mem_singleton.1 hi
            refine op_val (d := 29) (v := .tuple #[.int .i64 0, .int .i64 1]) (w' := (wm u0 γm3 (#[ent (X, Y, Z) 1 0, ent (X', Y', Z') 0 1]) 2)) rfl rfl rfl (ex_entryN (a := (X', Y', Z')) Ha.out.2.at_ (by have e := find_1 (X', Y', Z') (X, Y, Z) 1 0 u0; rw [if_neg hne] at e; exact e) rfl rfl rfl) ?_
            simp only [Act.put, sa, sz, ss]
            have Hb : Hid (Mm (wm u0 γm3 (#[ent (X, Y, Z) 1 0, ent (X', Y', Z') 0 1]) 2) [(γ10_2, pt X' Y' Z'), (γ5_2, pt X Y Z), (γ1_0, kd p r c gx gy), (g, p2 X Y Z X' Y' Z')] ∧ Mr γm3 (#[ent (X, Y, Z) 1 0, ent (X', Y', Z') 0 1]) 2 w (wm u0 γm3 (#[ent (X, Y, Z) 1 0, ent (X', Y', Z') 0 1]) 2)) := ⟨Ha.out.1.wm Ha.out.2 _ _, Ha.out.2.wm _ _⟩
            generalize wm u0 γm3 (#[ent (X, Y, Z) 1 0, ent (X', Y', Z') 0 1]) 2 = u1 at Hb ⊢
            refine any_ready [5] (by kernel_rfl) (by decide) (fun i hi => ?_)
            obtain rfl := List.mem_singleton.1 hi
            refine op_val (d := 30) (v := .int .i64 1) (w' := u1) rfl rfl rfl (by go_simp) ?_
            simp only [Act.put, sa, sz, ss]
            refine any_ready [6] (by kernel_rfl) (by decide) (fun i hi => ?_)
            obtain rfl := List.mem_singleton.1 hi
            refine op_skip (w' := wm u1 γm3 (#[ent (X, Y, Z) 1 0, ent (X', Y', Z') 1 1]) 2) rfl rfl rfl (ex_eStore Hb.out.2.at_ (idx_2 _ _ _ _) rfl rfl rfl rfl rfl) ?_
            have Hc : Mm (wm u1 γm3 (#[ent (X, Y, Z) 1 0, ent (X', Y', Z') 1 1]) 2) [(γ10_2, pt X' Y' Z'), (γ5_2, pt X Y Z), (γ1_0, kd p r c gx gy), (g, p2 X Y Z X' Y' Z')] ∧ Mr γm3 (#[ent (X, Y, Z) 1 0, ent (X', Y', Z') 1 1]) 2 w (wm u1 γm3 (#[ent (X, Y, Z) 1 0, ent (X', Y', Z') 1 1]) 2) := ⟨Hb.out.1.wm Hb.out.2 _ _, Hb.out.2.wm _ _⟩
            exact ⟨by kernel_rfl, rfl, rfl, Hc⟩
          obtain rfl := List.mem_singleton.1 hi
          refine op_val (d := 29) (v := .tuple #[.int .i64 0, .int .i64 1]) (w' := (wm u0 γm3 (#[ent (X, Y, Z) 1 0, ent (X', Y', Z') 0 1]) 2)) rfl rfl rfl (ex_entryN (a := (X', Y', Z')) Ha.out.2.at_ (by have e := find_1 (X', Y', Z') (X, Y, Z) 1 0 u0; rw [if_neg hne] at e; exact e) rfl rfl rfl) ?_
          simp only [Act.put, sa, sz, ss]
          have Hb : Hid (Mm (wm u0 γm3 (#[ent (X, Y, Z) 1 0, ent (X', Y', Z') 0 1]) 2) [(γ10_2, pt X' Y' Z'), (γ5_2, pt X Y Z), (γ1_0, kd p r c gx gy), (g, p2 X Y Z X' Y' Z')] ∧ Mr γm3 (#[ent (X, Y, Z) 1 0, ent (X', Y', Z') 0 1]) 2 w (wm u0 γm3 (#[ent (X, Y, Z) 1 0, ent (X', Y', Z') 0 1]) 2)) := ⟨Ha.out.1.wm Ha.out.2 _ _, Ha.out.2.wm _ _⟩
          generalize wm u0 γm3 (#[ent (X, Y, Z) 1 0, ent (X', Y', Z') 0 1]) 2 = u1 at Hb ⊢
          refine any_ready [3, 5] (by kernel_rfl) (by decide) (fun i hi => ?_)
          rcases List.mem_cons.1 hi with rfl | hi
          · have hrd : True := trivial
            clear hrd
            refine op_val (d := 28) (v := .int .i64 1) (w' := u1) rfl rfl rfl (by kernel_rfl) ?_
            simp only [Act.put, sa, sz, ss]
            refine any_ready [5] (by kernel_rfl) (by decide) (fun i hi => ?_)
            obtain rfl := List.mem_singleton.1 hi
            refine op_val (d := 30) (v := .int .i64 1) (w' := u1) rfl rfl rfl (by go_simp) ?_
            simp only [Act.put, sa, sz, ss]
            refine any_ready [6] (by kernel_rfl) (by decide) (fun i hi => ?_)
            obtain rfl := List.mem_singleton.1 hi
            refine op_skip (w' := wm u1 γm3 (#[ent (X, Y, Z) 1 0, ent (X', Y', Z') 1 1]) 2) rfl rfl rfl (ex_eStore Hb.out.2.at_ (idx_2 _ _ _ _) rfl rfl rfl rfl rfl) ?_
            have Hc : Mm (wm u1 γm3 (#[ent (X, Y, Z) 1 0, ent (X', Y', Z') 1 1]) 2) [(γ10_2, pt X' Y' Z'), (γ5_2, pt X Y Z), (γ1_0, kd p r c gx gy), (g, p2 X Y Z X' Y' Z')] ∧ Mr γm3 (#[ent (X, Y, Z) 1 0, ent (X', Y', Z') 1 1]) 2 w (wm u1 γm3 (#[ent (X, Y, Z) 1 0, ent (X', Y', Z') 1 1]) 2) := ⟨Hb.out.1.wm Hb.out.2 _ _, Hb.out.2.wm _ _⟩
            exact ⟨by kernel_rfl, rfl, rfl, Hc⟩
          obtain rfl := List.mem_singleton.1 hi
          refine op_val (d := 30) (v := .int .i64 1) (w' := u1) rfl rfl rfl (by go_simp) ?_
          simp only [Act.put, sa, sz, ss]
          refine any_ready [3] (by kernel_rfl) (by decide) (fun i hi => ?_)
          obtain rfl := List.mem_singleton.1 hi
          refine op_val (d := 28) (v := .int .i64 1) (w' := u1) rfl rfl rfl (by kernel_rfl) ?_
          simp only [Act.put, sa, sz, ss]
          refine any_ready [6] (by kernel_rfl) (by decide) (fun i hi => ?_)
          obtain rfl := List.mem_singleton.1 hi
          refine op_skip (w' := wm u1 γm3 (#[ent (X, Y, Z) 1 0, ent (X', Y', Z') 1 1]) 2) rfl rfl rfl (ex_eStore Hb.out.2.at_ (idx_2 _ _ _ _) rfl rfl rfl rfl rfl) ?_
          have Hc : Mm (wm u1 γm3 (#[ent (X, Y, Z) 1 0, ent (X', Y', Z') 1 1]) 2) [(γ10_2, pt X' Y' Z'), (γ5_2, pt X Y Z), (γ1_0, kd p r c gx gy), (g, p2 X Y Z X' Y' Z')] ∧ Mr γm3 (#[ent (X, Y, Z) 1 0, ent (X', Y', Z') 1 1]) 2 w (wm u1 γm3 (#[ent (X, Y, Z) 1 0, ent (X', Y', Z') 1 1]) 2) := ⟨Hb.out.1.wm Hb.out.2 _ _, Hb.out.2.wm _ _⟩
          exact ⟨by kernel_rfl, rfl, rfl, Hc⟩
        obtain rfl := List.mem_singleton.1 hi
        refine op_val (d := 29) (v := .tuple #[.int .i64 0, .int .i64 1]) (w' := (wm u0 γm3 (#[ent (X, Y, Z) 1 0, ent (X', Y', Z') 0 1]) 2)) rfl rfl rfl (ex_entryN (a := (X', Y', Z')) Ha.out.2.at_ (by have e := find_1 (X', Y', Z') (X, Y, Z) 1 0 u0; rw [if_neg hne] at e; exact e) rfl rfl rfl) ?_
        simp only [Act.put, sa, sz, ss]
        have Hb : Hid (Mm (wm u0 γm3 (#[ent (X, Y, Z) 1 0, ent (X', Y', Z') 0 1]) 2) [(γ10_2, pt X' Y' Z'), (γ5_2, pt X Y Z), (γ1_0, kd p r c gx gy), (g, p2 X Y Z X' Y' Z')] ∧ Mr γm3 (#[ent (X, Y, Z) 1 0, ent (X', Y', Z') 0 1]) 2 w (wm u0 γm3 (#[ent (X, Y, Z) 1 0, ent (X', Y', Z') 0 1]) 2)) := ⟨Ha.out.1.wm Ha.out.2 _ _, Ha.out.2.wm _ _⟩
        generalize wm u0 γm3 (#[ent (X, Y, Z) 1 0, ent (X', Y', Z') 0 1]) 2 = u1 at Hb ⊢
        refine any_ready [2, 5] (by kernel_rfl) (by decide) (fun i hi => ?_)
        rcases List.mem_cons.1 hi with rfl | hi
        · have hrd : True := trivial
          clear hrd
          refine op_val (d := 27) (v := .int .i64 0) (w' := u1) rfl rfl rfl (ex_look Hb.out.2.at_ (find_2 (X', Y', Z') (X, Y, Z) 1 0 0 1 hne _) rfl rfl rfl rfl) ?_
          simp only [Act.put, sa, sz, ss]
          refine any_ready [3, 5] (by kernel_rfl) (by decide) (fun i hi => ?_)
          rcases List.mem_cons.1 hi with rfl | hi
          · have hrd : True := trivial
            clear hrd
            refine op_val (d := 28) (v := .int .i64 1) (w' := u1) rfl rfl rfl (by kernel_rfl) ?_
            simp only [Act.put, sa, sz, ss]
            refine any_ready [5] (by kernel_rfl) (by decide) (fun i hi => ?_)
            obtain rfl := List.mem_singleton.1 hi
            refine op_val (d := 30) (v := .int .i64 1) (w' := u1) rfl rfl rfl (by go_simp) ?_
            simp only [Act.put, sa, sz, ss]
            refine any_ready [6] (by kernel_rfl) (by decide) (fun i hi => ?_)
            obtain rfl := List.mem_singleton.1 hi
            refine op_skip (w' := wm u1 γm3 (#[ent (X, Y, Z) 1 0, ent (X', Y', Z') 1 1]) 2) rfl rfl rfl (ex_eStore Hb.out.2.at_ (idx_2 _ _ _ _) rfl rfl rfl rfl rfl) ?_
            have Hc : Mm (wm u1 γm3 (#[ent (X, Y, Z) 1 0, ent (X', Y', Z') 1 1]) 2) [(γ10_2, pt X' Y' Z'), (γ5_2, pt X Y Z), (γ1_0, kd p r c gx gy), (g, p2 X Y Z X' Y' Z')] ∧ Mr γm3 (#[ent (X, Y, Z) 1 0, ent (X', Y', Z') 1 1]) 2 w (wm u1 γm3 (#[ent (X, Y, Z) 1 0, ent (X', Y', Z') 1 1]) 2) := ⟨Hb.out.1.wm Hb.out.2 _ _, Hb.out.2.wm _ _⟩
            exact ⟨by kernel_rfl, rfl, rfl, Hc⟩
          obtain rfl := List.mem_singleton.1 hi
          refine op_val (d := 30) (v := .int .i64 1) (w' := u1) rfl rfl rfl (by go_simp) ?_
          simp only [Act.put, sa, sz, ss]
          refine any_ready [3] (by kernel_rfl) (by decide) (fun i hi => ?_)
          obtain rfl := List.mem_singleton.1 hi
          refine op_val (d := 28) (v := .int .i64 1) (w' := u1) rfl rfl rfl (by kernel_rfl) ?_
          simp only [Act.put, sa, sz, ss]
          refine any_ready [6] (by kernel_rfl) (by decide) (fun i hi => ?_)
          obtain rfl := List.mem_singleton.1 hi
          refine op_skip (w' := wm u1 γm3 (#[ent (X, Y, Z) 1 0, ent (X', Y', Z') 1 1]) 2) rfl rfl rfl (ex_eStore Hb.out.2.at_ (idx_2 _ _ _ _) rfl rfl rfl rfl rfl) ?_
          have Hc : Mm (wm u1 γm3 (#[ent (X, Y, Z) 1 0, ent (X', Y', Z') 1 1]) 2) [(γ10_2, pt X' Y' Z'), (γ5_2, pt X Y Z), (γ1_0, kd p r c gx gy), (g, p2 X Y Z X' Y' Z')] ∧ Mr γm3 (#[ent (X, Y, Z) 1 0, ent (X', Y', Z') 1 1]) 2 w (wm u1 γm3 (#[ent (X, Y, Z) 1 0, ent (X', Y', Z') 1 1]) 2) := ⟨Hb.out.1.wm Hb.out.2 _ _, Hb.out.2.wm _ _⟩
          exact ⟨by kernel_rfl, rfl, rfl, Hc⟩
        obtain rfl := List.mem_singleton.1 hi
        refine op_val (d := 30) (v := .int .i64 1) (w' := u1) rfl rfl rfl (by go_simp) ?_
        simp only [Act.put, sa, sz, ss]
        refine any_ready [2] (by kernel_rfl) (by decide) (fun i hi => ?_)
        obtain rfl := List.mem_singleton.1 hi
        refine op_val (d := 27) (v := .int .i64 0) (w' := u1) rfl rfl rfl (ex_look Hb.out.2.at_ (find_2 (X', Y', Z') (X, Y, Z) 1 0 0 1 hne _) rfl rfl rfl rfl) ?_
        simp only [Act.put, sa, sz, ss]
        refine any_ready [3] (by kernel_rfl) (by decide) (fun i hi => ?_)
        obtain rfl := List.mem_singleton.1 hi
        refine op_val (d := 28) (v := .int .i64 1) (w' := u1) rfl rfl rfl (by kernel_rfl) ?_
        simp only [Act.put, sa, sz, ss]
        refine any_ready [6] (by kernel_rfl) (by decide) (fun i hi => ?_)
        obtain rfl := List.mem_singleton.1 hi
        refine op_skip (w' := wm u1 γm3 (#[ent (X, Y, Z) 1 0, ent (X', Y', Z') 1 1]) 2) rfl rfl rfl (ex_eStore Hb.out.2.at_ (idx_2 _ _ _ _) rfl rfl rfl rfl rfl) ?_
        have Hc : Mm (wm u1 γm3 (#[ent (X, Y, Z) 1 0, ent (X', Y', Z') 1 1]) 2) [(γ10_2, pt X' Y' Z'), (γ5_2, pt X Y Z), (γ1_0, kd p r c gx gy), (g, p2 X Y Z X' Y' Z')] ∧ Mr γm3 (#[ent (X, Y, Z) 1 0, ent (X', Y', Z') 1 1]) 2 w (wm u1 γm3 (#[ent (X, Y, Z) 1 0, ent (X', Y', Z') 1 1]) 2) := ⟨Hb.out.1.wm Hb.out.2 _ _, Hb.out.2.wm _ _⟩
        exact ⟨by kernel_rfl, rfl, rfl, Hc⟩
      obtain rfl := List.mem_singleton.1 hi
      refine op_val (d := 26) (v := .agg (pt X' Y' Z').toArray) (w' := u0) rfl rfl rfl (ex_loadT Ha.out.1 0 rfl rfl rfl Try.isAgg25 Try.sizeOf25 rfl rfl) ?_
      simp only [Act.put, sa, sz, ss]
      refine any_ready [0] (by kernel_rfl) (by decide) (fun i hi => ?_)
      obtain rfl := List.mem_singleton.1 hi
      refine op_val (d := 25) (v := .map (some γm3)) (w' := u0) rfl rfl rfl (by rfl) ?_
      simp only [Act.put, sa, sz, ss]
      refine any_ready [2, 4] (by kernel_rfl) (by decide) (fun i hi => ?_)
      rcases List.mem_cons.1 hi with rfl | hi
      · have hrd : True := trivial
        clear hrd
        refine op_val (d := 27) (v := .int .i64 0) (w' := u0) rfl rfl rfl (ex_look Ha.out.2.at_ (by have e := find_1 (X', Y', Z') (X, Y, Z) 1 0 u0; rw [if_neg hne] at e; exact e) rfl rfl rfl rfl) ?_
        simp only [Act.put, sa, sz, ss]
        refine any_ready [3, 4] (by kernel_rfl) (by decide) (fun i hi => ?_)
        rcases List.mem_cons.1 hi with rfl | hi
        · have hrd : True := trivial
          clear hrd
          refine op_val (d := 28) (v := .int .i64 1) (w' := u0) rfl rfl rfl (by kernel_rfl) ?_
          simp only [Act.put, sa, sz, ss]
          refine any_ready [4] (by kernel_rfl) (by decide) (fun i hi => ?_)
          obtain rfl := List.mem_singleton.1 hi
          refine op_val (d := 29) (v := .tuple #[.int .i64 0, .int .i64 1]) (w' := (wm u0 γm3 (#[ent (X, Y, Z) 1 0, ent (X', Y', Z') 0 1]) 2)) rfl rfl rfl (ex_entryN (a := (X', Y', Z')) Ha.out.2.at_ (by have e := find_1 (X', Y', Z') (X, Y, Z) 1 0 u0; rw [if_neg hne] at e; exact e) rfl rfl rfl) ?_
          simp only [Act.put, sa, sz, ss]
          have Hb : Hid (Mm (wm u0 γm3 (#[ent (X, Y, Z) 1 0, ent (X', Y', Z') 0 1]) 2) [(γ10_2, pt X' Y' Z'), (γ5_2, pt X Y Z), (γ1_0, kd p r c gx gy), (g, p2 X Y Z X' Y' Z')] ∧ Mr γm3 (#[ent (X, Y, Z) 1 0, ent (X', Y', Z') 0 1]) 2 w (wm u0 γm3 (#[ent (X, Y, Z) 1 0, ent (X', Y', Z') 0 1]) 2)) := ⟨Ha.out.1.wm Ha.out.2 _ _, Ha.out.2.wm _ _⟩
          generalize wm u0 γm3 (#[ent (X, Y, Z) 1 0, ent (X', Y', Z') 0 1]) 2 = u1 at Hb ⊢
          refine any_ready [5] (by kernel_rfl) (by decide) (fun i hi => ?_)
          obtain rfl := List.mem_singleton.1 hi
          refine op_val (d := 30) (v := .int .i64 1) (w' := u1) rfl rfl rfl (by go_simp) ?_
          simp only [Act.put, sa, sz, ss]
          refine any_ready [6] (by kernel_rfl) (by decide) (fun i hi => ?_)
          obtain rfl := List.mem_singleton.1 hi
          refine op_skip (w' := wm u1 γm3 (#[ent (X, Y, Z) 1 0, ent (X', Y', Z') 1 1]) 2) rfl rfl rfl (ex_eStore Hb.out.2.at_ (idx_2 _ _ _ _) rfl rfl rfl rfl rfl) ?_
          have Hc : Mm (wm u1 γm3 (#[ent (X, Y, Z) 1 0, ent (X', Y', Z') 1 1]) 2) [(γ10_2, pt X' Y' Z'), (γ5_2, pt X Y Z), (γ1_0, kd p r c gx gy), (g, p2 X Y Z X' Y' Z')] ∧ Mr γm3 (#[ent (X, Y, Z) 1 0, ent (X', Y', Z') 1 1]) 2 w (wm u1 γm3 (#[ent (X, Y, Z) 1 0, ent (X', Y', Z') 1 1]) 2) := ⟨Hb.out.1.wm Hb.out.2 _ _, Hb.out.2.wm _ _⟩
          exact ⟨by kernel_rfl, rfl, rfl, Hc⟩
        obtain rfl := List.mem_singleton.1 hi
        refine op_val (d := 29) (v := .tuple #[.int .i64 0, .int .i64 1]) (w' := (wm u0 γm3 (#[ent (X, Y, Z) 1 0, ent (X', Y', Z') 0 1]) 2)) rfl rfl rfl (ex_entryN (a := (X', Y', Z')) Ha.out.2.at_ (by have e := find_1 (X', Y', Z') (X, Y, Z) 1 0 u0; rw [if_neg hne] at e; exact e) rfl rfl rfl) ?_
        simp only [Act.put, sa, sz, ss]
        have Hb : Hid (Mm (wm u0 γm3 (#[ent (X, Y, Z) 1 0, ent (X', Y', Z') 0 1]) 2) [(γ10_2, pt X' Y' Z'), (γ5_2, pt X Y Z), (γ1_0, kd p r c gx gy), (g, p2 X Y Z X' Y' Z')] ∧ Mr γm3 (#[ent (X, Y, Z) 1 0, ent (X', Y', Z') 0 1]) 2 w (wm u0 γm3 (#[ent (X, Y, Z) 1 0, ent (X', Y', Z') 0 1]) 2)) := ⟨Ha.out.1.wm Ha.out.2 _ _, Ha.out.2.wm _ _⟩
        generalize wm u0 γm3 (#[ent (X, Y, Z) 1 0, ent (X', Y', Z') 0 1]) 2 = u1 at Hb ⊢
        refine any_ready [3, 5] (by kernel_rfl) (by decide) (fun i hi => ?_)
        rcases List.mem_cons.1 hi with rfl | hi
        · have hrd : True := trivial
          clear hrd
          refine op_val (d := 28) (v := .int .i64 1) (w' := u1) rfl rfl rfl (by kernel_rfl) ?_
          simp only [Act.put, sa, sz, ss]
          refine any_ready [5] (by kernel_rfl) (by decide) (fun i hi => ?_)
          obtain rfl := List.mem_singleton.1 hi
          refine op_val (d := 30) (v := .int .i64 1) (w' := u1) rfl rfl rfl (by go_simp) ?_
          simp only [Act.put, sa, sz, ss]
          refine any_ready [6] (by kernel_rfl) (by decide) (fun i hi => ?_)
          obtain rfl := List.mem_singleton.1 hi
          refine op_skip (w' := wm u1 γm3 (#[ent (X, Y, Z) 1 0, ent (X', Y', Z') 1 1]) 2) rfl rfl rfl (ex_eStore Hb.out.2.at_ (idx_2 _ _ _ _) rfl rfl rfl rfl rfl) ?_
          have Hc : Mm (wm u1 γm3 (#[ent (X, Y, Z) 1 0, ent (X', Y', Z') 1 1]) 2) [(γ10_2, pt X' Y' Z'), (γ5_2, pt X Y Z), (γ1_0, kd p r c gx gy), (g, p2 X Y Z X' Y' Z')] ∧ Mr γm3 (#[ent (X, Y, Z) 1 0, ent (X', Y', Z') 1 1]) 2 w (wm u1 γm3 (#[ent (X, Y, Z) 1 0, ent (X', Y', Z') 1 1]) 2) := ⟨Hb.out.1.wm Hb.out.2 _ _, Hb.out.2.wm _ _⟩
          exact ⟨by kernel_rfl, rfl, rfl, Hc⟩
        obtain rfl := List.mem_singleton.1 hi
        refine op_val (d := 30) (v := .int .i64 1) (w' := u1) rfl rfl rfl (by go_simp) ?_
        simp only [Act.put, sa, sz, ss]
        refine any_ready [3] (by kernel_rfl) (by decide) (fun i hi => ?_)
        obtain rfl := List.mem_singleton.1 hi
        refine op_val (d := 28) (v := .int .i64 1) (w' := u1) rfl rfl rfl (by kernel_rfl) ?_
        simp only [Act.put, sa, sz, ss]
        refine any_ready [6] (by kernel_rfl) (by decide) (fun i hi => ?_)
        obtain rfl := List.mem_singleton.1 hi
        refine op_skip (w' := wm u1 γm3 (#[ent (X, Y, Z) 1 0, ent (X', Y', Z') 1 1]) 2) rfl rfl rfl (ex_eStore Hb.out.2.at_ (idx_2 _ _ _ _) rfl rfl rfl rfl rfl) ?_
        have Hc : Mm (wm u1 γm3 (#[ent (X, Y, Z) 1 0, ent (X', Y', Z') 1 1]) 2) [(γ10_2, pt X' Y' Z'), (γ5_2, pt X Y Z), (γ1_0, kd p r c gx gy), (g, p2 X Y Z X' Y' Z')] ∧ Mr γm3 (#[ent (X, Y, Z) 1 0, ent (X', Y', Z') 1 1]) 2 w (wm u1 γm3 (#[ent (X, Y, Z) 1 0, ent (X', Y', Z') 1 1]) 2) := ⟨Hb.out.1.wm Hb.out.2 _ _, Hb.out.2.wm _ _⟩
        exact ⟨by kernel_rfl, rfl, rfl, Hc⟩
      obtain rfl := List.mem_singleton.1 hi
      refine op_val (d := 29) (v := .tuple #[.int .i64 0, .int .i64 1]) (w' := (wm u0 γm3 (#[ent (X, Y, Z) 1 0, ent (X', Y', Z') 0 1]) 2)) rfl rfl rfl (ex_entryN (a := (X', Y', Z')) Ha.out.2.at_ (by have e := find_1 (X', Y', Z') (X, Y, Z) 1 0 u0; rw [if_neg hne] at e; exact e) rfl rfl rfl) ?_
      simp only [Act.put, sa, sz, ss]
      have Hb : Hid (Mm (wm u0 γm3 (#[ent (X, Y, Z) 1 0, ent (X', Y', Z') 0 1]) 2) [(γ10_2, pt X' Y' Z'), (γ5_2, pt X Y Z), (γ1_0, kd p r c gx gy), (g, p2 X Y Z X' Y' Z')] ∧ Mr γm3 (#[ent (X, Y, Z) 1 0, ent (X', Y', Z') 0 1]) 2 w (wm u0 γm3 (#[ent (X, Y, Z) 1 0, ent (X', Y', Z') 0 1]) 2)) := ⟨Ha.out.1.wm Ha.out.2 _ _, Ha.out.2.wm _ _⟩
      generalize wm u0 γm3 (#[ent (X, Y, Z) 1 0, ent (X', Y', Z') 0 1]) 2 = u1 at Hb ⊢
      refine any_ready [2, 5] (by kernel_rfl) (by decide) (fun i hi => ?_)
      rcases List.mem_cons.1 hi with rfl | hi
      · have hrd : True := trivial
        clear hrd
        refine op_val (d := 27) (v := .int .i64 0) (w' := u1) rfl rfl rfl (ex_look Hb.out.2.at_ (find_2 (X', Y', Z') (X, Y, Z) 1 0 0 1 hne _) rfl rfl rfl rfl) ?_
        simp only [Act.put, sa, sz, ss]
        refine any_ready [3, 5] (by kernel_rfl) (by decide) (fun i hi => ?_)
        rcases List.mem_cons.1 hi with rfl | hi
        · have hrd : True := trivial
          clear hrd
          refine op_val (d := 28) (v := .int .i64 1) (w' := u1) rfl rfl rfl (by kernel_rfl) ?_
          simp only [Act.put, sa, sz, ss]
          refine any_ready [5] (by kernel_rfl) (by decide) (fun i hi => ?_)
          obtain rfl := List.mem_singleton.1 hi
          refine op_val (d := 30) (v := .int .i64 1) (w' := u1) rfl rfl rfl (by go_simp) ?_
          simp only [Act.put, sa, sz, ss]
          refine any_ready [6] (by kernel_rfl) (by decide) (fun i hi => ?_)
          obtain rfl := List.mem_singleton.1 hi
          refine op_skip (w' := wm u1 γm3 (#[ent (X, Y, Z) 1 0, ent (X', Y', Z') 1 1]) 2) rfl rfl rfl (ex_eStore Hb.out.2.at_ (idx_2 _ _ _ _) rfl rfl rfl rfl rfl) ?_
          have Hc : Mm (wm u1 γm3 (#[ent (X, Y, Z) 1 0, ent (X', Y', Z') 1 1]) 2) [(γ10_2, pt X' Y' Z'), (γ5_2, pt X Y Z), (γ1_0, kd p r c gx gy), (g, p2 X Y Z X' Y' Z')] ∧ Mr γm3 (#[ent (X, Y, Z) 1 0, ent (X', Y', Z') 1 1]) 2 w (wm u1 γm3 (#[ent (X, Y, Z) 1 0, ent (X', Y', Z') 1 1]) 2) := ⟨Hb.out.1.wm Hb.out.2 _ _, Hb.out.2.wm _ _⟩
          exact ⟨by kernel_rfl, rfl, rfl, Hc⟩
        obtain rfl := List.mem_singleton.1 hi
        refine op_val (d := 30) (v := .int .i64 1) (w' := u1) rfl rfl rfl (by go_simp) ?_
        simp only [Act.put, sa, sz, ss]
        refine any_ready [3] (by kernel_rfl) (by decide) (fun i hi => ?_)
        obtain rfl := List.mem_singleton.1 hi
        refine op_val (d := 28) (v := .int .i64 1) (w' := u1) rfl rfl rfl (by kernel_rfl) ?_
        simp only [Act.put, sa, sz, ss]
        refine any_ready [6] (by kernel_rfl) (by decide) (fun i hi => ?_)
        obtain rfl := List.mem_singleton.1 hi
        refine op_skip (w' := wm u1 γm3 (#[ent (X, Y, Z) 1 0, ent (X', Y', Z') 1 1]) 2) rfl rfl rfl (ex_eStore Hb.out.2.at_ (idx_2 _ _ _ _) rfl rfl rfl rfl rfl) ?_
        have Hc : Mm (wm u1 γm3 (#[ent (X, Y, Z) 1 0, ent (X', Y', Z') 1 1]) 2) [(γ10_2, pt X' Y' Z'), (γ5_2, pt X Y Z), (γ1_0, kd p r c gx gy), (g, p2 X Y Z X' Y' Z')] ∧ Mr γm3 (#[ent (X, Y, Z) 1 0, ent (X', Y', Z') 1 1]) 2 w (wm u1 γm3 (#[ent (X, Y, Z) 1 0, ent (X', Y', Z') 1 1]) 2) := ⟨Hb.out.1.wm Hb.out.2 _ _, Hb.out.2.wm _ _⟩
        exact ⟨by kernel_rfl, rfl, rfl, Hc⟩
      obtain rfl := List.mem_singleton.1 hi
      refine op_val (d := 30) (v := .int .i64 1) (w' := u1) rfl rfl rfl (by go_simp) ?_
      simp only [Act.put, sa, sz, ss]
      refine any_ready [2] (by kernel_rfl) (by decide) (fun i hi => ?_)
      obtain rfl := List.mem_singleton.1 hi
      refine op_val (d := 27) (v := .int .i64 0) (w' := u1) rfl rfl rfl (ex_look Hb.out.2.at_ (find_2 (X', Y', Z') (X, Y, Z) 1 0 0 1 hne _) rfl rfl rfl rfl) ?_
      simp only [Act.put, sa, sz, ss]
      refine any_ready [3] (by kernel_rfl) (by decide) (fun i hi => ?_)
      obtain rfl := List.mem_singleton.1 hi
      refine op_val (d := 28) (v := .int .i64 1) (w' := u1) rfl rfl rfl (by kernel_rfl) ?_
      simp only [Act.put, sa, sz, ss]
      refine any_ready [6] (by kernel_rfl) (by decide) (fun i hi => ?_)
      obtain rfl := List.mem_singleton.1 hi
      refine op_skip (w' := wm u1 γm3 (#[ent (X, Y, Z) 1 0, ent (X', Y', Z') 1 1]) 2) rfl rfl rfl (ex_eStore Hb.out.2.at_ (idx_2 _ _ _ _) rfl rfl rfl rfl rfl) ?_
      have Hc : Mm (wm u1 γm3 (#[ent (X, Y, Z) 1 0, ent (X', Y', Z') 1 1]) 2) [(γ10_2, pt X' Y' Z'), (γ5_2, pt X Y Z), (γ1_0, kd p r c gx gy), (g, p2 X Y Z X' Y' Z')] ∧ Mr γm3 (#[ent (X, Y, Z) 1 0, ent (X', Y', Z') 1 1]) 2 w (wm u1 γm3 (#[ent (X, Y, Z) 1 0, ent (X', Y', Z') 1 1]) 2) := ⟨Hb.out.1.wm Hb.out.2 _ _, Hb.out.2.wm _ _⟩
      exact ⟨by kernel_rfl, rfl, rfl, Hc⟩
    case cont12 =>
      intro w13 hMB
      have H13 : Hid (_ ∧ _) := hMB
      clear hMB H12
      refine block_normal (then_normal ?_)
      refine walk_seqA 1 [.quiet (.int .i64 2)] (sB H13) ?ho13 ?he13
      case ho13 => exact ak (fun γ => ⟨rfl, fun w' _ => by kernel_rfl⟩) trivial
      intro γ w14 l hM hl
      have M14 : Mm w14 [(γ10_2, pt X' Y' Z'), (γ5_2, pt X Y Z), (γ1_0, kd p r c gx gy), (g, p2 X Y Z X' Y' Z')] := H13.out.1.grow hM (Nat.le_refl _) hl [] rfl (by decide)
      have B14 : Mr γm3 (#[ent (X, Y, Z) 1 0, ent (X', Y', Z') 1 1]) 2 w w14 := Mr.grow H13.out.2 (hM.below)
      clear hM hl l H13
      clear γ
      have H14 : Hid (_ ∧ _) := ⟨M14, B14⟩
      clear M14 B14
      refine rest_at (l := [1]) rfl ?_
      refine rest_set (d := 11) rfl rfl rfl rfl ?_
      simp only [Act.put, sa, sz, ss]
      refine rest_nil (then_normal ?_)
      refine rounds_in (n := 0) ?_
      refine wp_seq ?_
      refine walk_seqA 1 [.quiet (.bool false)] (sB H14) ?ho14 ?he14
      case ho14 => exact ak (by refine fun γ => ⟨rfl, fun w' h => ?_⟩; clear h; go_simp) trivial
      intro γ w15 l hM hl
      have M15 : Mm w15 [(γ10_2, pt X' Y' Z'), (γ5_2, pt X Y Z), (γ1_0, kd p r c gx gy), (g, p2 X Y Z X' Y' Z')] := H14.out.1.grow hM (Nat.le_refl _) hl [] rfl (by decide)
      have B15 : Mr γm3 (#[ent (X, Y, Z) 1 0, ent (X', Y', Z') 1 1]) 2 w w15 := Mr.grow H14.out.2 (hM.below)
      clear hM hl l H14
      clear γ
      have H15 : Hid (_ ∧ _) := ⟨M15, B15⟩
      clear M15 B15
      refine rest0 rfl (then_normal (wp_seq (wp_cond_false rfl ?_)))
      refine wp_exit ?_
      repeat refine then_exit ?_
      refine block_exit ?_
      refine then_normal (wp_seq ?_)
      refine walk_seqA 1 [.quiet (.bool true)] (sB H15) ?ho15 ?he15
      case ho15 => exact ak (fun _ => ⟨rfl, fun _ _ => rfl⟩) trivial
      intro γ w16 l hM hl
      have M16 : Mm w16 [(γ10_2, pt X' Y' Z'), (γ5_2, pt X Y Z), (γ1_0, kd p r c gx gy), (g, p2 X Y Z X' Y' Z')] := H15.out.1.grow hM (Nat.le_refl _) hl [] rfl (by decide)
      have B16 : Mr γm3 (#[ent (X, Y, Z) 1 0, ent (X', Y', Z') 1 1]) 2 w w16 := Mr.grow H15.out.2 (hM.below)
      clear hM hl l H15
      clear γ
      have H16 : Hid (_ ∧ _) := ⟨M16, B16⟩
      clear M16 B16
      refine rest0 rfl (then_normal (wp_ret ?_))
      repeat (first | refine then_ret ?_ | refine block_ret ?_)
      refine bodyPost_ret (v := .bool true) (by simp [results, Try.results60, go_sem, *]) rfl ?_
      exact ⟨rfl, H16.out.2.bl⟩
set_option maxHeartbeats 4000000 in
set_option maxRecDepth 100000 in
theorem all_f (hp : Pr p) (hr : r < 18446744073709551616) (X Y : Nat) (Z : Bool) (h1 : ig p r X Y Z = false) (g : Nat) (w : World) (hm : Mm w [(g, p2 X Y Z X Y Z)]) :
    Calls Try.prog 60 #[.agg (kd p r c gx gy).toArray, .slice (some ⟨g, 0, none⟩) 2 2] w fun e w' => e = .returned (.bool false) ∧ Below w.heap.size w w' := by
  have H0 : Hid (_ ∧ _) := ⟨hm, Below.refl w.heap.size w⟩
  clear hm
  go_enter Try.func60, Try.ntmps60
  refine wp_seq ?_
  refine walk_seqA 2 [.made (kd p r c gx gy) 72, .quiet (.bool false)] (sB H0) ?ho1 ?he1
  case ho1 => exact ak (fun γ => ⟨rfl, fun w' => ex_boxT rfl rfl⟩) (ak (fun _ => ⟨rfl, fun _ _ => rfl⟩) trivial)
  intro γ w1 l hM hl
  have H1 : Hid (Mm w1 [(γ 0, kd p r c gx gy), (g, p2 X Y Z X Y Z)] ∧ _) := growB H0 hM (Nat.le_refl _) hl [0] rfl (by decide)
  have o1_0 := ownB H0 hM (Nat.le_refl _) hl (i := 0) rfl
  clear hM hl l
  generalize γ 0 = γ1_0 at H1 o1_0 ⊢
  clear γ
  refine rest0 rfl (then_normal (wp_seq ?_))
  refine walk_seqB 0 [] H1 ?ho2 ?he2
  case ho2 => exact trivial
  intro _ w2 H2
  clear H1
  refine rest_at (l := [0, 1]) rfl ?_
  refine rest_set (d := 8) (v := .map (some w2.heap.size)) (w' := w2.alloc (.map #[] 0)) rfl rfl rfl (ex_makeM0 rfl) ?_
  simp only [Act.put, sa, sz, ss]
  have H3 : Hid (Mm (w2.alloc (.map #[] 0)) [(γ1_0, kd p r c gx gy), (g, p2 X Y Z X Y Z)] ∧ Mr w2.heap.size #[] 0 w (w2.alloc (.map #[] 0))) := ⟨H2.out.1.below ((Below.refl _ _).alloc (Nat.le_refl _) _), Mr.made H2.out.2⟩
  clear H2
  generalize hgw : w2.alloc (.map #[] 0) = w3 at H3 ⊢
  clear hgw
  generalize w2.heap.size = γm3 at H3 ⊢
  refine rest_set (d := 5) rfl rfl rfl rfl ?_
  simp only [Act.put, sa, sz, ss]
  refine rest_nil (then_normal ?_)
  refine wp_seq (wp_seq ?_)
  refine walk_seqA 3 [.quiet (.slice (some ⟨g, 0, none⟩) 2 2), .quiet (.int .i64 2), .quiet (.int .i64 0)] (sB H3) ?ho3 ?he3
  case ho3 => exact ak (fun _ => ⟨rfl, fun _ _ => rfl⟩) (ak (by refine fun γ => ⟨rfl, fun w' h => ?_⟩; clear h; go_simp) (ak (fun _ => ⟨rfl, fun _ _ => rfl⟩) trivial))
  intro γ w4 l hM hl
  have M4 : Mm w4 [(γ1_0, kd p r c gx gy), (g, p2 X Y Z X Y Z)] := H3.out.1.grow hM (Nat.le_refl _) hl [] rfl (by decide)
  have B4 : Mr γm3 (#[]) 0 w w4 := Mr.grow H3.out.2 (hM.below)
  clear hM hl l H3
  clear γ
  have H4 : Hid (_ ∧ _) := ⟨M4, B4⟩
  clear M4 B4
  refine rest0 rfl (then_normal (wp_block ?_))
  refine wp_loop_rounds 3 ?_
  refine rounds_in (n := 2) ?_
  refine wp_seq ?_
  refine walk_seqA 1 [.quiet (.bool true)] (sB H4) ?ho4 ?he4
  case ho4 => exact ak (by refine fun γ => ⟨rfl, fun w' h => ?_⟩; clear h; go_simp) trivial
  intro γ w5 l hM hl
  have M5 : Mm w5 [(γ1_0, kd p r c gx gy), (g, p2 X Y Z X Y Z)] := H4.out.1.grow hM (Nat.le_refl _) hl [] rfl (by decide)
  have B5 : Mr γm3 (#[]) 0 w w5 := Mr.grow H4.out.2 (hM.below)
  clear hM hl l H4
  clear γ
  have H5 : Hid (_ ∧ _) := ⟨M5, B5⟩
  clear M5 B5
  refine rest0 rfl (then_normal (wp_seq ?_))
  refine wp_cond_true rfl (wp_skip ?_)
  refine then_normal (wp_seq ?_)
  refine wp_block (wp_seq ?_)
  refine walk_seqA 4 [.quiet (PT g 0), .quiet (.agg (pt X Y Z).toArray), .made (pt 0 0 false) 25, .laid 2 (pt 0 0 false) (pt X Y Z)] (sB H5) ?ho5 ?he5 (hL := ?hL5)
  case hL5 => exact ⟨⟨_, rfl⟩, trivial⟩
  case ho5 => exact ak (by refine fun γ => ⟨rfl, fun w' h => ?_⟩; clear h; go_simp) (ak (fun γ => ⟨rfl, fun w' h => ex_loadT h 1 rfl rfl rfl Try.isAgg25 Try.sizeOf25 rfl rfl⟩) (ak (fun γ => ⟨rfl, fun w' => ex_made25 rfl⟩) (ak (fun γ => ⟨rfl, rfl, rfl, fun w' h => ex_laidT h rfl rfl Try.sizeOf25 rfl rfl rfl⟩) trivial)))
  intro γ w6 l hM hl
  have M6 : Mm w6 [(γ 2, pt X Y Z), (γ1_0, kd p r c gx gy), (g, p2 X Y Z X Y Z)] := H5.out.1.grow hM (Nat.le_refl _) hl [2] rfl (by decide)
  have B6 : Mr γm3 (#[]) 0 w w6 := Mr.grow H5.out.2 (hM.below)
  have o5_2 : Hid (w.heap.size ≤ γ 2) := Nat.le_trans H5.out.2.size (hM.fin (Nat.le_refl _) hl (i := 2) rfl).2.1
  clear hM hl l H5
  generalize γ 2 = γ5_2 at M6 o5_2 ⊢
  clear γ
  have H6 : Hid (_ ∧ _) := ⟨M6, B6⟩
  clear M6 B6
  refine rest0 rfl (then_normal (wp_seq (wp_seq ?_)))
  refine (walk_seq) 10 [.quiet (.map (some γm3)), .quiet (.agg (pt X Y Z).toArray), .quiet (.int .i64 0), .quiet (.bool true), .quiet (.bool true), .quiet (.agg (kd p r c gx gy).toArray), .quiet (.agg (pt X Y Z).toArray), .call (.bool false), .quiet (.bool true), .quiet (.bool true)] (fun u' => Mm u' [(γ5_2, pt X Y Z), (γ1_0, kd p r c gx gy), (g, p2 X Y Z X Y Z)] ∧ u'.heap[γm3]? = some (.map #[] 0)) ?pre6 ?F6 ?hpre6 (fun γ => ?hF6) (by kernel_rfl) ?hL6 ?hS6 ?ho6 ?he6
  case hpre6 => simp only [tk, tz]; rfl
  case hF6 => simp only [fill, Kind.val, Act.put, sa, sz, ss]; rfl
  case hL6 => exact trivial
  case hS6 => exact fun w' hb => ⟨H6.out.1.below hb, (Mr.grow H6.out.2 (hb)).at_⟩
  case ho6 =>
    refine ak (fun _ => ⟨rfl, fun _ _ => rfl⟩) ?_
    refine ak (fun γ => ⟨rfl, fun w' hX => have h := hX.1; ex_loadT h 0 rfl rfl rfl Try.isAgg25 Try.sizeOf25 rfl rfl⟩) ?_
    refine ak (fun γ => ⟨rfl, fun w' hX => ex_look hX.2 (find_0 (X, Y, Z) _) rfl rfl rfl rfl⟩) ?_
    refine ak (by refine fun γ => ⟨rfl, fun w' h => ?_⟩; clear h; go_simp) ?_
    refine ak (fun _ => ⟨rfl, fun _ _ => rfl⟩) ?_
    refine ak (fun γ => ⟨rfl, fun w' hX => have h := hX.1; ex_loadT h 1 rfl rfl rfl Try.isAgg72 Try.sizeOf72 rfl rfl⟩) ?_
    refine ak (fun γ => ⟨rfl, fun w' hX => have h := hX.1; ex_loadT h 0 rfl rfl rfl Try.isAgg25 Try.sizeOf25 rfl rfl⟩) ?_
    refine ak (fun γ => ⟨rfl, fun w' hX => ⟨51, #[.agg (kd p r c gx gy).toArray, .agg (pt X Y Z).toArray], exec_call rfl call51 rfl (mpn rfl), ig_in hp hr X Y Z _ h1 w'⟩⟩) ?_
    refine ak (by refine fun γ => ⟨rfl, fun w' h => ?_⟩; clear h; go_simp) ?_
    refine ak (by refine fun γ => ⟨rfl, fun w' h => ?_⟩; clear h; go_simp) ?_
    exact trivial
  intro γ w7 l hM hl
  have M7 : Mm w7 [(γ5_2, pt X Y Z), (γ1_0, kd p r c gx gy), (g, p2 X Y Z X Y Z)] := H6.out.1.grow hM (Nat.le_refl _) hl [] rfl (by decide)
  have B7 : Mr γm3 (#[]) 0 w w7 := Mr.grow H6.out.2 (hM.below)
  clear hM hl l H6
  clear γ
  have H7 : Hid (_ ∧ _) := ⟨M7, B7⟩
  clear M7 B7
  refine rest0 rfl (then_normal (wp_cond_true rfl (wp_seq ?_)))
  refine walk_seqA 1 [.quiet (.bool false)] (sB H7) ?ho7 ?he7
  case ho7 => exact ak (fun _ => ⟨rfl, fun _ _ => rfl⟩) trivial
  intro γ w8 l hM hl
  have M8 : Mm w8 [(γ5_2, pt X Y Z), (γ1_0, kd p r c gx gy), (g, p2 X Y Z X Y Z)] := H7.out.1.grow hM (Nat.le_refl _) hl [] rfl (by decide)
  have B8 : Mr γm3 (#[]) 0 w w8 := Mr.grow H7.out.2 (hM.below)
  clear hM hl l H7
  clear γ
  have H8 : Hid (_ ∧ _) := ⟨M8, B8⟩
  clear M8 B8
  refine rest0 rfl (then_normal (wp_ret ?_))
  repeat (first | refine then_ret ?_ | refine block_ret ?_)
  refine bodyPost_ret (v := .bool false) (by simp [results, Try.results60, go_sem, *]) rfl ?_
  exact ⟨rfl, H8.out.2.bl⟩
set_option maxHeartbeats 4000000 in
set_option maxRecDepth 100000 in
theorem all_fx (hp : Pr p) (hr : r < 18446744073709551616) (X Y : Nat) (Z : Bool) (X' Y' : Nat) (Z' : Bool) (_hne : ¬ (X', Y', Z') = (X, Y, Z)) (h1 : ig p r X Y Z = false) (g : Nat) (w : World) (hm : Mm w [(g, p2 X Y Z X' Y' Z')]) :
    Calls Try.prog 60 #[.agg (kd p r c gx gy).toArray, .slice (some ⟨g, 0, none⟩) 2 2] w fun e w' => e = .returned (.bool false) ∧ Below w.heap.size w w' := by
  have H0 : Hid (_ ∧ _) := ⟨hm, Below.refl w.heap.size w⟩
  clear hm
  go_enter Try.func60, Try.ntmps60
  refine wp_seq ?_
  refine walk_seqA 2 [.made (kd p r c gx gy) 72, .quiet (.bool false)] (sB H0) ?ho1 ?he1
  case ho1 => exact ak (fun γ => ⟨rfl, fun w' => ex_boxT rfl rfl⟩) (ak (fun _ => ⟨rfl, fun _ _ => rfl⟩) trivial)
  intro γ w1 l hM hl
  have H1 : Hid (Mm w1 [(γ 0, kd p r c gx gy), (g, p2 X Y Z X' Y' Z')] ∧ _) := growB H0 hM (Nat.le_refl _) hl [0] rfl (by decide)
  have o1_0 := ownB H0 hM (Nat.le_refl _) hl (i := 0) rfl
  clear hM hl l
  generalize γ 0 = γ1_0 at H1 o1_0 ⊢
  clear γ
  refine rest0 rfl (then_normal (wp_seq ?_))
  refine walk_seqB 0 [] H1 ?ho2 ?he2
  case ho2 => exact trivial
  intro _ w2 H2
  clear H1
  refine rest_at (l := [0, 1]) rfl ?_
  refine rest_set (d := 8) (v := .map (some w2.heap.size)) (w' := w2.alloc (.map #[] 0)) rfl rfl rfl (ex_makeM0 rfl) ?_
  simp only [Act.put, sa, sz, ss]
  have H3 : Hid (Mm (w2.alloc (.map #[] 0)) [(γ1_0, kd p r c gx gy), (g, p2 X Y Z X' Y' Z')] ∧ Mr w2.heap.size #[] 0 w (w2.alloc (.map #[] 0))) := ⟨H2.out.1.below ((Below.refl _ _).alloc (Nat.le_refl _) _), Mr.made H2.out.2⟩
  clear H2
  generalize hgw : w2.alloc (.map #[] 0) = w3 at H3 ⊢
  clear hgw
  generalize w2.heap.size = γm3 at H3 ⊢
  refine rest_set (d := 5) rfl rfl rfl rfl ?_
  simp only [Act.put, sa, sz, ss]
  refine rest_nil (then_normal ?_)
  refine wp_seq (wp_seq ?_)
  refine walk_seqA 3 [.quiet (.slice (some ⟨g, 0, none⟩) 2 2), .quiet (.int .i64 2), .quiet (.int .i64 0)] (sB H3) ?ho3 ?he3
  case ho3 => exact ak (fun _ => ⟨rfl, fun _ _ => rfl⟩) (ak (by refine fun γ => ⟨rfl, fun w' h => ?_⟩; clear h; go_simp) (ak (fun _ => ⟨rfl, fun _ _ => rfl⟩) trivial))
  intro γ w4 l hM hl
  have M4 : Mm w4 [(γ1_0, kd p r c gx gy), (g, p2 X Y Z X' Y' Z')] := H3.out.1.grow hM (Nat.le_refl _) hl [] rfl (by decide)
  have B4 : Mr γm3 (#[]) 0 w w4 := Mr.grow H3.out.2 (hM.below)
  clear hM hl l H3
  clear γ
  have H4 : Hid (_ ∧ _) := ⟨M4, B4⟩
  clear M4 B4
  refine rest0 rfl (then_normal (wp_block ?_))
  refine wp_loop_rounds 3 ?_
  refine rounds_in (n := 2) ?_
  refine wp_seq ?_
  refine walk_seqA 1 [.quiet (.bool true)] (sB H4) ?ho4 ?he4
  case ho4 => exact ak (by refine fun γ => ⟨rfl, fun w' h => ?_⟩; clear h; go_simp) trivial
  intro γ w5 l hM hl
  have M5 : Mm w5 [(γ1_0, kd p r c gx gy), (g, p2 X Y Z X' Y' Z')] := H4.out.1.grow hM (Nat.le_refl _) hl [] rfl (by decide)
  have B5 : Mr γm3 (#[]) 0 w w5 := Mr.grow H4.out.2 (hM.below)
  clear hM hl l H4
  clear γ
  have H5 : Hid (_ ∧ _) := ⟨M5, B5⟩
  clear M5 B5
  refine rest0 rfl (then_normal (wp_seq ?_))
  refine wp_cond_true rfl (wp_skip ?_)
  refine then_normal (wp_seq ?_)
  refine wp_block (wp_seq ?_)
  refine walk_seqA 4 [.quiet (PT g 0), .quiet (.agg (pt X Y Z).toArray), .made (pt 0 0 false) 25, .laid 2 (pt 0 0 false) (pt X Y Z)] (sB H5) ?ho5 ?he5 (hL := ?hL5)
  case hL5 => exact ⟨⟨_, rfl⟩, trivial⟩
  case ho5 => exact ak (by refine fun γ => ⟨rfl, fun w' h => ?_⟩; clear h; go_simp) (ak (fun γ => ⟨rfl, fun w' h => ex_loadT h 1 rfl rfl rfl Try.isAgg25 Try.sizeOf25 rfl rfl⟩) (ak (fun γ => ⟨rfl, fun w' => ex_made25 rfl⟩) (ak (fun γ => ⟨rfl, rfl, rfl, fun w' h => ex_laidT h rfl rfl Try.sizeOf25 rfl rfl rfl⟩) trivial)))
  intro γ w6 l hM hl
  have M6 : Mm w6 [(γ 2, pt X Y Z), (γ1_0, kd p r c gx gy), (g, p2 X Y Z X' Y' Z')] := H5.out.1.grow hM (Nat.le_refl _) hl [2] rfl (by decide)
  have B6 : Mr γm3 (#[]) 0 w w6 := Mr.grow H5.out.2 (hM.below)
  have o5_2 : Hid (w.heap.size ≤ γ 2) := Nat.le_trans H5.out.2.size (hM.fin (Nat.le_refl _) hl (i := 2) rfl).2.1
  clear hM hl l H5
  generalize γ 2 = γ5_2 at M6 o5_2 ⊢
  clear γ
  have H6 : Hid (_ ∧ _) := ⟨M6, B6⟩
  clear M6 B6
  refine rest0 rfl (then_normal (wp_seq (wp_seq ?_)))
  refine (walk_seq) 10 [.quiet (.map (some γm3)), .quiet (.agg (pt X Y Z).toArray), .quiet (.int .i64 0), .quiet (.bool true), .quiet (.bool true), .quiet (.agg (kd p r c gx gy).toArray), .quiet (.agg (pt X Y Z).toArray), .call (.bool false), .quiet (.bool true), .quiet (.bool true)] (fun u' => Mm u' [(γ5_2, pt X Y Z), (γ1_0, kd p r c gx gy), (g, p2 X Y Z X' Y' Z')] ∧ u'.heap[γm3]? = some (.map #[] 0)) ?pre6 ?F6 ?hpre6 (fun γ => ?hF6) (by kernel_rfl) ?hL6 ?hS6 ?ho6 ?he6
  case hpre6 => simp only [tk, tz]; rfl
  case hF6 => simp only [fill, Kind.val, Act.put, sa, sz, ss]; rfl
  case hL6 => exact trivial
  case hS6 => exact fun w' hb => ⟨H6.out.1.below hb, (Mr.grow H6.out.2 (hb)).at_⟩
  case ho6 =>
    refine ak (fun _ => ⟨rfl, fun _ _ => rfl⟩) ?_
    refine ak (fun γ => ⟨rfl, fun w' hX => have h := hX.1; ex_loadT h 0 rfl rfl rfl Try.isAgg25 Try.sizeOf25 rfl rfl⟩) ?_
    refine ak (fun γ => ⟨rfl, fun w' hX => ex_look hX.2 (find_0 (X, Y, Z) _) rfl rfl rfl rfl⟩) ?_
    refine ak (by refine fun γ => ⟨rfl, fun w' h => ?_⟩; clear h; go_simp) ?_
    refine ak (fun _ => ⟨rfl, fun _ _ => rfl⟩) ?_
    refine ak (fun γ => ⟨rfl, fun w' hX => have h := hX.1; ex_loadT h 1 rfl rfl rfl Try.isAgg72 Try.sizeOf72 rfl rfl⟩) ?_
    refine ak (fun γ => ⟨rfl, fun w' hX => have h := hX.1; ex_loadT h 0 rfl rfl rfl Try.isAgg25 Try.sizeOf25 rfl rfl⟩) ?_
    refine ak (fun γ => ⟨rfl, fun w' hX => ⟨51, #[.agg (kd p r c gx gy).toArray, .agg (pt X Y Z).toArray], exec_call rfl call51 rfl (mpn rfl), ig_in hp hr X Y Z _ h1 w'⟩⟩) ?_
    refine ak (by refine fun γ => ⟨rfl, fun w' h => ?_⟩; clear h; go_simp) ?_
    refine ak (by refine fun γ => ⟨rfl, fun w' h => ?_⟩; clear h; go_simp) ?_
    exact trivial
  intro γ w7 l hM hl
  have M7 : Mm w7 [(γ5_2, pt X Y Z), (γ1_0, kd p r c gx gy), (g, p2 X Y Z X' Y' Z')] := H6.out.1.grow hM (Nat.le_refl _) hl [] rfl (by decide)
  have B7 : Mr γm3 (#[]) 0 w w7 := Mr.grow H6.out.2 (hM.below)
  clear hM hl l H6
  clear γ
  have H7 : Hid (_ ∧ _) := ⟨M7, B7⟩
  clear M7 B7
  refine rest0 rfl (then_normal (wp_cond_true rfl (wp_seq ?_)))
  refine walk_seqA 1 [.quiet (.bool false)] (sB H7) ?ho7 ?he7
  case ho7 => exact ak (fun _ => ⟨rfl, fun _ _ => rfl⟩) trivial
  intro γ w8 l hM hl
  have M8 : Mm w8 [(γ5_2, pt X Y Z), (γ1_0, kd p r c gx gy), (g, p2 X Y Z X' Y' Z')] := H7.out.1.grow hM (Nat.le_refl _) hl [] rfl (by decide)
  have B8 : Mr γm3 (#[]) 0 w w8 := Mr.grow H7.out.2 (hM.below)
  clear hM hl l H7
  clear γ
  have H8 : Hid (_ ∧ _) := ⟨M8, B8⟩
  clear M8 B8
  refine rest0 rfl (then_normal (wp_ret ?_))
  repeat (first | refine then_ret ?_ | refine block_ret ?_)
  refine bodyPost_ret (v := .bool false) (by simp [results, Try.results60, go_sem, *]) rfl ?_
  exact ⟨rfl, H8.out.2.bl⟩
set_option maxHeartbeats 4000000 in
set_option maxRecDepth 100000 in
theorem all_tf (hp : Pr p) (hr : r < 18446744073709551616) (X Y : Nat) (Z : Bool) (X' Y' : Nat) (Z' : Bool) (hne : ¬ (X', Y', Z') = (X, Y, Z)) (h1 : ig p r X Y Z = true) (h2 : ig p r X' Y' Z' = false) (g : Nat) (w : World) (hm : Mm w [(g, p2 X Y Z X' Y' Z')]) :
    Calls Try.prog 60 #[.agg (kd p r c gx gy).toArray, .slice (some ⟨g, 0, none⟩) 2 2] w fun e w' => e = .returned (.bool false) ∧ Below w.heap.size w w' := by
  have H0 : Hid (_ ∧ _) := ⟨hm, Below.refl w.heap.size w⟩
  clear hm
  go_enter Try.func60, Try.ntmps60
  refine wp_seq ?_
  refine walk_seqA 2 [.made (kd p r c gx gy) 72, .quiet (.bool false)] (sB H0) ?ho1 ?he1
  case ho1 => exact ak (fun γ => ⟨rfl, fun w' => ex_boxT rfl rfl⟩) (ak (fun _ => ⟨rfl, fun _ _ => rfl⟩) trivial)
  intro γ w1 l hM hl
  have H1 : Hid (Mm w1 [(γ 0, kd p r c gx gy), (g, p2 X Y Z X' Y' Z')] ∧ _) := growB H0 hM (Nat.le_refl _) hl [0] rfl (by decide)
  have o1_0 := ownB H0 hM (Nat.le_refl _) hl (i := 0) rfl
  clear hM hl l
  generalize γ 0 = γ1_0 at H1 o1_0 ⊢
  clear γ
  refine rest0 rfl (then_normal (wp_seq ?_))
  refine walk_seqB 0 [] H1 ?ho2 ?he2
  case ho2 => exact trivial
  intro _ w2 H2
  clear H1
  refine rest_at (l := [0, 1]) rfl ?_
  refine rest_set (d := 8) (v := .map (some w2.heap.size)) (w' := w2.alloc (.map #[] 0)) rfl rfl rfl (ex_makeM0 rfl) ?_
  simp only [Act.put, sa, sz, ss]
  have H3 : Hid (Mm (w2.alloc (.map #[] 0)) [(γ1_0, kd p r c gx gy), (g, p2 X Y Z X' Y' Z')] ∧ Mr w2.heap.size #[] 0 w (w2.alloc (.map #[] 0))) := ⟨H2.out.1.below ((Below.refl _ _).alloc (Nat.le_refl _) _), Mr.made H2.out.2⟩
  clear H2
  generalize hgw : w2.alloc (.map #[] 0) = w3 at H3 ⊢
  clear hgw
  generalize w2.heap.size = γm3 at H3 ⊢
  refine rest_set (d := 5) rfl rfl rfl rfl ?_
  simp only [Act.put, sa, sz, ss]
  refine rest_nil (then_normal ?_)
  refine wp_seq (wp_seq ?_)
  refine walk_seqA 3 [.quiet (.slice (some ⟨g, 0, none⟩) 2 2), .quiet (.int .i64 2), .quiet (.int .i64 0)] (sB H3) ?ho3 ?he3
  case ho3 => exact ak (fun _ => ⟨rfl, fun _ _ => rfl⟩) (ak (by refine fun γ => ⟨rfl, fun w' h => ?_⟩; clear h; go_simp) (ak (fun _ => ⟨rfl, fun _ _ => rfl⟩) trivial))
  intro γ w4 l hM hl
  have M4 : Mm w4 [(γ1_0, kd p r c gx gy), (g, p2 X Y Z X' Y' Z')] := H3.out.1.grow hM (Nat.le_refl _) hl [] rfl (by decide)
  have B4 : Mr γm3 (#[]) 0 w w4 := Mr.grow H3.out.2 (hM.below)
  clear hM hl l H3
  clear γ
  have H4 : Hid (_ ∧ _) := ⟨M4, B4⟩
  clear M4 B4
  refine rest0 rfl (then_normal (wp_block ?_))
  refine wp_loop_rounds 3 ?_
  refine rounds_in (n := 2) ?_
  refine wp_seq ?_
  refine walk_seqA 1 [.quiet (.bool true)] (sB H4) ?ho4 ?he4
  case ho4 => exact ak (by refine fun γ => ⟨rfl, fun w' h => ?_⟩; clear h; go_simp) trivial
  intro γ w5 l hM hl
  have M5 : Mm w5 [(γ1_0, kd p r c gx gy), (g, p2 X Y Z X' Y' Z')] := H4.out.1.grow hM (Nat.le_refl _) hl [] rfl (by decide)
  have B5 : Mr γm3 (#[]) 0 w w5 := Mr.grow H4.out.2 (hM.below)
  clear hM hl l H4
  clear γ
  have H5 : Hid (_ ∧ _) := ⟨M5, B5⟩
  clear M5 B5
  refine rest0 rfl (then_normal (wp_seq ?_))
  refine wp_cond_true rfl (wp_skip ?_)
  refine then_normal (wp_seq ?_)
  refine wp_block (wp_seq ?_)
  refine walk_seqA 4 [.quiet (PT g 0), .quiet (.agg (pt X Y Z).toArray), .made (pt 0 0 false) 25, .laid 2 (pt 0 0 false) (pt X Y Z)] (sB H5) ?ho5 ?he5 (hL := ?hL5)
  case hL5 => exact ⟨⟨_, rfl⟩, trivial⟩
  case ho5 => exact ak (by refine fun γ => ⟨rfl, fun w' h => ?_⟩; clear h; go_simp) (ak (fun γ => ⟨rfl, fun w' h => ex_loadT h 1 rfl rfl rfl Try.isAgg25 Try.sizeOf25 rfl rfl⟩) (ak (fun γ => ⟨rfl, fun w' => ex_made25 rfl⟩) (ak (fun γ => ⟨rfl, rfl, rfl, fun w' h => ex_laidT h rfl rfl Try.sizeOf25 rfl rfl rfl⟩) trivial)))
  intro γ w6 l hM hl
  have M6 : Mm w6 [(γ 2, pt X Y Z), (γ1_0, kd p r c gx gy), (g, p2 X Y Z X' Y' Z')] := H5.out.1.grow hM (Nat.le_refl _) hl [2] rfl (by decide)
  have B6 : Mr γm3 (#[]) 0 w w6 := Mr.grow H5.out.2 (hM.below)
  have o5_2 : Hid (w.heap.size ≤ γ 2) := Nat.le_trans H5.out.2.size (hM.fin (Nat.le_refl _) hl (i := 2) rfl).2.1
  clear hM hl l H5
  generalize γ 2 = γ5_2 at M6 o5_2 ⊢
  clear γ
  have H6 : Hid (_ ∧ _) := ⟨M6, B6⟩
  clear M6 B6
  refine rest0 rfl (then_normal (wp_seq (wp_seq ?_)))
  refine (walk_seq) 10 [.quiet (.map (some γm3)), .quiet (.agg (pt X Y Z).toArray), .quiet (.int .i64 0), .quiet (.bool true), .quiet (.bool true), .quiet (.agg (kd p r c gx gy).toArray), .quiet (.agg (pt X Y Z).toArray), .call (.bool true), .quiet (.bool false), .quiet (.bool false)] (fun u' => Mm u' [(γ5_2, pt X Y Z), (γ1_0, kd p r c gx gy), (g, p2 X Y Z X' Y' Z')] ∧ u'.heap[γm3]? = some (.map #[] 0)) ?pre6 ?F6 ?hpre6 (fun γ => ?hF6) (by kernel_rfl) ?hL6 ?hS6 ?ho6 ?he6
  case hpre6 => simp only [tk, tz]; rfl
  case hF6 => simp only [fill, Kind.val, Act.put, sa, sz, ss]; rfl
  case hL6 => exact trivial
  case hS6 => exact fun w' hb => ⟨H6.out.1.below hb, (Mr.grow H6.out.2 (hb)).at_⟩
  case ho6 =>
    refine ak (fun _ => ⟨rfl, fun _ _ => rfl⟩) ?_
    refine ak (fun γ => ⟨rfl, fun w' hX => have h := hX.1; ex_loadT h 0 rfl rfl rfl Try.isAgg25 Try.sizeOf25 rfl rfl⟩) ?_
    refine ak (fun γ => ⟨rfl, fun w' hX => ex_look hX.2 (find_0 (X, Y, Z) _) rfl rfl rfl rfl⟩) ?_
    refine ak (by refine fun γ => ⟨rfl, fun w' h => ?_⟩; clear h; go_simp) ?_
    refine ak (fun _ => ⟨rfl, fun _ _ => rfl⟩) ?_
    refine ak (fun γ => ⟨rfl, fun w' hX => have h := hX.1; ex_loadT h 1 rfl rfl rfl Try.isAgg72 Try.sizeOf72 rfl rfl⟩) ?_
    refine ak (fun γ => ⟨rfl, fun w' hX => have h := hX.1; ex_loadT h 0 rfl rfl rfl Try.isAgg25 Try.sizeOf25 rfl rfl⟩) ?_
    refine ak (fun γ => ⟨rfl, fun w' hX => ⟨51, #[.agg (kd p r c gx gy).toArray, .agg (pt X Y Z).toArray], exec_call rfl call51 rfl (mpn rfl), ig_in hp hr X Y Z _ h1 w'⟩⟩) ?_
    refine ak (by refine fun γ => ⟨rfl, fun w' h => ?_⟩; clear h; go_simp) ?_
    refine ak (by refine fun γ => ⟨rfl, fun w' h => ?_⟩; clear h; go_simp) ?_
    exact trivial
  intro γ w7 l hM hl
  have M7 : Mm w7 [(γ5_2, pt X Y Z), (γ1_0, kd p r c gx gy), (g, p2 X Y Z X' Y' Z')] := H6.out.1.grow hM (Nat.le_refl _) hl [] rfl (by decide)
  have B7 : Mr γm3 (#[]) 0 w w7 := Mr.grow H6.out.2 (hM.below)
  clear hM hl l H6
  clear γ
  have H7 : Hid (_ ∧ _) := ⟨M7, B7⟩
  clear M7 B7
  refine rest0 rfl (then_normal (wp_cond_false rfl ?_))
  refine wp_skip (then_normal ?_)
  refine region_k (n := 7) ⟨#[.agg (kd p r c gx gy).toArray, .slice (some ⟨g, 0, none⟩) 2 2, PT γ1_0 0, undef, .bool false, .map (some γm3), undef, PT γ5_2 0, .map (some γm3), .slice (some ⟨g, 0, none⟩) 2 2, .int .i64 2, .int .i64 0, .bool true, PT g 0, .agg (pt X Y Z).toArray, .map (some γm3), .agg (pt X Y Z).toArray, .int .i64 0, .bool true, .bool true, .agg (kd p r c gx gy).toArray, .agg (pt X Y Z).toArray, .bool true, .bool false, .bool false, .map (some γm3), .agg (pt X Y Z).toArray, .int .i64 0, .int .i64 1, .tuple #[.int .i64 0, .int .i64 0], .int .i64 0, undef], []⟩ (fun w2 => Mm w2 [(γ5_2, pt X Y Z), (γ1_0, kd p r c gx gy), (g, p2 X Y Z X' Y' Z')] ∧ Mr γm3 (#[ent (X, Y, Z) 1 0]) 1 w w2) (by kernel_rfl) rfl ?tree7 ?cont7
  case tree7 =>
    have Ha : Hid (Mm w7.drew [(γ5_2, pt X Y Z), (γ1_0, kd p r c gx gy), (g, p2 X Y Z X' Y' Z')] ∧ Mr γm3 (#[]) 0 w w7.drew) := ⟨H7.out.1.drew, H7.out.2.grow (Below.refl _ _).drew⟩
    generalize w7.drew = u0 at Ha ⊢
    refine any_ready [0, 1] (by kernel_rfl) (by decide) (fun i hi => ?_)
    rcases List.mem_cons.1 hi with rfl | hi
    · have hrd : True := trivial
      clear hrd
      refine op_val (d := 25) (v := .map (some γm3)) (w' := u0) rfl rfl rfl (by rfl) ?_
      simp only [Act.put, sa, sz, ss]
      refine any_ready [1] (by kernel_rfl) (by decide) (fun i hi => ?_)
      obtain rfl := List.mem_singleton.1 hi
      refine op_val (d := 26) (v := .agg (pt X Y Z).toArray) (w' := u0) rfl rfl rfl (ex_loadT Ha.out.1 0 rfl rfl rfl Try.isAgg25 Try.sizeOf25 rfl rfl) ?_
      simp only [Act.put, sa, sz, ss]
      refine any_ready [2, 4] (by kernel_rfl) (by decide) (fun i hi => ?_)
      rcases List.mem_cons.1 hi with rfl | hi
      · have hrd : True := trivial
        clear hrd
        refine op_val (d := 27) (v := .int .i64 0) (w' := u0) rfl rfl rfl (ex_look Ha.out.2.at_ (find_0 (X, Y, Z) _) rfl rfl rfl rfl) ?_
        simp only [Act.put, sa, sz, ss]
        refine any_ready [3, 4] (by kernel_rfl) (by decide) (fun i hi => ?_)
        rcases List.mem_cons.1 hi with rfl | hi
        · have hrd : True := trivial
          clear hrd
          refine op_val (d := 28) (v := .int .i64 1) (w' := u0) rfl rfl rfl (by kernel_rfl) ?_
          simp only [Act.put, sa, sz, ss]
          refine any_ready [4] (by kernel_rfl) (by decide) (fun i hi => ?_)
          obtain rfl := List.mem_singleton.1 hi
          refine op_val (d := 29) (v := .tuple #[.int .i64 0, .int .i64 0]) (w' := (wm u0 γm3 (#[ent (X, Y, Z) 0 0]) 1)) rfl rfl rfl (ex_entryN (a := (X, Y, Z)) Ha.out.2.at_ (find_0 (X, Y, Z) _) rfl rfl rfl) ?_
          simp only [Act.put, sa, sz, ss]
          have Hb : Hid (Mm (wm u0 γm3 (#[ent (X, Y, Z) 0 0]) 1) [(γ5_2, pt X Y Z), (γ1_0, kd p r c gx gy), (g, p2 X Y Z X' Y' Z')] ∧ Mr γm3 (#[ent (X, Y, Z) 0 0]) 1 w (wm u0 γm3 (#[ent (X, Y, Z) 0 0]) 1)) := ⟨Ha.out.1.wm Ha.out.2 _ _, Ha.out.2.wm _ _⟩
          generalize wm u0 γm3 (#[ent (X, Y, Z) 0 0]) 1 = u1 at Hb ⊢
          refine any_ready [5] (by kernel_rfl) (by decide) (fun i hi => ?_)
          obtain rfl := List.mem_singleton.1 hi
          refine op_val (d := 30) (v := .int .i64 0) (w' := u1) rfl rfl rfl (by go_simp) ?_
          simp only [Act.put, sa, sz, ss]
          refine any_ready [6] (by kernel_rfl) (by decide) (fun i hi => ?_)
          obtain rfl := List.mem_singleton.1 hi
          refine op_skip (w' := wm u1 γm3 (#[ent (X, Y, Z) 1 0]) 1) rfl rfl rfl (ex_eStore Hb.out.2.at_ (idx_1 _ _) rfl rfl rfl rfl rfl) ?_
          have Hc : Mm (wm u1 γm3 (#[ent (X, Y, Z) 1 0]) 1) [(γ5_2, pt X Y Z), (γ1_0, kd p r c gx gy), (g, p2 X Y Z X' Y' Z')] ∧ Mr γm3 (#[ent (X, Y, Z) 1 0]) 1 w (wm u1 γm3 (#[ent (X, Y, Z) 1 0]) 1) := ⟨Hb.out.1.wm Hb.out.2 _ _, Hb.out.2.wm _ _⟩
          exact ⟨by kernel_rfl, rfl, rfl, Hc⟩
        obtain rfl := List.mem_singleton.1 hi
        refine op_val (d := 29) (v := .tuple #[.int .i64 0, .int .i64 0]) (w' := (wm u0 γm3 (#[ent (X, Y, Z) 0 0]) 1)) rfl rfl rfl (ex_entryN (a := (X, Y, Z)) Ha.out.2.at_ (find_0 (X, Y, Z) _) rfl rfl rfl) ?_
        simp only [Act.put, sa, sz, ss]
        have Hb : Hid (Mm (wm u0 γm3 (#[ent (X, Y, Z) 0 0]) 1) [(γ5_2, pt X Y Z), (γ1_0, kd p r c gx gy), (g, p2 X Y Z X' Y' Z')] ∧ Mr γm3 (#[ent (X, Y, Z) 0 0]) 1 w (wm u0 γm3 (#[ent (X, Y, Z) 0 0]) 1)) := ⟨Ha.out.1.wm Ha.out.2 _ _, Ha.out.2.wm _ _⟩
        generalize wm u0 γm3 (#[ent (X, Y, Z) 0 0]) 1 = u1 at Hb ⊢
        refine any_ready [3, 5] (by kernel_rfl) (by decide) (fun i hi => ?_)
        rcases List.mem_cons.1 hi with rfl | hi
        · have hrd : True := trivial
          clear hrd
          refine op_val (d := 28) (v := .int .i64 1) (w' := u1) rfl rfl rfl (by kernel_rfl) ?_
          simp only [Act.put, sa, sz, ss]
          refine any_ready [5] (by kernel_rfl) (by decide) (fun i hi => ?_)
          obtain rfl := List.mem_singleton.1 hi
          refine op_val (d := 30) (v := .int .i64 0) (w' := u1) rfl rfl rfl (by go_simp) ?_
          simp only [Act.put, sa, sz, ss]
          refine any_ready [6] (by kernel_rfl) (by decide) (fun i hi => ?_)
          obtain rfl := List.mem_singleton.1 hi
          refine op_skip (w' := wm u1 γm3 (#[ent (X, Y, Z) 1 0]) 1) rfl rfl rfl (ex_eStore Hb.out.2.at_ (idx_1 _ _) rfl rfl rfl rfl rfl) ?_
          have Hc : Mm (wm u1 γm3 (#[ent (X, Y, Z) 1 0]) 1) [(γ5_2, pt X Y Z), (γ1_0, kd p r c gx gy), (g, p2 X Y Z X' Y' Z')] ∧ Mr γm3 (#[ent (X, Y, Z) 1 0]) 1 w (wm u1 γm3 (#[ent (X, Y, Z) 1 0]) 1) := ⟨Hb.out.1.wm Hb.out.2 _ _, Hb.out.2.wm _ _⟩
          exact ⟨by kernel_rfl, rfl, rfl, Hc⟩
        obtain rfl := List.mem_singleton.1 hi
        refine op_val (d := 30) (v := .int .i64 0) (w' := u1) rfl rfl rfl (by go_simp) ?_
        simp only [Act.put, sa, sz, ss]
        refine any_ready [3] (by kernel_rfl) (by decide) (fun i hi => ?_)
        obtain rfl := List.mem_singleton.1 hi
        refine op_val (d := 28) (v := .int .i64 1) (w' := u1) rfl rfl rfl (by kernel_rfl) ?_
        simp only [Act.put, sa, sz, ss]
        refine any_ready [6] (by kernel_rfl) (by decide) (fun i hi => ?_)
        obtain rfl := List.mem_singleton.1 hi
        refine op_skip (w' := wm u1 γm3 (#[ent (X, Y, Z) 1 0]) 1) rfl rfl rfl (ex_eStore Hb.out.2.at_ (idx_1 _ _) rfl rfl rfl rfl rfl) ?_
        have Hc : Mm (wm u1 γm3 (#[ent (X, Y, Z) 1 0]) 1) [(γ5_2, pt X Y Z), (γ1_0, kd p r c gx gy), (g, p2 X Y Z X' Y' Z')] ∧ Mr γm3 (#[ent (X, Y, Z) 1 0]) 1 w (wm u1 γm3 (#[ent (X, Y, Z) 1 0]) 1) := ⟨Hb.out.1.wm Hb.out.2 _ _, Hb.out.2.wm _ _⟩
        exact ⟨by kernel_rfl, rfl, rfl, Hc⟩
      obtain rfl := List.mem_singleton.1 hi
      refine op_val (d := 29) (v := .tuple #[.int .i64 0, .int .i64 0]) (w' := (wm u0 γm3 (#[ent (X, Y, Z) 0 0]) 1)) rfl rfl rfl (ex_entryN (a := (X, Y, Z)) Ha.out.2.at_ (find_0 (X, Y, Z) _) rfl rfl rfl) ?_
      simp only [Act.put, sa, sz, ss]
      have Hb : Hid (Mm (wm u0 γm3 (#[ent (X, Y, Z) 0 0]) 1) [(γ5_2, pt X Y Z), (γ1_0, kd p r c gx gy), (g, p2 X Y Z X' Y' Z')] ∧ Mr γm3 (#[ent (X, Y, Z) 0 0]) 1 w (wm u0 γm3 (#[ent (X, Y, Z) 0 0]) 1)) := ⟨Ha.out.1.wm Ha.out.2 _ _, Ha.out.2.wm _ _⟩
      generalize wm u0 γm3 (#[ent (X, Y, Z) 0 0]) 1 = u1 at Hb ⊢
      refine any_ready [2, 5] (by kernel_rfl) (by decide) (fun i hi => ?_)
      rcases List.mem_cons.1 hi with rfl | hi
      · have hrd : True := trivial
        clear hrd
        refine op_val (d := 27) (v := .int .i64 0) (w' := u1) rfl rfl rfl (ex_look Hb.out.2.at_ (by have e := find_1 (X, Y, Z) (X, Y, Z) 0 0 u1; rw [if_pos rfl] at e; exact e) rfl rfl rfl rfl) ?_
        simp only [Act.put, sa, sz, ss]
        refine any_ready [3, 5] (by kernel_rfl) (by decide) (fun i hi => ?_)
        rcases List.mem_cons.1 hi with rfl | hi
        · have hrd : True := trivial
          clear hrd
          refine op_val (d := 28) (v := .int .i64 1) (w' := u1) rfl rfl rfl (by kernel_rfl) ?_
          simp only [Act.put, sa, sz, ss]
          refine any_ready [5] (by kernel_rfl) (by decide) (fun i hi => ?_)
          obtain rfl := List.mem_singleton.1 hi
          refine op_val (d := 30) (v := .int .i64 0) (w' := u1) rfl rfl rfl (by go_simp) ?_
          simp only [Act.put, sa, sz, ss]
          refine any_ready [6] (by kernel_rfl) (by decide) (fun i hi => ?_)
          obtain rfl := List.mem_singleton.1 hi
          refine op_skip (w' := wm u1 γm3 (#[ent (X, Y, Z) 1 0]) 1) rfl rfl rfl (ex_eStore Hb.out.2.at_ (idx_1 _ _) rfl rfl rfl rfl rfl) ?_
          have Hc : Mm (wm u1 γm3 (#[ent (X, Y, Z) 1 0]) 1) [(γ5_2, pt X Y Z), (γ1_0, kd p r c gx gy), (g, p2 X Y Z X' Y' Z')] ∧ Mr γm3 (#[ent (X, Y, Z) 1 0]) 1 w (wm u1 γm3 (#[ent (X, Y, Z) 1 0]) 1) := ⟨Hb.out.1.wm Hb.out.2 _ _, Hb.out.2.wm _ _⟩
          exact ⟨by kernel_rfl, rfl, rfl, Hc⟩
        obtain rfl := List.mem_singleton.1 hi
        refine op_val (d := 30) (v := .int .i64 0) (w' := u1) rfl rfl rfl (by go_simp) ?_
        simp only [Act.put, sa, sz, ss]
        refine any_ready [3] (by kernel_rfl) (by decide) (fun i hi => ?_)
        obtain rfl := List.mem_singleton.1 hi
        refine op_val (d := 28) (v := .int .i64 1) (w' := u1) rfl rfl rfl (by kernel_rfl) ?_
        simp only [Act.put, sa, sz, ss]
        refine any_ready [6] (by kernel_rfl) (by decide) (fun i hi => ?_)
        obtain rfl := List.mem_singleton.1 hi
        refine op_skip (w' := wm u1 γm3 (#[ent (X, Y, Z) 1 0]) 1) rfl rfl rfl (ex_eStore Hb.out.2.at_ (idx_1 _ _) rfl rfl rfl rfl rfl) ?_
        have Hc : Mm (wm u1 γm3 (#[ent (X, Y, Z) 1 0]) 1) [(γ5_2, pt X Y Z), (γ1_0, kd p r c gx gy), (g, p2 X Y Z X' Y' Z')] ∧ Mr γm3 (#[ent (X, Y, Z) 1 0]) 1 w (wm u1 γm3 (#[ent (X, Y, Z) 1 0]) 1) := ⟨Hb.out.1.wm Hb.out.2 _ _, Hb.out.2.wm _ _⟩
        exact ⟨by kernel_rfl, rfl, rfl, Hc⟩
      obtain rfl := List.mem_singleton.1 hi
      refine op_val (d := 30) (v := .int .i64 0) (w' := u1) rfl rfl rfl (by go_simp) ?_
      simp only [Act.put, sa, sz, ss]
      refine any_ready [2] (by kernel_rfl) (by decide) (fun i hi => ?_)
      obtain rfl := List.mem_singleton.1 hi
      refine op_val (d := 27) (v := .int .i64 0) (w' := u1) rfl rfl rfl (ex_look Hb.out.2.at_ (by have e := find_1 (X, Y, Z) (X, Y, Z) 0 0 u1; rw [if_pos rfl] at e; exact e) rfl rfl rfl rfl) ?_
      simp only [Act.put, sa, sz, ss]
      refine any_ready [3] (by kernel_rfl) (by decide) (fun i hi => ?_)
      obtain rfl := List.mem_singleton.1 hi
      refine op_val (d := 28) (v := .int .i64 1) (w' := u1) rfl rfl rfl (by kernel_rfl) ?_
      simp only [Act.put, sa, sz, ss]
      refine any_ready [6] (by kernel_rfl) (by decide) (fun i hi => ?_)
      obtain rfl := List.mem_singleton.1 hi
      refine op_skip (w' := wm u1 γm3 (#[ent (X, Y, Z) 1 0]) 1) rfl rfl rfl (ex_eStore Hb.out.2.at_ (idx_1 _ _) rfl rfl rfl rfl rfl) ?_
      have Hc : Mm (wm u1 γm3 (#[ent (X, Y, Z) 1 0]) 1) [(γ5_2, pt X Y Z), (γ1_0, kd p r c gx gy), (g, p2 X Y Z X' Y' Z')] ∧ Mr γm3 (#[ent (X, Y, Z) 1 0]) 1 w (wm u1 γm3 (#[ent (X, Y, Z) 1 0]) 1) := ⟨Hb.out.1.wm Hb.out.2 _ _, Hb.out.2.wm _ _⟩
      exact ⟨by kernel_rfl, rfl, rfl, Hc⟩
    obtain rfl := List.mem_singleton.1 hi
    refine op_val (d := 26) (v := .agg (pt X Y Z).toArray) (w' := u0) rfl rfl rfl (ex_loadT Ha.out.1 0 rfl rfl rfl Try.isAgg25 Try.sizeOf25 rfl rfl) ?_
    simp only [Act.put, sa, sz, ss]
    refine any_ready [0] (by kernel_rfl) (by decide) (fun i hi => ?_)
    obtain rfl := List.mem_singleton.1 hi
    refine op_val (d := 25) (v := .map (some γm3)) (w' := u0) rfl rfl rfl (by rfl) ?_
    simp only [Act.put, sa, sz, ss]
    refine any_ready [2, 4] (by kernel_rfl) (by decide) (fun i hi => ?_)
    rcases List.mem_cons.1 hi with rfl | hi
    · have hrd : True := trivial
      clear hrd
      refine op_val (d := 27) (v := .int .i64 0) (w' := u0) rfl rfl rfl (ex_look Ha.out.2.at_ (find_0 (X, Y, Z) _) rfl rfl rfl rfl) ?_
      simp only [Act.put, sa, sz, ss]
      refine any_ready [3, 4] (by kernel_rfl) (by decide) (fun i hi => ?_)
      rcases List.mem_cons.1 hi with rfl | hi
      · have hrd : True := trivial
        clear hrd
        refine op_val (d := 28) (v := .int .i64 1) (w' := u0) rfl rfl rfl (by kernel_rfl) ?_
        simp only [Act.put, sa, sz, ss]
        refine any_ready [4] (by kernel_rfl) (by decide) (fun i hi => ?_)
        obtain rfl := List.mem_singleton.1 hi
        refine op_val (d := 29) (v := .tuple #[.int .i64 0, .int .i64 0]) (w' := (wm u0 γm3 (#[ent (X, Y, Z) 0 0]) 1)) rfl rfl rfl (ex_entryN (a := (X, Y, Z)) Ha.out.2.at_ (find_0 (X, Y, Z) _) rfl rfl rfl) ?_
        simp only [Act.put, sa, sz, ss]
        have Hb : Hid (Mm (wm u0 γm3 (#[ent (X, Y, Z) 0 0]) 1) [(γ5_2, pt X Y Z), (γ1_0, kd p r c gx gy), (g, p2 X Y Z X' Y' Z')] ∧ Mr γm3 (#[ent (X, Y, Z) 0 0]) 1 w (wm u0 γm3 (#[ent (X, Y, Z) 0 0]) 1)) := ⟨Ha.out.1.wm Ha.out.2 _ _, Ha.out.2.wm _ _⟩
        generalize wm u0 γm3 (#[ent (X, Y, Z) 0 0]) 1 = u1 at Hb ⊢
        refine any_ready [5] (by kernel_rfl) (by decide) (fun i hi => ?_)
        obtain rfl := List.mem_singleton.1 hi
        refine op_val (d := 30) (v := .int .i64 0) (w' := u1) rfl rfl rfl (by go_simp) ?_
        simp only [Act.put, sa, sz, ss]
        refine any_ready [6] (by kernel_rfl) (by decide) (fun i hi => ?_)
        obtain rfl := List.mem_singleton.1 hi
        refine op_skip (w' := wm u1 γm3 (#[ent (X, Y, Z) 1 0]) 1) rfl rfl rfl (ex_eStore Hb.out.2.at_ (idx_1 _ _) rfl rfl rfl rfl rfl) ?_
        have Hc : Mm (wm u1 γm3 (#[ent (X, Y, Z) 1 0]) 1) [(γ5_2, pt X Y Z), (γ1_0, kd p r c gx gy), (g, p2 X Y Z X' Y' Z')] ∧ Mr γm3 (#[ent (X, Y, Z) 1 0]) 1 w (wm u1 γm3 (#[ent (X, Y, Z) 1 0]) 1) := ⟨Hb.out.1.wm Hb.out.2 _ _, Hb.out.2.wm _ _⟩
        exact ⟨by kernel_rfl, rfl, rfl, Hc⟩
      obtain rfl := List.mem_singleton.1 hi
      refine op_val (d := 29) (v := .tuple #[.int .i64 0, .int .i64 0]) (w' := (wm u0 γm3 (#[ent (X, Y, Z) 0 0]) 1)) rfl rfl rfl (ex_entryN (a := (X, Y, Z)) Ha.out.2.at_ (find_0 (X, Y, Z) _) rfl rfl rfl) ?_
      simp only [Act.put, sa, sz, ss]
      have Hb : Hid (Mm (wm u0 γm3 (#[ent (X, Y, Z) 0 0]) 1) [(γ5_2, pt X Y Z), (γ1_0, kd p r c gx gy), (g, p2 X Y Z X' Y' Z')] ∧ Mr γm3 (#[ent (X, Y, Z) 0 0]) 1 w (wm u0 γm3 (#[ent (X, Y, Z) 0 0]) 1)) := ⟨Ha.out.1.wm Ha.out.2 _ _, Ha.out.2.wm _ _⟩
      generalize wm u0 γm3 (#[ent (X, Y, Z) 0 0]) 1 = u1 at Hb ⊢
      refine any_ready [3, 5] (by kernel_rfl) (by decide) (fun i hi => ?_)
      rcases List.mem_cons.1 hi with rfl | hi
      · have hrd : True := trivial
        clear hrd
        refine op_val (d := 28) (v := .int .i64 1) (w' := u1) rfl rfl rfl (by kernel_rfl) ?_
        simp only [Act.put, sa, sz, ss]
        refine any_ready [5] (by kernel_rfl) (by decide) (fun i hi => ?_)
        obtain rfl := List.mem_singleton.1 hi
        refine op_val (d := 30) (v := .int .i64 0) (w' := u1) rfl rfl rfl (by go_simp) ?_
        simp only [Act.put, sa, sz, ss]
        refine any_ready [6] (by kernel_rfl) (by decide) (fun i hi => ?_)
        obtain rfl := List.mem_singleton.1 hi
        refine op_skip (w' := wm u1 γm3 (#[ent (X, Y, Z) 1 0]) 1) rfl rfl rfl (ex_eStore Hb.out.2.at_ (idx_1 _ _) rfl rfl rfl rfl rfl) ?_
        have Hc : Mm (wm u1 γm3 (#[ent (X, Y, Z) 1 0]) 1) [(γ5_2, pt X Y Z), (γ1_0, kd p r c gx gy), (g, p2 X Y Z X' Y' Z')] ∧ Mr γm3 (#[ent (X, Y, Z) 1 0]) 1 w (wm u1 γm3 (#[ent (X, Y, Z) 1 0]) 1) := ⟨Hb.out.1.wm Hb.out.2 _ _, Hb.out.2.wm _ _⟩
        exact ⟨by kernel_rfl, rfl, rfl, Hc⟩
      obtain rfl := List.mem_singleton.1 hi
      refine op_val (d := 30) (v := .int .i64 0) (w' := u1) rfl rfl rfl (by go_simp) ?_
      simp only [Act.put, sa, sz, ss]
      refine any_ready [3] (by kernel_rfl) (by decide) (fun i hi => ?_)
      obtain rfl := List.mem_singleton.1 hi
      refine op_val (d := 28) (v := .int .i64 1) (w' := u1) rfl rfl rfl (by kernel_rfl) ?_
      simp only [Act.put, sa, sz, ss]
      refine any_ready [6] (by kernel_rfl) (by decide) (fun i hi => ?_)
      obtain rfl := List.mem_singleton.1 hi
      refine op_skip (w' := wm u1 γm3 (#[ent (X, Y, Z) 1 0]) 1) rfl rfl rfl (ex_eStore Hb.out.2.at_ (idx_1 _ _) rfl rfl rfl rfl rfl) ?_
      have Hc : Mm (wm u1 γm3 (#[ent (X, Y, Z) 1 0]) 1) [(γ5_2, pt X Y Z), (γ1_0, kd p r c gx gy), (g, p2 X Y Z X' Y' Z')] ∧ Mr γm3 (#[ent (X, Y, Z) 1 0]) 1 w (wm u1 γm3 (#[ent (X, Y, Z) 1 0]) 1) := ⟨Hb.out.1.wm Hb.out.2 _ _, Hb.out.2.wm _ _⟩
      exact ⟨by kernel_rfl, rfl, rfl, Hc⟩
    obtain rfl := List.mem_singleton.1 hi
    refine op_val (d := 29) (v := .tuple #[.int .i64 0, .int .i64 0]) (w' := (wm u0 γm3 (#[ent (X, Y, Z) 0 0]) 1)) rfl rfl rfl (ex_entryN (a := (X, Y, Z)) Ha.out.2.at_ (find_0 (X, Y, Z) _) rfl rfl rfl) ?_
    simp only [Act.put, sa, sz, ss]
    have Hb : Hid (Mm (wm u0 γm3 (#[ent (X, Y, Z) 0 0]) 1) [(γ5_2, pt X Y Z), (γ1_0, kd p r c gx gy), (g, p2 X Y Z X' Y' Z')] ∧ Mr γm3 (#[ent (X, Y, Z) 0 0]) 1 w (wm u0 γm3 (#[ent (X, Y, Z) 0 0]) 1)) := ⟨Ha.out.1.wm Ha.out.2 _ _, Ha.out.2.wm _ _⟩
    generalize wm u0 γm3 (#[ent (X, Y, Z) 0 0]) 1 = u1 at Hb ⊢
    refine any_ready [2, 5] (by kernel_rfl) (by decide) (fun i hi => ?_)
    rcases List.mem_cons.1 hi with rfl | hi
    · have hrd : True := trivial
      clear hrd
      refine op_val (d := 27) (v := .int .i64 0) (w' := u1) rfl rfl rfl (ex_look Hb.out.2.at_ (by have e := find_1 (X, Y, Z) (X, Y, Z) 0 0 u1; rw [if_pos rfl] at e; exact e) rfl rfl rfl rfl) ?_
      simp only [Act.put, sa, sz, ss]
      refine any_ready [3, 5] (by kernel_rfl) (by decide) (fun i hi => ?_)
      rcases List.mem_cons.1 hi with rfl | hi
      · have hrd : True := trivial
        clear hrd
        refine op_val (d := 28) (v := .int .i64 1) (w' := u1) rfl rfl rfl (by kernel_rfl) ?_
        simp only [Act.put, sa, sz, ss]
        refine any_ready [5] (by kernel_rfl) (by decide) (fun i hi => ?_)
        obtain rfl := List.mem_singleton.1 hi
        refine op_val (d := 30) (v := .int .i64 0) (w' := u1) rfl rfl rfl (by go_simp) ?_
        simp only [Act.put, sa, sz, ss]
        refine any_ready [6] (by kernel_rfl) (by decide) (fun i hi => ?_)
        obtain rfl := List.mem_singleton.1 hi
        refine op_skip (w' := wm u1 γm3 (#[ent (X, Y, Z) 1 0]) 1) rfl rfl rfl (ex_eStore Hb.out.2.at_ (idx_1 _ _) rfl rfl rfl rfl rfl) ?_
        have Hc : Mm (wm u1 γm3 (#[ent (X, Y, Z) 1 0]) 1) [(γ5_2, pt X Y Z), (γ1_0, kd p r c gx gy), (g, p2 X Y Z X' Y' Z')] ∧ Mr γm3 (#[ent (X, Y, Z) 1 0]) 1 w (wm u1 γm3 (#[ent (X, Y, Z) 1 0]) 1) := ⟨Hb.out.1.wm Hb.out.2 _ _, Hb.out.2.wm _ _⟩
        exact ⟨by kernel_rfl, rfl, rfl, Hc⟩
      obtain rfl := List.mem_singleton.1 hi
      refine op_val (d := 30) (v := .int .i64 0) (w' := u1) rfl rfl rfl (by go_simp) ?_
      simp only [Act.put, sa, sz, ss]
      refine any_ready [3] (by kernel_rfl) (by decide) (fun i hi => ?_)
      obtain rfl := List.mem_singleton.1 hi
      refine op_val (d := 28) (v := .int .i64 1) (w' := u1) rfl rfl rfl (by kernel_rfl) ?_
      simp only [Act.put, sa, sz, ss]
      refine any_ready [6] (by kernel_rfl) (by decide) (fun i hi => ?_)
      obtain rfl := List.mem_singleton.1 hi
      refine op_skip (w' := wm u1 γm3 (#[ent (X, Y, Z) 1 0]) 1) rfl rfl rfl (ex_eStore Hb.out.2.at_ (idx_1 _ _) rfl rfl rfl rfl rfl) ?_
      have Hc : Mm (wm u1 γm3 (#[ent (X, Y, Z) 1 0]) 1) [(γ5_2, pt X Y Z), (γ1_0, kd p r c gx gy), (g, p2 X Y Z X' Y' Z')] ∧ Mr γm3 (#[ent (X, Y, Z) 1 0]) 1 w (wm u1 γm3 (#[ent (X, Y, Z) 1 0]) 1) := ⟨Hb.out.1.wm Hb.out.2 _ _, Hb.out.2.wm _ _⟩
      exact ⟨by kernel_rfl, rfl, rfl, Hc⟩
    obtain rfl := List.mem_singleton.1 hi
    refine op_val (d := 30) (v := .int .i64 0) (w' := u1) rfl rfl rfl (by go_simp) ?_
    simp only [Act.put, sa, sz, ss]
    refine any_ready [2] (by kernel_rfl) (by decide) (fun i hi => ?_)
    obtain rfl := List.mem_singleton.1 hi
    refine op_val (d := 27) (v := .int .i64 0) (w' := u1) rfl rfl rfl (ex_look Hb.out.2.at_ (by have e := find_1 (X, Y, Z) (X, Y, Z) 0 0 u1; rw [if_pos rfl] at e; exact e) rfl rfl rfl rfl) ?_
    simp only [Act.put, sa, sz, ss]
    refine any_ready [3] (by kernel_rfl) (by decide) (fun i hi => ?_)
    obtain rfl := List.mem_singleton.1 hi
    refine op_val (d := 28) (v := .int .i64 1) (w' := u1) rfl rfl rfl (by kernel_rfl) ?_
    simp only [Act.put, sa, sz, ss]
    refine any_ready [6] (by kernel_rfl) (by decide) (fun i hi => ?_)
    obtain rfl := List.mem_singleton.1 hi
    refine op_skip (w' := wm u1 γm3 (#[ent (X, Y, Z) 1 0]) 1) rfl rfl rfl (ex_eStore Hb.out.2.at_ (idx_1 _ _) rfl rfl rfl rfl rfl) ?_
    have Hc : Mm (wm u1 γm3 (#[ent (X, Y, Z) 1 0]) 1) [(γ5_2, pt X Y Z), (γ1_0, kd p r c gx gy), (g, p2 X Y Z X' Y' Z')] ∧ Mr γm3 (#[ent (X, Y, Z) 1 0]) 1 w (wm u1 γm3 (#[ent (X, Y, Z) 1 0]) 1) := ⟨Hb.out.1.wm Hb.out.2 _ _, Hb.out.2.wm _ _⟩
    exact ⟨by kernel_rfl, rfl, rfl, Hc⟩
  case cont7 =>
    intro w8 hMB
    have H8 : Hid (_ ∧ _) := hMB
    clear hMB H7
    refine block_normal (then_normal ?_)
    refine walk_seqA 1 [.quiet (.int .i64 1)] (sB H8) ?ho8 ?he8
    case ho8 => exact ak (fun γ => ⟨rfl, fun w' _ => by kernel_rfl⟩) trivial
    intro γ w9 l hM hl
    have M9 : Mm w9 [(γ5_2, pt X Y Z), (γ1_0, kd p r c gx gy), (g, p2 X Y Z X' Y' Z')] := H8.out.1.grow hM (Nat.le_refl _) hl [] rfl (by decide)
    have B9 : Mr γm3 (#[ent (X, Y, Z) 1 0]) 1 w w9 := Mr.grow H8.out.2 (hM.below)
    clear hM hl l H8
    clear γ
    have H9 : Hid (_ ∧ _) := ⟨M9, B9⟩
    clear M9 B9
    refine rest_at (l := [1]) rfl ?_
    refine rest_set (d := 11) rfl rfl rfl rfl ?_
    simp only [Act.put, sa, sz, ss]
    refine rest_nil (then_normal ?_)
    refine rounds_in (n := 1) ?_
    refine wp_seq ?_
    refine walk_seqA 1 [.quiet (.bool true)] (sB H9) ?ho9 ?he9
    case ho9 => exact ak (by refine fun γ => ⟨rfl, fun w' h => ?_⟩; clear h; go_simp) trivial
    intro γ w10 l hM hl
    have M10 : Mm w10 [(γ5_2, pt X Y Z), (γ1_0, kd p r c gx gy), (g, p2 X Y Z X' Y' Z')] := H9.out.1.grow hM (Nat.le_refl _) hl [] rfl (by decide)
    have B10 : Mr γm3 (#[ent (X, Y, Z) 1 0]) 1 w w10 := Mr.grow H9.out.2 (hM.below)
    clear hM hl l H9
    clear γ
    have H10 : Hid (_ ∧ _) := ⟨M10, B10⟩
    clear M10 B10
    refine rest0 rfl (then_normal (wp_seq ?_))
    refine wp_cond_true rfl (wp_skip ?_)
    refine then_normal (wp_seq ?_)
    refine wp_block (wp_seq ?_)
    refine walk_seqA 4 [.quiet (PT g 3), .quiet (.agg (pt X' Y' Z').toArray), .made (pt 0 0 false) 25, .laid 2 (pt 0 0 false) (pt X' Y' Z')] (sB H10) ?ho10 ?he10 (hL := ?hL10)
    case hL10 => exact ⟨⟨_, rfl⟩, trivial⟩
    case ho10 => exact ak (by refine fun γ => ⟨rfl, fun w' h => ?_⟩; clear h; go_simp) (ak (fun γ => ⟨rfl, fun w' h => ex_loadT h 2 rfl rfl rfl Try.isAgg25 Try.sizeOf25 rfl rfl⟩) (ak (fun γ => ⟨rfl, fun w' => ex_made25 rfl⟩) (ak (fun γ => ⟨rfl, rfl, rfl, fun w' h => ex_laidT h rfl rfl Try.sizeOf25 rfl rfl rfl⟩) trivial)))
    intro γ w11 l hM hl
    have M11 : Mm w11 [(γ 2, pt X' Y' Z'), (γ5_2, pt X Y Z), (γ1_0, kd p r c gx gy), (g, p2 X Y Z X' Y' Z')] := H10.out.1.grow hM (Nat.le_refl _) hl [2] rfl (by decide)
    have B11 : Mr γm3 (#[ent (X, Y, Z) 1 0]) 1 w w11 := Mr.grow H10.out.2 (hM.below)
    have o10_2 : Hid (w.heap.size ≤ γ 2) := Nat.le_trans H10.out.2.size (hM.fin (Nat.le_refl _) hl (i := 2) rfl).2.1
    clear hM hl l H10
    generalize γ 2 = γ10_2 at M11 o10_2 ⊢
    clear γ
    have H11 : Hid (_ ∧ _) := ⟨M11, B11⟩
    clear M11 B11
    refine rest0 rfl (then_normal (wp_seq (wp_seq ?_)))
    refine (walk_seq) 10 [.quiet (.map (some γm3)), .quiet (.agg (pt X' Y' Z').toArray), .quiet (.int .i64 0), .quiet (.bool true), .quiet (.bool true), .quiet (.agg (kd p r c gx gy).toArray), .quiet (.agg (pt X' Y' Z').toArray), .call (.bool false), .quiet (.bool true), .quiet (.bool true)] (fun u' => Mm u' [(γ10_2, pt X' Y' Z'), (γ5_2, pt X Y Z), (γ1_0, kd p r c gx gy), (g, p2 X Y Z X' Y' Z')] ∧ u'.heap[γm3]? = some (.map (#[ent (X, Y, Z) 1 0]) 1)) ?pre11 ?F11 ?hpre11 (fun γ => ?hF11) (by kernel_rfl) ?hL11 ?hS11 ?ho11 ?he11
    case hpre11 => simp only [tk, tz]; rfl
    case hF11 => simp only [fill, Kind.val, Act.put, sa, sz, ss]; rfl
    case hL11 => exact trivial
    case hS11 => exact fun w' hb => ⟨H11.out.1.below hb, (Mr.grow H11.out.2 (hb)).at_⟩
    case ho11 =>
      refine ak (fun _ => ⟨rfl, fun _ _ => rfl⟩) ?_
      refine ak (fun γ => ⟨rfl, fun w' hX => have h := hX.1; ex_loadT h 0 rfl rfl rfl Try.isAgg25 Try.sizeOf25 rfl rfl⟩) ?_
      refine ak (fun γ => ⟨rfl, fun w' hX => ex_look hX.2 (by have e := find_1 (X', Y', Z') (X, Y, Z) 1 0 w'; rw [if_neg hne] at e; exact e) rfl rfl rfl rfl⟩) ?_
      refine ak (by refine fun γ => ⟨rfl, fun w' h => ?_⟩; clear h; go_simp) ?_
      refine ak (fun _ => ⟨rfl, fun _ _ => rfl⟩) ?_
      refine ak (fun γ => ⟨rfl, fun w' hX => have h := hX.1; ex_loadT h 2 rfl rfl rfl Try.isAgg72 Try.sizeOf72 rfl rfl⟩) ?_
      refine ak (fun γ => ⟨rfl, fun w' hX => have h := hX.1; ex_loadT h 0 rfl rfl rfl Try.isAgg25 Try.sizeOf25 rfl rfl⟩) ?_
      refine ak (fun γ => ⟨rfl, fun w' hX => ⟨51, #[.agg (kd p r c gx gy).toArray, .agg (pt X' Y' Z').toArray], exec_call rfl call51 rfl (mpn rfl), ig_in hp hr X' Y' Z' _ h2 w'⟩⟩) ?_
      refine ak (by refine fun γ => ⟨rfl, fun w' h => ?_⟩; clear h; go_simp) ?_
      refine ak (by refine fun γ => ⟨rfl, fun w' h => ?_⟩; clear h; go_simp) ?_
      exact trivial
    intro γ w12 l hM hl
    have M12 : Mm w12 [(γ10_2, pt X' Y' Z'), (γ5_2, pt X Y Z), (γ1_0, kd p r c gx gy), (g, p2 X Y Z X' Y' Z')] := H11.out.1.grow hM (Nat.le_refl _) hl [] rfl (by decide)
    have B12 : Mr γm3 (#[ent (X, Y, Z) 1 0]) 1 w w12 := Mr.grow H11.out.2 (hM.below)
    clear hM hl l H11
    clear γ
    have H12 : Hid (_ ∧ _) := ⟨M12, B12⟩
    clear M12 B12
    refine rest0 rfl (then_normal (wp_cond_true rfl (wp_seq ?_)))
    refine walk_seqA 1 [.quiet (.bool false)] (sB H12) ?ho12 ?he12
    case ho12 => exact ak (fun _ => ⟨rfl, fun _ _ => rfl⟩) trivial
    intro γ w13 l hM hl
    have M13 : Mm w13 [(γ10_2, pt X' Y' Z'), (γ5_2, pt X Y Z), (γ1_0, kd p r c gx gy), (g, p2 X Y Z X' Y' Z')] := H12.out.1.grow hM (Nat.le_refl _) hl [] rfl (by decide)
    have B13 : Mr γm3 (#[ent (X, Y, Z) 1 0]) 1 w w13 := Mr.grow H12.out.2 (hM.below)
    clear hM hl l H12
    clear γ
    have H13 : Hid (_ ∧ _) := ⟨M13, B13⟩
    clear M13 B13
    refine rest0 rfl (then_normal (wp_ret ?_))
    repeat (first | refine then_ret ?_ | refine block_ret ?_)
    refine bodyPost_ret (v := .bool false) (by simp [results, Try.results60, go_sem, *]) rfl ?_
    exact ⟨rfl, H13.out.2.bl⟩
theorem allIn_any (hp : Pr p) (hr : r < 18446744073709551616) (X Y : Nat) (Z : Bool) (X' Y' : Nat) (Z' : Bool) (g : Nat) (w : World) (hm : Mm w [(g, p2 X Y Z X' Y' Z')]) : Calls Try.prog 60 #[.agg (kd p r c gx gy).toArray, .slice (some ⟨g, 0, none⟩) 2 2] w fun e w' => e = .returned (.bool (ig p r X Y Z && ig p r X' Y' Z')) ∧ Below w.heap.size w w' := by
  by_cases hne : ((X', Y', Z') : P3) = (X, Y, Z)
  · injection hne with e1 e2
    injection e2 with e2 e3
    subst e1 e2 e3
    cases h : ig p r X' Y' Z'
    · exact all_f hp hr X' Y' Z' h g w hm
    · exact all_same hp hr X' Y' Z' h g w hm
  · cases h1 : ig p r X Y Z
    · exact all_fx hp hr X Y Z X' Y' Z' hne h1 g w hm
    · cases h2 : ig p r X' Y' Z'
      · exact all_tf hp hr X Y Z X' Y' Z' hne h1 h2 g w hm
      · exact all_both hp hr X Y Z X' Y' Z' hne h1 h2 g w hm
end
end Rg
end Go.Proofs.Ytjmbgchoioepjaa
end
