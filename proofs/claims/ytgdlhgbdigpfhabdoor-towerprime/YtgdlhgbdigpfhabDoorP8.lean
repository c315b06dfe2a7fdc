/- Texts of the proof, joined. -/
import Derived.Test.YtgdlhgbdigpfhabDoorP7
section
namespace Go.Proofs.YtgdlhgbdigpfhabDoor
open Go.RowKit
namespace Rg
set_option maxHeartbeats 4000000 in
set_option maxRecDepth 100000 in
theorem powT_gen (n ee L k1 : Nat) (hl : L ≤ 384) (a m : Nat → Nat) (P Q : Nat → Nat → Nat) (bv : Nat → Int)
  (fl : [k1, 0, 0, 0, 0, 0, 0, 0, 0, 0, 0, 0] = [P L 0, P L 1, P L 2, P L 3, P L 4, P L 5, P L 6, P L 7, P L 8, P L 9, P L 10, P L 11])
  (hbv : ∀ k, bv k = 1 ∨ bv k = 0)
  (fq : ∀ k, bv k = 0 → [Q k 0, Q k 1, Q k 2, Q k 3, Q k 4, Q k 5, Q k 6, Q k 7, Q k 8, Q k 9, Q k 10, Q k 11] = [P k 0, P k 1, P k 2, P k 3, P k 4, P k 5, P k 6, P k 7, P k 8, P k 9, P k 10, P k 11])
  (cg : ∀ w, Calls Tryd.prog 20 #[] w fun e w' => Below w.heap.size w w' ∧ ∃ g, e = .returned (.agg #[PT g 0]) ∧ w.heap.size ≤ g ∧ g < w'.heap.size ∧ Blk w' g (modc n))
  (ca : ∀ w, Calls Tryd.prog 21 #[V [a 0, a 1, a 2, a 3, a 4, a 5, a 6, a 7, a 8, a 9, a 10, a 11]] w (Rt w (V [m 0, m 1, m 2, m 3, m 4, m 5, m 6, m 7, m 8, m 9, m 10, m 11])))
  (co : ∀ w, Calls Tryd.prog 16 #[] w (Rt w (V [k1, 0, 0, 0, 0, 0, 0, 0, 0, 0, 0, 0])))
  (cl : ∀ w, Calls Tryd.prog 22 #[N ee] w (Rt w (.int .i64 ((L : Nat) : Int))))
  (cs : ∀ k g w, Mm w [(g, modc n)] → Calls Tryd.prog 23 #[.agg #[PT g 0], V [P (k + 1) 0, P (k + 1) 1, P (k + 1) 2, P (k + 1) 3, P (k + 1) 4, P (k + 1) 5, P (k + 1) 6, P (k + 1) 7, P (k + 1) 8, P (k + 1) 9, P (k + 1) 10, P (k + 1) 11], V [P (k + 1) 0, P (k + 1) 1, P (k + 1) 2, P (k + 1) 3, P (k + 1) 4, P (k + 1) 5, P (k + 1) 6, P (k + 1) 7, P (k + 1) 8, P (k + 1) 9, P (k + 1) 10, P (k + 1) 11]] w (Rt w (V [Q k 0, Q k 1, Q k 2, Q k 3, Q k 4, Q k 5, Q k 6, Q k 7, Q k 8, Q k 9, Q k 10, Q k 11])))
  (ci : ∀ k w, k + 1 ≤ 384 → Calls Tryd.prog 24 #[N ee, .int .i64 (((k + 1 : Nat) : Int) - 1)] w (Rt w (.int .i64 (bv k))))
  (cu : ∀ k, bv k = 1 → ∀ g w, Mm w [(g, modc n)] → Calls Tryd.prog 23 #[.agg #[PT g 0], V [Q k 0, Q k 1, Q k 2, Q k 3, Q k 4, Q k 5, Q k 6, Q k 7, Q k 8, Q k 9, Q k 10, Q k 11], V [m 0, m 1, m 2, m 3, m 4, m 5, m 6, m 7, m 8, m 9, m 10, m 11]] w (Rt w (V [P k 0, P k 1, P k 2, P k 3, P k 4, P k 5, P k 6, P k 7, P k 8, P k 9, P k 10, P k 11]))) (w : World) :
  Calls Tryd.prog 6 #[V [a 0, a 1, a 2, a 3, a 4, a 5, a 6, a 7, a 8, a 9, a 10, a 11], N ee] w (Rt w (V [P 0 0, P 0 1, P 0 2, P 0 3, P 0 4, P 0 5, P 0 6, P 0 7, P 0 8, P 0 9, P 0 10, P 0 11])) := by
 have H0 : Hid (_ ∧ _) := ⟨Mm.nil w, Below.refl w.heap.size w⟩
 have FL : Hid _ := fl
 have HB : Hid _ := hbv
 have FQ : Hid _ := fq
 have CG : Hid _ := cg
 have CA : Hid _ := ca
 have CO : Hid _ := co
 have CL : Hid _ := cl
 have CS : Hid _ := cs
 have CI : Hid _ := ci
 have CM : Hid _ := cu
 clear fl hbv fq cg ca co cl cs ci cu
 go_enter Tryd.func6, Tryd.ntmps6
 refine wp_seq ?_
 refine walk_seqA 3 [.made (cel [a 0, a 1, a 2, a 3, a 4, a 5, a 6, a 7, a 8, a 9, a 10, a 11]) 28, .made (cells6 ee) 24, .made (cel [0, 0, 0, 0, 0, 0, 0, 0, 0, 0, 0, 0]) 28] (sB H0) ?ho1 ?he1
 case ho1 => exact ak (fun γ => ⟨rfl, fun w' => ex_boxA rfl rfl⟩) (ak (fun γ => ⟨rfl, fun w' => ex_box6 rfl rfl⟩) (ak (fun γ => ⟨rfl, fun w' => ex_madeE12 rfl⟩) trivial))
 intro γ w1 l hM hl
 have H1 : Hid (Mm w1 [(γ 0, cel [a 0, a 1, a 2, a 3, a 4, a 5, a 6, a 7, a 8, a 9, a 10, a 11]), (γ 1, cells6 ee), (γ 2, cel [0, 0, 0, 0, 0, 0, 0, 0, 0, 0, 0, 0])] ∧ _) := growB H0 hM (Nat.le_refl _) hl [0, 1, 2] rfl (by decide)
 have o1_0 := ownB H0 hM (Nat.le_refl _) hl (i := 0) rfl
 have o1_1 := ownB H0 hM (Nat.le_refl _) hl (i := 1) rfl
 have o1_2 := ownB H0 hM (Nat.le_refl _) hl (i := 2) rfl
 clear hM hl l
 generalize γ 0 = γ1_0 at H1 o1_0 ⊢
 generalize γ 1 = γ1_1 at H1 o1_1 ⊢
 generalize γ 2 = γ1_2 at H1 o1_2 ⊢
 clear γ
 refine rest0 rfl (then_normal (wp_seq ?_))
 refine walk_put (by kernel_rfl) 6 [] [.born (fun g => .agg #[PT g 0]) (modc n), .quiet (V [a 0, a 1, a 2, a 3, a 4, a 5, a 6, a 7, a 8, a 9, a 10, a 11]), .call (V [m 0, m 1, m 2, m 3, m 4, m 5, m 6, m 7, m 8, m 9, m 10, m 11]), .call (V [k1, 0, 0, 0, 0, 0, 0, 0, 0, 0, 0, 0]), .made [.pointer none] 47, .made (cel [0, 0, 0, 0, 0, 0, 0, 0, 0, 0, 0, 0]) 28] _ ?pre2 ?F2 _ ?hpre2 (fun γ => ?hF2) (by kernel_rfl) rfl trivial (sB H1) ?ho2 ?hla2 ?he2
 case hpre2 => simp only [tk, tz]; rfl
 case hF2 => simp only [fill, Kind.val, Act.put, sa, sz, ss]; rfl
 case ho2 =>
  refine ak (fun γ => ⟨rfl, fun w' h => ⟨20, #[], exec_call rfl call20 rfl (mpn rfl), CG.out w'⟩⟩) ?_
  refine ak (fun γ => ⟨rfl, fun w' h => ex_loadA (i := 0) (k := 12) h 0 rfl rfl rfl Tryd.isAgg28 Tryd.sizeOf28 rfl rfl⟩) ?_
  refine ak (fun γ => ⟨rfl, fun w' h => ⟨21, #[V [a 0, a 1, a 2, a 3, a 4, a 5, a 6, a 7, a 8, a 9, a 10, a 11]], exec_call rfl call21 rfl (mpn rfl), CA.out w'⟩⟩) ?_
  refine ak (fun γ => ⟨rfl, fun w' h => ⟨16, #[], exec_call rfl call16 rfl (mpn rfl), CO.out w'⟩⟩) ?_
  refine ak (fun γ => ⟨rfl, fun w' => ex_madeF rfl⟩) ?_
  refine ak (fun γ => ⟨rfl, fun w' => ex_madeE12 rfl⟩) ?_
  exact trivial
 case hla2 => exact trivial
 intro γ w2 l hM hl
 have H2 : Hid (Mm w2 [(γ 0, modc n), (γ 4, [.pointer none]), (γ 5, cel [0, 0, 0, 0, 0, 0, 0, 0, 0, 0, 0, 0]), (γ1_0, cel [a 0, a 1, a 2, a 3, a 4, a 5, a 6, a 7, a 8, a 9, a 10, a 11]), (γ1_1, cells6 ee), (γ1_2, cel [0, 0, 0, 0, 0, 0, 0, 0, 0, 0, 0, 0])] ∧ _) := growB H1 hM (Nat.le_refl _) hl [0, 4, 5] rfl (by decide)
 have o2_0 := ownB H1 hM (Nat.le_refl _) hl (i := 0) rfl
 have o2_4 := ownB H1 hM (Nat.le_refl _) hl (i := 4) rfl
 have o2_5 := ownB H1 hM (Nat.le_refl _) hl (i := 5) rfl
 clear hM hl l H1
 generalize γ 0 = γ2_0 at H2 o2_0 ⊢
 generalize γ 4 = γ2_4 at H2 o2_4 ⊢
 generalize γ 5 = γ2_5 at H2 o2_5 ⊢
 clear γ
 refine ⟨_, ex_storeF H2.out.1 1 rfl rfl rfl rfl (Nat.le_of_ble_eq_true rfl), ?_⟩
 have H3 : Hid (Mm (w2.setCells γ2_4 0 [PT γ2_0 0]) [(γ2_0, modc n), (γ2_4, [PT γ2_0 0]), (γ2_5, cel [0, 0, 0, 0, 0, 0, 0, 0, 0, 0, 0, 0]), (γ1_0, cel [a 0, a 1, a 2, a 3, a 4, a 5, a 6, a 7, a 8, a 9, a 10, a 11]), (γ1_1, cells6 ee), (γ1_2, cel [0, 0, 0, 0, 0, 0, 0, 0, 0, 0, 0, 0])] ∧ Below w.heap.size w (w2.setCells γ2_4 0 [PT γ2_0 0])) := ⟨H2.out.1.put 1 (off := 0) (vs := [PT γ2_0 0]) rfl (Nat.le_of_ble_eq_true rfl), below_setCells _ o2_4.out _ _ _ H2.out.2⟩
 clear H2
 generalize hgw : World.setCells _ _ _ _ = w3 at H3 ⊢
 clear hgw
 refine rest_at (l := [7, 8]) rfl ?_
 refine rest_store rfl rfl rfl (ex_storeA (i := 0) (ms := [m 0, m 1, m 2, m 3, m 4, m 5, m 6, m 7, m 8, m 9, m 10, m 11]) H3.out.1 3 rfl rfl rfl rfl Tryd.sizeOf28 (Nat.le_of_ble_eq_true rfl)) ?_
 have H4 : Hid (Mm (w3.setCells γ1_0 (6 * 0) (cel [m 0, m 1, m 2, m 3, m 4, m 5, m 6, m 7, m 8, m 9, m 10, m 11])) [(γ2_0, modc n), (γ2_4, [PT γ2_0 0]), (γ2_5, cel [0, 0, 0, 0, 0, 0, 0, 0, 0, 0, 0, 0]), (γ1_0, cel [m 0, m 1, m 2, m 3, m 4, m 5, m 6, m 7, m 8, m 9, m 10, m 11]), (γ1_1, cells6 ee), (γ1_2, cel [0, 0, 0, 0, 0, 0, 0, 0, 0, 0, 0, 0])] ∧ Below w.heap.size w (w3.setCells γ1_0 (6 * 0) (cel [m 0, m 1, m 2, m 3, m 4, m 5, m 6, m 7, m 8, m 9, m 10, m 11]))) := ⟨by
  have h := H3.out.1.put 3 (off := 6 * 0) (vs := cel [m 0, m 1, m 2, m 3, m 4, m 5, m 6, m 7, m 8, m 9, m 10, m 11]) rfl (by simp only [cel_len]; exact Nat.le_of_ble_eq_true rfl)
  rw [cel_patch] at h
  exact h, below_setCells _ o1_0.out _ _ _ H3.out.2⟩
 clear H3
 generalize hgw : World.setCells _ _ _ _ = w4 at H4 ⊢
 clear hgw
 refine rest_store rfl rfl rfl (ex_storeA (i := 0) (ms := [k1, 0, 0, 0, 0, 0, 0, 0, 0, 0, 0, 0]) H4.out.1 2 rfl rfl rfl rfl Tryd.sizeOf28 (Nat.le_of_ble_eq_true rfl)) ?_
 have H5 : Hid (Mm (w4.setCells γ2_5 (6 * 0) (cel [k1, 0, 0, 0, 0, 0, 0, 0, 0, 0, 0, 0])) [(γ2_0, modc n), (γ2_4, [PT γ2_0 0]), (γ2_5, cel [k1, 0, 0, 0, 0, 0, 0, 0, 0, 0, 0, 0]), (γ1_0, cel [m 0, m 1, m 2, m 3, m 4, m 5, m 6, m 7, m 8, m 9, m 10, m 11]), (γ1_1, cells6 ee), (γ1_2, cel [0, 0, 0, 0, 0, 0, 0, 0, 0, 0, 0, 0])] ∧ Below w.heap.size w (w4.setCells γ2_5 (6 * 0) (cel [k1, 0, 0, 0, 0, 0, 0, 0, 0, 0, 0, 0]))) := ⟨by
  have h := H4.out.1.put 2 (off := 6 * 0) (vs := cel [k1, 0, 0, 0, 0, 0, 0, 0, 0, 0, 0, 0]) rfl (by simp only [cel_len]; exact Nat.le_of_ble_eq_true rfl)
  rw [cel_patch] at h
  exact h, below_setCells _ o2_5.out _ _ _ H4.out.2⟩
 clear H4
 generalize hgw : World.setCells _ _ _ _ = w5 at H5 ⊢
 clear hgw
 refine rest_nil (then_normal ?_)
 refine wp_seq (wp_seq ?_)
 refine walk_seqB 4 [.quiet (N ee), .call (.int .i64 ((L : Nat) : Int)), .quiet (.int .i64 (((L : Nat) : Int) - 1)), .quiet (.int .i64 (((L : Nat) : Int) - 1))] H5 ?ho3 ?he3
 case ho3 => exact ak (fun γ => ⟨rfl, fun w' h => ex_load6 h 4 rfl rfl rfl rfl⟩) (ak (fun γ => ⟨rfl, fun w' h => ⟨22, #[N ee], exec_call rfl call22 rfl (mpn rfl), CL.out w'⟩⟩) (ak (by refine fun γ => ⟨rfl, fun w' h => ?_⟩; clear h; go_simp; rw [IntKind.wrap_i64]; omega) (ak (fun _ => ⟨rfl, fun _ _ => rfl⟩) trivial)))
 intro _ w6 H6
 clear H5
 refine rest0 rfl (then_normal (wp_block ?_))
 refine loop_ghost (α := Nat) (fun k a' w' => ∃ s0 : Nat → Value, a' = ⟨#[V [a 0, a 1, a 2, a 3, a 4, a 5, a 6, a 7, a 8, a 9, a 10, a 11], N ee, PT γ1_0 0, PT γ1_1 0, PT γ1_2 0, PT γ2_4 0, PT γ2_5 0, .int .i64 (((k : Nat) : Int) - 1), .agg #[PT γ2_0 0], V [a 0, a 1, a 2, a 3, a 4, a 5, a 6, a 7, a 8, a 9, a 10, a 11], V [m 0, m 1, m 2, m 3, m 4, m 5, m 6, m 7, m 8, m 9, m 10, m 11], V [k1, 0, 0, 0, 0, 0, 0, 0, 0, 0, 0, 0], N ee, .int .i64 ((L : Nat) : Int), .int .i64 (((L : Nat) : Int) - 1), s0 15, s0 16, s0 17, s0 18, s0 19, s0 20, s0 21, s0 22, s0 23, s0 24, s0 25, s0 26, s0 27, s0 28, s0 29, s0 30, undef], []⟩ ∧ (Mm w' [(γ2_0, modc n), (γ2_4, [PT γ2_0 0]), (γ2_5, cel [P k 0, P k 1, P k 2, P k 3, P k 4, P k 5, P k 6, P k 7, P k 8, P k 9, P k 10, P k 11]), (γ1_0, cel [m 0, m 1, m 2, m 3, m 4, m 5, m 6, m 7, m 8, m 9, m 10, m 11]), (γ1_1, cells6 ee), (γ1_2, cel [0, 0, 0, 0, 0, 0, 0, 0, 0, 0, 0, 0])] ∧ Below w.heap.size w w') ∧ k ≤ L) (fun k => k) L ?st0 ?rd0
 case st0 => exact ⟨(slotfn [undef, undef, undef, undef, undef, undef, undef, undef, undef, undef, undef, undef, undef, undef, undef, undef, undef, undef, undef, undef, undef, undef, undef, undef, undef, undef, undef, undef, undef, undef, undef]), rfl, ⟨H6.out.1.atk (by rw [FL.out]), H6.out.2⟩, by omega⟩
 intro k a' w7 hI
 obtain ⟨s0, rfl, hMB, hk0⟩ := hI
 have H7 : Hid (_ ∧ _) := hMB
 clear hMB H6
 by_cases hlt : 1 ≤ k
 ·have hrd : True := trivial
  clear hrd
  obtain ⟨j, rfl⟩ : ∃ j, k = j + 1 := ⟨k - 1, by omega⟩
  by_cases hb : bv j = 1
  ·have hrd : True := trivial
   clear hrd
   have hb' : bv j = 1 := hb
   refine wp_seq (wp_seq ?_)
   refine walk_seqB 2 [.quiet (.int .i64 (((j + 1 : Nat) : Int) - 1)), .quiet (.bool true)] H7 ?ho4 ?he4
   case ho4 => exact ak (fun _ => ⟨rfl, fun _ _ => rfl⟩) (ak (by refine fun γ => ⟨rfl, fun w' h => ?_⟩; clear h; go_simp <;> omega) trivial)
   intro _ w8 H8
   clear H7
   refine rest0 rfl (then_normal (wp_cond_true rfl ?_))
   refine wp_skip (then_normal ?_)
   refine wp_seq (wp_block (wp_seq ?_))
   refine walk_seqB 4 [.quiet (.agg #[PT γ2_0 0]), .quiet (V [P (j + 1) 0, P (j + 1) 1, P (j + 1) 2, P (j + 1) 3, P (j + 1) 4, P (j + 1) 5, P (j + 1) 6, P (j + 1) 7, P (j + 1) 8, P (j + 1) 9, P (j + 1) 10, P (j + 1) 11]), .quiet (V [P (j + 1) 0, P (j + 1) 1, P (j + 1) 2, P (j + 1) 3, P (j + 1) 4, P (j + 1) 5, P (j + 1) 6, P (j + 1) 7, P (j + 1) 8, P (j + 1) 9, P (j + 1) 10, P (j + 1) 11]), .call (V [Q j 0, Q j 1, Q j 2, Q j 3, Q j 4, Q j 5, Q j 6, Q j 7, Q j 8, Q j 9, Q j 10, Q j 11])] H8 ?ho5 ?he5
   case ho5 => exact ak (fun γ => ⟨rfl, fun w' h => ex_loadF h 1 rfl rfl rfl rfl⟩) (ak (fun γ => ⟨rfl, fun w' h => ex_loadA (i := 0) (k := 12) h 2 rfl rfl rfl Tryd.isAgg28 Tryd.sizeOf28 rfl rfl⟩) (ak (fun γ => ⟨rfl, fun w' h => ex_loadA (i := 0) (k := 12) h 2 rfl rfl rfl Tryd.isAgg28 Tryd.sizeOf28 rfl rfl⟩) (ak (fun γ => ⟨rfl, fun w' h => ⟨23, #[.agg #[PT γ2_0 0], V [P (j + 1) 0, P (j + 1) 1, P (j + 1) 2, P (j + 1) 3, P (j + 1) 4, P (j + 1) 5, P (j + 1) 6, P (j + 1) 7, P (j + 1) 8, P (j + 1) 9, P (j + 1) 10, P (j + 1) 11], V [P (j + 1) 0, P (j + 1) 1, P (j + 1) 2, P (j + 1) 3, P (j + 1) 4, P (j + 1) 5, P (j + 1) 6, P (j + 1) 7, P (j + 1) 8, P (j + 1) 9, P (j + 1) 10, P (j + 1) 11]], exec_call rfl call23 rfl (mpn rfl), CS.out j _ w' (h.one 0 rfl)⟩⟩) trivial)))
   intro _ w9 H9
   clear H8
   refine rest_at (l := [4]) rfl ?_
   refine rest_store rfl rfl rfl (ex_storeA (i := 0) (ms := [Q j 0, Q j 1, Q j 2, Q j 3, Q j 4, Q j 5, Q j 6, Q j 7, Q j 8, Q j 9, Q j 10, Q j 11]) H9.out.1 2 rfl rfl rfl rfl Tryd.sizeOf28 (Nat.le_of_ble_eq_true rfl)) ?_
   have H10 : Hid (Mm (w9.setCells γ2_5 (6 * 0) (cel [Q j 0, Q j 1, Q j 2, Q j 3, Q j 4, Q j 5, Q j 6, Q j 7, Q j 8, Q j 9, Q j 10, Q j 11])) [(γ2_0, modc n), (γ2_4, [PT γ2_0 0]), (γ2_5, cel [Q j 0, Q j 1, Q j 2, Q j 3, Q j 4, Q j 5, Q j 6, Q j 7, Q j 8, Q j 9, Q j 10, Q j 11]), (γ1_0, cel [m 0, m 1, m 2, m 3, m 4, m 5, m 6, m 7, m 8, m 9, m 10, m 11]), (γ1_1, cells6 ee), (γ1_2, cel [0, 0, 0, 0, 0, 0, 0, 0, 0, 0, 0, 0])] ∧ Below w.heap.size w (w9.setCells γ2_5 (6 * 0) (cel [Q j 0, Q j 1, Q j 2, Q j 3, Q j 4, Q j 5, Q j 6, Q j 7, Q j 8, Q j 9, Q j 10, Q j 11]))) := ⟨by
    have h := H9.out.1.put 2 (off := 6 * 0) (vs := cel [Q j 0, Q j 1, Q j 2, Q j 3, Q j 4, Q j 5, Q j 6, Q j 7, Q j 8, Q j 9, Q j 10, Q j 11]) rfl (by simp only [cel_len]; exact Nat.le_of_ble_eq_true rfl)
    rw [cel_patch] at h
    exact h, below_setCells _ o2_5.out _ _ _ H9.out.2⟩
   clear H9
   generalize hgw : World.setCells _ _ _ _ = w10 at H10 ⊢
   clear hgw
   refine rest_nil (then_normal (wp_seq ?_))
   refine walk_seqB 4 [.quiet (N ee), .quiet (.int .i64 (((j + 1 : Nat) : Int) - 1)), .call (.int .i64 (bv j)), .quiet (.bool true)] H10 ?ho6 ?he6
   case ho6 => exact ak (fun γ => ⟨rfl, fun w' h => ex_load6 h 4 rfl rfl rfl rfl⟩) (ak (fun _ => ⟨rfl, fun _ _ => rfl⟩) (ak (fun γ => ⟨rfl, fun w' h => ⟨24, #[N ee, .int .i64 (((j + 1 : Nat) : Int) - 1)], exec_call rfl call24 rfl (mpn rfl), CI.out j w' (by omega)⟩⟩) (ak (by refine fun γ => ⟨rfl, fun w' h => ?_⟩; clear h; go_simp <;> omega) trivial)))
   intro _ w11 H11
   clear H10
   refine rest0 rfl (then_normal (wp_cond_true rfl ?_))
   refine walk_seqB 4 [.quiet (.agg #[PT γ2_0 0]), .quiet (V [Q j 0, Q j 1, Q j 2, Q j 3, Q j 4, Q j 5, Q j 6, Q j 7, Q j 8, Q j 9, Q j 10, Q j 11]), .quiet (V [m 0, m 1, m 2, m 3, m 4, m 5, m 6, m 7, m 8, m 9, m 10, m 11]), .call (V [P j 0, P j 1, P j 2, P j 3, P j 4, P j 5, P j 6, P j 7, P j 8, P j 9, P j 10, P j 11])] H11 ?ho7 ?he7
   case ho7 => exact ak (fun γ => ⟨rfl, fun w' h => ex_loadF h 1 rfl rfl rfl rfl⟩) (ak (fun γ => ⟨rfl, fun w' h => ex_loadA (i := 0) (k := 12) h 2 rfl rfl rfl Tryd.isAgg28 Tryd.sizeOf28 rfl rfl⟩) (ak (fun γ => ⟨rfl, fun w' h => ex_loadA (i := 0) (k := 12) h 3 rfl rfl rfl Tryd.isAgg28 Tryd.sizeOf28 rfl rfl⟩) (ak (fun γ => ⟨rfl, fun w' h => ⟨23, #[.agg #[PT γ2_0 0], V [Q j 0, Q j 1, Q j 2, Q j 3, Q j 4, Q j 5, Q j 6, Q j 7, Q j 8, Q j 9, Q j 10, Q j 11], V [m 0, m 1, m 2, m 3, m 4, m 5, m 6, m 7, m 8, m 9, m 10, m 11]], exec_call rfl call23 rfl (mpn rfl), CM.out j hb' _ w' (h.one 0 rfl)⟩⟩) trivial)))
   intro _ w12 H12
   clear H11
   refine rest_at (l := [4]) rfl ?_
   refine rest_store rfl rfl rfl (ex_storeA (i := 0) (ms := [P j 0, P j 1, P j 2, P j 3, P j 4, P j 5, P j 6, P j 7, P j 8, P j 9, P j 10, P j 11]) H12.out.1 2 rfl rfl rfl rfl Tryd.sizeOf28 (Nat.le_of_ble_eq_true rfl)) ?_
   have H13 : Hid (Mm (w12.setCells γ2_5 (6 * 0) (cel [P j 0, P j 1, P j 2, P j 3, P j 4, P j 5, P j 6, P j 7, P j 8, P j 9, P j 10, P j 11])) [(γ2_0, modc n), (γ2_4, [PT γ2_0 0]), (γ2_5, cel [P j 0, P j 1, P j 2, P j 3, P j 4, P j 5, P j 6, P j 7, P j 8, P j 9, P j 10, P j 11]), (γ1_0, cel [m 0, m 1, m 2, m 3, m 4, m 5, m 6, m 7, m 8, m 9, m 10, m 11]), (γ1_1, cells6 ee), (γ1_2, cel [0, 0, 0, 0, 0, 0, 0, 0, 0, 0, 0, 0])] ∧ Below w.heap.size w (w12.setCells γ2_5 (6 * 0) (cel [P j 0, P j 1, P j 2, P j 3, P j 4, P j 5, P j 6, P j 7, P j 8, P j 9, P j 10, P j 11]))) := ⟨by
    have h := H12.out.1.put 2 (off := 6 * 0) (vs := cel [P j 0, P j 1, P j 2, P j 3, P j 4, P j 5, P j 6, P j 7, P j 8, P j 9, P j 10, P j 11]) rfl (by simp only [cel_len]; exact Nat.le_of_ble_eq_true rfl)
    rw [cel_patch] at h
    exact h, below_setCells _ o2_5.out _ _ _ H12.out.2⟩
   clear H12
   generalize hgw : World.setCells _ _ _ _ = w13 at H13 ⊢
   clear hgw
   refine rest_nil (block_normal (then_normal ?_))
   refine walk_seqB 2 [.quiet (.int .i64 (((j + 1 : Nat) : Int) - 1)), .quiet (.int .i64 (((j : Nat) : Int) - 1))] H13 ?ho8 ?he8
   case ho8 => exact ak (fun _ => ⟨rfl, fun _ _ => rfl⟩) (ak (by refine fun γ => ⟨rfl, fun w' h => ?_⟩; clear h; go_simp; rw [IntKind.wrap_i64]; omega) trivial)
   intro _ w14 H14
   clear H13
   refine rest_at (l := [2]) rfl ?_
   refine rest_set (d := 7) rfl rfl rfl rfl ?_
   simp only [Act.put, sa, sz, ss]
   refine rest_nil (then_normal ?_)
   exact ⟨j, ⟨(slotfn [undef, undef, undef, undef, undef, undef, undef, undef, undef, undef, undef, undef, undef, undef, undef, .int .i64 (((j + 1 : Nat) : Int) - 1), .bool true, .int .i64 (((j + 1 : Nat) : Int) - 1), .int .i64 (((j : Nat) : Int) - 1), .agg #[PT γ2_0 0], V [P (j + 1) 0, P (j + 1) 1, P (j + 1) 2, P (j + 1) 3, P (j + 1) 4, P (j + 1) 5, P (j + 1) 6, P (j + 1) 7, P (j + 1) 8, P (j + 1) 9, P (j + 1) 10, P (j + 1) 11], V [P (j + 1) 0, P (j + 1) 1, P (j + 1) 2, P (j + 1) 3, P (j + 1) 4, P (j + 1) 5, P (j + 1) 6, P (j + 1) 7, P (j + 1) 8, P (j + 1) 9, P (j + 1) 10, P (j + 1) 11], V [Q j 0, Q j 1, Q j 2, Q j 3, Q j 4, Q j 5, Q j 6, Q j 7, Q j 8, Q j 9, Q j 10, Q j 11], N ee, .int .i64 (((j + 1 : Nat) : Int) - 1), .int .i64 (bv j), .bool true, .agg #[PT γ2_0 0], V [Q j 0, Q j 1, Q j 2, Q j 3, Q j 4, Q j 5, Q j 6, Q j 7, Q j 8, Q j 9, Q j 10, Q j 11], V [m 0, m 1, m 2, m 3, m 4, m 5, m 6, m 7, m 8, m 9, m 10, m 11], V [P j 0, P j 1, P j 2, P j 3, P j 4, P j 5, P j 6, P j 7, P j 8, P j 9, P j 10, P j 11]]), rfl, ⟨H14.out.1, H14.out.2⟩, by omega⟩, by omega⟩
  ·have hrd : True := trivial
   clear hrd
   have hb' : bv j = 0 := (HB.out j).resolve_left hb
   have HQ : Hid _ := FQ.out j hb'
   refine wp_seq (wp_seq ?_)
   refine walk_seqB 2 [.quiet (.int .i64 (((j + 1 : Nat) : Int) - 1)), .quiet (.bool true)] H7 ?ho9 ?he9
   case ho9 => exact ak (fun _ => ⟨rfl, fun _ _ => rfl⟩) (ak (by refine fun γ => ⟨rfl, fun w' h => ?_⟩; clear h; go_simp <;> omega) trivial)
   intro _ w15 H15
   clear H7
   refine rest0 rfl (then_normal (wp_cond_true rfl ?_))
   refine wp_skip (then_normal ?_)
   refine wp_seq (wp_block (wp_seq ?_))
   refine walk_seqB 4 [.quiet (.agg #[PT γ2_0 0]), .quiet (V [P (j + 1) 0, P (j + 1) 1, P (j + 1) 2, P (j + 1) 3, P (j + 1) 4, P (j + 1) 5, P (j + 1) 6, P (j + 1) 7, P (j + 1) 8, P (j + 1) 9, P (j + 1) 10, P (j + 1) 11]), .quiet (V [P (j + 1) 0, P (j + 1) 1, P (j + 1) 2, P (j + 1) 3, P (j + 1) 4, P (j + 1) 5, P (j + 1) 6, P (j + 1) 7, P (j + 1) 8, P (j + 1) 9, P (j + 1) 10, P (j + 1) 11]), .call (V [Q j 0, Q j 1, Q j 2, Q j 3, Q j 4, Q j 5, Q j 6, Q j 7, Q j 8, Q j 9, Q j 10, Q j 11])] H15 ?ho10 ?he10
   case ho10 => exact ak (fun γ => ⟨rfl, fun w' h => ex_loadF h 1 rfl rfl rfl rfl⟩) (ak (fun γ => ⟨rfl, fun w' h => ex_loadA (i := 0) (k := 12) h 2 rfl rfl rfl Tryd.isAgg28 Tryd.sizeOf28 rfl rfl⟩) (ak (fun γ => ⟨rfl, fun w' h => ex_loadA (i := 0) (k := 12) h 2 rfl rfl rfl Tryd.isAgg28 Tryd.sizeOf28 rfl rfl⟩) (ak (fun γ => ⟨rfl, fun w' h => ⟨23, #[.agg #[PT γ2_0 0], V [P (j + 1) 0, P (j + 1) 1, P (j + 1) 2, P (j + 1) 3, P (j + 1) 4, P (j + 1) 5, P (j + 1) 6, P (j + 1) 7, P (j + 1) 8, P (j + 1) 9, P (j + 1) 10, P (j + 1) 11], V [P (j + 1) 0, P (j + 1) 1, P (j + 1) 2, P (j + 1) 3, P (j + 1) 4, P (j + 1) 5, P (j + 1) 6, P (j + 1) 7, P (j + 1) 8, P (j + 1) 9, P (j + 1) 10, P (j + 1) 11]], exec_call rfl call23 rfl (mpn rfl), CS.out j _ w' (h.one 0 rfl)⟩⟩) trivial)))
   intro _ w16 H16
   clear H15
   refine rest_at (l := [4]) rfl ?_
   refine rest_store rfl rfl rfl (ex_storeA (i := 0) (ms := [Q j 0, Q j 1, Q j 2, Q j 3, Q j 4, Q j 5, Q j 6, Q j 7, Q j 8, Q j 9, Q j 10, Q j 11]) H16.out.1 2 rfl rfl rfl rfl Tryd.sizeOf28 (Nat.le_of_ble_eq_true rfl)) ?_
   have H17 : Hid (Mm (w16.setCells γ2_5 (6 * 0) (cel [Q j 0, Q j 1, Q j 2, Q j 3, Q j 4, Q j 5, Q j 6, Q j 7, Q j 8, Q j 9, Q j 10, Q j 11])) [(γ2_0, modc n), (γ2_4, [PT γ2_0 0]), (γ2_5, cel [Q j 0, Q j 1, Q j 2, Q j 3, Q j 4, Q j 5, Q j 6, Q j 7, Q j 8, Q j 9, Q j 10, Q j 11]), (γ1_0, cel [m 0, m 1, m 2, m 3, m 4, m 5, m 6, m 7, m 8, m 9, m 10, m 11]), (γ1_1, cells6 ee), (γ1_2, cel [0, 0, 0, 0, 0, 0, 0, 0, 0, 0, 0, 0])] ∧ Below w.heap.size w (w16.setCells γ2_5 (6 * 0) (cel [Q j 0, Q j 1, Q j 2, Q j 3, Q j 4, Q j 5, Q j 6, Q j 7, Q j 8, Q j 9, Q j 10, Q j 11]))) := ⟨by
    have h := H16.out.1.put 2 (off := 6 * 0) (vs := cel [Q j 0, Q j 1, Q j 2, Q j 3, Q j 4, Q j 5, Q j 6, Q j 7, Q j 8, Q j 9, Q j 10, Q j 11]) rfl (by simp only [cel_len]; exact Nat.le_of_ble_eq_true rfl)
    rw [cel_patch] at h
    exact h, below_setCells _ o2_5.out _ _ _ H16.out.2⟩
   clear H16
   generalize hgw : World.setCells _ _ _ _ = w17 at H17 ⊢
   clear hgw
   refine rest_nil (then_normal (wp_seq ?_))
   refine walk_seqB 4 [.quiet (N ee), .quiet (.int .i64 (((j + 1 : Nat) : Int) - 1)), .call (.int .i64 (bv j)), .quiet (.bool false)] H17 ?ho11 ?he11
   case ho11 => exact ak (fun γ => ⟨rfl, fun w' h => ex_load6 h 4 rfl rfl rfl rfl⟩) (ak (fun _ => ⟨rfl, fun _ _ => rfl⟩) (ak (fun γ => ⟨rfl, fun w' h => ⟨24, #[N ee, .int .i64 (((j + 1 : Nat) : Int) - 1)], exec_call rfl call24 rfl (mpn rfl), CI.out j w' (by omega)⟩⟩) (ak (by refine fun γ => ⟨rfl, fun w' h => ?_⟩; clear h; go_simp <;> omega) trivial)))
   intro _ w18 H18
   clear H17
   refine rest0 rfl (then_normal (wp_cond_false rfl ?_))
   refine wp_skip (block_normal (then_normal ?_))
   refine walk_seqB 2 [.quiet (.int .i64 (((j + 1 : Nat) : Int) - 1)), .quiet (.int .i64 (((j : Nat) : Int) - 1))] H18 ?ho12 ?he12
   case ho12 => exact ak (fun _ => ⟨rfl, fun _ _ => rfl⟩) (ak (by refine fun γ => ⟨rfl, fun w' h => ?_⟩; clear h; go_simp; rw [IntKind.wrap_i64]; omega) trivial)
   intro _ w19 H19
   clear H18
   refine rest_at (l := [2]) rfl ?_
   refine rest_set (d := 7) rfl rfl rfl rfl ?_
   simp only [Act.put, sa, sz, ss]
   refine rest_nil (then_normal ?_)
   exact ⟨j, ⟨(slotfn [undef, undef, undef, undef, undef, undef, undef, undef, undef, undef, undef, undef, undef, undef, undef, .int .i64 (((j + 1 : Nat) : Int) - 1), .bool true, .int .i64 (((j + 1 : Nat) : Int) - 1), .int .i64 (((j : Nat) : Int) - 1), .agg #[PT γ2_0 0], V [P (j + 1) 0, P (j + 1) 1, P (j + 1) 2, P (j + 1) 3, P (j + 1) 4, P (j + 1) 5, P (j + 1) 6, P (j + 1) 7, P (j + 1) 8, P (j + 1) 9, P (j + 1) 10, P (j + 1) 11], V [P (j + 1) 0, P (j + 1) 1, P (j + 1) 2, P (j + 1) 3, P (j + 1) 4, P (j + 1) 5, P (j + 1) 6, P (j + 1) 7, P (j + 1) 8, P (j + 1) 9, P (j + 1) 10, P (j + 1) 11], V [Q j 0, Q j 1, Q j 2, Q j 3, Q j 4, Q j 5, Q j 6, Q j 7, Q j 8, Q j 9, Q j 10, Q j 11], N ee, .int .i64 (((j + 1 : Nat) : Int) - 1), .int .i64 (bv j), .bool false, s0 27, s0 28, s0 29, s0 30]), rfl, ⟨by rw [← HQ.out]; exact H19.out.1, H19.out.2⟩, by omega⟩, by omega⟩
 have hk0 : k = 0 := by omega
 subst hk0
 refine wp_seq (wp_seq ?_)
 refine walk_seqB 2 [.quiet (.int .i64 (((0 : Nat) : Int) - 1)), .quiet (.bool false)] H7 ?ho13 ?he13
 case ho13 => exact ak (fun _ => ⟨rfl, fun _ _ => rfl⟩) (ak (by refine fun γ => ⟨rfl, fun w' h => ?_⟩; clear h; go_simp <;> omega) trivial)
 intro _ w20 H20
 clear H7
 refine rest0 rfl (then_normal (wp_cond_false rfl ?_))
 refine wp_exit ?_
 repeat refine then_exit ?_
 refine block_exit ?_
 refine then_normal (wp_seq ?_)
 refine walk_seqB 1 [.quiet (V [P 0 0, P 0 1, P 0 2, P 0 3, P 0 4, P 0 5, P 0 6, P 0 7, P 0 8, P 0 9, P 0 10, P 0 11])] H20 ?ho14 ?he14
 case ho14 => exact ak (fun γ => ⟨rfl, fun w' h => ex_loadA (i := 0) (k := 12) h 2 rfl rfl rfl Tryd.isAgg28 Tryd.sizeOf28 rfl rfl⟩) trivial
 intro _ w21 H21
 clear H20
 refine rest_at (l := [1]) rfl ?_
 refine rest_store rfl rfl rfl (ex_storeA (i := 0) (ms := [P 0 0, P 0 1, P 0 2, P 0 3, P 0 4, P 0 5, P 0 6, P 0 7, P 0 8, P 0 9, P 0 10, P 0 11]) H21.out.1 5 rfl rfl rfl rfl Tryd.sizeOf28 (Nat.le_of_ble_eq_true rfl)) ?_
 have H22 : Hid (Mm (w21.setCells γ1_2 (6 * 0) (cel [P 0 0, P 0 1, P 0 2, P 0 3, P 0 4, P 0 5, P 0 6, P 0 7, P 0 8, P 0 9, P 0 10, P 0 11])) [(γ2_0, modc n), (γ2_4, [PT γ2_0 0]), (γ2_5, cel [P 0 0, P 0 1, P 0 2, P 0 3, P 0 4, P 0 5, P 0 6, P 0 7, P 0 8, P 0 9, P 0 10, P 0 11]), (γ1_0, cel [m 0, m 1, m 2, m 3, m 4, m 5, m 6, m 7, m 8, m 9, m 10, m 11]), (γ1_1, cells6 ee), (γ1_2, cel [P 0 0, P 0 1, P 0 2, P 0 3, P 0 4, P 0 5, P 0 6, P 0 7, P 0 8, P 0 9, P 0 10, P 0 11])] ∧ Below w.heap.size w (w21.setCells γ1_2 (6 * 0) (cel [P 0 0, P 0 1, P 0 2, P 0 3, P 0 4, P 0 5, P 0 6, P 0 7, P 0 8, P 0 9, P 0 10, P 0 11]))) := ⟨by
  have h := H21.out.1.put 5 (off := 6 * 0) (vs := cel [P 0 0, P 0 1, P 0 2, P 0 3, P 0 4, P 0 5, P 0 6, P 0 7, P 0 8, P 0 9, P 0 10, P 0 11]) rfl (by simp only [cel_len]; exact Nat.le_of_ble_eq_true rfl)
  rw [cel_patch] at h
  exact h, below_setCells _ o1_2.out _ _ _ H21.out.2⟩
 clear H21
 generalize hgw : World.setCells _ _ _ _ = w22 at H22 ⊢
 clear hgw
 refine rest_nil (then_normal (wp_ret ?_))
 repeat (first | refine then_ret ?_ | refine block_ret ?_)
 have hf0 := cel_var (k := 12) H22.out.1 5 rfl Tryd.isAgg28 Tryd.sizeOf28 rfl
 refine bodyPost_ret (v := V [P 0 0, P 0 1, P 0 2, P 0 3, P 0 4, P 0 5, P 0 6, P 0 7, P 0 8, P 0 9, P 0 10, P 0 11]) (by simp [results, Tryd.results6, asAddr, hf0]) rfl ?_
 exact ⟨rfl, H22.out.2⟩
end Rg
end Go.Proofs.YtgdlhgbdigpfhabDoor
end
section
namespace Go.Proofs.YtgdlhgbdigpfhabDoor
open Go.RowKit
namespace Rg
/-! Elements of twelve parts over the integers: number j of them is a j; w to the power 6 is 1 + i. -/
def m0 (a b : Nat → Int) (i j : Nat) : Int := a (2 * i) * b (2 * j) - a (2 * i + 1) * b (2 * j + 1)
def m1 (a b : Nat → Int) (i j : Nat) : Int := a (2 * i) * b (2 * j + 1) + a (2 * i + 1) * b (2 * j)
def mul12 (a b : Nat → Int) : Nat → Int
 | 0 => m0 a b 0 0 + ((m0 a b 1 5 + m0 a b 2 4 + m0 a b 3 3 + m0 a b 4 2 + m0 a b 5 1) - (m1 a b 1 5 + m1 a b 2 4 + m1 a b 3 3 + m1 a b 4 2 + m1 a b 5 1))
 | 1 => m1 a b 0 0 + ((m0 a b 1 5 + m0 a b 2 4 + m0 a b 3 3 + m0 a b 4 2 + m0 a b 5 1) + (m1 a b 1 5 + m1 a b 2 4 + m1 a b 3 3 + m1 a b 4 2 + m1 a b 5 1))
 | 2 => m0 a b 0 1 + m0 a b 1 0 + ((m0 a b 2 5 + m0 a b 3 4 + m0 a b 4 3 + m0 a b 5 2) - (m1 a b 2 5 + m1 a b 3 4 + m1 a b 4 3 + m1 a b 5 2))
 | 3 => m1 a b 0 1 + m1 a b 1 0 + ((m0 a b 2 5 + m0 a b 3 4 + m0 a b 4 3 + m0 a b 5 2) + (m1 a b 2 5 + m1 a b 3 4 + m1 a b 4 3 + m1 a b 5 2))
 | 4 => m0 a b 0 2 + m0 a b 1 1 + m0 a b 2 0 + ((m0 a b 3 5 + m0 a b 4 4 + m0 a b 5 3) - (m1 a b 3 5 + m1 a b 4 4 + m1 a b 5 3))
 | 5 => m1 a b 0 2 + m1 a b 1 1 + m1 a b 2 0 + ((m0 a b 3 5 + m0 a b 4 4 + m0 a b 5 3) + (m1 a b 3 5 + m1 a b 4 4 + m1 a b 5 3))
 | 6 => m0 a b 0 3 + m0 a b 1 2 + m0 a b 2 1 + m0 a b 3 0 + ((m0 a b 4 5 + m0 a b 5 4) - (m1 a b 4 5 + m1 a b 5 4))
 | 7 => m1 a b 0 3 + m1 a b 1 2 + m1 a b 2 1 + m1 a b 3 0 + ((m0 a b 4 5 + m0 a b 5 4) + (m1 a b 4 5 + m1 a b 5 4))
 | 8 => m0 a b 0 4 + m0 a b 1 3 + m0 a b 2 2 + m0 a b 3 1 + m0 a b 4 0 + ((m0 a b 5 5) - (m1 a b 5 5))
 | 9 => m1 a b 0 4 + m1 a b 1 3 + m1 a b 2 2 + m1 a b 3 1 + m1 a b 4 0 + ((m0 a b 5 5) + (m1 a b 5 5))
 | 10 => m0 a b 0 5 + m0 a b 1 4 + m0 a b 2 3 + m0 a b 3 2 + m0 a b 4 1 + m0 a b 5 0
 | 11 => m1 a b 0 5 + m1 a b 1 4 + m1 a b 2 3 + m1 a b 3 2 + m1 a b 4 1 + m1 a b 5 0
 | _ => 0
theorem assoc12_0 (a b c : Nat → Int) : mul12 (mul12 a b) c 0 = mul12 a (mul12 b c) 0 := by
 simp only [mul12, m0, m1, Nat.reduceMul, Nat.reduceAdd]
 grind
theorem assoc12_1 (a b c : Nat → Int) : mul12 (mul12 a b) c 1 = mul12 a (mul12 b c) 1 := by
 simp only [mul12, m0, m1, Nat.reduceMul, Nat.reduceAdd]
 grind
theorem assoc12_2 (a b c : Nat → Int) : mul12 (mul12 a b) c 2 = mul12 a (mul12 b c) 2 := by
 simp only [mul12, m0, m1, Nat.reduceMul, Nat.reduceAdd]
 grind
theorem assoc12_3 (a b c : Nat → Int) : mul12 (mul12 a b) c 3 = mul12 a (mul12 b c) 3 := by
 simp only [mul12, m0, m1, Nat.reduceMul, Nat.reduceAdd]
 grind
theorem assoc12_4 (a b c : Nat → Int) : mul12 (mul12 a b) c 4 = mul12 a (mul12 b c) 4 := by
 simp only [mul12, m0, m1, Nat.reduceMul, Nat.reduceAdd]
 grind
theorem assoc12_5 (a b c : Nat → Int) : mul12 (mul12 a b) c 5 = mul12 a (mul12 b c) 5 := by
 simp only [mul12, m0, m1, Nat.reduceMul, Nat.reduceAdd]
 grind
theorem assoc12_6 (a b c : Nat → Int) : mul12 (mul12 a b) c 6 = mul12 a (mul12 b c) 6 := by
 simp only [mul12, m0, m1, Nat.reduceMul, Nat.reduceAdd]
 grind
theorem assoc12_7 (a b c : Nat → Int) : mul12 (mul12 a b) c 7 = mul12 a (mul12 b c) 7 := by
 simp only [mul12, m0, m1, Nat.reduceMul, Nat.reduceAdd]
 grind
theorem assoc12_8 (a b c : Nat → Int) : mul12 (mul12 a b) c 8 = mul12 a (mul12 b c) 8 := by
 simp only [mul12, m0, m1, Nat.reduceMul, Nat.reduceAdd]
 grind
theorem assoc12_9 (a b c : Nat → Int) : mul12 (mul12 a b) c 9 = mul12 a (mul12 b c) 9 := by
 simp only [mul12, m0, m1, Nat.reduceMul, Nat.reduceAdd]
 grind
theorem assoc12_10 (a b c : Nat → Int) : mul12 (mul12 a b) c 10 = mul12 a (mul12 b c) 10 := by
 simp only [mul12, m0, m1, Nat.reduceMul, Nat.reduceAdd]
 grind
theorem assoc12_11 (a b c : Nat → Int) : mul12 (mul12 a b) c 11 = mul12 a (mul12 b c) 11 := by
 simp only [mul12, m0, m1, Nat.reduceMul, Nat.reduceAdd]
 grind
theorem comm12_0 (a b : Nat → Int) : mul12 a b 0 = mul12 b a 0 := by
 simp only [mul12, m0, m1, Nat.reduceMul, Nat.reduceAdd]
 grind
theorem comm12_1 (a b : Nat → Int) : mul12 a b 1 = mul12 b a 1 := by
 simp only [mul12, m0, m1, Nat.reduceMul, Nat.reduceAdd]
 grind
theorem comm12_2 (a b : Nat → Int) : mul12 a b 2 = mul12 b a 2 := by
 simp only [mul12, m0, m1, Nat.reduceMul, Nat.reduceAdd]
 grind
theorem comm12_3 (a b : Nat → Int) : mul12 a b 3 = mul12 b a 3 := by
 simp only [mul12, m0, m1, Nat.reduceMul, Nat.reduceAdd]
 grind
theorem comm12_4 (a b : Nat → Int) : mul12 a b 4 = mul12 b a 4 := by
 simp only [mul12, m0, m1, Nat.reduceMul, Nat.reduceAdd]
 grind
theorem comm12_5 (a b : Nat → Int) : mul12 a b 5 = mul12 b a 5 := by
 simp only [mul12, m0, m1, Nat.reduceMul, Nat.reduceAdd]
 grind
theorem comm12_6 (a b : Nat → Int) : mul12 a b 6 = mul12 b a 6 := by
 simp only [mul12, m0, m1, Nat.reduceMul, Nat.reduceAdd]
 grind
theorem comm12_7 (a b : Nat → Int) : mul12 a b 7 = mul12 b a 7 := by
 simp only [mul12, m0, m1, Nat.reduceMul, Nat.reduceAdd]
 grind
theorem comm12_8 (a b : Nat → Int) : mul12 a b 8 = mul12 b a 8 := by
 simp only [mul12, m0, m1, Nat.reduceMul, Nat.reduceAdd]
 grind
theorem comm12_9 (a b : Nat → Int) : mul12 a b 9 = mul12 b a 9 := by
 simp only [mul12, m0, m1, Nat.reduceMul, Nat.reduceAdd]
 grind
theorem comm12_10 (a b : Nat → Int) : mul12 a b 10 = mul12 b a 10 := by
 simp only [mul12, m0, Nat.reduceMul, Nat.reduceAdd]
 grind
theorem comm12_11 (a b : Nat → Int) : mul12 a b 11 = mul12 b a 11 := by
 simp only [mul12, m1, Nat.reduceMul, Nat.reduceAdd]
 grind
theorem lin12_0 (a q b : Nat → Int) (p : Int) : mul12 (fun j => a j + p * q j) b 0 = mul12 a b 0 + p * mul12 q b 0 := by
 simp only [mul12, m0, m1, Nat.reduceMul, Nat.reduceAdd]
 grind
theorem lin12_1 (a q b : Nat → Int) (p : Int) : mul12 (fun j => a j + p * q j) b 1 = mul12 a b 1 + p * mul12 q b 1 := by
 simp only [mul12, m0, m1, Nat.reduceMul, Nat.reduceAdd]
 grind
theorem lin12_2 (a q b : Nat → Int) (p : Int) : mul12 (fun j => a j + p * q j) b 2 = mul12 a b 2 + p * mul12 q b 2 := by
 simp only [mul12, m0, m1, Nat.reduceMul, Nat.reduceAdd]
 grind
theorem lin12_3 (a q b : Nat → Int) (p : Int) : mul12 (fun j => a j + p * q j) b 3 = mul12 a b 3 + p * mul12 q b 3 := by
 simp only [mul12, m0, m1, Nat.reduceMul, Nat.reduceAdd]
 grind
theorem lin12_4 (a q b : Nat → Int) (p : Int) : mul12 (fun j => a j + p * q j) b 4 = mul12 a b 4 + p * mul12 q b 4 := by
 simp only [mul12, m0, m1, Nat.reduceMul, Nat.reduceAdd]
 grind
theorem lin12_5 (a q b : Nat → Int) (p : Int) : mul12 (fun j => a j + p * q j) b 5 = mul12 a b 5 + p * mul12 q b 5 := by
 simp only [mul12, m0, m1, Nat.reduceMul, Nat.reduceAdd]
 grind
theorem lin12_6 (a q b : Nat → Int) (p : Int) : mul12 (fun j => a j + p * q j) b 6 = mul12 a b 6 + p * mul12 q b 6 := by
 simp only [mul12, m0, m1, Nat.reduceMul, Nat.reduceAdd]
 grind
theorem lin12_7 (a q b : Nat → Int) (p : Int) : mul12 (fun j => a j + p * q j) b 7 = mul12 a b 7 + p * mul12 q b 7 := by
 simp only [mul12, m0, m1, Nat.reduceMul, Nat.reduceAdd]
 grind
theorem lin12_8 (a q b : Nat → Int) (p : Int) : mul12 (fun j => a j + p * q j) b 8 = mul12 a b 8 + p * mul12 q b 8 := by
 simp only [mul12, m0, m1, Nat.reduceMul, Nat.reduceAdd]
 grind
theorem lin12_9 (a q b : Nat → Int) (p : Int) : mul12 (fun j => a j + p * q j) b 9 = mul12 a b 9 + p * mul12 q b 9 := by
 simp only [mul12, m0, m1, Nat.reduceMul, Nat.reduceAdd]
 grind
theorem lin12_10 (a q b : Nat → Int) (p : Int) : mul12 (fun j => a j + p * q j) b 10 = mul12 a b 10 + p * mul12 q b 10 := by
 simp only [mul12, m0, Nat.reduceMul, Nat.reduceAdd]
 grind
theorem lin12_11 (a q b : Nat → Int) (p : Int) : mul12 (fun j => a j + p * q j) b 11 = mul12 a b 11 + p * mul12 q b 11 := by
 simp only [mul12, m1, Nat.reduceMul, Nat.reduceAdd]
 grind
theorem assoc12 (a b c : Nat → Int) : mul12 (mul12 a b) c = mul12 a (mul12 b c) := funext fun j => by
 match j with
 | 0 => exact assoc12_0 a b c
 | 1 => exact assoc12_1 a b c
 | 2 => exact assoc12_2 a b c
 | 3 => exact assoc12_3 a b c
 | 4 => exact assoc12_4 a b c
 | 5 => exact assoc12_5 a b c
 | 6 => exact assoc12_6 a b c
 | 7 => exact assoc12_7 a b c
 | 8 => exact assoc12_8 a b c
 | 9 => exact assoc12_9 a b c
 | 10 => exact assoc12_10 a b c
 | 11 => exact assoc12_11 a b c
 | _ + 12 => rfl
theorem comm12 (a b : Nat → Int) : mul12 a b = mul12 b a := funext fun j => by
 match j with
 | 0 => exact comm12_0 a b
 | 1 => exact comm12_1 a b
 | 2 => exact comm12_2 a b
 | 3 => exact comm12_3 a b
 | 4 => exact comm12_4 a b
 | 5 => exact comm12_5 a b
 | 6 => exact comm12_6 a b
 | 7 => exact comm12_7 a b
 | 8 => exact comm12_8 a b
 | 9 => exact comm12_9 a b
 | 10 => exact comm12_10 a b
 | 11 => exact comm12_11 a b
 | _ + 12 => rfl
theorem lin12 (a q b : Nat → Int) (p : Int) : mul12 (fun j => a j + p * q j) b = (fun j => mul12 a b j + p * mul12 q b j) := funext fun j => by
 match j with
 | 0 => exact lin12_0 a q b p
 | 1 => exact lin12_1 a q b p
 | 2 => exact lin12_2 a q b p
 | 3 => exact lin12_3 a q b p
 | 4 => exact lin12_4 a q b p
 | 5 => exact lin12_5 a q b p
 | 6 => exact lin12_6 a q b p
 | 7 => exact lin12_7 a q b p
 | 8 => exact lin12_8 a q b p
 | 9 => exact lin12_9 a q b p
 | 10 => exact lin12_10 a q b p
 | 11 => exact lin12_11 a q b p
 | _ + 12 => show (0 : Int) = 0 + p * 0; rw [Int.mul_zero]; rfl
theorem add12 (a q b : Nat → Int) : mul12 (fun j => a j + q j) b = (fun j => mul12 a b j + mul12 q b j) := by
 have h := lin12 a q b 1
 simp only [Int.one_mul] at h
 exact h
def one12 : Nat → Int
 | 0 => 1
 | _ => 0
/-- Nothing stands beyond the twelve. -/
def Fin12 (a : Nat → Int) : Prop := ∀ j, a (j + 12) = 0
theorem fin_mul (a b : Nat → Int) : Fin12 (mul12 a b) := fun _ => rfl
theorem fin_one : Fin12 one12 := fun _ => rfl
theorem one12_0 (a : Nat → Int) : mul12 a one12 0 = a 0 := by
 simp only [mul12, m0, m1, one12, Nat.reduceMul, Nat.reduceAdd]
 grind
theorem one12_1 (a : Nat → Int) : mul12 a one12 1 = a 1 := by
 simp only [mul12, m0, m1, one12, Nat.reduceMul, Nat.reduceAdd]
 grind
theorem one12_2 (a : Nat → Int) : mul12 a one12 2 = a 2 := by
 simp only [mul12, m0, m1, one12, Nat.reduceMul, Nat.reduceAdd]
 grind
theorem one12_3 (a : Nat → Int) : mul12 a one12 3 = a 3 := by
 simp only [mul12, m0, m1, one12, Nat.reduceMul, Nat.reduceAdd]
 grind
theorem one12_4 (a : Nat → Int) : mul12 a one12 4 = a 4 := by
 simp only [mul12, m0, m1, one12, Nat.reduceMul, Nat.reduceAdd]
 grind
theorem one12_5 (a : Nat → Int) : mul12 a one12 5 = a 5 := by
 simp only [mul12, m0, m1, one12, Nat.reduceMul, Nat.reduceAdd]
 grind
theorem one12_6 (a : Nat → Int) : mul12 a one12 6 = a 6 := by
 simp only [mul12, m0, m1, one12, Nat.reduceMul, Nat.reduceAdd]
 grind
theorem one12_7 (a : Nat → Int) : mul12 a one12 7 = a 7 := by
 simp only [mul12, m0, m1, one12, Nat.reduceMul, Nat.reduceAdd]
 grind
theorem one12_8 (a : Nat → Int) : mul12 a one12 8 = a 8 := by
 simp only [mul12, m0, m1, one12, Nat.reduceMul, Nat.reduceAdd]
 grind
theorem one12_9 (a : Nat → Int) : mul12 a one12 9 = a 9 := by
 simp only [mul12, m0, m1, one12, Nat.reduceMul, Nat.reduceAdd]
 grind
theorem one12_10 (a : Nat → Int) : mul12 a one12 10 = a 10 := by
 simp only [mul12, m0, one12, Nat.reduceMul, Nat.reduceAdd]
 grind
theorem one12_11 (a : Nat → Int) : mul12 a one12 11 = a 11 := by
 simp only [mul12, m1, one12, Nat.reduceMul, Nat.reduceAdd]
 grind
theorem mul_one12 (a : Nat → Int) (h : Fin12 a) : mul12 a one12 = a := funext fun j => by
 match j with
 | 0 => exact one12_0 a
 | 1 => exact one12_1 a
 | 2 => exact one12_2 a
 | 3 => exact one12_3 a
 | 4 => exact one12_4 a
 | 5 => exact one12_5 a
 | 6 => exact one12_6 a
 | 7 => exact one12_7 a
 | 8 => exact one12_8 a
 | 9 => exact one12_9 a
 | 10 => exact one12_10 a
 | 11 => exact one12_11 a
 | j + 12 => rw [h j]; rfl
def pw12 (a : Nat → Int) : Nat → Nat → Int
 | 0 => one12
 | n + 1 => mul12 (pw12 a n) a
theorem fin_pw (a : Nat → Int) : ∀ n, Fin12 (pw12 a n)
 | 0 => fin_one
 | _ + 1 => fin_mul _ _
theorem pw_add (a : Nat → Int) (m : Nat) : ∀ n, pw12 a (m + n) = mul12 (pw12 a m) (pw12 a n)
 | 0 => (mul_one12 _ (fin_pw a m)).symm
 | n + 1 => by
  show mul12 (pw12 a (m + n)) a = mul12 (pw12 a m) (mul12 (pw12 a n) a)
  rw [pw_add a m n, assoc12]
theorem pw_twice (a : Nat → Int) (m : Nat) : pw12 a (2 * m) = mul12 (pw12 a m) (pw12 a m) := by rw [← pw_add]; congr 1; omega
theorem pw_mul (a b : Nat → Int) : ∀ n, pw12 (mul12 a b) n = mul12 (pw12 a n) (pw12 b n)
 | 0 => (mul_one12 _ fin_one).symm
 | n + 1 => by
  show mul12 (pw12 (mul12 a b) n) (mul12 a b) = mul12 (mul12 (pw12 a n) a) (mul12 (pw12 b n) b)
  rw [pw_mul a b n, assoc12, assoc12, ← assoc12 (pw12 b n) a b, comm12 (pw12 b n) a, assoc12 a]
end Rg
end Go.Proofs.YtgdlhgbdigpfhabDoor
end
section
namespace Go.Proofs.YtgdlhgbdigpfhabDoor
open Go.RowKit
namespace Rg
/-! Twelve parts: what is told. -/
abbrev lz (a : Nat → Int) : List Nat := [pz (a 0), pz (a 1), pz (a 2), pz (a 3), pz (a 4), pz (a 5), pz (a 6), pz (a 7), pz (a 8), pz (a 9), pz (a 10), pz (a 11)]
abbrev tl (a : Nat → Nat) : List Nat := [a 0, a 1, a 2, a 3, a 4, a 5, a 6, a 7, a 8, a 9, a 10, a 11]
def zn (a : Nat → Nat) : Nat → Int := fun j => (a j : Int)
theorem leftAll_any (a : Nat → Nat) (h : ∀ j, j < 12 → a j < big) (w : World) : Calls Tryd.prog 21 #[V (tl a)] w (Rt w (V (lz (zn a)))) :=
 leftAll_gen a (fun j => pz (zn a j)) (fun k hk w => left2_any (a (2 * k)) (a (2 * k + 1)) (h _ (by omega)) (h _ (by omega)) w) w
theorem together2_any (a0 a1 b0 b1 : Nat) (h0 : a0 + b0 < big) (h1 : a1 + b1 < big) (w : World) : Calls Tryd.prog 59 #[V [a0, a1], V [b0, b1]] w (Rt w (V [a0 + b0, a1 + b1])) :=
 together2_gen a0 a1 b0 b1 _ _ (fun w => together_any a0 b0 h0 w) (fun w => together_any a1 b1 h1 w) w
theorem three_any (a b : Nat → Nat) (h : ∀ j, j < 6 → a j + b j < big) (w : World) : Calls Tryd.prog 38 #[V [a 0, a 1, a 2, a 3, a 4, a 5], V [b 0, b 1, b 2, b 3, b 4, b 5]] w (Rt w (V [a 0 + b 0, a 1 + b 1, a 2 + b 2, a 3 + b 3, a 4 + b 4, a 5 + b 5])) :=
 three_gen a b (fun j => a j + b j) (fun k hk w => together2_any _ _ _ _ (h _ (by omega)) (h _ (by omega)) w) w
/-- Integers as wide numbers, one behind the other. -/
def lh (z : Nat → Int) (j : Nat) : Nat := if j % 2 = 0 then lo (z (j / 2)) else hi (z (j / 2))
theorem plus2_any (x y : Nat → Int) (w : World) : Calls Tryd.prog 41 #[V [lh x 0, lh x 1, lh x 2, lh x 3], V [lh y 0, lh y 1, lh y 2, lh y 3]] w (Rt w (V [lh (fun i => x i + y i) 0, lh (fun i => x i + y i) 1, lh (fun i => x i + y i) 2, lh (fun i => x i + y i) 3])) :=
 plus2_gen _ _ _ _ _ _ _ _ _ _ _ _ (fun w => plusZ_any (x 0) (y 0) w) (fun w => plusZ_any (x 1) (y 1) w) w
theorem less2_any (x y : Nat → Int) (w : World) : Calls Tryd.prog 42 #[V [lh x 0, lh x 1, lh x 2, lh x 3], V [lh y 0, lh y 1, lh y 2, lh y 3]] w (Rt w (V [lh (fun i => x i - y i) 0, lh (fun i => x i - y i) 1, lh (fun i => x i - y i) 2, lh (fun i => x i - y i) 3])) :=
 less2_gen _ _ _ _ _ _ _ _ _ _ _ _ (fun w => lessZ_any (x 0) (y 0) w) (fun w => lessZ_any (x 1) (y 1) w) w
def rsd (x : Nat → Int) : Nat → Int
 | 0 => x 0 - x 1
 | _ => x 0 + x 1
theorem raised_any (x : Nat → Int) (w : World) : Calls Tryd.prog 39 #[V [lh x 0, lh x 1, lh x 2, lh x 3]] w (Rt w (V [lh (rsd x) 0, lh (rsd x) 1, lh (rsd x) 2, lh (rsd x) 3])) :=
 raised_gen _ _ _ _ _ _ _ _ (fun w => lessZ_any (x 0) (x 1) w) (fun w => plusZ_any (x 0) (x 1) w) w
def zz (x y : Int) : Nat → Int
 | 0 => x
 | _ => y
theorem times2_anyZ (a0 a1 b0 b1 : Nat) (ha : a0 + a1 < big) (hb : b0 + b1 < big) (w : World) : Calls Tryd.prog 55 #[V [a0, a1], V [b0, b1]] w (Rt w (V [lh (zz ((a0 : Int) * b0 - (a1 : Int) * b1) ((a0 : Int) * b1 + (a1 : Int) * b0)) 0, lh (zz ((a0 : Int) * b0 - (a1 : Int) * b1) ((a0 : Int) * b1 + (a1 : Int) * b0)) 1, lh (zz ((a0 : Int) * b0 - (a1 : Int) * b1) ((a0 : Int) * b1 + (a1 : Int) * b0)) 2, lh (zz ((a0 : Int) * b0 - (a1 : Int) * b1) ((a0 : Int) * b1 + (a1 : Int) * b0)) 3])) :=
 times2_any a0 a1 b0 b1 ha hb w
theorem cross_any12 (a b : Nat → Nat) (ha : ∀ j, j < 6 → a j < 2 * pB) (hb : ∀ j, j < 6 → b j < 2 * pB) (ga gb : Nat) (w : World) (hm : Mm w [(ga, cel [a 0, a 1, a 2, a 3, a 4, a 5]), (gb, cel [b 0, b 1, b 2, b 3, b 4, b 5])]) : Calls Tryd.prog 58 #[.int .i64 1, .int .i64 2, PT ga 0, PT gb 0] w (Rt w (V [lh (zz ((((a 2 + a 4) : Nat) : Int) * ((b 2 + b 4) : Nat) - (((a 3 + a 5) : Nat) : Int) * ((b 3 + b 5) : Nat)) ((((a 2 + a 4) : Nat) : Int) * ((b 3 + b 5) : Nat) + (((a 3 + a 5) : Nat) : Int) * ((b 2 + b 4) : Nat))) 0, lh (zz ((((a 2 + a 4) : Nat) : Int) * ((b 2 + b 4) : Nat) - (((a 3 + a 5) : Nat) : Int) * ((b 3 + b 5) : Nat)) ((((a 2 + a 4) : Nat) : Int) * ((b 3 + b 5) : Nat) + (((a 3 + a 5) : Nat) : Int) * ((b 2 + b 4) : Nat))) 1, lh (zz ((((a 2 + a 4) : Nat) : Int) * ((b 2 + b 4) : Nat) - (((a 3 + a 5) : Nat) : Int) * ((b 3 + b 5) : Nat)) ((((a 2 + a 4) : Nat) : Int) * ((b 3 + b 5) : Nat) + (((a 3 + a 5) : Nat) : Int) * ((b 2 + b 4) : Nat))) 2, lh (zz ((((a 2 + a 4) : Nat) : Int) * ((b 2 + b 4) : Nat) - (((a 3 + a 5) : Nat) : Int) * ((b 3 + b 5) : Nat)) ((((a 2 + a 4) : Nat) : Int) * ((b 3 + b 5) : Nat) + (((a 3 + a 5) : Nat) : Int) * ((b 2 + b 4) : Nat))) 3])) := by
 have h9 := nine_p
 have a2 := ha 2 (by decide)
 have b2 := hb 2 (by decide)
 have a3 := ha 3 (by decide)
 have b3 := hb 3 (by decide)
 have a4 := ha 4 (by decide)
 have b4 := hb 4 (by decide)
 have a5 := ha 5 (by decide)
 have b5 := hb 5 (by decide)
 exact cross_12 a b ga gb _ _ _ _ _ _ _ _ (fun w => together2_any _ _ _ _ (by omega) (by omega) w) (fun w => together2_any _ _ _ _ (by omega) (by omega) w) (fun w => times2_anyZ _ _ _ _ (by omega) (by omega) w) w hm
theorem cross_any01 (a b : Nat → Nat) (ha : ∀ j, j < 6 → a j < 2 * pB) (hb : ∀ j, j < 6 → b j < 2 * pB) (ga gb : Nat) (w : World) (hm : Mm w [(ga, cel [a 0, a 1, a 2, a 3, a 4, a 5]), (gb, cel [b 0, b 1, b 2, b 3, b 4, b 5])]) : Calls Tryd.prog 58 #[.int .i64 0, .int .i64 1, PT ga 0, PT gb 0] w (Rt w (V [lh (zz ((((a 0 + a 2) : Nat) : Int) * ((b 0 + b 2) : Nat) - (((a 1 + a 3) : Nat) : Int) * ((b 1 + b 3) : Nat)) ((((a 0 + a 2) : Nat) : Int) * ((b 1 + b 3) : Nat) + (((a 1 + a 3) : Nat) : Int) * ((b 0 + b 2) : Nat))) 0, lh (zz ((((a 0 + a 2) : Nat) : Int) * ((b 0 + b 2) : Nat) - (((a 1 + a 3) : Nat) : Int) * ((b 1 + b 3) : Nat)) ((((a 0 + a 2) : Nat) : Int) * ((b 1 + b 3) : Nat) + (((a 1 + a 3) : Nat) : Int) * ((b 0 + b 2) : Nat))) 1, lh (zz ((((a 0 + a 2) : Nat) : Int) * ((b 0 + b 2) : Nat) - (((a 1 + a 3) : Nat) : Int) * ((b 1 + b 3) : Nat)) ((((a 0 + a 2) : Nat) : Int) * ((b 1 + b 3) : Nat) + (((a 1 + a 3) : Nat) : Int) * ((b 0 + b 2) : Nat))) 2, lh (zz ((((a 0 + a 2) : Nat) : Int) * ((b 0 + b 2) : Nat) - (((a 1 + a 3) : Nat) : Int) * ((b 1 + b 3) : Nat)) ((((a 0 + a 2) : Nat) : Int) * ((b 1 + b 3) : Nat) + (((a 1 + a 3) : Nat) : Int) * ((b 0 + b 2) : Nat))) 3])) := by
 have h9 := nine_p
 have a0 := ha 0 (by decide)
 have b0 := hb 0 (by decide)
 have a1 := ha 1 (by decide)
 have b1 := hb 1 (by decide)
 have a2 := ha 2 (by decide)
 have b2 := hb 2 (by decide)
 have a3 := ha 3 (by decide)
 have b3 := hb 3 (by decide)
 exact cross_01 a b ga gb _ _ _ _ _ _ _ _ (fun w => together2_any _ _ _ _ (by omega) (by omega) w) (fun w => together2_any _ _ _ _ (by omega) (by omega) w) (fun w => times2_anyZ _ _ _ _ (by omega) (by omega) w) w hm
theorem cross_any02 (a b : Nat → Nat) (ha : ∀ j, j < 6 → a j < 2 * pB) (hb : ∀ j, j < 6 → b j < 2 * pB) (ga gb : Nat) (w : World) (hm : Mm w [(ga, cel [a 0, a 1, a 2, a 3, a 4, a 5]), (gb, cel [b 0, b 1, b 2, b 3, b 4, b 5])]) : Calls Tryd.prog 58 #[.int .i64 0, .int .i64 2, PT ga 0, PT gb 0] w (Rt w (V [lh (zz ((((a 0 + a 4) : Nat) : Int) * ((b 0 + b 4) : Nat) - (((a 1 + a 5) : Nat) : Int) * ((b 1 + b 5) : Nat)) ((((a 0 + a 4) : Nat) : Int) * ((b 1 + b 5) : Nat) + (((a 1 + a 5) : Nat) : Int) * ((b 0 + b 4) : Nat))) 0, lh (zz ((((a 0 + a 4) : Nat) : Int) * ((b 0 + b 4) : Nat) - (((a 1 + a 5) : Nat) : Int) * ((b 1 + b 5) : Nat)) ((((a 0 + a 4) : Nat) : Int) * ((b 1 + b 5) : Nat) + (((a 1 + a 5) : Nat) : Int) * ((b 0 + b 4) : Nat))) 1, lh (zz ((((a 0 + a 4) : Nat) : Int) * ((b 0 + b 4) : Nat) - (((a 1 + a 5) : Nat) : Int) * ((b 1 + b 5) : Nat)) ((((a 0 + a 4) : Nat) : Int) * ((b 1 + b 5) : Nat) + (((a 1 + a 5) : Nat) : Int) * ((b 0 + b 4) : Nat))) 2, lh (zz ((((a 0 + a 4) : Nat) : Int) * ((b 0 + b 4) : Nat) - (((a 1 + a 5) : Nat) : Int) * ((b 1 + b 5) : Nat)) ((((a 0 + a 4) : Nat) : Int) * ((b 1 + b 5) : Nat) + (((a 1 + a 5) : Nat) : Int) * ((b 0 + b 4) : Nat))) 3])) := by
 have h9 := nine_p
 have a0 := ha 0 (by decide)
 have b0 := hb 0 (by decide)
 have a1 := ha 1 (by decide)
 have b1 := hb 1 (by decide)
 have a4 := ha 4 (by decide)
 have b4 := hb 4 (by decide)
 have a5 := ha 5 (by decide)
 have b5 := hb 5 (by decide)
 exact cross_02 a b ga gb _ _ _ _ _ _ _ _ (fun w => together2_any _ _ _ _ (by omega) (by omega) w) (fun w => together2_any _ _ _ _ (by omega) (by omega) w) (fun w => times2_anyZ _ _ _ _ (by omega) (by omega) w) w hm
def t3z (a b : Nat → Int) : Nat → Int
 | 0 => m0 a b 0 0 + ((m0 a b 1 2 + m0 a b 2 1) - (m1 a b 1 2 + m1 a b 2 1))
 | 1 => m1 a b 0 0 + ((m0 a b 1 2 + m0 a b 2 1) + (m1 a b 1 2 + m1 a b 2 1))
 | 2 => m0 a b 0 1 + m0 a b 1 0 + ((m0 a b 2 2) - (m1 a b 2 2))
 | 3 => m1 a b 0 1 + m1 a b 1 0 + ((m0 a b 2 2) + (m1 a b 2 2))
 | 4 => m0 a b 0 2 + m0 a b 1 1 + m0 a b 2 0
 | 5 => m1 a b 0 2 + m1 a b 1 1 + m1 a b 2 0
 | _ => 0
theorem lh_list (x y z t : Nat → Int) (e : ∀ i, i < 2 → x i = t i ∧ y i = t (i + 2) ∧ z i = t (i + 4)) : [lh x 0, lh x 1, lh x 2, lh x 3, lh y 0, lh y 1, lh y 2, lh y 3, lh z 0, lh z 1, lh z 2, lh z 3] = [lh t 0, lh t 1, lh t 2, lh t 3, lh t 4, lh t 5, lh t 6, lh t 7, lh t 8, lh t 9, lh t 10, lh t 11] := by
 obtain ⟨e0, e2, e4⟩ := e 0 (by decide)
 obtain ⟨e1, e3, e5⟩ := e 1 (by decide)
 show [lo (x 0), hi (x 0), lo (x 1), hi (x 1), lo (y 0), hi (y 0), lo (y 1), hi (y 1), lo (z 0), hi (z 0), lo (z 1), hi (z 1)] = [lo (t 0), hi (t 0), lo (t 1), hi (t 1), lo (t 2), hi (t 2), lo (t 3), hi (t 3), lo (t 4), hi (t 4), lo (t 5), hi (t 5)]
 rw [e0, e1, e2, e3, e4, e5]
set_option maxHeartbeats 2000000 in
theorem times3_any (a b : Nat → Nat) (ha : ∀ j, j < 6 → a j < 2 * pB) (hb : ∀ j, j < 6 → b j < 2 * pB) (w : World) : Calls Tryd.prog 37 #[V [a 0, a 1, a 2, a 3, a 4, a 5], V [b 0, b 1, b 2, b 3, b 4, b 5]] w (Rt w (V [lh (t3z (zn a) (zn b)) 0, lh (t3z (zn a) (zn b)) 1, lh (t3z (zn a) (zn b)) 2, lh (t3z (zn a) (zn b)) 3, lh (t3z (zn a) (zn b)) 4, lh (t3z (zn a) (zn b)) 5, lh (t3z (zn a) (zn b)) 6, lh (t3z (zn a) (zn b)) 7, lh (t3z (zn a) (zn b)) 8, lh (t3z (zn a) (zn b)) 9, lh (t3z (zn a) (zn b)) 10, lh (t3z (zn a) (zn b)) 11])) := by
 have h9 := nine_p
 have a0 := ha 0 (by decide)
 have b0 := hb 0 (by decide)
 have a1 := ha 1 (by decide)
 have b1 := hb 1 (by decide)
 have a2 := ha 2 (by decide)
 have b2 := hb 2 (by decide)
 have a3 := ha 3 (by decide)
 have b3 := hb 3 (by decide)
 have a4 := ha 4 (by decide)
 have b4 := hb 4 (by decide)
 have a5 := ha 5 (by decide)
 have b5 := hb 5 (by decide)
 have h := times3_gen a b (lh (zz ((a 0 : Int) * b 0 - (a 1 : Int) * b 1) ((a 0 : Int) * b 1 + (a 1 : Int) * b 0))) (lh (zz ((a 2 : Int) * b 2 - (a 3 : Int) * b 3) ((a 2 : Int) * b 3 + (a 3 : Int) * b 2))) (lh (zz ((a 4 : Int) * b 4 - (a 5 : Int) * b 5) ((a 4 : Int) * b 5 + (a 5 : Int) * b 4))) (lh (zz ((((a 2 + a 4) : Nat) : Int) * ((b 2 + b 4) : Nat) - (((a 3 + a 5) : Nat) : Int) * ((b 3 + b 5) : Nat)) ((((a 2 + a 4) : Nat) : Int) * ((b 3 + b 5) : Nat) + (((a 3 + a 5) : Nat) : Int) * ((b 2 + b 4) : Nat)))) (lh (zz ((((a 0 + a 2) : Nat) : Int) * ((b 0 + b 2) : Nat) - (((a 1 + a 3) : Nat) : Int) * ((b 1 + b 3) : Nat)) ((((a 0 + a 2) : Nat) : Int) * ((b 1 + b 3) : Nat) + (((a 1 + a 3) : Nat) : Int) * ((b 0 + b 2) : Nat)))) (lh (zz ((((a 0 + a 4) : Nat) : Int) * ((b 0 + b 4) : Nat) - (((a 1 + a 5) : Nat) : Int) * ((b 1 + b 5) : Nat)) ((((a 0 + a 4) : Nat) : Int) * ((b 1 + b 5) : Nat) + (((a 1 + a 5) : Nat) : Int) * ((b 0 + b 4) : Nat)))) (lh (fun i => (zz ((((a 2 + a 4) : Nat) : Int) * ((b 2 + b 4) : Nat) - (((a 3 + a 5) : Nat) : Int) * ((b 3 + b 5) : Nat)) ((((a 2 + a 4) : Nat) : Int) * ((b 3 + b 5) : Nat) + (((a 3 + a 5) : Nat) : Int) * ((b 2 + b 4) : Nat))) i - (zz ((a 2 : Int) * b 2 - (a 3 : Int) * b 3) ((a 2 : Int) * b 3 + (a 3 : Int) * b 2)) i)) (lh (fun i => (fun i => (zz ((((a 2 + a 4) : Nat) : Int) * ((b 2 + b 4) : Nat) - (((a 3 + a 5) : Nat) : Int) * ((b 3 + b 5) : Nat)) ((((a 2 + a 4) : Nat) : Int) * ((b 3 + b 5) : Nat) + (((a 3 + a 5) : Nat) : Int) * ((b 2 + b 4) : Nat))) i - (zz ((a 2 : Int) * b 2 - (a 3 : Int) * b 3) ((a 2 : Int) * b 3 + (a 3 : Int) * b 2)) i) i - (zz ((a 4 : Int) * b 4 - (a 5 : Int) * b 5) ((a 4 : Int) * b 5 + (a 5 : Int) * b 4)) i)) (lh (rsd (fun i => (fun i => (zz ((((a 2 + a 4) : Nat) : Int) * ((b 2 + b 4) : Nat) - (((a 3 + a 5) : Nat) : Int) * ((b 3 + b 5) : Nat)) ((((a 2 + a 4) : Nat) : Int) * ((b 3 + b 5) : Nat) + (((a 3 + a 5) : Nat) : Int) * ((b 2 + b 4) : Nat))) i - (zz ((a 2 : Int) * b 2 - (a 3 : Int) * b 3) ((a 2 : Int) * b 3 + (a 3 : Int) * b 2)) i) i - (zz ((a 4 : Int) * b 4 - (a 5 : Int) * b 5) ((a 4 : Int) * b 5 + (a 5 : Int) * b 4)) i))) (lh (fun i => (zz ((a 0 : Int) * b 0 - (a 1 : Int) * b 1) ((a 0 : Int) * b 1 + (a 1 : Int) * b 0)) i + (rsd (fun i => (fun i => (zz ((((a 2 + a 4) : Nat) : Int) * ((b 2 + b 4) : Nat) - (((a 3 + a 5) : Nat) : Int) * ((b 3 + b 5) : Nat)) ((((a 2 + a 4) : Nat) : Int) * ((b 3 + b 5) : Nat) + (((a 3 + a 5) : Nat) : Int) * ((b 2 + b 4) : Nat))) i - (zz ((a 2 : Int) * b 2 - (a 3 : Int) * b 3) ((a 2 : Int) * b 3 + (a 3 : Int) * b 2)) i) i - (zz ((a 4 : Int) * b 4 - (a 5 : Int) * b 5) ((a 4 : Int) * b 5 + (a 5 : Int) * b 4)) i)) i)) (lh (fun i => (zz ((((a 0 + a 2) : Nat) : Int) * ((b 0 + b 2) : Nat) - (((a 1 + a 3) : Nat) : Int) * ((b 1 + b 3) : Nat)) ((((a 0 + a 2) : Nat) : Int) * ((b 1 + b 3) : Nat) + (((a 1 + a 3) : Nat) : Int) * ((b 0 + b 2) : Nat))) i - (zz ((a 0 : Int) * b 0 - (a 1 : Int) * b 1) ((a 0 : Int) * b 1 + (a 1 : Int) * b 0)) i)) (lh (fun i => (fun i => (zz ((((a 0 + a 2) : Nat) : Int) * ((b 0 + b 2) : Nat) - (((a 1 + a 3) : Nat) : Int) * ((b 1 + b 3) : Nat)) ((((a 0 + a 2) : Nat) : Int) * ((b 1 + b 3) : Nat) + (((a 1 + a 3) : Nat) : Int) * ((b 0 + b 2) : Nat))) i - (zz ((a 0 : Int) * b 0 - (a 1 : Int) * b 1) ((a 0 : Int) * b 1 + (a 1 : Int) * b 0)) i) i - (zz ((a 2 : Int) * b 2 - (a 3 : Int) * b 3) ((a 2 : Int) * b 3 + (a 3 : Int) * b 2)) i)) (lh (rsd (zz ((a 4 : Int) * b 4 - (a 5 : Int) * b 5) ((a 4 : Int) * b 5 + (a 5 : Int) * b 4)))) (lh (fun i => (fun i => (fun i => (zz ((((a 0 + a 2) : Nat) : Int) * ((b 0 + b 2) : Nat) - (((a 1 + a 3) : Nat) : Int) * ((b 1 + b 3) : Nat)) ((((a 0 + a 2) : Nat) : Int) * ((b 1 + b 3) : Nat) + (((a 1 + a 3) : Nat) : Int) * ((b 0 + b 2) : Nat))) i - (zz ((a 0 : Int) * b 0 - (a 1 : Int) * b 1) ((a 0 : Int) * b 1 + (a 1 : Int) * b 0)) i) i - (zz ((a 2 : Int) * b 2 - (a 3 : Int) * b 3) ((a 2 : Int) * b 3 + (a 3 : Int) * b 2)) i) i + (rsd (zz ((a 4 : Int) * b 4 - (a 5 : Int) * b 5) ((a 4 : Int) * b 5 + (a 5 : Int) * b 4))) i)) (lh (fun i => (zz ((((a 0 + a 4) : Nat) : Int) * ((b 0 + b 4) : Nat) - (((a 1 + a 5) : Nat) : Int) * ((b 1 + b 5) : Nat)) ((((a 0 + a 4) : Nat) : Int) * ((b 1 + b 5) : Nat) + (((a 1 + a 5) : Nat) : Int) * ((b 0 + b 4) : Nat))) i - (zz ((a 0 : Int) * b 0 - (a 1 : Int) * b 1) ((a 0 : Int) * b 1 + (a 1 : Int) * b 0)) i)) (lh (fun i => (fun i => (zz ((((a 0 + a 4) : Nat) : Int) * ((b 0 + b 4) : Nat) - (((a 1 + a 5) : Nat) : Int) * ((b 1 + b 5) : Nat)) ((((a 0 + a 4) : Nat) : Int) * ((b 1 + b 5) : Nat) + (((a 1 + a 5) : Nat) : Int) * ((b 0 + b 4) : Nat))) i - (zz ((a 0 : Int) * b 0 - (a 1 : Int) * b 1) ((a 0 : Int) * b 1 + (a 1 : Int) * b 0)) i) i - (zz ((a 4 : Int) * b 4 - (a 5 : Int) * b 5) ((a 4 : Int) * b 5 + (a 5 : Int) * b 4)) i)) (lh (fun i => (fun i => (fun i => (zz ((((a 0 + a 4) : Nat) : Int) * ((b 0 + b 4) : Nat) - (((a 1 + a 5) : Nat) : Int) * ((b 1 + b 5) : Nat)) ((((a 0 + a 4) : Nat) : Int) * ((b 1 + b 5) : Nat) + (((a 1 + a 5) : Nat) : Int) * ((b 0 + b 4) : Nat))) i - (zz ((a 0 : Int) * b 0 - (a 1 : Int) * b 1) ((a 0 : Int) * b 1 + (a 1 : Int) * b 0)) i) i - (zz ((a 4 : Int) * b 4 - (a 5 : Int) * b 5) ((a 4 : Int) * b 5 + (a 5 : Int) * b 4)) i) i + (zz ((a 2 : Int) * b 2 - (a 3 : Int) * b 3) ((a 2 : Int) * b 3 + (a 3 : Int) * b 2)) i)) (fun w => times2_anyZ _ _ _ _ (by omega) (by omega) w) (fun w => times2_anyZ _ _ _ _ (by omega) (by omega) w) (fun w => times2_anyZ _ _ _ _ (by omega) (by omega) w)
  (fun ga gb w hm => cross_any12 a b ha hb ga gb w hm) (fun ga gb w hm => cross_any01 a b ha hb ga gb w hm) (fun ga gb w hm => cross_any02 a b ha hb ga gb w hm)
  (fun w => less2_any _ _ w) (fun w => less2_any _ _ w) (fun w => raised_any _ w) (fun w => plus2_any _ _ w) (fun w => less2_any _ _ w) (fun w => less2_any _ _ w) (fun w => raised_any _ w) (fun w => plus2_any _ _ w) (fun w => less2_any _ _ w) (fun w => less2_any _ _ w) (fun w => plus2_any _ _ w) w
 have e : ∀ i, i < 2 → (fun i => (zz ((a 0 : Int) * b 0 - (a 1 : Int) * b 1) ((a 0 : Int) * b 1 + (a 1 : Int) * b 0)) i + (rsd (fun i => (fun i => (zz ((((a 2 + a 4) : Nat) : Int) * ((b 2 + b 4) : Nat) - (((a 3 + a 5) : Nat) : Int) * ((b 3 + b 5) : Nat)) ((((a 2 + a 4) : Nat) : Int) * ((b 3 + b 5) : Nat) + (((a 3 + a 5) : Nat) : Int) * ((b 2 + b 4) : Nat))) i - (zz ((a 2 : Int) * b 2 - (a 3 : Int) * b 3) ((a 2 : Int) * b 3 + (a 3 : Int) * b 2)) i) i - (zz ((a 4 : Int) * b 4 - (a 5 : Int) * b 5) ((a 4 : Int) * b 5 + (a 5 : Int) * b 4)) i)) i) i = t3z (zn a) (zn b) i ∧ (fun i => (fun i => (fun i => (zz ((((a 0 + a 2) : Nat) : Int) * ((b 0 + b 2) : Nat) - (((a 1 + a 3) : Nat) : Int) * ((b 1 + b 3) : Nat)) ((((a 0 + a 2) : Nat) : Int) * ((b 1 + b 3) : Nat) + (((a 1 + a 3) : Nat) : Int) * ((b 0 + b 2) : Nat))) i - (zz ((a 0 : Int) * b 0 - (a 1 : Int) * b 1) ((a 0 : Int) * b 1 + (a 1 : Int) * b 0)) i) i - (zz ((a 2 : Int) * b 2 - (a 3 : Int) * b 3) ((a 2 : Int) * b 3 + (a 3 : Int) * b 2)) i) i + (rsd (zz ((a 4 : Int) * b 4 - (a 5 : Int) * b 5) ((a 4 : Int) * b 5 + (a 5 : Int) * b 4))) i) i = t3z (zn a) (zn b) (i + 2) ∧ (fun i => (fun i => (fun i => (zz ((((a 0 + a 4) : Nat) : Int) * ((b 0 + b 4) : Nat) - (((a 1 + a 5) : Nat) : Int) * ((b 1 + b 5) : Nat)) ((((a 0 + a 4) : Nat) : Int) * ((b 1 + b 5) : Nat) + (((a 1 + a 5) : Nat) : Int) * ((b 0 + b 4) : Nat))) i - (zz ((a 0 : Int) * b 0 - (a 1 : Int) * b 1) ((a 0 : Int) * b 1 + (a 1 : Int) * b 0)) i) i - (zz ((a 4 : Int) * b 4 - (a 5 : Int) * b 5) ((a 4 : Int) * b 5 + (a 5 : Int) * b 4)) i) i + (zz ((a 2 : Int) * b 2 - (a 3 : Int) * b 3) ((a 2 : Int) * b 3 + (a 3 : Int) * b 2)) i) i = t3z (zn a) (zn b) (i + 4) := fun i hi => by
  match i, hi with
  | 0, _ =>
   simp only [zz, rsd, t3z, zn, m0, m1, Nat.reduceMul, Nat.reduceAdd, Int.natCast_add]
   refine ⟨?_, ?_, ?_⟩ <;> grind
  | 1, _ =>
   simp only [zz, rsd, t3z, zn, m0, m1, Nat.reduceMul, Nat.reduceAdd, Int.natCast_add]
   refine ⟨?_, ?_, ?_⟩ <;> grind
 rw [lh_list _ _ _ _ e] at h
 exact h
/-! Within what rest takes. -/
theorem wi_two {x y u v : Int} {p : Int} (hx : 0 ≤ x ∧ x ≤ p) (hy : 0 ≤ y ∧ y ≤ p) (hu : 0 ≤ u ∧ u ≤ p) (hv : 0 ≤ v ∧ v ≤ p) :
  (-(p * p) ≤ x * u - y * v ∧ x * u - y * v ≤ p * p) ∧ (0 ≤ x * v + y * u ∧ x * v + y * u ≤ 2 * (p * p)) ∧ (-(2 * (p * p)) ≤ x * u - y * v - (x * v + y * u) ∧ x * u - y * v - (x * v + y * u) ≤ p * p) ∧ (-(p * p) ≤ x * u - y * v + (x * v + y * u) ∧ x * u - y * v + (x * v + y * u) ≤ 2 * (p * p)) := by
 have pr : ∀ {s t : Int}, (0 ≤ s ∧ s ≤ p) → (0 ≤ t ∧ t ≤ p) → 0 ≤ s * t ∧ 0 ≤ (p - s) * t ∧ 0 ≤ s * (p - t) ∧ 0 ≤ (p - s) * (p - t) := fun hs ht => ⟨Int.mul_nonneg hs.1 ht.1, Int.mul_nonneg (by omega) ht.1, Int.mul_nonneg hs.1 (by omega), Int.mul_nonneg (by omega) (by omega)⟩
 have xu := pr hx hu
 have yv := pr hy hv
 have xv := pr hx hv
 have yu := pr hy hu
 simp only [Int.sub_mul, Int.mul_sub] at xu yv xv yu
 have c : ∀ s t : Int, p * t = t * p := fun s t => Int.mul_comm _ _
 rw [Int.mul_comm p u, Int.mul_comm p v] at *
 omega
theorem wi12 (a b : Nat → Int) (ha : ∀ j, 0 ≤ a j ∧ a j ≤ (pB : Int)) (hb : ∀ j, 0 ≤ b j ∧ b j ≤ (pB : Int)) : ∀ j, j < 12 → Wi (mul12 a b j) := by
 have hw : ∀ i j, (-((pB : Int) * pB) ≤ m0 a b i j ∧ m0 a b i j ≤ (pB : Int) * pB) ∧ (0 ≤ m1 a b i j ∧ m1 a b i j ≤ 2 * ((pB : Int) * pB)) ∧ (-(2 * ((pB : Int) * pB)) ≤ m0 a b i j - m1 a b i j ∧ m0 a b i j - m1 a b i j ≤ (pB : Int) * pB) ∧ (-((pB : Int) * pB) ≤ m0 a b i j + m1 a b i j ∧ m0 a b i j + m1 a b i j ≤ 2 * ((pB : Int) * pB)) := fun i j => wi_two (ha _) (ha _) (hb _) (hb _)
 have hp : 0 ≤ (pB : Int) * pB := Int.mul_nonneg (Int.natCast_nonneg _) (Int.natCast_nonneg _)
 intro j hj
 unfold Wi
 match j, hj with
 | 0, _ =>
  simp only [mul12]
  have := hw 0 0
  have := hw 1 5
  have := hw 2 4
  have := hw 3 3
  have := hw 4 2
  have := hw 5 1
  omega
 | 1, _ =>
  simp only [mul12]
  have := hw 0 0
  have := hw 1 5
  have := hw 2 4
  have := hw 3 3
  have := hw 4 2
  have := hw 5 1
  omega
 | 2, _ =>
  simp only [mul12]
  have := hw 0 1
  have := hw 1 0
  have := hw 2 5
  have := hw 3 4
  have := hw 4 3
  have := hw 5 2
  omega
 | 3, _ =>
  simp only [mul12]
  have := hw 0 1
  have := hw 1 0
  have := hw 2 5
  have := hw 3 4
  have := hw 4 3
  have := hw 5 2
  omega
 | 4, _ =>
  simp only [mul12]
  have := hw 0 2
  have := hw 1 1
  have := hw 2 0
  have := hw 3 5
  have := hw 4 4
  have := hw 5 3
  omega
 | 5, _ =>
  simp only [mul12]
  have := hw 0 2
  have := hw 1 1
  have := hw 2 0
  have := hw 3 5
  have := hw 4 4
  have := hw 5 3
  omega
 | 6, _ =>
  simp only [mul12]
  have := hw 0 3
  have := hw 1 2
  have := hw 2 1
  have := hw 3 0
  have := hw 4 5
  have := hw 5 4
  omega
 | 7, _ =>
  simp only [mul12]
  have := hw 0 3
  have := hw 1 2
  have := hw 2 1
  have := hw 3 0
  have := hw 4 5
  have := hw 5 4
  omega
 | 8, _ =>
  simp only [mul12]
  have := hw 0 4
  have := hw 1 3
  have := hw 2 2
  have := hw 3 1
  have := hw 4 0
  have := hw 5 5
  omega
 | 9, _ =>
  simp only [mul12]
  have := hw 0 4
  have := hw 1 3
  have := hw 2 2
  have := hw 3 1
  have := hw 4 0
  have := hw 5 5
  omega
 | 10, _ =>
  simp only [mul12]
  have := hw 0 5
  have := hw 1 4
  have := hw 2 3
  have := hw 3 2
  have := hw 4 1
  have := hw 5 0
  omega
 | 11, _ =>
  simp only [mul12]
  have := hw 0 5
  have := hw 1 4
  have := hw 2 3
  have := hw 3 2
  have := hw 4 1
  have := hw 5 0
  omega
def ei : Nat → Nat
 | 0 => 0
 | 1 => 1
 | 2 => 4
 | 3 => 5
 | 4 => 8
 | _ => 9
def oi : Nat → Nat
 | 0 => 2
 | 1 => 3
 | 2 => 6
 | 3 => 7
 | 4 => 10
 | _ => 11
def pup (o : Nat → Int) : Nat → Int
 | 0 => o 4 - o 5
 | 1 => o 4 + o 5
 | 2 => o 0
 | 3 => o 1
 | 4 => o 2
 | 5 => o 3
 | _ => 0
def rw12 (x z : Nat → Int) : Nat → Int
 | 0 => x 0
 | 1 => x 1
 | 2 => z 0
 | 3 => z 1
 | 4 => x 2
 | 5 => x 3
 | 6 => z 2
 | 7 => z 3
 | 8 => x 4
 | 9 => x 5
 | 10 => z 4
 | 11 => z 5
 | _ => 0
theorem rest2F_any {g : Nat} (x y : Int) (hx : Wi x) (hy : Wi y) (w : World) (hm : Mm w [(g, modc pB)]) : Calls Tryd.prog 40 #[.agg #[PT g 0], V [lo x, hi x, lo y, hi y]] w (Rt w (V [pz x, pz y])) :=
 rest2_gen g pB (big % pB) (big * big % pB) _ _ _ _ _ _ (fun w hm => restF_any (g := g) x hx w hm) (fun w hm => restF_any (g := g) y hy w hm) w hm
def xE (a b : Nat → Nat) : Nat → Int := fun i => (t3z (zn (fun j => a (ei j))) (zn (fun j => b (ei j)))) i + pup (t3z (zn (fun j => a (oi j))) (zn (fun j => b (oi j)))) i
def zO (a b : Nat → Nat) : Nat → Int := fun i => (t3z (zn (fun j => a (ei j) + a (oi j))) (zn (fun j => b (ei j) + b (oi j)))) i - (t3z (zn (fun j => a (ei j))) (zn (fun j => b (ei j)))) i - (t3z (zn (fun j => a (oi j))) (zn (fun j => b (oi j)))) i
theorem prod_0 (a b : Nat → Nat) : xE a b 0 = mul12 (zn a) (zn b) 0 := by
 simp only [xE, pup, mul12, t3z, m0, m1, zn, ei, oi, Nat.reduceMul, Nat.reduceAdd]
 grind
theorem prod_1 (a b : Nat → Nat) : xE a b 1 = mul12 (zn a) (zn b) 1 := by
 simp only [xE, pup, mul12, t3z, m0, m1, zn, ei, oi, Nat.reduceMul, Nat.reduceAdd]
 grind
theorem prod_2 (a b : Nat → Nat) : zO a b 0 = mul12 (zn a) (zn b) 2 := by
 simp only [zO, mul12, t3z, m0, m1, zn, ei, oi, Nat.reduceMul, Nat.reduceAdd, Int.natCast_add]
 grind
theorem prod_3 (a b : Nat → Nat) : zO a b 1 = mul12 (zn a) (zn b) 3 := by
 simp only [zO, mul12, t3z, m0, m1, zn, ei, oi, Nat.reduceMul, Nat.reduceAdd, Int.natCast_add]
 grind
theorem prod_4 (a b : Nat → Nat) : xE a b 2 = mul12 (zn a) (zn b) 4 := by
 simp only [xE, pup, mul12, t3z, m0, m1, zn, ei, oi, Nat.reduceMul, Nat.reduceAdd]
 grind
theorem prod_5 (a b : Nat → Nat) : xE a b 3 = mul12 (zn a) (zn b) 5 := by
 simp only [xE, pup, mul12, t3z, m0, m1, zn, ei, oi, Nat.reduceMul, Nat.reduceAdd]
 grind
theorem prod_6 (a b : Nat → Nat) : zO a b 2 = mul12 (zn a) (zn b) 6 := by
 simp only [zO, mul12, t3z, m0, m1, zn, ei, oi, Nat.reduceMul, Nat.reduceAdd, Int.natCast_add]
 grind
theorem prod_7 (a b : Nat → Nat) : zO a b 3 = mul12 (zn a) (zn b) 7 := by
 simp only [zO, mul12, t3z, m0, m1, zn, ei, oi, Nat.reduceMul, Nat.reduceAdd, Int.natCast_add]
 grind
theorem prod_8 (a b : Nat → Nat) : xE a b 4 = mul12 (zn a) (zn b) 8 := by
 simp only [xE, pup, mul12, t3z, m0, m1, zn, ei, oi, Nat.reduceMul, Nat.reduceAdd]
 grind
theorem prod_9 (a b : Nat → Nat) : xE a b 5 = mul12 (zn a) (zn b) 9 := by
 simp only [xE, pup, mul12, t3z, m0, m1, zn, ei, oi, Nat.reduceMul, Nat.reduceAdd]
 grind
theorem prod_10 (a b : Nat → Nat) : zO a b 4 = mul12 (zn a) (zn b) 10 := by
 simp only [zO, mul12, t3z, m0, zn, ei, oi, Nat.reduceMul, Nat.reduceAdd, Int.natCast_add]
 grind
theorem prod_11 (a b : Nat → Nat) : zO a b 5 = mul12 (zn a) (zn b) 11 := by
 simp only [zO, mul12, t3z, m1, zn, ei, oi, Nat.reduceMul, Nat.reduceAdd, Int.natCast_add]
 grind
set_option maxHeartbeats 2000000 in
theorem mulN_any {g : Nat} (a b : Nat → Nat) (ha : ∀ j, a j < pB) (hb : ∀ j, b j < pB) (w : World) (hm : Mm w [(g, modc pB)]) : Calls Tryd.prog 23 #[.agg #[PT g 0], V (tl a), V (tl b)] w (Rt w (V (lz (mul12 (zn a) (zn b))))) := by
 have h9 := nine_p
 have la : ∀ j, 0 ≤ zn a j ∧ zn a j ≤ (pB : Int) := fun j => by have := ha j; unfold zn; omega
 have lb : ∀ j, 0 ≤ zn b j ∧ zn b j ≤ (pB : Int) := fun j => by have := hb j; unfold zn; omega
 have hw := wi12 (zn a) (zn b) la lb
 have wx : ∀ i, i < 6 → Wi (xE a b i) ∧ Wi (zO a b i) := fun i hi => by
  match i, hi with
  | 0, _ => exact ⟨by rw [prod_0]; exact hw _ (by decide), by rw [prod_2]; exact hw _ (by decide)⟩
  | 1, _ => exact ⟨by rw [prod_1]; exact hw _ (by decide), by rw [prod_3]; exact hw _ (by decide)⟩
  | 2, _ => exact ⟨by rw [prod_4]; exact hw _ (by decide), by rw [prod_6]; exact hw _ (by decide)⟩
  | 3, _ => exact ⟨by rw [prod_5]; exact hw _ (by decide), by rw [prod_7]; exact hw _ (by decide)⟩
  | 4, _ => exact ⟨by rw [prod_8]; exact hw _ (by decide), by rw [prod_10]; exact hw _ (by decide)⟩
  | 5, _ => exact ⟨by rw [prod_9]; exact hw _ (by decide), by rw [prod_11]; exact hw _ (by decide)⟩
 have h := mulF12_gen a b (lh (t3z (zn (fun j => a (ei j))) (zn (fun j => b (ei j))))) (lh (t3z (zn (fun j => a (oi j))) (zn (fun j => b (oi j))))) (fun j => a (ei j) + a (oi j)) (fun j => b (ei j) + b (oi j)) (lh (t3z (zn (fun j => a (ei j) + a (oi j))) (zn (fun j => b (ei j) + b (oi j))))) (lh (rsd (fun i => (t3z (zn (fun j => a (oi j))) (zn (fun j => b (oi j)))) (i + 4)))) (lh (pup (t3z (zn (fun j => a (oi j))) (zn (fun j => b (oi j)))))) (lh (xE a b)) (lh (fun i => (t3z (zn (fun j => a (ei j) + a (oi j))) (zn (fun j => b (ei j) + b (oi j)))) i - (t3z (zn (fun j => a (ei j))) (zn (fun j => b (ei j)))) i)) (lh (zO a b)) (fun j => pz (rw12 (xE a b) (zO a b) j)) g pB (big % pB) (big * big % pB)
  (fun w => times3_any (fun j => a (ei j)) (fun j => b (ei j)) (fun j _ => by have := ha (ei j); omega) (fun j _ => by have := hb (ei j); omega) w)
  (fun w => times3_any (fun j => a (oi j)) (fun j => b (oi j)) (fun j _ => by have := ha (oi j); omega) (fun j _ => by have := hb (oi j); omega) w)
  (fun w => three_any (fun j => a (ei j)) (fun j => a (oi j)) (fun j _ => by have := ha (ei j); have := ha (oi j); omega) w)
  (fun w => three_any (fun j => b (ei j)) (fun j => b (oi j)) (fun j _ => by have := hb (ei j); have := hb (oi j); omega) w)
  (fun w => times3_any (fun j => a (ei j) + a (oi j)) (fun j => b (ei j) + b (oi j)) (fun j _ => by have := ha (ei j); have := ha (oi j); omega) (fun j _ => by have := hb (ei j); have := hb (oi j); omega) w)
  (fun w => raised_any (fun i => (t3z (zn (fun j => a (oi j))) (zn (fun j => b (oi j)))) (i + 4)) w) rfl
  (fun k hk w => by
   match k, hk with
   | 0, _ => exact plus2_any (fun i => (t3z (zn (fun j => a (ei j))) (zn (fun j => b (ei j)))) (i + 0)) (fun i => pup (t3z (zn (fun j => a (oi j))) (zn (fun j => b (oi j)))) (i + 0)) w
   | 1, _ => exact plus2_any (fun i => (t3z (zn (fun j => a (ei j))) (zn (fun j => b (ei j)))) (i + 2)) (fun i => pup (t3z (zn (fun j => a (oi j))) (zn (fun j => b (oi j)))) (i + 2)) w
   | 2, _ => exact plus2_any (fun i => (t3z (zn (fun j => a (ei j))) (zn (fun j => b (ei j)))) (i + 4)) (fun i => pup (t3z (zn (fun j => a (oi j))) (zn (fun j => b (oi j)))) (i + 4)) w
  )
  (fun k hk w hm => by
   match k, hk with
   | 0, _ => exact rest2F_any _ _ (wx 0 (by decide)).1 (wx 1 (by decide)).1 w hm
   | 1, _ => exact rest2F_any _ _ (wx 2 (by decide)).1 (wx 3 (by decide)).1 w hm
   | 2, _ => exact rest2F_any _ _ (wx 4 (by decide)).1 (wx 5 (by decide)).1 w hm
  )
  (fun k hk w => by
   match k, hk with
   | 0, _ => exact less2_any (fun i => (t3z (zn (fun j => a (ei j) + a (oi j))) (zn (fun j => b (ei j) + b (oi j)))) (i + 0)) (fun i => (t3z (zn (fun j => a (ei j))) (zn (fun j => b (ei j)))) (i + 0)) w
   | 1, _ => exact less2_any (fun i => (t3z (zn (fun j => a (ei j) + a (oi j))) (zn (fun j => b (ei j) + b (oi j)))) (i + 2)) (fun i => (t3z (zn (fun j => a (ei j))) (zn (fun j => b (ei j)))) (i + 2)) w
   | 2, _ => exact less2_any (fun i => (t3z (zn (fun j => a (ei j) + a (oi j))) (zn (fun j => b (ei j) + b (oi j)))) (i + 4)) (fun i => (t3z (zn (fun j => a (ei j))) (zn (fun j => b (ei j)))) (i + 4)) w
  )
  (fun k hk w => by
   match k, hk with
   | 0, _ => exact less2_any (fun i => (t3z (zn (fun j => a (ei j) + a (oi j))) (zn (fun j => b (ei j) + b (oi j)))) (i + 0) - (t3z (zn (fun j => a (ei j))) (zn (fun j => b (ei j)))) (i + 0)) (fun i => (t3z (zn (fun j => a (oi j))) (zn (fun j => b (oi j)))) (i + 0)) w
   | 1, _ => exact less2_any (fun i => (t3z (zn (fun j => a (ei j) + a (oi j))) (zn (fun j => b (ei j) + b (oi j)))) (i + 2) - (t3z (zn (fun j => a (ei j))) (zn (fun j => b (ei j)))) (i + 2)) (fun i => (t3z (zn (fun j => a (oi j))) (zn (fun j => b (oi j)))) (i + 2)) w
   | 2, _ => exact less2_any (fun i => (t3z (zn (fun j => a (ei j) + a (oi j))) (zn (fun j => b (ei j) + b (oi j)))) (i + 4) - (t3z (zn (fun j => a (ei j))) (zn (fun j => b (ei j)))) (i + 4)) (fun i => (t3z (zn (fun j => a (oi j))) (zn (fun j => b (oi j)))) (i + 4)) w
  )
  (fun k hk w hm => by
   match k, hk with
   | 0, _ => exact rest2F_any _ _ (wx 0 (by decide)).2 (wx 1 (by decide)).2 w hm
   | 1, _ => exact rest2F_any _ _ (wx 2 (by decide)).2 (wx 3 (by decide)).2 w hm
   | 2, _ => exact rest2F_any _ _ (wx 4 (by decide)).2 (wx 5 (by decide)).2 w hm
  )
  w hm
 have e : [pz (rw12 (xE a b) (zO a b) 0), pz (rw12 (xE a b) (zO a b) 1), pz (rw12 (xE a b) (zO a b) 2), pz (rw12 (xE a b) (zO a b) 3), pz (rw12 (xE a b) (zO a b) 4), pz (rw12 (xE a b) (zO a b) 5), pz (rw12 (xE a b) (zO a b) 6), pz (rw12 (xE a b) (zO a b) 7), pz (rw12 (xE a b) (zO a b) 8), pz (rw12 (xE a b) (zO a b) 9), pz (rw12 (xE a b) (zO a b) 10), pz (rw12 (xE a b) (zO a b) 11)] = lz (mul12 (zn a) (zn b)) := by
  simp only [rw12, lz, prod_0, prod_1, prod_2, prod_3, prod_4, prod_5, prod_6, prod_7, prod_8, prod_9, prod_10, prod_11]
 rw [e] at h
 exact h
end Rg
end Go.Proofs.YtgdlhgbdigpfhabDoor
end
section
namespace Go.Proofs.YtgdlhgbdigpfhabDoor
open Go.RowKit
namespace Rg
open NT
/-! What p divides. -/
def Dv (x : Int) : Prop := (pB : Int) ∣ x
theorem pz_iff (x y : Int) : pz x = pz y ↔ Dv (x - y) := by
 have hx := pz_cast x
 have hy := pz_cast y
 constructor
 ·intro h
  exact Int.dvd_of_emod_eq_zero (Int.emod_eq_emod_iff_emod_sub_eq_zero.1 (by rw [← hx, ← hy, h]))
 ·intro h
  exact pz_congr (Int.emod_eq_emod_iff_emod_sub_eq_zero.2 (Int.emod_eq_zero_of_dvd h))
theorem pz_zero_iff (x : Int) : pz x = 0 ↔ Dv x := by
 rw [← pz_zero, pz_iff, Int.sub_zero]
theorem Dv.add {x y : Int} (h : Dv x) (k : Dv y) : Dv (x + y) := Int.dvd_add h k
theorem Dv.sub {x y : Int} (h : Dv x) (k : Dv y) : Dv (x - y) := Int.dvd_sub h k
theorem Dv.mul {x : Int} (h : Dv x) (y : Int) : Dv (y * x) := Int.dvd_trans h (Int.dvd_mul_left y x)
theorem Dv.mulr {x : Int} (h : Dv x) (y : Int) : Dv (x * y) := Int.dvd_trans h (Int.dvd_mul_right x y)
theorem Dv.of {x y : Int} (h : Dv x) (e : x = y) : Dv y := e ▸ h
theorem dv_zero : Dv 0 := Int.dvd_zero _
theorem pB_prm : Prm pB := prm_p
theorem dv_nat (x : Int) : Dv x ↔ pB ∣ x.natAbs := Int.ofNat_dvd_left
theorem Dv.prime {x y : Int} (h : Dv (x * y)) : Dv x ∨ Dv y := by
 rw [dv_nat, Int.natAbs_mul] at h
 rw [dv_nat, dv_nat]
 exact pB_prm.mul h
theorem dv_pz (x : Int) : Dv ((pz x : Int) - x) := by
 rw [pz_cast, Int.emod_def]
 exact ⟨-(x / (pB : Int)), by rw [Int.mul_neg]; omega⟩
/-- A number for an integer, with the power that leaves 1. -/
theorem unit_pow {x : Int} (h : ¬ Dv x) : pz x ^ (pB - 1) % pB = 1 :=
 fermat1 pB_prm (pz x) (fun hd => h (by
  rw [← pz_zero_iff]
  obtain ⟨k, hk⟩ := hd
  have := pz_lt x
  rcases Nat.eq_zero_or_pos k with h0 | h0
  ·rw [hk, h0, Nat.mul_zero]
  ·have := Nat.mul_le_mul (Nat.le_refl pB) h0
   omega))
theorem pow_dv {x : Int} (h : Dv x) : ∀ n, 0 < n → pz x ^ n % pB = 0 := fun n hn => by
 rw [(pz_zero_iff x).2 h, Nat.zero_pow hn, Nat.zero_mod]
def eP : Nat := 1000602388805416848354447456433976039139220704984751971333014534031007912622709466110671907282253916009473568139946
theorem pB_four : pB - 1 = 2 * (2 * eP + 1) := by decide +kernel
theorem pz_mod (x y : Int) (h : Dv (x - y)) : pz x = pz y := (pz_iff x y).2 h
theorem pz_mulN (x y : Int) : pz (x * y) = pz x * pz y % pB := by
 rw [← pz_mul, ← Int.natCast_mul, pz_nat]
theorem pz_addN (x y : Int) : pz (x + y) = (pz x + pz y) % pB := by
 rw [← pz_add, ← Int.natCast_add, pz_nat]
/-- No sum of two squares is left without a rest. -/
theorem norm0 {x y : Int} (h : Dv (x * x + y * y)) : Dv x ∧ Dv y := by
 have hp := pB_prm
 by_cases hx : Dv x
 ·refine ⟨hx, ?_⟩
  have h2 : Dv (y * y) := (h.sub (hx.mul x)).of (by omega)
  rcases h2.prime with h3 | h3 <;> exact h3
 ·by_cases hy : Dv y
  ·have h2 : Dv (x * x) := (h.sub (hy.mul y)).of (by omega)
   rcases h2.prime with h3 | h3 <;> exact absurd h3 hx
  ·exfalso
   have ux := unit_pow hx
   have uy := unit_pow hy
   have e : (pz x * pz x + pz y * pz y) % pB = 0 := by
    have h1 := (pz_zero_iff _).2 h
    rw [pz_addN, pz_mulN, pz_mulN, ← Nat.add_mod] at h1
    exact h1
   have ev := even_pow e eP
   rw [pB_four, Nat.pow_mul, Nat.pow_succ, Nat.pow_two] at ux uy
   rw [Nat.mul_mod, ev, ← Nat.mul_mod] at ux
   have s : ((pz y * pz y) ^ (2 * eP) * (pz x * pz x) + (pz y * pz y) ^ (2 * eP) * (pz y * pz y)) % pB = 0 := by
    rw [← Nat.mul_add, Nat.mul_mod, e, Nat.mul_zero, Nat.zero_mod]
   rw [Nat.add_mod, ux, uy] at s
   revert s
   decide +kernel
theorem two_half : 2 ^ (2 * eP + 1) % pB = pB - 1 := pm_eq (by decide +kernel)
/-- 2 is no square. -/
theorem two_sq {m k : Int} (h : Dv (m * m - 2 * (k * k))) : Dv k := by
 by_cases hk : Dv k
 ·exact hk
 ·exfalso
  have uk := unit_pow hk
  have e : pz m * pz m % pB = 2 * (pz k * pz k) % pB := by
   have h1 := pz_mod _ _ h
   rw [pz_mulN, pz_mulN, pz_mulN] at h1
   rw [h1, show pz 2 = 2 by decide +kernel, Nat.mul_mod_mod]
  have e2 : (pz m * pz m) ^ (2 * eP + 1) % pB = (2 * (pz k * pz k)) ^ (2 * eP + 1) % pB := by rw [Nat.pow_mod, e, ← Nat.pow_mod]
  rw [Nat.mul_pow 2, Nat.mul_mod, two_half, ← Nat.pow_two, ← Nat.pow_two, ← Nat.pow_mul, ← Nat.pow_mul, ← pB_four, uk] at e2
  by_cases hm : Dv m
  ·rw [pow_dv hm _ (by decide +kernel)] at e2
   revert e2
   decide +kernel
  ·rw [unit_pow hm] at e2
   revert e2
   decide +kernel
/-! Pairs. -/
abbrev Z2 := Int × Int
def cm (a b : Z2) : Z2 := (a.1 * b.1 - a.2 * b.2, a.1 * b.2 + a.2 * b.1)
def ca (a b : Z2) : Z2 := (a.1 + b.1, a.2 + b.2)
def cs (a b : Z2) : Z2 := (a.1 - b.1, a.2 - b.2)
def cn (a : Z2) : Int := a.1 * a.1 + a.2 * a.2
def xi : Z2 := (1, 1)
def O2 (a : Z2) : Prop := Dv a.1 ∧ Dv a.2
theorem O2.mul {a : Z2} (h : O2 a) (b : Z2) : O2 (cm b a) := ⟨(h.1.mul b.1).sub (h.2.mul b.2), (h.2.mul b.1).add (h.1.mul b.2)⟩
theorem O2.add {a b : Z2} (h : O2 a) (k : O2 b) : O2 (ca a b) := ⟨h.1.add k.1, h.2.add k.2⟩
theorem O2.sub {a b : Z2} (h : O2 a) (k : O2 b) : O2 (cs a b) := ⟨h.1.sub k.1, h.2.sub k.2⟩
theorem O2.of {a b : Z2} (h : O2 a) (e : a = b) : O2 b := e ▸ h
theorem cn_mul (a b : Z2) : cn (cm a b) = cn a * cn b := by
 unfold cn cm
 grind
theorem O2.cn {a : Z2} (h : O2 a) : Dv (cn a) := (h.1.mul a.1).add (h.2.mul a.2)
theorem cn0 {a : Z2} (h : Dv (cn a)) : O2 a := norm0 h
theorem O2.dom {a b : Z2} (h : O2 (cm a b)) : O2 a ∨ O2 b := by
 have h1 := h.cn
 rw [cn_mul] at h1
 rcases h1.prime with k | k
 ·exact Or.inl (cn0 k)
 ·exact Or.inr (cn0 k)
theorem O2.sq {a : Z2} (h : O2 (cm a a)) : O2 a := by rcases h.dom with k | k <;> exact k
/-! Three parts: v v v is 1 + i. -/
def d0 (x y z : Z2) : Z2 := cs (cm x x) (cm xi (cm y z))
def d1 (x y z : Z2) : Z2 := cs (cm xi (cm z z)) (cm x y)
def d2 (x y z : Z2) : Z2 := cs (cm y y) (cm x z)
def nn3 (x y z : Z2) : Z2 := ca (cm x (d0 x y z)) (cm xi (ca (cm y (d2 x y z)) (cm z (d1 x y z))))
end Rg
end Go.Proofs.YtgdlhgbdigpfhabDoor
end
section
namespace Go.Proofs.YtgdlhgbdigpfhabDoor
open Go.RowKit
namespace Rg
theorem inv_ex {n a : Nat} (ok : Ok n) (hg : Nat.gcd n a = 1) : ∃ x, x < n ∧ x * a % n = 1 := by
 have key : ∀ (m : Nat) (z : WS), z.o + z.r = m → WI n a z → ∃ x, x < n ∧ x * a % n = 1 := by
  intro m
  induction m using Nat.strongRecOn with
  | _ m ih =>
   intro z hz I
   obtain ⟨o, r, u, v, h, t⟩ := z
   simp only at hz
   by_cases hr : r = 0
   ·subst hr
    have ho : o = 1 := by
     have h1 : Nat.gcd o 0 = Nat.gcd n a := I.gcd
     rw [Nat.gcd_zero_right] at h1
     rw [h1]; exact hg
    cases t with
    | true => exact ⟨_, Nat.mod_lt _ ok.pos, end_true ok I ho⟩
    | false => exact ⟨_, Nat.mod_lt _ ok.pos, end_false ok I ho⟩
   ·have hrb : r < big := by have h1 : r ≤ n := I.rn; have := ok.big; omega
    obtain ⟨k, r1, hk, er, hr1, _⟩ := trailing_any hrb hr
    obtain ⟨p1, p2, _⟩ := I.facts hr er
    obtain ⟨i1, i2⟩ := I.next hr er hr1
    have hle : r1 ≤ r := by rw [er]; exact Nat.le_mul_of_pos_right _ (Nat.two_pow_pos k)
    by_cases hl : r1 < o
    ·exact ih (r1 + (o - r1)) (by omega) _ rfl (i1 hl)
    ·exact ih (o + (r1 - o)) (by omega) _ rfl (i2 hl)
 exact key _ ⟨n, a % n, 0, 1, 0, false⟩ rfl (WI.start ok)
theorem invm_spec {n a : Nat} (ok : Ok n) (hg : Nat.gcd n a = 1) : invm n a < n ∧ invm n a * a % n = 1 := by
 obtain ⟨x, hx, h1⟩ := inv_ex ok hg
 rw [invm_eq hx h1]
 exact ⟨hx, h1⟩
end Rg
end Go.Proofs.YtgdlhgbdigpfhabDoor
end
section
namespace Go.Proofs.YtgdlhgbdigpfhabDoor
open Go.RowKit
namespace Rg
open NT
theorem pz_big (x : Int) : pz x < big := Nat.lt_trans (pz_lt x) pB_lt
theorem pz_pair (x y : Int) : 0 ≤ (pz x : Int) * (pz y : Int) ∧ (pz x : Int) * (pz y : Int) ≤ (pB : Int) * pB := by
 have h := Nat.mul_le_mul (Nat.le_of_lt (pz_lt x)) (Nat.le_of_lt (pz_lt y))
 rw [← Int.natCast_mul, ← Int.natCast_mul]
 omega
theorem pz_small {i : Nat} (h : i < pB) : pz (i : Int) = i := by rw [pz_nat, Nat.mod_eq_of_lt h]
theorem pz_times (x : Int) {i : Nat} (h : i < pB) : pz x * i % pB = pz (x * (i : Int)) := by rw [pz_mulN, pz_small h]
theorem norm_any {g : Nat} (x y : Int) (w : World) (hm : Mm w [(g, modc pB)]) : Calls Tryd.prog 46 #[.agg #[PT g 0], V [pz x, pz y]] w (Rt w (N (pz (x * x + y * y)))) := by
 have w0 : Wi ((pz x : Int) * pz x + (pz y : Int) * pz y) := by have := pz_pair x x; have := pz_pair y y; unfold Wi; omega
 have c4 := fun w hm => restF_any (g := g) _ w0 w hm
 rw [pz_addmul] at c4
 exact norm_gen g pB _ _ (pz x) (pz y) _ _ _ _ _ _ _ (fun w => timesZ_any (pz x) (pz x) (pz_big x) (pz_big x) w) (fun w => timesZ_any (pz y) (pz y) (pz_big y) (pz_big y) w) (fun w => plusZ_any _ _ w) c4 w hm
theorem unit_gcd {x : Int} (h : ¬ Dv x) : Nat.gcd pB (pz x) = 1 := by
 refine pB_prm.cop (fun hd => h ?_)
 rw [← pz_zero_iff]
 obtain ⟨k, hk⟩ := hd
 have := pz_lt x
 rcases Nat.eq_zero_or_pos k with h0 | h0
 ·rw [hk, h0, Nat.mul_zero]
 ·have := Nat.mul_le_mul (Nat.le_refl pB) h0
  omega
/-- The inverse of what is left of x. -/
def iv (x : Int) : Nat := invm pB (pz x)
theorem iv_lt {x : Int} (h : ¬ Dv x) : iv x < pB := (invm_spec pB_ok (unit_gcd h)).1
theorem iv_mul {x : Int} (h : ¬ Dv x) : pz ((iv x : Int) * x) = 1 := by
 rw [pz_mulN, pz_small (iv_lt h)]
 exact (invm_spec pB_ok (unit_gcd h)).2
theorem no_unit : Nat.gcd pB 0 ≠ 1 := by rw [Nat.gcd_zero_right]; decide +kernel
theorem inv2F_ok {g : Nat} (x y : Int) (h : ¬ Dv (x * x + y * y)) (w : World) (hm : Mm w [(g, modc pB), (0, dtab)]) : Calls Tryd.prog 27 #[.agg #[PT g 0], V [pz x, pz y]] w (Rt w (.tuple #[V [pz (x * (iv (x * x + y * y) : Int)), pz (-y * (iv (x * x + y * y) : Int))], .int .i64 0])) := by
 have hi := iv_lt h
 have c1 := fun w hm => inv_ok (g := g) pB_ok (pz_big (x * x + y * y)) (unit_gcd h) w hm
 have e1 : invm pB (pz (x * x + y * y)) = iv (x * x + y * y) := rfl
 rw [e1] at c1
 generalize iv (x * x + y * y) = i at *
 have c2 := fun w hm => mulm_any (g := g) pB_ok (pz_big x) (Nat.lt_trans hi pB_lt) w hm
 have c4 := fun w hm => mulm_any (g := g) pB_ok (pz_big (-y)) (Nat.lt_trans hi pB_lt) w hm
 rw [pz_times _ hi] at c2 c4
 exact inv2_ok g pB _ _ (pz x) (pz y) _ i _ _ _ (fun w hm => norm_any x y w hm) c1 c2 (fun w => negated_any y w) c4 w hm
theorem inv2F_no {g : Nat} (x y : Int) (h : Dv (x * x + y * y)) (w : World) (hm : Mm w [(g, modc pB), (0, dtab)]) : Calls Tryd.prog 27 #[.agg #[PT g 0], V [pz x, pz y]] w (Rt w (.tuple #[V [0, 0], .int .i64 6])) := by
 have c0 := fun w hm => norm_any (g := g) x y w hm
 rw [(pz_zero_iff _).2 h] at c0
 exact inv2_no g pB _ _ (pz x) (pz y) 0 0 c0 (fun w hm => inv_bad (g := g) pB_ok big_pos no_unit w hm) w hm
theorem invT_good (a0 a1 : Nat) (h0 : a0 < big) (h1 : a1 < big) (h : ¬ Dv ((a0 : Int) * a0 + (a1 : Int) * a1)) (w : World) (hm : Mm w [(0, dtab)]) : Calls Tryd.prog 11 #[V [a0, a1]] w (Rt w (.tuple #[V [pz ((a0 : Int) * (iv ((a0 : Int) * a0 + (a1 : Int) * a1) : Int)), pz (-(a1 : Int) * (iv ((a0 : Int) * a0 + (a1 : Int) * a1) : Int))], .int .i64 0])) :=
 invT_ok pB a0 a1 _ _ _ _ great_any (fun w => left2_any a0 a1 h0 h1 w) (fun g w hm => inv2F_ok (g := g) _ _ h w hm) w hm
theorem invT_bad (a0 a1 : Nat) (h0 : a0 < big) (h1 : a1 < big) (h : Dv ((a0 : Int) * a0 + (a1 : Int) * a1)) (w : World) (hm : Mm w [(0, dtab)]) : Calls Tryd.prog 11 #[V [a0, a1]] w (Rt w (.tuple #[V [0, 0], .int .i64 6])) :=
 invT_no pB a0 a1 _ _ great_any (fun w => left2_any a0 a1 h0 h1 w) (fun g w hm => inv2F_no (g := g) _ _ h w hm) w hm
end Rg
end Go.Proofs.YtgdlhgbdigpfhabDoor
end
section
namespace Go.Proofs.YtgdlhgbdigpfhabDoor
open Go.RowKit
namespace Rg
open NT
theorem sumZ_any (x y : Int) (w : World) : Calls Tryd.prog 53 #[N (pz x), N (pz y)] w (Rt w (N (pz (x + y)))) := by
 have h9 := nine_p
 have hx := pz_lt x
 have hy := pz_lt y
 have h := sumP_any (pz x) (pz y) (by omega) w
 rw [← pz_nat, Int.natCast_add, pz_add] at h
 exact h
theorem pz_neg (x : Int) : pz (-(pz x : Int)) = pz (-x) := by
 rw [pz_iff]
 exact ((dv_pz x).mul (-1)).of (by omega)
theorem half_ex (x : Int) : ∃ h : Int, Dv (2 * h - x) ∧ ∀ g w, Mm w [(g, modc pB)] → Calls Tryd.prog 52 #[.agg #[PT g 0], N (pz x)] w (Rt w (N (pz h))) := by
 have h9 := nine_p
 have ha := pz_lt x
 have hd := dv_pz x
 have hodd : pB % 2 = 1 := by decide +kernel
 have hb := fun w => bit_in (pz x) 0 (by decide) w
 have e0 : bitv (pz x) 0 = ((pz x % 2 : Nat) : Int) := by unfold bitv; rw [Nat.pow_zero, Nat.div_one]
 rw [e0] at hb
 generalize pz x = a at *
 by_cases h : a % 2 = 1
 ·rw [h] at hb
  have c3 := fun w => shift_down (a + pB) (-1) (by omega) (by omega) (by omega) w
  have e4 : (a + pB) / 2 ^ (- (-1 : Int)).toNat = (a + pB) / 2 := rfl
  rw [e4] at c3
  refine ⟨(((a + pB) / 2 : Nat) : Int), ?_, fun g w hm => ?_⟩
  ·exact (hd.add ⟨1, (Int.mul_one _).symm⟩).of (by omega)
  ·rw [pz_small (show (a + pB) / 2 < pB by omega)]
   exact half_1 g pB _ _ a (a + pB) _ hb (fun w hm => n_any (g := g) pB_ok w hm) (fun w => together_any a pB (by omega) w) c3 w hm
 ·rw [show a % 2 = 0 by omega] at hb
  have c3 := fun w => shift_down a (-1) (by omega) (by omega) (by omega) w
  have e4 : a / 2 ^ (- (-1 : Int)).toNat = a / 2 := rfl
  rw [e4] at c3
  refine ⟨((a / 2 : Nat) : Int), ?_, fun g w hm => ?_⟩
  ·exact hd.of (by omega)
  ·rw [pz_small (show a / 2 < pB by omega)]
   exact half_2 g pB _ _ a _ hb c3 w hm
/-- The power that is a root of x or of -x. -/
def rr (x : Int) : Nat := pz x ^ (eP + 1) % pB
theorem rr_lt (x : Int) : rr x < pB := Nat.mod_lt _ pB_ok.pos
def Sq (x : Int) : Prop := Dv ((rr x : Int) * (rr x : Int) - x)
theorem eP_four : pB + 1 = 4 * (eP + 1) := by decide +kernel
theorem sq_nat (x : Int) : (rr x * rr x % pB = pz x) ↔ Sq x := by
 unfold Sq
 rw [← pz_iff, ← Int.natCast_mul, pz_nat]
theorem zpow (j p : Nat) : 0 ^ (j + 1) % p = 0 := by rw [Nat.zero_pow (Nat.succ_pos j), Nat.zero_mod]
theorem rr_zero {x : Int} (h : pz x = 0) : rr x = 0 := by
 unfold rr
 rw [h]
 exact zpow eP pB
theorem rr_sq (a j p : Nat) : a ^ (j + 1) % p * (a ^ (j + 1) % p) % p = a ^ (2 * j + 2) % p := by
 rw [← Nat.mul_mod, ← Nat.pow_add, show j + 1 + (j + 1) = 2 * j + 2 by omega]
theorem rr_alt {x : Int} (h : ¬ Sq x) : Dv ((rr x : Int) * (rr x : Int) + x) := by
 by_cases hx : Dv x
 ·exfalso
  apply h
  have h0 := (pz_zero_iff x).2 hx
  rw [← sq_nat, h0, rr_zero h0, Nat.mul_zero, Nat.zero_mod]
 ·have hn : ¬ pB ∣ pz x := fun hd => by
   have h1 := unit_gcd hx
   have h2 := Nat.gcd_eq_left hd
   rw [h1] at h2
   have := pB_prm.1
   omega
  have e : rr x * rr x % pB = pz x ^ (2 * eP + 2) % pB := rr_sq (pz x) eP pB
  rcases half_pow pB_prm eP_four hn with h1 | h1
  ·exact absurd ((sq_nat x).1 (by rw [e, h1, Nat.mod_eq_of_lt (pz_lt x)])) h
  ·rw [← pz_zero_iff, pz_addN, ← Int.natCast_mul, pz_nat, e, Nat.mod_add_mod]
   exact h1
theorem sq_of {m x : Int} (h : Dv (m * m - x)) : Sq x := by
 by_cases hs : Sq x
 ·exact hs
 ·exfalso
  have h1 := rr_alt hs
  have h2 : Dv ((rr x : Int) * (rr x : Int) + m * m) := (h1.add h).of (by omega)
  have h3 := norm0 h2
  exact hs ((h3.1.mul (rr x : Int)).sub ((h3.2.mul m).sub h) |>.of (by omega))
theorem roo_any (g : Nat) (x : Int) (b : Bool) (hb : b = true ↔ Sq x) (w : World) (hm : Mm w [(g, modc pB)]) : Calls Tryd.prog 51 #[.agg #[PT g 0], N (pz x)] w (Rt w (.tuple #[N (rr x), .bool b])) := by
 have h9 := nine_p
 have hpos := pB_ok.pos
 have c2 := fun w => together_any pB 1 (by omega) w
 have c3 := fun w => shift_down (pB + 1) (-2) (by omega) (by omega) (by omega) w
 have e4 : (pB + 1) / 2 ^ (- (-2 : Int)).toNat = eP + 1 := by decide +kernel
 rw [e4] at c3
 have c4 := fun w hm => powm_any (g := g) pB_ok (pz_big x) (show eP + 1 < big by have := eP_four; omega) w hm
 have e5 : pz x ^ (eP + 1) % pB = rr x := rfl
 rw [e5] at c4
 have hr : rr x < big := Nat.lt_trans (rr_lt x) pB_lt
 have c5 := fun w hm => mulm_any (g := g) pB_ok hr hr w hm
 have e1 := fun w => run_eqN (rr x * rr x % pB) (pz x) (okLt pB_ok _) (pz_big x) w
 have hs := sq_nat x
 cases b with
 | true =>
  rw [decide_eq_true (hs.2 (hb.1 rfl))] at e1
  exact rooN_1 g pB _ _ (pz x) 1 _ _ (rr x) _ e1 (fun w hm => n_any (g := g) pB_ok w hm) (fun w => of_any 1 (by decide) w) c2 c3 c4 c5 w hm
 | false =>
  rw [decide_eq_false (fun h => by have := hb.2 (hs.1 h); cases this)] at e1
  exact rooN_2 g pB _ _ (pz x) 1 _ _ (rr x) _ e1 (fun w hm => n_any (g := g) pB_ok w hm) (fun w => of_any 1 (by decide) w) c2 c3 c4 c5 w hm
theorem rootNum_ex (x : Int) : ∃ u v : Int, Dv (u * u - v * v - x) ∧ Dv (2 * (u * v)) ∧ ∀ g w, Mm w [(g, modc pB)] → Calls Tryd.prog 49 #[.agg #[PT g 0], N (pz x)] w (Rt w (V [pz u, pz v])) := by
 by_cases h : Sq x
 ·refine ⟨(rr x : Int), 0, Dv.of h (by omega), dv_zero.of (by omega), fun g w hm => ?_⟩
  rw [pz_small (rr_lt x), pz_zero]
  exact rootN_1 g pB _ _ (pz x) (rr x) (fun w hm => roo_any g x true ⟨fun _ => h, fun _ => rfl⟩ w hm) w hm
 ·refine ⟨0, (rr x : Int), ((rr_alt h).mul (-1)).of (by omega), dv_zero.of (by omega), fun g w hm => ?_⟩
  rw [pz_small (rr_lt x), pz_zero]
  exact rootN_2 g pB _ _ (pz x) (rr x) (fun w hm => roo_any g x false ⟨fun k => (by cases k), fun k => absurd k h⟩ w hm) w hm
theorem rtc_rr (n : Int) : rtc pB (pz n) = rr n := by
 unfold rtc rr
 rw [show (pB + 1) / 4 = eP + 1 by have := eP_four; omega]
theorem rt_cond (n : Int) : (rtc pB (pz n) * rtc pB (pz n) % pB = pz n % pB) ↔ Sq n := by
 rw [rtc_rr, Nat.mod_eq_of_lt (pz_lt n)]
 exact sq_nat n
theorem pB_mod4 : ¬ pB % 4 = 1 := by decide +kernel
theorem rt_bad {n : Int} (h : ¬ Sq n) : rte pB (pz n) = 6 := by
 unfold rte
 rw [if_neg pB_mod4, if_neg (fun k => h ((rt_cond n).1 k))]
theorem rt_good {n : Int} (h : Sq n) : rte pB (pz n) = 0 ∧ ∃ s : Int, rtv pB (pz n) = pz s ∧ Dv (s * s - n) := by
 unfold rte rtv
 rw [if_neg pB_mod4, if_pos ((rt_cond n).2 h), if_neg pB_mod4, if_pos ((rt_cond n).2 h), rtc_rr]
 refine ⟨rfl, ?_⟩
 split
 ·refine ⟨-(rr n : Int), ?_, Dv.of h (by rw [Int.neg_mul_neg])⟩
  have e := subm_pz 0 (rr n : Int)
  rw [pz_zero, pz_small (rr_lt n), Int.zero_sub] at e
  exact e
 ·exact ⟨(rr n : Int), (pz_small (rr_lt n)).symm, h⟩
theorem not_two : ¬ Dv 2 := by rw [← pz_zero_iff]; decide +kernel
theorem iv_dv {x : Int} (h : ¬ Dv x) : Dv ((iv x : Int) * x - 1) := by
 rw [← pz_iff, iv_mul h]
 decide +kernel
theorem nz_eq {y : Int} (h : ¬ Dv y) (w : World) : (Op.equalIn 10000 24 (N (pz y)) (N 0)).run Tryd.prog w = .ok false w := by
 rw [run_eqN _ _ (pz_big y) big_pos, decide_eq_false (fun k => h ((pz_zero_iff y).1 k))]
theorem root2_all (x y : Int) (hq : Sq (x * x + y * y)) : ∃ u v : Int, Dv (u * u - v * v - x) ∧ Dv (2 * (u * v) - y) ∧ ∀ g w, Mm w [(g, modc pB), (0, dtab)] → Calls Tryd.prog 29 #[.agg #[PT g 0], V [pz x, pz y]] w (Rt w (.tuple #[V [pz u, pz v], .int .i64 0])) := by
 by_cases hy : Dv y
 ·obtain ⟨u, v, h1, h2, hc⟩ := rootNum_ex x
  refine ⟨u, v, h1, h2.sub hy, fun g w hm => ?_⟩
  have e1 := fun w => run_eqN (pz y) 0 (pz_big y) big_pos w
  rw [decide_eq_true ((pz_zero_iff y).2 hy)] at e1
  exact root2_1 g pB _ _ (pz x) (pz y) _ _ e1 (hc g) w hm
 ·obtain ⟨e0, s, es, hs⟩ := rt_good hq
  obtain ⟨h, hh, c3⟩ := half_ex (x + s)
  have e1 := fun w => nz_eq hy w
  have c1 := fun g w hm => root_any (g := g) pB_ok (pz_big (x * x + y * y)) w hm
  rw [e0, es] at c1
  have hP : ¬ Dv (rr h : Int) := fun k => by
   apply hy
   have k2 : Dv h := by
    by_cases q : Sq h
    ·exact ((k.mul (rr h : Int)).sub q).of (by omega)
    ·exact ((rr_alt q).sub (k.mul (rr h : Int))).of (by omega)
   have k3 : Dv (x + s) := ((k2.mul 2).sub hh).of (by omega)
   have k4 : Dv (y * y) := ((k3.mul (s - x)).sub hs).of (by grind)
   rcases k4.prime with k5 | k5 <;> exact k5
  have hPP : ¬ Dv ((rr h : Int) + (rr h : Int)) := fun k => by
   rcases (k.of (show _ = 2 * (rr h : Int) by omega)).prime with k5 | k5
   ·exact not_two k5
   ·exact hP k5
  have c5 := fun w => sumZ_any (rr h : Int) (rr h : Int) w
  rw [pz_small (rr_lt h)] at c5
  have c6 := fun g w hm => inv_ok (g := g) pB_ok (pz_big ((rr h : Int) + (rr h : Int))) (unit_gcd hPP) w hm
  have e6 : invm pB (pz ((rr h : Int) + (rr h : Int))) = iv ((rr h : Int) + (rr h : Int)) := rfl
  rw [e6] at c6
  have hi := iv_lt hPP
  have hI := iv_dv hPP
  have c7 := fun g w hm => mulm_any (g := g) pB_ok (pz_big y) (Nat.lt_trans hi pB_lt) w hm
  rw [pz_times _ hi] at c7
  generalize iv ((rr h : Int) + (rr h : Int)) = i at *
  have four : ∀ z : Int, Dv (4 * ((rr h : Int) * (rr h : Int)) * z) → Dv z := fun z hz => by
   rcases (hz.of (show _ = 2 * (2 * ((rr h : Int) * ((rr h : Int) * z))) by grind)).prime with k | k
   ·exact absurd k not_two
   ·rcases k.prime with k | k
    ·exact absurd k not_two
    ·rcases k.prime with k | k
     ·exact absurd k hP
     ·rcases k.prime with k | k
      ·exact absurd k hP
      ·exact k
  by_cases q : Sq h
  ·refine ⟨(rr h : Int), y * (i : Int), four _ ?_, ?_, fun g w hm => ?_⟩
   ·have q' : Dv ((rr h : Int) * (rr h : Int) - h) := q
    generalize (rr h : Int) = P at *
    exact (((hs.add (hh.mul (2 * h - (x + s) + 2 * s))).add (q'.mul (8 * h + 4 * (P * P - h) - 4 * x))).sub (hI.mul ((2 + ((i : Int) * (P + P) - 1)) * (y * y)))).of (by grind)
   ·exact (hI.mul y).of (by grind)
   ·rw [pz_small (rr_lt h)]
    exact root2_3 g pB _ _ (pz x) (pz y) _ _ _ _ (rr h) _ i _ 0 e1 (fun w hm => norm_any x y w hm) (c1 g) (fun w => sumZ_any x s w) (c3 g) (fun w hm => roo_any g h true ⟨fun _ => q, fun _ => rfl⟩ w hm) c5 (c6 g) (c7 g) w hm
  ·refine ⟨y * (i : Int), (rr h : Int), four _ ?_, ?_, fun g w hm => ?_⟩
   ·have q' := rr_alt q
    generalize (rr h : Int) = P at *
    exact ((((hI.mul ((2 + ((i : Int) * (P + P) - 1)) * (y * y))).sub hs).sub (hh.mul (2 * h - (x + s) + 2 * s))).add (q'.mul (8 * h - 4 * (P * P + h) - 4 * x))).of (by grind)
   ·exact (hI.mul y).of (by grind)
   ·rw [pz_small (rr_lt h)]
    exact root2_4 g pB _ _ (pz x) (pz y) _ _ _ _ (rr h) _ i _ 0 e1 (fun w hm => norm_any x y w hm) (c1 g) (fun w => sumZ_any x s w) (c3 g) (fun w hm => roo_any g h false ⟨fun k => (by cases k), fun k => absurd k q⟩ w hm) c5 (c6 g) (c7 g) w hm
theorem root2_none (g : Nat) (x y : Int) (hq : ¬ Sq (x * x + y * y)) (w : World) (hm : Mm w [(g, modc pB), (0, dtab)]) : Calls Tryd.prog 29 #[.agg #[PT g 0], V [pz x, pz y]] w (Rt w (.tuple #[V [0, 0], .int .i64 6])) := by
 have hy : ¬ Dv y := fun k => hq (sq_of (m := x) ((k.mul (-y)).of (by grind)))
 have c1 := fun w hm => root_any (g := g) pB_ok (pz_big (x * x + y * y)) w hm
 rw [rt_bad hq] at c1
 exact root2_2 g pB _ _ (pz x) (pz y) _ _ (fun w => nz_eq hy w) (fun w hm => norm_any x y w hm) c1 w hm
/-- Of x + y i and the negated one, the first is told. -/
def Le2 (u v : Int) : Prop := pz v < pz (-v) ∨ (pz v = pz (-v) ∧ pz u ≤ pz (-u))
theorem lesser_ex (u v : Int) : ∃ x y : Int, ((x = u ∧ y = v) ∨ (x = -u ∧ y = -v)) ∧ Le2 x y ∧ ∀ w, Calls Tryd.prog 30 #[V [pz u, pz v], V [pz (-u), pz (-v)]] w (Rt w (V [pz x, pz y])) := by
 have c0 := fun w => compare_any (pz v) (pz (-v)) (pz_big v) (pz_big (-v)) w
 have c1 := fun w => compare_any (pz u) (pz (-u)) (pz_big u) (pz_big (-u)) w
 unfold Le2
 rcases Nat.lt_trichotomy (pz v) (pz (-v)) with h | h | h
 ·rw [cmp_lt h] at c0
  exact ⟨u, v, Or.inl ⟨rfl, rfl⟩, Or.inl h, fun w => lesser_2 _ _ _ _ _ (by decide) c0 w⟩
 ·have e0 : cmpv (pz v) (pz (-v)) = 0 := by unfold cmpv; rw [if_pos h]
  rcases Nat.lt_or_ge (pz (-u)) (pz u) with k | k
  ·have e1 : cmpv (pz u) (pz (-u)) = 1 := by unfold cmpv; rw [if_neg (by omega), if_neg (by omega)]
   rw [e1] at c1
   exact ⟨-u, -v, Or.inr ⟨rfl, rfl⟩, Or.inr ⟨by rw [Int.neg_neg, h], by rw [Int.neg_neg]; omega⟩, fun w => lesser_3 _ _ _ _ _ _ e0 (by decide) c0 c1 w⟩
  ·have e1 : ¬ 0 < cmpv (pz u) (pz (-u)) := by unfold cmpv; split <;> (try split) <;> omega
   exact ⟨u, v, Or.inl ⟨rfl, rfl⟩, Or.inr ⟨h, k⟩, fun w => lesser_4 _ _ _ _ _ _ e0 e1 c0 c1 w⟩
 ·have e1 : cmpv (pz v) (pz (-v)) = 1 := by unfold cmpv; rw [if_neg (by omega), if_neg (by omega)]
  rw [e1] at c0
  exact ⟨-u, -v, Or.inr ⟨rfl, rfl⟩, Or.inl (by rw [Int.neg_neg]; exact h), fun w => lesser_1 _ _ _ _ _ (by decide) c0 w⟩
theorem rootT_ex (a0 a1 : Nat) (h0 : a0 < big) (h1 : a1 < big) (hq : Sq ((a0 : Int) * a0 + (a1 : Int) * a1)) : ∃ u v : Int, Dv (u * u - v * v - a0) ∧ Dv (2 * (u * v) - a1) ∧ Le2 u v ∧ ∀ w, Mm w [(0, dtab)] → Calls Tryd.prog 12 #[V [a0, a1]] w (Rt w (.tuple #[V [pz u, pz v], .int .i64 0])) := by
 -- one root for all fields: what is told does not hang on g
 have hall : ∃ u v : Int, Dv (u * u - v * v - a0) ∧ Dv (2 * (u * v) - a1) ∧ ∀ g w, Mm w [(g, modc pB), (0, dtab)] → Calls Tryd.prog 29 #[.agg #[PT g 0], V [pz a0, pz a1]] w (Rt w (.tuple #[V [pz u, pz v], .int .i64 0])) := by
  exact root2_all (a0 : Int) (a1 : Int) hq
 obtain ⟨u, v, hu, hv, hc⟩ := hall
 obtain ⟨x, y, hxy, hle, hl⟩ := lesser_ex u v
 have c3 := fun w => neg2_any (pz u) (pz v) (pz_big u) (pz_big v) w
 rw [pz_neg, pz_neg] at c3
 refine ⟨x, y, ?_, ?_, hle, fun w hm => rootT_ok pB a0 a1 _ _ _ _ _ _ _ _ great_any (fun w => left2_any a0 a1 h0 h1 w) hc c3 hl w hm⟩
 ·rcases hxy with ⟨rfl, rfl⟩ | ⟨rfl, rfl⟩
  ·exact hu
  ·exact hu.of (by rw [Int.neg_mul_neg, Int.neg_mul_neg])
 ·rcases hxy with ⟨rfl, rfl⟩ | ⟨rfl, rfl⟩
  ·exact hv
  ·exact hv.of (by rw [Int.neg_mul_neg])
theorem rootT_none (a0 a1 : Nat) (h0 : a0 < big) (h1 : a1 < big) (hq : ¬ Sq ((a0 : Int) * a0 + (a1 : Int) * a1)) (w : World) (hm : Mm w [(0, dtab)]) : Calls Tryd.prog 12 #[V [a0, a1]] w (Rt w (.tuple #[V [0, 0], .int .i64 6])) :=
 rootT_no pB a0 a1 _ _ great_any (fun w => left2_any a0 a1 h0 h1 w) (fun g w hm => root2_none g _ _ hq w hm) w hm
end Rg
end Go.Proofs.YtgdlhgbdigpfhabDoor
end
section
namespace Go.Proofs.YtgdlhgbdigpfhabDoor
open Go.RowKit
namespace Rg
theorem zn_pz (a : Nat → Int) : (zn fun j => pz (a j)) = fun j => a j + (pB : Int) * (fun j => -(a j / (pB : Int))) j := funext fun j => by
 unfold zn
 rw [pz_cast, Int.emod_def, Int.mul_neg]
 rfl
theorem mul12_pzl (a b : Nat → Int) (j : Nat) : pz (mul12 (zn fun j => pz (a j)) b j) = pz (mul12 a b j) := by
 rw [zn_pz, lin12]
 exact pz_congr (Int.add_mul_emod_self_left ..)
theorem mul12_pzr (a b : Nat → Int) (j : Nat) : pz (mul12 a (zn fun j => pz (b j)) j) = pz (mul12 a b j) := by
 rw [comm12, mul12_pzl, comm12]
theorem mul12_pz (a b : Nat → Int) (j : Nat) : pz (mul12 (zn fun j => pz (a j)) (zn fun j => pz (b j)) j) = pz (mul12 a b j) := by rw [mul12_pzl, mul12_pzr]
theorem lz_congr {a b : Nat → Int} (h : ∀ j, pz (a j) = pz (b j)) : lz a = lz b := by
 simp only [lz, h]
theorem mulP_any {g : Nat} (a b : Nat → Int) (w : World) (hm : Mm w [(g, modc pB)]) : Calls Tryd.prog 23 #[.agg #[PT g 0], V (lz a), V (lz b)] w (Rt w (V (lz (mul12 a b)))) := by
 have h := mulN_any (g := g) (fun j => pz (a j)) (fun j => pz (b j)) (fun j => pz_lt _) (fun j => pz_lt _) w hm
 rw [lz_congr (mul12_pz a b)] at h
 exact h
theorem pz_one : pz 1 = 1 := by decide +kernel
theorem one_any (w : World) : Calls Tryd.prog 16 #[] w (Rt w (V [1, 0, 0, 0, 0, 0, 0, 0, 0, 0, 0, 0])) := one12_gen 1 (fun w => one2_gen 1 (fun w => of_any 1 (by decide) w) w) w
theorem one_lz : [1, 0, 0, 0, 0, 0, 0, 0, 0, 0, 0, 0] = lz one12 := by
 simp only [lz, one12, pz_one, pz_zero]
theorem powT_any (a : Nat → Nat) (ha : ∀ j, j < 12 → a j < big) (e : Nat) (he : e < big) (w : World) : Calls Tryd.prog 6 #[V (tl a), N e] w fun r w' => r = .returned (V (lz (pw12 (zn a) e))) ∧ Below w.heap.size w w' := by
 have hl : bl e ≤ 384 := by
  obtain ⟨m, hm, h⟩ := big_pow
  rw [h] at he
  have := bl_le_of e _ he
  omega
 have e0 : e / 2 ^ 0 = e := by rw [Nat.pow_zero, Nat.div_one]
 have h := powT_gen pB e (bl e) 1 hl a (fun j => pz (zn a j)) (fun k j => pz (pw12 (zn a) (e / 2 ^ k) j)) (fun k j => pz (pw12 (zn a) (2 * (e / 2 ^ (k + 1))) j)) (fun k => bitv e k) ?_ (bit_cases e) (fun k hk => ?_) great_any (fun w => leftAll_any a ha w) one_any (fun w => len_any e he w) (fun k g w hm => ?_) (fun k w hk => ?_) (fun k hk g w hm => ?_) w
 ·rw [e0] at h
  exact h
 ·rw [Nat.div_eq_of_lt (bl_lt e)]
  exact one_lz
 ·have h2 : e / 2 ^ k % 2 = 0 := by unfold bitv at hk; omega
  have h3 := half_step e k
  rw [h2, Nat.add_zero] at h3
  rw [← h3]
 ·have h := mulP_any (g := g) (pw12 (zn a) (e / 2 ^ (k + 1))) (pw12 (zn a) (e / 2 ^ (k + 1))) w hm
  rw [← pw_twice] at h
  exact h
 ·have h := bit_in e k (by omega) w
  rw [show (((k + 1 : Nat) : Int) - 1) = ((k : Nat) : Int) by omega]
  exact h
 ·have h := mulP_any (g := g) (pw12 (zn a) (2 * (e / 2 ^ (k + 1)))) (zn a) w hm
  have h2 : e / 2 ^ k % 2 = 1 := by unfold bitv at hk; omega
  have h3 := half_step e k
  rw [h2] at h3
  have h4 : mul12 (pw12 (zn a) (2 * (e / 2 ^ (k + 1)))) (zn a) = pw12 (zn a) (e / 2 ^ k) := by rw [h3]; rfl
  rw [h4] at h
  exact h
theorem small_any (x y : Nat) (hx : x < 18446744073709551616) (hy : y < 18446744073709551616) (w : World) : Calls Tryd.prog 9 #[.int .u64 x, .int .u64 y] w (Rt w (V [x, y])) :=
 small_gen x y x y (fun w => of_any x hx w) (fun w => of_any y hy w) w
theorem w_any (w : World) : Calls Tryd.prog 15 #[] w (Rt w (V [0, 0, 1, 0, 0, 0, 0, 0, 0, 0, 0, 0])) := w_gen 1 (fun w => small_any 1 0 (by decide) (by decide) w) w
/-! Equality. -/
theorem run_eqD (D a b : Nat) (ha : a < big) (hb : b < big) (w : World) : (Op.equalIn (D + 2) 24 (N a) (N b)).run Tryd.prog w = .ok (decide (a = b)) w := by
 have h := run_eq6' (D + 1) (fun a b w => run_equalIn_int w D 22 .u64 .u64 a b (by kernel_rfl)) (wd a 0) (wd a 1) (wd a 2) (wd a 3) (wd a 4) (wd a 5) (wd b 0) (wd b 1) (wd b 2) (wd b 3) (wd b 4) (wd b 5) w
 rw [num_eq a b ha hb] at h
 exact h
theorem run_eqE2' (d a0 a1 b0 b1 : Nat) (p0 p1 : Bool) (hi0 : ∀ w, (Op.equalIn d 24 (N a0) (N b0)).run Tryd.prog w = .ok p0 w) (hi1 : ∀ w, (Op.equalIn d 24 (N a1) (N b1)).run Tryd.prog w = .ok p1 w) (w : World) :
  (Op.equalIn (d + 1) 26 (V [a0, a1]) (V [b0, b1])).run Tryd.prog w = .ok (p0 && p1) w := by
 have h24 : Tryd.prog.underlying 26 = some (.array 2 24) := by kernel_rfl
 have hsz : ∀ w, (sizeOf 24).run Tryd.prog w = .ok 6 w := fun w => by kernel_rfl
 have hp : ∀ (a b : Nat) (w : World), (Go.part 24 (cel [a, b]).toArray 0).run Tryd.prog w = .ok (N a) w ∧ (Go.part 24 (cel [a, b]).toArray 6).run Tryd.prog w = .ok (N b) w := fun a b w => ⟨by kernel_rfl, by kernel_rfl⟩
 simp only [V, Op.equalIn, Sem.run_bind, run_underlying h24, Result.andThen_ok, hsz]
 simp [Std.Legacy.Range.forIn_eq_forIn_range', List.range', List.forIn_cons, hi0, hi1, hp]
 cases p0 <;> cases p1 <;> simp
theorem run_eqE2 (a0 a1 b0 b1 : Nat) (ha0 : a0 < big) (ha1 : a1 < big) (hb0 : b0 < big) (hb1 : b1 < big) (w : World) : (Op.equalIn 10000 26 (V [a0, a1]) (V [b0, b1])).run Tryd.prog w = .ok (decide (a0 = b0) && decide (a1 = b1)) w :=
 run_eqE2' 9999 a0 a1 b0 b1 _ _ (fun w => run_eqD 9997 a0 b0 ha0 hb0 w) (fun w => run_eqD 9997 a1 b1 ha1 hb1 w) w
set_option maxRecDepth 100000 in
set_option maxHeartbeats 2000000 in
theorem run_eqE12q (d : Nat) (xs ys : Array Value) (u0 v0 u1 v1 u2 v2 u3 v3 u4 v4 u5 v5 : Value) (p0 p1 p2 p3 p4 p5 : Bool) (hx0 : ∀ w, (Go.part 26 xs 0).run Tryd.prog w = .ok u0 w) (hy0 : ∀ w, (Go.part 26 ys 0).run Tryd.prog w = .ok v0 w) (hi0 : ∀ w, (Op.equalIn d 26 u0 v0).run Tryd.prog w = .ok p0 w) (hx1 : ∀ w, (Go.part 26 xs 12).run Tryd.prog w = .ok u1 w) (hy1 : ∀ w, (Go.part 26 ys 12).run Tryd.prog w = .ok v1 w) (hi1 : ∀ w, (Op.equalIn d 26 u1 v1).run Tryd.prog w = .ok p1 w) (hx2 : ∀ w, (Go.part 26 xs 24).run Tryd.prog w = .ok u2 w) (hy2 : ∀ w, (Go.part 26 ys 24).run Tryd.prog w = .ok v2 w) (hi2 : ∀ w, (Op.equalIn d 26 u2 v2).run Tryd.prog w = .ok p2 w) (hx3 : ∀ w, (Go.part 26 xs 36).run Tryd.prog w = .ok u3 w) (hy3 : ∀ w, (Go.part 26 ys 36).run Tryd.prog w = .ok v3 w) (hi3 : ∀ w, (Op.equalIn d 26 u3 v3).run Tryd.prog w = .ok p3 w) (hx4 : ∀ w, (Go.part 26 xs 48).run Tryd.prog w = .ok u4 w) (hy4 : ∀ w, (Go.part 26 ys 48).run Tryd.prog w = .ok v4 w) (hi4 : ∀ w, (Op.equalIn d 26 u4 v4).run Tryd.prog w = .ok p4 w) (hx5 : ∀ w, (Go.part 26 xs 60).run Tryd.prog w = .ok u5 w) (hy5 : ∀ w, (Go.part 26 ys 60).run Tryd.prog w = .ok v5 w) (hi5 : ∀ w, (Op.equalIn d 26 u5 v5).run Tryd.prog w = .ok p5 w) (w : World) :
  (Op.equalIn (d + 1) 28 (.agg xs) (.agg ys)).run Tryd.prog w = .ok (p0 && (p1 && (p2 && (p3 && (p4 && p5))))) w := by
 have h24 : Tryd.prog.underlying 28 = some (.array 6 26) := by kernel_rfl
 have hsz : ∀ w, (sizeOf 26).run Tryd.prog w = .ok 12 w := fun w => by kernel_rfl
 simp only [Op.equalIn, Sem.run_bind, run_underlying h24, Result.andThen_ok, hsz]
 simp [Std.Legacy.Range.forIn_eq_forIn_range', List.range', List.forIn_cons, hx0, hy0, hi0, hx1, hy1, hi1, hx2, hy2, hi2, hx3, hy3, hi3, hx4, hy4, hi4, hx5, hy5, hi5]
 cases p0 <;> cases p1 <;> cases p2 <;> cases p3 <;> cases p4 <;> cases p5 <;> simp
theorem part12 (a : Nat → Nat) (w : World) : (Go.part 26 (cel (tl a)).toArray 0).run Tryd.prog w = .ok (V [a 0, a 1]) w ∧ (Go.part 26 (cel (tl a)).toArray 12).run Tryd.prog w = .ok (V [a 2, a 3]) w ∧ (Go.part 26 (cel (tl a)).toArray 24).run Tryd.prog w = .ok (V [a 4, a 5]) w ∧ (Go.part 26 (cel (tl a)).toArray 36).run Tryd.prog w = .ok (V [a 6, a 7]) w ∧ (Go.part 26 (cel (tl a)).toArray 48).run Tryd.prog w = .ok (V [a 8, a 9]) w ∧ (Go.part 26 (cel (tl a)).toArray 60).run Tryd.prog w = .ok (V [a 10, a 11]) w := ⟨by kernel_rfl, by kernel_rfl, by kernel_rfl, by kernel_rfl, by kernel_rfl, by kernel_rfl⟩
theorem run_eqE12' (d : Nat) (a b : Nat → Nat) (p0 p1 p2 p3 p4 p5 : Bool) (hi0 : ∀ w, (Op.equalIn d 26 (V [a 0, a 1]) (V [b 0, b 1])).run Tryd.prog w = .ok p0 w) (hi1 : ∀ w, (Op.equalIn d 26 (V [a 2, a 3]) (V [b 2, b 3])).run Tryd.prog w = .ok p1 w) (hi2 : ∀ w, (Op.equalIn d 26 (V [a 4, a 5]) (V [b 4, b 5])).run Tryd.prog w = .ok p2 w) (hi3 : ∀ w, (Op.equalIn d 26 (V [a 6, a 7]) (V [b 6, b 7])).run Tryd.prog w = .ok p3 w) (hi4 : ∀ w, (Op.equalIn d 26 (V [a 8, a 9]) (V [b 8, b 9])).run Tryd.prog w = .ok p4 w) (hi5 : ∀ w, (Op.equalIn d 26 (V [a 10, a 11]) (V [b 10, b 11])).run Tryd.prog w = .ok p5 w) (w : World) :
  (Op.equalIn (d + 1) 28 (V (tl a)) (V (tl b))).run Tryd.prog w = .ok (p0 && (p1 && (p2 && (p3 && (p4 && p5))))) w :=
 run_eqE12q d _ _ _ _ _ _ _ _ _ _ _ _ _ _ p0 p1 p2 p3 p4 p5 (fun w => (part12 a w).1) (fun w => (part12 b w).1) hi0 (fun w => (part12 a w).2.1) (fun w => (part12 b w).2.1) hi1 (fun w => (part12 a w).2.2.1) (fun w => (part12 b w).2.2.1) hi2 (fun w => (part12 a w).2.2.2.1) (fun w => (part12 b w).2.2.2.1) hi3 (fun w => (part12 a w).2.2.2.2.1) (fun w => (part12 b w).2.2.2.2.1) hi4 (fun w => (part12 a w).2.2.2.2.2) (fun w => (part12 b w).2.2.2.2.2) hi5 w
theorem run_eqE12 (a b : Nat → Nat) (ha : ∀ j, j < 12 → a j < big) (hb : ∀ j, j < 12 → b j < big) (w : World) : (Op.equalIn 10000 28 (V (tl a)) (V (tl b))).run Tryd.prog w = .ok (decide (tl a = tl b)) w := by
 have h := run_eqE12' 9999 a b _ _ _ _ _ _ (fun w => run_eqE2' 9998 (a 0) (a 1) (b 0) (b 1) _ _ (fun w => run_eqD 9996 _ _ (ha _ (by decide)) (hb _ (by decide)) w) (fun w => run_eqD 9996 _ _ (ha _ (by decide)) (hb _ (by decide)) w) w) (fun w => run_eqE2' 9998 (a 2) (a 3) (b 2) (b 3) _ _ (fun w => run_eqD 9996 _ _ (ha _ (by decide)) (hb _ (by decide)) w) (fun w => run_eqD 9996 _ _ (ha _ (by decide)) (hb _ (by decide)) w) w) (fun w => run_eqE2' 9998 (a 4) (a 5) (b 4) (b 5) _ _ (fun w => run_eqD 9996 _ _ (ha _ (by decide)) (hb _ (by decide)) w) (fun w => run_eqD 9996 _ _ (ha _ (by decide)) (hb _ (by decide)) w) w) (fun w => run_eqE2' 9998 (a 6) (a 7) (b 6) (b 7) _ _ (fun w => run_eqD 9996 _ _ (ha _ (by decide)) (hb _ (by decide)) w) (fun w => run_eqD 9996 _ _ (ha _ (by decide)) (hb _ (by decide)) w) w) (fun w => run_eqE2' 9998 (a 8) (a 9) (b 8) (b 9) _ _ (fun w => run_eqD 9996 _ _ (ha _ (by decide)) (hb _ (by decide)) w) (fun w => run_eqD 9996 _ _ (ha _ (by decide)) (hb _ (by decide)) w) w) (fun w => run_eqE2' 9998 (a 10) (a 11) (b 10) (b 11) _ _ (fun w => run_eqD 9996 _ _ (ha _ (by decide)) (hb _ (by decide)) w) (fun w => run_eqD 9996 _ _ (ha _ (by decide)) (hb _ (by decide)) w) w) w
 have e : ((decide (a 0 = b 0) && decide (a 1 = b 1)) && ((decide (a 2 = b 2) && decide (a 3 = b 3)) && ((decide (a 4 = b 4) && decide (a 5 = b 5)) && ((decide (a 6 = b 6) && decide (a 7 = b 7)) && ((decide (a 8 = b 8) && decide (a 9 = b 9)) && ((decide (a 10 = b 10) && decide (a 11 = b 11)))))))) = decide (tl a = tl b) := by
  rw [Bool.eq_iff_iff]
  simp only [Bool.and_eq_true, decide_eq_true_eq, tl, List.cons.injEq, and_true, and_assoc]
 exact h.trans (congrArg (fun q => Result.ok q w) e)
end Rg
end Go.Proofs.YtgdlhgbdigpfhabDoor
end
section
namespace Go.Proofs.YtgdlhgbdigpfhabDoor
open Go.RowKit
namespace Rg
theorem exec_eqE2 {ρ : Operand → Value} {o : Oper} {i j : Tmp} {x y : Array Value} {t : Bool} {w : World} (he : ∀ w, (Op.equalIn 10000 26 (.agg x) (.agg y)).run Tryd.prog w = .ok t w) (ho : o.op = .binOp .eql 26 (.tmp i) (.tmp j) 26) (hx : ρ (.tmp i) = .agg x) (hy : ρ (.tmp j) = .agg y) :
  (execOp ρ o).run Tryd.prog w = .ok (.value (.bool t)) w := by
 simp only [execOp, ho, hx, hy]
 clear hx hy
 go_simp
theorem exec_eqE12 {ρ : Operand → Value} {o : Oper} {i j : Tmp} {x y : Array Value} {t : Bool} {w : World} (he : ∀ w, (Op.equalIn 10000 28 (.agg x) (.agg y)).run Tryd.prog w = .ok t w) (ho : o.op = .binOp .eql 28 (.tmp i) (.tmp j) 28) (hx : ρ (.tmp i) = .agg x) (hy : ρ (.tmp j) = .agg y) :
  (execOp ρ o).run Tryd.prog w = .ok (.value (.bool t)) w := by
 simp only [execOp, ho, hx, hy]
 clear hx hy
 go_simp
theorem ex_build4 {ρ : Operand → Value} {o : Oper} {k : Nat} {w : World} (hk : k = 4) (ho : o.op = .build 24 #[(0, .const (.int .u64 4))]) (h0 : ρ (.const (.int .u64 4)) = .int .u64 4) : (execOp ρ o).run Tryd.prog w = .ok (.value (N k)) w := by
 have e : N k = .agg #[.int .u64 4, .int .u64 0, .int .u64 0, .int .u64 0, .int .u64 0, .int .u64 0] := by
  subst hk
  have h0 := wd_small0 4 (by decide)
  simp only [N, h0, wd_small 4 0 (by decide), wd_small 4 1 (by decide), wd_small 4 2 (by decide), wd_small 4 3 (by decide), wd_small 4 4 (by decide)]
  rfl
 rw [e]
 clear e
 simp only [execOp, ho]
 go_simp
set_option maxHeartbeats 4000000 in
set_option maxRecDepth 100000 in
theorem awake_gen (k1 k2 k4 k6 q0 q1 m0 m1 x0 x1 : Nat) (p : Nat → Nat) (hk4 : k4 = 4)
  (e0 : ∀ w, (Op.equalIn 10000 24 (N k4) (N k4)).run Tryd.prog w = .ok true w) (e1 : ∀ w, (Op.equalIn 10000 26 (V [x0, x1]) (V [k2, 0])).run Tryd.prog w = .ok true w) (e2 : ∀ w, (Op.equalIn 10000 26 (V [q0, q1]) (V [k2, 0])).run Tryd.prog w = .ok true w) (e3 : ∀ w, (Op.equalIn 10000 28 (V [p 0, p 1, p 2, p 3, p 4, p 5, p 6, p 7, p 8, p 9, p 10, p 11]) (V [k1, k1, 0, 0, 0, 0, 0, 0, 0, 0, 0, 0])).run Tryd.prog w = .ok true w)
  (c0 : ∀ w, Calls Tryd.prog 9 #[.int .u64 4, .int .u64 0] w (Rt w (V [k4, 0])))
  (c1 : ∀ w, Mm w [(0, dtab)] → Calls Tryd.prog 12 #[V [k4, 0]] w (Rt w (.tuple #[V [q0, q1], .int .i64 0])))
  (c2 : ∀ w, Calls Tryd.prog 19 #[.int .u64 4] w (Rt w (N k4)))
  (c3 : ∀ w, Calls Tryd.prog 9 #[.int .u64 1, .int .u64 1] w (Rt w (V [k1, k1])))
  (c4 : ∀ w, Calls Tryd.prog 19 #[.int .u64 1] w (Rt w (N k1)))
  (c5 : ∀ w, Calls Tryd.prog 9 #[.int .u64 1, .int .u64 0] w (Rt w (V [k1, 0])))
  (c6 : ∀ w, Calls Tryd.prog 10 #[V [k1, 0]] w (Rt w (V [m0, m1])))
  (c7 : ∀ w, Calls Tryd.prog 17 #[V [k1, k1], V [k1, m0]] w (Rt w (V [x0, x1])))
  (c8 : ∀ w, Calls Tryd.prog 9 #[.int .u64 2, .int .u64 0] w (Rt w (V [k2, 0])))
  (c9 : ∀ w, Calls Tryd.prog 15 #[] w (Rt w (V [0, 0, k1, 0, 0, 0, 0, 0, 0, 0, 0, 0])))
  (c10 : ∀ w, Calls Tryd.prog 19 #[.int .u64 6] w (Rt w (N k6)))
  (c11 : ∀ w, Calls Tryd.prog 6 #[V [0, 0, k1, 0, 0, 0, 0, 0, 0, 0, 0, 0], N k6] w (Rt w (V [p 0, p 1, p 2, p 3, p 4, p 5, p 6, p 7, p 8, p 9, p 10, p 11]))) (w : World) (hm : Mm w [(0, dtab)]) :
  Calls Tryd.prog 5 #[] w (Rt w (.bool true)) := by
 have H0 : Hid (_ ∧ _) := ⟨hm, Below.refl w.heap.size w⟩
 clear hm
 have C0 : Hid _ := c0
 have C1 : Hid _ := c1
 have C2 : Hid _ := c2
 have C3 : Hid _ := c3
 have C4 : Hid _ := c4
 have C5 : Hid _ := c5
 have C6 : Hid _ := c6
 have C7 : Hid _ := c7
 have C8 : Hid _ := c8
 have C9 : Hid _ := c9
 have C10 : Hid _ := c10
 have C11 : Hid _ := c11
 clear c0 c1 c2 c3 c4 c5 c6 c7 c8 c9 c10 c11
 go_enter Tryd.func5, Tryd.ntmps5
 refine wp_seq ?_
 refine walk_seqB 1 [.quiet (.bool false)] H0 ?ho1 ?he1
 case ho1 => exact ak (fun _ => ⟨rfl, fun _ _ => rfl⟩) trivial
 intro _ w1 H1
 refine rest0 rfl (then_normal (wp_seq ?_))
 refine walk_seqA 8 [.call (V [k4, 0]), .call (.tuple #[V [q0, q1], .int .i64 0]), .quiet (.tuple #[V [q0, q1], .int .i64 0]), .quiet (V [q0, q1]), .quiet (.int .i64 0), .made (cel [0, 0]) 26, .laid 5 (cel [0, 0]) (cel [q0, q1]), .quiet (.int .i64 0)] (sB H1) ?ho2 ?he2 (hL := ?hL2)
 case hL2 => exact ⟨⟨_, rfl⟩, trivial⟩
 case ho2 => exact ak (fun γ => ⟨rfl, fun w' h => ⟨9, #[.int .u64 4, .int .u64 0], exec_call rfl call9 rfl (mpn rfl), C0.out w'⟩⟩) (ak (fun γ => ⟨rfl, fun w' h => ⟨12, #[V [k4, 0]], exec_call rfl call12 rfl (mpn rfl), C1.out w' (h.one 0 rfl)⟩⟩) (ak (fun _ => ⟨rfl, fun _ _ => rfl⟩) (ak (by refine fun γ => ⟨rfl, fun w' h => ?_⟩; clear h; go_simp) (ak (by refine fun γ => ⟨rfl, fun w' h => ?_⟩; clear h; go_simp) (ak (fun γ => ⟨rfl, fun w' => ex_madeE2 rfl⟩) (ak (fun γ => ⟨rfl, rfl, rfl, fun w' h => ex_laidA h rfl Tryd.sizeOf26 rfl rfl rfl⟩) (ak (fun _ => ⟨rfl, fun _ _ => rfl⟩) trivial)))))))
 intro γ w2 l hM hl
 have H2 : Hid (Mm w2 [(γ 5, cel [q0, q1]), (0, dtab)] ∧ _) := growB H1 hM (Nat.le_refl _) hl [5] rfl (by decide)
 have o2_5 := ownB H1 hM (Nat.le_refl _) hl (i := 5) rfl
 clear hM hl l H1
 generalize γ 5 = γ2_5 at H2 o2_5 ⊢
 clear γ
 refine rest0 rfl (then_normal (wp_seq ?_))
 refine walk_anyB 32 [.call (N k4), .quiet (N k4), .quiet (.bool true), .quiet (.bool true), .call (V [k1, k1]), .call (N k1), .call (V [k1, 0]), .call (V [m0, m1]), .quiet (N m0), .quiet (V [k1, m0]), .call (V [x0, x1]), .call (V [k2, 0]), .quiet (.bool true), .quiet (.bool true), .quiet (.bool true), .quiet (V [q0, q1]), .call (V [k2, 0]), .quiet (.bool true), .quiet (.bool true), .quiet (.bool true), .quiet (.int .i64 0), .quiet (.bool true), .quiet (.bool true), .quiet (.bool true), .call (V [0, 0, k1, 0, 0, 0, 0, 0, 0, 0, 0, 0]), .call (N k6), .call (V [p 0, p 1, p 2, p 3, p 4, p 5, p 6, p 7, p 8, p 9, p 10, p 11]), .call (V [k1, k1]), .quiet (V [k1, k1, 0, 0, 0, 0, 0, 0, 0, 0, 0, 0]), .quiet (.bool true), .quiet (.bool true), .quiet (.bool true)] H2 ?ho3 ?he3 (hL := ?hL3)
 case hL3 => exact trivial
 case ho3 => exact ak (fun γ => ⟨rfl, fun w' h => ⟨19, #[.int .u64 4], exec_call rfl call19 rfl (mpn rfl), C2.out w'⟩⟩) (ak (fun γ => ⟨rfl, fun w' _ => ex_build4 hk4 rfl rfl⟩) (ak (fun γ => ⟨rfl, fun w' _ => exec_eq6 e0 rfl rfl rfl⟩) (ak (fun _ => ⟨rfl, fun _ _ => rfl⟩) (ak (fun γ => ⟨rfl, fun w' h => ⟨9, #[.int .u64 1, .int .u64 1], exec_call rfl call9 rfl (mpn rfl), C3.out w'⟩⟩) (ak (fun γ => ⟨rfl, fun w' h => ⟨19, #[.int .u64 1], exec_call rfl call19 rfl (mpn rfl), C4.out w'⟩⟩) (ak (fun γ => ⟨rfl, fun w' h => ⟨9, #[.int .u64 1, .int .u64 0], exec_call rfl call9 rfl (mpn rfl), C5.out w'⟩⟩) (ak (fun γ => ⟨rfl, fun w' h => ⟨10, #[V [k1, 0]], exec_call rfl call10 rfl (mpn rfl), C6.out w'⟩⟩) (ak (fun γ => ⟨rfl, fun w' _ => ex_indexE2_0 rfl rfl rfl⟩) (ak (fun γ => ⟨rfl, fun w' _ => ex_buildE2 rfl rfl rfl⟩) (ak (fun γ => ⟨rfl, fun w' h => ⟨17, #[V [k1, k1], V [k1, m0]], exec_call rfl call17 rfl (mpn rfl), C7.out w'⟩⟩) (ak (fun γ => ⟨rfl, fun w' h => ⟨9, #[.int .u64 2, .int .u64 0], exec_call rfl call9 rfl (mpn rfl), C8.out w'⟩⟩) (ak (fun γ => ⟨rfl, fun w' _ => exec_eqE2 e1 rfl rfl rfl⟩) (ak (by refine fun γ => ⟨rfl, fun w' h => ?_⟩; clear h; go_simp) (ak (fun _ => ⟨rfl, fun _ _ => rfl⟩) (ak (fun γ => ⟨rfl, fun w' h => ex_loadA (i := 0) (k := 2) h 0 rfl rfl rfl Tryd.isAgg26 Tryd.sizeOf26 rfl rfl⟩) (ak (fun γ => ⟨rfl, fun w' h => ⟨9, #[.int .u64 2, .int .u64 0], exec_call rfl call9 rfl (mpn rfl), C8.out w'⟩⟩) (ak (fun γ => ⟨rfl, fun w' _ => exec_eqE2 e2 rfl rfl rfl⟩) (ak (by refine fun γ => ⟨rfl, fun w' h => ?_⟩; clear h; go_simp) (ak (fun _ => ⟨rfl, fun _ _ => rfl⟩) (ak (fun _ => ⟨rfl, fun _ _ => rfl⟩) (ak (by refine fun γ => ⟨rfl, fun w' h => ?_⟩; clear h; go_simp) (ak (by refine fun γ => ⟨rfl, fun w' h => ?_⟩; clear h; go_simp) (ak (fun _ => ⟨rfl, fun _ _ => rfl⟩) (ak (fun γ => ⟨rfl, fun w' h => ⟨15, #[], exec_call rfl call15 rfl (mpn rfl), C9.out w'⟩⟩) (ak (fun γ => ⟨rfl, fun w' h => ⟨19, #[.int .u64 6], exec_call rfl call19 rfl (mpn rfl), C10.out w'⟩⟩) (ak (fun γ => ⟨rfl, fun w' h => ⟨6, #[V [0, 0, k1, 0, 0, 0, 0, 0, 0, 0, 0, 0], N k6], exec_call rfl call6 rfl (mpn rfl), C11.out w'⟩⟩) (ak (fun γ => ⟨rfl, fun w' h => ⟨9, #[.int .u64 1, .int .u64 1], exec_call rfl call9 rfl (mpn rfl), C3.out w'⟩⟩) (ak (fun γ => ⟨rfl, fun w' _ => ex_buildE12a rfl rfl⟩) (ak (fun γ => ⟨rfl, fun w' _ => exec_eqE12 e3 rfl rfl rfl⟩) (ak (by refine fun γ => ⟨rfl, fun w' h => ?_⟩; clear h; go_simp) (ak (fun _ => ⟨rfl, fun _ _ => rfl⟩) trivial)))))))))))))))))))))))))))))))
 intro _ w3 H3
 clear H2
 refine rest0 rfl (then_normal (wp_ret ?_))
 repeat (first | refine then_ret ?_ | refine block_ret ?_)
 refine bodyPost_ret (v := .bool true) (by simp [results, Tryd.results5, go_sem, *]) rfl ?_
 exact ⟨rfl, H3.out.2⟩
def un1 : Nat → Int
 | 2 => 1
 | _ => 0
def un2 : Nat → Int
 | 4 => 1
 | _ => 0
def un3 : Nat → Int
 | 6 => 1
 | _ => 0
def un4 : Nat → Int
 | 8 => 1
 | _ => 0
def un5 : Nat → Int
 | 10 => 1
 | _ => 0
def un6 : Nat → Int
 | 0 => 1
 | 1 => 1
 | _ => 0
theorem un_1 : mul12 one12 un1 = un1 := funext fun j => by
 match j with
 | 0 => rfl
 | 1 => rfl
 | 2 => rfl
 | 3 => rfl
 | 4 => rfl
 | 5 => rfl
 | 6 => rfl
 | 7 => rfl
 | 8 => rfl
 | 9 => rfl
 | 10 => rfl
 | 11 => rfl
 | _ + 12 => rfl
theorem un_2 : mul12 un1 un1 = un2 := funext fun j => by
 match j with
 | 0 => rfl
 | 1 => rfl
 | 2 => rfl
 | 3 => rfl
 | 4 => rfl
 | 5 => rfl
 | 6 => rfl
 | 7 => rfl
 | 8 => rfl
 | 9 => rfl
 | 10 => rfl
 | 11 => rfl
 | _ + 12 => rfl
theorem un_3 : mul12 un2 un1 = un3 := funext fun j => by
 match j with
 | 0 => rfl
 | 1 => rfl
 | 2 => rfl
 | 3 => rfl
 | 4 => rfl
 | 5 => rfl
 | 6 => rfl
 | 7 => rfl
 | 8 => rfl
 | 9 => rfl
 | 10 => rfl
 | 11 => rfl
 | _ + 12 => rfl
theorem un_4 : mul12 un3 un1 = un4 := funext fun j => by
 match j with
 | 0 => rfl
 | 1 => rfl
 | 2 => rfl
 | 3 => rfl
 | 4 => rfl
 | 5 => rfl
 | 6 => rfl
 | 7 => rfl
 | 8 => rfl
 | 9 => rfl
 | 10 => rfl
 | 11 => rfl
 | _ + 12 => rfl
theorem un_5 : mul12 un4 un1 = un5 := funext fun j => by
 match j with
 | 0 => rfl
 | 1 => rfl
 | 2 => rfl
 | 3 => rfl
 | 4 => rfl
 | 5 => rfl
 | 6 => rfl
 | 7 => rfl
 | 8 => rfl
 | 9 => rfl
 | 10 => rfl
 | 11 => rfl
 | _ + 12 => rfl
theorem un_6 : mul12 un5 un1 = un6 := funext fun j => by
 match j with
 | 0 => rfl
 | 1 => rfl
 | 2 => rfl
 | 3 => rfl
 | 4 => rfl
 | 5 => rfl
 | 6 => rfl
 | 7 => rfl
 | 8 => rfl
 | 9 => rfl
 | 10 => rfl
 | 11 => rfl
 | _ + 12 => rfl
theorem un_six : pw12 un1 6 = un6 := by
 show mul12 (mul12 (mul12 (mul12 (mul12 (mul12 one12 un1) un1) un1) un1) un1) un1 = un6
 rw [un_1, un_2, un_3, un_4, un_5, un_6]
def wn1 : Nat → Nat
 | 2 => 1
 | _ => 0
theorem zn_wn : zn wn1 = un1 := funext fun j => by
 match j with
 | 0 => rfl
 | 1 => rfl
 | 2 => rfl
 | _ + 3 => rfl
theorem root4 : ∃ u v : Int, pz u = 2 ∧ pz v = 0 ∧ ∀ w, Mm w [(0, dtab)] → Calls Tryd.prog 12 #[V [4, 0]] w (Rt w (.tuple #[V [pz u, pz v], .int .i64 0])) := by
 have hq : Sq (((4 : Nat) : Int) * (4 : Nat) + ((0 : Nat) : Int) * (0 : Nat)) := sq_of (m := 4) (dv_zero.of (by decide))
 obtain ⟨x, y, h1, h2, hle, hc⟩ := rootT_ex 4 0 (small_big 4 (by decide)) big_pos hq
 have k1 : Dv (2 * (x * y)) := h2.of (by omega)
 have hxy : Dv x ∨ Dv y := (k1.prime.resolve_left not_two).prime
 have hy : Dv y := by
  rcases hxy with hx | hy
  ·exfalso
   have k2 : Dv (y * y + 2 * 2) := ((hx.mul x).sub h1).of (by omega)
   exact not_two (norm0 k2).2
  ·exact hy
 have hy0 := (pz_zero_iff y).2 hy
 have hy1 := (pz_zero_iff (-y)).2 ((hy.mul (-1)).of (by omega))
 have k3 : Dv ((x - 2) * (x + 2)) := (h1.add (hy.mul y)).of (by grind)
 have hx : pz x = 2 := by
  rcases k3.prime with k | k
  ·rw [pz_mod x 2 k]
   decide +kernel
  ·exfalso
   have e1 : pz x = pz (-2) := pz_mod x (-2) (k.of (by omega))
   have e2 : pz (-x) = pz 2 := pz_mod (-x) 2 ((k.mul (-1)).of (by omega))
   unfold Le2 at hle
   rw [hy0, hy1, e1, e2] at hle
   revert hle
   decide +kernel
 exact ⟨x, y, hx, hy0, hc⟩
theorem pz_12 (a : Nat → Int) : ∀ j, j < 12 → (fun j => pz (a j)) j < big := fun _ _ => pz_big _
theorem awake_any (w : World) (hm : Mm w [(0, dtab)]) : Calls Tryd.prog 5 #[] w (Rt w (.bool true)) := by
 obtain ⟨x, y, hx, hy, hc⟩ := root4
 have c6 := fun w => powT_any wn1 (fun _ _ => by unfold wn1; split <;> exact small_big _ (by decide)) 6 (small_big 6 (by decide)) w
 rw [zn_wn, un_six] at c6
 have s4 : (4 : Nat) < big := small_big 4 (by decide)
 have s2 : (2 : Nat) < big := small_big 2 (by decide)
 have s1 : (1 : Nat) < big := small_big 1 (by decide)
 have e1 := fun w => run_eqE2 (pz (((1 : Nat) : Int) * (1 : Nat) - ((1 : Nat) : Int) * (pz (-((1 : Nat) : Int)) : Nat))) (pz (((1 : Nat) : Int) * (pz (-((1 : Nat) : Int)) : Nat) + ((1 : Nat) : Int) * (1 : Nat))) 2 0 (pz_big _) (pz_big _) s2 big_pos w
 rw [show pz (((1 : Nat) : Int) * (1 : Nat) - ((1 : Nat) : Int) * (pz (-((1 : Nat) : Int)) : Nat)) = 2 by decide +kernel, show pz (((1 : Nat) : Int) * (pz (-((1 : Nat) : Int)) : Nat) + ((1 : Nat) : Int) * (1 : Nat)) = 0 by decide +kernel] at e1
 have c8 := fun w => mulT_any 1 1 1 (pz (-((1 : Nat) : Int))) s1 s1 s1 (pz_big _) w
 rw [show pz (((1 : Nat) : Int) * (1 : Nat) - ((1 : Nat) : Int) * (pz (-((1 : Nat) : Int)) : Nat)) = 2 by decide +kernel, show pz (((1 : Nat) : Int) * (pz (-((1 : Nat) : Int)) : Nat) + ((1 : Nat) : Int) * (1 : Nat)) = 0 by decide +kernel] at c8
 have e3 := fun w => run_eqE12 (fun j => pz (un6 j)) (fun j => pz (un6 j)) (pz_12 _) (pz_12 _) w
 rw [decide_eq_true rfl] at e3
 have l6 : lz un6 = [1, 1, 0, 0, 0, 0, 0, 0, 0, 0, 0, 0] := by simp only [lz, un6, pz_one, pz_zero]
 have e2 := fun w => run_eqE2 2 0 2 0 s2 big_pos s2 big_pos w
 rw [decide_eq_true rfl, decide_eq_true rfl] at e2
 have c2 := hc
 rw [hx, hy] at c2
 have e3' : ∀ w, (Op.equalIn 10000 28 (V (lz un6)) (V (lz un6))).run Tryd.prog w = .ok true w := e3
 have e3'' := e3'
 rw [l6] at e3'' c6
 exact awake_gen 1 2 4 6 2 0 _ _ 2 0 (fun j => [1, 1, 0, 0, 0, 0, 0, 0, 0, 0, 0, 0].getD j 0) rfl (fun w => by rw [run_eqN 4 4 s4 s4, decide_eq_true rfl]) e2 e2 e3'' (fun w => small_any 4 0 (by decide) (by decide) w) c2 (fun w => of_any 4 (by decide) w) (fun w => small_any 1 1 (by decide) (by decide) w) (fun w => of_any 1 (by decide) w) (fun w => small_any 1 0 (by decide) (by decide) w) (fun w => neg2_any 1 0 s1 big_pos w) c8 (fun w => small_any 2 0 (by decide) (by decide) w) w_any (fun w => of_any 6 (by decide) w) c6 w hm
end Rg
end Go.Proofs.YtgdlhgbdigpfhabDoor
end
