/- Texts of the proof, joined. -/
import Derived.Test.YtdbejmgomajjmaaGreatDoorP7
import Derived.BigRegion
section
namespace Go.Proofs.YtdbejmgomajjmaaGreatDoor
open Go.RowKit
namespace Rg
theorem mxc_0 {m r : Nat → Nat} (h : r 0 = m 0 ∧ r 1 = m 1) : mx12 m r (2 * (2 * 0 + 1)) = [m 0, m 1, m 2, m 3, m 4, m 5, m 6, m 7, m 8, m 9, m 10, m 11] := by
  show [r 0, r 1, m 2, m 3, m 4, m 5, m 6, m 7, m 8, m 9, m 10, m 11] = _
  rw [h.1, h.2]
theorem mxc_1 {m r : Nat → Nat} (h : r 0 = m 0 ∧ r 1 = m 1) : mx12 m r (2 * 1) = [m 0, m 1, m 2, m 3, m 4, m 5, m 6, m 7, m 8, m 9, m 10, m 11] := mxc_0 h
theorem mxc_s {m r : Nat → Nat} (h : (r 4 = m 4 ∧ r 5 = m 5) ∧ (r 8 = m 8 ∧ r 9 = m 9)) {j : Nat} (hj : j < 3) : mx12 m r (2 * (2 * j + 1 + 1)) = mx12 m r (2 * (2 * (j + 1) + 1)) := by
  match j, hj with
  | 0, _ =>
    show [r 0, r 1, r 2, r 3, m 4, m 5, m 6, m 7, m 8, m 9, m 10, m 11] = [r 0, r 1, r 2, r 3, r 4, r 5, m 6, m 7, m 8, m 9, m 10, m 11]
    rw [h.1.1, h.1.2]
  | 1, _ =>
    show [r 0, r 1, r 2, r 3, r 4, r 5, r 6, r 7, m 8, m 9, m 10, m 11] = [r 0, r 1, r 2, r 3, r 4, r 5, r 6, r 7, r 8, r 9, m 10, m 11]
    rw [h.2.1, h.2.2]
  | 2, _ => rfl
theorem mxc_e (m r : Nat → Nat) : mx12 m r (2 * (2 * 3 + 1)) = [r 0, r 1, r 2, r 3, r 4, r 5, r 6, r 7, r 8, r 9, r 10, r 11] := rfl
set_option maxHeartbeats 4000000 in
set_option maxRecDepth 100000 in
theorem conj12_gen (a m r : Nat → Nat)
    (hr : (r 0 = m 0 ∧ r 1 = m 1) ∧ ((r 4 = m 4 ∧ r 5 = m 5) ∧ (r 8 = m 8 ∧ r 9 = m 9)))
    (ca : ∀ w, Calls Tryz.prog 63 #[V [a 0, a 1, a 2, a 3, a 4, a 5, a 6, a 7, a 8, a 9, a 10, a 11]] w fun e w' => e = .returned (V [m 0, m 1, m 2, m 3, m 4, m 5, m 6, m 7, m 8, m 9, m 10, m 11]) ∧ Below w.heap.size w w')
    (cl : ∀ k, k < 3 → ∀ w, Calls Tryz.prog 91 #[V [m (2 * (2 * k + 1)), m (2 * (2 * k + 1) + 1)]] w fun e w' => e = .returned (V [r (2 * (2 * k + 1)), r (2 * (2 * k + 1) + 1)]) ∧ Below w.heap.size w w') (w : World) :
    Calls Tryz.prog 44 #[V [a 0, a 1, a 2, a 3, a 4, a 5, a 6, a 7, a 8, a 9, a 10, a 11]] w fun e w' => e = .returned (V [r 0, r 1, r 2, r 3, r 4, r 5, r 6, r 7, r 8, r 9, r 10, r 11]) ∧ Below w.heap.size w w' := by
  have H0 : Hid (_ ∧ _) := ⟨Mm.nil w, Below.refl w.heap.size w⟩
  have HR : Hid _ := hr
  have CA : Hid _ := ca
  have CL : Hid _ := cl
  clear hr ca cl
  go_enter Tryz.func44, Tryz.ntmps44
  refine wp_seq ?_
  refine walk_seqA 2 [.made (cel [a 0, a 1, a 2, a 3, a 4, a 5, a 6, a 7, a 8, a 9, a 10, a 11]) 32, .made (cel [0, 0, 0, 0, 0, 0, 0, 0, 0, 0, 0, 0]) 32] (sB H0) ?ho1 ?he1
  case ho1 => exact ak (fun γ => ⟨rfl, fun w' => ex_boxA rfl rfl⟩) (ak (fun γ => ⟨rfl, fun w' => ex_madeE12 rfl⟩) trivial)
  intro γ w1 l hM hl
  have H1 : Hid (Mm w1 [(γ 0, cel [a 0, a 1, a 2, a 3, a 4, a 5, a 6, a 7, a 8, a 9, a 10, a 11]), (γ 1, cel [0, 0, 0, 0, 0, 0, 0, 0, 0, 0, 0, 0])] ∧ _) := growB H0 hM (Nat.le_refl _) hl [0, 1] rfl (by decide)
  have o1_0 := ownB H0 hM (Nat.le_refl _) hl (i := 0) rfl
  have o1_1 := ownB H0 hM (Nat.le_refl _) hl (i := 1) rfl
  clear hM hl l
  generalize γ 0 = γ1_0 at H1 o1_0 ⊢
  generalize γ 1 = γ1_1 at H1 o1_1 ⊢
  clear γ
  refine rest0 rfl (then_normal (wp_seq ?_))
  refine walk_seqB 2 [.quiet (V [a 0, a 1, a 2, a 3, a 4, a 5, a 6, a 7, a 8, a 9, a 10, a 11]), .call (V [m 0, m 1, m 2, m 3, m 4, m 5, m 6, m 7, m 8, m 9, m 10, m 11])] H1 ?ho2 ?he2
  case ho2 => exact ak (fun γ => ⟨rfl, fun w' h => ex_loadA (i := 0) (k := 12) h 0 rfl rfl rfl Tryz.isAgg32 Tryz.sizeOf32 rfl rfl⟩) (ak (fun γ => ⟨rfl, fun w' h => ⟨63, #[V [a 0, a 1, a 2, a 3, a 4, a 5, a 6, a 7, a 8, a 9, a 10, a 11]], exec_call rfl call63 rfl (mpn rfl), CA.out w'⟩⟩) trivial)
  intro _ w2 H2
  clear H1
  refine rest_at (l := [2]) rfl ?_
  refine rest_store rfl rfl rfl (ex_storeA (i := 0) (ms := [m 0, m 1, m 2, m 3, m 4, m 5, m 6, m 7, m 8, m 9, m 10, m 11]) H2.out.1 0 rfl rfl rfl rfl Tryz.sizeOf32 (Nat.le_of_ble_eq_true rfl)) ?_
  have H3 : Hid (Mm (w2.setCells γ1_0 (6 * 0) (cel [m 0, m 1, m 2, m 3, m 4, m 5, m 6, m 7, m 8, m 9, m 10, m 11])) [(γ1_0, cel [m 0, m 1, m 2, m 3, m 4, m 5, m 6, m 7, m 8, m 9, m 10, m 11]), (γ1_1, cel [0, 0, 0, 0, 0, 0, 0, 0, 0, 0, 0, 0])] ∧ Below w.heap.size w (w2.setCells γ1_0 (6 * 0) (cel [m 0, m 1, m 2, m 3, m 4, m 5, m 6, m 7, m 8, m 9, m 10, m 11]))) := ⟨by
    have h := H2.out.1.put 0 (off := 6 * 0) (vs := cel [m 0, m 1, m 2, m 3, m 4, m 5, m 6, m 7, m 8, m 9, m 10, m 11]) rfl (by simp only [cel_len]; exact Nat.le_of_ble_eq_true rfl)
    rw [cel_patch] at h
    exact h, below_setCells _ o1_0.out _ _ _ H2.out.2⟩
  clear H2
  generalize hgw : World.setCells _ _ _ _ = w3 at H3 ⊢
  clear hgw
  refine rest_nil (then_normal ?_)
  refine wp_seq (wp_seq ?_)
  refine walk_seqB 1 [.quiet (.int .i64 1)] H3 ?ho3 ?he3
  case ho3 => exact ak (fun _ => ⟨rfl, fun _ _ => rfl⟩) trivial
  intro _ w4 H4
  clear H3
  refine rest0 rfl (then_normal (wp_block ?_))
  refine loop_ghost (α := Nat) (fun k a' w' => ∃ s0 : Nat → Value, a' = ⟨#[V [a 0, a 1, a 2, a 3, a 4, a 5, a 6, a 7, a 8, a 9, a 10, a 11], PT γ1_0 0, PT γ1_1 0, .int .i64 ((2 * k + 1 : Nat) : Int), V [a 0, a 1, a 2, a 3, a 4, a 5, a 6, a 7, a 8, a 9, a 10, a 11], V [m 0, m 1, m 2, m 3, m 4, m 5, m 6, m 7, m 8, m 9, m 10, m 11], s0 6, s0 7, s0 8, s0 9, s0 10, s0 11, s0 12, s0 13, s0 14, s0 15, undef], []⟩ ∧ (Mm w' [(γ1_0, cel (mx12 m r (2 * (2 * k + 1)))), (γ1_1, cel [0, 0, 0, 0, 0, 0, 0, 0, 0, 0, 0, 0])] ∧ Below w.heap.size w w') ∧ k ≤ 3) (fun k => 3 - k) 0 ?st0 ?rd0
  case st0 => exact ⟨(slotfn [undef, undef, undef, undef, undef, undef, undef, undef, undef, undef, undef, undef, undef, undef, undef, undef]), rfl, ⟨H4.out.1.atk (by rw [mxc_0 HR.out.1]), H4.out.2⟩, by omega⟩
  intro k a' w5 hI
  obtain ⟨s0, rfl, hMB, hk0⟩ := hI
  have H5 : Hid (_ ∧ _) := hMB
  clear hMB H4
  by_cases hlt : k < 3
  · have hrd : True := trivial
    clear hrd
    refine wp_seq (wp_seq ?_)
    refine walk_seqB 2 [.quiet (.int .i64 ((2 * k + 1 : Nat) : Int)), .quiet (.bool true)] H5 ?ho4 ?he4
    case ho4 => exact ak (fun _ => ⟨rfl, fun _ _ => rfl⟩) (ak (by refine fun γ => ⟨rfl, fun w' h => ?_⟩; clear h; go_simp <;> omega) trivial)
    intro _ w6 H6
    clear H5
    refine rest0 rfl (then_normal (wp_cond_true rfl ?_))
    refine wp_skip (then_normal ?_)
    refine wp_seq (wp_block ?_)
    refine walk_seqB 6 [.quiet (.int .i64 ((2 * k + 1 : Nat) : Int)), .quiet (.int .i64 ((2 * k + 1 : Nat) : Int)), .quiet (PT γ1_0 (6 * (2 * (2 * k + 1)))), .quiet (V [m (2 * (2 * k + 1)), m (2 * (2 * k + 1) + 1)]), .call (V [r (2 * (2 * k + 1)), r (2 * (2 * k + 1) + 1)]), .quiet (PT γ1_0 (6 * (2 * (2 * k + 1))))] H6 ?ho5 ?he5
    case ho5 => exact ak (fun _ => ⟨rfl, fun _ _ => rfl⟩) (ak (fun _ => ⟨rfl, fun _ _ => rfl⟩) (ak (fun γ => ⟨rfl, fun w' _ => ex_idxE12 rfl rfl rfl (by omega)⟩) (ak (fun γ => ⟨rfl, fun w' h => ex_loadA (i := 2 * (2 * k + 1)) (k := 2) h 0 rfl rfl rfl Tryz.isAgg28 Tryz.sizeOf28 (mx12_ld m r (by omega)) rfl⟩) (ak (fun γ => ⟨rfl, fun w' h => ⟨91, #[V [m (2 * (2 * k + 1)), m (2 * (2 * k + 1) + 1)]], exec_call rfl call91 rfl (mpn rfl), CL.out k hlt w'⟩⟩) (ak (fun γ => ⟨rfl, fun w' _ => ex_idxE12 rfl rfl rfl (by omega)⟩) trivial)))))
    intro _ w7 H7
    clear H6
    refine rest_at (l := [6]) rfl ?_
    refine rest_store rfl rfl rfl (ex_storeA (i := 2 * (2 * k + 1)) (ms := [r (2 * (2 * k + 1)), r (2 * (2 * k + 1) + 1)]) H7.out.1 0 rfl rfl rfl rfl Tryz.sizeOf28 (mx12_bd m r rfl (by omega))) ?_
    have H8 : Hid (Mm (w7.setCells γ1_0 (6 * (2 * (2 * k + 1))) (cel [r (2 * (2 * k + 1)), r (2 * (2 * k + 1) + 1)])) [(γ1_0, cel (mx12 m r (2 * (2 * k + 1 + 1)))), (γ1_1, cel [0, 0, 0, 0, 0, 0, 0, 0, 0, 0, 0, 0])] ∧ Below w.heap.size w (w7.setCells γ1_0 (6 * (2 * (2 * k + 1))) (cel [r (2 * (2 * k + 1)), r (2 * (2 * k + 1) + 1)]))) := ⟨by
      have h := H7.out.1.put 0 (off := 6 * (2 * (2 * k + 1))) (vs := cel [r (2 * (2 * k + 1)), r (2 * (2 * k + 1) + 1)]) rfl (by rw [cel_len, cel_len]; exact cel_bd (mx12_bd m r rfl (by omega)))
      rw [cel_patch, mx12_st m r (by omega)] at h
      exact h, below_setCells _ o1_0.out _ _ _ H7.out.2⟩
    clear H7
    generalize hgw : World.setCells _ _ _ _ = w8 at H8 ⊢
    clear hgw
    refine rest_nil (block_normal (then_normal ?_))
    refine walk_seqB 2 [.quiet (.int .i64 ((2 * k + 1 : Nat) : Int)), .quiet (.int .i64 ((2 * (k + 1) + 1 : Nat) : Int))] H8 ?ho6 ?he6
    case ho6 => exact ak (fun _ => ⟨rfl, fun _ _ => rfl⟩) (ak (by refine fun γ => ⟨rfl, fun w' h => ?_⟩; clear h; go_simp; rw [IntKind.wrap_i64]; omega) trivial)
    intro _ w9 H9
    clear H8
    refine rest_at (l := [2]) rfl ?_
    refine rest_set (d := 3) rfl rfl rfl rfl ?_
    simp only [Act.put, sa, sz, ss]
    refine rest_nil (then_normal ?_)
    exact ⟨k + 1, ⟨(slotfn [undef, undef, undef, undef, undef, undef, .int .i64 ((2 * k + 1 : Nat) : Int), .bool true, .int .i64 ((2 * k + 1 : Nat) : Int), .int .i64 ((2 * (k + 1) + 1 : Nat) : Int), .int .i64 ((2 * k + 1 : Nat) : Int), .int .i64 ((2 * k + 1 : Nat) : Int), PT γ1_0 (6 * (2 * (2 * k + 1))), V [m (2 * (2 * k + 1)), m (2 * (2 * k + 1) + 1)], V [r (2 * (2 * k + 1)), r (2 * (2 * k + 1) + 1)], PT γ1_0 (6 * (2 * (2 * k + 1)))]), rfl, ⟨(H9.out.1).atk (by rw [mxc_s HR.out.2 hlt]), H9.out.2⟩, by omega⟩, by omega⟩
  have hkN : k = 3 := by omega
  subst hkN
  have H10 : Hid (Mm w5 [(γ1_0, cel [r 0, r 1, r 2, r 3, r 4, r 5, r 6, r 7, r 8, r 9, r 10, r 11]), (γ1_1, cel [0, 0, 0, 0, 0, 0, 0, 0, 0, 0, 0, 0])] ∧ Below w.heap.size w w5) := ⟨H5.out.1.atk (by rw [mxc_e m r]), H5.out.2⟩
  clear H5
  refine wp_seq (wp_seq ?_)
  refine walk_seqB 2 [.quiet (.int .i64 ((2 * 3 + 1 : Nat) : Int)), .quiet (.bool false)] H10 ?ho7 ?he7
  case ho7 => exact ak (fun _ => ⟨rfl, fun _ _ => rfl⟩) (ak (by refine fun γ => ⟨rfl, fun w' h => ?_⟩; clear h; go_simp <;> omega) trivial)
  intro _ w11 H11
  clear H10
  refine rest0 rfl (then_normal (wp_cond_false rfl ?_))
  refine wp_exit ?_
  repeat refine then_exit ?_
  refine block_exit ?_
  refine then_normal (wp_seq ?_)
  refine walk_seqB 1 [.quiet (V [r 0, r 1, r 2, r 3, r 4, r 5, r 6, r 7, r 8, r 9, r 10, r 11])] H11 ?ho8 ?he8
  case ho8 => exact ak (fun γ => ⟨rfl, fun w' h => ex_loadA (i := 0) (k := 12) h 0 rfl rfl rfl Tryz.isAgg32 Tryz.sizeOf32 rfl rfl⟩) trivial
  intro _ w12 H12
  clear H11
  refine rest_at (l := [1]) rfl ?_
  refine rest_store rfl rfl rfl (ex_storeA (i := 0) (ms := [r 0, r 1, r 2, r 3, r 4, r 5, r 6, r 7, r 8, r 9, r 10, r 11]) H12.out.1 1 rfl rfl rfl rfl Tryz.sizeOf32 (Nat.le_of_ble_eq_true rfl)) ?_
  have H13 : Hid (Mm (w12.setCells γ1_1 (6 * 0) (cel [r 0, r 1, r 2, r 3, r 4, r 5, r 6, r 7, r 8, r 9, r 10, r 11])) [(γ1_0, cel [r 0, r 1, r 2, r 3, r 4, r 5, r 6, r 7, r 8, r 9, r 10, r 11]), (γ1_1, cel [r 0, r 1, r 2, r 3, r 4, r 5, r 6, r 7, r 8, r 9, r 10, r 11])] ∧ Below w.heap.size w (w12.setCells γ1_1 (6 * 0) (cel [r 0, r 1, r 2, r 3, r 4, r 5, r 6, r 7, r 8, r 9, r 10, r 11]))) := ⟨by
    have h := H12.out.1.put 1 (off := 6 * 0) (vs := cel [r 0, r 1, r 2, r 3, r 4, r 5, r 6, r 7, r 8, r 9, r 10, r 11]) rfl (by simp only [cel_len]; exact Nat.le_of_ble_eq_true rfl)
    rw [cel_patch] at h
    exact h, below_setCells _ o1_1.out _ _ _ H12.out.2⟩
  clear H12
  generalize hgw : World.setCells _ _ _ _ = w13 at H13 ⊢
  clear hgw
  refine rest_nil (then_normal (wp_ret ?_))
  repeat (first | refine then_ret ?_ | refine block_ret ?_)
  have hf0 := cel_var (k := 12) H13.out.1 1 rfl Tryz.isAgg32 Tryz.sizeOf32 rfl
  refine bodyPost_ret (v := V [r 0, r 1, r 2, r 3, r 4, r 5, r 6, r 7, r 8, r 9, r 10, r 11]) (by simp [results, Tryz.results44, asAddr, hf0]) rfl ?_
  exact ⟨rfl, H13.out.2⟩
set_option maxHeartbeats 4000000 in
set_option maxRecDepth 100000 in
theorem factor_gen (q cq : Nat → Nat) (g n o s nn k1 o0 o1 : Nat) (hnn : nn < 12)
    (hq : [k1, 0] = [q (2 * 0), q (2 * 0 + 1)])
    (co : ∀ w, Calls Tryz.prog 206 #[] w fun e w' => e = .returned (V [o0, o1]) ∧ Below w.heap.size w w')
    (cn : ∀ w, Calls Tryz.prog 71 #[] w fun e w' => e = .returned (V [k1, 0]) ∧ Below w.heap.size w w')
    (cc : ∀ k, ∀ w, Calls Tryz.prog 116 #[V [q (2 * k), q (2 * k + 1)]] w fun e w' => e = .returned (V [cq (2 * k), cq (2 * k + 1)]) ∧ Below w.heap.size w w')
    (cm : ∀ k, ∀ w, Mm w [(g, modx n o s)] → Calls Tryz.prog 158 #[.agg #[PT g 0], V [cq (2 * k), cq (2 * k + 1)], V [o0, o1]] w fun e w' => e = .returned (V [q (2 * (k + 1)), q (2 * (k + 1) + 1)]) ∧ Below w.heap.size w w') (w : World) (hm : Mm w [(g, modx n o s)]) :
    Calls Tryz.prog 157 #[.agg #[PT g 0], .int .i64 ((nn : Nat) : Int)] w fun e w' => e = .returned (V [q (2 * nn), q (2 * nn + 1)]) ∧ Below w.heap.size w w' := by
  have H0 : Hid (_ ∧ _) := ⟨hm, Below.refl w.heap.size w⟩
  clear hm
  have HQ : Hid _ := hq
  have CO : Hid _ := co
  have CN : Hid _ := cn
  have CC : Hid _ := cc
  have CM : Hid _ := cm
  clear hq co cn cc cm
  go_enter Tryz.func157, Tryz.ntmps157
  refine wp_seq ?_
  refine walk_seqA 2 [.made [PT g 0] 100, .made (cel [0, 0]) 28] (sB H0) ?ho1 ?he1
  case ho1 => exact ak (fun γ => ⟨rfl, fun w' => ex_boxF rfl rfl⟩) (ak (fun γ => ⟨rfl, fun w' => ex_madeE2 rfl⟩) trivial)
  intro γ w1 l hM hl
  have H1 : Hid (Mm w1 [(γ 0, [PT g 0]), (γ 1, cel [0, 0]), (g, modx n o s)] ∧ _) := growB H0 hM (Nat.le_refl _) hl [0, 1] rfl (by decide)
  have o1_0 := ownB H0 hM (Nat.le_refl _) hl (i := 0) rfl
  have o1_1 := ownB H0 hM (Nat.le_refl _) hl (i := 1) rfl
  clear hM hl l
  generalize γ 0 = γ1_0 at H1 o1_0 ⊢
  generalize γ 1 = γ1_1 at H1 o1_1 ⊢
  clear γ
  refine rest0 rfl (then_normal (wp_seq ?_))
  refine walk_seqA 6 [.call (V [o0, o1]), .call (V [k1, 0]), .made (cel [0, 0]) 28, .made (cel [0, 0]) 28, .laid 2 (cel [0, 0]) (cel [o0, o1]), .laid 3 (cel [0, 0]) (cel [k1, 0])] (sB H1) ?ho2 ?he2 (hL := ?hL2)
  case hL2 => exact ⟨⟨_, rfl⟩, ⟨_, rfl⟩, trivial⟩
  case ho2 => exact ak (fun γ => ⟨rfl, fun w' h => ⟨206, #[], exec_call rfl call206 rfl (mpn rfl), CO.out w'⟩⟩) (ak (fun γ => ⟨rfl, fun w' h => ⟨71, #[], exec_call rfl call71 rfl (mpn rfl), CN.out w'⟩⟩) (ak (fun γ => ⟨rfl, fun w' => ex_madeE2 rfl⟩) (ak (fun γ => ⟨rfl, fun w' => ex_madeE2 rfl⟩) (ak (fun γ => ⟨rfl, rfl, rfl, fun w' h => ex_laidA h rfl Tryz.sizeOf28 rfl rfl rfl⟩) (ak (fun γ => ⟨rfl, rfl, rfl, fun w' h => ex_laidA h rfl Tryz.sizeOf28 rfl rfl rfl⟩) trivial)))))
  intro γ w2 l hM hl
  have H2 : Hid (Mm w2 [(γ 2, cel [o0, o1]), (γ 3, cel [k1, 0]), (γ1_0, [PT g 0]), (γ1_1, cel [0, 0]), (g, modx n o s)] ∧ _) := growB H1 hM (Nat.le_refl _) hl [2, 3] rfl (by decide)
  have o2_2 := ownB H1 hM (Nat.le_refl _) hl (i := 2) rfl
  have o2_3 := ownB H1 hM (Nat.le_refl _) hl (i := 3) rfl
  clear hM hl l H1
  generalize γ 2 = γ2_2 at H2 o2_2 ⊢
  generalize γ 3 = γ2_3 at H2 o2_3 ⊢
  clear γ
  refine rest0 rfl (then_normal (wp_seq (wp_seq ?_)))
  refine walk_seqB 2 [.quiet (.int .i64 ((nn : Nat) : Int)), .quiet (.int .i64 0)] H2 ?ho3 ?he3
  case ho3 => exact ak (fun _ => ⟨rfl, fun _ _ => rfl⟩) (ak (fun _ => ⟨rfl, fun _ _ => rfl⟩) trivial)
  intro _ w3 H3
  clear H2
  refine rest0 rfl (then_normal (wp_block ?_))
  refine loop_ghost (α := Nat) (fun k a' w' => ∃ s0 : Nat → Value, a' = ⟨#[.agg #[PT g 0], .int .i64 ((nn : Nat) : Int), PT γ1_0 0, undef, PT γ1_1 0, PT γ2_2 0, PT γ2_3 0, V [o0, o1], V [k1, 0], .int .i64 ((nn : Nat) : Int), .int .i64 ((k : Nat) : Int), s0 11, s0 12, s0 13, s0 14, s0 15, s0 16, s0 17, undef], []⟩ ∧ (Mm w' [(γ2_2, cel [o0, o1]), (γ2_3, cel [q (2 * k), q (2 * k + 1)]), (γ1_0, [PT g 0]), (γ1_1, cel [0, 0]), (g, modx n o s)] ∧ Below w.heap.size w w') ∧ k ≤ nn) (fun k => nn - k) 0 ?st0 ?rd0
  case st0 => exact ⟨(slotfn [undef, undef, undef, undef, undef, undef, undef, undef, undef, undef, undef, undef, undef, undef, undef, undef, undef, undef]), rfl, ⟨H3.out.1.atk (by rw [HQ.out]), H3.out.2⟩, by omega⟩
  intro k a' w4 hI
  obtain ⟨s0, rfl, hMB, hk0⟩ := hI
  have H4 : Hid (_ ∧ _) := hMB
  clear hMB H3
  by_cases hlt : k < nn
  · have hrd : True := trivial
    clear hrd
    refine wp_seq ?_
    refine walk_seqB 1 [.quiet (.bool true)] H4 ?ho4 ?he4
    case ho4 => exact ak (by refine fun γ => ⟨rfl, fun w' h => ?_⟩; clear h; go_simp <;> omega) trivial
    intro _ w5 H5
    clear H4
    refine rest0 rfl (then_normal (wp_seq ?_))
    refine wp_cond_true rfl (wp_skip ?_)
    refine then_normal (wp_seq (wp_block ?_))
    refine walk_anyB 5 [.quiet (.agg #[PT g 0]), .quiet (V [q (2 * k), q (2 * k + 1)]), .call (V [cq (2 * k), cq (2 * k + 1)]), .quiet (V [o0, o1]), .call (V [q (2 * (k + 1)), q (2 * (k + 1) + 1)])] H5 ?ho5 ?he5
    case ho5 => exact ak (fun γ => ⟨rfl, fun w' h => ex_loadF h 2 rfl rfl rfl rfl⟩) (ak (fun γ => ⟨rfl, fun w' h => ex_loadA (i := 0) (k := 2) h 1 rfl rfl rfl Tryz.isAgg28 Tryz.sizeOf28 rfl rfl⟩) (ak (fun γ => ⟨rfl, fun w' h => ⟨116, #[V [q (2 * k), q (2 * k + 1)]], exec_call rfl call116 rfl (mpn rfl), CC.out k w'⟩⟩) (ak (fun γ => ⟨rfl, fun w' h => ex_loadA (i := 0) (k := 2) h 0 rfl rfl rfl Tryz.isAgg28 Tryz.sizeOf28 rfl rfl⟩) (ak (fun γ => ⟨rfl, fun w' h => ⟨158, #[.agg #[PT g 0], V [cq (2 * k), cq (2 * k + 1)], V [o0, o1]], exec_call rfl call158 rfl (mpn rfl), CM.out k w' (h.one 4 rfl)⟩⟩) trivial))))
    intro _ w6 H6
    clear H5
    refine rest_at (l := [5]) rfl ?_
    refine rest_store rfl rfl rfl (ex_storeA (i := 0) (ms := [q (2 * (k + 1)), q (2 * (k + 1) + 1)]) H6.out.1 1 rfl rfl rfl rfl Tryz.sizeOf28 (Nat.le_of_ble_eq_true rfl)) ?_
    have H7 : Hid (Mm (w6.setCells γ2_3 (6 * 0) (cel [q (2 * (k + 1)), q (2 * (k + 1) + 1)])) [(γ2_2, cel [o0, o1]), (γ2_3, cel [q (2 * (k + 1)), q (2 * (k + 1) + 1)]), (γ1_0, [PT g 0]), (γ1_1, cel [0, 0]), (g, modx n o s)] ∧ Below w.heap.size w (w6.setCells γ2_3 (6 * 0) (cel [q (2 * (k + 1)), q (2 * (k + 1) + 1)]))) := ⟨by
      have h := H6.out.1.put 1 (off := 6 * 0) (vs := cel [q (2 * (k + 1)), q (2 * (k + 1) + 1)]) rfl (by simp only [cel_len]; exact Nat.le_of_ble_eq_true rfl)
      rw [cel_patch] at h
      exact h, below_setCells _ o2_3.out _ _ _ H6.out.2⟩
    clear H6
    generalize hgw : World.setCells _ _ _ _ = w7 at H7 ⊢
    clear hgw
    refine rest_nil (block_normal (then_normal ?_))
    refine walk_seqB 1 [.quiet (.int .i64 ((k + 1 : Nat) : Int))] H7 ?ho6 ?he6
    case ho6 => exact ak (by refine fun γ => ⟨rfl, fun w' h => ?_⟩; clear h; go_simp; rw [IntKind.wrap_i64]; omega) trivial
    intro _ w8 H8
    clear H7
    refine rest_at (l := [1]) rfl ?_
    refine rest_set (d := 10) rfl rfl rfl rfl ?_
    simp only [Act.put, sa, sz, ss]
    refine rest_nil (then_normal ?_)
    exact ⟨k + 1, ⟨(slotfn [undef, undef, undef, undef, undef, undef, undef, undef, undef, undef, undef, .bool true, .agg #[PT g 0], V [q (2 * k), q (2 * k + 1)], V [cq (2 * k), cq (2 * k + 1)], V [o0, o1], V [q (2 * (k + 1)), q (2 * (k + 1) + 1)], .int .i64 ((k + 1 : Nat) : Int)]), rfl, ⟨H8.out.1, H8.out.2⟩, by omega⟩, by omega⟩
  have hkN : nn = k := by omega
  subst hkN
  refine wp_seq ?_
  refine walk_seqB 1 [.quiet (.bool false)] H4 ?ho7 ?he7
  case ho7 => exact ak (by refine fun γ => ⟨rfl, fun w' h => ?_⟩; clear h; go_simp <;> omega) trivial
  intro _ w9 H9
  clear H4
  refine rest0 rfl (then_normal (wp_seq (wp_cond_false rfl ?_)))
  refine wp_exit ?_
  repeat refine then_exit ?_
  refine block_exit ?_
  refine then_normal (wp_seq ?_)
  refine walk_seqB 1 [.quiet (V [q (2 * nn), q (2 * nn + 1)])] H9 ?ho8 ?he8
  case ho8 => exact ak (fun γ => ⟨rfl, fun w' h => ex_loadA (i := 0) (k := 2) h 1 rfl rfl rfl Tryz.isAgg28 Tryz.sizeOf28 rfl rfl⟩) trivial
  intro _ w10 H10
  clear H9
  refine rest_at (l := [1]) rfl ?_
  refine rest_store rfl rfl rfl (ex_storeA (i := 0) (ms := [q (2 * nn), q (2 * nn + 1)]) H10.out.1 3 rfl rfl rfl rfl Tryz.sizeOf28 (Nat.le_of_ble_eq_true rfl)) ?_
  have H11 : Hid (Mm (w10.setCells γ1_1 (6 * 0) (cel [q (2 * nn), q (2 * nn + 1)])) [(γ2_2, cel [o0, o1]), (γ2_3, cel [q (2 * nn), q (2 * nn + 1)]), (γ1_0, [PT g 0]), (γ1_1, cel [q (2 * nn), q (2 * nn + 1)]), (g, modx n o s)] ∧ Below w.heap.size w (w10.setCells γ1_1 (6 * 0) (cel [q (2 * nn), q (2 * nn + 1)]))) := ⟨by
    have h := H10.out.1.put 3 (off := 6 * 0) (vs := cel [q (2 * nn), q (2 * nn + 1)]) rfl (by simp only [cel_len]; exact Nat.le_of_ble_eq_true rfl)
    rw [cel_patch] at h
    exact h, below_setCells _ o1_1.out _ _ _ H10.out.2⟩
  clear H10
  generalize hgw : World.setCells _ _ _ _ = w11 at H11 ⊢
  clear hgw
  refine rest_nil (then_normal (wp_ret ?_))
  repeat (first | refine then_ret ?_ | refine block_ret ?_)
  have hf0 := cel_var (k := 2) H11.out.1 3 rfl Tryz.isAgg28 Tryz.sizeOf28 rfl
  refine bodyPost_ret (v := V [q (2 * nn), q (2 * nn + 1)]) (by simp [results, Tryz.results157, asAddr, hf0]) rfl ?_
  exact ⟨rfl, H11.out.2⟩
set_option maxHeartbeats 4000000 in
set_option maxRecDepth 100000 in
theorem turn_odd (a b p r : Nat → Nat) (g n o s nn f0 f1 : Nat)
    (hn : ((nn : Nat) : Int).tmod 2 = 1)
    (hr : r 0 = b 0 ∧ r 1 = b 1)
    (hp : [f0, f1] = [p (2 * 1), p (2 * 1 + 1)])
    (cf : ∀ w, Mm w [(g, modx n o s)] → Calls Tryz.prog 157 #[.agg #[PT g 0], .int .i64 ((nn : Nat) : Int)] w fun e w' => e = .returned (V [f0, f1]) ∧ Below w.heap.size w w')
    (cm : ∀ k, k < 6 → ∀ w, Mm w [(g, modx n o s)] → Calls Tryz.prog 158 #[.agg #[PT g 0], V [b (2 * k), b (2 * k + 1)], V [p (2 * k), p (2 * k + 1)]] w fun e w' => e = .returned (V [r (2 * k), r (2 * k + 1)]) ∧ Below w.heap.size w w')
    (cp : ∀ k, k < 6 → ∀ w, Mm w [(g, modx n o s)] → Calls Tryz.prog 158 #[.agg #[PT g 0], V [p (2 * k), p (2 * k + 1)], V [f0, f1]] w fun e w' => e = .returned (V [p (2 * (k + 1)), p (2 * (k + 1) + 1)]) ∧ Below w.heap.size w w')
    (cl : ∀ k, k < 6 → ∀ w, Calls Tryz.prog 116 #[V [a (2 * k), a (2 * k + 1)]] w fun e w' => e = .returned (V [b (2 * k), b (2 * k + 1)]) ∧ Below w.heap.size w w') (w : World) (hm : Mm w [(g, modx n o s)]) :
    Calls Tryz.prog 89 #[.agg #[PT g 0], V [a 0, a 1, a 2, a 3, a 4, a 5, a 6, a 7, a 8, a 9, a 10, a 11], .int .i64 ((nn : Nat) : Int)] w fun e w' => e = .returned (V [r 0, r 1, r 2, r 3, r 4, r 5, r 6, r 7, r 8, r 9, r 10, r 11]) ∧ Below w.heap.size w w' := by
  have H0 : Hid (_ ∧ _) := ⟨hm, Below.refl w.heap.size w⟩
  clear hm
  have HN : Hid _ := hn
  have HR : Hid _ := hr
  have HP : Hid _ := hp
  have CF : Hid _ := cf
  have CM : Hid _ := cm
  have CP : Hid _ := cp
  have CL : Hid _ := cl
  clear hn hr hp cf cm cp cl
  go_enter Tryz.func89, Tryz.ntmps89
  refine wp_seq ?_
  refine walk_seqA 3 [.made [PT g 0] 100, .made (cel [a 0, a 1, a 2, a 3, a 4, a 5, a 6, a 7, a 8, a 9, a 10, a 11]) 32, .made (cel [0, 0, 0, 0, 0, 0, 0, 0, 0, 0, 0, 0]) 32] (sB H0) ?ho1 ?he1
  case ho1 => exact ak (fun γ => ⟨rfl, fun w' => ex_boxF rfl rfl⟩) (ak (fun γ => ⟨rfl, fun w' => ex_boxA rfl rfl⟩) (ak (fun γ => ⟨rfl, fun w' => ex_madeE12 rfl⟩) trivial))
  intro γ w1 l hM hl
  have H1 : Hid (Mm w1 [(γ 0, [PT g 0]), (γ 1, cel [a 0, a 1, a 2, a 3, a 4, a 5, a 6, a 7, a 8, a 9, a 10, a 11]), (γ 2, cel [0, 0, 0, 0, 0, 0, 0, 0, 0, 0, 0, 0]), (g, modx n o s)] ∧ _) := growB H0 hM (Nat.le_refl _) hl [0, 1, 2] rfl (by decide)
  have o1_0 := ownB H0 hM (Nat.le_refl _) hl (i := 0) rfl
  have o1_1 := ownB H0 hM (Nat.le_refl _) hl (i := 1) rfl
  have o1_2 := ownB H0 hM (Nat.le_refl _) hl (i := 2) rfl
  clear hM hl l
  generalize γ 0 = γ1_0 at H1 o1_0 ⊢
  generalize γ 1 = γ1_1 at H1 o1_1 ⊢
  generalize γ 2 = γ1_2 at H1 o1_2 ⊢
  clear γ
  refine rest0 rfl (then_normal (wp_seq (wp_seq ?_)))
  refine walk_seqB 3 [.quiet (.int .i64 ((nn : Nat) : Int)), .quiet (.int .i64 1), .quiet (.bool true)] H1 ?ho2 ?he2
  case ho2 => exact ak (fun _ => ⟨rfl, fun _ _ => rfl⟩) (ak (by refine fun γ => ⟨rfl, fun w' h => ?_⟩; clear h; go_simp; exact HN.out) (ak (by refine fun γ => ⟨rfl, fun w' h => ?_⟩; clear h; go_simp) trivial))
  intro _ w2 H2
  clear H1
  refine rest0 rfl (then_normal (wp_cond_true rfl (wp_seq ?_)))
  refine walk_seqB 1 [.quiet (.int .i64 0)] H2 ?ho3 ?he3
  case ho3 => exact ak (fun _ => ⟨rfl, fun _ _ => rfl⟩) trivial
  intro _ w3 H3
  clear H2
  refine rest0 rfl (then_normal (wp_block ?_))
  refine loop_ghost (α := Nat) (fun k a' w' => ∃ s0 : Nat → Value, a' = ⟨#[.agg #[PT g 0], V [a 0, a 1, a 2, a 3, a 4, a 5, a 6, a 7, a 8, a 9, a 10, a 11], .int .i64 ((nn : Nat) : Int), PT γ1_0 0, PT γ1_1 0, undef, PT γ1_2 0, s0 7, undef, undef, undef, .int .i64 ((nn : Nat) : Int), .int .i64 1, .bool true, .int .i64 ((k : Nat) : Int), s0 15, s0 16, s0 17, s0 18, s0 19, s0 20, s0 21, s0 22, s0 23, undef, undef, undef, undef, undef, undef, undef, undef, undef, undef, undef, undef, undef, undef, undef, undef, undef, undef, undef, undef, undef], []⟩ ∧ (Mm w' [(γ1_0, [PT g 0]), (γ1_1, cel (mx12 a b (2 * k))), (γ1_2, cel [0, 0, 0, 0, 0, 0, 0, 0, 0, 0, 0, 0]), (g, modx n o s)] ∧ Below w.heap.size w w') ∧ k ≤ 6) (fun k => 6 - k) 0 ?st0 ?rd0
  case st0 => exact ⟨(slotfn [undef, undef, undef, undef, undef, undef, undef, undef, undef, undef, undef, undef, undef, undef, undef, undef, undef, undef, undef, undef, undef, undef, undef, undef]), rfl, ⟨H3.out.1.atk (by rw [mx12_0 a b]), H3.out.2⟩, by omega⟩
  intro k a' w4 hI
  obtain ⟨s0, rfl, hMB, hk0⟩ := hI
  have H4 : Hid (_ ∧ _) := hMB
  clear hMB H3
  by_cases hlt : k < 6
  · have hrd : True := trivial
    clear hrd
    refine wp_seq ?_
    refine walk_seqB 1 [.quiet (.bool true)] H4 ?ho4 ?he4
    case ho4 => exact ak (by refine fun γ => ⟨rfl, fun w' h => ?_⟩; clear h; go_simp <;> omega) trivial
    intro _ w5 H5
    clear H4
    refine rest0 rfl (then_normal (wp_seq ?_))
    refine wp_cond_true rfl (wp_skip ?_)
    refine then_normal (wp_seq ?_)
    refine wp_block (wp_seq ?_)
    refine walk_seqB 2 [.quiet (.int .i64 ((k : Nat) : Int)), .quiet (.int .i64 ((k : Nat) : Int))] H5 ?ho5 ?he5
    case ho5 => exact ak (fun _ => ⟨rfl, fun _ _ => rfl⟩) (ak (fun _ => ⟨rfl, fun _ _ => rfl⟩) trivial)
    intro _ w6 H6
    clear H5
    refine rest0 rfl (then_normal ?_)
    refine walk_seqB 6 [.quiet (.int .i64 ((k : Nat) : Int)), .quiet (.int .i64 ((k : Nat) : Int)), .quiet (PT γ1_1 (6 * (2 * k))), .quiet (V [a (2 * k), a (2 * k + 1)]), .call (V [b (2 * k), b (2 * k + 1)]), .quiet (PT γ1_1 (6 * (2 * k)))] H6 ?ho6 ?he6
    case ho6 => exact ak (fun _ => ⟨rfl, fun _ _ => rfl⟩) (ak (fun _ => ⟨rfl, fun _ _ => rfl⟩) (ak (fun γ => ⟨rfl, fun w' _ => ex_idxE12 rfl rfl rfl (by omega)⟩) (ak (fun γ => ⟨rfl, fun w' h => ex_loadA (i := 2 * k) (k := 2) h 1 rfl rfl rfl Tryz.isAgg28 Tryz.sizeOf28 (mx12_ld a b hlt) rfl⟩) (ak (fun γ => ⟨rfl, fun w' h => ⟨116, #[V [a (2 * k), a (2 * k + 1)]], exec_call rfl call116 rfl (mpn rfl), CL.out k hlt w'⟩⟩) (ak (fun γ => ⟨rfl, fun w' _ => ex_idxE12 rfl rfl rfl (by omega)⟩) trivial)))))
    intro _ w7 H7
    clear H6
    refine rest_at (l := [6]) rfl ?_
    refine rest_store rfl rfl rfl (ex_storeA (i := 2 * k) (ms := [b (2 * k), b (2 * k + 1)]) H7.out.1 1 rfl rfl rfl rfl Tryz.sizeOf28 (mx12_bd a b rfl hlt)) ?_
    have H8 : Hid (Mm (w7.setCells γ1_1 (6 * (2 * k)) (cel [b (2 * k), b (2 * k + 1)])) [(γ1_0, [PT g 0]), (γ1_1, cel (mx12 a b (2 * (k + 1)))), (γ1_2, cel [0, 0, 0, 0, 0, 0, 0, 0, 0, 0, 0, 0]), (g, modx n o s)] ∧ Below w.heap.size w (w7.setCells γ1_1 (6 * (2 * k)) (cel [b (2 * k), b (2 * k + 1)]))) := ⟨by
      have h := H7.out.1.put 1 (off := 6 * (2 * k)) (vs := cel [b (2 * k), b (2 * k + 1)]) rfl (by rw [cel_len, cel_len]; exact cel_bd (mx12_bd a b rfl hlt))
      rw [cel_patch, mx12_st a b hlt] at h
      exact h, below_setCells _ o1_1.out _ _ _ H7.out.2⟩
    clear H7
    generalize hgw : World.setCells _ _ _ _ = w8 at H8 ⊢
    clear hgw
    refine rest_nil (block_normal (then_normal ?_))
    refine walk_seqB 1 [.quiet (.int .i64 ((k + 1 : Nat) : Int))] H8 ?ho7 ?he7
    case ho7 => exact ak (by refine fun γ => ⟨rfl, fun w' h => ?_⟩; clear h; go_simp; rw [IntKind.wrap_i64]; omega) trivial
    intro _ w9 H9
    clear H8
    refine rest_at (l := [1]) rfl ?_
    refine rest_set (d := 14) rfl rfl rfl rfl ?_
    simp only [Act.put, sa, sz, ss]
    refine rest_nil (then_normal ?_)
    exact ⟨k + 1, ⟨(slotfn [undef, undef, undef, undef, undef, undef, undef, .int .i64 ((k : Nat) : Int), undef, undef, undef, undef, undef, undef, undef, .bool true, .int .i64 ((k : Nat) : Int), .int .i64 ((k : Nat) : Int), .int .i64 ((k : Nat) : Int), PT γ1_1 (6 * (2 * k)), V [a (2 * k), a (2 * k + 1)], V [b (2 * k), b (2 * k + 1)], PT γ1_1 (6 * (2 * k)), .int .i64 ((k + 1 : Nat) : Int)]), rfl, ⟨H9.out.1, H9.out.2⟩, by omega⟩, by omega⟩
  have hkN : k = 6 := by omega
  subst hkN
  have H10 : Hid (Mm w4 [(γ1_0, [PT g 0]), (γ1_1, cel [b 0, b 1, b 2, b 3, b 4, b 5, b 6, b 7, b 8, b 9, b 10, b 11]), (γ1_2, cel [0, 0, 0, 0, 0, 0, 0, 0, 0, 0, 0, 0]), (g, modx n o s)] ∧ Below w.heap.size w w4) := ⟨H4.out.1.atk (by rw [mx12_e a b]), H4.out.2⟩
  clear H4
  refine wp_seq ?_
  refine walk_seqB 1 [.quiet (.bool false)] H10 ?ho8 ?he8
  case ho8 => exact ak (by refine fun γ => ⟨rfl, fun w' h => ?_⟩; clear h; go_simp <;> omega) trivial
  intro _ w11 H11
  clear H10
  refine rest0 rfl (then_normal (wp_seq (wp_cond_false rfl ?_)))
  refine wp_exit ?_
  repeat refine then_exit ?_
  refine block_exit ?_
  refine then_normal (wp_seq ?_)
  refine walk_seqA 5 [.quiet (.agg #[PT g 0]), .quiet (.int .i64 ((nn : Nat) : Int)), .call (V [f0, f1]), .made (cel [0, 0]) 28, .laid 3 (cel [0, 0]) (cel [f0, f1])] (sB H11) ?ho9 ?he9 (hL := ?hL9)
  case hL9 => exact ⟨⟨_, rfl⟩, trivial⟩
  case ho9 => exact ak (fun γ => ⟨rfl, fun w' h => ex_loadF h 0 rfl rfl rfl rfl⟩) (ak (fun _ => ⟨rfl, fun _ _ => rfl⟩) (ak (fun γ => ⟨rfl, fun w' h => ⟨157, #[.agg #[PT g 0], .int .i64 ((nn : Nat) : Int)], exec_call rfl call157 rfl (mpn rfl), CF.out w' (h.one 3 rfl)⟩⟩) (ak (fun γ => ⟨rfl, fun w' => ex_madeE2 rfl⟩) (ak (fun γ => ⟨rfl, rfl, rfl, fun w' h => ex_laidA h rfl Tryz.sizeOf28 rfl rfl rfl⟩) trivial))))
  intro γ w12 l hM hl
  have H12 : Hid (Mm w12 [(γ 3, cel [f0, f1]), (γ1_0, [PT g 0]), (γ1_1, cel [b 0, b 1, b 2, b 3, b 4, b 5, b 6, b 7, b 8, b 9, b 10, b 11]), (γ1_2, cel [0, 0, 0, 0, 0, 0, 0, 0, 0, 0, 0, 0]), (g, modx n o s)] ∧ _) := growB H11 hM (Nat.le_refl _) hl [3] rfl (by decide)
  have o9_3 := ownB H11 hM (Nat.le_refl _) hl (i := 3) rfl
  clear hM hl l H11
  generalize γ 3 = γ9_3 at H12 o9_3 ⊢
  clear γ
  refine rest0 rfl (then_normal (wp_seq ?_))
  refine walk_seqA 3 [.quiet (V [f0, f1]), .made (cel [0, 0]) 28, .laid 1 (cel [0, 0]) (cel [f0, f1])] (sB H12) ?ho10 ?he10 (hL := ?hL10)
  case hL10 => exact ⟨⟨_, rfl⟩, trivial⟩
  case ho10 => exact ak (fun γ => ⟨rfl, fun w' h => ex_loadA (i := 0) (k := 2) h 0 rfl rfl rfl Tryz.isAgg28 Tryz.sizeOf28 rfl rfl⟩) (ak (fun γ => ⟨rfl, fun w' => ex_madeE2 rfl⟩) (ak (fun γ => ⟨rfl, rfl, rfl, fun w' h => ex_laidA h rfl Tryz.sizeOf28 rfl rfl rfl⟩) trivial))
  intro γ w13 l hM hl
  have H13 : Hid (Mm w13 [(γ 1, cel [f0, f1]), (γ9_3, cel [f0, f1]), (γ1_0, [PT g 0]), (γ1_1, cel [b 0, b 1, b 2, b 3, b 4, b 5, b 6, b 7, b 8, b 9, b 10, b 11]), (γ1_2, cel [0, 0, 0, 0, 0, 0, 0, 0, 0, 0, 0, 0]), (g, modx n o s)] ∧ _) := growB H12 hM (Nat.le_refl _) hl [1] rfl (by decide)
  have o10_1 := ownB H12 hM (Nat.le_refl _) hl (i := 1) rfl
  clear hM hl l H12
  generalize γ 1 = γ10_1 at H13 o10_1 ⊢
  clear γ
  refine rest0 rfl (then_normal (wp_seq (wp_seq ?_)))
  refine walk_seqB 1 [.quiet (.int .i64 1)] H13 ?ho11 ?he11
  case ho11 => exact ak (fun _ => ⟨rfl, fun _ _ => rfl⟩) trivial
  intro _ w14 H14
  clear H13
  refine rest0 rfl (then_normal (wp_block ?_))
  refine loop_ghost (α := Nat) (fun k a' w' => ∃ s2 : Nat → Value, a' = ⟨#[.agg #[PT g 0], V [a 0, a 1, a 2, a 3, a 4, a 5, a 6, a 7, a 8, a 9, a 10, a 11], .int .i64 ((nn : Nat) : Int), PT γ1_0 0, PT γ1_1 0, undef, PT γ1_2 0, s0 7, PT γ9_3 0, PT γ10_1 0, .int .i64 ((k : Nat) : Int), .int .i64 ((nn : Nat) : Int), .int .i64 1, .bool true, .int .i64 ((6 : Nat) : Int), .bool false, s0 16, s0 17, s0 18, s0 19, s0 20, s0 21, s0 22, s0 23, .agg #[PT g 0], .int .i64 ((nn : Nat) : Int), V [f0, f1], V [f0, f1], s2 28, s2 29, s2 30, s2 31, s2 32, s2 33, s2 34, s2 35, s2 36, s2 37, s2 38, s2 39, s2 40, s2 41, s2 42, s2 43, undef], []⟩ ∧ (Mm w' [(γ10_1, cel [p (2 * k), p (2 * k + 1)]), (γ9_3, cel [f0, f1]), (γ1_0, [PT g 0]), (γ1_1, cel (mx12 b r (2 * k))), (γ1_2, cel [0, 0, 0, 0, 0, 0, 0, 0, 0, 0, 0, 0]), (g, modx n o s)] ∧ Below w.heap.size w w') ∧ 1 ≤ k ∧ k ≤ 6) (fun k => 6 - k) 1 ?st2 ?rd2
  case st2 => exact ⟨(slotfn [undef, undef, undef, undef, undef, undef, undef, undef, undef, undef, undef, undef, undef, undef, undef, undef, undef, undef, undef, undef, undef, undef, undef, undef, undef, undef, undef, undef, undef, undef, undef, undef, undef, undef, undef, undef, undef, undef, undef, undef, undef, undef, undef, undef]), rfl, ⟨H14.out.1.atk (by rw [mxc_1 HR.out, HP.out]), H14.out.2⟩, by omega⟩
  intro k a' w15 hI
  obtain ⟨s2, rfl, hMB, hk2⟩ := hI
  have H15 : Hid (_ ∧ _) := hMB
  clear hMB H14
  by_cases hlt : k < 6
  · have hrd : True := trivial
    clear hrd
    refine wp_seq (wp_seq ?_)
    refine walk_seqB 2 [.quiet (.int .i64 ((k : Nat) : Int)), .quiet (.bool true)] H15 ?ho12 ?he12
    case ho12 => exact ak (fun _ => ⟨rfl, fun _ _ => rfl⟩) (ak (by refine fun γ => ⟨rfl, fun w' h => ?_⟩; clear h; go_simp <;> omega) trivial)
    intro _ w16 H16
    clear H15
    refine rest0 rfl (then_normal (wp_cond_true rfl ?_))
    refine wp_skip (then_normal ?_)
    refine wp_seq (wp_block (wp_seq ?_))
    refine walk_anyB 8 [.quiet (.int .i64 ((k : Nat) : Int)), .quiet (.agg #[PT g 0]), .quiet (.int .i64 ((k : Nat) : Int)), .quiet (PT γ1_1 (6 * (2 * k))), .quiet (V [b (2 * k), b (2 * k + 1)]), .quiet (V [p (2 * k), p (2 * k + 1)]), .call (V [r (2 * k), r (2 * k + 1)]), .quiet (PT γ1_1 (6 * (2 * k)))] H16 ?ho13 ?he13
    case ho13 => exact ak (fun _ => ⟨rfl, fun _ _ => rfl⟩) (ak (fun γ => ⟨rfl, fun w' h => ex_loadF h 2 rfl rfl rfl rfl⟩) (ak (fun _ => ⟨rfl, fun _ _ => rfl⟩) (ak (fun γ => ⟨rfl, fun w' _ => ex_idxE12 rfl rfl rfl (by omega)⟩) (ak (fun γ => ⟨rfl, fun w' h => ex_loadA (i := 2 * k) (k := 2) h 3 rfl rfl rfl Tryz.isAgg28 Tryz.sizeOf28 (mx12_ld b r hlt) rfl⟩) (ak (fun γ => ⟨rfl, fun w' h => ex_loadA (i := 0) (k := 2) h 0 rfl rfl rfl Tryz.isAgg28 Tryz.sizeOf28 rfl rfl⟩) (ak (fun γ => ⟨rfl, fun w' h => ⟨158, #[.agg #[PT g 0], V [b (2 * k), b (2 * k + 1)], V [p (2 * k), p (2 * k + 1)]], exec_call rfl call158 rfl (mpn rfl), CM.out k hlt w' (h.one 5 rfl)⟩⟩) (ak (fun γ => ⟨rfl, fun w' _ => ex_idxE12 rfl rfl rfl (by omega)⟩) trivial)))))))
    intro _ w17 H17
    clear H16
    refine rest_at (l := [8]) rfl ?_
    refine rest_store rfl rfl rfl (ex_storeA (i := 2 * k) (ms := [r (2 * k), r (2 * k + 1)]) H17.out.1 3 rfl rfl rfl rfl Tryz.sizeOf28 (mx12_bd b r rfl hlt)) ?_
    have H18 : Hid (Mm (w17.setCells γ1_1 (6 * (2 * k)) (cel [r (2 * k), r (2 * k + 1)])) [(γ10_1, cel [p (2 * k), p (2 * k + 1)]), (γ9_3, cel [f0, f1]), (γ1_0, [PT g 0]), (γ1_1, cel (mx12 b r (2 * (k + 1)))), (γ1_2, cel [0, 0, 0, 0, 0, 0, 0, 0, 0, 0, 0, 0]), (g, modx n o s)] ∧ Below w.heap.size w (w17.setCells γ1_1 (6 * (2 * k)) (cel [r (2 * k), r (2 * k + 1)]))) := ⟨by
      have h := H17.out.1.put 3 (off := 6 * (2 * k)) (vs := cel [r (2 * k), r (2 * k + 1)]) rfl (by rw [cel_len, cel_len]; exact cel_bd (mx12_bd b r rfl hlt))
      rw [cel_patch, mx12_st b r hlt] at h
      exact h, below_setCells _ o1_1.out _ _ _ H17.out.2⟩
    clear H17
    generalize hgw : World.setCells _ _ _ _ = w18 at H18 ⊢
    clear hgw
    refine rest_nil (then_normal ?_)
    refine walk_seqB 4 [.quiet (.agg #[PT g 0]), .quiet (V [p (2 * k), p (2 * k + 1)]), .quiet (V [f0, f1]), .call (V [p (2 * (k + 1)), p (2 * (k + 1) + 1)])] H18 ?ho14 ?he14
    case ho14 => exact ak (fun γ => ⟨rfl, fun w' h => ex_loadF h 2 rfl rfl rfl rfl⟩) (ak (fun γ => ⟨rfl, fun w' h => ex_loadA (i := 0) (k := 2) h 0 rfl rfl rfl Tryz.isAgg28 Tryz.sizeOf28 rfl rfl⟩) (ak (fun γ => ⟨rfl, fun w' h => ex_loadA (i := 0) (k := 2) h 1 rfl rfl rfl Tryz.isAgg28 Tryz.sizeOf28 rfl rfl⟩) (ak (fun γ => ⟨rfl, fun w' h => ⟨158, #[.agg #[PT g 0], V [p (2 * k), p (2 * k + 1)], V [f0, f1]], exec_call rfl call158 rfl (mpn rfl), CP.out k hlt w' (h.one 5 rfl)⟩⟩) trivial)))
    intro _ w19 H19
    clear H18
    refine rest_at (l := [4]) rfl ?_
    refine rest_store rfl rfl rfl (ex_storeA (i := 0) (ms := [p (2 * (k + 1)), p (2 * (k + 1) + 1)]) H19.out.1 0 rfl rfl rfl rfl Tryz.sizeOf28 (Nat.le_of_ble_eq_true rfl)) ?_
    have H20 : Hid (Mm (w19.setCells γ10_1 (6 * 0) (cel [p (2 * (k + 1)), p (2 * (k + 1) + 1)])) [(γ10_1, cel [p (2 * (k + 1)), p (2 * (k + 1) + 1)]), (γ9_3, cel [f0, f1]), (γ1_0, [PT g 0]), (γ1_1, cel (mx12 b r (2 * (k + 1)))), (γ1_2, cel [0, 0, 0, 0, 0, 0, 0, 0, 0, 0, 0, 0]), (g, modx n o s)] ∧ Below w.heap.size w (w19.setCells γ10_1 (6 * 0) (cel [p (2 * (k + 1)), p (2 * (k + 1) + 1)]))) := ⟨by
      have h := H19.out.1.put 0 (off := 6 * 0) (vs := cel [p (2 * (k + 1)), p (2 * (k + 1) + 1)]) rfl (by simp only [cel_len]; exact Nat.le_of_ble_eq_true rfl)
      rw [cel_patch] at h
      exact h, below_setCells _ o10_1.out _ _ _ H19.out.2⟩
    clear H19
    generalize hgw : World.setCells _ _ _ _ = w20 at H20 ⊢
    clear hgw
    refine rest_nil (block_normal (then_normal ?_))
    refine walk_seqB 2 [.quiet (.int .i64 ((k : Nat) : Int)), .quiet (.int .i64 ((k + 1 : Nat) : Int))] H20 ?ho15 ?he15
    case ho15 => exact ak (fun _ => ⟨rfl, fun _ _ => rfl⟩) (ak (by refine fun γ => ⟨rfl, fun w' h => ?_⟩; clear h; go_simp; rw [IntKind.wrap_i64]; omega) trivial)
    intro _ w21 H21
    clear H20
    refine rest_at (l := [2]) rfl ?_
    refine rest_set (d := 10) rfl rfl rfl rfl ?_
    simp only [Act.put, sa, sz, ss]
    refine rest_nil (then_normal ?_)
    exact ⟨k + 1, ⟨(slotfn [undef, undef, undef, undef, undef, undef, undef, undef, undef, undef, undef, undef, undef, undef, undef, undef, undef, undef, undef, undef, undef, undef, undef, undef, undef, undef, undef, undef, .int .i64 ((k : Nat) : Int), .bool true, .int .i64 ((k : Nat) : Int), .int .i64 ((k + 1 : Nat) : Int), .int .i64 ((k : Nat) : Int), .agg #[PT g 0], .int .i64 ((k : Nat) : Int), PT γ1_1 (6 * (2 * k)), V [b (2 * k), b (2 * k + 1)], V [p (2 * k), p (2 * k + 1)], V [r (2 * k), r (2 * k + 1)], PT γ1_1 (6 * (2 * k)), .agg #[PT g 0], V [p (2 * k), p (2 * k + 1)], V [f0, f1], V [p (2 * (k + 1)), p (2 * (k + 1) + 1)]]), rfl, ⟨H21.out.1, H21.out.2⟩, by omega⟩, by omega⟩
  have hkN : k = 6 := by omega
  subst hkN
  have H22 : Hid (Mm w15 [(γ10_1, cel [p (2 * 6), p (2 * 6 + 1)]), (γ9_3, cel [f0, f1]), (γ1_0, [PT g 0]), (γ1_1, cel [r 0, r 1, r 2, r 3, r 4, r 5, r 6, r 7, r 8, r 9, r 10, r 11]), (γ1_2, cel [0, 0, 0, 0, 0, 0, 0, 0, 0, 0, 0, 0]), (g, modx n o s)] ∧ Below w.heap.size w w15) := ⟨H15.out.1.atk (by rw [mx12_e b r]), H15.out.2⟩
  clear H15
  refine wp_seq (wp_seq ?_)
  refine walk_seqB 2 [.quiet (.int .i64 ((6 : Nat) : Int)), .quiet (.bool false)] H22 ?ho16 ?he16
  case ho16 => exact ak (fun _ => ⟨rfl, fun _ _ => rfl⟩) (ak (by refine fun γ => ⟨rfl, fun w' h => ?_⟩; clear h; go_simp <;> omega) trivial)
  intro _ w23 H23
  clear H22
  refine rest0 rfl (then_normal (wp_cond_false rfl ?_))
  refine wp_exit ?_
  repeat refine then_exit ?_
  refine block_exit ?_
  refine then_normal (wp_seq ?_)
  refine walk_seqB 1 [.quiet (V [r 0, r 1, r 2, r 3, r 4, r 5, r 6, r 7, r 8, r 9, r 10, r 11])] H23 ?ho17 ?he17
  case ho17 => exact ak (fun γ => ⟨rfl, fun w' h => ex_loadA (i := 0) (k := 12) h 3 rfl rfl rfl Tryz.isAgg32 Tryz.sizeOf32 rfl rfl⟩) trivial
  intro _ w24 H24
  clear H23
  refine rest_at (l := [1]) rfl ?_
  refine rest_store rfl rfl rfl (ex_storeA (i := 0) (ms := [r 0, r 1, r 2, r 3, r 4, r 5, r 6, r 7, r 8, r 9, r 10, r 11]) H24.out.1 4 rfl rfl rfl rfl Tryz.sizeOf32 (Nat.le_of_ble_eq_true rfl)) ?_
  have H25 : Hid (Mm (w24.setCells γ1_2 (6 * 0) (cel [r 0, r 1, r 2, r 3, r 4, r 5, r 6, r 7, r 8, r 9, r 10, r 11])) [(γ10_1, cel [p (2 * 6), p (2 * 6 + 1)]), (γ9_3, cel [f0, f1]), (γ1_0, [PT g 0]), (γ1_1, cel [r 0, r 1, r 2, r 3, r 4, r 5, r 6, r 7, r 8, r 9, r 10, r 11]), (γ1_2, cel [r 0, r 1, r 2, r 3, r 4, r 5, r 6, r 7, r 8, r 9, r 10, r 11]), (g, modx n o s)] ∧ Below w.heap.size w (w24.setCells γ1_2 (6 * 0) (cel [r 0, r 1, r 2, r 3, r 4, r 5, r 6, r 7, r 8, r 9, r 10, r 11]))) := ⟨by
    have h := H24.out.1.put 4 (off := 6 * 0) (vs := cel [r 0, r 1, r 2, r 3, r 4, r 5, r 6, r 7, r 8, r 9, r 10, r 11]) rfl (by simp only [cel_len]; exact Nat.le_of_ble_eq_true rfl)
    rw [cel_patch] at h
    exact h, below_setCells _ o1_2.out _ _ _ H24.out.2⟩
  clear H24
  generalize hgw : World.setCells _ _ _ _ = w25 at H25 ⊢
  clear hgw
  refine rest_nil (then_normal (wp_ret ?_))
  repeat (first | refine then_ret ?_ | refine block_ret ?_)
  have hf0 := cel_var (k := 12) H25.out.1 4 rfl Tryz.isAgg32 Tryz.sizeOf32 rfl
  refine bodyPost_ret (v := V [r 0, r 1, r 2, r 3, r 4, r 5, r 6, r 7, r 8, r 9, r 10, r 11]) (by simp [results, Tryz.results89, asAddr, hf0]) rfl ?_
  exact ⟨rfl, H25.out.2⟩
set_option maxHeartbeats 4000000 in
set_option maxRecDepth 100000 in
theorem turn_even (a p r : Nat → Nat) (g n o s nn f0 f1 : Nat)
    (hn : ((nn : Nat) : Int).tmod 2 = 0)
    (hr : r 0 = a 0 ∧ r 1 = a 1)
    (hp : [f0, f1] = [p (2 * 1), p (2 * 1 + 1)])
    (cf : ∀ w, Mm w [(g, modx n o s)] → Calls Tryz.prog 157 #[.agg #[PT g 0], .int .i64 ((nn : Nat) : Int)] w fun e w' => e = .returned (V [f0, f1]) ∧ Below w.heap.size w w')
    (cm : ∀ k, k < 6 → ∀ w, Mm w [(g, modx n o s)] → Calls Tryz.prog 158 #[.agg #[PT g 0], V [a (2 * k), a (2 * k + 1)], V [p (2 * k), p (2 * k + 1)]] w fun e w' => e = .returned (V [r (2 * k), r (2 * k + 1)]) ∧ Below w.heap.size w w')
    (cp : ∀ k, k < 6 → ∀ w, Mm w [(g, modx n o s)] → Calls Tryz.prog 158 #[.agg #[PT g 0], V [p (2 * k), p (2 * k + 1)], V [f0, f1]] w fun e w' => e = .returned (V [p (2 * (k + 1)), p (2 * (k + 1) + 1)]) ∧ Below w.heap.size w w') (w : World) (hm : Mm w [(g, modx n o s)]) :
    Calls Tryz.prog 89 #[.agg #[PT g 0], V [a 0, a 1, a 2, a 3, a 4, a 5, a 6, a 7, a 8, a 9, a 10, a 11], .int .i64 ((nn : Nat) : Int)] w fun e w' => e = .returned (V [r 0, r 1, r 2, r 3, r 4, r 5, r 6, r 7, r 8, r 9, r 10, r 11]) ∧ Below w.heap.size w w' := by
  have H0 : Hid (_ ∧ _) := ⟨hm, Below.refl w.heap.size w⟩
  clear hm
  have HN : Hid _ := hn
  have HR : Hid _ := hr
  have HP : Hid _ := hp
  have CF : Hid _ := cf
  have CM : Hid _ := cm
  have CP : Hid _ := cp
  clear hn hr hp cf cm cp
  go_enter Tryz.func89, Tryz.ntmps89
  refine wp_seq ?_
  refine walk_seqA 3 [.made [PT g 0] 100, .made (cel [a 0, a 1, a 2, a 3, a 4, a 5, a 6, a 7, a 8, a 9, a 10, a 11]) 32, .made (cel [0, 0, 0, 0, 0, 0, 0, 0, 0, 0, 0, 0]) 32] (sB H0) ?ho1 ?he1
  case ho1 => exact ak (fun γ => ⟨rfl, fun w' => ex_boxF rfl rfl⟩) (ak (fun γ => ⟨rfl, fun w' => ex_boxA rfl rfl⟩) (ak (fun γ => ⟨rfl, fun w' => ex_madeE12 rfl⟩) trivial))
  intro γ w1 l hM hl
  have H1 : Hid (Mm w1 [(γ 0, [PT g 0]), (γ 1, cel [a 0, a 1, a 2, a 3, a 4, a 5, a 6, a 7, a 8, a 9, a 10, a 11]), (γ 2, cel [0, 0, 0, 0, 0, 0, 0, 0, 0, 0, 0, 0]), (g, modx n o s)] ∧ _) := growB H0 hM (Nat.le_refl _) hl [0, 1, 2] rfl (by decide)
  have o1_0 := ownB H0 hM (Nat.le_refl _) hl (i := 0) rfl
  have o1_1 := ownB H0 hM (Nat.le_refl _) hl (i := 1) rfl
  have o1_2 := ownB H0 hM (Nat.le_refl _) hl (i := 2) rfl
  clear hM hl l
  generalize γ 0 = γ1_0 at H1 o1_0 ⊢
  generalize γ 1 = γ1_1 at H1 o1_1 ⊢
  generalize γ 2 = γ1_2 at H1 o1_2 ⊢
  clear γ
  refine rest0 rfl (then_normal (wp_seq (wp_seq ?_)))
  refine walk_seqB 3 [.quiet (.int .i64 ((nn : Nat) : Int)), .quiet (.int .i64 0), .quiet (.bool false)] H1 ?ho2 ?he2
  case ho2 => exact ak (fun _ => ⟨rfl, fun _ _ => rfl⟩) (ak (by refine fun γ => ⟨rfl, fun w' h => ?_⟩; clear h; go_simp; exact HN.out) (ak (by refine fun γ => ⟨rfl, fun w' h => ?_⟩; clear h; go_simp) trivial))
  intro _ w2 H2
  clear H1
  refine rest0 rfl (then_normal (wp_cond_false rfl ?_))
  refine wp_skip (then_normal (wp_seq ?_))
  refine walk_seqA 5 [.quiet (.agg #[PT g 0]), .quiet (.int .i64 ((nn : Nat) : Int)), .call (V [f0, f1]), .made (cel [0, 0]) 28, .laid 3 (cel [0, 0]) (cel [f0, f1])] (sB H2) ?ho3 ?he3 (hL := ?hL3)
  case hL3 => exact ⟨⟨_, rfl⟩, trivial⟩
  case ho3 => exact ak (fun γ => ⟨rfl, fun w' h => ex_loadF h 0 rfl rfl rfl rfl⟩) (ak (fun _ => ⟨rfl, fun _ _ => rfl⟩) (ak (fun γ => ⟨rfl, fun w' h => ⟨157, #[.agg #[PT g 0], .int .i64 ((nn : Nat) : Int)], exec_call rfl call157 rfl (mpn rfl), CF.out w' (h.one 3 rfl)⟩⟩) (ak (fun γ => ⟨rfl, fun w' => ex_madeE2 rfl⟩) (ak (fun γ => ⟨rfl, rfl, rfl, fun w' h => ex_laidA h rfl Tryz.sizeOf28 rfl rfl rfl⟩) trivial))))
  intro γ w3 l hM hl
  have H3 : Hid (Mm w3 [(γ 3, cel [f0, f1]), (γ1_0, [PT g 0]), (γ1_1, cel [a 0, a 1, a 2, a 3, a 4, a 5, a 6, a 7, a 8, a 9, a 10, a 11]), (γ1_2, cel [0, 0, 0, 0, 0, 0, 0, 0, 0, 0, 0, 0]), (g, modx n o s)] ∧ _) := growB H2 hM (Nat.le_refl _) hl [3] rfl (by decide)
  have o3_3 := ownB H2 hM (Nat.le_refl _) hl (i := 3) rfl
  clear hM hl l H2
  generalize γ 3 = γ3_3 at H3 o3_3 ⊢
  clear γ
  refine rest0 rfl (then_normal (wp_seq ?_))
  refine walk_seqA 3 [.quiet (V [f0, f1]), .made (cel [0, 0]) 28, .laid 1 (cel [0, 0]) (cel [f0, f1])] (sB H3) ?ho4 ?he4 (hL := ?hL4)
  case hL4 => exact ⟨⟨_, rfl⟩, trivial⟩
  case ho4 => exact ak (fun γ => ⟨rfl, fun w' h => ex_loadA (i := 0) (k := 2) h 0 rfl rfl rfl Tryz.isAgg28 Tryz.sizeOf28 rfl rfl⟩) (ak (fun γ => ⟨rfl, fun w' => ex_madeE2 rfl⟩) (ak (fun γ => ⟨rfl, rfl, rfl, fun w' h => ex_laidA h rfl Tryz.sizeOf28 rfl rfl rfl⟩) trivial))
  intro γ w4 l hM hl
  have H4 : Hid (Mm w4 [(γ 1, cel [f0, f1]), (γ3_3, cel [f0, f1]), (γ1_0, [PT g 0]), (γ1_1, cel [a 0, a 1, a 2, a 3, a 4, a 5, a 6, a 7, a 8, a 9, a 10, a 11]), (γ1_2, cel [0, 0, 0, 0, 0, 0, 0, 0, 0, 0, 0, 0]), (g, modx n o s)] ∧ _) := growB H3 hM (Nat.le_refl _) hl [1] rfl (by decide)
  have o4_1 := ownB H3 hM (Nat.le_refl _) hl (i := 1) rfl
  clear hM hl l H3
  generalize γ 1 = γ4_1 at H4 o4_1 ⊢
  clear γ
  refine rest0 rfl (then_normal (wp_seq (wp_seq ?_)))
  refine walk_seqB 1 [.quiet (.int .i64 1)] H4 ?ho5 ?he5
  case ho5 => exact ak (fun _ => ⟨rfl, fun _ _ => rfl⟩) trivial
  intro _ w5 H5
  clear H4
  refine rest0 rfl (then_normal (wp_block ?_))
  refine loop_ghost (α := Nat) (fun k a' w' => ∃ s2 : Nat → Value, a' = ⟨#[.agg #[PT g 0], V [a 0, a 1, a 2, a 3, a 4, a 5, a 6, a 7, a 8, a 9, a 10, a 11], .int .i64 ((nn : Nat) : Int), PT γ1_0 0, PT γ1_1 0, undef, PT γ1_2 0, undef, PT γ3_3 0, PT γ4_1 0, .int .i64 ((k : Nat) : Int), .int .i64 ((nn : Nat) : Int), .int .i64 0, .bool false, undef, undef, undef, undef, undef, undef, undef, undef, undef, undef, .agg #[PT g 0], .int .i64 ((nn : Nat) : Int), V [f0, f1], V [f0, f1], s2 28, s2 29, s2 30, s2 31, s2 32, s2 33, s2 34, s2 35, s2 36, s2 37, s2 38, s2 39, s2 40, s2 41, s2 42, s2 43, undef], []⟩ ∧ (Mm w' [(γ4_1, cel [p (2 * k), p (2 * k + 1)]), (γ3_3, cel [f0, f1]), (γ1_0, [PT g 0]), (γ1_1, cel (mx12 a r (2 * k))), (γ1_2, cel [0, 0, 0, 0, 0, 0, 0, 0, 0, 0, 0, 0]), (g, modx n o s)] ∧ Below w.heap.size w w') ∧ 1 ≤ k ∧ k ≤ 6) (fun k => 6 - k) 1 ?st2 ?rd2
  case st2 => exact ⟨(slotfn [undef, undef, undef, undef, undef, undef, undef, undef, undef, undef, undef, undef, undef, undef, undef, undef, undef, undef, undef, undef, undef, undef, undef, undef, undef, undef, undef, undef, undef, undef, undef, undef, undef, undef, undef, undef, undef, undef, undef, undef, undef, undef, undef, undef]), rfl, ⟨H5.out.1.atk (by rw [mxc_1 HR.out, HP.out]), H5.out.2⟩, by omega⟩
  intro k a' w6 hI
  obtain ⟨s2, rfl, hMB, hk2⟩ := hI
  have H6 : Hid (_ ∧ _) := hMB
  clear hMB H5
  by_cases hlt : k < 6
  · have hrd : True := trivial
    clear hrd
    refine wp_seq (wp_seq ?_)
    refine walk_seqB 2 [.quiet (.int .i64 ((k : Nat) : Int)), .quiet (.bool true)] H6 ?ho6 ?he6
    case ho6 => exact ak (fun _ => ⟨rfl, fun _ _ => rfl⟩) (ak (by refine fun γ => ⟨rfl, fun w' h => ?_⟩; clear h; go_simp <;> omega) trivial)
    intro _ w7 H7
    clear H6
    refine rest0 rfl (then_normal (wp_cond_true rfl ?_))
    refine wp_skip (then_normal ?_)
    refine wp_seq (wp_block (wp_seq ?_))
    refine walk_anyB 8 [.quiet (.int .i64 ((k : Nat) : Int)), .quiet (.agg #[PT g 0]), .quiet (.int .i64 ((k : Nat) : Int)), .quiet (PT γ1_1 (6 * (2 * k))), .quiet (V [a (2 * k), a (2 * k + 1)]), .quiet (V [p (2 * k), p (2 * k + 1)]), .call (V [r (2 * k), r (2 * k + 1)]), .quiet (PT γ1_1 (6 * (2 * k)))] H7 ?ho7 ?he7
    case ho7 => exact ak (fun _ => ⟨rfl, fun _ _ => rfl⟩) (ak (fun γ => ⟨rfl, fun w' h => ex_loadF h 2 rfl rfl rfl rfl⟩) (ak (fun _ => ⟨rfl, fun _ _ => rfl⟩) (ak (fun γ => ⟨rfl, fun w' _ => ex_idxE12 rfl rfl rfl (by omega)⟩) (ak (fun γ => ⟨rfl, fun w' h => ex_loadA (i := 2 * k) (k := 2) h 3 rfl rfl rfl Tryz.isAgg28 Tryz.sizeOf28 (mx12_ld a r hlt) rfl⟩) (ak (fun γ => ⟨rfl, fun w' h => ex_loadA (i := 0) (k := 2) h 0 rfl rfl rfl Tryz.isAgg28 Tryz.sizeOf28 rfl rfl⟩) (ak (fun γ => ⟨rfl, fun w' h => ⟨158, #[.agg #[PT g 0], V [a (2 * k), a (2 * k + 1)], V [p (2 * k), p (2 * k + 1)]], exec_call rfl call158 rfl (mpn rfl), CM.out k hlt w' (h.one 5 rfl)⟩⟩) (ak (fun γ => ⟨rfl, fun w' _ => ex_idxE12 rfl rfl rfl (by omega)⟩) trivial)))))))
    intro _ w8 H8
    clear H7
    refine rest_at (l := [8]) rfl ?_
    refine rest_store rfl rfl rfl (ex_storeA (i := 2 * k) (ms := [r (2 * k), r (2 * k + 1)]) H8.out.1 3 rfl rfl rfl rfl Tryz.sizeOf28 (mx12_bd a r rfl hlt)) ?_
    have H9 : Hid (Mm (w8.setCells γ1_1 (6 * (2 * k)) (cel [r (2 * k), r (2 * k + 1)])) [(γ4_1, cel [p (2 * k), p (2 * k + 1)]), (γ3_3, cel [f0, f1]), (γ1_0, [PT g 0]), (γ1_1, cel (mx12 a r (2 * (k + 1)))), (γ1_2, cel [0, 0, 0, 0, 0, 0, 0, 0, 0, 0, 0, 0]), (g, modx n o s)] ∧ Below w.heap.size w (w8.setCells γ1_1 (6 * (2 * k)) (cel [r (2 * k), r (2 * k + 1)]))) := ⟨by
      have h := H8.out.1.put 3 (off := 6 * (2 * k)) (vs := cel [r (2 * k), r (2 * k + 1)]) rfl (by rw [cel_len, cel_len]; exact cel_bd (mx12_bd a r rfl hlt))
      rw [cel_patch, mx12_st a r hlt] at h
      exact h, below_setCells _ o1_1.out _ _ _ H8.out.2⟩
    clear H8
    generalize hgw : World.setCells _ _ _ _ = w9 at H9 ⊢
    clear hgw
    refine rest_nil (then_normal ?_)
    refine walk_seqB 4 [.quiet (.agg #[PT g 0]), .quiet (V [p (2 * k), p (2 * k + 1)]), .quiet (V [f0, f1]), .call (V [p (2 * (k + 1)), p (2 * (k + 1) + 1)])] H9 ?ho8 ?he8
    case ho8 => exact ak (fun γ => ⟨rfl, fun w' h => ex_loadF h 2 rfl rfl rfl rfl⟩) (ak (fun γ => ⟨rfl, fun w' h => ex_loadA (i := 0) (k := 2) h 0 rfl rfl rfl Tryz.isAgg28 Tryz.sizeOf28 rfl rfl⟩) (ak (fun γ => ⟨rfl, fun w' h => ex_loadA (i := 0) (k := 2) h 1 rfl rfl rfl Tryz.isAgg28 Tryz.sizeOf28 rfl rfl⟩) (ak (fun γ => ⟨rfl, fun w' h => ⟨158, #[.agg #[PT g 0], V [p (2 * k), p (2 * k + 1)], V [f0, f1]], exec_call rfl call158 rfl (mpn rfl), CP.out k hlt w' (h.one 5 rfl)⟩⟩) trivial)))
    intro _ w10 H10
    clear H9
    refine rest_at (l := [4]) rfl ?_
    refine rest_store rfl rfl rfl (ex_storeA (i := 0) (ms := [p (2 * (k + 1)), p (2 * (k + 1) + 1)]) H10.out.1 0 rfl rfl rfl rfl Tryz.sizeOf28 (Nat.le_of_ble_eq_true rfl)) ?_
    have H11 : Hid (Mm (w10.setCells γ4_1 (6 * 0) (cel [p (2 * (k + 1)), p (2 * (k + 1) + 1)])) [(γ4_1, cel [p (2 * (k + 1)), p (2 * (k + 1) + 1)]), (γ3_3, cel [f0, f1]), (γ1_0, [PT g 0]), (γ1_1, cel (mx12 a r (2 * (k + 1)))), (γ1_2, cel [0, 0, 0, 0, 0, 0, 0, 0, 0, 0, 0, 0]), (g, modx n o s)] ∧ Below w.heap.size w (w10.setCells γ4_1 (6 * 0) (cel [p (2 * (k + 1)), p (2 * (k + 1) + 1)]))) := ⟨by
      have h := H10.out.1.put 0 (off := 6 * 0) (vs := cel [p (2 * (k + 1)), p (2 * (k + 1) + 1)]) rfl (by simp only [cel_len]; exact Nat.le_of_ble_eq_true rfl)
      rw [cel_patch] at h
      exact h, below_setCells _ o4_1.out _ _ _ H10.out.2⟩
    clear H10
    generalize hgw : World.setCells _ _ _ _ = w11 at H11 ⊢
    clear hgw
    refine rest_nil (block_normal (then_normal ?_))
    refine walk_seqB 2 [.quiet (.int .i64 ((k : Nat) : Int)), .quiet (.int .i64 ((k + 1 : Nat) : Int))] H11 ?ho9 ?he9
    case ho9 => exact ak (fun _ => ⟨rfl, fun _ _ => rfl⟩) (ak (by refine fun γ => ⟨rfl, fun w' h => ?_⟩; clear h; go_simp; rw [IntKind.wrap_i64]; omega) trivial)
    intro _ w12 H12
    clear H11
    refine rest_at (l := [2]) rfl ?_
    refine rest_set (d := 10) rfl rfl rfl rfl ?_
    simp only [Act.put, sa, sz, ss]
    refine rest_nil (then_normal ?_)
    exact ⟨k + 1, ⟨(slotfn [undef, undef, undef, undef, undef, undef, undef, undef, undef, undef, undef, undef, undef, undef, undef, undef, undef, undef, undef, undef, undef, undef, undef, undef, undef, undef, undef, undef, .int .i64 ((k : Nat) : Int), .bool true, .int .i64 ((k : Nat) : Int), .int .i64 ((k + 1 : Nat) : Int), .int .i64 ((k : Nat) : Int), .agg #[PT g 0], .int .i64 ((k : Nat) : Int), PT γ1_1 (6 * (2 * k)), V [a (2 * k), a (2 * k + 1)], V [p (2 * k), p (2 * k + 1)], V [r (2 * k), r (2 * k + 1)], PT γ1_1 (6 * (2 * k)), .agg #[PT g 0], V [p (2 * k), p (2 * k + 1)], V [f0, f1], V [p (2 * (k + 1)), p (2 * (k + 1) + 1)]]), rfl, ⟨H12.out.1, H12.out.2⟩, by omega⟩, by omega⟩
  have hkN : k = 6 := by omega
  subst hkN
  have H13 : Hid (Mm w6 [(γ4_1, cel [p (2 * 6), p (2 * 6 + 1)]), (γ3_3, cel [f0, f1]), (γ1_0, [PT g 0]), (γ1_1, cel [r 0, r 1, r 2, r 3, r 4, r 5, r 6, r 7, r 8, r 9, r 10, r 11]), (γ1_2, cel [0, 0, 0, 0, 0, 0, 0, 0, 0, 0, 0, 0]), (g, modx n o s)] ∧ Below w.heap.size w w6) := ⟨H6.out.1.atk (by rw [mx12_e a r]), H6.out.2⟩
  clear H6
  refine wp_seq (wp_seq ?_)
  refine walk_seqB 2 [.quiet (.int .i64 ((6 : Nat) : Int)), .quiet (.bool false)] H13 ?ho10 ?he10
  case ho10 => exact ak (fun _ => ⟨rfl, fun _ _ => rfl⟩) (ak (by refine fun γ => ⟨rfl, fun w' h => ?_⟩; clear h; go_simp <;> omega) trivial)
  intro _ w14 H14
  clear H13
  refine rest0 rfl (then_normal (wp_cond_false rfl ?_))
  refine wp_exit ?_
  repeat refine then_exit ?_
  refine block_exit ?_
  refine then_normal (wp_seq ?_)
  refine walk_seqB 1 [.quiet (V [r 0, r 1, r 2, r 3, r 4, r 5, r 6, r 7, r 8, r 9, r 10, r 11])] H14 ?ho11 ?he11
  case ho11 => exact ak (fun γ => ⟨rfl, fun w' h => ex_loadA (i := 0) (k := 12) h 3 rfl rfl rfl Tryz.isAgg32 Tryz.sizeOf32 rfl rfl⟩) trivial
  intro _ w15 H15
  clear H14
  refine rest_at (l := [1]) rfl ?_
  refine rest_store rfl rfl rfl (ex_storeA (i := 0) (ms := [r 0, r 1, r 2, r 3, r 4, r 5, r 6, r 7, r 8, r 9, r 10, r 11]) H15.out.1 4 rfl rfl rfl rfl Tryz.sizeOf32 (Nat.le_of_ble_eq_true rfl)) ?_
  have H16 : Hid (Mm (w15.setCells γ1_2 (6 * 0) (cel [r 0, r 1, r 2, r 3, r 4, r 5, r 6, r 7, r 8, r 9, r 10, r 11])) [(γ4_1, cel [p (2 * 6), p (2 * 6 + 1)]), (γ3_3, cel [f0, f1]), (γ1_0, [PT g 0]), (γ1_1, cel [r 0, r 1, r 2, r 3, r 4, r 5, r 6, r 7, r 8, r 9, r 10, r 11]), (γ1_2, cel [r 0, r 1, r 2, r 3, r 4, r 5, r 6, r 7, r 8, r 9, r 10, r 11]), (g, modx n o s)] ∧ Below w.heap.size w (w15.setCells γ1_2 (6 * 0) (cel [r 0, r 1, r 2, r 3, r 4, r 5, r 6, r 7, r 8, r 9, r 10, r 11]))) := ⟨by
    have h := H15.out.1.put 4 (off := 6 * 0) (vs := cel [r 0, r 1, r 2, r 3, r 4, r 5, r 6, r 7, r 8, r 9, r 10, r 11]) rfl (by simp only [cel_len]; exact Nat.le_of_ble_eq_true rfl)
    rw [cel_patch] at h
    exact h, below_setCells _ o1_2.out _ _ _ H15.out.2⟩
  clear H15
  generalize hgw : World.setCells _ _ _ _ = w16 at H16 ⊢
  clear hgw
  refine rest_nil (then_normal (wp_ret ?_))
  repeat (first | refine then_ret ?_ | refine block_ret ?_)
  have hf0 := cel_var (k := 12) H16.out.1 4 rfl Tryz.isAgg32 Tryz.sizeOf32 rfl
  refine bodyPost_ret (v := V [r 0, r 1, r 2, r 3, r 4, r 5, r 6, r 7, r 8, r 9, r 10, r 11]) (by simp [results, Tryz.results89, asAddr, hf0]) rfl ?_
  exact ⟨rfl, H16.out.2⟩
end Rg
end Go.Proofs.YtdbejmgomajjmaaGreatDoor
end
section
namespace Go.Proofs.YtdbejmgomajjmaaGreatDoor
open Go.RowKit
/-- What a sign counts as a digit to the base 16. -/
def dgv (c : Int) : Int := if 48 ≤ c ∧ c ≤ 57 then c - 48 else if 97 ≤ c ∧ c ≤ 102 then c - 87 else 0
def dgk (c : Int) : Bool := decide (48 ≤ c ∧ c ≤ 57) || decide (97 ≤ c ∧ c ≤ 102)
theorem dgv_bd (c : Int) : 0 ≤ dgv c ∧ dgv c < 16 := by unfold dgv; split <;> (try split) <;> omega
set_option maxHeartbeats 400000 in
theorem digit_any (c : Int) (h0 : 0 ≤ c) (h1 : c ≤ 255) (w : World) :
    Calls Tryz.prog 197 #[.int .u8 c] w fun e w' => e = .returned (.tuple #[.int .u64 (dgv c), .bool (dgk c)]) ∧ w' = w := by
  unfold dgv dgk
  by_cases a : 48 ≤ c ∧ c ≤ 57
  · obtain ⟨a1, a2⟩ := a
    have d1 : decide (48 ≤ c) = true := decide_eq_true a1
    have d2 : decide (c ≤ 57) = true := decide_eq_true a2
    rw [if_pos ⟨a1, a2⟩, decide_eq_true (⟨a1, a2⟩ : 48 ≤ c ∧ c ≤ 57)]
    go_enter Tryz.func197, Tryz.ntmps197
    go_wp2
    go_ret2
    exact ⟨by simp, rfl⟩
  · rw [if_neg a, decide_eq_false a]
    by_cases b : 97 ≤ c ∧ c ≤ 102
    · obtain ⟨b1, b2⟩ := b
      have d1 : decide (48 ≤ c) = true := decide_eq_true (by omega)
      have d2 : decide (c ≤ 57) = false := decide_eq_false (by omega)
      have d3 : decide (97 ≤ c) = true := decide_eq_true b1
      have d4 : decide (c ≤ 102) = true := decide_eq_true b2
      rw [if_pos ⟨b1, b2⟩, decide_eq_true (⟨b1, b2⟩ : 97 ≤ c ∧ c ≤ 102)]
      clear a
      go_enter Tryz.func197, Tryz.ntmps197
      go_wp2
      rw [show c - 97 + 10 = c - 87 by omega]
      go_ret2
      exact ⟨by simp, rfl⟩
    · rw [if_neg b, decide_eq_false b]
      by_cases x1 : 48 ≤ c
      · have d1 : decide (48 ≤ c) = true := decide_eq_true x1
        have d2 : decide (c ≤ 57) = false := decide_eq_false (by omega)
        by_cases x2 : 97 ≤ c
        · have d3 : decide (97 ≤ c) = true := decide_eq_true x2
          have d4 : decide (c ≤ 102) = false := decide_eq_false (by omega)
          clear a b
          go_enter Tryz.func197, Tryz.ntmps197
          go_wp2
          go_ret2
          exact ⟨by simp, rfl⟩
        · have d3 : decide (97 ≤ c) = false := decide_eq_false x2
          clear a b
          go_enter Tryz.func197, Tryz.ntmps197
          go_wp2
          go_ret2
          exact ⟨by simp, rfl⟩
      · have d1 : decide (48 ≤ c) = false := decide_eq_false x1
        have d3 : decide (97 ≤ c) = false := decide_eq_false (by omega)
        clear a b
        go_enter Tryz.func197, Tryz.ntmps197
        go_wp2
        go_ret2
        exact ⟨by simp, rfl⟩
/-- The sign at place i from the right. -/
def ch (s : ByteArray) (i : Nat) : Int := if h : s.size - 1 - i < s.size then ((s[s.size - 1 - i]).toNat : Int) else 0
theorem ch_eq (s : ByteArray) (i : Nat) (h : s.size - 1 - i < s.size) : ch s i = ((s[s.size - 1 - i]).toNat : Int) := dif_pos h
/-- The number of the lowest k digits; whether they are digits. -/
def pvv (s : ByteArray) : Nat → Nat
  | 0 => 0
  | k + 1 => pvv s k + (dgv (ch s k)).toNat * 2 ^ (4 * k)
def okk (s : ByteArray) : Nat → Bool
  | 0 => true
  | k + 1 => okk s k && dgk (ch s k)
theorem pvv_lt (s : ByteArray) : ∀ k, pvv s k < 2 ^ (4 * k)
  | 0 => by simp [pvv]
  | k + 1 => by
    have h1 := pvv_lt s k
    have h2 := dgv_bd (ch s k)
    have h3 : (dgv (ch s k)).toNat * 2 ^ (4 * k) ≤ 15 * 2 ^ (4 * k) := Nat.mul_le_mul_right _ (by omega)
    have e : 2 ^ (4 * (k + 1)) = 16 * 2 ^ (4 * k) := by rw [Nat.mul_add, Nat.pow_add, Nat.mul_comm]
    unfold pvv
    rw [e]
    omega
theorem okk_mono (s : ByteArray) (m : Nat) : ∀ k, okk s (k + m) = true → okk s k = true := by
  induction m with
  | zero => intro k h; exact h
  | succ m ih =>
    intro k h
    have h2 : (okk s (k + m) && dgk (ch s (k + m))) = true := h
    exact ih k (by simp only [Bool.and_eq_true] at h2; exact h2.1)
theorem set_digit (V d k j : Nat) (hV : V < 2 ^ (4 * k)) (hd : d < 16) (hj : j ≠ k / 16) : wd (V + d * 2 ^ (4 * k)) j = wd V j := by
  rw [wd_shr, wd_shr, ← Nat.shiftLeft_eq, Nat.add_comm, Nat.shiftLeft_add_eq_or_of_lt hV]
  congr 1
  apply Nat.eq_of_testBit_eq
  intro i
  simp only [Nat.testBit_or, Nat.testBit_mod_two_pow, Nat.testBit_shiftLeft, Nat.testBit_shiftRight]
  by_cases hi : i < 64
  · by_cases hk : 4 * k ≤ 64 * j + i
    · have : d.testBit (64 * j + i - 4 * k) = false := Nat.testBit_lt_two_pow (Nat.lt_of_lt_of_le (show d < 2 ^ 4 from hd) (Nat.pow_le_pow_right (by decide) (by omega)))
      simp [this]
    · simp [hk]
  · simp [hi]
theorem or_digit_bits (V d k : Nat) : (V >>> (64 * (k / 16)) % 2 ^ 64) ||| (d <<< (4 * (k % 16)) % 2 ^ 64) = (d <<< (4 * k) ||| V) >>> (64 * (k / 16)) % 2 ^ 64 := by
  apply Nat.eq_of_testBit_eq
  intro i
  simp only [Nat.testBit_or, Nat.testBit_mod_two_pow, Nat.testBit_shiftLeft, Nat.testBit_shiftRight]
  by_cases hi : i < 64
  · by_cases hk : 4 * (k % 16) ≤ i
    · have e1 : 4 * k ≤ 64 * (k / 16) + i := by omega
      have e2 : 64 * (k / 16) + i - 4 * k = i - 4 * (k % 16) := by omega
      simp [hi, hk, e1, e2, Bool.or_comm]
    · have e1 : ¬ 4 * k ≤ 64 * (k / 16) + i := by omega
      simp [hi, hk, e1]
  · simp [hi]
theorem or_digit (V d k : Nat) (hV : V < 2 ^ (4 * k)) : bits .or .u64 (wd V (k / 16)) (IntKind.u64.wrap ((d : Int) * 2 ^ (4 * (k % 16)))) = wd (V + d * 2 ^ (4 * k)) (k / 16) := by
  rw [wrap_shl, wd_shr, wd_shr, ← Nat.shiftLeft_eq, Nat.add_comm, Nat.shiftLeft_add_eq_or_of_lt hV, ← or_digit_bits]
  exact bits_or_u64_nat _ _ (Nat.mod_lt _ (by decide)) (Nat.mod_lt _ (by decide))
theorem digit_step (s : ByteArray) (k j : Nat) : upd (wd (pvv s k)) (k / 16) (bits .or .u64 (wd (pvv s k) (k / 16)) (IntKind.u64.wrap (dgv (ch s k) * 2 ^ (4 * (k % 16))))) j = wd (pvv s (k + 1)) j := by
  have hd := dgv_bd (ch s k)
  have e : dgv (ch s k) = ((dgv (ch s k)).toNat : Int) := by omega
  have hV := pvv_lt s k
  unfold upd
  by_cases h : j = k / 16
  · rw [if_pos h, h, e, or_digit _ _ k hV]
    rfl
  · rw [if_neg h]
    exact (set_digit _ _ k j hV (by omega) h).symm
end Go.Proofs.YtdbejmgomajjmaaGreatDoor
end
section
namespace Go.Proofs.YtdbejmgomajjmaaGreatDoor
open Go.RowKit
/-- What the loop of Parse tells, once it is come to. -/
def prv (s : ByteArray) : Value := if okk s s.size then .tuple #[N (pvv s s.size), .int .i64 0] else .tuple #[N 0, .int .i64 4]
set_option maxHeartbeats 1000000 in
set_option maxRecDepth 100000 in
theorem parse_loop (s : ByteArray) (h1 : 1 ≤ s.size) (h2 : s.size ≤ 96) (h3 : (((s[0]'h1).toNat : Int) == 48) = false ∨ s.size = 1) (w : World) :
    Calls Tryz.prog 139 #[.string s] w fun e w' => e = .returned (prv s) ∧ Below w.heap.size w w' := by
  have he : s.toList.isEmpty = false := by
    cases hl : s.toList with
    | nil =>
      rw [ByteArray.toList_eq] at hl
      have h0 : s.data.size = 0 := by rw [← Array.length_toList, hl]; rfl
      have : s.size = s.data.size := rfl
      omega
    | cons a l => rfl
  have hg : decide ((96 : Int) < (s.size : Int)) = false := decide_eq_false (by omega)
  have hq : ((((s[0]'h1).toNat : Int) == 48) && decide ((1 : Int) < (s.size : Int))) = false := by
    rcases h3 with h3 | h3
    · rw [h3]; rfl
    · rw [decide_eq_false (show ¬ (1 : Int) < (s.size : Int) by omega), Bool.and_false]
  have hz : ((((s[0]'h1).toNat : Int) == 48) = true ∧ decide ((1 : Int) < (s.size : Int)) = false) ∨ (((s[0]'h1).toNat : Int) == 48) = false := by
    cases hc : (((s[0]'h1).toNat : Int) == 48) with
    | true => rw [hc, Bool.true_and] at hq; exact Or.inl ⟨rfl, hq⟩
    | false => exact Or.inr rfl
  have H2 : Hid (s.size ≤ 96) := h2
  clear h3 hq
  rcases hz with ⟨hz, hz1⟩ | hz
  all_goals
    go_enter Tryz.func139, Tryz.ntmps139
    go_wp2
    try clear hz1
    clear hz hg he
    go_loopw [27] (fun i wr => ∃ k : Nat, k ≤ s.size ∧ i = .int .i64 k ∧ okk s k = true ∧ Row wr w.heap.size 6 (fun _ => 0) ∧ Row wr (w.heap.size + 1) 6 (wd (pvv s k)) ∧ Below w.heap.size w wr) (fun i _ => s.size - (RowKit.intOf i).toNat)
    case atStart =>
      refine ⟨0, by omega, rfl, rfl, ?_, ?_, ?_⟩
      · exact (Row.new w _ 24 rfl (six_lt (f := fun _ => 0) rfl)).alloc (by first | omega | (simp <;> omega)) _
      · exact (Row.new _ _ 24 (by first | omega | (simp <;> omega)) (six_lt (f := fun _ => 0) rfl)).congr (fun j _ => (wd_zero j).symm)
      · exact ((Below.refl _ _).alloc (Nat.le_refl _) _).alloc (by first | omega | (simp <;> omega)) _
    case round =>
      obtain ⟨k, hk, rfl, hok, hZ, hS, hw⟩ := hrel
      by_cases hlt : k < s.size
      · have hch := ch_eq s k (by omega)
        have hdig := fun w => digit_any (ch s k) (by rw [hch]; omega) (by rw [hch]; have := (s[s.size - 1 - k]).toNat_lt; omega) w
        rw [hch] at hdig
        have HD : Hid _ := hdig
        have HCH : Hid _ := hch
        have hb := dgv_bd (((s[s.size - 1 - k]'(by omega)).toNat : Int))
        obtain ⟨hb0, hb1⟩ := hb
        clear hdig hch
        cases hkk : dgk (((s[s.size - 1 - k]'(by omega)).toNat : Int)) with
        | true =>
          obtain ⟨k1, k2⟩ := hS (k / 16) (by omega)
          have HM : Hid (_ ∧ _ ∧ _) := ⟨hZ, hS, hw⟩
          have HOK : Hid _ := hok
          clear hZ hS hw hok
          go_wp2_with (go_at_call 197; refine (HD.out _).mono ?_; rintro e w' ⟨rfl, rfl⟩)
          go_region
          go_wp2
          go_roundw
          case rel =>
            obtain ⟨hZ, hS, hw⟩ := HM.out
            refine ⟨k + 1, by omega, by go_num, ?_, (hZ.set_other _ (by simp <;> omega)).drew, ((hS.set _).congr (fun j _ => ?_)).drew, (hw.setCell (by simp <;> omega) _).drew⟩
            · show (okk s k && dgk (ch s k)) = true
              rw [HOK.out, HCH.out, hkk]; rfl
            · rw [← HCH.out]; exact digit_step s k j
          case measure => simp [RowKit.intOf] <;> omega
        | false =>
          have hfin : Hid (prv s = .tuple #[N 0, .int .i64 4]) := by
            show prv s = _
            unfold prv
            rw [if_neg]
            intro hh
            have h5 := okk_mono s (s.size - (k + 1)) (k + 1) (by rw [show k + 1 + (s.size - (k + 1)) = s.size by omega]; exact hh)
            have h6 : (okk s k && dgk (ch s k)) = true := h5
            rw [HCH.out, hkk, Bool.and_false] at h6
            exact absurd h6 (by decide)
          obtain ⟨z0, z1, z2, z3, z4, z5⟩ := hZ.writes
          obtain ⟨y0, y1, y2, y3, y4, y5⟩ := hZ.reads
          have HW : Hid _ := hw
          clear hZ hS hw hok
          go_wp2_with (go_at_call 197; refine (HD.out _).mono ?_; rintro e w' ⟨rfl, rfl⟩)
          refine bodyPost_ret (v := .tuple #[N 0, .int .i64 4]) ?_ rfl ⟨by rw [hfin.out], ?_⟩
          · simp [results, Tryz.results139, go_sem, wd_zero, *]
          · exact below6 HW.out (by omega) _ _ _ _ _ _
      · have hks : k = s.size := by omega
        subst hks
        have hfin : Hid (prv s = .tuple #[N (pvv s s.size), .int .i64 0]) := by
          show prv s = _
          unfold prv
          rw [if_pos hok]
        obtain ⟨s0, s1, s2, s3, s4, s5⟩ := hS.reads
        obtain ⟨z0, z1, z2, z3, z4, z5⟩ := hZ.writes
        obtain ⟨y0, y1, y2, y3, y4, y5⟩ := hZ.reads
        have HW : Hid _ := hw
        clear hZ hS hw hok
        go_wp2
        refine bodyPost_ret (v := .tuple #[N (pvv s s.size), .int .i64 0]) ?_ rfl ⟨by rw [hfin.out], ?_⟩
        · simp [results, Tryz.results139, go_sem, *]
        · exact below6 HW.out (by omega) _ _ _ _ _ _
end Go.Proofs.YtdbejmgomajjmaaGreatDoor
end
section
namespace Go.Proofs.YtdbejmgomajjmaaGreatDoor
open Go.RowKit
namespace Rg
def y1 : Nat := 3850754370037169011952147076051364057158807420970682438676050522613628423219637725072182697113062777891589506424760
def y2 : Nat := 151655185184498381465642749684540099398075398968325446656007613510403227271200139370504932015952886146304766135027
set_option maxRecDepth 100000 in
theorem fone_gen (a b : Nat)
    (ca : ∀ w, Calls Tryz.prog 139 #[.string ⟨#[49, 57, 48, 52, 100, 51, 98, 102, 48, 50, 98, 98, 48, 54, 54, 55, 99, 50, 51, 49, 98, 101, 98, 52, 50, 48, 50, 99, 48, 100, 49, 102, 48, 102, 100, 54, 48, 51, 102, 100, 51, 99, 98, 100, 53, 102, 52, 102, 55, 98, 50, 52, 52, 51, 100, 55, 56, 52, 98, 97, 98, 57, 99, 52, 102, 54, 55, 101, 97, 53, 51, 100, 54, 51, 101, 55, 56, 49, 51, 100, 56, 100, 48, 55, 55, 53, 101, 100, 57, 50, 50, 51, 53, 102, 98, 56]⟩] w fun e w' => e = .returned (.tuple #[N a, .int .i64 0]) ∧ Below w.heap.size w w')
    (cb : ∀ w, Calls Tryz.prog 139 #[.string ⟨#[102, 99, 51, 101, 50, 98, 51, 54, 99, 52, 101, 48, 51, 50, 56, 56, 101, 57, 101, 57, 48, 50, 50, 51, 49, 102, 57, 102, 98, 56, 53, 52, 97, 49, 52, 55, 56, 55, 98, 54, 99, 55, 98, 51, 54, 102, 101, 99, 48, 99, 56, 101, 99, 57, 55, 49, 102, 54, 51, 99, 53, 102, 50, 56, 50, 100, 53, 97, 99, 49, 52, 100, 54, 99, 55, 101, 99, 50, 50, 99, 102, 55, 56, 97, 49, 50, 54, 100, 100, 99, 52, 97, 102, 51]⟩] w fun e w' => e = .returned (.tuple #[N b, .int .i64 0]) ∧ Below w.heap.size w w') (w : World) :
    Calls Tryz.prog 206 #[] w fun e w' => e = .returned (V [a, b]) ∧ Below w.heap.size w w' := by
  have H0 : Hid (_ ∧ _) := ⟨Mm.nil w, Below.refl w.heap.size w⟩
  have CA : Hid _ := ca
  have CB : Hid _ := cb
  clear ca cb
  go_enter Tryz.func206, Tryz.ntmps206
  refine wp_seq ?_
  refine walk_seqA 1 [.made (cel [0, 0]) 28] (sB H0) ?ho1 ?he1
  case ho1 => exact ak (fun γ => ⟨rfl, fun w' => ex_madeE2 rfl⟩) trivial
  intro γ w1 l hM hl
  have H1 : Hid (Mm w1 [(γ 0, cel [0, 0])] ∧ _) := growB H0 hM (Nat.le_refl _) hl [0] rfl (by decide)
  have o1_0 := ownB H0 hM (Nat.le_refl _) hl (i := 0) rfl
  clear hM hl l
  generalize γ 0 = γ1_0 at H1 o1_0 ⊢
  clear γ
  refine rest0 rfl (then_normal (wp_seq ?_))
  refine walk_seqA 7 [.call (.tuple #[N a, .int .i64 0]), .quiet (.tuple #[N a, .int .i64 0]), .quiet (N a), .quiet (.int .i64 0), .made zero6 24, .laid 4 zero6 (cells6 a), .quiet (.int .i64 0)] (sB H1) ?ho2 ?he2 (hL := ?hL2)
  case hL2 => exact ⟨⟨_, rfl⟩, trivial⟩
  case ho2 => exact ak (fun γ => ⟨rfl, fun w' h => ⟨139, #[.string ⟨#[49, 57, 48, 52, 100, 51, 98, 102, 48, 50, 98, 98, 48, 54, 54, 55, 99, 50, 51, 49, 98, 101, 98, 52, 50, 48, 50, 99, 48, 100, 49, 102, 48, 102, 100, 54, 48, 51, 102, 100, 51, 99, 98, 100, 53, 102, 52, 102, 55, 98, 50, 52, 52, 51, 100, 55, 56, 52, 98, 97, 98, 57, 99, 52, 102, 54, 55, 101, 97, 53, 51, 100, 54, 51, 101, 55, 56, 49, 51, 100, 56, 100, 48, 55, 55, 53, 101, 100, 57, 50, 50, 51, 53, 102, 98, 56]⟩], exec_call rfl call139 rfl (mpn rfl), CA.out w'⟩⟩) (ak (fun _ => ⟨rfl, fun _ _ => rfl⟩) (ak (by refine fun γ => ⟨rfl, fun w' h => ?_⟩; clear h; go_simp) (ak (by refine fun γ => ⟨rfl, fun w' h => ?_⟩; clear h; go_simp) (ak (fun γ => ⟨rfl, fun w' => exec_made6 rfl⟩) (ak (fun γ => ⟨rfl, rfl, rfl, fun w' h => exec_laid6 h rfl rfl rfl⟩) (ak (fun _ => ⟨rfl, fun _ _ => rfl⟩) trivial))))))
  intro γ w2 l hM hl
  have H2 : Hid (Mm w2 [(γ 4, cells6 a), (γ1_0, cel [0, 0])] ∧ _) := growB H1 hM (Nat.le_refl _) hl [4] rfl (by decide)
  have o2_4 := ownB H1 hM (Nat.le_refl _) hl (i := 4) rfl
  clear hM hl l H1
  generalize γ 4 = γ2_4 at H2 o2_4 ⊢
  clear γ
  refine rest0 rfl (then_normal (wp_seq ?_))
  refine walk_seqA 7 [.call (.tuple #[N b, .int .i64 0]), .quiet (.tuple #[N b, .int .i64 0]), .quiet (N b), .quiet (.int .i64 0), .made zero6 24, .laid 4 zero6 (cells6 b), .quiet (.int .i64 0)] (sB H2) ?ho3 ?he3 (hL := ?hL3)
  case hL3 => exact ⟨⟨_, rfl⟩, trivial⟩
  case ho3 => exact ak (fun γ => ⟨rfl, fun w' h => ⟨139, #[.string ⟨#[102, 99, 51, 101, 50, 98, 51, 54, 99, 52, 101, 48, 51, 50, 56, 56, 101, 57, 101, 57, 48, 50, 50, 51, 49, 102, 57, 102, 98, 56, 53, 52, 97, 49, 52, 55, 56, 55, 98, 54, 99, 55, 98, 51, 54, 102, 101, 99, 48, 99, 56, 101, 99, 57, 55, 49, 102, 54, 51, 99, 53, 102, 50, 56, 50, 100, 53, 97, 99, 49, 52, 100, 54, 99, 55, 101, 99, 50, 50, 99, 102, 55, 56, 97, 49, 50, 54, 100, 100, 99, 52, 97, 102, 51]⟩], exec_call rfl call139 rfl (mpn rfl), CB.out w'⟩⟩) (ak (fun _ => ⟨rfl, fun _ _ => rfl⟩) (ak (by refine fun γ => ⟨rfl, fun w' h => ?_⟩; clear h; go_simp) (ak (by refine fun γ => ⟨rfl, fun w' h => ?_⟩; clear h; go_simp) (ak (fun γ => ⟨rfl, fun w' => exec_made6 rfl⟩) (ak (fun γ => ⟨rfl, rfl, rfl, fun w' h => exec_laid6 h rfl rfl rfl⟩) (ak (fun _ => ⟨rfl, fun _ _ => rfl⟩) trivial))))))
  intro γ w3 l hM hl
  have H3 : Hid (Mm w3 [(γ 4, cells6 b), (γ2_4, cells6 a), (γ1_0, cel [0, 0])] ∧ _) := growB H2 hM (Nat.le_refl _) hl [4] rfl (by decide)
  have o3_4 := ownB H2 hM (Nat.le_refl _) hl (i := 4) rfl
  clear hM hl l H2
  generalize γ 4 = γ3_4 at H3 o3_4 ⊢
  clear γ
  refine rest0 rfl (then_normal (wp_seq ?_))
  refine walk_seqB 3 [.quiet (N a), .quiet (N b), .quiet (V [a, b])] H3 ?ho4 ?he4
  case ho4 => exact ak (fun γ => ⟨rfl, fun w' h => ex_load6 h 1 rfl rfl rfl rfl⟩) (ak (fun γ => ⟨rfl, fun w' h => ex_load6 h 0 rfl rfl rfl rfl⟩) (ak (fun γ => ⟨rfl, fun w' _ => ex_buildE2 rfl rfl rfl⟩) trivial))
  intro _ w4 H4
  clear H3
  refine rest_at (l := [3]) rfl ?_
  refine rest_store rfl rfl rfl (ex_storeA (i := 0) (ms := [a, b]) H4.out.1 2 rfl rfl rfl rfl Tryz.sizeOf28 (Nat.le_of_ble_eq_true rfl)) ?_
  have H5 : Hid (Mm (w4.setCells γ1_0 (6 * 0) (cel [a, b])) [(γ3_4, cells6 b), (γ2_4, cells6 a), (γ1_0, cel [a, b])] ∧ Below w.heap.size w (w4.setCells γ1_0 (6 * 0) (cel [a, b]))) := ⟨by
    have h := H4.out.1.put 2 (off := 6 * 0) (vs := cel [a, b]) rfl (by simp only [cel_len]; exact Nat.le_of_ble_eq_true rfl)
    rw [cel_patch] at h
    exact h, below_setCells _ o1_0.out _ _ _ H4.out.2⟩
  clear H4
  generalize hgw : World.setCells _ _ _ _ = w5 at H5 ⊢
  clear hgw
  refine rest_nil (then_normal (wp_ret ?_))
  repeat (first | refine then_ret ?_ | refine block_ret ?_)
  have hf0 := cel_var (k := 2) H5.out.1 2 rfl Tryz.isAgg28 Tryz.sizeOf28 rfl
  refine bodyPost_ret (v := V [a, b]) (by simp [results, Tryz.results206, asAddr, hf0]) rfl ?_
  exact ⟨rfl, H5.out.2⟩
theorem parse_y1 (w : World) : Calls Tryz.prog 139 #[.string ⟨#[49, 57, 48, 52, 100, 51, 98, 102, 48, 50, 98, 98, 48, 54, 54, 55, 99, 50, 51, 49, 98, 101, 98, 52, 50, 48, 50, 99, 48, 100, 49, 102, 48, 102, 100, 54, 48, 51, 102, 100, 51, 99, 98, 100, 53, 102, 52, 102, 55, 98, 50, 52, 52, 51, 100, 55, 56, 52, 98, 97, 98, 57, 99, 52, 102, 54, 55, 101, 97, 53, 51, 100, 54, 51, 101, 55, 56, 49, 51, 100, 56, 100, 48, 55, 55, 53, 101, 100, 57, 50, 50, 51, 53, 102, 98, 56]⟩] w fun e w' => e = .returned (.tuple #[N y1, .int .i64 0]) ∧ Below w.heap.size w w' := by
  have h := parse_loop (⟨#[49, 57, 48, 52, 100, 51, 98, 102, 48, 50, 98, 98, 48, 54, 54, 55, 99, 50, 51, 49, 98, 101, 98, 52, 50, 48, 50, 99, 48, 100, 49, 102, 48, 102, 100, 54, 48, 51, 102, 100, 51, 99, 98, 100, 53, 102, 52, 102, 55, 98, 50, 52, 52, 51, 100, 55, 56, 52, 98, 97, 98, 57, 99, 52, 102, 54, 55, 101, 97, 53, 51, 100, 54, 51, 101, 55, 56, 49, 51, 100, 56, 100, 48, 55, 55, 53, 101, 100, 57, 50, 50, 51, 53, 102, 98, 56]⟩ : ByteArray) (by decide +kernel) (by decide +kernel) (Or.inl (by decide +kernel)) w
  have e : prv (⟨#[49, 57, 48, 52, 100, 51, 98, 102, 48, 50, 98, 98, 48, 54, 54, 55, 99, 50, 51, 49, 98, 101, 98, 52, 50, 48, 50, 99, 48, 100, 49, 102, 48, 102, 100, 54, 48, 51, 102, 100, 51, 99, 98, 100, 53, 102, 52, 102, 55, 98, 50, 52, 52, 51, 100, 55, 56, 52, 98, 97, 98, 57, 99, 52, 102, 54, 55, 101, 97, 53, 51, 100, 54, 51, 101, 55, 56, 49, 51, 100, 56, 100, 48, 55, 55, 53, 101, 100, 57, 50, 50, 51, 53, 102, 98, 56]⟩ : ByteArray) = .tuple #[N y1, .int .i64 0] := by
    unfold prv
    rw [if_pos (by decide +kernel), show pvv (⟨#[49, 57, 48, 52, 100, 51, 98, 102, 48, 50, 98, 98, 48, 54, 54, 55, 99, 50, 51, 49, 98, 101, 98, 52, 50, 48, 50, 99, 48, 100, 49, 102, 48, 102, 100, 54, 48, 51, 102, 100, 51, 99, 98, 100, 53, 102, 52, 102, 55, 98, 50, 52, 52, 51, 100, 55, 56, 52, 98, 97, 98, 57, 99, 52, 102, 54, 55, 101, 97, 53, 51, 100, 54, 51, 101, 55, 56, 49, 51, 100, 56, 100, 48, 55, 55, 53, 101, 100, 57, 50, 50, 51, 53, 102, 98, 56]⟩ : ByteArray) (⟨#[49, 57, 48, 52, 100, 51, 98, 102, 48, 50, 98, 98, 48, 54, 54, 55, 99, 50, 51, 49, 98, 101, 98, 52, 50, 48, 50, 99, 48, 100, 49, 102, 48, 102, 100, 54, 48, 51, 102, 100, 51, 99, 98, 100, 53, 102, 52, 102, 55, 98, 50, 52, 52, 51, 100, 55, 56, 52, 98, 97, 98, 57, 99, 52, 102, 54, 55, 101, 97, 53, 51, 100, 54, 51, 101, 55, 56, 49, 51, 100, 56, 100, 48, 55, 55, 53, 101, 100, 57, 50, 50, 51, 53, 102, 98, 56]⟩ : ByteArray).size = y1 by decide +kernel]
  rw [e] at h
  exact h
theorem parse_y2 (w : World) : Calls Tryz.prog 139 #[.string ⟨#[102, 99, 51, 101, 50, 98, 51, 54, 99, 52, 101, 48, 51, 50, 56, 56, 101, 57, 101, 57, 48, 50, 50, 51, 49, 102, 57, 102, 98, 56, 53, 52, 97, 49, 52, 55, 56, 55, 98, 54, 99, 55, 98, 51, 54, 102, 101, 99, 48, 99, 56, 101, 99, 57, 55, 49, 102, 54, 51, 99, 53, 102, 50, 56, 50, 100, 53, 97, 99, 49, 52, 100, 54, 99, 55, 101, 99, 50, 50, 99, 102, 55, 56, 97, 49, 50, 54, 100, 100, 99, 52, 97, 102, 51]⟩] w fun e w' => e = .returned (.tuple #[N y2, .int .i64 0]) ∧ Below w.heap.size w w' := by
  have h := parse_loop (⟨#[102, 99, 51, 101, 50, 98, 51, 54, 99, 52, 101, 48, 51, 50, 56, 56, 101, 57, 101, 57, 48, 50, 50, 51, 49, 102, 57, 102, 98, 56, 53, 52, 97, 49, 52, 55, 56, 55, 98, 54, 99, 55, 98, 51, 54, 102, 101, 99, 48, 99, 56, 101, 99, 57, 55, 49, 102, 54, 51, 99, 53, 102, 50, 56, 50, 100, 53, 97, 99, 49, 52, 100, 54, 99, 55, 101, 99, 50, 50, 99, 102, 55, 56, 97, 49, 50, 54, 100, 100, 99, 52, 97, 102, 51]⟩ : ByteArray) (by decide +kernel) (by decide +kernel) (Or.inl (by decide +kernel)) w
  have e : prv (⟨#[102, 99, 51, 101, 50, 98, 51, 54, 99, 52, 101, 48, 51, 50, 56, 56, 101, 57, 101, 57, 48, 50, 50, 51, 49, 102, 57, 102, 98, 56, 53, 52, 97, 49, 52, 55, 56, 55, 98, 54, 99, 55, 98, 51, 54, 102, 101, 99, 48, 99, 56, 101, 99, 57, 55, 49, 102, 54, 51, 99, 53, 102, 50, 56, 50, 100, 53, 97, 99, 49, 52, 100, 54, 99, 55, 101, 99, 50, 50, 99, 102, 55, 56, 97, 49, 50, 54, 100, 100, 99, 52, 97, 102, 51]⟩ : ByteArray) = .tuple #[N y2, .int .i64 0] := by
    unfold prv
    rw [if_pos (by decide +kernel), show pvv (⟨#[102, 99, 51, 101, 50, 98, 51, 54, 99, 52, 101, 48, 51, 50, 56, 56, 101, 57, 101, 57, 48, 50, 50, 51, 49, 102, 57, 102, 98, 56, 53, 52, 97, 49, 52, 55, 56, 55, 98, 54, 99, 55, 98, 51, 54, 102, 101, 99, 48, 99, 56, 101, 99, 57, 55, 49, 102, 54, 51, 99, 53, 102, 50, 56, 50, 100, 53, 97, 99, 49, 52, 100, 54, 99, 55, 101, 99, 50, 50, 99, 102, 55, 56, 97, 49, 50, 54, 100, 100, 99, 52, 97, 102, 51]⟩ : ByteArray) (⟨#[102, 99, 51, 101, 50, 98, 51, 54, 99, 52, 101, 48, 51, 50, 56, 56, 101, 57, 101, 57, 48, 50, 50, 51, 49, 102, 57, 102, 98, 56, 53, 52, 97, 49, 52, 55, 56, 55, 98, 54, 99, 55, 98, 51, 54, 102, 101, 99, 48, 99, 56, 101, 99, 57, 55, 49, 102, 54, 51, 99, 53, 102, 50, 56, 50, 100, 53, 97, 99, 49, 52, 100, 54, 99, 55, 101, 99, 50, 50, 99, 102, 55, 56, 97, 49, 50, 54, 100, 100, 99, 52, 97, 102, 51]⟩ : ByteArray).size = y2 by decide +kernel]
  rw [e] at h
  exact h
theorem fone_any (w : World) : Calls Tryz.prog 206 #[] w fun e w' => e = .returned (V [y1, y2]) ∧ Below w.heap.size w w' := fone_gen y1 y2 parse_y1 parse_y2 w
theorem y1_lt : y1 < pB := by decide +kernel
theorem y2_lt : y2 < pB := by decide +kernel
/-- By what w is multiplied when it is turned n times. -/
def fc : Nat → Z2
  | 0 => (1, 0)
  | n + 1 => cm ((fc n).1, -(fc n).2) ((y1 : Int), (y2 : Int))
theorem factor_any {g : Nat} (n : Nat) (hn : n < 12) (w : World) (hm : Mm w [(g, modc pB)]) : Calls Tryz.prog 157 #[.agg #[PT g 0], .int .i64 ((n : Nat) : Int)] w fun e w' => e = .returned (V [pz (fc n).1, pz (fc n).2]) ∧ Below w.heap.size w w' := by
  have cm' : ∀ k w, Mm w [(g, modc pB)] → Calls Tryz.prog 158 #[.agg #[PT g 0], V [pz (fc k).1, pz (-(fc k).2)], V [y1, y2]] w fun e w' => e = .returned (V [pz (fc (k + 1)).1, pz (fc (k + 1)).2]) ∧ Below w.heap.size w w' := fun k w hm => by
    have h := mulF_any (g := g) (fc k).1 (-(fc k).2) (y1 : Int) (y2 : Int) w hm
    rw [pz_small y1_lt, pz_small y2_lt] at h
    exact h
  have cc : ∀ k w, Calls Tryz.prog 116 #[V [pz (fc k).1, pz (fc k).2]] w fun e w' => e = .returned (V [pz (fc k).1, pz (-(fc k).2)]) ∧ Below w.heap.size w w' := fun k w => by
    have h := conj2_any (pz (fc k).1) (pz (fc k).2) (pz_big _) (pz_big _) w
    rw [pz_self, pz_neg] at h
    exact h
  have h := factor_gen (fun j => if j % 2 = 0 then pz (fc (j / 2)).1 else pz (fc (j / 2)).2) (fun j => if j % 2 = 0 then pz (fc (j / 2)).1 else pz (-(fc (j / 2)).2)) g pB (big % pB) (big * big % pB) n 1 y1 y2 hn ?_ fone_any (fun w => one2_gen 1 (fun w => of_any 1 (by decide) w) w) (fun k w => ?_) (fun k w hm => ?_) w hm
  · simp only [Nat.mul_mod_right, Nat.mul_add_mod, Nat.mul_div_right _ (show 0 < 2 by decide), Nat.one_mod, if_true, show (2 * n + 1) / 2 = n by omega] at h
    exact h
  · show [1, 0] = [pz 1, pz 0]
    rw [pz_one, pz_zero]
  · have e1 : 2 * k % 2 = 0 := by omega
    have e2 : (2 * k + 1) % 2 = 1 := by omega
    have e3 : 2 * k / 2 = k := by omega
    have e4 : (2 * k + 1) / 2 = k := by omega
    rw [e1, e2, e3, e4]
    exact cc k w
  · have e1 : 2 * k % 2 = 0 := by omega
    have e2 : (2 * k + 1) % 2 = 1 := by omega
    have e3 : 2 * k / 2 = k := by omega
    have e4 : (2 * k + 1) / 2 = k := by omega
    have f1 : 2 * (k + 1) % 2 = 0 := by omega
    have f2 : (2 * (k + 1) + 1) % 2 = 1 := by omega
    have f3 : 2 * (k + 1) / 2 = k + 1 := by omega
    have f4 : (2 * (k + 1) + 1) / 2 = k + 1 := by omega
    rw [e1, e2, e3, e4, f1, f2, f3, f4]
    exact cm' k w hm
end Rg
end Go.Proofs.YtdbejmgomajjmaaGreatDoor
end
section
namespace Go.Proofs.YtdbejmgomajjmaaGreatDoor
open Go.RowKit
namespace Rg
/-! Halves: even powers of w, odd powers of w. -/
/-- Odd powers negated. -/
def cj12 (a : Nat → Int) : Nat → Int
  | 0 => a 0
  | 1 => a 1
  | 2 => -a 2
  | 3 => -a 3
  | 4 => a 4
  | 5 => a 5
  | 6 => -a 6
  | 7 => -a 7
  | 8 => a 8
  | 9 => a 9
  | 10 => -a 10
  | 11 => -a 11
  | _ => 0
def evp (a : Nat → Int) : Nat → Int
  | 0 => a 0
  | 1 => a 1
  | 4 => a 4
  | 5 => a 5
  | 8 => a 8
  | 9 => a 9
  | _ => 0
def odp (a : Nat → Int) : Nat → Int
  | 0 => a 2
  | 1 => a 3
  | 4 => a 6
  | 5 => a 7
  | 8 => a 10
  | 9 => a 11
  | _ => 0
def v12 : Nat → Int
  | 4 => 1
  | _ => 0
abbrev pt (a : Nat → Int) (k : Nat) : Z2 := (a (2 * k), a (2 * k + 1))
def nv (n : Z2) : Nat → Int
  | 0 => n.1
  | 1 => n.2
  | _ => 0
/-- The factor that makes the norm, of even powers alone. -/
def ad12 (e : Nat → Int) : Nat → Int
  | 0 => (d0 (pt e 0) (pt e 2) (pt e 4)).1
  | 1 => (d0 (pt e 0) (pt e 2) (pt e 4)).2
  | 4 => (d1 (pt e 0) (pt e 2) (pt e 4)).1
  | 5 => (d1 (pt e 0) (pt e 2) (pt e 4)).2
  | 8 => (d2 (pt e 0) (pt e 2) (pt e 4)).1
  | 9 => (d2 (pt e 0) (pt e 2) (pt e 4)).2
  | _ => 0
abbrev Ev (e : Nat → Int) : Prop := e 2 = 0 ∧ e 3 = 0 ∧ e 6 = 0 ∧ e 7 = 0 ∧ e 10 = 0 ∧ e 11 = 0
theorem ad12_0 (e : Nat → Int) (h : Ev e) : mul12 e (ad12 e) 0 = (nn3 (pt e 0) (pt e 2) (pt e 4)).1 := by
  obtain ⟨h2, h3, h6, h7, h10, h11⟩ := h
  simp only [mul12, m0, m1, Nat.reduceMul, Nat.reduceAdd, ad12, nn3, ca, d0, d1, d2, cs, cm, xi, h2, h3, h6, h7, h10, h11]
  grind
theorem ad12_1 (e : Nat → Int) (h : Ev e) : mul12 e (ad12 e) 1 = (nn3 (pt e 0) (pt e 2) (pt e 4)).2 := by
  obtain ⟨h2, h3, h6, h7, h10, h11⟩ := h
  simp only [mul12, m0, m1, Nat.reduceMul, Nat.reduceAdd, ad12, nn3, ca, d0, d1, d2, cs, cm, xi, h2, h3, h6, h7, h10, h11]
  grind
theorem ad12_2 (e : Nat → Int) (h : Ev e) : mul12 e (ad12 e) 2 = 0 := by
  obtain ⟨h2, h3, h6, h7, h10, h11⟩ := h
  simp only [mul12, m0, m1, Nat.reduceMul, Nat.reduceAdd, ad12, d0, d1, d2, cs, cm, xi, h2, h3, h6, h7, h10, h11]
  grind
theorem ad12_3 (e : Nat → Int) (h : Ev e) : mul12 e (ad12 e) 3 = 0 := by
  obtain ⟨h2, h3, h6, h7, h10, h11⟩ := h
  simp only [mul12, m0, m1, Nat.reduceMul, Nat.reduceAdd, ad12, d0, d1, d2, cs, cm, xi, h2, h3, h6, h7, h10, h11]
  grind
theorem ad12_4 (e : Nat → Int) (h : Ev e) : mul12 e (ad12 e) 4 = 0 := by
  obtain ⟨h2, h3, h6, h7, h10, h11⟩ := h
  simp only [mul12, m0, m1, Nat.reduceMul, Nat.reduceAdd, ad12, d0, d1, d2, cs, cm, xi, h2, h3, h6, h7, h10, h11]
  grind
theorem ad12_5 (e : Nat → Int) (h : Ev e) : mul12 e (ad12 e) 5 = 0 := by
  obtain ⟨h2, h3, h6, h7, h10, h11⟩ := h
  simp only [mul12, m0, m1, Nat.reduceMul, Nat.reduceAdd, ad12, d0, d1, d2, cs, cm, xi, h2, h3, h6, h7, h10, h11]
  grind
theorem ad12_6 (e : Nat → Int) (h : Ev e) : mul12 e (ad12 e) 6 = 0 := by
  obtain ⟨h2, h3, h6, h7, h10, h11⟩ := h
  simp only [mul12, m0, m1, Nat.reduceMul, Nat.reduceAdd, ad12, d0, d1, d2, cs, cm, xi, h2, h3, h6, h7, h10, h11]
  grind
theorem ad12_7 (e : Nat → Int) (h : Ev e) : mul12 e (ad12 e) 7 = 0 := by
  obtain ⟨h2, h3, h6, h7, h10, h11⟩ := h
  simp only [mul12, m0, m1, Nat.reduceMul, Nat.reduceAdd, ad12, d0, d1, d2, cs, cm, xi, h2, h3, h6, h7, h10, h11]
  grind
theorem ad12_8 (e : Nat → Int) (h : Ev e) : mul12 e (ad12 e) 8 = 0 := by
  obtain ⟨h2, h3, h6, h7, h10, h11⟩ := h
  simp only [mul12, m0, m1, Nat.reduceMul, Nat.reduceAdd, ad12, d0, d1, d2, cs, cm, xi, h2, h3, h6, h7, h10, h11]
  grind
theorem ad12_9 (e : Nat → Int) (h : Ev e) : mul12 e (ad12 e) 9 = 0 := by
  obtain ⟨h2, h3, h6, h7, h10, h11⟩ := h
  simp only [mul12, m0, m1, Nat.reduceMul, Nat.reduceAdd, ad12, d0, d1, d2, cs, cm, xi, h2, h3, h6, h7, h10, h11]
  grind
theorem ad12_10 (e : Nat → Int) (h : Ev e) : mul12 e (ad12 e) 10 = 0 := by
  obtain ⟨h2, h3, h6, h7, h10, h11⟩ := h
  simp only [mul12, m0, Nat.reduceMul, Nat.reduceAdd, ad12, d0, d1, d2, cs, cm, xi, h2, h3, h6, h7, h10, h11]
  grind
theorem ad12_11 (e : Nat → Int) (h : Ev e) : mul12 e (ad12 e) 11 = 0 := by
  obtain ⟨h2, h3, h6, h7, h10, h11⟩ := h
  simp only [mul12, m1, Nat.reduceMul, Nat.reduceAdd, ad12, d0, d1, d2, cs, cm, xi, h2, h3, h6, h7, h10, h11]
  grind
theorem ad12_eq (e : Nat → Int) (h : Ev e) : mul12 e (ad12 e) = nv (nn3 (pt e 0) (pt e 2) (pt e 4)) := funext fun j => by
  match j with
  | 0 => exact ad12_0 e h
  | 1 => exact ad12_1 e h
  | 2 => exact ad12_2 e h
  | 3 => exact ad12_3 e h
  | 4 => exact ad12_4 e h
  | 5 => exact ad12_5 e h
  | 6 => exact ad12_6 e h
  | 7 => exact ad12_7 e h
  | 8 => exact ad12_8 e h
  | 9 => exact ad12_9 e h
  | 10 => exact ad12_10 e h
  | 11 => exact ad12_11 e h
  | _ + 12 => rfl
theorem cj_0 (a : Nat → Int) : mul12 a (cj12 a) 0 = mul12 (evp a) (evp a) 0 - mul12 v12 (mul12 (odp a) (odp a)) 0 := by
  simp only [mul12, m0, m1, cj12, evp, odp, v12, Nat.reduceMul, Nat.reduceAdd]
  grind
theorem cj_1 (a : Nat → Int) : mul12 a (cj12 a) 1 = mul12 (evp a) (evp a) 1 - mul12 v12 (mul12 (odp a) (odp a)) 1 := by
  simp only [mul12, m0, m1, cj12, evp, odp, v12, Nat.reduceMul, Nat.reduceAdd]
  grind
theorem cj_2 (a : Nat → Int) : mul12 a (cj12 a) 2 = mul12 (evp a) (evp a) 2 - mul12 v12 (mul12 (odp a) (odp a)) 2 := by
  simp only [mul12, m0, m1, cj12, evp, odp, v12, Nat.reduceMul, Nat.reduceAdd]
  grind
theorem cj_3 (a : Nat → Int) : mul12 a (cj12 a) 3 = mul12 (evp a) (evp a) 3 - mul12 v12 (mul12 (odp a) (odp a)) 3 := by
  simp only [mul12, m0, m1, cj12, evp, odp, v12, Nat.reduceMul, Nat.reduceAdd]
  grind
theorem cj_4 (a : Nat → Int) : mul12 a (cj12 a) 4 = mul12 (evp a) (evp a) 4 - mul12 v12 (mul12 (odp a) (odp a)) 4 := by
  simp only [mul12, m0, m1, cj12, evp, odp, v12, Nat.reduceMul, Nat.reduceAdd]
  grind
theorem cj_5 (a : Nat → Int) : mul12 a (cj12 a) 5 = mul12 (evp a) (evp a) 5 - mul12 v12 (mul12 (odp a) (odp a)) 5 := by
  simp only [mul12, m0, m1, cj12, evp, odp, v12, Nat.reduceMul, Nat.reduceAdd]
  grind
theorem cj_6 (a : Nat → Int) : mul12 a (cj12 a) 6 = mul12 (evp a) (evp a) 6 - mul12 v12 (mul12 (odp a) (odp a)) 6 := by
  simp only [mul12, m0, m1, cj12, evp, odp, v12, Nat.reduceMul, Nat.reduceAdd]
  grind
theorem cj_7 (a : Nat → Int) : mul12 a (cj12 a) 7 = mul12 (evp a) (evp a) 7 - mul12 v12 (mul12 (odp a) (odp a)) 7 := by
  simp only [mul12, m0, m1, cj12, evp, odp, v12, Nat.reduceMul, Nat.reduceAdd]
  grind
theorem cj_8 (a : Nat → Int) : mul12 a (cj12 a) 8 = mul12 (evp a) (evp a) 8 - mul12 v12 (mul12 (odp a) (odp a)) 8 := by
  simp only [mul12, m0, m1, cj12, evp, odp, v12, Nat.reduceMul, Nat.reduceAdd]
  grind
theorem cj_9 (a : Nat → Int) : mul12 a (cj12 a) 9 = mul12 (evp a) (evp a) 9 - mul12 v12 (mul12 (odp a) (odp a)) 9 := by
  simp only [mul12, m0, m1, cj12, evp, odp, v12, Nat.reduceMul, Nat.reduceAdd]
  grind
theorem cj_10 (a : Nat → Int) : mul12 a (cj12 a) 10 = mul12 (evp a) (evp a) 10 - mul12 v12 (mul12 (odp a) (odp a)) 10 := by
  simp only [mul12, m0, m1, cj12, evp, odp, v12, Nat.reduceMul, Nat.reduceAdd]
  grind
theorem cj_11 (a : Nat → Int) : mul12 a (cj12 a) 11 = mul12 (evp a) (evp a) 11 - mul12 v12 (mul12 (odp a) (odp a)) 11 := by
  simp only [mul12, m0, m1, cj12, evp, odp, v12, Nat.reduceMul, Nat.reduceAdd]
  grind
theorem cj_eq (a : Nat → Int) : mul12 a (cj12 a) = fun j => mul12 (evp a) (evp a) j - mul12 v12 (mul12 (odp a) (odp a)) j := funext fun j => by
  match j with
  | 0 => exact cj_0 a
  | 1 => exact cj_1 a
  | 2 => exact cj_2 a
  | 3 => exact cj_3 a
  | 4 => exact cj_4 a
  | 5 => exact cj_5 a
  | 6 => exact cj_6 a
  | 7 => exact cj_7 a
  | 8 => exact cj_8 a
  | 9 => exact cj_9 a
  | 10 => exact cj_10 a
  | 11 => exact cj_11 a
  | _ + 12 => rfl
theorem cj_ev (a : Nat → Int) : Ev (mul12 a (cj12 a)) := by
  refine ⟨?_, ?_, ?_, ?_, ?_, ?_⟩
  · simp only [mul12, m0, m1, Nat.reduceMul, Nat.reduceAdd, cj12]; grind
  · simp only [mul12, m0, m1, Nat.reduceMul, Nat.reduceAdd, cj12]; grind
  · simp only [mul12, m0, m1, Nat.reduceMul, Nat.reduceAdd, cj12]; grind
  · simp only [mul12, m0, m1, Nat.reduceMul, Nat.reduceAdd, cj12]; grind
  · simp only [mul12, m0, Nat.reduceMul, Nat.reduceAdd, cj12]; grind
  · simp only [mul12, m1, Nat.reduceMul, Nat.reduceAdd, cj12]; grind
theorem ev_evp (a : Nat → Int) : Ev (evp a) := ⟨rfl, rfl, rfl, rfl, rfl, rfl⟩
theorem ev_odp (a : Nat → Int) : Ev (odp a) := ⟨rfl, rfl, rfl, rfl, rfl, rfl⟩
theorem ev_ad (a : Nat → Int) : Ev (ad12 a) := ⟨rfl, rfl, rfl, rfl, rfl, rfl⟩
theorem ev_mul {a b : Nat → Int} (h : Ev a) (k : Ev b) : Ev (mul12 a b) := by
  obtain ⟨h2, h3, h6, h7, h10, h11⟩ := h
  obtain ⟨k2, k3, k6, k7, k10, k11⟩ := k
  refine ⟨?_, ?_, ?_, ?_, ?_, ?_⟩
  · simp only [mul12, m0, m1, Nat.reduceMul, Nat.reduceAdd, h2, h3, h6, h7, h10, h11, k2, k3, k6, k7, k10, k11]; simp only [Int.mul_zero, Int.zero_mul, Int.sub_zero, Int.add_zero]
  · simp only [mul12, m0, m1, Nat.reduceMul, Nat.reduceAdd, h2, h3, h6, h7, h10, h11, k2, k3, k6, k7, k10, k11]; simp only [Int.mul_zero, Int.zero_mul, Int.sub_zero, Int.add_zero]
  · simp only [mul12, m0, m1, Nat.reduceMul, Nat.reduceAdd, h2, h3, h6, h7, h10, h11, k2, k3, k6, k7, k10, k11]; simp only [Int.mul_zero, Int.zero_mul, Int.sub_zero, Int.add_zero]
  · simp only [mul12, m0, m1, Nat.reduceMul, Nat.reduceAdd, h2, h3, h6, h7, h10, h11, k2, k3, k6, k7, k10, k11]; simp only [Int.mul_zero, Int.zero_mul, Int.sub_zero, Int.add_zero]
  · simp only [mul12, m0, Nat.reduceMul, Nat.reduceAdd, h2, h3, h6, h7, h10, h11, k2, k3, k6, k7, k10, k11]; simp only [Int.mul_zero, Int.zero_mul, Int.sub_zero, Int.add_zero]
  · simp only [mul12, m1, Nat.reduceMul, Nat.reduceAdd, h2, h3, h6, h7, h10, h11, k2, k3, k6, k7, k10, k11]; simp only [Int.mul_zero, Int.zero_mul, Int.add_zero]
/-! Twelve parts that p divides. -/
def O12 (a : Nat → Int) : Prop := ∀ j, Dv (a j)
theorem O12.mul {a : Nat → Int} (h : O12 a) (b : Nat → Int) : O12 (mul12 a b) := fun j => by
  have e : a = fun j => (fun _ => 0) j + (pB : Int) * (fun j => a j / (pB : Int)) j := funext fun j => by
    obtain ⟨k, hk⟩ := h j
    dsimp only
    rw [Int.zero_add, Int.mul_ediv_cancel' (h j)]
  rw [e, lin12]
  refine Dv.add ?_ ⟨_, rfl⟩
  refine dv_zero.of ?_
  match j with
  | 0 => simp only [mul12, m0, m1, Nat.reduceMul, Nat.reduceAdd, Int.zero_mul, Int.add_zero, Int.sub_zero]
  | 1 => simp only [mul12, m0, m1, Nat.reduceMul, Nat.reduceAdd, Int.zero_mul, Int.add_zero, Int.sub_zero]
  | 2 => simp only [mul12, m0, m1, Nat.reduceMul, Nat.reduceAdd, Int.zero_mul, Int.add_zero, Int.sub_zero]
  | 3 => simp only [mul12, m0, m1, Nat.reduceMul, Nat.reduceAdd, Int.zero_mul, Int.add_zero, Int.sub_zero]
  | 4 => simp only [mul12, m0, m1, Nat.reduceMul, Nat.reduceAdd, Int.zero_mul, Int.add_zero, Int.sub_zero]
  | 5 => simp only [mul12, m0, m1, Nat.reduceMul, Nat.reduceAdd, Int.zero_mul, Int.add_zero, Int.sub_zero]
  | 6 => simp only [mul12, m0, m1, Nat.reduceMul, Nat.reduceAdd, Int.zero_mul, Int.add_zero, Int.sub_zero]
  | 7 => simp only [mul12, m0, m1, Nat.reduceMul, Nat.reduceAdd, Int.zero_mul, Int.add_zero, Int.sub_zero]
  | 8 => simp only [mul12, m0, m1, Nat.reduceMul, Nat.reduceAdd, Int.zero_mul, Int.add_zero, Int.sub_zero]
  | 9 => simp only [mul12, m0, m1, Nat.reduceMul, Nat.reduceAdd, Int.zero_mul, Int.add_zero, Int.sub_zero]
  | 10 => simp only [mul12, m0, Nat.reduceMul, Nat.reduceAdd, Int.zero_mul, Int.add_zero, Int.sub_zero]
  | 11 => simp only [mul12, m1, Nat.reduceMul, Nat.reduceAdd, Int.zero_mul, Int.add_zero]
  | _ + 12 => rfl
theorem O12.mulr {a : Nat → Int} (h : O12 a) (b : Nat → Int) : O12 (mul12 b a) := by rw [comm12]; exact h.mul b
theorem O12.sub {a b : Nat → Int} (h : O12 a) (k : O12 b) : O12 (fun j => a j - b j) := fun j => (h j).sub (k j)
theorem sub12 (a q b : Nat → Int) : mul12 (fun j => a j - q j) b = (fun j => mul12 a b j - mul12 q b j) := by
  have h := lin12 a q b (-1)
  have e : ∀ x y : Int, x + -1 * y = x - y := fun x y => by omega
  simp only [e] at h
  exact h
theorem sq_mul (a b : Nat → Int) : mul12 (mul12 a b) (mul12 a b) = mul12 (mul12 a a) (mul12 b b) := by
  rw [assoc12, ← assoc12 b a b, comm12 b a, assoc12 a b b, ← assoc12]
theorem sqe (e : Nat → Int) (h : Ev e) : pt (mul12 e e) 0 = ca (cm (pt e 0) (pt e 0)) (cm (2, 0) (cm xi (cm (pt e 2) (pt e 4)))) ∧ pt (mul12 e e) 2 = ca (cm (2, 0) (cm (pt e 0) (pt e 2))) (cm xi (cm (pt e 4) (pt e 4))) ∧ pt (mul12 e e) 4 = ca (cm (pt e 2) (pt e 2)) (cm (2, 0) (cm (pt e 0) (pt e 4))) := by
  obtain ⟨h2, h3, h6, h7, h10, h11⟩ := h
  refine ⟨?_, ?_, ?_⟩
  · simp only [pt, mul12, m0, m1, ca, cm, xi, Nat.reduceMul, Nat.reduceAdd, h2, h3, h6, h7, h10, h11]
    exact Prod.ext (by dsimp only; grind) (by dsimp only; grind)
  · simp only [pt, mul12, m0, m1, ca, cm, xi, Nat.reduceMul, Nat.reduceAdd, h2, h3, h6, h7, h10, h11]
    exact Prod.ext (by dsimp only; grind) (by dsimp only; grind)
  · simp only [pt, mul12, m0, m1, ca, cm, Nat.reduceMul, Nat.reduceAdd, h2, h3, h6, h7, h10, h11]
    exact Prod.ext (by dsimp only; grind) (by dsimp only; grind)
theorem vnn (n : Z2) : pt (mul12 v12 (mul12 (nv n) (nv n))) 0 = (0, 0) ∧ pt (mul12 v12 (mul12 (nv n) (nv n))) 2 = cm n n ∧ pt (mul12 v12 (mul12 (nv n) (nv n))) 4 = (0, 0) := by
  refine ⟨?_, ?_, ?_⟩
  · simp only [pt, mul12, m0, m1, v12, nv, Nat.reduceMul, Nat.reduceAdd]
    exact Prod.ext (by dsimp only; grind) (by dsimp only; grind)
  · simp only [pt, mul12, m0, m1, v12, nv, cm, Nat.reduceMul, Nat.reduceAdd]
    exact Prod.ext (by dsimp only; grind) (by dsimp only; grind)
  · simp only [pt, mul12, m0, m1, v12, nv, Nat.reduceMul, Nat.reduceAdd]
    exact Prod.ext (by dsimp only; grind) (by dsimp only; grind)
/-- A number of twelve parts whose norm is nothing is nothing. -/
theorem twelve0 {a : Nat → Int} (h : O2 (nn3 (pt (mul12 a (cj12 a)) 0) (pt (mul12 a (cj12 a)) 2) (pt (mul12 a (cj12 a)) 4))) : ∀ j, j < 12 → Dv (a j) := by
  obtain ⟨k0, k2, k4⟩ := three0 h
  obtain ⟨z2, z3, z6, z7, z10, z11⟩ := cj_ev a
  have hE : O12 (mul12 a (cj12 a)) := fun j => by
    match j with
    | 0 => exact k0.1
    | 1 => exact k0.2
    | 2 => rw [z2]; exact dv_zero
    | 3 => rw [z3]; exact dv_zero
    | 4 => exact k2.1
    | 5 => exact k2.2
    | 6 => rw [z6]; exact dv_zero
    | 7 => rw [z7]; exact dv_zero
    | 8 => exact k4.1
    | 9 => exact k4.2
    | 10 => rw [z10]; exact dv_zero
    | 11 => rw [z11]; exact dv_zero
    | _ + 12 => exact dv_zero
  clear h k0 k2 k4 z2 z3 z6 z7 z10 z11
  rw [cj_eq] at hE
  have hB : O2 (pt (odp a) 0) ∧ O2 (pt (odp a) 2) ∧ O2 (pt (odp a) 4) := by
    have h1 := hE.mul (mul12 (ad12 (odp a)) (ad12 (odp a)))
    rw [sub12, assoc12 v12, ← sq_mul, ← sq_mul, ad12_eq _ (ev_odp a)] at h1
    have hn : ∀ n : Z2, O12 (fun j => mul12 (mul12 (evp a) (ad12 (odp a))) (mul12 (evp a) (ad12 (odp a))) j - mul12 v12 (mul12 (nv n) (nv n)) j) → O2 n := fun n h1 => by
      have evC : Ev (mul12 (evp a) (ad12 (odp a))) := ev_mul (ev_evp a) (ev_ad _)
      generalize mul12 (evp a) (ad12 (odp a)) = c at *
      obtain ⟨c0, c1, c2⟩ := sqe c evC
      obtain ⟨v0, v1, v2⟩ := vnn n
      have g0 : O2 (pt (mul12 c c) 0) := by
        have e0 : mul12 v12 (mul12 (nv n) (nv n)) 0 = 0 := congrArg Prod.fst v0
        have e1 : mul12 v12 (mul12 (nv n) (nv n)) 1 = 0 := congrArg Prod.snd v0
        exact ⟨(h1 0).of (by dsimp only; rw [e0, Int.sub_zero]), (h1 1).of (by dsimp only; rw [e1, Int.sub_zero])⟩
      have g1 : O2 (cs (pt (mul12 c c) 2) (cm n n)) := by
        have e0 : mul12 v12 (mul12 (nv n) (nv n)) 4 = (cm n n).1 := congrArg Prod.fst v1
        have e1 : mul12 v12 (mul12 (nv n) (nv n)) 5 = (cm n n).2 := congrArg Prod.snd v1
        exact ⟨(h1 4).of (by dsimp only; rw [e0]; rfl), (h1 5).of (by dsimp only; rw [e1]; rfl)⟩
      have g2 : O2 (pt (mul12 c c) 4) := by
        have e0 : mul12 v12 (mul12 (nv n) (nv n)) 8 = 0 := congrArg Prod.fst v2
        have e1 : mul12 v12 (mul12 (nv n) (nv n)) 9 = 0 := congrArg Prod.snd v2
        exact ⟨(h1 8).of (by dsimp only; rw [e0, Int.sub_zero]), (h1 9).of (by dsimp only; rw [e1, Int.sub_zero])⟩
      rw [c0] at g0
      rw [c1] at g1
      rw [c2] at g2
      exact (v_sq g0 g1 g2).1
    exact three0 (hn _ h1)
  obtain ⟨b0, b2, b4⟩ := hB
  have hO : O12 (odp a) := fun j => by
    match j with
    | 0 => exact b0.1
    | 1 => exact b0.2
    | 2 => exact dv_zero
    | 3 => exact dv_zero
    | 4 => exact b2.1
    | 5 => exact b2.2
    | 6 => exact dv_zero
    | 7 => exact dv_zero
    | 8 => exact b4.1
    | 9 => exact b4.2
    | _ + 10 => exact dv_zero
  have hA : O12 (mul12 (evp a) (evp a)) := fun j => ((hE j).add ((hO.mul (odp a)).mulr v12 j)).of (by dsimp only; omega)
  obtain ⟨c0, c1, c2⟩ := sqe (evp a) (ev_evp a)
  have g0 : O2 (pt (mul12 (evp a) (evp a)) 0) := ⟨hA 0, hA 1⟩
  have g1 : O2 (cs (pt (mul12 (evp a) (evp a)) 2) (cm (0, 0) (0, 0))) := ⟨(hA 4).of (by show _ = _ - (0 : Int); rw [Int.sub_zero]), (hA 5).of (by show _ = _ - (0 : Int); rw [Int.sub_zero])⟩
  have g2 : O2 (pt (mul12 (evp a) (evp a)) 4) := ⟨hA 8, hA 9⟩
  rw [c0] at g0
  rw [c1] at g1
  rw [c2] at g2
  obtain ⟨_, a0, a2, a4⟩ := v_sq g0 g1 g2
  intro j hj
  match j, hj with
  | 0, _ => exact a0.1
  | 1, _ => exact a0.2
  | 2, _ => exact b0.1
  | 3, _ => exact b0.2
  | 4, _ => exact a2.1
  | 5, _ => exact a2.2
  | 6, _ => exact b2.1
  | 7, _ => exact b2.2
  | 8, _ => exact a4.1
  | 9, _ => exact a4.2
  | 10, _ => exact b4.1
  | 11, _ => exact b4.2
end Rg
end Go.Proofs.YtdbejmgomajjmaaGreatDoor
end
section
namespace Go.Proofs.YtdbejmgomajjmaaGreatDoor
open Go.RowKit
namespace Rg
theorem ex_indexE12_0 {ρ : Operand → Value} {o : Oper} {x y : Operand} {a : Nat → Nat} {w : World} (ho : o.op = .index 32 x y) (hx : ρ x = V (tl a)) (hy : ρ y = .int .i64 0) : (execOp ρ o).run Tryz.prog w = .ok (.value (V [a 0, a 1])) w := by
  simp only [execOp, ho, hx, hy]
  kernel_rfl
set_option maxHeartbeats 8000000 in
set_option maxRecDepth 100000 in
theorem inv12_ok (a m o ee t2 t4 t q x r : Nat → Nat) (n i0 i1 : Nat)
    (c0 : ∀ w, Calls Tryz.prog 61 #[] w fun e w' => Below w.heap.size w w' ∧ ∃ g, e = .returned (.agg #[PT g 0]) ∧ w.heap.size ≤ g ∧ g < w'.heap.size ∧ Blk w' g (modc n))
    (c1 : ∀ w, Calls Tryz.prog 63 #[V (tl a)] w fun e w' => e = .returned (V (tl m)) ∧ Below w.heap.size w w')
    (c2 : ∀ w, Calls Tryz.prog 44 #[V (tl m)] w fun e w' => e = .returned (V (tl o)) ∧ Below w.heap.size w w')
    (c3 : ∀ g w, Mm w [(g, modc n)] → Calls Tryz.prog 62 #[.agg #[PT g 0], V (tl m), V (tl o)] w fun e w' => e = .returned (V (tl ee)) ∧ Below w.heap.size w w')
    (c4 : ∀ g w, Mm w [(g, modc n)] → Calls Tryz.prog 89 #[.agg #[PT g 0], V (tl ee), .int .i64 2] w fun e w' => e = .returned (V (tl t2)) ∧ Below w.heap.size w w')
    (c5 : ∀ g w, Mm w [(g, modc n)] → Calls Tryz.prog 89 #[.agg #[PT g 0], V (tl ee), .int .i64 4] w fun e w' => e = .returned (V (tl t4)) ∧ Below w.heap.size w w')
    (c6 : ∀ g w, Mm w [(g, modc n)] → Calls Tryz.prog 62 #[.agg #[PT g 0], V (tl t2), V (tl t4)] w fun e w' => e = .returned (V (tl t)) ∧ Below w.heap.size w w')
    (c7 : ∀ g w, Mm w [(g, modc n)] → Calls Tryz.prog 62 #[.agg #[PT g 0], V (tl ee), V (tl t)] w fun e w' => e = .returned (V (tl q)) ∧ Below w.heap.size w w')
    (c8 : ∀ g w, Mm w [(g, modc n), (0, dtab)] → Calls Tryz.prog 90 #[.agg #[PT g 0], V [q 0, q 1]] w fun e w' => e = .returned (.tuple #[V [i0, i1], .int .i64 0]) ∧ Below w.heap.size w w')
    (c9 : ∀ g w, Mm w [(g, modc n)] → Calls Tryz.prog 62 #[.agg #[PT g 0], V (tl o), V (tl t)] w fun e w' => e = .returned (V (tl x)) ∧ Below w.heap.size w w')
    (c10 : ∀ g w, Mm w [(g, modc n)] → Calls Tryz.prog 62 #[.agg #[PT g 0], V (tl x), V [i0, i1, 0, 0, 0, 0, 0, 0, 0, 0, 0, 0]] w fun e w' => e = .returned (V (tl r)) ∧ Below w.heap.size w w') (w : World) (hm : Mm w [(0, dtab)]) :
    Calls Tryz.prog 43 #[V (tl a)] w fun e w' => e = .returned (.tuple #[V (tl r), .int .i64 0]) ∧ Below w.heap.size w w' := by
  have H0 : Hid (_ ∧ _) := ⟨hm, Below.refl w.heap.size w⟩
  clear hm
  have C0 : Hid _ := c0
  have C1 : Hid _ := c1
  have C2 : Hid _ := c2
  have C3 : Hid _ := c3
  have C4 : Hid _ := c4
  have C5 : Hid _ := c5
  have C6 : Hid _ := c6
  have C7 : Hid _ := c7
  have C8 : Hid _ := c8
  have C9 : Hid _ := c9
  have C10 : Hid _ := c10
  clear c0 c1 c2 c3 c4 c5 c6 c7 c8 c9 c10
  go_enter Tryz.func43, Tryz.ntmps43
  refine wp_seq ?_
  refine walk_seqA 3 [.made (cel (tl a)) 32, .made (cel [0, 0, 0, 0, 0, 0, 0, 0, 0, 0, 0, 0]) 32, .quiet (.int .i64 0)] (sB H0) ?ho1 ?he1
  case ho1 => exact ak (fun γ => ⟨rfl, fun w' => ex_boxA rfl rfl⟩) (ak (fun γ => ⟨rfl, fun w' => ex_madeE12 rfl⟩) (ak (fun _ => ⟨rfl, fun _ _ => rfl⟩) trivial))
  intro γ w1 l hM hl
  have H1 : Hid (Mm w1 [(γ 0, cel (tl a)), (γ 1, cel [0, 0, 0, 0, 0, 0, 0, 0, 0, 0, 0, 0]), (0, dtab)] ∧ _) := growB H0 hM (Nat.le_refl _) hl [0, 1] rfl (by decide)
  have o1_0 := ownB H0 hM (Nat.le_refl _) hl (i := 0) rfl
  have o1_1 := ownB H0 hM (Nat.le_refl _) hl (i := 1) rfl
  clear hM hl l
  generalize γ 0 = γ1_0 at H1 o1_0 ⊢
  generalize γ 1 = γ1_1 at H1 o1_1 ⊢
  clear γ
  refine rest0 rfl (then_normal (wp_seq ?_))
  refine walk_put (by kernel_rfl) 4 [] [.born (fun g => .agg #[PT g 0]) (modc n), .quiet (V (tl a)), .call (V (tl m)), .made [.pointer none] 100] _ ?pre2 ?F2 _ ?hpre2 (fun γ => ?hF2) (by kernel_rfl) rfl trivial (sB H1) ?ho2 ?hla2 ?he2
  case hpre2 => simp only [tk, tz]; rfl
  case hF2 => simp only [fill, Kind.val, Act.put, sa, sz, ss]; rfl
  case ho2 =>
    refine ak (fun γ => ⟨rfl, fun w' h => ⟨61, #[], exec_call rfl call61 rfl (mpn rfl), C0.out w'⟩⟩) ?_
    refine ak (fun γ => ⟨rfl, fun w' h => ex_loadA (i := 0) (k := 12) h 0 rfl rfl rfl Tryz.isAgg32 Tryz.sizeOf32 rfl rfl⟩) ?_
    refine ak (fun γ => ⟨rfl, fun w' h => ⟨63, #[V (tl a)], exec_call rfl call63 rfl (mpn rfl), C1.out w'⟩⟩) ?_
    refine ak (fun γ => ⟨rfl, fun w' => ex_madeF rfl⟩) ?_
    exact trivial
  case hla2 => exact trivial
  intro γ w2 l hM hl
  have H2 : Hid (Mm w2 [(γ 0, modc n), (γ 3, [.pointer none]), (γ1_0, cel (tl a)), (γ1_1, cel [0, 0, 0, 0, 0, 0, 0, 0, 0, 0, 0, 0]), (0, dtab)] ∧ _) := growB H1 hM (Nat.le_refl _) hl [0, 3] rfl (by decide)
  have o2_0 := ownB H1 hM (Nat.le_refl _) hl (i := 0) rfl
  have o2_3 := ownB H1 hM (Nat.le_refl _) hl (i := 3) rfl
  clear hM hl l H1
  generalize γ 0 = γ2_0 at H2 o2_0 ⊢
  generalize γ 3 = γ2_3 at H2 o2_3 ⊢
  clear γ
  refine ⟨_, ex_storeF H2.out.1 1 rfl rfl rfl rfl (Nat.le_of_ble_eq_true rfl), ?_⟩
  have H3 : Hid (Mm (w2.setCells γ2_3 0 [PT γ2_0 0]) [(γ2_0, modc n), (γ2_3, [PT γ2_0 0]), (γ1_0, cel (tl a)), (γ1_1, cel [0, 0, 0, 0, 0, 0, 0, 0, 0, 0, 0, 0]), (0, dtab)] ∧ Below w.heap.size w (w2.setCells γ2_3 0 [PT γ2_0 0])) := ⟨H2.out.1.put 1 (off := 0) (vs := [PT γ2_0 0]) rfl (Nat.le_of_ble_eq_true rfl), below_setCells _ o2_3.out _ _ _ H2.out.2⟩
  clear H2
  generalize hgw : World.setCells _ _ _ _ = w3 at H3 ⊢
  clear hgw
  refine rest_at (l := [5]) rfl ?_
  refine rest_store rfl rfl rfl (ex_storeA (i := 0) (ms := [m 0, m 1, m 2, m 3, m 4, m 5, m 6, m 7, m 8, m 9, m 10, m 11]) H3.out.1 2 rfl rfl rfl rfl Tryz.sizeOf32 (Nat.le_of_ble_eq_true rfl)) ?_
  have H4 : Hid (Mm (w3.setCells γ1_0 (6 * 0) (cel [m 0, m 1, m 2, m 3, m 4, m 5, m 6, m 7, m 8, m 9, m 10, m 11])) [(γ2_0, modc n), (γ2_3, [PT γ2_0 0]), (γ1_0, cel (tl m)), (γ1_1, cel [0, 0, 0, 0, 0, 0, 0, 0, 0, 0, 0, 0]), (0, dtab)] ∧ Below w.heap.size w (w3.setCells γ1_0 (6 * 0) (cel [m 0, m 1, m 2, m 3, m 4, m 5, m 6, m 7, m 8, m 9, m 10, m 11]))) := ⟨by
    have h := H3.out.1.put 2 (off := 6 * 0) (vs := cel [m 0, m 1, m 2, m 3, m 4, m 5, m 6, m 7, m 8, m 9, m 10, m 11]) rfl (by simp only [cel_len]; exact Nat.le_of_ble_eq_true rfl)
    rw [cel_patch] at h
    exact h, below_setCells _ o1_0.out _ _ _ H3.out.2⟩
  clear H3
  generalize hgw : World.setCells _ _ _ _ = w4 at H4 ⊢
  clear hgw
  refine rest_nil (then_normal (wp_seq ?_))
  refine walk_seqA 4 [.quiet (V (tl m)), .call (V (tl o)), .made (cel [0, 0, 0, 0, 0, 0, 0, 0, 0, 0, 0, 0]) 32, .laid 2 (cel [0, 0, 0, 0, 0, 0, 0, 0, 0, 0, 0, 0]) (cel (tl o))] (sB H4) ?ho3 ?he3 (hL := ?hL3)
  case hL3 => exact ⟨⟨_, rfl⟩, trivial⟩
  case ho3 => exact ak (fun γ => ⟨rfl, fun w' h => ex_loadA (i := 0) (k := 12) h 2 rfl rfl rfl Tryz.isAgg32 Tryz.sizeOf32 rfl rfl⟩) (ak (fun γ => ⟨rfl, fun w' h => ⟨44, #[V (tl m)], exec_call rfl call44 rfl (mpn rfl), C2.out w'⟩⟩) (ak (fun γ => ⟨rfl, fun w' => ex_madeE12 rfl⟩) (ak (fun γ => ⟨rfl, rfl, rfl, fun w' h => ex_laidA h rfl Tryz.sizeOf32 rfl rfl rfl⟩) trivial)))
  intro γ w5 l hM hl
  have H5 : Hid (Mm w5 [(γ 2, cel (tl o)), (γ2_0, modc n), (γ2_3, [PT γ2_0 0]), (γ1_0, cel (tl m)), (γ1_1, cel [0, 0, 0, 0, 0, 0, 0, 0, 0, 0, 0, 0]), (0, dtab)] ∧ _) := growB H4 hM (Nat.le_refl _) hl [2] rfl (by decide)
  have o3_2 := ownB H4 hM (Nat.le_refl _) hl (i := 2) rfl
  clear hM hl l H4
  generalize γ 2 = γ3_2 at H5 o3_2 ⊢
  clear γ
  refine rest0 rfl (then_normal (wp_seq ?_))
  refine walk_seqA 6 [.quiet (.agg #[PT γ2_0 0]), .quiet (V (tl m)), .quiet (V (tl o)), .call (V (tl ee)), .made (cel [0, 0, 0, 0, 0, 0, 0, 0, 0, 0, 0, 0]) 32, .laid 4 (cel [0, 0, 0, 0, 0, 0, 0, 0, 0, 0, 0, 0]) (cel (tl ee))] (sB H5) ?ho4 ?he4 (hL := ?hL4)
  case hL4 => exact ⟨⟨_, rfl⟩, trivial⟩
  case ho4 => exact ak (fun γ => ⟨rfl, fun w' h => ex_loadF h 2 rfl rfl rfl rfl⟩) (ak (fun γ => ⟨rfl, fun w' h => ex_loadA (i := 0) (k := 12) h 3 rfl rfl rfl Tryz.isAgg32 Tryz.sizeOf32 rfl rfl⟩) (ak (fun γ => ⟨rfl, fun w' h => ex_loadA (i := 0) (k := 12) h 0 rfl rfl rfl Tryz.isAgg32 Tryz.sizeOf32 rfl rfl⟩) (ak (fun γ => ⟨rfl, fun w' h => ⟨62, #[.agg #[PT γ2_0 0], V (tl m), V (tl o)], exec_call rfl call62 rfl (mpn rfl), C3.out _ w' (h.one 1 rfl)⟩⟩) (ak (fun γ => ⟨rfl, fun w' => ex_madeE12 rfl⟩) (ak (fun γ => ⟨rfl, rfl, rfl, fun w' h => ex_laidA h rfl Tryz.sizeOf32 rfl rfl rfl⟩) trivial)))))
  intro γ w6 l hM hl
  have H6 : Hid (Mm w6 [(γ 4, cel (tl ee)), (γ3_2, cel (tl o)), (γ2_0, modc n), (γ2_3, [PT γ2_0 0]), (γ1_0, cel (tl m)), (γ1_1, cel [0, 0, 0, 0, 0, 0, 0, 0, 0, 0, 0, 0]), (0, dtab)] ∧ _) := growB H5 hM (Nat.le_refl _) hl [4] rfl (by decide)
  have o4_4 := ownB H5 hM (Nat.le_refl _) hl (i := 4) rfl
  clear hM hl l H5
  generalize γ 4 = γ4_4 at H6 o4_4 ⊢
  clear γ
  refine rest0 rfl (then_normal (wp_seq ?_))
  refine walk_anyA 10 [.quiet (.agg #[PT γ2_0 0]), .quiet (.agg #[PT γ2_0 0]), .quiet (V (tl ee)), .call (V (tl t2)), .quiet (.agg #[PT γ2_0 0]), .quiet (V (tl ee)), .call (V (tl t4)), .call (V (tl t)), .made (cel [0, 0, 0, 0, 0, 0, 0, 0, 0, 0, 0, 0]) 32, .laid 8 (cel [0, 0, 0, 0, 0, 0, 0, 0, 0, 0, 0, 0]) (cel (tl t))] (sB H6) ?ho5 ?he5 (hL := ?hL5)
  case hL5 => exact ⟨⟨_, rfl⟩, trivial⟩
  case ho5 => exact ak (fun γ => ⟨rfl, fun w' h => ex_loadF h 3 rfl rfl rfl rfl⟩) (ak (fun γ => ⟨rfl, fun w' h => ex_loadF h 3 rfl rfl rfl rfl⟩) (ak (fun γ => ⟨rfl, fun w' h => ex_loadA (i := 0) (k := 12) h 0 rfl rfl rfl Tryz.isAgg32 Tryz.sizeOf32 rfl rfl⟩) (ak (fun γ => ⟨rfl, fun w' h => ⟨89, #[.agg #[PT γ2_0 0], V (tl ee), .int .i64 2], exec_call rfl call89 rfl (mpn rfl), C4.out _ w' (h.one 2 rfl)⟩⟩) (ak (fun γ => ⟨rfl, fun w' h => ex_loadF h 3 rfl rfl rfl rfl⟩) (ak (fun γ => ⟨rfl, fun w' h => ex_loadA (i := 0) (k := 12) h 0 rfl rfl rfl Tryz.isAgg32 Tryz.sizeOf32 rfl rfl⟩) (ak (fun γ => ⟨rfl, fun w' h => ⟨89, #[.agg #[PT γ2_0 0], V (tl ee), .int .i64 4], exec_call rfl call89 rfl (mpn rfl), C5.out _ w' (h.one 2 rfl)⟩⟩) (ak (fun γ => ⟨rfl, fun w' h => ⟨62, #[.agg #[PT γ2_0 0], V (tl t2), V (tl t4)], exec_call rfl call62 rfl (mpn rfl), C6.out _ w' (h.one 2 rfl)⟩⟩) (ak (fun γ => ⟨rfl, fun w' => ex_madeE12 rfl⟩) (ak (fun γ => ⟨rfl, rfl, rfl, fun w' h => ex_laidA h rfl Tryz.sizeOf32 rfl rfl rfl⟩) trivial)))))))))
  intro γ w7 l hM hl
  have H7 : Hid (Mm w7 [(γ 8, cel (tl t)), (γ4_4, cel (tl ee)), (γ3_2, cel (tl o)), (γ2_0, modc n), (γ2_3, [PT γ2_0 0]), (γ1_0, cel (tl m)), (γ1_1, cel [0, 0, 0, 0, 0, 0, 0, 0, 0, 0, 0, 0]), (0, dtab)] ∧ _) := growB H6 hM (Nat.le_refl _) hl [8] rfl (by decide)
  have o5_8 := ownB H6 hM (Nat.le_refl _) hl (i := 8) rfl
  clear hM hl l H6
  generalize γ 8 = γ5_8 at H7 o5_8 ⊢
  clear γ
  refine rest0 rfl (then_normal (wp_seq ?_))
  refine walk_anyA 13 [.quiet (.agg #[PT γ2_0 0]), .quiet (.agg #[PT γ2_0 0]), .quiet (V (tl ee)), .quiet (V (tl t)), .call (V (tl q)), .quiet (V [q 0, q 1]), .call (.tuple #[V [i0, i1], .int .i64 0]), .quiet (.tuple #[V [i0, i1], .int .i64 0]), .quiet (V [i0, i1]), .quiet (.int .i64 0), .made (cel [0, 0]) 28, .laid 10 (cel [0, 0]) (cel [i0, i1]), .quiet (.int .i64 0)] (sB H7) ?ho6 ?he6 (hL := ?hL6)
  case hL6 => exact ⟨⟨_, rfl⟩, trivial⟩
  case ho6 => exact ak (fun γ => ⟨rfl, fun w' h => ex_loadF h 4 rfl rfl rfl rfl⟩) (ak (fun γ => ⟨rfl, fun w' h => ex_loadF h 4 rfl rfl rfl rfl⟩) (ak (fun γ => ⟨rfl, fun w' h => ex_loadA (i := 0) (k := 12) h 1 rfl rfl rfl Tryz.isAgg32 Tryz.sizeOf32 rfl rfl⟩) (ak (fun γ => ⟨rfl, fun w' h => ex_loadA (i := 0) (k := 12) h 0 rfl rfl rfl Tryz.isAgg32 Tryz.sizeOf32 rfl rfl⟩) (ak (fun γ => ⟨rfl, fun w' h => ⟨62, #[.agg #[PT γ2_0 0], V (tl ee), V (tl t)], exec_call rfl call62 rfl (mpn rfl), C7.out _ w' (h.one 3 rfl)⟩⟩) (ak (fun γ => ⟨rfl, fun w' _ => ex_indexE12_0 rfl rfl rfl⟩) (ak (fun γ => ⟨rfl, fun w' h => ⟨90, #[.agg #[PT γ2_0 0], V [q 0, q 1]], exec_call rfl call90 rfl (mpn rfl), C8.out _ w' (h.two 3 7 rfl rfl (by decide))⟩⟩) (ak (fun _ => ⟨rfl, fun _ _ => rfl⟩) (ak (by refine fun γ => ⟨rfl, fun w' h => ?_⟩; clear h; go_simp) (ak (by refine fun γ => ⟨rfl, fun w' h => ?_⟩; clear h; go_simp) (ak (fun γ => ⟨rfl, fun w' => ex_madeE2 rfl⟩) (ak (fun γ => ⟨rfl, rfl, rfl, fun w' h => ex_laidA h rfl Tryz.sizeOf28 rfl rfl rfl⟩) (ak (fun _ => ⟨rfl, fun _ _ => rfl⟩) trivial))))))))))))
  intro γ w8 l hM hl
  have H8 : Hid (Mm w8 [(γ 10, cel [i0, i1]), (γ5_8, cel (tl t)), (γ4_4, cel (tl ee)), (γ3_2, cel (tl o)), (γ2_0, modc n), (γ2_3, [PT γ2_0 0]), (γ1_0, cel (tl m)), (γ1_1, cel [0, 0, 0, 0, 0, 0, 0, 0, 0, 0, 0, 0]), (0, dtab)] ∧ _) := growB H7 hM (Nat.le_refl _) hl [10] rfl (by decide)
  have o6_10 := ownB H7 hM (Nat.le_refl _) hl (i := 10) rfl
  clear hM hl l H7
  generalize γ 10 = γ6_10 at H8 o6_10 ⊢
  clear γ
  refine rest0 rfl (then_normal (wp_seq (wp_seq ?_)))
  refine walk_seqB 2 [.quiet (.int .i64 0), .quiet (.bool false)] H8 ?ho7 ?he7
  case ho7 => exact ak (fun _ => ⟨rfl, fun _ _ => rfl⟩) (ak (by refine fun γ => ⟨rfl, fun w' h => ?_⟩; clear h; go_simp) trivial)
  intro _ w9 H9
  clear H8
  refine rest0 rfl (then_normal (wp_cond_false rfl ?_))
  refine wp_skip (then_normal (wp_seq ?_))
  refine walk_anyB 8 [.quiet (.agg #[PT γ2_0 0]), .quiet (.agg #[PT γ2_0 0]), .quiet (V (tl o)), .quiet (V (tl t)), .call (V (tl x)), .quiet (V [i0, i1]), .quiet (V [i0, i1, 0, 0, 0, 0, 0, 0, 0, 0, 0, 0]), .call (V (tl r))] H9 ?ho8 ?he8
  case ho8 => exact ak (fun γ => ⟨rfl, fun w' h => ex_loadF h 5 rfl rfl rfl rfl⟩) (ak (fun γ => ⟨rfl, fun w' h => ex_loadF h 5 rfl rfl rfl rfl⟩) (ak (fun γ => ⟨rfl, fun w' h => ex_loadA (i := 0) (k := 12) h 3 rfl rfl rfl Tryz.isAgg32 Tryz.sizeOf32 rfl rfl⟩) (ak (fun γ => ⟨rfl, fun w' h => ex_loadA (i := 0) (k := 12) h 1 rfl rfl rfl Tryz.isAgg32 Tryz.sizeOf32 rfl rfl⟩) (ak (fun γ => ⟨rfl, fun w' h => ⟨62, #[.agg #[PT γ2_0 0], V (tl o), V (tl t)], exec_call rfl call62 rfl (mpn rfl), C9.out _ w' (h.one 4 rfl)⟩⟩) (ak (fun γ => ⟨rfl, fun w' h => ex_loadA (i := 0) (k := 2) h 0 rfl rfl rfl Tryz.isAgg28 Tryz.sizeOf28 rfl rfl⟩) (ak (fun γ => ⟨rfl, fun w' _ => ex_buildE12a rfl rfl⟩) (ak (fun γ => ⟨rfl, fun w' h => ⟨62, #[.agg #[PT γ2_0 0], V (tl x), V [i0, i1, 0, 0, 0, 0, 0, 0, 0, 0, 0, 0]], exec_call rfl call62 rfl (mpn rfl), C10.out _ w' (h.one 4 rfl)⟩⟩) trivial)))))))
  intro _ w10 H10
  clear H9
  refine rest_at (l := [8, 9]) rfl ?_
  refine rest_store rfl rfl rfl (ex_storeA (i := 0) (ms := [r 0, r 1, r 2, r 3, r 4, r 5, r 6, r 7, r 8, r 9, r 10, r 11]) H10.out.1 7 rfl rfl rfl rfl Tryz.sizeOf32 (Nat.le_of_ble_eq_true rfl)) ?_
  have H11 : Hid (Mm (w10.setCells γ1_1 (6 * 0) (cel [r 0, r 1, r 2, r 3, r 4, r 5, r 6, r 7, r 8, r 9, r 10, r 11])) [(γ6_10, cel [i0, i1]), (γ5_8, cel (tl t)), (γ4_4, cel (tl ee)), (γ3_2, cel (tl o)), (γ2_0, modc n), (γ2_3, [PT γ2_0 0]), (γ1_0, cel (tl m)), (γ1_1, cel (tl r)), (0, dtab)] ∧ Below w.heap.size w (w10.setCells γ1_1 (6 * 0) (cel [r 0, r 1, r 2, r 3, r 4, r 5, r 6, r 7, r 8, r 9, r 10, r 11]))) := ⟨by
    have h := H10.out.1.put 7 (off := 6 * 0) (vs := cel [r 0, r 1, r 2, r 3, r 4, r 5, r 6, r 7, r 8, r 9, r 10, r 11]) rfl (by simp only [cel_len]; exact Nat.le_of_ble_eq_true rfl)
    rw [cel_patch] at h
    exact h, below_setCells _ o1_1.out _ _ _ H10.out.2⟩
  clear H10
  generalize hgw : World.setCells _ _ _ _ = w11 at H11 ⊢
  clear hgw
  refine rest_set (d := 3) rfl rfl rfl rfl ?_
  simp only [Act.put, sa, sz, ss]
  refine rest_nil (then_normal (wp_ret ?_))
  repeat (first | refine then_ret ?_ | refine block_ret ?_)
  have hf0 := cel_var (k := 12) H11.out.1 7 rfl Tryz.isAgg32 Tryz.sizeOf32 rfl
  refine bodyPost_ret (v := .tuple #[V (tl r), .int .i64 0]) (by simp [results, Tryz.results43, asAddr, Act.eval, hf0]) rfl ?_
  exact ⟨rfl, H11.out.2⟩
set_option maxHeartbeats 8000000 in
set_option maxRecDepth 100000 in
theorem inv12_no (a m o ee t2 t4 t q : Nat → Nat) (n : Nat)
    (c0 : ∀ w, Calls Tryz.prog 61 #[] w fun e w' => Below w.heap.size w w' ∧ ∃ g, e = .returned (.agg #[PT g 0]) ∧ w.heap.size ≤ g ∧ g < w'.heap.size ∧ Blk w' g (modc n))
    (c1 : ∀ w, Calls Tryz.prog 63 #[V (tl a)] w fun e w' => e = .returned (V (tl m)) ∧ Below w.heap.size w w')
    (c2 : ∀ w, Calls Tryz.prog 44 #[V (tl m)] w fun e w' => e = .returned (V (tl o)) ∧ Below w.heap.size w w')
    (c3 : ∀ g w, Mm w [(g, modc n)] → Calls Tryz.prog 62 #[.agg #[PT g 0], V (tl m), V (tl o)] w fun e w' => e = .returned (V (tl ee)) ∧ Below w.heap.size w w')
    (c4 : ∀ g w, Mm w [(g, modc n)] → Calls Tryz.prog 89 #[.agg #[PT g 0], V (tl ee), .int .i64 2] w fun e w' => e = .returned (V (tl t2)) ∧ Below w.heap.size w w')
    (c5 : ∀ g w, Mm w [(g, modc n)] → Calls Tryz.prog 89 #[.agg #[PT g 0], V (tl ee), .int .i64 4] w fun e w' => e = .returned (V (tl t4)) ∧ Below w.heap.size w w')
    (c6 : ∀ g w, Mm w [(g, modc n)] → Calls Tryz.prog 62 #[.agg #[PT g 0], V (tl t2), V (tl t4)] w fun e w' => e = .returned (V (tl t)) ∧ Below w.heap.size w w')
    (c7 : ∀ g w, Mm w [(g, modc n)] → Calls Tryz.prog 62 #[.agg #[PT g 0], V (tl ee), V (tl t)] w fun e w' => e = .returned (V (tl q)) ∧ Below w.heap.size w w')
    (c8 : ∀ g w, Mm w [(g, modc n), (0, dtab)] → Calls Tryz.prog 90 #[.agg #[PT g 0], V [q 0, q 1]] w fun e w' => e = .returned (.tuple #[V [0, 0], .int .i64 6]) ∧ Below w.heap.size w w') (w : World) (hm : Mm w [(0, dtab)]) :
    Calls Tryz.prog 43 #[V (tl a)] w fun e w' => e = .returned (.tuple #[V [0, 0, 0, 0, 0, 0, 0, 0, 0, 0, 0, 0], .int .i64 6]) ∧ Below w.heap.size w w' := by
  have H0 : Hid (_ ∧ _) := ⟨hm, Below.refl w.heap.size w⟩
  clear hm
  have C0 : Hid _ := c0
  have C1 : Hid _ := c1
  have C2 : Hid _ := c2
  have C3 : Hid _ := c3
  have C4 : Hid _ := c4
  have C5 : Hid _ := c5
  have C6 : Hid _ := c6
  have C7 : Hid _ := c7
  have C8 : Hid _ := c8
  clear c0 c1 c2 c3 c4 c5 c6 c7 c8
  go_enter Tryz.func43, Tryz.ntmps43
  refine wp_seq ?_
  refine walk_seqA 3 [.made (cel (tl a)) 32, .made (cel [0, 0, 0, 0, 0, 0, 0, 0, 0, 0, 0, 0]) 32, .quiet (.int .i64 0)] (sB H0) ?ho1 ?he1
  case ho1 => exact ak (fun γ => ⟨rfl, fun w' => ex_boxA rfl rfl⟩) (ak (fun γ => ⟨rfl, fun w' => ex_madeE12 rfl⟩) (ak (fun _ => ⟨rfl, fun _ _ => rfl⟩) trivial))
  intro γ w1 l hM hl
  have H1 : Hid (Mm w1 [(γ 0, cel (tl a)), (γ 1, cel [0, 0, 0, 0, 0, 0, 0, 0, 0, 0, 0, 0]), (0, dtab)] ∧ _) := growB H0 hM (Nat.le_refl _) hl [0, 1] rfl (by decide)
  have o1_0 := ownB H0 hM (Nat.le_refl _) hl (i := 0) rfl
  have o1_1 := ownB H0 hM (Nat.le_refl _) hl (i := 1) rfl
  clear hM hl l
  generalize γ 0 = γ1_0 at H1 o1_0 ⊢
  generalize γ 1 = γ1_1 at H1 o1_1 ⊢
  clear γ
  refine rest0 rfl (then_normal (wp_seq ?_))
  refine walk_put (by kernel_rfl) 4 [] [.born (fun g => .agg #[PT g 0]) (modc n), .quiet (V (tl a)), .call (V (tl m)), .made [.pointer none] 100] _ ?pre2 ?F2 _ ?hpre2 (fun γ => ?hF2) (by kernel_rfl) rfl trivial (sB H1) ?ho2 ?hla2 ?he2
  case hpre2 => simp only [tk, tz]; rfl
  case hF2 => simp only [fill, Kind.val, Act.put, sa, sz, ss]; rfl
  case ho2 =>
    refine ak (fun γ => ⟨rfl, fun w' h => ⟨61, #[], exec_call rfl call61 rfl (mpn rfl), C0.out w'⟩⟩) ?_
    refine ak (fun γ => ⟨rfl, fun w' h => ex_loadA (i := 0) (k := 12) h 0 rfl rfl rfl Tryz.isAgg32 Tryz.sizeOf32 rfl rfl⟩) ?_
    refine ak (fun γ => ⟨rfl, fun w' h => ⟨63, #[V (tl a)], exec_call rfl call63 rfl (mpn rfl), C1.out w'⟩⟩) ?_
    refine ak (fun γ => ⟨rfl, fun w' => ex_madeF rfl⟩) ?_
    exact trivial
  case hla2 => exact trivial
  intro γ w2 l hM hl
  have H2 : Hid (Mm w2 [(γ 0, modc n), (γ 3, [.pointer none]), (γ1_0, cel (tl a)), (γ1_1, cel [0, 0, 0, 0, 0, 0, 0, 0, 0, 0, 0, 0]), (0, dtab)] ∧ _) := growB H1 hM (Nat.le_refl _) hl [0, 3] rfl (by decide)
  have o2_0 := ownB H1 hM (Nat.le_refl _) hl (i := 0) rfl
  have o2_3 := ownB H1 hM (Nat.le_refl _) hl (i := 3) rfl
  clear hM hl l H1
  generalize γ 0 = γ2_0 at H2 o2_0 ⊢
  generalize γ 3 = γ2_3 at H2 o2_3 ⊢
  clear γ
  refine ⟨_, ex_storeF H2.out.1 1 rfl rfl rfl rfl (Nat.le_of_ble_eq_true rfl), ?_⟩
  have H3 : Hid (Mm (w2.setCells γ2_3 0 [PT γ2_0 0]) [(γ2_0, modc n), (γ2_3, [PT γ2_0 0]), (γ1_0, cel (tl a)), (γ1_1, cel [0, 0, 0, 0, 0, 0, 0, 0, 0, 0, 0, 0]), (0, dtab)] ∧ Below w.heap.size w (w2.setCells γ2_3 0 [PT γ2_0 0])) := ⟨H2.out.1.put 1 (off := 0) (vs := [PT γ2_0 0]) rfl (Nat.le_of_ble_eq_true rfl), below_setCells _ o2_3.out _ _ _ H2.out.2⟩
  clear H2
  generalize hgw : World.setCells _ _ _ _ = w3 at H3 ⊢
  clear hgw
  refine rest_at (l := [5]) rfl ?_
  refine rest_store rfl rfl rfl (ex_storeA (i := 0) (ms := [m 0, m 1, m 2, m 3, m 4, m 5, m 6, m 7, m 8, m 9, m 10, m 11]) H3.out.1 2 rfl rfl rfl rfl Tryz.sizeOf32 (Nat.le_of_ble_eq_true rfl)) ?_
  have H4 : Hid (Mm (w3.setCells γ1_0 (6 * 0) (cel [m 0, m 1, m 2, m 3, m 4, m 5, m 6, m 7, m 8, m 9, m 10, m 11])) [(γ2_0, modc n), (γ2_3, [PT γ2_0 0]), (γ1_0, cel (tl m)), (γ1_1, cel [0, 0, 0, 0, 0, 0, 0, 0, 0, 0, 0, 0]), (0, dtab)] ∧ Below w.heap.size w (w3.setCells γ1_0 (6 * 0) (cel [m 0, m 1, m 2, m 3, m 4, m 5, m 6, m 7, m 8, m 9, m 10, m 11]))) := ⟨by
    have h := H3.out.1.put 2 (off := 6 * 0) (vs := cel [m 0, m 1, m 2, m 3, m 4, m 5, m 6, m 7, m 8, m 9, m 10, m 11]) rfl (by simp only [cel_len]; exact Nat.le_of_ble_eq_true rfl)
    rw [cel_patch] at h
    exact h, below_setCells _ o1_0.out _ _ _ H3.out.2⟩
  clear H3
  generalize hgw : World.setCells _ _ _ _ = w4 at H4 ⊢
  clear hgw
  refine rest_nil (then_normal (wp_seq ?_))
  refine walk_seqA 4 [.quiet (V (tl m)), .call (V (tl o)), .made (cel [0, 0, 0, 0, 0, 0, 0, 0, 0, 0, 0, 0]) 32, .laid 2 (cel [0, 0, 0, 0, 0, 0, 0, 0, 0, 0, 0, 0]) (cel (tl o))] (sB H4) ?ho3 ?he3 (hL := ?hL3)
  case hL3 => exact ⟨⟨_, rfl⟩, trivial⟩
  case ho3 => exact ak (fun γ => ⟨rfl, fun w' h => ex_loadA (i := 0) (k := 12) h 2 rfl rfl rfl Tryz.isAgg32 Tryz.sizeOf32 rfl rfl⟩) (ak (fun γ => ⟨rfl, fun w' h => ⟨44, #[V (tl m)], exec_call rfl call44 rfl (mpn rfl), C2.out w'⟩⟩) (ak (fun γ => ⟨rfl, fun w' => ex_madeE12 rfl⟩) (ak (fun γ => ⟨rfl, rfl, rfl, fun w' h => ex_laidA h rfl Tryz.sizeOf32 rfl rfl rfl⟩) trivial)))
  intro γ w5 l hM hl
  have H5 : Hid (Mm w5 [(γ 2, cel (tl o)), (γ2_0, modc n), (γ2_3, [PT γ2_0 0]), (γ1_0, cel (tl m)), (γ1_1, cel [0, 0, 0, 0, 0, 0, 0, 0, 0, 0, 0, 0]), (0, dtab)] ∧ _) := growB H4 hM (Nat.le_refl _) hl [2] rfl (by decide)
  have o3_2 := ownB H4 hM (Nat.le_refl _) hl (i := 2) rfl
  clear hM hl l H4
  generalize γ 2 = γ3_2 at H5 o3_2 ⊢
  clear γ
  refine rest0 rfl (then_normal (wp_seq ?_))
  refine walk_seqA 6 [.quiet (.agg #[PT γ2_0 0]), .quiet (V (tl m)), .quiet (V (tl o)), .call (V (tl ee)), .made (cel [0, 0, 0, 0, 0, 0, 0, 0, 0, 0, 0, 0]) 32, .laid 4 (cel [0, 0, 0, 0, 0, 0, 0, 0, 0, 0, 0, 0]) (cel (tl ee))] (sB H5) ?ho4 ?he4 (hL := ?hL4)
  case hL4 => exact ⟨⟨_, rfl⟩, trivial⟩
  case ho4 => exact ak (fun γ => ⟨rfl, fun w' h => ex_loadF h 2 rfl rfl rfl rfl⟩) (ak (fun γ => ⟨rfl, fun w' h => ex_loadA (i := 0) (k := 12) h 3 rfl rfl rfl Tryz.isAgg32 Tryz.sizeOf32 rfl rfl⟩) (ak (fun γ => ⟨rfl, fun w' h => ex_loadA (i := 0) (k := 12) h 0 rfl rfl rfl Tryz.isAgg32 Tryz.sizeOf32 rfl rfl⟩) (ak (fun γ => ⟨rfl, fun w' h => ⟨62, #[.agg #[PT γ2_0 0], V (tl m), V (tl o)], exec_call rfl call62 rfl (mpn rfl), C3.out _ w' (h.one 1 rfl)⟩⟩) (ak (fun γ => ⟨rfl, fun w' => ex_madeE12 rfl⟩) (ak (fun γ => ⟨rfl, rfl, rfl, fun w' h => ex_laidA h rfl Tryz.sizeOf32 rfl rfl rfl⟩) trivial)))))
  intro γ w6 l hM hl
  have H6 : Hid (Mm w6 [(γ 4, cel (tl ee)), (γ3_2, cel (tl o)), (γ2_0, modc n), (γ2_3, [PT γ2_0 0]), (γ1_0, cel (tl m)), (γ1_1, cel [0, 0, 0, 0, 0, 0, 0, 0, 0, 0, 0, 0]), (0, dtab)] ∧ _) := growB H5 hM (Nat.le_refl _) hl [4] rfl (by decide)
  have o4_4 := ownB H5 hM (Nat.le_refl _) hl (i := 4) rfl
  clear hM hl l H5
  generalize γ 4 = γ4_4 at H6 o4_4 ⊢
  clear γ
  refine rest0 rfl (then_normal (wp_seq ?_))
  refine walk_anyA 10 [.quiet (.agg #[PT γ2_0 0]), .quiet (.agg #[PT γ2_0 0]), .quiet (V (tl ee)), .call (V (tl t2)), .quiet (.agg #[PT γ2_0 0]), .quiet (V (tl ee)), .call (V (tl t4)), .call (V (tl t)), .made (cel [0, 0, 0, 0, 0, 0, 0, 0, 0, 0, 0, 0]) 32, .laid 8 (cel [0, 0, 0, 0, 0, 0, 0, 0, 0, 0, 0, 0]) (cel (tl t))] (sB H6) ?ho5 ?he5 (hL := ?hL5)
  case hL5 => exact ⟨⟨_, rfl⟩, trivial⟩
  case ho5 => exact ak (fun γ => ⟨rfl, fun w' h => ex_loadF h 3 rfl rfl rfl rfl⟩) (ak (fun γ => ⟨rfl, fun w' h => ex_loadF h 3 rfl rfl rfl rfl⟩) (ak (fun γ => ⟨rfl, fun w' h => ex_loadA (i := 0) (k := 12) h 0 rfl rfl rfl Tryz.isAgg32 Tryz.sizeOf32 rfl rfl⟩) (ak (fun γ => ⟨rfl, fun w' h => ⟨89, #[.agg #[PT γ2_0 0], V (tl ee), .int .i64 2], exec_call rfl call89 rfl (mpn rfl), C4.out _ w' (h.one 2 rfl)⟩⟩) (ak (fun γ => ⟨rfl, fun w' h => ex_loadF h 3 rfl rfl rfl rfl⟩) (ak (fun γ => ⟨rfl, fun w' h => ex_loadA (i := 0) (k := 12) h 0 rfl rfl rfl Tryz.isAgg32 Tryz.sizeOf32 rfl rfl⟩) (ak (fun γ => ⟨rfl, fun w' h => ⟨89, #[.agg #[PT γ2_0 0], V (tl ee), .int .i64 4], exec_call rfl call89 rfl (mpn rfl), C5.out _ w' (h.one 2 rfl)⟩⟩) (ak (fun γ => ⟨rfl, fun w' h => ⟨62, #[.agg #[PT γ2_0 0], V (tl t2), V (tl t4)], exec_call rfl call62 rfl (mpn rfl), C6.out _ w' (h.one 2 rfl)⟩⟩) (ak (fun γ => ⟨rfl, fun w' => ex_madeE12 rfl⟩) (ak (fun γ => ⟨rfl, rfl, rfl, fun w' h => ex_laidA h rfl Tryz.sizeOf32 rfl rfl rfl⟩) trivial)))))))))
  intro γ w7 l hM hl
  have H7 : Hid (Mm w7 [(γ 8, cel (tl t)), (γ4_4, cel (tl ee)), (γ3_2, cel (tl o)), (γ2_0, modc n), (γ2_3, [PT γ2_0 0]), (γ1_0, cel (tl m)), (γ1_1, cel [0, 0, 0, 0, 0, 0, 0, 0, 0, 0, 0, 0]), (0, dtab)] ∧ _) := growB H6 hM (Nat.le_refl _) hl [8] rfl (by decide)
  have o5_8 := ownB H6 hM (Nat.le_refl _) hl (i := 8) rfl
  clear hM hl l H6
  generalize γ 8 = γ5_8 at H7 o5_8 ⊢
  clear γ
  refine rest0 rfl (then_normal (wp_seq ?_))
  refine walk_anyA 13 [.quiet (.agg #[PT γ2_0 0]), .quiet (.agg #[PT γ2_0 0]), .quiet (V (tl ee)), .quiet (V (tl t)), .call (V (tl q)), .quiet (V [q 0, q 1]), .call (.tuple #[V [0, 0], .int .i64 6]), .quiet (.tuple #[V [0, 0], .int .i64 6]), .quiet (V [0, 0]), .quiet (.int .i64 6), .made (cel [0, 0]) 28, .laid 10 (cel [0, 0]) (cel [0, 0]), .quiet (.int .i64 6)] (sB H7) ?ho6 ?he6 (hL := ?hL6)
  case hL6 => exact ⟨⟨_, rfl⟩, trivial⟩
  case ho6 => exact ak (fun γ => ⟨rfl, fun w' h => ex_loadF h 4 rfl rfl rfl rfl⟩) (ak (fun γ => ⟨rfl, fun w' h => ex_loadF h 4 rfl rfl rfl rfl⟩) (ak (fun γ => ⟨rfl, fun w' h => ex_loadA (i := 0) (k := 12) h 1 rfl rfl rfl Tryz.isAgg32 Tryz.sizeOf32 rfl rfl⟩) (ak (fun γ => ⟨rfl, fun w' h => ex_loadA (i := 0) (k := 12) h 0 rfl rfl rfl Tryz.isAgg32 Tryz.sizeOf32 rfl rfl⟩) (ak (fun γ => ⟨rfl, fun w' h => ⟨62, #[.agg #[PT γ2_0 0], V (tl ee), V (tl t)], exec_call rfl call62 rfl (mpn rfl), C7.out _ w' (h.one 3 rfl)⟩⟩) (ak (fun γ => ⟨rfl, fun w' _ => ex_indexE12_0 rfl rfl rfl⟩) (ak (fun γ => ⟨rfl, fun w' h => ⟨90, #[.agg #[PT γ2_0 0], V [q 0, q 1]], exec_call rfl call90 rfl (mpn rfl), C8.out _ w' (h.two 3 7 rfl rfl (by decide))⟩⟩) (ak (fun _ => ⟨rfl, fun _ _ => rfl⟩) (ak (by refine fun γ => ⟨rfl, fun w' h => ?_⟩; clear h; go_simp) (ak (by refine fun γ => ⟨rfl, fun w' h => ?_⟩; clear h; go_simp) (ak (fun γ => ⟨rfl, fun w' => ex_madeE2 rfl⟩) (ak (fun γ => ⟨rfl, rfl, rfl, fun w' h => ex_laidA h rfl Tryz.sizeOf28 rfl rfl rfl⟩) (ak (fun _ => ⟨rfl, fun _ _ => rfl⟩) trivial))))))))))))
  intro γ w8 l hM hl
  have H8 : Hid (Mm w8 [(γ 10, cel [0, 0]), (γ5_8, cel (tl t)), (γ4_4, cel (tl ee)), (γ3_2, cel (tl o)), (γ2_0, modc n), (γ2_3, [PT γ2_0 0]), (γ1_0, cel (tl m)), (γ1_1, cel [0, 0, 0, 0, 0, 0, 0, 0, 0, 0, 0, 0]), (0, dtab)] ∧ _) := growB H7 hM (Nat.le_refl _) hl [10] rfl (by decide)
  have o6_10 := ownB H7 hM (Nat.le_refl _) hl (i := 10) rfl
  clear hM hl l H7
  generalize γ 10 = γ6_10 at H8 o6_10 ⊢
  clear γ
  refine rest0 rfl (then_normal (wp_seq (wp_seq ?_)))
  refine walk_seqB 2 [.quiet (.int .i64 6), .quiet (.bool true)] H8 ?ho7 ?he7
  case ho7 => exact ak (fun _ => ⟨rfl, fun _ _ => rfl⟩) (ak (by refine fun γ => ⟨rfl, fun w' h => ?_⟩; clear h; go_simp) trivial)
  intro _ w9 H9
  clear H8
  refine rest0 rfl (then_normal (wp_cond_true rfl (wp_seq ?_)))
  refine walk_seqB 2 [.quiet (V [0, 0, 0, 0, 0, 0, 0, 0, 0, 0, 0, 0]), .quiet (.int .i64 6)] H9 ?ho8 ?he8
  case ho8 => exact ak (fun γ => ⟨rfl, fun w' _ => ex_buildE12z rfl⟩) (ak (fun _ => ⟨rfl, fun _ _ => rfl⟩) trivial)
  intro _ w10 H10
  clear H9
  refine rest_at (l := [2, 3]) rfl ?_
  refine rest_store rfl rfl rfl (ex_storeA (i := 0) (ms := [0, 0, 0, 0, 0, 0, 0, 0, 0, 0, 0, 0]) H10.out.1 7 rfl rfl rfl rfl Tryz.sizeOf32 (Nat.le_of_ble_eq_true rfl)) ?_
  have H11 : Hid (Mm (w10.setCells γ1_1 (6 * 0) (cel [0, 0, 0, 0, 0, 0, 0, 0, 0, 0, 0, 0])) [(γ6_10, cel [0, 0]), (γ5_8, cel (tl t)), (γ4_4, cel (tl ee)), (γ3_2, cel (tl o)), (γ2_0, modc n), (γ2_3, [PT γ2_0 0]), (γ1_0, cel (tl m)), (γ1_1, cel [0, 0, 0, 0, 0, 0, 0, 0, 0, 0, 0, 0]), (0, dtab)] ∧ Below w.heap.size w (w10.setCells γ1_1 (6 * 0) (cel [0, 0, 0, 0, 0, 0, 0, 0, 0, 0, 0, 0]))) := ⟨by
    have h := H10.out.1.put 7 (off := 6 * 0) (vs := cel [0, 0, 0, 0, 0, 0, 0, 0, 0, 0, 0, 0]) rfl (by simp only [cel_len]; exact Nat.le_of_ble_eq_true rfl)
    rw [cel_patch] at h
    exact h, below_setCells _ o1_1.out _ _ _ H10.out.2⟩
  clear H10
  generalize hgw : World.setCells _ _ _ _ = w11 at H11 ⊢
  clear hgw
  refine rest_set (d := 3) rfl rfl rfl rfl ?_
  simp only [Act.put, sa, sz, ss]
  refine rest_nil (then_normal (wp_ret ?_))
  repeat (first | refine then_ret ?_ | refine block_ret ?_)
  have hf0 := cel_var (k := 12) H11.out.1 7 rfl Tryz.isAgg32 Tryz.sizeOf32 rfl
  refine bodyPost_ret (v := .tuple #[V [0, 0, 0, 0, 0, 0, 0, 0, 0, 0, 0, 0], .int .i64 6]) (by simp [results, Tryz.results43, asAddr, Act.eval, hf0]) rfl ?_
  exact ⟨rfl, H11.out.2⟩
theorem lz_congr2 {a b : Nat → Int} (h : ∀ j, j < 12 → pz (a j) = pz (b j)) : lz a = lz b := by
  simp only [lz, h 0 (by decide), h 1 (by decide), h 2 (by decide), h 3 (by decide), h 4 (by decide), h 5 (by decide), h 6 (by decide), h 7 (by decide), h 8 (by decide), h 9 (by decide), h 10 (by decide), h 11 (by decide)]
theorem lz_dv {a b : Nat → Int} (h : ∀ j, j < 12 → Dv (a j - b j)) : lz a = lz b := lz_congr2 fun j hj => pz_mod _ _ (h j hj)
theorem conjT12_any (a : Nat → Nat) (ha : ∀ j, j < 12 → a j < big) (w : World) : Calls Tryz.prog 44 #[V (tl a)] w fun e w' => e = .returned (V (lz (cj12 (zn a)))) ∧ Below w.heap.size w w' :=
  conj12_gen a (fun j => pz (zn a j)) (fun j => pz (cj12 (zn a) j)) ⟨⟨rfl, rfl⟩, ⟨⟨rfl, rfl⟩, ⟨rfl, rfl⟩⟩⟩ (fun w => leftAll_any a ha w) (fun k hk w => by
    have hn : ∀ x y : Int, Calls Tryz.prog 91 #[V [pz x, pz y]] w fun e w' => e = .returned (V [pz (-x), pz (-y)]) ∧ Below w.heap.size w w' := fun x y => by
      have h := neg2_any (pz x) (pz y) (pz_big x) (pz_big y) w
      rw [pz_neg, pz_neg] at h
      exact h
    match k, hk with
    | 0, _ => exact hn (zn a 2) (zn a 3)
    | 1, _ => exact hn (zn a 6) (zn a 7)
    | 2, _ => exact hn (zn a 10) (zn a 11)) w
theorem conjP12_any (a : Nat → Int) (w : World) : Calls Tryz.prog 44 #[V (lz a)] w fun e w' => e = .returned (V (lz (cj12 a))) ∧ Below w.heap.size w w' := by
  have h := conjT12_any (fun j => pz (a j)) (fun j _ => pz_big _) w
  have e : lz (cj12 (zn fun j => pz (a j))) = lz (cj12 a) := lz_dv fun j hj => by
    match j, hj with
    | 0, _ => exact dv_pz _
    | 1, _ => exact dv_pz _
    | 2, _ => exact ((dv_pz (a 2)).mul (-1)).of (by show -1 * ((pz (a 2) : Int) - a 2) = -(pz (a 2) : Int) - -a 2; omega)
    | 3, _ => exact ((dv_pz (a 3)).mul (-1)).of (by show -1 * ((pz (a 3) : Int) - a 3) = -(pz (a 3) : Int) - -a 3; omega)
    | 4, _ => exact dv_pz _
    | 5, _ => exact dv_pz _
    | 6, _ => exact ((dv_pz (a 6)).mul (-1)).of (by show -1 * ((pz (a 6) : Int) - a 6) = -(pz (a 6) : Int) - -a 6; omega)
    | 7, _ => exact ((dv_pz (a 7)).mul (-1)).of (by show -1 * ((pz (a 7) : Int) - a 7) = -(pz (a 7) : Int) - -a 7; omega)
    | 8, _ => exact dv_pz _
    | 9, _ => exact dv_pz _
    | 10, _ => exact ((dv_pz (a 10)).mul (-1)).of (by show -1 * ((pz (a 10) : Int) - a 10) = -(pz (a 10) : Int) - -a 10; omega)
    | 11, _ => exact ((dv_pz (a 11)).mul (-1)).of (by show -1 * ((pz (a 11) : Int) - a 11) = -(pz (a 11) : Int) - -a 11; omega)
  rw [e] at h
  exact h
/-! Turned: each part times a power of the factor. -/
def zpw (f : Z2) : Nat → Z2
  | 0 => (1, 0)
  | k + 1 => cm (zpw f k) f
def tw (f : Z2) (a : Nat → Int) : Nat → Int
  | 0 => a 0 * (zpw f 0).1 - a 1 * (zpw f 0).2
  | 1 => a 0 * (zpw f 0).2 + a 1 * (zpw f 0).1
  | 2 => a 2 * (zpw f 1).1 - a 3 * (zpw f 1).2
  | 3 => a 2 * (zpw f 1).2 + a 3 * (zpw f 1).1
  | 4 => a 4 * (zpw f 2).1 - a 5 * (zpw f 2).2
  | 5 => a 4 * (zpw f 2).2 + a 5 * (zpw f 2).1
  | 6 => a 6 * (zpw f 3).1 - a 7 * (zpw f 3).2
  | 7 => a 6 * (zpw f 3).2 + a 7 * (zpw f 3).1
  | 8 => a 8 * (zpw f 4).1 - a 9 * (zpw f 4).2
  | 9 => a 8 * (zpw f 4).2 + a 9 * (zpw f 4).1
  | 10 => a 10 * (zpw f 5).1 - a 11 * (zpw f 5).2
  | 11 => a 10 * (zpw f 5).2 + a 11 * (zpw f 5).1
  | _ => 0
theorem tmod_even (n : Nat) (h : n % 2 = 0) : ((n : Nat) : Int).tmod 2 = 0 := by
  rw [Int.tmod_eq_emod_of_nonneg (by omega)]; omega
theorem tmod_odd (n : Nat) (h : n % 2 = 1) : ((n : Nat) : Int).tmod 2 = 1 := by
  rw [Int.tmod_eq_emod_of_nonneg (by omega)]; omega
def pw2 (f : Z2) (j : Nat) : Nat := if j % 2 = 0 then pz (zpw f (j / 2)).1 else pz (zpw f (j / 2)).2
theorem pw2_e (f : Z2) (k : Nat) : pw2 f (2 * k) = pz (zpw f k).1 := by
  unfold pw2
  rw [if_pos (by omega), show 2 * k / 2 = k by omega]
theorem pw2_o (f : Z2) (k : Nat) : pw2 f (2 * k + 1) = pz (zpw f k).2 := by
  unfold pw2
  rw [if_neg (by omega), show (2 * k + 1) / 2 = k by omega]
theorem turnE_any {g : Nat} (n : Nat) (hn : n < 12) (he : n % 2 = 0) (a : Nat → Int) (w : World) (hm : Mm w [(g, modc pB)]) : Calls Tryz.prog 89 #[.agg #[PT g 0], V (lz a), .int .i64 ((n : Nat) : Int)] w fun e w' => e = .returned (V (lz (tw (fc n) a))) ∧ Below w.heap.size w w' := by
  refine turn_even (fun j => pz (a j)) (pw2 (fc n)) (fun j => pz (tw (fc n) a j)) g pB (big % pB) (big * big % pB) n _ _ (tmod_even n he) ⟨?_, ?_⟩ ?_ (fun w hm => factor_any n hn w hm) (fun k hk w hm => ?_) (fun k _ w hm => ?_) w hm
  · show pz (a 0 * 1 - a 1 * 0) = pz (a 0)
    rw [Int.mul_one, Int.mul_zero, Int.sub_zero]
  · show pz (a 0 * 0 + a 1 * 1) = pz (a 1)
    rw [Int.mul_one, Int.mul_zero, Int.zero_add]
  · rw [pw2_e, pw2_o]
    show [pz (fc n).1, pz (fc n).2] = [pz (1 * (fc n).1 - 0 * (fc n).2), pz (1 * (fc n).2 + 0 * (fc n).1)]
    rw [Int.one_mul, Int.zero_mul, Int.sub_zero, Int.one_mul, Int.zero_mul, Int.add_zero]
  · rw [pw2_e, pw2_o]
    have h := mulF_any (g := g) (a (2 * k)) (a (2 * k + 1)) (zpw (fc n) k).1 (zpw (fc n) k).2 w hm
    match k, hk with
    | 0, _ => exact h
    | 1, _ => exact h
    | 2, _ => exact h
    | 3, _ => exact h
    | 4, _ => exact h
    | 5, _ => exact h
  · rw [pw2_e, pw2_o, pw2_e, pw2_o]
    exact mulF_any (g := g) (zpw (fc n) k).1 (zpw (fc n) k).2 (fc n).1 (fc n).2 w hm
def om : Int := 793479390729215512621379701633421447060886740281060493010456487427281649075476305620758731620350
theorem om_q : Dv (om * om + om + 1) := by rw [← pz_zero_iff]; decide +kernel
theorem z22 : Dv ((zpw (fc 2) 2).1 - om) ∧ Dv (zpw (fc 2) 2).2 ∧ Dv ((zpw (fc 2) 4).1 - (-1 - om)) ∧ Dv (zpw (fc 2) 4).2 := by
  rw [← pz_zero_iff, ← pz_zero_iff, ← pz_zero_iff, ← pz_zero_iff]; decide +kernel
theorem z44 : Dv ((zpw (fc 4) 2).1 - (-1 - om)) ∧ Dv (zpw (fc 4) 2).2 ∧ Dv ((zpw (fc 4) 4).1 - om) ∧ Dv (zpw (fc 4) 4).2 := by
  rw [← pz_zero_iff, ← pz_zero_iff, ← pz_zero_iff, ← pz_zero_iff]; decide +kernel
/-- Even powers of w, the second part times x, the third times y. -/
def ev3 (e : Nat → Int) (x y : Int) : Nat → Int
  | 0 => e 0
  | 1 => e 1
  | 4 => e 4 * x
  | 5 => e 5 * x
  | 8 => e 8 * y
  | 9 => e 9 * y
  | _ => 0
theorem tw_ev3 {f : Z2} {x y : Int} (h : Dv ((zpw f 2).1 - x) ∧ Dv (zpw f 2).2 ∧ Dv ((zpw f 4).1 - y) ∧ Dv (zpw f 4).2) (e : Nat → Int) (he : Ev e) : O12 (fun j => tw f e j - ev3 e x y j) := fun j => by
  obtain ⟨h2, h3, h6, h7, h10, h11⟩ := he
  obtain ⟨k0, k1, k2, k3⟩ := h
  match j with
  | 0 => exact dv_zero.of (by show 0 = e 0 * 1 - e 1 * 0 - e 0; omega)
  | 1 => exact dv_zero.of (by show 0 = e 0 * 0 + e 1 * 1 - e 1; omega)
  | 2 => exact dv_zero.of (by show 0 = e 2 * _ - e 3 * _ - 0; rw [h2, h3, Int.zero_mul, Int.zero_mul]; rfl)
  | 3 => exact dv_zero.of (by show 0 = e 2 * _ + e 3 * _ - 0; rw [h2, h3, Int.zero_mul, Int.zero_mul]; rfl)
  | 4 => exact ((k0.mul (e 4)).sub (k1.mul (e 5))).of (by show _ = e 4 * (zpw f 2).1 - e 5 * (zpw f 2).2 - e 4 * x; rw [Int.mul_sub]; omega)
  | 5 => exact ((k1.mul (e 4)).add (k0.mul (e 5))).of (by show _ = e 4 * (zpw f 2).2 + e 5 * (zpw f 2).1 - e 5 * x; rw [Int.mul_sub]; omega)
  | 6 => exact dv_zero.of (by show 0 = e 6 * _ - e 7 * _ - 0; rw [h6, h7, Int.zero_mul, Int.zero_mul]; rfl)
  | 7 => exact dv_zero.of (by show 0 = e 6 * _ + e 7 * _ - 0; rw [h6, h7, Int.zero_mul, Int.zero_mul]; rfl)
  | 8 => exact ((k2.mul (e 8)).sub (k3.mul (e 9))).of (by show _ = e 8 * (zpw f 4).1 - e 9 * (zpw f 4).2 - e 8 * y; rw [Int.mul_sub]; omega)
  | 9 => exact ((k3.mul (e 8)).add (k2.mul (e 9))).of (by show _ = e 8 * (zpw f 4).2 + e 9 * (zpw f 4).1 - e 9 * y; rw [Int.mul_sub]; omega)
  | 10 => exact dv_zero.of (by show 0 = e 10 * _ - e 11 * _ - 0; rw [h10, h11, Int.zero_mul, Int.zero_mul]; rfl)
  | 11 => exact dv_zero.of (by show 0 = e 10 * _ + e 11 * _ - 0; rw [h10, h11, Int.zero_mul, Int.zero_mul]; rfl)
  | _ + 12 => exact dv_zero.of (by show 0 = (0 : Int) - 0; rfl)
theorem O12.trans {a b c : Nat → Int} (h : O12 fun j => a j - b j) (k : O12 fun j => b j - c j) : O12 fun j => a j - c j := fun j => ((h j).add (k j)).of (by dsimp only; omega)
theorem mul_cong {a b c d : Nat → Int} (h : O12 fun j => a j - b j) (k : O12 fun j => c j - d j) : O12 fun j => mul12 a c j - mul12 b d j := fun j => by
  have h1 := h.mul c j
  rw [sub12] at h1
  have h2 := k.mul b j
  rw [sub12, comm12 c b, comm12 d b] at h2
  exact (h1.add h2).of (by dsimp only; omega)
theorem ev3_prod (e : Nat → Int) (x : Int) (hx : Dv (x * x + x + 1)) : O12 (fun j => mul12 (ev3 e x (-1 - x)) (ev3 e (-1 - x) x) j - ad12 e j) := fun j => by
  match j with
  | 0 => exact (hx.mul (2 * (cm xi (cm (pt e 2) (pt e 4))).1)).of (by simp only [mul12, m0, m1, ev3, ad12, d0, cs, cm, xi, Nat.reduceMul, Nat.reduceAdd]; grind)
  | 1 => exact (hx.mul (2 * (cm xi (cm (pt e 2) (pt e 4))).2)).of (by simp only [mul12, m0, m1, ev3, ad12, d0, cs, cm, xi, Nat.reduceMul, Nat.reduceAdd]; grind)
  | 4 => exact (hx.mul (-(cm xi (cm (pt e 4) (pt e 4))).1)).of (by simp only [mul12, m0, m1, ev3, ad12, d1, cs, cm, xi, Nat.reduceMul, Nat.reduceAdd]; grind)
  | 5 => exact (hx.mul (-(cm xi (cm (pt e 4) (pt e 4))).2)).of (by simp only [mul12, m0, m1, ev3, ad12, d1, cs, cm, xi, Nat.reduceMul, Nat.reduceAdd]; grind)
  | 8 => exact (hx.mul (-(cm (pt e 2) (pt e 2)).1)).of (by simp only [mul12, m0, m1, ev3, ad12, d2, cs, cm, Nat.reduceMul, Nat.reduceAdd]; grind)
  | 9 => exact (hx.mul (-(cm (pt e 2) (pt e 2)).2)).of (by simp only [mul12, m0, m1, ev3, ad12, d2, cs, cm, Nat.reduceMul, Nat.reduceAdd]; grind)
  | 2 => exact dv_zero.of (by simp only [mul12, m0, m1, ev3, ad12, Nat.reduceMul, Nat.reduceAdd]; grind)
  | 3 => exact dv_zero.of (by simp only [mul12, m0, m1, ev3, ad12, Nat.reduceMul, Nat.reduceAdd]; grind)
  | 6 => exact dv_zero.of (by simp only [mul12, m0, m1, ev3, ad12, Nat.reduceMul, Nat.reduceAdd]; grind)
  | 7 => exact dv_zero.of (by simp only [mul12, m0, m1, ev3, ad12, Nat.reduceMul, Nat.reduceAdd]; grind)
  | 10 => exact dv_zero.of (by simp only [mul12, m0, ev3, ad12, Nat.reduceMul, Nat.reduceAdd]; grind)
  | 11 => exact dv_zero.of (by simp only [mul12, m1, ev3, ad12, Nat.reduceMul, Nat.reduceAdd]; grind)
  | _ + 12 => exact dv_zero.of rfl
theorem o12_refl (a : Nat → Int) : O12 fun j => a j - a j := fun _ => dv_zero.of (by dsimp only; omega)
end Rg
end Go.Proofs.YtdbejmgomajjmaaGreatDoor
end
section
namespace Go.Proofs.YtdbejmgomajjmaaGreatDoor
open Go.RowKit
namespace Rg
/-! The inverse of twelve parts. -/
def nE (a : Nat → Int) : Z2 := nn3 (pt (mul12 a (cj12 a)) 0) (pt (mul12 a (cj12 a)) 2) (pt (mul12 a (cj12 a)) 4)
def tT (a : Nat → Int) : Nat → Int := mul12 (tw (fc 2) (mul12 a (cj12 a))) (tw (fc 4) (mul12 a (cj12 a)))
theorem tT_ad (a : Nat → Int) : O12 (fun j => tT a j - ad12 (mul12 a (cj12 a)) j) :=
  (mul_cong (tw_ev3 z22 _ (cj_ev a)) (tw_ev3 z44 _ (cj_ev a))).trans (ev3_prod _ om om_q)
theorem nT (a : Nat → Int) : O12 (fun j => mul12 (mul12 a (cj12 a)) (tT a) j - nv (nE a) j) := by
  have h := mul_cong (o12_refl (mul12 a (cj12 a))) (tT_ad a)
  rw [ad12_eq _ (cj_ev a)] at h
  exact h
def iN (a : Nat → Int) : Z2 := ((nE a).1 * (iv (cn (nE a)) : Int), -(nE a).2 * (iv (cn (nE a)) : Int))
def inv12 (a : Nat → Int) : Nat → Int := mul12 (mul12 (cj12 a) (tT a)) (nv (iN a))
theorem nv_mul (x y : Z2) : mul12 (nv x) (nv y) = nv (cm x y) := funext fun j => by
  match j with
  | 0 => simp only [mul12, m0, m1, nv, cm, Nat.reduceMul, Nat.reduceAdd]; grind
  | 1 => simp only [mul12, m0, m1, nv, cm, Nat.reduceMul, Nat.reduceAdd]; grind
  | 2 => simp only [mul12, m0, m1, nv, Nat.reduceMul, Nat.reduceAdd]; grind
  | 3 => simp only [mul12, m0, m1, nv, Nat.reduceMul, Nat.reduceAdd]; grind
  | 4 => simp only [mul12, m0, m1, nv, Nat.reduceMul, Nat.reduceAdd]; grind
  | 5 => simp only [mul12, m0, m1, nv, Nat.reduceMul, Nat.reduceAdd]; grind
  | 6 => simp only [mul12, m0, m1, nv, Nat.reduceMul, Nat.reduceAdd]; grind
  | 7 => simp only [mul12, m0, m1, nv, Nat.reduceMul, Nat.reduceAdd]; grind
  | 8 => simp only [mul12, m0, m1, nv, Nat.reduceMul, Nat.reduceAdd]; grind
  | 9 => simp only [mul12, m0, m1, nv, Nat.reduceMul, Nat.reduceAdd]; grind
  | 10 => simp only [mul12, m0, nv, Nat.reduceMul, Nat.reduceAdd]; grind
  | 11 => simp only [mul12, m1, nv, Nat.reduceMul, Nat.reduceAdd]; grind
  | _ + 12 => rfl
theorem inv12_mul (a : Nat → Int) (h : ¬ O2 (nE a)) : O12 (fun j => mul12 (inv12 a) a j - one12 j) := by
  have hn : ¬ Dv (cn (nE a)) := fun k => h (cn0 k)
  have e : mul12 (inv12 a) a = mul12 (mul12 (mul12 a (cj12 a)) (tT a)) (nv (iN a)) := by
    unfold inv12
    rw [comm12 _ a, ← assoc12, ← assoc12]
  have h1 := mul_cong (nT a) (o12_refl (nv (iN a)))
  rw [nv_mul] at h1
  rw [e]
  refine h1.trans fun j => ?_
  have hi := iv_dv hn
  match j with
  | 0 =>
    refine hi.of ?_
    show _ = (cm (nE a) (iN a)).1 - 1
    unfold iN cm cn
    grind
  | 1 =>
    refine dv_zero.of ?_
    show 0 = (cm (nE a) (iN a)).2 - 0
    unfold iN cm cn
    grind
  | _ + 2 => exact dv_zero.of (by show 0 = (0 : Int) - 0; rfl)
theorem cm_comm (a b : Z2) : cm a b = cm b a := by
  unfold cm
  exact Prod.ext (by dsimp only; grind) (by dsimp only; grind)
theorem O2.mulr {a : Z2} (h : O2 a) (b : Z2) : O2 (cm a b) := by rw [cm_comm]; exact h.mul b
def tr12 (a : Nat → Int) (j : Nat) : Int := if j < 12 then a j else 0
theorem tr_mul (a b : Nat → Int) : mul12 (tr12 a) b = mul12 a b := funext fun j => by
  match j with
  | 0 => rfl
  | 1 => rfl
  | 2 => rfl
  | 3 => rfl
  | 4 => rfl
  | 5 => rfl
  | 6 => rfl
  | 7 => rfl
  | 8 => rfl
  | 9 => rfl
  | 10 => rfl
  | 11 => rfl
  | _ + 12 => rfl
theorem nE_zero {a : Nat → Int} (h : ∀ j, j < 12 → Dv (a j)) : O2 (nE a) := by
  have ht : O12 (tr12 a) := fun j => by
    unfold tr12
    split
    · exact h j (by assumption)
    · exact dv_zero
  have he := ht.mul (cj12 a)
  rw [tr_mul] at he
  have k0 : O2 (pt (mul12 a (cj12 a)) 0) := ⟨he 0, he 1⟩
  have k2 : O2 (pt (mul12 a (cj12 a)) 2) := ⟨he 4, he 5⟩
  have k4 : O2 (pt (mul12 a (cj12 a)) 4) := ⟨he 8, he 9⟩
  exact (k0.mulr _).add (((k2.mulr _).add (k4.mulr _)).mul xi)
theorem lz_nv (x : Z2) : lz (nv x) = [pz x.1, pz x.2, 0, 0, 0, 0, 0, 0, 0, 0, 0, 0] := by
  simp only [lz, nv, pz_zero]
theorem inv12_good (a : Nat → Nat) (ha : ∀ j, j < 12 → a j < big) (h : ¬ O2 (nE (zn a))) (w : World) (hm : Mm w [(0, dtab)]) : Calls Tryz.prog 43 #[V (tl a)] w fun e w' => e = .returned (.tuple #[V (lz (inv12 (zn a))), .int .i64 0]) ∧ Below w.heap.size w w' := by
  have hn : ¬ Dv (cn (nE (zn a))) := fun k => h (cn0 k)
  have cq := fun g w hm => mulP_any (g := g) (mul12 (zn a) (cj12 (zn a))) (tT (zn a)) w hm
  rw [lz_dv fun j _ => nT (zn a) j] at cq
  have cr := fun g w hm => mulP_any (g := g) (mul12 (cj12 (zn a)) (tT (zn a))) (nv (iN (zn a))) w hm
  rw [lz_nv] at cr
  exact inv12_ok a (fun j => pz (zn a j)) (fun j => pz (cj12 (zn a) j)) (fun j => pz (mul12 (zn a) (cj12 (zn a)) j)) (fun j => pz (tw (fc 2) (mul12 (zn a) (cj12 (zn a))) j)) (fun j => pz (tw (fc 4) (mul12 (zn a) (cj12 (zn a))) j)) (fun j => pz (tT (zn a) j)) (fun j => pz (nv (nE (zn a)) j)) (fun j => pz (mul12 (cj12 (zn a)) (tT (zn a)) j)) (fun j => pz (inv12 (zn a) j)) pB (pz (iN (zn a)).1) (pz (iN (zn a)).2)
    great_any (fun w => leftAll_any a ha w) (fun w => conjP12_any (zn a) w) (fun g w hm => mulP_any (g := g) (zn a) (cj12 (zn a)) w hm) (fun g w hm => turnE_any 2 (by decide) (by decide) _ w hm) (fun g w hm => turnE_any 4 (by decide) (by decide) _ w hm) (fun g w hm => mulP_any (g := g) _ _ w hm) cq (fun g w hm => inv2F_ok (nE (zn a)).1 (nE (zn a)).2 hn w hm) (fun g w hm => mulP_any (g := g) _ _ w hm) cr w hm
theorem inv12_bad (a : Nat → Nat) (ha : ∀ j, j < 12 → a j < big) (h : O2 (nE (zn a))) (w : World) (hm : Mm w [(0, dtab)]) : Calls Tryz.prog 43 #[V (tl a)] w fun e w' => e = .returned (.tuple #[V [0, 0, 0, 0, 0, 0, 0, 0, 0, 0, 0, 0], .int .i64 6]) ∧ Below w.heap.size w w' := by
  have hn : Dv (cn (nE (zn a))) := h.cn
  have cq := fun g w hm => mulP_any (g := g) (mul12 (zn a) (cj12 (zn a))) (tT (zn a)) w hm
  rw [lz_dv fun j _ => nT (zn a) j] at cq
  exact inv12_no a (fun j => pz (zn a j)) (fun j => pz (cj12 (zn a) j)) (fun j => pz (mul12 (zn a) (cj12 (zn a)) j)) (fun j => pz (tw (fc 2) (mul12 (zn a) (cj12 (zn a))) j)) (fun j => pz (tw (fc 4) (mul12 (zn a) (cj12 (zn a))) j)) (fun j => pz (tT (zn a) j)) (fun j => pz (nv (nE (zn a)) j)) pB
    great_any (fun w => leftAll_any a ha w) (fun w => conjP12_any (zn a) w) (fun g w hm => mulP_any (g := g) (zn a) (cj12 (zn a)) w hm) (fun g w hm => turnE_any 2 (by decide) (by decide) _ w hm) (fun g w hm => turnE_any 4 (by decide) (by decide) _ w hm) (fun g w hm => mulP_any (g := g) _ _ w hm) cq (fun g w hm => inv2F_no (nE (zn a)).1 (nE (zn a)).2 hn w hm) w hm
theorem eq_reflE12 (a : Nat → Int) (w : World) : (Op.equalIn 10000 32 (V (lz a)) (V (lz a))).run Tryz.prog w = .ok true w := by
  have h := run_eqE12 (fun j => pz (a j)) (fun j => pz (a j)) (pz_12 _) (pz_12 _) w
  rw [decide_eq_true rfl] at h
  exact h
theorem eq_listE12 {l : List Nat} {a : Nat → Int} (e : lz a = l) (w : World) : (Op.equalIn 10000 32 (V l) (V l)).run Tryz.prog w = .ok true w := by
  subst e
  exact eq_reflE12 a w
def oneN : Nat → Nat
  | 0 => 1
  | _ => 0
theorem lz_mul_one (a : Nat → Int) : lz (mul12 a one12) = lz a := lz_congr2 fun j hj => by
  match j, hj with
  | 0, _ => rw [one12_0]
  | 1, _ => rw [one12_1]
  | 2, _ => rw [one12_2]
  | 3, _ => rw [one12_3]
  | 4, _ => rw [one12_4]
  | 5, _ => rw [one12_5]
  | 6, _ => rw [one12_6]
  | 7, _ => rw [one12_7]
  | 8, _ => rw [one12_8]
  | 9, _ => rw [one12_9]
  | 10, _ => rw [one12_10]
  | 11, _ => rw [one12_11]
end Rg
end Go.Proofs.YtdbejmgomajjmaaGreatDoor
end
