/- Texts of the proof, joined. -/
import Derived.Test.YtkkippfikfjdpaaP3
section
namespace Go.Proofs.Ytkkippfikfjdpaa
open Go.RowKit
namespace Rg
set_option maxRecDepth 100000
theorem end_lt {v : Nat → Nat} (h : ∀ j, v j < 256) (j : Nat) : up (fun _ => 0) 0 (v 0 - 251) j < 256 := by
  have h0 := h 0
  unfold up
  split
  · omega
  · show 0 < 256
    decide
theorem block_past {Q : Exit → Act → World → Prop} {a : Act} {w : World} {id j : Nat} (hj : j ≠ id) (h : Q (.exit j) a w) : Exit.inBlock id Q (.exit j) a w := by simp only [Exit.inBlock, if_neg hj]; exact h
set_option maxHeartbeats 4000000 in
set_option maxRecDepth 100000 in
theorem fold_any (W : Nat → Nat) (hW : ∀ j, W j < 256) (w : World) :
    Calls Try.prog 61 #[.agg (ints .i64 W 70).toArray] w fun e w' => e = .returned (.agg (ints .i64 (dg (nv W 70 % P5)) 34).toArray) ∧ Below w.heap.size w w' := by
  have H0 : Hid (_ ∧ _) := ⟨Mm.nil w, Below.refl w.heap.size w⟩
  go_enter Try.func61, Try.ntmps61
  refine wp_seq ?_
  refine walk_seqA 2 [.made (ints .i64 W 70) 90, .made (ints .i64 (fun _ => 0) 34) 82] (sB H0) ?ho1 ?he1
  case ho1 => exact ak (fun γ => ⟨rfl, fun w' => ex_boxT rfl rfl⟩) (ak (fun γ => ⟨rfl, fun w' => ex_mk82 rfl⟩) trivial)
  intro γ w1 l hM hl
  have H1 : Hid (Mm w1 [(γ 0, ints .i64 W 70), (γ 1, ints .i64 (fun _ => 0) 34)] ∧ _) := growB H0 hM (Nat.le_refl _) hl [0, 1] rfl (by decide)
  have o1_0 := ownB H0 hM (Nat.le_refl _) hl (i := 0) rfl
  have o1_1 := ownB H0 hM (Nat.le_refl _) hl (i := 1) rfl
  clear hM hl l
  generalize γ 0 = γ1_0 at H1 o1_0 ⊢
  generalize γ 1 = γ1_1 at H1 o1_1 ⊢
  clear γ
  refine rest0 rfl (then_normal (wp_seq (wp_block ?_)))
  refine loop_ghost (α := (Nat → Nat)) (fun v a' w' => ∃ s0 : Nat → Value, a' = ⟨#[.agg (ints .i64 W 70).toArray, PT γ1_0 0, PT γ1_1 0, s0 3, s0 4, s0 5, s0 6, s0 7, s0 8, s0 9, undef, undef, undef, undef, undef, s0 15, s0 16, s0 17, s0 18, s0 19, s0 20, s0 21, s0 22, s0 23, s0 24, s0 25, s0 26, s0 27, s0 28, s0 29, s0 30, s0 31, s0 32, s0 33, s0 34, s0 35, s0 36, s0 37, s0 38, s0 39, s0 40, s0 41, s0 42, s0 43, s0 44, s0 45, s0 46, s0 47, s0 48, s0 49, s0 50, s0 51, s0 52, s0 53, s0 54, s0 55, s0 56, s0 57, s0 58, s0 59, s0 60, s0 61, s0 62, s0 63, s0 64, s0 65, s0 66, s0 67, s0 68, s0 69, s0 70, s0 71, s0 72, s0 73, s0 74, s0 75, s0 76, undef, undef, undef, undef, undef, undef, undef, undef, undef, undef, undef, undef, undef, undef, undef, undef, undef, undef, undef, undef, undef, undef, undef, undef, undef, undef, undef, undef, undef, undef, undef, undef, undef, undef, undef, undef], []⟩ ∧ (Mm w' [(γ1_0, ints .i64 v 70), (γ1_1, ints .i64 (fun _ => 0) 34)] ∧ Below w.heap.size w w') ∧ ((∀ j, v j < 256) ∧ nv v 70 % P5 = nv W 70 % P5)) (fun v => nv v 70) W ?st0 ?rd0
  case st0 => exact ⟨(slotfn [undef, undef, undef, undef, undef, undef, undef, undef, undef, undef, undef, undef, undef, undef, undef, undef, undef, undef, undef, undef, undef, undef, undef, undef, undef, undef, undef, undef, undef, undef, undef, undef, undef, undef, undef, undef, undef, undef, undef, undef, undef, undef, undef, undef, undef, undef, undef, undef, undef, undef, undef, undef, undef, undef, undef, undef, undef, undef, undef, undef, undef, undef, undef, undef, undef, undef, undef, undef, undef, undef, undef, undef, undef, undef, undef, undef, undef]), rfl, ⟨H1.out.1, H1.out.2⟩, ⟨hW, rfl⟩⟩
  intro v a' w2 hI
  obtain ⟨s0, rfl, hMB, hk0⟩ := hI
  have H2 : Hid (_ ∧ _) := hMB
  clear hMB H1
  by_cases hbig : 0 < nv v 70 / 2 ^ 130
  · have hrd : True := trivial
    clear hrd
    refine wp_block (wp_seq ?_)
    refine walk_seqA 1 [.made (ints .i64 (fun _ => 0) 70) 90] (sB H2) ?ho2 ?he2
    case ho2 => exact ak (fun γ => ⟨rfl, fun w' => ex_mk90 rfl⟩) trivial
    intro γ w3 l hM hl
    have H3 : Hid (Mm w3 [(γ 0, ints .i64 (fun _ => 0) 70), (γ1_0, ints .i64 v 70), (γ1_1, ints .i64 (fun _ => 0) 34)] ∧ _) := growB H2 hM (Nat.le_refl _) hl [0] rfl (by decide)
    have o2_0 := ownB H2 hM (Nat.le_refl _) hl (i := 0) rfl
    clear hM hl l H2
    generalize γ 0 = γ2_0 at H3 o2_0 ⊢
    clear γ
    refine rest0 rfl (then_normal (wp_seq ?_))
    refine walk_seqB 1 [.quiet (.bool false)] H3 ?ho3 ?he3
    case ho3 => exact ak (fun _ => ⟨rfl, fun _ _ => rfl⟩) trivial
    intro _ w4 H4
    clear H3
    refine rest0 rfl (then_normal (wp_seq (wp_seq ?_)))
    refine walk_seqB 1 [.quiet (.int .i64 16)] H4 ?ho4 ?he4
    case ho4 => exact ak (fun _ => ⟨rfl, fun _ _ => rfl⟩) trivial
    intro _ w5 H5
    clear H4
    refine rest0 rfl (then_normal (wp_block ?_))
    refine loop_ghost (α := Nat) (fun k a' w' => ∃ s2 : Nat → Value, a' = ⟨#[.agg (ints .i64 W 70).toArray, PT γ1_0 0, PT γ1_1 0, PT γ2_0 0, .bool (sm v k), .int .i64 ((16 + k : Nat) : Int), s2 6, s0 7, s0 8, s0 9, undef, undef, undef, undef, undef, s2 15, s2 16, s2 17, s2 18, s2 19, s2 20, s2 21, s2 22, s2 23, s2 24, s2 25, s2 26, s2 27, s2 28, s2 29, s2 30, s2 31, s2 32, s2 33, s2 34, s2 35, s2 36, s2 37, s2 38, s2 39, s2 40, s2 41, s2 42, s2 43, s2 44, s0 45, s0 46, s0 47, s0 48, s0 49, s0 50, s0 51, s0 52, s0 53, s0 54, s0 55, s0 56, s0 57, s0 58, s0 59, s0 60, s0 61, s0 62, s0 63, s0 64, s0 65, s0 66, s0 67, s0 68, s0 69, s0 70, s0 71, s0 72, s0 73, s0 74, s0 75, s0 76, undef, undef, undef, undef, undef, undef, undef, undef, undef, undef, undef, undef, undef, undef, undef, undef, undef, undef, undef, undef, undef, undef, undef, undef, undef, undef, undef, undef, undef, undef, undef, undef, undef, undef, undef, undef], []⟩ ∧ (Mm w' [(γ2_0, ints .i64 (hz v k) 70), (γ1_0, ints .i64 v 70), (γ1_1, ints .i64 (fun _ => 0) 34)] ∧ Below w.heap.size w w') ∧ k ≤ 54) (fun k => 54 - k) 0 ?st2 ?rd2
    case st2 => exact ⟨(slotfn [undef, undef, undef, undef, undef, undef, s0 6, undef, undef, undef, undef, undef, undef, undef, undef, s0 15, s0 16, s0 17, s0 18, s0 19, s0 20, s0 21, s0 22, s0 23, s0 24, s0 25, s0 26, s0 27, s0 28, s0 29, s0 30, s0 31, s0 32, s0 33, s0 34, s0 35, s0 36, s0 37, s0 38, s0 39, s0 40, s0 41, s0 42, s0 43, s0 44]), rfl, ⟨by rw [hz_zero]; exact H5.out.1, H5.out.2⟩, by omega⟩
    intro k a' w6 hI
    obtain ⟨s2, rfl, hMB, hk2⟩ := hI
    have H6 : Hid (_ ∧ _) := hMB
    clear hMB H5
    by_cases hltk : k < 54
    · have hrd : True := trivial
      clear hrd
      rcases hs : sm v k with _ | _ <;> by_cases h69 : 16 + k + 1 < 70
      · have hrd : True := trivial
        clear hrd
        have b0 := hk0.1 (16 + k)
        have b1 := hk0.1 (16 + k + 1)
        refine wp_seq (wp_seq ?_)
        refine walk_seqB 2 [.quiet (.int .i64 ((16 + k : Nat) : Int)), .quiet (.bool true)] H6 ?ho5 ?he5
        case ho5 => exact ak (fun _ => ⟨rfl, fun _ _ => rfl⟩) (ak (by refine fun γ => ⟨rfl, fun w' h => ?_⟩; clear h; go_simp <;> omega) trivial)
        intro _ w7 H7
        clear H6
        refine rest0 rfl (then_normal (wp_cond_true rfl ?_))
        refine wp_skip (then_normal ?_)
        refine wp_seq (wp_block (wp_seq ?_))
        refine walk_seqB 1 [.quiet (.int .i64 0)] H7 ?ho6 ?he6
        case ho6 => exact ak (fun _ => ⟨rfl, fun _ _ => rfl⟩) trivial
        intro _ w8 H8
        clear H7
        refine rest0 rfl (then_normal (wp_seq (wp_seq ?_)))
        refine walk_seqB 3 [.quiet (.int .i64 ((16 + k : Nat) : Int)), .quiet (.int .i64 (((16 + k) + 1 : Nat) : Int)), .quiet (.bool true)] H8 ?ho7 ?he7
        case ho7 => exact ak (fun _ => ⟨rfl, fun _ _ => rfl⟩) (ak (by refine fun γ => ⟨rfl, fun w' h => ?_⟩; clear h; go_simp; rw [IntKind.wrap_i64]; omega) (ak (by refine fun γ => ⟨rfl, fun w' h => ?_⟩; clear h; go_simp <;> omega) trivial))
        intro _ w9 H9
        clear H8
        refine rest0 rfl (then_normal (wp_cond_true rfl ?_))
        refine walk_seqB 5 [.quiet (.int .i64 ((16 + k : Nat) : Int)), .quiet (.int .i64 (((16 + k) + 1 : Nat) : Int)), .quiet (PT γ1_0 ((16 + k) + 1)), .quiet (.int .i64 ((v ((16 + k) + 1) : Nat) : Int)), .quiet (.int .i64 ((v ((16 + k) + 1) : Nat) : Int))] H9 ?ho8 ?he8
        case ho8 => exact ak (fun _ => ⟨rfl, fun _ _ => rfl⟩) (ak (by refine fun γ => ⟨rfl, fun w' h => ?_⟩; clear h; go_simp; rw [IntKind.wrap_i64]; omega) (ak (fun γ => ⟨rfl, fun w' _ => ex_ix0_90 (j := (16 + k) + 1) rfl rfl rfl (by omega)⟩) (ak (fun γ => ⟨rfl, fun w' h => ex_loadC h 1 rfl rfl rfl Try.isAgg3 (ints_get _ _ (by omega))⟩) (ak (fun _ => ⟨rfl, fun _ _ => rfl⟩) trivial))))
        intro _ w10 H10
        clear H9
        refine rest0 rfl (then_normal (wp_seq ?_))
        refine walk_seqB 11 [.quiet (.int .i64 ((16 + k : Nat) : Int)), .quiet (.int .i64 (((16 + k) - 16 : Nat) : Int)), .quiet (.int .i64 ((16 + k : Nat) : Int)), .quiet (PT γ1_0 (16 + k)), .quiet (.int .i64 ((v (16 + k) : Nat) : Int)), .quiet (.int .i64 (((v (16 + k)) / 4 : Nat) : Int)), .quiet (.int .i64 ((v ((16 + k) + 1) : Nat) : Int)), .quiet (.int .i64 (((v ((16 + k) + 1)) % 4 : Nat) : Int)), .quiet (.int .i64 ((((v ((16 + k) + 1)) % 4) * 64 : Nat) : Int)), .quiet (.int .i64 ((((v (16 + k)) / 4) + (((v ((16 + k) + 1)) % 4) * 64) : Nat) : Int)), .quiet (PT γ2_0 ((16 + k) - 16))] H10 ?ho9 ?he9
        case ho9 => exact ak (fun _ => ⟨rfl, fun _ _ => rfl⟩) (ak (by refine fun γ => ⟨rfl, fun w' h => ?_⟩; clear h; go_simp; rw [IntKind.wrap_i64]; omega) (ak (fun _ => ⟨rfl, fun _ _ => rfl⟩) (ak (fun γ => ⟨rfl, fun w' _ => ex_ix0_90 (j := 16 + k) rfl rfl rfl (by omega)⟩) (ak (fun γ => ⟨rfl, fun w' h => ex_loadC h 1 rfl rfl rfl Try.isAgg3 (ints_get _ _ (by omega))⟩) (ak (fun γ => ⟨rfl, fun w' _ => ex_quo3 (a := v (16 + k)) (b := 4) (by omega) (by omega) rfl rfl rfl⟩) (ak (fun _ => ⟨rfl, fun _ _ => rfl⟩) (ak (fun γ => ⟨rfl, fun w' _ => ex_rem3 (a := v ((16 + k) + 1)) (b := 4) (by omega) (by omega) rfl rfl rfl⟩) (ak (by refine fun γ => ⟨rfl, fun w' h => ?_⟩; clear h; go_simp; rw [IntKind.wrap_i64]; omega) (ak (by refine fun γ => ⟨rfl, fun w' h => ?_⟩; clear h; go_simp; rw [IntKind.wrap_i64]; omega) (ak (fun γ => ⟨rfl, fun w' _ => ex_ix0_90 (j := (16 + k) - 16) rfl rfl rfl (by omega)⟩) trivial))))))))))
        intro _ w11 H11
        clear H10
        refine rest_at (l := [11]) rfl ?_
        refine rest_store rfl rfl rfl (ex_storeI H11.out.1 0 rfl rfl Try.sizeOf3 rfl rfl (by rw [ints_len]; omega)) ?_
        have H12 : Hid (Mm (w11.setCells γ2_0 ((16 + k) - 16) ([Value.int .i64 ((((v (16 + k)) / 4) + (((v ((16 + k) + 1)) % 4) * 64) : Nat) : Int)])) [(γ2_0, ints .i64 (hz v (k + 1)) 70), (γ1_0, ints .i64 v 70), (γ1_1, ints .i64 (fun _ => 0) 34)] ∧ Below w.heap.size w (w11.setCells γ2_0 ((16 + k) - 16) ([Value.int .i64 ((((v (16 + k)) / 4) + (((v ((16 + k) + 1)) % 4) * 64) : Nat) : Int)]))) := ⟨by
          have h := H11.out.1.put 0 (off := (16 + k) - 16) (vs := [Value.int .i64 ((((v (16 + k)) / 4) + (((v ((16 + k) + 1)) % 4) * 64) : Nat) : Int)]) rfl (by rw [ints_len]; simp only [List.length_cons, List.length_nil]; omega)
          rw [ints_patch _ _ _ _ (by omega), show ints .i64 (up (hz v k) ((16 + k) - 16) (((v (16 + k)) / 4) + (((v ((16 + k) + 1)) % 4) * 64))) 70 = ints .i64 (hz v (k + 1)) 70 by rw [show (up (hz v k) ((16 + k) - 16) (((v (16 + k)) / 4) + (((v ((16 + k) + 1)) % 4) * 64))) = hz v (k + 1) from hz_set v k _ (by unfold hvv; rw [if_pos h69])]] at h
          exact h, below_setCells _ o2_0.out _ _ _ H11.out.2⟩
        clear H11
        generalize hgw : World.setCells _ _ _ _ = w12 at H12 ⊢
        clear hgw
        refine rest_nil (then_normal ?_)
        refine walk_seqB 8 [.quiet (.bool false), .quiet (.bool false), .quiet (.int .i64 ((16 + k : Nat) : Int)), .quiet (.int .i64 (((16 + k) - 16 : Nat) : Int)), .quiet (PT γ2_0 ((16 + k) - 16)), .quiet (.int .i64 (((hz v (k + 1)) ((16 + k) - 16) : Nat) : Int)), .quiet (.bool (decide (0 < (hz v (k + 1)) ((16 + k) - 16)))), .quiet (.bool (decide (0 < (hz v (k + 1)) ((16 + k) - 16))))] H12 ?ho10 ?he10
        case ho10 => exact ak (fun _ => ⟨rfl, fun _ _ => rfl⟩) (ak (fun _ => ⟨rfl, fun _ _ => rfl⟩) (ak (fun _ => ⟨rfl, fun _ _ => rfl⟩) (ak (by refine fun γ => ⟨rfl, fun w' h => ?_⟩; clear h; go_simp; rw [IntKind.wrap_i64]; omega) (ak (fun γ => ⟨rfl, fun w' _ => ex_ix0_90 (j := (16 + k) - 16) rfl rfl rfl (by omega)⟩) (ak (fun γ => ⟨rfl, fun w' h => ex_loadC h 0 rfl rfl rfl Try.isAgg3 (ints_get _ _ (by omega))⟩) (ak (fun γ => ⟨rfl, fun w' _ => ex_gtr3 (a := (hz v (k + 1)) ((16 + k) - 16)) (b := 0) rfl rfl rfl⟩) (ak (by refine fun γ => ⟨rfl, fun w' h => ?_⟩; clear h; go_simp) trivial)))))))
        intro _ w13 H13
        clear H12
        refine rest_at (l := [8]) rfl ?_
        refine rest_set (d := 4) rfl rfl rfl rfl ?_
        simp only [Act.put, sa, sz, ss]
        refine rest_nil (block_normal (then_normal ?_))
        refine walk_seqB 2 [.quiet (.int .i64 ((16 + k : Nat) : Int)), .quiet (.int .i64 (((16 + k) + 1 : Nat) : Int))] H13 ?ho11 ?he11
        case ho11 => exact ak (fun _ => ⟨rfl, fun _ _ => rfl⟩) (ak (by refine fun γ => ⟨rfl, fun w' h => ?_⟩; clear h; go_simp; rw [IntKind.wrap_i64]; omega) trivial)
        intro _ w14 H14
        clear H13
        refine rest_at (l := [2]) rfl ?_
        refine rest_set (d := 5) rfl rfl rfl rfl ?_
        simp only [Act.put, sa, sz, ss]
        refine rest_nil (then_normal ?_)
        have hsn : sm v (k + 1) = decide (0 < hz v (k + 1) (16 + k - 16)) := by
          rw [hz_at]
          show (sm v k || _) = _
          rw [hs]
          rfl
        exact ⟨k + 1, ⟨(slotfn [undef, undef, undef, undef, undef, undef, .int .i64 ((v ((16 + k) + 1) : Nat) : Int), undef, undef, undef, undef, undef, undef, undef, undef, .int .i64 ((16 + k : Nat) : Int), .bool true, .int .i64 ((16 + k : Nat) : Int), .int .i64 (((16 + k) + 1 : Nat) : Int), .int .i64 ((16 + k : Nat) : Int), .int .i64 (((16 + k) + 1 : Nat) : Int), .bool true, .int .i64 ((16 + k : Nat) : Int), .int .i64 (((16 + k) + 1 : Nat) : Int), PT γ1_0 ((16 + k) + 1), .int .i64 ((v ((16 + k) + 1) : Nat) : Int), .int .i64 ((16 + k : Nat) : Int), .int .i64 (((16 + k) - 16 : Nat) : Int), .int .i64 ((16 + k : Nat) : Int), PT γ1_0 (16 + k), .int .i64 ((v (16 + k) : Nat) : Int), .int .i64 (((v (16 + k)) / 4 : Nat) : Int), .int .i64 ((v ((16 + k) + 1) : Nat) : Int), .int .i64 (((v ((16 + k) + 1)) % 4 : Nat) : Int), .int .i64 ((((v ((16 + k) + 1)) % 4) * 64 : Nat) : Int), .int .i64 ((((v (16 + k)) / 4) + (((v ((16 + k) + 1)) % 4) * 64) : Nat) : Int), PT γ2_0 ((16 + k) - 16), .bool false, .bool false, .int .i64 ((16 + k : Nat) : Int), .int .i64 (((16 + k) - 16 : Nat) : Int), PT γ2_0 ((16 + k) - 16), .int .i64 (((hz v (k + 1)) ((16 + k) - 16) : Nat) : Int), .bool (decide (0 < (hz v (k + 1)) ((16 + k) - 16))), .bool (decide (0 < (hz v (k + 1)) ((16 + k) - 16)))]), by rw [hsn]; rfl, ⟨H14.out.1, H14.out.2⟩, by omega⟩, by omega⟩
      · have hrd : True := trivial
        clear hrd
        have b0 := hk0.1 (16 + k)
        have b1 := hk0.1 (16 + k + 1)
        refine wp_seq (wp_seq ?_)
        refine walk_seqB 2 [.quiet (.int .i64 ((16 + k : Nat) : Int)), .quiet (.bool true)] H6 ?ho12 ?he12
        case ho12 => exact ak (fun _ => ⟨rfl, fun _ _ => rfl⟩) (ak (by refine fun γ => ⟨rfl, fun w' h => ?_⟩; clear h; go_simp <;> omega) trivial)
        intro _ w15 H15
        clear H6
        refine rest0 rfl (then_normal (wp_cond_true rfl ?_))
        refine wp_skip (then_normal ?_)
        refine wp_seq (wp_block (wp_seq ?_))
        refine walk_seqB 1 [.quiet (.int .i64 0)] H15 ?ho13 ?he13
        case ho13 => exact ak (fun _ => ⟨rfl, fun _ _ => rfl⟩) trivial
        intro _ w16 H16
        clear H15
        refine rest0 rfl (then_normal (wp_seq (wp_seq ?_)))
        refine walk_seqB 3 [.quiet (.int .i64 ((16 + k : Nat) : Int)), .quiet (.int .i64 (((16 + k) + 1 : Nat) : Int)), .quiet (.bool false)] H16 ?ho14 ?he14
        case ho14 => exact ak (fun _ => ⟨rfl, fun _ _ => rfl⟩) (ak (by refine fun γ => ⟨rfl, fun w' h => ?_⟩; clear h; go_simp; rw [IntKind.wrap_i64]; omega) (ak (by refine fun γ => ⟨rfl, fun w' h => ?_⟩; clear h; go_simp <;> omega) trivial))
        intro _ w17 H17
        clear H16
        refine rest0 rfl (then_normal (wp_cond_false rfl ?_))
        refine wp_skip (then_normal (wp_seq ?_))
        refine walk_seqB 11 [.quiet (.int .i64 ((16 + k : Nat) : Int)), .quiet (.int .i64 (((16 + k) - 16 : Nat) : Int)), .quiet (.int .i64 ((16 + k : Nat) : Int)), .quiet (PT γ1_0 (16 + k)), .quiet (.int .i64 ((v (16 + k) : Nat) : Int)), .quiet (.int .i64 (((v (16 + k)) / 4 : Nat) : Int)), .quiet (.int .i64 0), .quiet (.int .i64 ((0 % 4 : Nat) : Int)), .quiet (.int .i64 (((0 % 4) * 64 : Nat) : Int)), .quiet (.int .i64 ((((v (16 + k)) / 4) + ((0 % 4) * 64) : Nat) : Int)), .quiet (PT γ2_0 ((16 + k) - 16))] H17 ?ho15 ?he15
        case ho15 => exact ak (fun _ => ⟨rfl, fun _ _ => rfl⟩) (ak (by refine fun γ => ⟨rfl, fun w' h => ?_⟩; clear h; go_simp; rw [IntKind.wrap_i64]; omega) (ak (fun _ => ⟨rfl, fun _ _ => rfl⟩) (ak (fun γ => ⟨rfl, fun w' _ => ex_ix0_90 (j := 16 + k) rfl rfl rfl (by omega)⟩) (ak (fun γ => ⟨rfl, fun w' h => ex_loadC h 1 rfl rfl rfl Try.isAgg3 (ints_get _ _ (by omega))⟩) (ak (fun γ => ⟨rfl, fun w' _ => ex_quo3 (a := v (16 + k)) (b := 4) (by omega) (by omega) rfl rfl rfl⟩) (ak (fun _ => ⟨rfl, fun _ _ => rfl⟩) (ak (fun γ => ⟨rfl, fun w' _ => ex_rem3 (a := 0) (b := 4) (by omega) (by omega) rfl rfl rfl⟩) (ak (by refine fun γ => ⟨rfl, fun w' h => ?_⟩; clear h; go_simp; rw [IntKind.wrap_i64]; omega) (ak (by refine fun γ => ⟨rfl, fun w' h => ?_⟩; clear h; go_simp; rw [IntKind.wrap_i64]; omega) (ak (fun γ => ⟨rfl, fun w' _ => ex_ix0_90 (j := (16 + k) - 16) rfl rfl rfl (by omega)⟩) trivial))))))))))
        intro _ w18 H18
        clear H17
        refine rest_at (l := [11]) rfl ?_
        refine rest_store rfl rfl rfl (ex_storeI H18.out.1 0 rfl rfl Try.sizeOf3 rfl rfl (by rw [ints_len]; omega)) ?_
        have H19 : Hid (Mm (w18.setCells γ2_0 ((16 + k) - 16) ([Value.int .i64 ((((v (16 + k)) / 4) + ((0 % 4) * 64) : Nat) : Int)])) [(γ2_0, ints .i64 (hz v (k + 1)) 70), (γ1_0, ints .i64 v 70), (γ1_1, ints .i64 (fun _ => 0) 34)] ∧ Below w.heap.size w (w18.setCells γ2_0 ((16 + k) - 16) ([Value.int .i64 ((((v (16 + k)) / 4) + ((0 % 4) * 64) : Nat) : Int)]))) := ⟨by
          have h := H18.out.1.put 0 (off := (16 + k) - 16) (vs := [Value.int .i64 ((((v (16 + k)) / 4) + ((0 % 4) * 64) : Nat) : Int)]) rfl (by rw [ints_len]; simp only [List.length_cons, List.length_nil]; omega)
          rw [ints_patch _ _ _ _ (by omega), show ints .i64 (up (hz v k) ((16 + k) - 16) (((v (16 + k)) / 4) + ((0 % 4) * 64))) 70 = ints .i64 (hz v (k + 1)) 70 by rw [show (up (hz v k) ((16 + k) - 16) (((v (16 + k)) / 4) + ((0 % 4) * 64))) = hz v (k + 1) from hz_set v k _ (by unfold hvv; rw [if_neg h69])]] at h
          exact h, below_setCells _ o2_0.out _ _ _ H18.out.2⟩
        clear H18
        generalize hgw : World.setCells _ _ _ _ = w19 at H19 ⊢
        clear hgw
        refine rest_nil (then_normal ?_)
        refine walk_seqB 8 [.quiet (.bool false), .quiet (.bool false), .quiet (.int .i64 ((16 + k : Nat) : Int)), .quiet (.int .i64 (((16 + k) - 16 : Nat) : Int)), .quiet (PT γ2_0 ((16 + k) - 16)), .quiet (.int .i64 (((hz v (k + 1)) ((16 + k) - 16) : Nat) : Int)), .quiet (.bool (decide (0 < (hz v (k + 1)) ((16 + k) - 16)))), .quiet (.bool (decide (0 < (hz v (k + 1)) ((16 + k) - 16))))] H19 ?ho16 ?he16
        case ho16 => exact ak (fun _ => ⟨rfl, fun _ _ => rfl⟩) (ak (fun _ => ⟨rfl, fun _ _ => rfl⟩) (ak (fun _ => ⟨rfl, fun _ _ => rfl⟩) (ak (by refine fun γ => ⟨rfl, fun w' h => ?_⟩; clear h; go_simp; rw [IntKind.wrap_i64]; omega) (ak (fun γ => ⟨rfl, fun w' _ => ex_ix0_90 (j := (16 + k) - 16) rfl rfl rfl (by omega)⟩) (ak (fun γ => ⟨rfl, fun w' h => ex_loadC h 0 rfl rfl rfl Try.isAgg3 (ints_get _ _ (by omega))⟩) (ak (fun γ => ⟨rfl, fun w' _ => ex_gtr3 (a := (hz v (k + 1)) ((16 + k) - 16)) (b := 0) rfl rfl rfl⟩) (ak (by refine fun γ => ⟨rfl, fun w' h => ?_⟩; clear h; go_simp) trivial)))))))
        intro _ w20 H20
        clear H19
        refine rest_at (l := [8]) rfl ?_
        refine rest_set (d := 4) rfl rfl rfl rfl ?_
        simp only [Act.put, sa, sz, ss]
        refine rest_nil (block_normal (then_normal ?_))
        refine walk_seqB 2 [.quiet (.int .i64 ((16 + k : Nat) : Int)), .quiet (.int .i64 (((16 + k) + 1 : Nat) : Int))] H20 ?ho17 ?he17
        case ho17 => exact ak (fun _ => ⟨rfl, fun _ _ => rfl⟩) (ak (by refine fun γ => ⟨rfl, fun w' h => ?_⟩; clear h; go_simp; rw [IntKind.wrap_i64]; omega) trivial)
        intro _ w21 H21
        clear H20
        refine rest_at (l := [2]) rfl ?_
        refine rest_set (d := 5) rfl rfl rfl rfl ?_
        simp only [Act.put, sa, sz, ss]
        refine rest_nil (then_normal ?_)
        have hsn : sm v (k + 1) = decide (0 < hz v (k + 1) (16 + k - 16)) := by
          rw [hz_at]
          show (sm v k || _) = _
          rw [hs]
          rfl
        exact ⟨k + 1, ⟨(slotfn [undef, undef, undef, undef, undef, undef, .int .i64 0, undef, undef, undef, undef, undef, undef, undef, undef, .int .i64 ((16 + k : Nat) : Int), .bool true, .int .i64 ((16 + k : Nat) : Int), .int .i64 (((16 + k) + 1 : Nat) : Int), .int .i64 ((16 + k : Nat) : Int), .int .i64 (((16 + k) + 1 : Nat) : Int), .bool false, s2 22, s2 23, s2 24, s2 25, .int .i64 ((16 + k : Nat) : Int), .int .i64 (((16 + k) - 16 : Nat) : Int), .int .i64 ((16 + k : Nat) : Int), PT γ1_0 (16 + k), .int .i64 ((v (16 + k) : Nat) : Int), .int .i64 (((v (16 + k)) / 4 : Nat) : Int), .int .i64 0, .int .i64 ((0 % 4 : Nat) : Int), .int .i64 (((0 % 4) * 64 : Nat) : Int), .int .i64 ((((v (16 + k)) / 4) + ((0 % 4) * 64) : Nat) : Int), PT γ2_0 ((16 + k) - 16), .bool false, .bool false, .int .i64 ((16 + k : Nat) : Int), .int .i64 (((16 + k) - 16 : Nat) : Int), PT γ2_0 ((16 + k) - 16), .int .i64 (((hz v (k + 1)) ((16 + k) - 16) : Nat) : Int), .bool (decide (0 < (hz v (k + 1)) ((16 + k) - 16))), .bool (decide (0 < (hz v (k + 1)) ((16 + k) - 16)))]), by rw [hsn]; rfl, ⟨H21.out.1, H21.out.2⟩, by omega⟩, by omega⟩
      · have hrd : True := trivial
        clear hrd
        have b0 := hk0.1 (16 + k)
        have b1 := hk0.1 (16 + k + 1)
        refine wp_seq (wp_seq ?_)
        refine walk_seqB 2 [.quiet (.int .i64 ((16 + k : Nat) : Int)), .quiet (.bool true)] H6 ?ho18 ?he18
        case ho18 => exact ak (fun _ => ⟨rfl, fun _ _ => rfl⟩) (ak (by refine fun γ => ⟨rfl, fun w' h => ?_⟩; clear h; go_simp <;> omega) trivial)
        intro _ w22 H22
        clear H6
        refine rest0 rfl (then_normal (wp_cond_true rfl ?_))
        refine wp_skip (then_normal ?_)
        refine wp_seq (wp_block (wp_seq ?_))
        refine walk_seqB 1 [.quiet (.int .i64 0)] H22 ?ho19 ?he19
        case ho19 => exact ak (fun _ => ⟨rfl, fun _ _ => rfl⟩) trivial
        intro _ w23 H23
        clear H22
        refine rest0 rfl (then_normal (wp_seq (wp_seq ?_)))
        refine walk_seqB 3 [.quiet (.int .i64 ((16 + k : Nat) : Int)), .quiet (.int .i64 (((16 + k) + 1 : Nat) : Int)), .quiet (.bool true)] H23 ?ho20 ?he20
        case ho20 => exact ak (fun _ => ⟨rfl, fun _ _ => rfl⟩) (ak (by refine fun γ => ⟨rfl, fun w' h => ?_⟩; clear h; go_simp; rw [IntKind.wrap_i64]; omega) (ak (by refine fun γ => ⟨rfl, fun w' h => ?_⟩; clear h; go_simp <;> omega) trivial))
        intro _ w24 H24
        clear H23
        refine rest0 rfl (then_normal (wp_cond_true rfl ?_))
        refine walk_seqB 5 [.quiet (.int .i64 ((16 + k : Nat) : Int)), .quiet (.int .i64 (((16 + k) + 1 : Nat) : Int)), .quiet (PT γ1_0 ((16 + k) + 1)), .quiet (.int .i64 ((v ((16 + k) + 1) : Nat) : Int)), .quiet (.int .i64 ((v ((16 + k) + 1) : Nat) : Int))] H24 ?ho21 ?he21
        case ho21 => exact ak (fun _ => ⟨rfl, fun _ _ => rfl⟩) (ak (by refine fun γ => ⟨rfl, fun w' h => ?_⟩; clear h; go_simp; rw [IntKind.wrap_i64]; omega) (ak (fun γ => ⟨rfl, fun w' _ => ex_ix0_90 (j := (16 + k) + 1) rfl rfl rfl (by omega)⟩) (ak (fun γ => ⟨rfl, fun w' h => ex_loadC h 1 rfl rfl rfl Try.isAgg3 (ints_get _ _ (by omega))⟩) (ak (fun _ => ⟨rfl, fun _ _ => rfl⟩) trivial))))
        intro _ w25 H25
        clear H24
        refine rest0 rfl (then_normal (wp_seq ?_))
        refine walk_seqB 11 [.quiet (.int .i64 ((16 + k : Nat) : Int)), .quiet (.int .i64 (((16 + k) - 16 : Nat) : Int)), .quiet (.int .i64 ((16 + k : Nat) : Int)), .quiet (PT γ1_0 (16 + k)), .quiet (.int .i64 ((v (16 + k) : Nat) : Int)), .quiet (.int .i64 (((v (16 + k)) / 4 : Nat) : Int)), .quiet (.int .i64 ((v ((16 + k) + 1) : Nat) : Int)), .quiet (.int .i64 (((v ((16 + k) + 1)) % 4 : Nat) : Int)), .quiet (.int .i64 ((((v ((16 + k) + 1)) % 4) * 64 : Nat) : Int)), .quiet (.int .i64 ((((v (16 + k)) / 4) + (((v ((16 + k) + 1)) % 4) * 64) : Nat) : Int)), .quiet (PT γ2_0 ((16 + k) - 16))] H25 ?ho22 ?he22
        case ho22 => exact ak (fun _ => ⟨rfl, fun _ _ => rfl⟩) (ak (by refine fun γ => ⟨rfl, fun w' h => ?_⟩; clear h; go_simp; rw [IntKind.wrap_i64]; omega) (ak (fun _ => ⟨rfl, fun _ _ => rfl⟩) (ak (fun γ => ⟨rfl, fun w' _ => ex_ix0_90 (j := 16 + k) rfl rfl rfl (by omega)⟩) (ak (fun γ => ⟨rfl, fun w' h => ex_loadC h 1 rfl rfl rfl Try.isAgg3 (ints_get _ _ (by omega))⟩) (ak (fun γ => ⟨rfl, fun w' _ => ex_quo3 (a := v (16 + k)) (b := 4) (by omega) (by omega) rfl rfl rfl⟩) (ak (fun _ => ⟨rfl, fun _ _ => rfl⟩) (ak (fun γ => ⟨rfl, fun w' _ => ex_rem3 (a := v ((16 + k) + 1)) (b := 4) (by omega) (by omega) rfl rfl rfl⟩) (ak (by refine fun γ => ⟨rfl, fun w' h => ?_⟩; clear h; go_simp; rw [IntKind.wrap_i64]; omega) (ak (by refine fun γ => ⟨rfl, fun w' h => ?_⟩; clear h; go_simp; rw [IntKind.wrap_i64]; omega) (ak (fun γ => ⟨rfl, fun w' _ => ex_ix0_90 (j := (16 + k) - 16) rfl rfl rfl (by omega)⟩) trivial))))))))))
        intro _ w26 H26
        clear H25
        refine rest_at (l := [11]) rfl ?_
        refine rest_store rfl rfl rfl (ex_storeI H26.out.1 0 rfl rfl Try.sizeOf3 rfl rfl (by rw [ints_len]; omega)) ?_
        have H27 : Hid (Mm (w26.setCells γ2_0 ((16 + k) - 16) ([Value.int .i64 ((((v (16 + k)) / 4) + (((v ((16 + k) + 1)) % 4) * 64) : Nat) : Int)])) [(γ2_0, ints .i64 (hz v (k + 1)) 70), (γ1_0, ints .i64 v 70), (γ1_1, ints .i64 (fun _ => 0) 34)] ∧ Below w.heap.size w (w26.setCells γ2_0 ((16 + k) - 16) ([Value.int .i64 ((((v (16 + k)) / 4) + (((v ((16 + k) + 1)) % 4) * 64) : Nat) : Int)]))) := ⟨by
          have h := H26.out.1.put 0 (off := (16 + k) - 16) (vs := [Value.int .i64 ((((v (16 + k)) / 4) + (((v ((16 + k) + 1)) % 4) * 64) : Nat) : Int)]) rfl (by rw [ints_len]; simp only [List.length_cons, List.length_nil]; omega)
          rw [ints_patch _ _ _ _ (by omega), show ints .i64 (up (hz v k) ((16 + k) - 16) (((v (16 + k)) / 4) + (((v ((16 + k) + 1)) % 4) * 64))) 70 = ints .i64 (hz v (k + 1)) 70 by rw [show (up (hz v k) ((16 + k) - 16) (((v (16 + k)) / 4) + (((v ((16 + k) + 1)) % 4) * 64))) = hz v (k + 1) from hz_set v k _ (by unfold hvv; rw [if_pos h69])]] at h
          exact h, below_setCells _ o2_0.out _ _ _ H26.out.2⟩
        clear H26
        generalize hgw : World.setCells _ _ _ _ = w27 at H27 ⊢
        clear hgw
        refine rest_nil (then_normal ?_)
        refine walk_seqB 8 [.quiet (.bool true), .quiet (.bool true), .gone, .gone, .gone, .gone, .gone, .quiet (.bool true)] H27 ?ho23 ?he23
        case ho23 => exact ak (fun _ => ⟨rfl, fun _ _ => rfl⟩) (ak (fun _ => ⟨rfl, fun _ _ => rfl⟩) (ak (fun γ => rfl) (ak (fun γ => rfl) (ak (fun γ => rfl) (ak (fun γ => rfl) (ak (fun γ => rfl) (ak (by refine fun γ => ⟨rfl, fun w' h => ?_⟩; clear h; go_simp) trivial)))))))
        intro _ w28 H28
        clear H27
        refine rest_at (l := [8]) rfl ?_
        refine rest_set (d := 4) rfl rfl rfl rfl ?_
        simp only [Act.put, sa, sz, ss]
        refine rest_nil (block_normal (then_normal ?_))
        refine walk_seqB 2 [.quiet (.int .i64 ((16 + k : Nat) : Int)), .quiet (.int .i64 (((16 + k) + 1 : Nat) : Int))] H28 ?ho24 ?he24
        case ho24 => exact ak (fun _ => ⟨rfl, fun _ _ => rfl⟩) (ak (by refine fun γ => ⟨rfl, fun w' h => ?_⟩; clear h; go_simp; rw [IntKind.wrap_i64]; omega) trivial)
        intro _ w29 H29
        clear H28
        refine rest_at (l := [2]) rfl ?_
        refine rest_set (d := 5) rfl rfl rfl rfl ?_
        simp only [Act.put, sa, sz, ss]
        refine rest_nil (then_normal ?_)
        have hsn : sm v (k + 1) = true := by
          show (sm v k || _) = _
          rw [hs]
          rfl
        exact ⟨k + 1, ⟨(slotfn [undef, undef, undef, undef, undef, undef, .int .i64 ((v ((16 + k) + 1) : Nat) : Int), undef, undef, undef, undef, undef, undef, undef, undef, .int .i64 ((16 + k : Nat) : Int), .bool true, .int .i64 ((16 + k : Nat) : Int), .int .i64 (((16 + k) + 1 : Nat) : Int), .int .i64 ((16 + k : Nat) : Int), .int .i64 (((16 + k) + 1 : Nat) : Int), .bool true, .int .i64 ((16 + k : Nat) : Int), .int .i64 (((16 + k) + 1 : Nat) : Int), PT γ1_0 ((16 + k) + 1), .int .i64 ((v ((16 + k) + 1) : Nat) : Int), .int .i64 ((16 + k : Nat) : Int), .int .i64 (((16 + k) - 16 : Nat) : Int), .int .i64 ((16 + k : Nat) : Int), PT γ1_0 (16 + k), .int .i64 ((v (16 + k) : Nat) : Int), .int .i64 (((v (16 + k)) / 4 : Nat) : Int), .int .i64 ((v ((16 + k) + 1) : Nat) : Int), .int .i64 (((v ((16 + k) + 1)) % 4 : Nat) : Int), .int .i64 ((((v ((16 + k) + 1)) % 4) * 64 : Nat) : Int), .int .i64 ((((v (16 + k)) / 4) + (((v ((16 + k) + 1)) % 4) * 64) : Nat) : Int), PT γ2_0 ((16 + k) - 16), .bool true, .bool true, undef, undef, undef, undef, undef, .bool true]), by rw [hsn]; rfl, ⟨H29.out.1, H29.out.2⟩, by omega⟩, by omega⟩
      · have hrd : True := trivial
        clear hrd
        have b0 := hk0.1 (16 + k)
        have b1 := hk0.1 (16 + k + 1)
        refine wp_seq (wp_seq ?_)
        refine walk_seqB 2 [.quiet (.int .i64 ((16 + k : Nat) : Int)), .quiet (.bool true)] H6 ?ho25 ?he25
        case ho25 => exact ak (fun _ => ⟨rfl, fun _ _ => rfl⟩) (ak (by refine fun γ => ⟨rfl, fun w' h => ?_⟩; clear h; go_simp <;> omega) trivial)
        intro _ w30 H30
        clear H6
        refine rest0 rfl (then_normal (wp_cond_true rfl ?_))
        refine wp_skip (then_normal ?_)
        refine wp_seq (wp_block (wp_seq ?_))
        refine walk_seqB 1 [.quiet (.int .i64 0)] H30 ?ho26 ?he26
        case ho26 => exact ak (fun _ => ⟨rfl, fun _ _ => rfl⟩) trivial
        intro _ w31 H31
        clear H30
        refine rest0 rfl (then_normal (wp_seq (wp_seq ?_)))
        refine walk_seqB 3 [.quiet (.int .i64 ((16 + k : Nat) : Int)), .quiet (.int .i64 (((16 + k) + 1 : Nat) : Int)), .quiet (.bool false)] H31 ?ho27 ?he27
        case ho27 => exact ak (fun _ => ⟨rfl, fun _ _ => rfl⟩) (ak (by refine fun γ => ⟨rfl, fun w' h => ?_⟩; clear h; go_simp; rw [IntKind.wrap_i64]; omega) (ak (by refine fun γ => ⟨rfl, fun w' h => ?_⟩; clear h; go_simp <;> omega) trivial))
        intro _ w32 H32
        clear H31
        refine rest0 rfl (then_normal (wp_cond_false rfl ?_))
        refine wp_skip (then_normal (wp_seq ?_))
        refine walk_seqB 11 [.quiet (.int .i64 ((16 + k : Nat) : Int)), .quiet (.int .i64 (((16 + k) - 16 : Nat) : Int)), .quiet (.int .i64 ((16 + k : Nat) : Int)), .quiet (PT γ1_0 (16 + k)), .quiet (.int .i64 ((v (16 + k) : Nat) : Int)), .quiet (.int .i64 (((v (16 + k)) / 4 : Nat) : Int)), .quiet (.int .i64 0), .quiet (.int .i64 ((0 % 4 : Nat) : Int)), .quiet (.int .i64 (((0 % 4) * 64 : Nat) : Int)), .quiet (.int .i64 ((((v (16 + k)) / 4) + ((0 % 4) * 64) : Nat) : Int)), .quiet (PT γ2_0 ((16 + k) - 16))] H32 ?ho28 ?he28
        case ho28 => exact ak (fun _ => ⟨rfl, fun _ _ => rfl⟩) (ak (by refine fun γ => ⟨rfl, fun w' h => ?_⟩; clear h; go_simp; rw [IntKind.wrap_i64]; omega) (ak (fun _ => ⟨rfl, fun _ _ => rfl⟩) (ak (fun γ => ⟨rfl, fun w' _ => ex_ix0_90 (j := 16 + k) rfl rfl rfl (by omega)⟩) (ak (fun γ => ⟨rfl, fun w' h => ex_loadC h 1 rfl rfl rfl Try.isAgg3 (ints_get _ _ (by omega))⟩) (ak (fun γ => ⟨rfl, fun w' _ => ex_quo3 (a := v (16 + k)) (b := 4) (by omega) (by omega) rfl rfl rfl⟩) (ak (fun _ => ⟨rfl, fun _ _ => rfl⟩) (ak (fun γ => ⟨rfl, fun w' _ => ex_rem3 (a := 0) (b := 4) (by omega) (by omega) rfl rfl rfl⟩) (ak (by refine fun γ => ⟨rfl, fun w' h => ?_⟩; clear h; go_simp; rw [IntKind.wrap_i64]; omega) (ak (by refine fun γ => ⟨rfl, fun w' h => ?_⟩; clear h; go_simp; rw [IntKind.wrap_i64]; omega) (ak (fun γ => ⟨rfl, fun w' _ => ex_ix0_90 (j := (16 + k) - 16) rfl rfl rfl (by omega)⟩) trivial))))))))))
        intro _ w33 H33
        clear H32
        refine rest_at (l := [11]) rfl ?_
        refine rest_store rfl rfl rfl (ex_storeI H33.out.1 0 rfl rfl Try.sizeOf3 rfl rfl (by rw [ints_len]; omega)) ?_
        have H34 : Hid (Mm (w33.setCells γ2_0 ((16 + k) - 16) ([Value.int .i64 ((((v (16 + k)) / 4) + ((0 % 4) * 64) : Nat) : Int)])) [(γ2_0, ints .i64 (hz v (k + 1)) 70), (γ1_0, ints .i64 v 70), (γ1_1, ints .i64 (fun _ => 0) 34)] ∧ Below w.heap.size w (w33.setCells γ2_0 ((16 + k) - 16) ([Value.int .i64 ((((v (16 + k)) / 4) + ((0 % 4) * 64) : Nat) : Int)]))) := ⟨by
          have h := H33.out.1.put 0 (off := (16 + k) - 16) (vs := [Value.int .i64 ((((v (16 + k)) / 4) + ((0 % 4) * 64) : Nat) : Int)]) rfl (by rw [ints_len]; simp only [List.length_cons, List.length_nil]; omega)
          rw [ints_patch _ _ _ _ (by omega), show ints .i64 (up (hz v k) ((16 + k) - 16) (((v (16 + k)) / 4) + ((0 % 4) * 64))) 70 = ints .i64 (hz v (k + 1)) 70 by rw [show (up (hz v k) ((16 + k) - 16) (((v (16 + k)) / 4) + ((0 % 4) * 64))) = hz v (k + 1) from hz_set v k _ (by unfold hvv; rw [if_neg h69])]] at h
          exact h, below_setCells _ o2_0.out _ _ _ H33.out.2⟩
        clear H33
        generalize hgw : World.setCells _ _ _ _ = w34 at H34 ⊢
        clear hgw
        refine rest_nil (then_normal ?_)
        refine walk_seqB 8 [.quiet (.bool true), .quiet (.bool true), .gone, .gone, .gone, .gone, .gone, .quiet (.bool true)] H34 ?ho29 ?he29
        case ho29 => exact ak (fun _ => ⟨rfl, fun _ _ => rfl⟩) (ak (fun _ => ⟨rfl, fun _ _ => rfl⟩) (ak (fun γ => rfl) (ak (fun γ => rfl) (ak (fun γ => rfl) (ak (fun γ => rfl) (ak (fun γ => rfl) (ak (by refine fun γ => ⟨rfl, fun w' h => ?_⟩; clear h; go_simp) trivial)))))))
        intro _ w35 H35
        clear H34
        refine rest_at (l := [8]) rfl ?_
        refine rest_set (d := 4) rfl rfl rfl rfl ?_
        simp only [Act.put, sa, sz, ss]
        refine rest_nil (block_normal (then_normal ?_))
        refine walk_seqB 2 [.quiet (.int .i64 ((16 + k : Nat) : Int)), .quiet (.int .i64 (((16 + k) + 1 : Nat) : Int))] H35 ?ho30 ?he30
        case ho30 => exact ak (fun _ => ⟨rfl, fun _ _ => rfl⟩) (ak (by refine fun γ => ⟨rfl, fun w' h => ?_⟩; clear h; go_simp; rw [IntKind.wrap_i64]; omega) trivial)
        intro _ w36 H36
        clear H35
        refine rest_at (l := [2]) rfl ?_
        refine rest_set (d := 5) rfl rfl rfl rfl ?_
        simp only [Act.put, sa, sz, ss]
        refine rest_nil (then_normal ?_)
        have hsn : sm v (k + 1) = true := by
          show (sm v k || _) = _
          rw [hs]
          rfl
        exact ⟨k + 1, ⟨(slotfn [undef, undef, undef, undef, undef, undef, .int .i64 0, undef, undef, undef, undef, undef, undef, undef, undef, .int .i64 ((16 + k : Nat) : Int), .bool true, .int .i64 ((16 + k : Nat) : Int), .int .i64 (((16 + k) + 1 : Nat) : Int), .int .i64 ((16 + k : Nat) : Int), .int .i64 (((16 + k) + 1 : Nat) : Int), .bool false, s2 22, s2 23, s2 24, s2 25, .int .i64 ((16 + k : Nat) : Int), .int .i64 (((16 + k) - 16 : Nat) : Int), .int .i64 ((16 + k : Nat) : Int), PT γ1_0 (16 + k), .int .i64 ((v (16 + k) : Nat) : Int), .int .i64 (((v (16 + k)) / 4 : Nat) : Int), .int .i64 0, .int .i64 ((0 % 4 : Nat) : Int), .int .i64 (((0 % 4) * 64 : Nat) : Int), .int .i64 ((((v (16 + k)) / 4) + ((0 % 4) * 64) : Nat) : Int), PT γ2_0 ((16 + k) - 16), .bool true, .bool true, undef, undef, undef, undef, undef, .bool true]), by rw [hsn]; rfl, ⟨H36.out.1, H36.out.2⟩, by omega⟩, by omega⟩
    have hkN : k = 54 := by omega
    subst hkN
    rw [sm_yes hk0.1 hbig]
    refine wp_seq (wp_seq ?_)
    refine walk_seqB 2 [.quiet (.int .i64 ((16 + 54 : Nat) : Int)), .quiet (.bool false)] H6 ?ho31 ?he31
    case ho31 => exact ak (fun _ => ⟨rfl, fun _ _ => rfl⟩) (ak (by refine fun γ => ⟨rfl, fun w' h => ?_⟩; clear h; go_simp <;> omega) trivial)
    intro _ w37 H37
    clear H6
    refine rest0 rfl (then_normal (wp_cond_false rfl ?_))
    refine wp_exit ?_
    repeat refine then_exit ?_
    refine block_exit ?_
    refine then_normal (wp_seq (wp_seq ?_))
    refine walk_seqB 2 [.quiet (.bool true), .quiet (.bool false)] H37 ?ho32 ?he32
    case ho32 => exact ak (fun _ => ⟨rfl, fun _ _ => rfl⟩) (ak (by refine fun γ => ⟨rfl, fun w' h => ?_⟩; clear h; go_simp) trivial)
    intro _ w38 H38
    clear H37
    refine rest0 rfl (then_normal (wp_cond_false rfl ?_))
    refine wp_skip (then_normal ?_)
    refine wp_seq (wp_seq ?_)
    refine walk_seqB 1 [.quiet (.int .i64 17)] H38 ?ho33 ?he33
    case ho33 => exact ak (fun _ => ⟨rfl, fun _ _ => rfl⟩) trivial
    intro _ w39 H39
    clear H38
    refine rest0 rfl (then_normal (wp_block ?_))
    refine loop_ghost (α := Nat) (fun k a' w' => ∃ s4 : Nat → Value, a' = ⟨#[.agg (ints .i64 W 70).toArray, PT γ1_0 0, PT γ1_1 0, PT γ2_0 0, .bool true, .int .i64 ((16 + 54 : Nat) : Int), s2 6, .int .i64 ((17 + k : Nat) : Int), s0 8, s0 9, undef, undef, undef, undef, undef, .int .i64 ((16 + 54 : Nat) : Int), .bool false, s2 17, s2 18, s2 19, s2 20, s2 21, s2 22, s2 23, s2 24, s2 25, s2 26, s2 27, s2 28, s2 29, s2 30, s2 31, s2 32, s2 33, s2 34, s2 35, s2 36, s2 37, s2 38, s2 39, s2 40, s2 41, s2 42, s2 43, s2 44, .bool true, .bool false, s4 47, s4 48, s4 49, s4 50, s4 51, s4 52, s0 53, s0 54, s0 55, s0 56, s0 57, s0 58, s0 59, s0 60, s0 61, s0 62, s0 63, s0 64, s0 65, s0 66, s0 67, s0 68, s0 69, s0 70, s0 71, s0 72, s0 73, s0 74, s0 75, s0 76, undef, undef, undef, undef, undef, undef, undef, undef, undef, undef, undef, undef, undef, undef, undef, undef, undef, undef, undef, undef, undef, undef, undef, undef, undef, undef, undef, undef, undef, undef, undef, undef, undef, undef, undef, undef], []⟩ ∧ (Mm w' [(γ2_0, ints .i64 (hz v 54) 70), (γ1_0, ints .i64 (lo v k) 70), (γ1_1, ints .i64 (fun _ => 0) 34)] ∧ Below w.heap.size w w') ∧ k ≤ 53) (fun k => 53 - k) 0 ?st4 ?rd4
    case st4 => exact ⟨(slotfn [undef, undef, undef, undef, undef, undef, undef, undef, undef, undef, undef, undef, undef, undef, undef, undef, undef, undef, undef, undef, undef, undef, undef, undef, undef, undef, undef, undef, undef, undef, undef, undef, undef, undef, undef, undef, undef, undef, undef, undef, undef, undef, undef, undef, undef, undef, undef, s0 47, s0 48, s0 49, s0 50, s0 51, s0 52]), rfl, ⟨by rw [lo_zero]; exact H39.out.1, H39.out.2⟩, by omega⟩
    intro k a' w40 hI
    obtain ⟨s4, rfl, hMB, hk4⟩ := hI
    have H40 : Hid (_ ∧ _) := hMB
    clear hMB H39
    by_cases hltk : k < 53
    · have hrd : True := trivial
      clear hrd
      refine wp_seq (wp_seq ?_)
      refine walk_seqB 2 [.quiet (.int .i64 ((17 + k : Nat) : Int)), .quiet (.bool true)] H40 ?ho34 ?he34
      case ho34 => exact ak (fun _ => ⟨rfl, fun _ _ => rfl⟩) (ak (by refine fun γ => ⟨rfl, fun w' h => ?_⟩; clear h; go_simp <;> omega) trivial)
      intro _ w41 H41
      clear H40
      refine rest0 rfl (then_normal (wp_cond_true rfl ?_))
      refine wp_skip (then_normal ?_)
      refine wp_seq (wp_block ?_)
      refine walk_seqB 2 [.quiet (.int .i64 ((17 + k : Nat) : Int)), .quiet (PT γ1_0 (17 + k))] H41 ?ho35 ?he35
      case ho35 => exact ak (fun _ => ⟨rfl, fun _ _ => rfl⟩) (ak (fun γ => ⟨rfl, fun w' _ => ex_ix0_90 (j := 17 + k) rfl rfl rfl (by omega)⟩) trivial)
      intro _ w42 H42
      clear H41
      refine rest_at (l := [2]) rfl ?_
      refine rest_store rfl rfl rfl (ex_storeI (v := ((0 : Nat) : Int)) H42.out.1 1 rfl rfl Try.sizeOf3 rfl rfl (by rw [ints_len]; omega)) ?_
      have H43 : Hid (Mm (w42.setCells γ1_0 (17 + k) ([Value.int .i64 ((0 : Nat) : Int)])) [(γ2_0, ints .i64 (hz v 54) 70), (γ1_0, ints .i64 (lo v (k + 1)) 70), (γ1_1, ints .i64 (fun _ => 0) 34)] ∧ Below w.heap.size w (w42.setCells γ1_0 (17 + k) ([Value.int .i64 ((0 : Nat) : Int)]))) := ⟨by
        have h := H42.out.1.put 1 (off := 17 + k) (vs := [Value.int .i64 ((0 : Nat) : Int)]) rfl (by rw [ints_len]; simp only [List.length_cons, List.length_nil]; omega)
        rw [ints_patch _ _ _ _ (by omega), show ints .i64 (up (lo v k) (17 + k) 0) 70 = ints .i64 (lo v (k + 1)) 70 by rw [show (up (lo v k) (17 + k) 0) = lo v (k + 1) from lo_set v k]] at h
        exact h, below_setCells _ o1_0.out _ _ _ H42.out.2⟩
      clear H42
      generalize hgw : World.setCells _ _ _ _ = w43 at H43 ⊢
      clear hgw
      refine rest_nil (block_normal (then_normal ?_))
      refine walk_seqB 2 [.quiet (.int .i64 ((17 + k : Nat) : Int)), .quiet (.int .i64 (((17 + k) + 1 : Nat) : Int))] H43 ?ho36 ?he36
      case ho36 => exact ak (fun _ => ⟨rfl, fun _ _ => rfl⟩) (ak (by refine fun γ => ⟨rfl, fun w' h => ?_⟩; clear h; go_simp; rw [IntKind.wrap_i64]; omega) trivial)
      intro _ w44 H44
      clear H43
      refine rest_at (l := [2]) rfl ?_
      refine rest_set (d := 7) rfl rfl rfl rfl ?_
      simp only [Act.put, sa, sz, ss]
      refine rest_nil (then_normal ?_)
      exact ⟨k + 1, ⟨(slotfn [undef, undef, undef, undef, undef, undef, undef, undef, undef, undef, undef, undef, undef, undef, undef, undef, undef, undef, undef, undef, undef, undef, undef, undef, undef, undef, undef, undef, undef, undef, undef, undef, undef, undef, undef, undef, undef, undef, undef, undef, undef, undef, undef, undef, undef, undef, undef, .int .i64 ((17 + k : Nat) : Int), .bool true, .int .i64 ((17 + k : Nat) : Int), .int .i64 (((17 + k) + 1 : Nat) : Int), .int .i64 ((17 + k : Nat) : Int), PT γ1_0 (17 + k)]), rfl, ⟨H44.out.1, H44.out.2⟩, by omega⟩, by omega⟩
    have hkN : k = 53 := by omega
    subst hkN
    have hl16 : lo v 53 16 < 256 := by rw [lo_16]; exact hk0.1 16
    refine wp_seq (wp_seq ?_)
    refine walk_seqB 2 [.quiet (.int .i64 ((17 + 53 : Nat) : Int)), .quiet (.bool false)] H40 ?ho37 ?he37
    case ho37 => exact ak (fun _ => ⟨rfl, fun _ _ => rfl⟩) (ak (by refine fun γ => ⟨rfl, fun w' h => ?_⟩; clear h; go_simp <;> omega) trivial)
    intro _ w45 H45
    clear H40
    refine rest0 rfl (then_normal (wp_cond_false rfl ?_))
    refine wp_exit ?_
    repeat refine then_exit ?_
    refine block_exit ?_
    refine then_normal (wp_seq ?_)
    refine walk_seqB 4 [.quiet (PT γ1_0 16), .quiet (.int .i64 (((lo v 53) 16 : Nat) : Int)), .quiet (.int .i64 ((((lo v 53) 16) % 4 : Nat) : Int)), .quiet (PT γ1_0 16)] H45 ?ho38 ?he38
    case ho38 => exact ak (fun γ => ⟨rfl, fun w' _ => ex_ix0_90 (j := 16) rfl rfl rfl (by decide)⟩) (ak (fun γ => ⟨rfl, fun w' h => ex_loadC h 1 rfl rfl rfl Try.isAgg3 (ints_get _ _ (by decide))⟩) (ak (fun γ => ⟨rfl, fun w' _ => ex_rem3 (a := (lo v 53) 16) (b := 4) (by omega) (by omega) rfl rfl rfl⟩) (ak (fun γ => ⟨rfl, fun w' _ => ex_ix0_90 (j := 16) rfl rfl rfl (by decide)⟩) trivial)))
    intro _ w46 H46
    clear H45
    refine rest_at (l := [4]) rfl ?_
    refine rest_store rfl rfl rfl (ex_storeI H46.out.1 1 rfl rfl Try.sizeOf3 rfl rfl (by rw [ints_len]; decide)) ?_
    have H47 : Hid (Mm (w46.setCells γ1_0 16 ([Value.int .i64 ((((lo v 53) 16) % 4 : Nat) : Int)])) [(γ2_0, ints .i64 (hz v 54) 70), (γ1_0, ints .i64 (le' v) 70), (γ1_1, ints .i64 (fun _ => 0) 34)] ∧ Below w.heap.size w (w46.setCells γ1_0 16 ([Value.int .i64 ((((lo v 53) 16) % 4 : Nat) : Int)]))) := ⟨by
      have h := H46.out.1.put 1 (off := 16) (vs := [Value.int .i64 ((((lo v 53) 16) % 4 : Nat) : Int)]) rfl (by rw [ints_len]; simp only [List.length_cons, List.length_nil]; decide)
      rw [ints_patch _ _ _ _ (by decide), show ints .i64 (up (lo v 53) 16 (((lo v 53) 16) % 4)) 70 = ints .i64 (le' v) 70 by rw [show (up (lo v 53) 16 (((lo v 53) 16) % 4)) = le' v from le_set v]] at h
      exact h, below_setCells _ o1_0.out _ _ _ H46.out.2⟩
    clear H46
    generalize hgw : World.setCells _ _ _ _ = w47 at H47 ⊢
    clear hgw
    refine rest_nil (then_normal (wp_seq ?_))
    refine walk_seqB 1 [.quiet (.int .i64 0)] H47 ?ho39 ?he39
    case ho39 => exact ak (fun _ => ⟨rfl, fun _ _ => rfl⟩) trivial
    intro _ w48 H48
    clear H47
    refine rest0 rfl (then_normal (wp_seq ?_))
    refine walk_seqB 1 [.quiet (.int .i64 0)] H48 ?ho40 ?he40
    case ho40 => exact ak (fun _ => ⟨rfl, fun _ _ => rfl⟩) trivial
    intro _ w49 H49
    clear H48
    refine rest0 rfl (then_normal (wp_block ?_))
    refine loop_ghost (α := Nat) (fun k a' w' => ∃ s6 : Nat → Value, a' = ⟨#[.agg (ints .i64 W 70).toArray, PT γ1_0 0, PT γ1_1 0, PT γ2_0 0, .bool true, .int .i64 ((16 + 54 : Nat) : Int), s2 6, .int .i64 ((17 + 53 : Nat) : Int), .int .i64 ((cy (zz v) k : Nat) : Int), .int .i64 ((k : Nat) : Int), undef, undef, undef, undef, undef, .int .i64 ((16 + 54 : Nat) : Int), .bool false, s2 17, s2 18, s2 19, s2 20, s2 21, s2 22, s2 23, s2 24, s2 25, s2 26, s2 27, s2 28, s2 29, s2 30, s2 31, s2 32, s2 33, s2 34, s2 35, s2 36, s2 37, s2 38, s2 39, s2 40, s2 41, s2 42, s2 43, s2 44, .bool true, .bool false, .int .i64 ((17 + 53 : Nat) : Int), .bool false, s4 49, s4 50, s4 51, s4 52, PT γ1_0 16, .int .i64 (((lo v 53) 16 : Nat) : Int), .int .i64 ((((lo v 53) 16) % 4 : Nat) : Int), PT γ1_0 16, s6 57, s6 58, s6 59, s6 60, s6 61, s6 62, s6 63, s6 64, s6 65, s6 66, s6 67, s6 68, s6 69, s6 70, s6 71, s6 72, s6 73, s6 74, s6 75, s6 76, undef, undef, undef, undef, undef, undef, undef, undef, undef, undef, undef, undef, undef, undef, undef, undef, undef, undef, undef, undef, undef, undef, undef, undef, undef, undef, undef, undef, undef, undef, undef, undef, undef, undef, undef, undef], []⟩ ∧ (Mm w' [(γ2_0, ints .i64 (hz v 54) 70), (γ1_0, ints .i64 (cr v k) 70), (γ1_1, ints .i64 (fun _ => 0) 34)] ∧ Below w.heap.size w w') ∧ k ≤ 70) (fun k => 70 - k) 0 ?st6 ?rd6
    case st6 => exact ⟨(slotfn [undef, undef, undef, undef, undef, undef, undef, undef, undef, undef, undef, undef, undef, undef, undef, undef, undef, undef, undef, undef, undef, undef, undef, undef, undef, undef, undef, undef, undef, undef, undef, undef, undef, undef, undef, undef, undef, undef, undef, undef, undef, undef, undef, undef, undef, undef, undef, undef, undef, undef, undef, undef, undef, undef, undef, undef, undef, s0 57, s0 58, s0 59, s0 60, s0 61, s0 62, s0 63, s0 64, s0 65, s0 66, s0 67, s0 68, s0 69, s0 70, s0 71, s0 72, s0 73, s0 74, s0 75, s0 76]), rfl, ⟨by rw [cr_zero]; exact H49.out.1, H49.out.2⟩, by omega⟩
    intro k a' w50 hI
    obtain ⟨s6, rfl, hMB, hk6⟩ := hI
    have H50 : Hid (_ ∧ _) := hMB
    clear hMB H49
    by_cases hltk : k < 70
    · have hrd : True := trivial
      clear hrd
      have hc := cy_le (zz_le hk0.1) (C := 6) (by decide) k
      have hcr := cr_lt hk0.1 k k
      have hhz := hz_le hk0.1 54 k
      refine wp_seq (wp_seq ?_)
      refine walk_seqB 2 [.quiet (.int .i64 ((k : Nat) : Int)), .quiet (.bool true)] H50 ?ho41 ?he41
      case ho41 => exact ak (fun _ => ⟨rfl, fun _ _ => rfl⟩) (ak (by refine fun γ => ⟨rfl, fun w' h => ?_⟩; clear h; go_simp <;> omega) trivial)
      intro _ w51 H51
      clear H50
      refine rest0 rfl (then_normal (wp_cond_true rfl ?_))
      refine wp_skip (then_normal ?_)
      refine wp_seq (wp_block (wp_seq ?_))
      refine walk_anyB 10 [.quiet (.int .i64 ((cy (zz v) k : Nat) : Int)), .quiet (.int .i64 ((k : Nat) : Int)), .quiet (PT γ1_0 k), .quiet (.int .i64 (((cr v k) k : Nat) : Int)), .quiet (.int .i64 (((cy (zz v) k) + ((cr v k) k) : Nat) : Int)), .quiet (.int .i64 ((k : Nat) : Int)), .quiet (PT γ2_0 k), .quiet (.int .i64 (((hz v 54) k : Nat) : Int)), .quiet (.int .i64 ((5 * ((hz v 54) k) : Nat) : Int)), .quiet (.int .i64 ((((cy (zz v) k) + ((cr v k) k)) + (5 * ((hz v 54) k)) : Nat) : Int))] H51 ?ho42 ?he42
      case ho42 => exact ak (fun _ => ⟨rfl, fun _ _ => rfl⟩) (ak (fun _ => ⟨rfl, fun _ _ => rfl⟩) (ak (fun γ => ⟨rfl, fun w' _ => ex_ix0_90 (j := k) rfl rfl rfl (by omega)⟩) (ak (fun γ => ⟨rfl, fun w' h => ex_loadC h 1 rfl rfl rfl Try.isAgg3 (ints_get _ _ (by omega))⟩) (ak (by refine fun γ => ⟨rfl, fun w' h => ?_⟩; clear h; go_simp; rw [IntKind.wrap_i64]; omega) (ak (fun _ => ⟨rfl, fun _ _ => rfl⟩) (ak (fun γ => ⟨rfl, fun w' _ => ex_ix0_90 (j := k) rfl rfl rfl (by omega)⟩) (ak (fun γ => ⟨rfl, fun w' h => ex_loadC h 0 rfl rfl rfl Try.isAgg3 (ints_get _ _ (by omega))⟩) (ak (by refine fun γ => ⟨rfl, fun w' h => ?_⟩; clear h; go_simp; rw [IntKind.wrap_i64]; omega) (ak (by refine fun γ => ⟨rfl, fun w' h => ?_⟩; clear h; go_simp; rw [IntKind.wrap_i64]; omega) trivial)))))))))
      intro _ w52 H52
      clear H51
      refine rest_at (l := [10]) rfl ?_
      refine rest_set (d := 8) rfl rfl rfl rfl ?_
      simp only [Act.put, sa, sz, ss]
      refine rest_nil (then_normal (wp_seq ?_))
      refine walk_seqB 4 [.quiet (.int .i64 ((k : Nat) : Int)), .quiet (.int .i64 ((((cy (zz v) k) + ((cr v k) k)) + (5 * ((hz v 54) k)) : Nat) : Int)), .quiet (.int .i64 (((((cy (zz v) k) + ((cr v k) k)) + (5 * ((hz v 54) k))) % 256 : Nat) : Int)), .quiet (PT γ1_0 k)] H52 ?ho43 ?he43
      case ho43 => exact ak (fun _ => ⟨rfl, fun _ _ => rfl⟩) (ak (fun _ => ⟨rfl, fun _ _ => rfl⟩) (ak (fun γ => ⟨rfl, fun w' _ => ex_rem3 (a := ((cy (zz v) k) + ((cr v k) k)) + (5 * ((hz v 54) k))) (b := 256) (by omega) (by omega) rfl rfl rfl⟩) (ak (fun γ => ⟨rfl, fun w' _ => ex_ix0_90 (j := k) rfl rfl rfl (by omega)⟩) trivial)))
      intro _ w53 H53
      clear H52
      refine rest_at (l := [4]) rfl ?_
      refine rest_store rfl rfl rfl (ex_storeI H53.out.1 1 rfl rfl Try.sizeOf3 rfl rfl (by rw [ints_len]; omega)) ?_
      have H54 : Hid (Mm (w53.setCells γ1_0 k ([Value.int .i64 (((((cy (zz v) k) + ((cr v k) k)) + (5 * ((hz v 54) k))) % 256 : Nat) : Int)])) [(γ2_0, ints .i64 (hz v 54) 70), (γ1_0, ints .i64 (cr v (k + 1)) 70), (γ1_1, ints .i64 (fun _ => 0) 34)] ∧ Below w.heap.size w (w53.setCells γ1_0 k ([Value.int .i64 (((((cy (zz v) k) + ((cr v k) k)) + (5 * ((hz v 54) k))) % 256 : Nat) : Int)]))) := ⟨by
        have h := H53.out.1.put 1 (off := k) (vs := [Value.int .i64 (((((cy (zz v) k) + ((cr v k) k)) + (5 * ((hz v 54) k))) % 256 : Nat) : Int)]) rfl (by rw [ints_len]; simp only [List.length_cons, List.length_nil]; omega)
        rw [ints_patch _ _ _ _ (by omega), show ints .i64 (up (cr v k) k ((((cy (zz v) k) + ((cr v k) k)) + (5 * ((hz v 54) k))) % 256)) 70 = ints .i64 (cr v (k + 1)) 70 by rw [show (up (cr v k) k ((((cy (zz v) k) + ((cr v k) k)) + (5 * ((hz v 54) k))) % 256)) = cr v (k + 1) from cr_set v k]] at h
        exact h, below_setCells _ o1_0.out _ _ _ H53.out.2⟩
      clear H53
      generalize hgw : World.setCells _ _ _ _ = w54 at H54 ⊢
      clear hgw
      refine rest_nil (then_normal ?_)
      refine walk_seqB 2 [.quiet (.int .i64 ((((cy (zz v) k) + ((cr v k) k)) + (5 * ((hz v 54) k)) : Nat) : Int)), .quiet (.int .i64 (((((cy (zz v) k) + ((cr v k) k)) + (5 * ((hz v 54) k))) / 256 : Nat) : Int))] H54 ?ho44 ?he44
      case ho44 => exact ak (fun _ => ⟨rfl, fun _ _ => rfl⟩) (ak (fun γ => ⟨rfl, fun w' _ => ex_quo3 (a := ((cy (zz v) k) + ((cr v k) k)) + (5 * ((hz v 54) k))) (b := 256) (by omega) (by omega) rfl rfl rfl⟩) trivial)
      intro _ w55 H55
      clear H54
      refine rest_at (l := [2]) rfl ?_
      refine rest_set (d := 8) rfl rfl rfl rfl ?_
      simp only [Act.put, sa, sz, ss]
      refine rest_nil (block_normal (then_normal ?_))
      refine walk_seqB 2 [.quiet (.int .i64 ((k : Nat) : Int)), .quiet (.int .i64 ((k + 1 : Nat) : Int))] H55 ?ho45 ?he45
      case ho45 => exact ak (fun _ => ⟨rfl, fun _ _ => rfl⟩) (ak (by refine fun γ => ⟨rfl, fun w' h => ?_⟩; clear h; go_simp; rw [IntKind.wrap_i64]; omega) trivial)
      intro _ w56 H56
      clear H55
      refine rest_at (l := [2]) rfl ?_
      refine rest_set (d := 9) rfl rfl rfl rfl ?_
      simp only [Act.put, sa, sz, ss]
      refine rest_nil (then_normal ?_)
      exact ⟨k + 1, ⟨(slotfn [undef, undef, undef, undef, undef, undef, undef, undef, undef, undef, undef, undef, undef, undef, undef, undef, undef, undef, undef, undef, undef, undef, undef, undef, undef, undef, undef, undef, undef, undef, undef, undef, undef, undef, undef, undef, undef, undef, undef, undef, undef, undef, undef, undef, undef, undef, undef, undef, undef, undef, undef, undef, undef, undef, undef, undef, undef, .int .i64 ((k : Nat) : Int), .bool true, .int .i64 ((k : Nat) : Int), .int .i64 ((k + 1 : Nat) : Int), .int .i64 ((cy (zz v) k : Nat) : Int), .int .i64 ((k : Nat) : Int), PT γ1_0 k, .int .i64 (((cr v k) k : Nat) : Int), .int .i64 (((cy (zz v) k) + ((cr v k) k) : Nat) : Int), .int .i64 ((k : Nat) : Int), PT γ2_0 k, .int .i64 (((hz v 54) k : Nat) : Int), .int .i64 ((5 * ((hz v 54) k) : Nat) : Int), .int .i64 ((((cy (zz v) k) + ((cr v k) k)) + (5 * ((hz v 54) k)) : Nat) : Int), .int .i64 ((k : Nat) : Int), .int .i64 ((((cy (zz v) k) + ((cr v k) k)) + (5 * ((hz v 54) k)) : Nat) : Int), .int .i64 (((((cy (zz v) k) + ((cr v k) k)) + (5 * ((hz v 54) k))) % 256 : Nat) : Int), PT γ1_0 k, .int .i64 ((((cy (zz v) k) + ((cr v k) k)) + (5 * ((hz v 54) k)) : Nat) : Int), .int .i64 (((((cy (zz v) k) + ((cr v k) k)) + (5 * ((hz v 54) k))) / 256 : Nat) : Int)]), by rw [← cy_nx v k]; rfl, ⟨H56.out.1, H56.out.2⟩, by omega⟩, by omega⟩
    have hkN : k = 70 := by omega
    subst hkN
    refine wp_seq (wp_seq ?_)
    refine walk_seqB 2 [.quiet (.int .i64 ((70 : Nat) : Int)), .quiet (.bool false)] H50 ?ho46 ?he46
    case ho46 => exact ak (fun _ => ⟨rfl, fun _ _ => rfl⟩) (ak (by refine fun γ => ⟨rfl, fun w' h => ?_⟩; clear h; go_simp <;> omega) trivial)
    intro _ w57 H57
    clear H50
    refine rest0 rfl (then_normal (wp_cond_false rfl ?_))
    refine wp_exit ?_
    repeat refine then_exit ?_
    refine block_exit ?_
    refine block_normal (then_normal ?_)
    exact ⟨cr v 70, ⟨(slotfn [undef, undef, undef, PT γ2_0 0, .bool true, .int .i64 ((16 + 54 : Nat) : Int), s2 6, .int .i64 ((17 + 53 : Nat) : Int), .int .i64 ((cy (zz v) 70 : Nat) : Int), .int .i64 ((70 : Nat) : Int), undef, undef, undef, undef, undef, .int .i64 ((16 + 54 : Nat) : Int), .bool false, s2 17, s2 18, s2 19, s2 20, s2 21, s2 22, s2 23, s2 24, s2 25, s2 26, s2 27, s2 28, s2 29, s2 30, s2 31, s2 32, s2 33, s2 34, s2 35, s2 36, s2 37, s2 38, s2 39, s2 40, s2 41, s2 42, s2 43, s2 44, .bool true, .bool false, .int .i64 ((17 + 53 : Nat) : Int), .bool false, s4 49, s4 50, s4 51, s4 52, PT γ1_0 16, .int .i64 (((lo v 53) 16 : Nat) : Int), .int .i64 ((((lo v 53) 16) % 4 : Nat) : Int), PT γ1_0 16, .int .i64 ((70 : Nat) : Int), .bool false, s6 59, s6 60, s6 61, s6 62, s6 63, s6 64, s6 65, s6 66, s6 67, s6 68, s6 69, s6 70, s6 71, s6 72, s6 73, s6 74, s6 75, s6 76]), rfl, ⟨H57.out.1.tail, H57.out.2⟩, ⟨cr_lt hk0.1 70, by rw [fold_turn hk0.1 hbig, fN_mod]; exact hk0.2⟩⟩, by rw [fold_turn hk0.1 hbig]; exact fN_lt hbig⟩
  refine wp_block (wp_seq ?_)
  refine walk_seqA 1 [.made (ints .i64 (fun _ => 0) 70) 90] (sB H2) ?ho47o ?he47o
  case ho47o => exact ak (fun γ => ⟨rfl, fun w' => ex_mk90 rfl⟩) trivial
  intro γ w58 l hM hl
  have H58 : Hid (Mm w58 [(γ 0, ints .i64 (fun _ => 0) 70), (γ1_0, ints .i64 v 70), (γ1_1, ints .i64 (fun _ => 0) 34)] ∧ _) := growB H2 hM (Nat.le_refl _) hl [0] rfl (by decide)
  have o47_0 := ownB H2 hM (Nat.le_refl _) hl (i := 0) rfl
  clear hM hl l H2
  generalize γ 0 = γ47_0 at H58 o47_0 ⊢
  clear γ
  refine rest0 rfl (then_normal (wp_seq ?_))
  refine walk_seqB 1 [.quiet (.bool false)] H58 ?ho48o ?he48o
  case ho48o => exact ak (fun _ => ⟨rfl, fun _ _ => rfl⟩) trivial
  intro _ w59 H59
  clear H58
  refine rest0 rfl (then_normal (wp_seq (wp_seq ?_)))
  refine walk_seqB 1 [.quiet (.int .i64 16)] H59 ?ho49o ?he49o
  case ho49o => exact ak (fun _ => ⟨rfl, fun _ _ => rfl⟩) trivial
  intro _ w60 H60
  clear H59
  refine rest0 rfl (then_normal (wp_block ?_))
  refine loop_ghost (α := Nat) (fun k a' w' => ∃ s2 : Nat → Value, a' = ⟨#[.agg (ints .i64 W 70).toArray, PT γ1_0 0, PT γ1_1 0, PT γ47_0 0, .bool (sm v k), .int .i64 ((16 + k : Nat) : Int), s2 6, s0 7, s0 8, s0 9, undef, undef, undef, undef, undef, s2 15, s2 16, s2 17, s2 18, s2 19, s2 20, s2 21, s2 22, s2 23, s2 24, s2 25, s2 26, s2 27, s2 28, s2 29, s2 30, s2 31, s2 32, s2 33, s2 34, s2 35, s2 36, s2 37, s2 38, s2 39, s2 40, s2 41, s2 42, s2 43, s2 44, s0 45, s0 46, s0 47, s0 48, s0 49, s0 50, s0 51, s0 52, s0 53, s0 54, s0 55, s0 56, s0 57, s0 58, s0 59, s0 60, s0 61, s0 62, s0 63, s0 64, s0 65, s0 66, s0 67, s0 68, s0 69, s0 70, s0 71, s0 72, s0 73, s0 74, s0 75, s0 76, undef, undef, undef, undef, undef, undef, undef, undef, undef, undef, undef, undef, undef, undef, undef, undef, undef, undef, undef, undef, undef, undef, undef, undef, undef, undef, undef, undef, undef, undef, undef, undef, undef, undef, undef, undef], []⟩ ∧ (Mm w' [(γ47_0, ints .i64 (hz v k) 70), (γ1_0, ints .i64 v 70), (γ1_1, ints .i64 (fun _ => 0) 34)] ∧ Below w.heap.size w w') ∧ k ≤ 54) (fun k => 54 - k) 0 ?st2o ?rd2o
  case st2o => exact ⟨(slotfn [undef, undef, undef, undef, undef, undef, s0 6, undef, undef, undef, undef, undef, undef, undef, undef, s0 15, s0 16, s0 17, s0 18, s0 19, s0 20, s0 21, s0 22, s0 23, s0 24, s0 25, s0 26, s0 27, s0 28, s0 29, s0 30, s0 31, s0 32, s0 33, s0 34, s0 35, s0 36, s0 37, s0 38, s0 39, s0 40, s0 41, s0 42, s0 43, s0 44]), rfl, ⟨by rw [hz_zero]; exact H60.out.1, H60.out.2⟩, by omega⟩
  intro k a' w61 hI
  obtain ⟨s2, rfl, hMB, hk2⟩ := hI
  have H61 : Hid (_ ∧ _) := hMB
  clear hMB H60
  by_cases hltk : k < 54
  · have hrd : True := trivial
    clear hrd
    rcases hs : sm v k with _ | _ <;> by_cases h69 : 16 + k + 1 < 70
    · have hrd : True := trivial
      clear hrd
      have b0 := hk0.1 (16 + k)
      have b1 := hk0.1 (16 + k + 1)
      refine wp_seq (wp_seq ?_)
      refine walk_seqB 2 [.quiet (.int .i64 ((16 + k : Nat) : Int)), .quiet (.bool true)] H61 ?ho50o ?he50o
      case ho50o => exact ak (fun _ => ⟨rfl, fun _ _ => rfl⟩) (ak (by refine fun γ => ⟨rfl, fun w' h => ?_⟩; clear h; go_simp <;> omega) trivial)
      intro _ w62 H62
      clear H61
      refine rest0 rfl (then_normal (wp_cond_true rfl ?_))
      refine wp_skip (then_normal ?_)
      refine wp_seq (wp_block (wp_seq ?_))
      refine walk_seqB 1 [.quiet (.int .i64 0)] H62 ?ho51o ?he51o
      case ho51o => exact ak (fun _ => ⟨rfl, fun _ _ => rfl⟩) trivial
      intro _ w63 H63
      clear H62
      refine rest0 rfl (then_normal (wp_seq (wp_seq ?_)))
      refine walk_seqB 3 [.quiet (.int .i64 ((16 + k : Nat) : Int)), .quiet (.int .i64 (((16 + k) + 1 : Nat) : Int)), .quiet (.bool true)] H63 ?ho52o ?he52o
      case ho52o => exact ak (fun _ => ⟨rfl, fun _ _ => rfl⟩) (ak (by refine fun γ => ⟨rfl, fun w' h => ?_⟩; clear h; go_simp; rw [IntKind.wrap_i64]; omega) (ak (by refine fun γ => ⟨rfl, fun w' h => ?_⟩; clear h; go_simp <;> omega) trivial))
      intro _ w64 H64
      clear H63
      refine rest0 rfl (then_normal (wp_cond_true rfl ?_))
      refine walk_seqB 5 [.quiet (.int .i64 ((16 + k : Nat) : Int)), .quiet (.int .i64 (((16 + k) + 1 : Nat) : Int)), .quiet (PT γ1_0 ((16 + k) + 1)), .quiet (.int .i64 ((v ((16 + k) + 1) : Nat) : Int)), .quiet (.int .i64 ((v ((16 + k) + 1) : Nat) : Int))] H64 ?ho53o ?he53o
      case ho53o => exact ak (fun _ => ⟨rfl, fun _ _ => rfl⟩) (ak (by refine fun γ => ⟨rfl, fun w' h => ?_⟩; clear h; go_simp; rw [IntKind.wrap_i64]; omega) (ak (fun γ => ⟨rfl, fun w' _ => ex_ix0_90 (j := (16 + k) + 1) rfl rfl rfl (by omega)⟩) (ak (fun γ => ⟨rfl, fun w' h => ex_loadC h 1 rfl rfl rfl Try.isAgg3 (ints_get _ _ (by omega))⟩) (ak (fun _ => ⟨rfl, fun _ _ => rfl⟩) trivial))))
      intro _ w65 H65
      clear H64
      refine rest0 rfl (then_normal (wp_seq ?_))
      refine walk_seqB 11 [.quiet (.int .i64 ((16 + k : Nat) : Int)), .quiet (.int .i64 (((16 + k) - 16 : Nat) : Int)), .quiet (.int .i64 ((16 + k : Nat) : Int)), .quiet (PT γ1_0 (16 + k)), .quiet (.int .i64 ((v (16 + k) : Nat) : Int)), .quiet (.int .i64 (((v (16 + k)) / 4 : Nat) : Int)), .quiet (.int .i64 ((v ((16 + k) + 1) : Nat) : Int)), .quiet (.int .i64 (((v ((16 + k) + 1)) % 4 : Nat) : Int)), .quiet (.int .i64 ((((v ((16 + k) + 1)) % 4) * 64 : Nat) : Int)), .quiet (.int .i64 ((((v (16 + k)) / 4) + (((v ((16 + k) + 1)) % 4) * 64) : Nat) : Int)), .quiet (PT γ47_0 ((16 + k) - 16))] H65 ?ho54o ?he54o
      case ho54o => exact ak (fun _ => ⟨rfl, fun _ _ => rfl⟩) (ak (by refine fun γ => ⟨rfl, fun w' h => ?_⟩; clear h; go_simp; rw [IntKind.wrap_i64]; omega) (ak (fun _ => ⟨rfl, fun _ _ => rfl⟩) (ak (fun γ => ⟨rfl, fun w' _ => ex_ix0_90 (j := 16 + k) rfl rfl rfl (by omega)⟩) (ak (fun γ => ⟨rfl, fun w' h => ex_loadC h 1 rfl rfl rfl Try.isAgg3 (ints_get _ _ (by omega))⟩) (ak (fun γ => ⟨rfl, fun w' _ => ex_quo3 (a := v (16 + k)) (b := 4) (by omega) (by omega) rfl rfl rfl⟩) (ak (fun _ => ⟨rfl, fun _ _ => rfl⟩) (ak (fun γ => ⟨rfl, fun w' _ => ex_rem3 (a := v ((16 + k) + 1)) (b := 4) (by omega) (by omega) rfl rfl rfl⟩) (ak (by refine fun γ => ⟨rfl, fun w' h => ?_⟩; clear h; go_simp; rw [IntKind.wrap_i64]; omega) (ak (by refine fun γ => ⟨rfl, fun w' h => ?_⟩; clear h; go_simp; rw [IntKind.wrap_i64]; omega) (ak (fun γ => ⟨rfl, fun w' _ => ex_ix0_90 (j := (16 + k) - 16) rfl rfl rfl (by omega)⟩) trivial))))))))))
      intro _ w66 H66
      clear H65
      refine rest_at (l := [11]) rfl ?_
      refine rest_store rfl rfl rfl (ex_storeI H66.out.1 0 rfl rfl Try.sizeOf3 rfl rfl (by rw [ints_len]; omega)) ?_
      have H67 : Hid (Mm (w66.setCells γ47_0 ((16 + k) - 16) ([Value.int .i64 ((((v (16 + k)) / 4) + (((v ((16 + k) + 1)) % 4) * 64) : Nat) : Int)])) [(γ47_0, ints .i64 (hz v (k + 1)) 70), (γ1_0, ints .i64 v 70), (γ1_1, ints .i64 (fun _ => 0) 34)] ∧ Below w.heap.size w (w66.setCells γ47_0 ((16 + k) - 16) ([Value.int .i64 ((((v (16 + k)) / 4) + (((v ((16 + k) + 1)) % 4) * 64) : Nat) : Int)]))) := ⟨by
        have h := H66.out.1.put 0 (off := (16 + k) - 16) (vs := [Value.int .i64 ((((v (16 + k)) / 4) + (((v ((16 + k) + 1)) % 4) * 64) : Nat) : Int)]) rfl (by rw [ints_len]; simp only [List.length_cons, List.length_nil]; omega)
        rw [ints_patch _ _ _ _ (by omega), show ints .i64 (up (hz v k) ((16 + k) - 16) (((v (16 + k)) / 4) + (((v ((16 + k) + 1)) % 4) * 64))) 70 = ints .i64 (hz v (k + 1)) 70 by rw [show (up (hz v k) ((16 + k) - 16) (((v (16 + k)) / 4) + (((v ((16 + k) + 1)) % 4) * 64))) = hz v (k + 1) from hz_set v k _ (by unfold hvv; rw [if_pos h69])]] at h
        exact h, below_setCells _ o47_0.out _ _ _ H66.out.2⟩
      clear H66
      generalize hgw : World.setCells _ _ _ _ = w67 at H67 ⊢
      clear hgw
      refine rest_nil (then_normal ?_)
      refine walk_seqB 8 [.quiet (.bool false), .quiet (.bool false), .quiet (.int .i64 ((16 + k : Nat) : Int)), .quiet (.int .i64 (((16 + k) - 16 : Nat) : Int)), .quiet (PT γ47_0 ((16 + k) - 16)), .quiet (.int .i64 (((hz v (k + 1)) ((16 + k) - 16) : Nat) : Int)), .quiet (.bool (decide (0 < (hz v (k + 1)) ((16 + k) - 16)))), .quiet (.bool (decide (0 < (hz v (k + 1)) ((16 + k) - 16))))] H67 ?ho55o ?he55o
      case ho55o => exact ak (fun _ => ⟨rfl, fun _ _ => rfl⟩) (ak (fun _ => ⟨rfl, fun _ _ => rfl⟩) (ak (fun _ => ⟨rfl, fun _ _ => rfl⟩) (ak (by refine fun γ => ⟨rfl, fun w' h => ?_⟩; clear h; go_simp; rw [IntKind.wrap_i64]; omega) (ak (fun γ => ⟨rfl, fun w' _ => ex_ix0_90 (j := (16 + k) - 16) rfl rfl rfl (by omega)⟩) (ak (fun γ => ⟨rfl, fun w' h => ex_loadC h 0 rfl rfl rfl Try.isAgg3 (ints_get _ _ (by omega))⟩) (ak (fun γ => ⟨rfl, fun w' _ => ex_gtr3 (a := (hz v (k + 1)) ((16 + k) - 16)) (b := 0) rfl rfl rfl⟩) (ak (by refine fun γ => ⟨rfl, fun w' h => ?_⟩; clear h; go_simp) trivial)))))))
      intro _ w68 H68
      clear H67
      refine rest_at (l := [8]) rfl ?_
      refine rest_set (d := 4) rfl rfl rfl rfl ?_
      simp only [Act.put, sa, sz, ss]
      refine rest_nil (block_normal (then_normal ?_))
      refine walk_seqB 2 [.quiet (.int .i64 ((16 + k : Nat) : Int)), .quiet (.int .i64 (((16 + k) + 1 : Nat) : Int))] H68 ?ho56o ?he56o
      case ho56o => exact ak (fun _ => ⟨rfl, fun _ _ => rfl⟩) (ak (by refine fun γ => ⟨rfl, fun w' h => ?_⟩; clear h; go_simp; rw [IntKind.wrap_i64]; omega) trivial)
      intro _ w69 H69
      clear H68
      refine rest_at (l := [2]) rfl ?_
      refine rest_set (d := 5) rfl rfl rfl rfl ?_
      simp only [Act.put, sa, sz, ss]
      refine rest_nil (then_normal ?_)
      have hsn : sm v (k + 1) = decide (0 < hz v (k + 1) (16 + k - 16)) := by
        rw [hz_at]
        show (sm v k || _) = _
        rw [hs]
        rfl
      exact ⟨k + 1, ⟨(slotfn [undef, undef, undef, undef, undef, undef, .int .i64 ((v ((16 + k) + 1) : Nat) : Int), undef, undef, undef, undef, undef, undef, undef, undef, .int .i64 ((16 + k : Nat) : Int), .bool true, .int .i64 ((16 + k : Nat) : Int), .int .i64 (((16 + k) + 1 : Nat) : Int), .int .i64 ((16 + k : Nat) : Int), .int .i64 (((16 + k) + 1 : Nat) : Int), .bool true, .int .i64 ((16 + k : Nat) : Int), .int .i64 (((16 + k) + 1 : Nat) : Int), PT γ1_0 ((16 + k) + 1), .int .i64 ((v ((16 + k) + 1) : Nat) : Int), .int .i64 ((16 + k : Nat) : Int), .int .i64 (((16 + k) - 16 : Nat) : Int), .int .i64 ((16 + k : Nat) : Int), PT γ1_0 (16 + k), .int .i64 ((v (16 + k) : Nat) : Int), .int .i64 (((v (16 + k)) / 4 : Nat) : Int), .int .i64 ((v ((16 + k) + 1) : Nat) : Int), .int .i64 (((v ((16 + k) + 1)) % 4 : Nat) : Int), .int .i64 ((((v ((16 + k) + 1)) % 4) * 64 : Nat) : Int), .int .i64 ((((v (16 + k)) / 4) + (((v ((16 + k) + 1)) % 4) * 64) : Nat) : Int), PT γ47_0 ((16 + k) - 16), .bool false, .bool false, .int .i64 ((16 + k : Nat) : Int), .int .i64 (((16 + k) - 16 : Nat) : Int), PT γ47_0 ((16 + k) - 16), .int .i64 (((hz v (k + 1)) ((16 + k) - 16) : Nat) : Int), .bool (decide (0 < (hz v (k + 1)) ((16 + k) - 16))), .bool (decide (0 < (hz v (k + 1)) ((16 + k) - 16)))]), by rw [hsn]; rfl, ⟨H69.out.1, H69.out.2⟩, by omega⟩, by omega⟩
    · have hrd : True := trivial
      clear hrd
      have b0 := hk0.1 (16 + k)
      have b1 := hk0.1 (16 + k + 1)
      refine wp_seq (wp_seq ?_)
      refine walk_seqB 2 [.quiet (.int .i64 ((16 + k : Nat) : Int)), .quiet (.bool true)] H61 ?ho57o ?he57o
      case ho57o => exact ak (fun _ => ⟨rfl, fun _ _ => rfl⟩) (ak (by refine fun γ => ⟨rfl, fun w' h => ?_⟩; clear h; go_simp <;> omega) trivial)
      intro _ w70 H70
      clear H61
      refine rest0 rfl (then_normal (wp_cond_true rfl ?_))
      refine wp_skip (then_normal ?_)
      refine wp_seq (wp_block (wp_seq ?_))
      refine walk_seqB 1 [.quiet (.int .i64 0)] H70 ?ho58o ?he58o
      case ho58o => exact ak (fun _ => ⟨rfl, fun _ _ => rfl⟩) trivial
      intro _ w71 H71
      clear H70
      refine rest0 rfl (then_normal (wp_seq (wp_seq ?_)))
      refine walk_seqB 3 [.quiet (.int .i64 ((16 + k : Nat) : Int)), .quiet (.int .i64 (((16 + k) + 1 : Nat) : Int)), .quiet (.bool false)] H71 ?ho59o ?he59o
      case ho59o => exact ak (fun _ => ⟨rfl, fun _ _ => rfl⟩) (ak (by refine fun γ => ⟨rfl, fun w' h => ?_⟩; clear h; go_simp; rw [IntKind.wrap_i64]; omega) (ak (by refine fun γ => ⟨rfl, fun w' h => ?_⟩; clear h; go_simp <;> omega) trivial))
      intro _ w72 H72
      clear H71
      refine rest0 rfl (then_normal (wp_cond_false rfl ?_))
      refine wp_skip (then_normal (wp_seq ?_))
      refine walk_seqB 11 [.quiet (.int .i64 ((16 + k : Nat) : Int)), .quiet (.int .i64 (((16 + k) - 16 : Nat) : Int)), .quiet (.int .i64 ((16 + k : Nat) : Int)), .quiet (PT γ1_0 (16 + k)), .quiet (.int .i64 ((v (16 + k) : Nat) : Int)), .quiet (.int .i64 (((v (16 + k)) / 4 : Nat) : Int)), .quiet (.int .i64 0), .quiet (.int .i64 ((0 % 4 : Nat) : Int)), .quiet (.int .i64 (((0 % 4) * 64 : Nat) : Int)), .quiet (.int .i64 ((((v (16 + k)) / 4) + ((0 % 4) * 64) : Nat) : Int)), .quiet (PT γ47_0 ((16 + k) - 16))] H72 ?ho60o ?he60o
      case ho60o => exact ak (fun _ => ⟨rfl, fun _ _ => rfl⟩) (ak (by refine fun γ => ⟨rfl, fun w' h => ?_⟩; clear h; go_simp; rw [IntKind.wrap_i64]; omega) (ak (fun _ => ⟨rfl, fun _ _ => rfl⟩) (ak (fun γ => ⟨rfl, fun w' _ => ex_ix0_90 (j := 16 + k) rfl rfl rfl (by omega)⟩) (ak (fun γ => ⟨rfl, fun w' h => ex_loadC h 1 rfl rfl rfl Try.isAgg3 (ints_get _ _ (by omega))⟩) (ak (fun γ => ⟨rfl, fun w' _ => ex_quo3 (a := v (16 + k)) (b := 4) (by omega) (by omega) rfl rfl rfl⟩) (ak (fun _ => ⟨rfl, fun _ _ => rfl⟩) (ak (fun γ => ⟨rfl, fun w' _ => ex_rem3 (a := 0) (b := 4) (by omega) (by omega) rfl rfl rfl⟩) (ak (by refine fun γ => ⟨rfl, fun w' h => ?_⟩; clear h; go_simp; rw [IntKind.wrap_i64]; omega) (ak (by refine fun γ => ⟨rfl, fun w' h => ?_⟩; clear h; go_simp; rw [IntKind.wrap_i64]; omega) (ak (fun γ => ⟨rfl, fun w' _ => ex_ix0_90 (j := (16 + k) - 16) rfl rfl rfl (by omega)⟩) trivial))))))))))
      intro _ w73 H73
      clear H72
      refine rest_at (l := [11]) rfl ?_
      refine rest_store rfl rfl rfl (ex_storeI H73.out.1 0 rfl rfl Try.sizeOf3 rfl rfl (by rw [ints_len]; omega)) ?_
      have H74 : Hid (Mm (w73.setCells γ47_0 ((16 + k) - 16) ([Value.int .i64 ((((v (16 + k)) / 4) + ((0 % 4) * 64) : Nat) : Int)])) [(γ47_0, ints .i64 (hz v (k + 1)) 70), (γ1_0, ints .i64 v 70), (γ1_1, ints .i64 (fun _ => 0) 34)] ∧ Below w.heap.size w (w73.setCells γ47_0 ((16 + k) - 16) ([Value.int .i64 ((((v (16 + k)) / 4) + ((0 % 4) * 64) : Nat) : Int)]))) := ⟨by
        have h := H73.out.1.put 0 (off := (16 + k) - 16) (vs := [Value.int .i64 ((((v (16 + k)) / 4) + ((0 % 4) * 64) : Nat) : Int)]) rfl (by rw [ints_len]; simp only [List.length_cons, List.length_nil]; omega)
        rw [ints_patch _ _ _ _ (by omega), show ints .i64 (up (hz v k) ((16 + k) - 16) (((v (16 + k)) / 4) + ((0 % 4) * 64))) 70 = ints .i64 (hz v (k + 1)) 70 by rw [show (up (hz v k) ((16 + k) - 16) (((v (16 + k)) / 4) + ((0 % 4) * 64))) = hz v (k + 1) from hz_set v k _ (by unfold hvv; rw [if_neg h69])]] at h
        exact h, below_setCells _ o47_0.out _ _ _ H73.out.2⟩
      clear H73
      generalize hgw : World.setCells _ _ _ _ = w74 at H74 ⊢
      clear hgw
      refine rest_nil (then_normal ?_)
      refine walk_seqB 8 [.quiet (.bool false), .quiet (.bool false), .quiet (.int .i64 ((16 + k : Nat) : Int)), .quiet (.int .i64 (((16 + k) - 16 : Nat) : Int)), .quiet (PT γ47_0 ((16 + k) - 16)), .quiet (.int .i64 (((hz v (k + 1)) ((16 + k) - 16) : Nat) : Int)), .quiet (.bool (decide (0 < (hz v (k + 1)) ((16 + k) - 16)))), .quiet (.bool (decide (0 < (hz v (k + 1)) ((16 + k) - 16))))] H74 ?ho61o ?he61o
      case ho61o => exact ak (fun _ => ⟨rfl, fun _ _ => rfl⟩) (ak (fun _ => ⟨rfl, fun _ _ => rfl⟩) (ak (fun _ => ⟨rfl, fun _ _ => rfl⟩) (ak (by refine fun γ => ⟨rfl, fun w' h => ?_⟩; clear h; go_simp; rw [IntKind.wrap_i64]; omega) (ak (fun γ => ⟨rfl, fun w' _ => ex_ix0_90 (j := (16 + k) - 16) rfl rfl rfl (by omega)⟩) (ak (fun γ => ⟨rfl, fun w' h => ex_loadC h 0 rfl rfl rfl Try.isAgg3 (ints_get _ _ (by omega))⟩) (ak (fun γ => ⟨rfl, fun w' _ => ex_gtr3 (a := (hz v (k + 1)) ((16 + k) - 16)) (b := 0) rfl rfl rfl⟩) (ak (by refine fun γ => ⟨rfl, fun w' h => ?_⟩; clear h; go_simp) trivial)))))))
      intro _ w75 H75
      clear H74
      refine rest_at (l := [8]) rfl ?_
      refine rest_set (d := 4) rfl rfl rfl rfl ?_
      simp only [Act.put, sa, sz, ss]
      refine rest_nil (block_normal (then_normal ?_))
      refine walk_seqB 2 [.quiet (.int .i64 ((16 + k : Nat) : Int)), .quiet (.int .i64 (((16 + k) + 1 : Nat) : Int))] H75 ?ho62o ?he62o
      case ho62o => exact ak (fun _ => ⟨rfl, fun _ _ => rfl⟩) (ak (by refine fun γ => ⟨rfl, fun w' h => ?_⟩; clear h; go_simp; rw [IntKind.wrap_i64]; omega) trivial)
      intro _ w76 H76
      clear H75
      refine rest_at (l := [2]) rfl ?_
      refine rest_set (d := 5) rfl rfl rfl rfl ?_
      simp only [Act.put, sa, sz, ss]
      refine rest_nil (then_normal ?_)
      have hsn : sm v (k + 1) = decide (0 < hz v (k + 1) (16 + k - 16)) := by
        rw [hz_at]
        show (sm v k || _) = _
        rw [hs]
        rfl
      exact ⟨k + 1, ⟨(slotfn [undef, undef, undef, undef, undef, undef, .int .i64 0, undef, undef, undef, undef, undef, undef, undef, undef, .int .i64 ((16 + k : Nat) : Int), .bool true, .int .i64 ((16 + k : Nat) : Int), .int .i64 (((16 + k) + 1 : Nat) : Int), .int .i64 ((16 + k : Nat) : Int), .int .i64 (((16 + k) + 1 : Nat) : Int), .bool false, s2 22, s2 23, s2 24, s2 25, .int .i64 ((16 + k : Nat) : Int), .int .i64 (((16 + k) - 16 : Nat) : Int), .int .i64 ((16 + k : Nat) : Int), PT γ1_0 (16 + k), .int .i64 ((v (16 + k) : Nat) : Int), .int .i64 (((v (16 + k)) / 4 : Nat) : Int), .int .i64 0, .int .i64 ((0 % 4 : Nat) : Int), .int .i64 (((0 % 4) * 64 : Nat) : Int), .int .i64 ((((v (16 + k)) / 4) + ((0 % 4) * 64) : Nat) : Int), PT γ47_0 ((16 + k) - 16), .bool false, .bool false, .int .i64 ((16 + k : Nat) : Int), .int .i64 (((16 + k) - 16 : Nat) : Int), PT γ47_0 ((16 + k) - 16), .int .i64 (((hz v (k + 1)) ((16 + k) - 16) : Nat) : Int), .bool (decide (0 < (hz v (k + 1)) ((16 + k) - 16))), .bool (decide (0 < (hz v (k + 1)) ((16 + k) - 16)))]), by rw [hsn]; rfl, ⟨H76.out.1, H76.out.2⟩, by omega⟩, by omega⟩
    · have hrd : True := trivial
      clear hrd
      have b0 := hk0.1 (16 + k)
      have b1 := hk0.1 (16 + k + 1)
      refine wp_seq (wp_seq ?_)
      refine walk_seqB 2 [.quiet (.int .i64 ((16 + k : Nat) : Int)), .quiet (.bool true)] H61 ?ho63o ?he63o
      case ho63o => exact ak (fun _ => ⟨rfl, fun _ _ => rfl⟩) (ak (by refine fun γ => ⟨rfl, fun w' h => ?_⟩; clear h; go_simp <;> omega) trivial)
      intro _ w77 H77
      clear H61
      refine rest0 rfl (then_normal (wp_cond_true rfl ?_))
      refine wp_skip (then_normal ?_)
      refine wp_seq (wp_block (wp_seq ?_))
      refine walk_seqB 1 [.quiet (.int .i64 0)] H77 ?ho64o ?he64o
      case ho64o => exact ak (fun _ => ⟨rfl, fun _ _ => rfl⟩) trivial
      intro _ w78 H78
      clear H77
      refine rest0 rfl (then_normal (wp_seq (wp_seq ?_)))
      refine walk_seqB 3 [.quiet (.int .i64 ((16 + k : Nat) : Int)), .quiet (.int .i64 (((16 + k) + 1 : Nat) : Int)), .quiet (.bool true)] H78 ?ho65o ?he65o
      case ho65o => exact ak (fun _ => ⟨rfl, fun _ _ => rfl⟩) (ak (by refine fun γ => ⟨rfl, fun w' h => ?_⟩; clear h; go_simp; rw [IntKind.wrap_i64]; omega) (ak (by refine fun γ => ⟨rfl, fun w' h => ?_⟩; clear h; go_simp <;> omega) trivial))
      intro _ w79 H79
      clear H78
      refine rest0 rfl (then_normal (wp_cond_true rfl ?_))
      refine walk_seqB 5 [.quiet (.int .i64 ((16 + k : Nat) : Int)), .quiet (.int .i64 (((16 + k) + 1 : Nat) : Int)), .quiet (PT γ1_0 ((16 + k) + 1)), .quiet (.int .i64 ((v ((16 + k) + 1) : Nat) : Int)), .quiet (.int .i64 ((v ((16 + k) + 1) : Nat) : Int))] H79 ?ho66o ?he66o
      case ho66o => exact ak (fun _ => ⟨rfl, fun _ _ => rfl⟩) (ak (by refine fun γ => ⟨rfl, fun w' h => ?_⟩; clear h; go_simp; rw [IntKind.wrap_i64]; omega) (ak (fun γ => ⟨rfl, fun w' _ => ex_ix0_90 (j := (16 + k) + 1) rfl rfl rfl (by omega)⟩) (ak (fun γ => ⟨rfl, fun w' h => ex_loadC h 1 rfl rfl rfl Try.isAgg3 (ints_get _ _ (by omega))⟩) (ak (fun _ => ⟨rfl, fun _ _ => rfl⟩) trivial))))
      intro _ w80 H80
      clear H79
      refine rest0 rfl (then_normal (wp_seq ?_))
      refine walk_seqB 11 [.quiet (.int .i64 ((16 + k : Nat) : Int)), .quiet (.int .i64 (((16 + k) - 16 : Nat) : Int)), .quiet (.int .i64 ((16 + k : Nat) : Int)), .quiet (PT γ1_0 (16 + k)), .quiet (.int .i64 ((v (16 + k) : Nat) : Int)), .quiet (.int .i64 (((v (16 + k)) / 4 : Nat) : Int)), .quiet (.int .i64 ((v ((16 + k) + 1) : Nat) : Int)), .quiet (.int .i64 (((v ((16 + k) + 1)) % 4 : Nat) : Int)), .quiet (.int .i64 ((((v ((16 + k) + 1)) % 4) * 64 : Nat) : Int)), .quiet (.int .i64 ((((v (16 + k)) / 4) + (((v ((16 + k) + 1)) % 4) * 64) : Nat) : Int)), .quiet (PT γ47_0 ((16 + k) - 16))] H80 ?ho67o ?he67o
      case ho67o => exact ak (fun _ => ⟨rfl, fun _ _ => rfl⟩) (ak (by refine fun γ => ⟨rfl, fun w' h => ?_⟩; clear h; go_simp; rw [IntKind.wrap_i64]; omega) (ak (fun _ => ⟨rfl, fun _ _ => rfl⟩) (ak (fun γ => ⟨rfl, fun w' _ => ex_ix0_90 (j := 16 + k) rfl rfl rfl (by omega)⟩) (ak (fun γ => ⟨rfl, fun w' h => ex_loadC h 1 rfl rfl rfl Try.isAgg3 (ints_get _ _ (by omega))⟩) (ak (fun γ => ⟨rfl, fun w' _ => ex_quo3 (a := v (16 + k)) (b := 4) (by omega) (by omega) rfl rfl rfl⟩) (ak (fun _ => ⟨rfl, fun _ _ => rfl⟩) (ak (fun γ => ⟨rfl, fun w' _ => ex_rem3 (a := v ((16 + k) + 1)) (b := 4) (by omega) (by omega) rfl rfl rfl⟩) (ak (by refine fun γ => ⟨rfl, fun w' h => ?_⟩; clear h; go_simp; rw [IntKind.wrap_i64]; omega) (ak (by refine fun γ => ⟨rfl, fun w' h => ?_⟩; clear h; go_simp; rw [IntKind.wrap_i64]; omega) (ak (fun γ => ⟨rfl, fun w' _ => ex_ix0_90 (j := (16 + k) - 16) rfl rfl rfl (by omega)⟩) trivial))))))))))
      intro _ w81 H81
      clear H80
      refine rest_at (l := [11]) rfl ?_
      refine rest_store rfl rfl rfl (ex_storeI H81.out.1 0 rfl rfl Try.sizeOf3 rfl rfl (by rw [ints_len]; omega)) ?_
      have H82 : Hid (Mm (w81.setCells γ47_0 ((16 + k) - 16) ([Value.int .i64 ((((v (16 + k)) / 4) + (((v ((16 + k) + 1)) % 4) * 64) : Nat) : Int)])) [(γ47_0, ints .i64 (hz v (k + 1)) 70), (γ1_0, ints .i64 v 70), (γ1_1, ints .i64 (fun _ => 0) 34)] ∧ Below w.heap.size w (w81.setCells γ47_0 ((16 + k) - 16) ([Value.int .i64 ((((v (16 + k)) / 4) + (((v ((16 + k) + 1)) % 4) * 64) : Nat) : Int)]))) := ⟨by
        have h := H81.out.1.put 0 (off := (16 + k) - 16) (vs := [Value.int .i64 ((((v (16 + k)) / 4) + (((v ((16 + k) + 1)) % 4) * 64) : Nat) : Int)]) rfl (by rw [ints_len]; simp only [List.length_cons, List.length_nil]; omega)
        rw [ints_patch _ _ _ _ (by omega), show ints .i64 (up (hz v k) ((16 + k) - 16) (((v (16 + k)) / 4) + (((v ((16 + k) + 1)) % 4) * 64))) 70 = ints .i64 (hz v (k + 1)) 70 by rw [show (up (hz v k) ((16 + k) - 16) (((v (16 + k)) / 4) + (((v ((16 + k) + 1)) % 4) * 64))) = hz v (k + 1) from hz_set v k _ (by unfold hvv; rw [if_pos h69])]] at h
        exact h, below_setCells _ o47_0.out _ _ _ H81.out.2⟩
      clear H81
      generalize hgw : World.setCells _ _ _ _ = w82 at H82 ⊢
      clear hgw
      refine rest_nil (then_normal ?_)
      refine walk_seqB 8 [.quiet (.bool true), .quiet (.bool true), .gone, .gone, .gone, .gone, .gone, .quiet (.bool true)] H82 ?ho68o ?he68o
      case ho68o => exact ak (fun _ => ⟨rfl, fun _ _ => rfl⟩) (ak (fun _ => ⟨rfl, fun _ _ => rfl⟩) (ak (fun γ => rfl) (ak (fun γ => rfl) (ak (fun γ => rfl) (ak (fun γ => rfl) (ak (fun γ => rfl) (ak (by refine fun γ => ⟨rfl, fun w' h => ?_⟩; clear h; go_simp) trivial)))))))
      intro _ w83 H83
      clear H82
      refine rest_at (l := [8]) rfl ?_
      refine rest_set (d := 4) rfl rfl rfl rfl ?_
      simp only [Act.put, sa, sz, ss]
      refine rest_nil (block_normal (then_normal ?_))
      refine walk_seqB 2 [.quiet (.int .i64 ((16 + k : Nat) : Int)), .quiet (.int .i64 (((16 + k) + 1 : Nat) : Int))] H83 ?ho69o ?he69o
      case ho69o => exact ak (fun _ => ⟨rfl, fun _ _ => rfl⟩) (ak (by refine fun γ => ⟨rfl, fun w' h => ?_⟩; clear h; go_simp; rw [IntKind.wrap_i64]; omega) trivial)
      intro _ w84 H84
      clear H83
      refine rest_at (l := [2]) rfl ?_
      refine rest_set (d := 5) rfl rfl rfl rfl ?_
      simp only [Act.put, sa, sz, ss]
      refine rest_nil (then_normal ?_)
      have hsn : sm v (k + 1) = true := by
        show (sm v k || _) = _
        rw [hs]
        rfl
      exact ⟨k + 1, ⟨(slotfn [undef, undef, undef, undef, undef, undef, .int .i64 ((v ((16 + k) + 1) : Nat) : Int), undef, undef, undef, undef, undef, undef, undef, undef, .int .i64 ((16 + k : Nat) : Int), .bool true, .int .i64 ((16 + k : Nat) : Int), .int .i64 (((16 + k) + 1 : Nat) : Int), .int .i64 ((16 + k : Nat) : Int), .int .i64 (((16 + k) + 1 : Nat) : Int), .bool true, .int .i64 ((16 + k : Nat) : Int), .int .i64 (((16 + k) + 1 : Nat) : Int), PT γ1_0 ((16 + k) + 1), .int .i64 ((v ((16 + k) + 1) : Nat) : Int), .int .i64 ((16 + k : Nat) : Int), .int .i64 (((16 + k) - 16 : Nat) : Int), .int .i64 ((16 + k : Nat) : Int), PT γ1_0 (16 + k), .int .i64 ((v (16 + k) : Nat) : Int), .int .i64 (((v (16 + k)) / 4 : Nat) : Int), .int .i64 ((v ((16 + k) + 1) : Nat) : Int), .int .i64 (((v ((16 + k) + 1)) % 4 : Nat) : Int), .int .i64 ((((v ((16 + k) + 1)) % 4) * 64 : Nat) : Int), .int .i64 ((((v (16 + k)) / 4) + (((v ((16 + k) + 1)) % 4) * 64) : Nat) : Int), PT γ47_0 ((16 + k) - 16), .bool true, .bool true, undef, undef, undef, undef, undef, .bool true]), by rw [hsn]; rfl, ⟨H84.out.1, H84.out.2⟩, by omega⟩, by omega⟩
    · have hrd : True := trivial
      clear hrd
      have b0 := hk0.1 (16 + k)
      have b1 := hk0.1 (16 + k + 1)
      refine wp_seq (wp_seq ?_)
      refine walk_seqB 2 [.quiet (.int .i64 ((16 + k : Nat) : Int)), .quiet (.bool true)] H61 ?ho70o ?he70o
      case ho70o => exact ak (fun _ => ⟨rfl, fun _ _ => rfl⟩) (ak (by refine fun γ => ⟨rfl, fun w' h => ?_⟩; clear h; go_simp <;> omega) trivial)
      intro _ w85 H85
      clear H61
      refine rest0 rfl (then_normal (wp_cond_true rfl ?_))
      refine wp_skip (then_normal ?_)
      refine wp_seq (wp_block (wp_seq ?_))
      refine walk_seqB 1 [.quiet (.int .i64 0)] H85 ?ho71o ?he71o
      case ho71o => exact ak (fun _ => ⟨rfl, fun _ _ => rfl⟩) trivial
      intro _ w86 H86
      clear H85
      refine rest0 rfl (then_normal (wp_seq (wp_seq ?_)))
      refine walk_seqB 3 [.quiet (.int .i64 ((16 + k : Nat) : Int)), .quiet (.int .i64 (((16 + k) + 1 : Nat) : Int)), .quiet (.bool false)] H86 ?ho72o ?he72o
      case ho72o => exact ak (fun _ => ⟨rfl, fun _ _ => rfl⟩) (ak (by refine fun γ => ⟨rfl, fun w' h => ?_⟩; clear h; go_simp; rw [IntKind.wrap_i64]; omega) (ak (by refine fun γ => ⟨rfl, fun w' h => ?_⟩; clear h; go_simp <;> omega) trivial))
      intro _ w87 H87
      clear H86
      refine rest0 rfl (then_normal (wp_cond_false rfl ?_))
      refine wp_skip (then_normal (wp_seq ?_))
      refine walk_seqB 11 [.quiet (.int .i64 ((16 + k : Nat) : Int)), .quiet (.int .i64 (((16 + k) - 16 : Nat) : Int)), .quiet (.int .i64 ((16 + k : Nat) : Int)), .quiet (PT γ1_0 (16 + k)), .quiet (.int .i64 ((v (16 + k) : Nat) : Int)), .quiet (.int .i64 (((v (16 + k)) / 4 : Nat) : Int)), .quiet (.int .i64 0), .quiet (.int .i64 ((0 % 4 : Nat) : Int)), .quiet (.int .i64 (((0 % 4) * 64 : Nat) : Int)), .quiet (.int .i64 ((((v (16 + k)) / 4) + ((0 % 4) * 64) : Nat) : Int)), .quiet (PT γ47_0 ((16 + k) - 16))] H87 ?ho73o ?he73o
      case ho73o => exact ak (fun _ => ⟨rfl, fun _ _ => rfl⟩) (ak (by refine fun γ => ⟨rfl, fun w' h => ?_⟩; clear h; go_simp; rw [IntKind.wrap_i64]; omega) (ak (fun _ => ⟨rfl, fun _ _ => rfl⟩) (ak (fun γ => ⟨rfl, fun w' _ => ex_ix0_90 (j := 16 + k) rfl rfl rfl (by omega)⟩) (ak (fun γ => ⟨rfl, fun w' h => ex_loadC h 1 rfl rfl rfl Try.isAgg3 (ints_get _ _ (by omega))⟩) (ak (fun γ => ⟨rfl, fun w' _ => ex_quo3 (a := v (16 + k)) (b := 4) (by omega) (by omega) rfl rfl rfl⟩) (ak (fun _ => ⟨rfl, fun _ _ => rfl⟩) (ak (fun γ => ⟨rfl, fun w' _ => ex_rem3 (a := 0) (b := 4) (by omega) (by omega) rfl rfl rfl⟩) (ak (by refine fun γ => ⟨rfl, fun w' h => ?_⟩; clear h; go_simp; rw [IntKind.wrap_i64]; omega) (ak (by refine fun γ => ⟨rfl, fun w' h => ?_⟩; clear h; go_simp; rw [IntKind.wrap_i64]; omega) (ak (fun γ => ⟨rfl, fun w' _ => ex_ix0_90 (j := (16 + k) - 16) rfl rfl rfl (by omega)⟩) trivial))))))))))
      intro _ w88 H88
      clear H87
      refine rest_at (l := [11]) rfl ?_
      refine rest_store rfl rfl rfl (ex_storeI H88.out.1 0 rfl rfl Try.sizeOf3 rfl rfl (by rw [ints_len]; omega)) ?_
      have H89 : Hid (Mm (w88.setCells γ47_0 ((16 + k) - 16) ([Value.int .i64 ((((v (16 + k)) / 4) + ((0 % 4) * 64) : Nat) : Int)])) [(γ47_0, ints .i64 (hz v (k + 1)) 70), (γ1_0, ints .i64 v 70), (γ1_1, ints .i64 (fun _ => 0) 34)] ∧ Below w.heap.size w (w88.setCells γ47_0 ((16 + k) - 16) ([Value.int .i64 ((((v (16 + k)) / 4) + ((0 % 4) * 64) : Nat) : Int)]))) := ⟨by
        have h := H88.out.1.put 0 (off := (16 + k) - 16) (vs := [Value.int .i64 ((((v (16 + k)) / 4) + ((0 % 4) * 64) : Nat) : Int)]) rfl (by rw [ints_len]; simp only [List.length_cons, List.length_nil]; omega)
        rw [ints_patch _ _ _ _ (by omega), show ints .i64 (up (hz v k) ((16 + k) - 16) (((v (16 + k)) / 4) + ((0 % 4) * 64))) 70 = ints .i64 (hz v (k + 1)) 70 by rw [show (up (hz v k) ((16 + k) - 16) (((v (16 + k)) / 4) + ((0 % 4) * 64))) = hz v (k + 1) from hz_set v k _ (by unfold hvv; rw [if_neg h69])]] at h
        exact h, below_setCells _ o47_0.out _ _ _ H88.out.2⟩
      clear H88
      generalize hgw : World.setCells _ _ _ _ = w89 at H89 ⊢
      clear hgw
      refine rest_nil (then_normal ?_)
      refine walk_seqB 8 [.quiet (.bool true), .quiet (.bool true), .gone, .gone, .gone, .gone, .gone, .quiet (.bool true)] H89 ?ho74o ?he74o
      case ho74o => exact ak (fun _ => ⟨rfl, fun _ _ => rfl⟩) (ak (fun _ => ⟨rfl, fun _ _ => rfl⟩) (ak (fun γ => rfl) (ak (fun γ => rfl) (ak (fun γ => rfl) (ak (fun γ => rfl) (ak (fun γ => rfl) (ak (by refine fun γ => ⟨rfl, fun w' h => ?_⟩; clear h; go_simp) trivial)))))))
      intro _ w90 H90
      clear H89
      refine rest_at (l := [8]) rfl ?_
      refine rest_set (d := 4) rfl rfl rfl rfl ?_
      simp only [Act.put, sa, sz, ss]
      refine rest_nil (block_normal (then_normal ?_))
      refine walk_seqB 2 [.quiet (.int .i64 ((16 + k : Nat) : Int)), .quiet (.int .i64 (((16 + k) + 1 : Nat) : Int))] H90 ?ho75o ?he75o
      case ho75o => exact ak (fun _ => ⟨rfl, fun _ _ => rfl⟩) (ak (by refine fun γ => ⟨rfl, fun w' h => ?_⟩; clear h; go_simp; rw [IntKind.wrap_i64]; omega) trivial)
      intro _ w91 H91
      clear H90
      refine rest_at (l := [2]) rfl ?_
      refine rest_set (d := 5) rfl rfl rfl rfl ?_
      simp only [Act.put, sa, sz, ss]
      refine rest_nil (then_normal ?_)
      have hsn : sm v (k + 1) = true := by
        show (sm v k || _) = _
        rw [hs]
        rfl
      exact ⟨k + 1, ⟨(slotfn [undef, undef, undef, undef, undef, undef, .int .i64 0, undef, undef, undef, undef, undef, undef, undef, undef, .int .i64 ((16 + k : Nat) : Int), .bool true, .int .i64 ((16 + k : Nat) : Int), .int .i64 (((16 + k) + 1 : Nat) : Int), .int .i64 ((16 + k : Nat) : Int), .int .i64 (((16 + k) + 1 : Nat) : Int), .bool false, s2 22, s2 23, s2 24, s2 25, .int .i64 ((16 + k : Nat) : Int), .int .i64 (((16 + k) - 16 : Nat) : Int), .int .i64 ((16 + k : Nat) : Int), PT γ1_0 (16 + k), .int .i64 ((v (16 + k) : Nat) : Int), .int .i64 (((v (16 + k)) / 4 : Nat) : Int), .int .i64 0, .int .i64 ((0 % 4 : Nat) : Int), .int .i64 (((0 % 4) * 64 : Nat) : Int), .int .i64 ((((v (16 + k)) / 4) + ((0 % 4) * 64) : Nat) : Int), PT γ47_0 ((16 + k) - 16), .bool true, .bool true, undef, undef, undef, undef, undef, .bool true]), by rw [hsn]; rfl, ⟨H91.out.1, H91.out.2⟩, by omega⟩, by omega⟩
  have hkN : k = 54 := by omega
  subst hkN
  rw [sm_no hk0.1 hbig]
  refine wp_seq (wp_seq ?_)
  refine walk_seqB 2 [.quiet (.int .i64 ((16 + 54 : Nat) : Int)), .quiet (.bool false)] H61 ?ho76o ?he76o
  case ho76o => exact ak (fun _ => ⟨rfl, fun _ _ => rfl⟩) (ak (by refine fun γ => ⟨rfl, fun w' h => ?_⟩; clear h; go_simp <;> omega) trivial)
  intro _ w92 H92
  clear H61
  refine rest0 rfl (then_normal (wp_cond_false rfl ?_))
  refine wp_exit ?_
  repeat refine then_exit ?_
  refine block_exit ?_
  refine then_normal (wp_seq (wp_seq ?_))
  refine walk_seqB 2 [.quiet (.bool false), .quiet (.bool true)] H92 ?ho77o ?he77o
  case ho77o => exact ak (fun _ => ⟨rfl, fun _ _ => rfl⟩) (ak (by refine fun γ => ⟨rfl, fun w' h => ?_⟩; clear h; go_simp) trivial)
  intro _ w93 H93
  clear H92
  refine rest0 rfl (then_normal (wp_cond_true rfl ?_))
  refine wp_exit ?_
  repeat refine then_exit ?_
  refine block_past (by decide) ?_
  repeat refine then_exit ?_
  refine block_exit ?_
  refine then_normal (wp_seq ?_)
  refine walk_seqB 4 [.quiet (PT γ1_0 16), .quiet (.int .i64 ((v 16 : Nat) : Int)), .quiet (.bool (decide (v 16 = 3))), .quiet (.bool (decide (v 16 = 3)))] H93 ?ho78o ?he78o
  case ho78o => exact ak (fun γ => ⟨rfl, fun w' _ => ex_ix0_90 (j := 16) rfl rfl rfl (by decide)⟩) (ak (fun γ => ⟨rfl, fun w' h => ex_loadC h 1 rfl rfl rfl Try.isAgg3 (ints_get _ _ (by decide))⟩) (ak (fun γ => ⟨rfl, fun w' _ => ex_eql3 (a := v 16) (b := 3) rfl rfl rfl⟩) (ak (fun _ => ⟨rfl, fun _ _ => rfl⟩) trivial)))
  intro _ w94 H94
  clear H93
  refine rest0 rfl (then_normal (wp_seq (wp_seq ?_)))
  refine walk_seqB 1 [.quiet (.int .i64 1)] H94 ?ho79o ?he79o
  case ho79o => exact ak (fun _ => ⟨rfl, fun _ _ => rfl⟩) trivial
  intro _ w95 H95
  clear H94
  refine rest0 rfl (then_normal (wp_block ?_))
  refine loop_ghost (α := Nat) (fun k a' w' => ∃ s8 : Nat → Value, a' = ⟨#[.agg (ints .i64 W 70).toArray, PT γ1_0 0, PT γ1_1 0, PT γ47_0 0, .bool false, .int .i64 ((16 + 54 : Nat) : Int), s2 6, s0 7, s0 8, s0 9, .bool (fl v k), .int .i64 ((1 + k : Nat) : Int), undef, undef, undef, .int .i64 ((16 + 54 : Nat) : Int), .bool false, s2 17, s2 18, s2 19, s2 20, s2 21, s2 22, s2 23, s2 24, s2 25, s2 26, s2 27, s2 28, s2 29, s2 30, s2 31, s2 32, s2 33, s2 34, s2 35, s2 36, s2 37, s2 38, s2 39, s2 40, s2 41, s2 42, s2 43, s2 44, .bool false, .bool true, s0 47, s0 48, s0 49, s0 50, s0 51, s0 52, s0 53, s0 54, s0 55, s0 56, s0 57, s0 58, s0 59, s0 60, s0 61, s0 62, s0 63, s0 64, s0 65, s0 66, s0 67, s0 68, s0 69, s0 70, s0 71, s0 72, s0 73, s0 74, s0 75, s0 76, PT γ1_0 16, .int .i64 ((v 16 : Nat) : Int), .bool (decide (v 16 = 3)), s8 80, s8 81, s8 82, s8 83, s8 84, s8 85, s8 86, s8 87, s8 88, s8 89, s8 90, undef, undef, undef, undef, undef, undef, undef, undef, undef, undef, undef, undef, undef, undef, undef, undef, undef, undef, undef, undef, undef, undef], []⟩ ∧ (Mm w' [(γ47_0, ints .i64 (hz v 54) 70), (γ1_0, ints .i64 v 70), (γ1_1, ints .i64 (fun _ => 0) 34)] ∧ Below w.heap.size w w') ∧ k ≤ 15) (fun k => 15 - k) 0 ?st8o ?rd8o
  case st8o => exact ⟨(slotfn [undef, undef, undef, undef, undef, undef, undef, undef, undef, undef, undef, undef, undef, undef, undef, undef, undef, undef, undef, undef, undef, undef, undef, undef, undef, undef, undef, undef, undef, undef, undef, undef, undef, undef, undef, undef, undef, undef, undef, undef, undef, undef, undef, undef, undef, undef, undef, undef, undef, undef, undef, undef, undef, undef, undef, undef, undef, undef, undef, undef, undef, undef, undef, undef, undef, undef, undef, undef, undef, undef, undef, undef, undef, undef, undef, undef, undef, undef, undef, undef, undef, undef, undef, undef, undef, undef, undef, undef, undef, undef, undef]), rfl, ⟨H95.out.1, H95.out.2⟩, by omega⟩
  intro k a' w96 hI
  obtain ⟨s8, rfl, hMB, hk8⟩ := hI
  have H96 : Hid (_ ∧ _) := hMB
  clear hMB H95
  by_cases hltk : k < 15
  · have hrd : True := trivial
    clear hrd
    rcases hs : fl v k with _ | _
    · have hrd : True := trivial
      clear hrd
      refine wp_seq (wp_seq ?_)
      refine walk_seqB 2 [.quiet (.int .i64 ((1 + k : Nat) : Int)), .quiet (.bool true)] H96 ?ho80o ?he80o
      case ho80o => exact ak (fun _ => ⟨rfl, fun _ _ => rfl⟩) (ak (by refine fun γ => ⟨rfl, fun w' h => ?_⟩; clear h; go_simp <;> omega) trivial)
      intro _ w97 H97
      clear H96
      refine rest0 rfl (then_normal (wp_cond_true rfl ?_))
      refine wp_skip (then_normal ?_)
      refine wp_seq (wp_block ?_)
      refine walk_seqB 7 [.quiet (.bool false), .quiet (.bool false), .gone, .gone, .gone, .gone, .quiet (.bool false)] H97 ?ho81o ?he81o
      case ho81o => exact ak (fun _ => ⟨rfl, fun _ _ => rfl⟩) (ak (fun _ => ⟨rfl, fun _ _ => rfl⟩) (ak (fun γ => rfl) (ak (fun γ => rfl) (ak (fun γ => rfl) (ak (fun γ => rfl) (ak (by refine fun γ => ⟨rfl, fun w' h => ?_⟩; clear h; go_simp) trivial))))))
      intro _ w98 H98
      clear H97
      refine rest_at (l := [7]) rfl ?_
      refine rest_set (d := 10) rfl rfl rfl rfl ?_
      simp only [Act.put, sa, sz, ss]
      refine rest_nil (block_normal (then_normal ?_))
      refine walk_seqB 2 [.quiet (.int .i64 ((1 + k : Nat) : Int)), .quiet (.int .i64 (((1 + k) + 1 : Nat) : Int))] H98 ?ho82o ?he82o
      case ho82o => exact ak (fun _ => ⟨rfl, fun _ _ => rfl⟩) (ak (by refine fun γ => ⟨rfl, fun w' h => ?_⟩; clear h; go_simp; rw [IntKind.wrap_i64]; omega) trivial)
      intro _ w99 H99
      clear H98
      refine rest_at (l := [2]) rfl ?_
      refine rest_set (d := 11) rfl rfl rfl rfl ?_
      simp only [Act.put, sa, sz, ss]
      refine rest_nil (then_normal ?_)
      have hsn : fl v (k + 1) = false := by
        show (fl v k && _) = _
        rw [hs]
        rfl
      exact ⟨k + 1, ⟨(slotfn [undef, undef, undef, undef, undef, undef, undef, undef, undef, undef, undef, undef, undef, undef, undef, undef, undef, undef, undef, undef, undef, undef, undef, undef, undef, undef, undef, undef, undef, undef, undef, undef, undef, undef, undef, undef, undef, undef, undef, undef, undef, undef, undef, undef, undef, undef, undef, undef, undef, undef, undef, undef, undef, undef, undef, undef, undef, undef, undef, undef, undef, undef, undef, undef, undef, undef, undef, undef, undef, undef, undef, undef, undef, undef, undef, undef, undef, undef, undef, undef, .int .i64 ((1 + k : Nat) : Int), .bool true, .int .i64 ((1 + k : Nat) : Int), .int .i64 (((1 + k) + 1 : Nat) : Int), .bool false, .bool false, undef, undef, undef, undef, .bool false]), by rw [hsn]; rfl, ⟨H99.out.1, H99.out.2⟩, by omega⟩, by omega⟩
    · have hrd : True := trivial
      clear hrd
      refine wp_seq (wp_seq ?_)
      refine walk_seqB 2 [.quiet (.int .i64 ((1 + k : Nat) : Int)), .quiet (.bool true)] H96 ?ho83o ?he83o
      case ho83o => exact ak (fun _ => ⟨rfl, fun _ _ => rfl⟩) (ak (by refine fun γ => ⟨rfl, fun w' h => ?_⟩; clear h; go_simp <;> omega) trivial)
      intro _ w100 H100
      clear H96
      refine rest0 rfl (then_normal (wp_cond_true rfl ?_))
      refine wp_skip (then_normal ?_)
      refine wp_seq (wp_block ?_)
      refine walk_seqB 7 [.quiet (.bool true), .quiet (.bool true), .quiet (.int .i64 ((1 + k : Nat) : Int)), .quiet (PT γ1_0 (1 + k)), .quiet (.int .i64 ((v (1 + k) : Nat) : Int)), .quiet (.bool (decide (v (1 + k) = 255))), .quiet (.bool (decide (v (1 + k) = 255)))] H100 ?ho84o ?he84o
      case ho84o => exact ak (fun _ => ⟨rfl, fun _ _ => rfl⟩) (ak (fun _ => ⟨rfl, fun _ _ => rfl⟩) (ak (fun _ => ⟨rfl, fun _ _ => rfl⟩) (ak (fun γ => ⟨rfl, fun w' _ => ex_ix0_90 (j := 1 + k) rfl rfl rfl (by omega)⟩) (ak (fun γ => ⟨rfl, fun w' h => ex_loadC h 1 rfl rfl rfl Try.isAgg3 (ints_get _ _ (by omega))⟩) (ak (fun γ => ⟨rfl, fun w' _ => ex_eql3 (a := v (1 + k)) (b := 255) rfl rfl rfl⟩) (ak (by refine fun γ => ⟨rfl, fun w' h => ?_⟩; clear h; go_simp) trivial))))))
      intro _ w101 H101
      clear H100
      refine rest_at (l := [7]) rfl ?_
      refine rest_set (d := 10) rfl rfl rfl rfl ?_
      simp only [Act.put, sa, sz, ss]
      refine rest_nil (block_normal (then_normal ?_))
      refine walk_seqB 2 [.quiet (.int .i64 ((1 + k : Nat) : Int)), .quiet (.int .i64 (((1 + k) + 1 : Nat) : Int))] H101 ?ho85o ?he85o
      case ho85o => exact ak (fun _ => ⟨rfl, fun _ _ => rfl⟩) (ak (by refine fun γ => ⟨rfl, fun w' h => ?_⟩; clear h; go_simp; rw [IntKind.wrap_i64]; omega) trivial)
      intro _ w102 H102
      clear H101
      refine rest_at (l := [2]) rfl ?_
      refine rest_set (d := 11) rfl rfl rfl rfl ?_
      simp only [Act.put, sa, sz, ss]
      refine rest_nil (then_normal ?_)
      have hsn : fl v (k + 1) = decide (v (1 + k) = 255) := by
        show (fl v k && _) = _
        rw [hs]
        rfl
      exact ⟨k + 1, ⟨(slotfn [undef, undef, undef, undef, undef, undef, undef, undef, undef, undef, undef, undef, undef, undef, undef, undef, undef, undef, undef, undef, undef, undef, undef, undef, undef, undef, undef, undef, undef, undef, undef, undef, undef, undef, undef, undef, undef, undef, undef, undef, undef, undef, undef, undef, undef, undef, undef, undef, undef, undef, undef, undef, undef, undef, undef, undef, undef, undef, undef, undef, undef, undef, undef, undef, undef, undef, undef, undef, undef, undef, undef, undef, undef, undef, undef, undef, undef, undef, undef, undef, .int .i64 ((1 + k : Nat) : Int), .bool true, .int .i64 ((1 + k : Nat) : Int), .int .i64 (((1 + k) + 1 : Nat) : Int), .bool true, .bool true, .int .i64 ((1 + k : Nat) : Int), PT γ1_0 (1 + k), .int .i64 ((v (1 + k) : Nat) : Int), .bool (decide (v (1 + k) = 255)), .bool (decide (v (1 + k) = 255))]), by rw [hsn]; rfl, ⟨H102.out.1, H102.out.2⟩, by omega⟩, by omega⟩
  have hkN : k = 15 := by omega
  subst hkN
  rcases hf : fl v 15 with _ | _; rotate_left; by_cases h0 : 251 ≤ v 0
  · have hv0 := hk0.1 0
    refine wp_seq (wp_seq ?_)
    refine walk_seqB 2 [.quiet (.int .i64 ((1 + 15 : Nat) : Int)), .quiet (.bool false)] H96 ?ho86f0 ?he86f0
    case ho86f0 => exact ak (fun _ => ⟨rfl, fun _ _ => rfl⟩) (ak (by refine fun γ => ⟨rfl, fun w' h => ?_⟩; clear h; go_simp <;> omega) trivial)
    intro _ w103 H103
    clear H96
    refine rest0 rfl (then_normal (wp_cond_false rfl ?_))
    refine wp_exit ?_
    repeat refine then_exit ?_
    refine block_exit ?_
    refine then_normal (wp_seq (wp_seq ?_))
    refine walk_seqB 6 [.quiet (.bool true), .quiet (.bool true), .quiet (PT γ1_0 0), .quiet (.int .i64 ((v 0 : Nat) : Int)), .quiet (.bool true), .quiet (.bool true)] H103 ?ho87f0 ?he87f0
    case ho87f0 => exact ak (fun _ => ⟨rfl, fun _ _ => rfl⟩) (ak (fun _ => ⟨rfl, fun _ _ => rfl⟩) (ak (fun γ => ⟨rfl, fun w' _ => ex_ix0_90 (j := 0) rfl rfl rfl (by decide)⟩) (ak (fun γ => ⟨rfl, fun w' h => ex_loadC h 1 rfl rfl rfl Try.isAgg3 (ints_get _ _ (by decide))⟩) (ak (by refine fun γ => ⟨rfl, fun w' h => ?_⟩; clear h; go_simp <;> omega) (ak (by refine fun γ => ⟨rfl, fun w' h => ?_⟩; clear h; go_simp) trivial)))))
    intro _ w104 H104
    clear H103
    refine rest0 rfl (then_normal (wp_cond_true rfl (wp_seq ?_)))
    refine walk_seqB 4 [.quiet (PT γ1_0 0), .quiet (.int .i64 ((v 0 : Nat) : Int)), .quiet (.int .i64 (((v 0) - 251 : Nat) : Int)), .quiet (.int .i64 (((v 0) - 251 : Nat) : Int))] H104 ?ho88f0 ?he88f0
    case ho88f0 => exact ak (fun γ => ⟨rfl, fun w' _ => ex_ix0_90 (j := 0) rfl rfl rfl (by decide)⟩) (ak (fun γ => ⟨rfl, fun w' h => ex_loadC h 1 rfl rfl rfl Try.isAgg3 (ints_get _ _ (by decide))⟩) (ak (by refine fun γ => ⟨rfl, fun w' h => ?_⟩; clear h; go_simp; rw [IntKind.wrap_i64]; omega) (ak (fun _ => ⟨rfl, fun _ _ => rfl⟩) trivial)))
    intro _ w105 H105
    clear H104
    refine rest0 rfl (then_normal (wp_seq ?_))
    refine walk_seqB 1 [.quiet (.agg (ints .i64 (fun _ => 0) 70).toArray)] H105 ?ho89f0 ?he89f0
    case ho89f0 => exact ak (fun γ => ⟨rfl, fun w' _ => ex_bz90 rfl⟩) trivial
    intro _ w106 H106
    clear H105
    refine rest_at (l := [1]) rfl ?_
    refine rest_store rfl rfl rfl (ex_storeT (vs := ints .i64 (fun _ => 0) 70) H106.out.1 1 rfl rfl rfl rfl (by rw [ints_len]; exact Try.sizeOf90) (ints_all _ _ _) (by simp [ints_len])) ?_
    have H107 : Hid (Mm (w106.setCells γ1_0 0 (ints .i64 (fun _ => 0) 70)) [(γ47_0, ints .i64 (hz v 54) 70), (γ1_0, ints .i64 (fun _ => 0) 70), (γ1_1, ints .i64 (fun _ => 0) 34)] ∧ Below w.heap.size w (w106.setCells γ1_0 0 (ints .i64 (fun _ => 0) 70))) := ⟨by
      have h := H106.out.1.put 1 (off := 0) (vs := ints .i64 (fun _ => 0) 70) rfl (by simp [ints_len])
      rw [ints_patch0 _ _ _ _] at h
      exact h, below_setCells _ o1_0.out _ _ _ H106.out.2⟩
    clear H106
    generalize hgw : World.setCells _ _ _ _ = w107 at H107 ⊢
    clear hgw
    refine rest_nil (then_normal ?_)
    refine walk_seqB 2 [.quiet (.int .i64 (((v 0) - 251 : Nat) : Int)), .quiet (PT γ1_0 0)] H107 ?ho90f0 ?he90f0
    case ho90f0 => exact ak (fun _ => ⟨rfl, fun _ _ => rfl⟩) (ak (fun γ => ⟨rfl, fun w' _ => ex_ix0_90 (j := 0) rfl rfl rfl (by decide)⟩) trivial)
    intro _ w108 H108
    clear H107
    refine rest_at (l := [2]) rfl ?_
    refine rest_store rfl rfl rfl (ex_storeI H108.out.1 1 rfl rfl Try.sizeOf3 rfl rfl (by rw [ints_len]; decide)) ?_
    have H109 : Hid (Mm (w108.setCells γ1_0 0 ([Value.int .i64 (((v 0) - 251 : Nat) : Int)])) [(γ47_0, ints .i64 (hz v 54) 70), (γ1_0, ints .i64 (up (fun _ => 0) 0 ((v 0) - 251)) 70), (γ1_1, ints .i64 (fun _ => 0) 34)] ∧ Below w.heap.size w (w108.setCells γ1_0 0 ([Value.int .i64 (((v 0) - 251 : Nat) : Int)]))) := ⟨by
      have h := H108.out.1.put 1 (off := 0) (vs := [Value.int .i64 (((v 0) - 251 : Nat) : Int)]) rfl (by rw [ints_len]; simp only [List.length_cons, List.length_nil]; decide)
      rw [ints_patch _ _ _ _ (by decide)] at h
      exact h, below_setCells _ o1_0.out _ _ _ H108.out.2⟩
    clear H108
    generalize hgw : World.setCells _ _ _ _ = w109 at H109 ⊢
    clear hgw
    refine rest_nil (then_normal (wp_seq ?_))
    refine walk_seqA 1 [.made (ints .i64 (fun _ => 0) 34) 82] (sB H109) ?ho91f0 ?he91f0
    case ho91f0 => exact ak (fun γ => ⟨rfl, fun w' => ex_mk82 rfl⟩) trivial
    intro γ w110 l hM hl
    have H110 : Hid (Mm w110 [(γ 0, ints .i64 (fun _ => 0) 34), (γ47_0, ints .i64 (hz v 54) 70), (γ1_0, ints .i64 (up (fun _ => 0) 0 ((v 0) - 251)) 70), (γ1_1, ints .i64 (fun _ => 0) 34)] ∧ _) := growB H109 hM (Nat.le_refl _) hl [0] rfl (by decide)
    have o91_0 := ownB H109 hM (Nat.le_refl _) hl (i := 0) rfl
    clear hM hl l H109
    generalize γ 0 = γ91_0 at H110 o91_0 ⊢
    clear γ
    refine rest0 rfl (then_normal (wp_seq (wp_seq ?_)))
    refine walk_seqB 1 [.quiet (.int .i64 0)] H110 ?ho92f0 ?he92f0
    case ho92f0 => exact ak (fun _ => ⟨rfl, fun _ _ => rfl⟩) trivial
    intro _ w111 H111
    clear H110
    refine rest0 rfl (then_normal (wp_block ?_))
    refine loop_ghost (α := Nat) (fun k a' w' => ∃ s10 : Nat → Value, a' = ⟨#[.agg (ints .i64 W 70).toArray, PT γ1_0 0, PT γ1_1 0, PT γ47_0 0, .bool false, .int .i64 ((16 + 54 : Nat) : Int), s2 6, s0 7, s0 8, s0 9, .bool true, .int .i64 ((1 + 15 : Nat) : Int), .int .i64 (((v 0) - 251 : Nat) : Int), PT γ91_0 0, .int .i64 ((k : Nat) : Int), .int .i64 ((16 + 54 : Nat) : Int), .bool false, s2 17, s2 18, s2 19, s2 20, s2 21, s2 22, s2 23, s2 24, s2 25, s2 26, s2 27, s2 28, s2 29, s2 30, s2 31, s2 32, s2 33, s2 34, s2 35, s2 36, s2 37, s2 38, s2 39, s2 40, s2 41, s2 42, s2 43, s2 44, .bool false, .bool true, s0 47, s0 48, s0 49, s0 50, s0 51, s0 52, s0 53, s0 54, s0 55, s0 56, s0 57, s0 58, s0 59, s0 60, s0 61, s0 62, s0 63, s0 64, s0 65, s0 66, s0 67, s0 68, s0 69, s0 70, s0 71, s0 72, s0 73, s0 74, s0 75, s0 76, PT γ1_0 16, .int .i64 ((v 16 : Nat) : Int), .bool (decide (v 16 = 3)), .int .i64 ((1 + 15 : Nat) : Int), .bool false, s8 82, s8 83, s8 84, s8 85, s8 86, s8 87, s8 88, s8 89, s8 90, .bool true, .bool true, PT γ1_0 0, .int .i64 ((v 0 : Nat) : Int), .bool true, .bool true, PT γ1_0 0, .int .i64 ((v 0 : Nat) : Int), .int .i64 (((v 0) - 251 : Nat) : Int), .agg (ints .i64 (fun _ => 0) 70).toArray, .int .i64 (((v 0) - 251 : Nat) : Int), PT γ1_0 0, s10 103, s10 104, s10 105, s10 106, s10 107, s10 108, s10 109, s10 110, s10 111, undef], []⟩ ∧ (Mm w' [(γ91_0, ints .i64 (gr (up (fun _ => 0) 0 (v 0 - 251)) k) 34), (γ47_0, ints .i64 (hz v 54) 70), (γ1_0, ints .i64 (up (fun _ => 0) 0 ((v 0) - 251)) 70), (γ1_1, ints .i64 (fun _ => 0) 34)] ∧ Below w.heap.size w w') ∧ k ≤ 34) (fun k => 34 - k) 0 ?st10f0 ?rd10f0
    case st10f0 => exact ⟨(slotfn [undef, undef, undef, undef, undef, undef, undef, undef, undef, undef, undef, undef, undef, undef, undef, undef, undef, undef, undef, undef, undef, undef, undef, undef, undef, undef, undef, undef, undef, undef, undef, undef, undef, undef, undef, undef, undef, undef, undef, undef, undef, undef, undef, undef, undef, undef, undef, undef, undef, undef, undef, undef, undef, undef, undef, undef, undef, undef, undef, undef, undef, undef, undef, undef, undef, undef, undef, undef, undef, undef, undef, undef, undef, undef, undef, undef, undef, undef, undef, undef, undef, undef, undef, undef, undef, undef, undef, undef, undef, undef, undef, undef, undef, undef, undef, undef, undef, undef, undef, undef, undef, undef, undef, undef, undef, undef, undef, undef, undef, undef, undef, undef]), rfl, ⟨by rw [gr_zero]; exact H111.out.1, H111.out.2⟩, by omega⟩
    intro k a' w112 hI
    obtain ⟨s10, rfl, hMB, hk10⟩ := hI
    have H112 : Hid (_ ∧ _) := hMB
    clear hMB H111
    by_cases hltk : k < 34
    · have hrd : True := trivial
      clear hrd
      refine wp_seq (wp_seq ?_)
      refine walk_seqB 2 [.quiet (.int .i64 ((k : Nat) : Int)), .quiet (.bool true)] H112 ?ho93f0 ?he93f0
      case ho93f0 => exact ak (fun _ => ⟨rfl, fun _ _ => rfl⟩) (ak (by refine fun γ => ⟨rfl, fun w' h => ?_⟩; clear h; go_simp <;> omega) trivial)
      intro _ w113 H113
      clear H112
      refine rest0 rfl (then_normal (wp_cond_true rfl ?_))
      refine wp_skip (then_normal ?_)
      refine wp_seq (wp_block ?_)
      refine walk_seqB 5 [.quiet (.int .i64 ((k : Nat) : Int)), .quiet (.int .i64 ((k : Nat) : Int)), .quiet (PT γ1_0 k), .quiet (.int .i64 (((up (fun _ => 0) 0 ((v 0) - 251)) k : Nat) : Int)), .quiet (PT γ91_0 k)] H113 ?ho94f0 ?he94f0
      case ho94f0 => exact ak (fun _ => ⟨rfl, fun _ _ => rfl⟩) (ak (fun _ => ⟨rfl, fun _ _ => rfl⟩) (ak (fun γ => ⟨rfl, fun w' _ => ex_ix0_90 (j := k) rfl rfl rfl (by omega)⟩) (ak (fun γ => ⟨rfl, fun w' h => ex_loadC h 2 rfl rfl rfl Try.isAgg3 (ints_get _ _ (by omega))⟩) (ak (fun γ => ⟨rfl, fun w' _ => ex_ix0_82 (j := k) rfl rfl rfl (by omega)⟩) trivial))))
      intro _ w114 H114
      clear H113
      refine rest_at (l := [5]) rfl ?_
      refine rest_store rfl rfl rfl (ex_storeI H114.out.1 0 rfl rfl Try.sizeOf3 rfl rfl (by rw [ints_len]; omega)) ?_
      have H115 : Hid (Mm (w114.setCells γ91_0 k ([Value.int .i64 (((up (fun _ => 0) 0 ((v 0) - 251)) k : Nat) : Int)])) [(γ91_0, ints .i64 (gr (up (fun _ => 0) 0 (v 0 - 251)) (k + 1)) 34), (γ47_0, ints .i64 (hz v 54) 70), (γ1_0, ints .i64 (up (fun _ => 0) 0 ((v 0) - 251)) 70), (γ1_1, ints .i64 (fun _ => 0) 34)] ∧ Below w.heap.size w (w114.setCells γ91_0 k ([Value.int .i64 (((up (fun _ => 0) 0 ((v 0) - 251)) k : Nat) : Int)]))) := ⟨by
        have h := H114.out.1.put 0 (off := k) (vs := [Value.int .i64 (((up (fun _ => 0) 0 ((v 0) - 251)) k : Nat) : Int)]) rfl (by rw [ints_len]; simp only [List.length_cons, List.length_nil]; omega)
        rw [ints_patch _ _ _ _ (by omega), show ints .i64 (up (gr (up (fun _ => 0) 0 (v 0 - 251)) k) k ((up (fun _ => 0) 0 ((v 0) - 251)) k)) 34 = ints .i64 (gr (up (fun _ => 0) 0 (v 0 - 251)) (k + 1)) 34 by rw [show (up (gr (up (fun _ => 0) 0 (v 0 - 251)) k) k ((up (fun _ => 0) 0 ((v 0) - 251)) k)) = gr (up (fun _ => 0) 0 (v 0 - 251)) (k + 1) from gr_set _ k]] at h
        exact h, below_setCells _ o91_0.out _ _ _ H114.out.2⟩
      clear H114
      generalize hgw : World.setCells _ _ _ _ = w115 at H115 ⊢
      clear hgw
      refine rest_nil (block_normal (then_normal ?_))
      refine walk_seqB 2 [.quiet (.int .i64 ((k : Nat) : Int)), .quiet (.int .i64 ((k + 1 : Nat) : Int))] H115 ?ho95f0 ?he95f0
      case ho95f0 => exact ak (fun _ => ⟨rfl, fun _ _ => rfl⟩) (ak (by refine fun γ => ⟨rfl, fun w' h => ?_⟩; clear h; go_simp; rw [IntKind.wrap_i64]; omega) trivial)
      intro _ w116 H116
      clear H115
      refine rest_at (l := [2]) rfl ?_
      refine rest_set (d := 14) rfl rfl rfl rfl ?_
      simp only [Act.put, sa, sz, ss]
      refine rest_nil (then_normal ?_)
      exact ⟨k + 1, ⟨(slotfn [undef, undef, undef, undef, undef, undef, undef, undef, undef, undef, undef, undef, undef, undef, undef, undef, undef, undef, undef, undef, undef, undef, undef, undef, undef, undef, undef, undef, undef, undef, undef, undef, undef, undef, undef, undef, undef, undef, undef, undef, undef, undef, undef, undef, undef, undef, undef, undef, undef, undef, undef, undef, undef, undef, undef, undef, undef, undef, undef, undef, undef, undef, undef, undef, undef, undef, undef, undef, undef, undef, undef, undef, undef, undef, undef, undef, undef, undef, undef, undef, undef, undef, undef, undef, undef, undef, undef, undef, undef, undef, undef, undef, undef, undef, undef, undef, undef, undef, undef, undef, undef, undef, undef, .int .i64 ((k : Nat) : Int), .bool true, .int .i64 ((k : Nat) : Int), .int .i64 ((k + 1 : Nat) : Int), .int .i64 ((k : Nat) : Int), .int .i64 ((k : Nat) : Int), PT γ1_0 k, .int .i64 (((up (fun _ => 0) 0 ((v 0) - 251)) k : Nat) : Int), PT γ91_0 k]), rfl, ⟨H116.out.1, H116.out.2⟩, by omega⟩, by omega⟩
    have hkN : k = 34 := by omega
    subst hkN
    refine wp_seq (wp_seq ?_)
    refine walk_seqB 2 [.quiet (.int .i64 ((34 : Nat) : Int)), .quiet (.bool false)] H112 ?ho96f0 ?he96f0
    case ho96f0 => exact ak (fun _ => ⟨rfl, fun _ _ => rfl⟩) (ak (by refine fun γ => ⟨rfl, fun w' h => ?_⟩; clear h; go_simp <;> omega) trivial)
    intro _ w117 H117
    clear H112
    refine rest0 rfl (then_normal (wp_cond_false rfl ?_))
    refine wp_exit ?_
    repeat refine then_exit ?_
    refine block_exit ?_
    refine then_normal (wp_seq ?_)
    refine walk_seqB 1 [.quiet (.agg (ints .i64 (gr (up (fun _ => 0) 0 (v 0 - 251)) 34) 34).toArray)] H117 ?ho97f0 ?he97f0
    case ho97f0 => exact ak (fun γ => ⟨rfl, fun w' h => ex_loadT h 0 rfl rfl rfl Try.isAgg82 Try.sizeOf82 (ints_whole _ _ _) (ints_len _ _ _)⟩) trivial
    intro _ w118 H118
    clear H117
    refine rest_at (l := [1]) rfl ?_
    refine rest_store rfl rfl rfl (ex_storeT (vs := ints .i64 (gr (up (fun _ => 0) 0 (v 0 - 251)) 34) 34) H118.out.1 3 rfl rfl rfl rfl (by rw [ints_len]; exact Try.sizeOf82) (ints_all _ _ _) (by simp [ints_len])) ?_
    have H119 : Hid (Mm (w118.setCells γ1_1 0 (ints .i64 (gr (up (fun _ => 0) 0 (v 0 - 251)) 34) 34)) [(γ91_0, ints .i64 (gr (up (fun _ => 0) 0 (v 0 - 251)) 34) 34), (γ47_0, ints .i64 (hz v 54) 70), (γ1_0, ints .i64 (up (fun _ => 0) 0 ((v 0) - 251)) 70), (γ1_1, ints .i64 (gr (up (fun _ => 0) 0 (v 0 - 251)) 34) 34)] ∧ Below w.heap.size w (w118.setCells γ1_1 0 (ints .i64 (gr (up (fun _ => 0) 0 (v 0 - 251)) 34) 34))) := ⟨by
      have h := H118.out.1.put 3 (off := 0) (vs := ints .i64 (gr (up (fun _ => 0) 0 (v 0 - 251)) 34) 34) rfl (by simp [ints_len])
      rw [ints_patch0 _ _ _ _] at h
      exact h, below_setCells _ o1_1.out _ _ _ H118.out.2⟩
    clear H118
    generalize hgw : World.setCells _ _ _ _ = w119 at H119 ⊢
    clear hgw
    refine rest_nil (then_normal (wp_ret ?_))
    repeat (first | refine then_ret ?_ | refine block_ret ?_)
    have hf0 := var_T H119.out.1 3 rfl Try.isAgg82 Try.sizeOf82 (ints_len _ _ _)
    refine bodyPost_ret (v := .agg (ints .i64 (gr (up (fun _ => 0) 0 (v 0 - 251)) 34) 34).toArray) (by simp [results, Try.results61, asAddr, hf0]) rfl ?_
    exact ⟨by rw [gr_dg (end_lt hk0.1) (end_full hk0.1 hbig hk0.2 hf h0)], H119.out.2⟩
  · have hv0 := hk0.1 0
    refine wp_seq (wp_seq ?_)
    refine walk_seqB 2 [.quiet (.int .i64 ((1 + 15 : Nat) : Int)), .quiet (.bool false)] H96 ?ho86f1 ?he86f1
    case ho86f1 => exact ak (fun _ => ⟨rfl, fun _ _ => rfl⟩) (ak (by refine fun γ => ⟨rfl, fun w' h => ?_⟩; clear h; go_simp <;> omega) trivial)
    intro _ w103 H103
    clear H96
    refine rest0 rfl (then_normal (wp_cond_false rfl ?_))
    refine wp_exit ?_
    repeat refine then_exit ?_
    refine block_exit ?_
    refine then_normal (wp_seq (wp_seq ?_))
    refine walk_seqB 6 [.quiet (.bool true), .quiet (.bool true), .quiet (PT γ1_0 0), .quiet (.int .i64 ((v 0 : Nat) : Int)), .quiet (.bool false), .quiet (.bool false)] H103 ?ho87f1 ?he87f1
    case ho87f1 => exact ak (fun _ => ⟨rfl, fun _ _ => rfl⟩) (ak (fun _ => ⟨rfl, fun _ _ => rfl⟩) (ak (fun γ => ⟨rfl, fun w' _ => ex_ix0_90 (j := 0) rfl rfl rfl (by decide)⟩) (ak (fun γ => ⟨rfl, fun w' h => ex_loadC h 1 rfl rfl rfl Try.isAgg3 (ints_get _ _ (by decide))⟩) (ak (by refine fun γ => ⟨rfl, fun w' h => ?_⟩; clear h; go_simp <;> omega) (ak (by refine fun γ => ⟨rfl, fun w' h => ?_⟩; clear h; go_simp) trivial)))))
    intro _ w104 H104
    clear H103
    refine rest0 rfl (then_normal (wp_cond_false rfl ?_))
    refine wp_skip (then_normal (wp_seq ?_))
    refine walk_seqA 1 [.made (ints .i64 (fun _ => 0) 34) 82] (sB H104) ?ho88f1 ?he88f1
    case ho88f1 => exact ak (fun γ => ⟨rfl, fun w' => ex_mk82 rfl⟩) trivial
    intro γ w105 l hM hl
    have H105 : Hid (Mm w105 [(γ 0, ints .i64 (fun _ => 0) 34), (γ47_0, ints .i64 (hz v 54) 70), (γ1_0, ints .i64 v 70), (γ1_1, ints .i64 (fun _ => 0) 34)] ∧ _) := growB H104 hM (Nat.le_refl _) hl [0] rfl (by decide)
    have o88_0 := ownB H104 hM (Nat.le_refl _) hl (i := 0) rfl
    clear hM hl l H104
    generalize γ 0 = γ88_0 at H105 o88_0 ⊢
    clear γ
    refine rest0 rfl (then_normal (wp_seq (wp_seq ?_)))
    refine walk_seqB 1 [.quiet (.int .i64 0)] H105 ?ho89f1 ?he89f1
    case ho89f1 => exact ak (fun _ => ⟨rfl, fun _ _ => rfl⟩) trivial
    intro _ w106 H106
    clear H105
    refine rest0 rfl (then_normal (wp_block ?_))
    refine loop_ghost (α := Nat) (fun k a' w' => ∃ s10 : Nat → Value, a' = ⟨#[.agg (ints .i64 W 70).toArray, PT γ1_0 0, PT γ1_1 0, PT γ47_0 0, .bool false, .int .i64 ((16 + 54 : Nat) : Int), s2 6, s0 7, s0 8, s0 9, .bool true, .int .i64 ((1 + 15 : Nat) : Int), undef, PT γ88_0 0, .int .i64 ((k : Nat) : Int), .int .i64 ((16 + 54 : Nat) : Int), .bool false, s2 17, s2 18, s2 19, s2 20, s2 21, s2 22, s2 23, s2 24, s2 25, s2 26, s2 27, s2 28, s2 29, s2 30, s2 31, s2 32, s2 33, s2 34, s2 35, s2 36, s2 37, s2 38, s2 39, s2 40, s2 41, s2 42, s2 43, s2 44, .bool false, .bool true, s0 47, s0 48, s0 49, s0 50, s0 51, s0 52, s0 53, s0 54, s0 55, s0 56, s0 57, s0 58, s0 59, s0 60, s0 61, s0 62, s0 63, s0 64, s0 65, s0 66, s0 67, s0 68, s0 69, s0 70, s0 71, s0 72, s0 73, s0 74, s0 75, s0 76, PT γ1_0 16, .int .i64 ((v 16 : Nat) : Int), .bool (decide (v 16 = 3)), .int .i64 ((1 + 15 : Nat) : Int), .bool false, s8 82, s8 83, s8 84, s8 85, s8 86, s8 87, s8 88, s8 89, s8 90, .bool true, .bool true, PT γ1_0 0, .int .i64 ((v 0 : Nat) : Int), .bool false, .bool false, undef, undef, undef, undef, undef, undef, s10 103, s10 104, s10 105, s10 106, s10 107, s10 108, s10 109, s10 110, s10 111, undef], []⟩ ∧ (Mm w' [(γ88_0, ints .i64 (gr v k) 34), (γ47_0, ints .i64 (hz v 54) 70), (γ1_0, ints .i64 v 70), (γ1_1, ints .i64 (fun _ => 0) 34)] ∧ Below w.heap.size w w') ∧ k ≤ 34) (fun k => 34 - k) 0 ?st10f1 ?rd10f1
    case st10f1 => exact ⟨(slotfn [undef, undef, undef, undef, undef, undef, undef, undef, undef, undef, undef, undef, undef, undef, undef, undef, undef, undef, undef, undef, undef, undef, undef, undef, undef, undef, undef, undef, undef, undef, undef, undef, undef, undef, undef, undef, undef, undef, undef, undef, undef, undef, undef, undef, undef, undef, undef, undef, undef, undef, undef, undef, undef, undef, undef, undef, undef, undef, undef, undef, undef, undef, undef, undef, undef, undef, undef, undef, undef, undef, undef, undef, undef, undef, undef, undef, undef, undef, undef, undef, undef, undef, undef, undef, undef, undef, undef, undef, undef, undef, undef, undef, undef, undef, undef, undef, undef, undef, undef, undef, undef, undef, undef, undef, undef, undef, undef, undef, undef, undef, undef, undef]), rfl, ⟨by rw [gr_zero]; exact H106.out.1, H106.out.2⟩, by omega⟩
    intro k a' w107 hI
    obtain ⟨s10, rfl, hMB, hk10⟩ := hI
    have H107 : Hid (_ ∧ _) := hMB
    clear hMB H106
    by_cases hltk : k < 34
    · have hrd : True := trivial
      clear hrd
      refine wp_seq (wp_seq ?_)
      refine walk_seqB 2 [.quiet (.int .i64 ((k : Nat) : Int)), .quiet (.bool true)] H107 ?ho90f1 ?he90f1
      case ho90f1 => exact ak (fun _ => ⟨rfl, fun _ _ => rfl⟩) (ak (by refine fun γ => ⟨rfl, fun w' h => ?_⟩; clear h; go_simp <;> omega) trivial)
      intro _ w108 H108
      clear H107
      refine rest0 rfl (then_normal (wp_cond_true rfl ?_))
      refine wp_skip (then_normal ?_)
      refine wp_seq (wp_block ?_)
      refine walk_seqB 5 [.quiet (.int .i64 ((k : Nat) : Int)), .quiet (.int .i64 ((k : Nat) : Int)), .quiet (PT γ1_0 k), .quiet (.int .i64 ((v k : Nat) : Int)), .quiet (PT γ88_0 k)] H108 ?ho91f1 ?he91f1
      case ho91f1 => exact ak (fun _ => ⟨rfl, fun _ _ => rfl⟩) (ak (fun _ => ⟨rfl, fun _ _ => rfl⟩) (ak (fun γ => ⟨rfl, fun w' _ => ex_ix0_90 (j := k) rfl rfl rfl (by omega)⟩) (ak (fun γ => ⟨rfl, fun w' h => ex_loadC h 2 rfl rfl rfl Try.isAgg3 (ints_get _ _ (by omega))⟩) (ak (fun γ => ⟨rfl, fun w' _ => ex_ix0_82 (j := k) rfl rfl rfl (by omega)⟩) trivial))))
      intro _ w109 H109
      clear H108
      refine rest_at (l := [5]) rfl ?_
      refine rest_store rfl rfl rfl (ex_storeI H109.out.1 0 rfl rfl Try.sizeOf3 rfl rfl (by rw [ints_len]; omega)) ?_
      have H110 : Hid (Mm (w109.setCells γ88_0 k ([Value.int .i64 ((v k : Nat) : Int)])) [(γ88_0, ints .i64 (gr v (k + 1)) 34), (γ47_0, ints .i64 (hz v 54) 70), (γ1_0, ints .i64 v 70), (γ1_1, ints .i64 (fun _ => 0) 34)] ∧ Below w.heap.size w (w109.setCells γ88_0 k ([Value.int .i64 ((v k : Nat) : Int)]))) := ⟨by
        have h := H109.out.1.put 0 (off := k) (vs := [Value.int .i64 ((v k : Nat) : Int)]) rfl (by rw [ints_len]; simp only [List.length_cons, List.length_nil]; omega)
        rw [ints_patch _ _ _ _ (by omega), show ints .i64 (up (gr v k) k (v k)) 34 = ints .i64 (gr v (k + 1)) 34 by rw [show (up (gr v k) k (v k)) = gr v (k + 1) from gr_set _ k]] at h
        exact h, below_setCells _ o88_0.out _ _ _ H109.out.2⟩
      clear H109
      generalize hgw : World.setCells _ _ _ _ = w110 at H110 ⊢
      clear hgw
      refine rest_nil (block_normal (then_normal ?_))
      refine walk_seqB 2 [.quiet (.int .i64 ((k : Nat) : Int)), .quiet (.int .i64 ((k + 1 : Nat) : Int))] H110 ?ho92f1 ?he92f1
      case ho92f1 => exact ak (fun _ => ⟨rfl, fun _ _ => rfl⟩) (ak (by refine fun γ => ⟨rfl, fun w' h => ?_⟩; clear h; go_simp; rw [IntKind.wrap_i64]; omega) trivial)
      intro _ w111 H111
      clear H110
      refine rest_at (l := [2]) rfl ?_
      refine rest_set (d := 14) rfl rfl rfl rfl ?_
      simp only [Act.put, sa, sz, ss]
      refine rest_nil (then_normal ?_)
      exact ⟨k + 1, ⟨(slotfn [undef, undef, undef, undef, undef, undef, undef, undef, undef, undef, undef, undef, undef, undef, undef, undef, undef, undef, undef, undef, undef, undef, undef, undef, undef, undef, undef, undef, undef, undef, undef, undef, undef, undef, undef, undef, undef, undef, undef, undef, undef, undef, undef, undef, undef, undef, undef, undef, undef, undef, undef, undef, undef, undef, undef, undef, undef, undef, undef, undef, undef, undef, undef, undef, undef, undef, undef, undef, undef, undef, undef, undef, undef, undef, undef, undef, undef, undef, undef, undef, undef, undef, undef, undef, undef, undef, undef, undef, undef, undef, undef, undef, undef, undef, undef, undef, undef, undef, undef, undef, undef, undef, undef, .int .i64 ((k : Nat) : Int), .bool true, .int .i64 ((k : Nat) : Int), .int .i64 ((k + 1 : Nat) : Int), .int .i64 ((k : Nat) : Int), .int .i64 ((k : Nat) : Int), PT γ1_0 k, .int .i64 ((v k : Nat) : Int), PT γ88_0 k]), rfl, ⟨H111.out.1, H111.out.2⟩, by omega⟩, by omega⟩
    have hkN : k = 34 := by omega
    subst hkN
    refine wp_seq (wp_seq ?_)
    refine walk_seqB 2 [.quiet (.int .i64 ((34 : Nat) : Int)), .quiet (.bool false)] H107 ?ho93f1 ?he93f1
    case ho93f1 => exact ak (fun _ => ⟨rfl, fun _ _ => rfl⟩) (ak (by refine fun γ => ⟨rfl, fun w' h => ?_⟩; clear h; go_simp <;> omega) trivial)
    intro _ w112 H112
    clear H107
    refine rest0 rfl (then_normal (wp_cond_false rfl ?_))
    refine wp_exit ?_
    repeat refine then_exit ?_
    refine block_exit ?_
    refine then_normal (wp_seq ?_)
    refine walk_seqB 1 [.quiet (.agg (ints .i64 (gr v 34) 34).toArray)] H112 ?ho94f1 ?he94f1
    case ho94f1 => exact ak (fun γ => ⟨rfl, fun w' h => ex_loadT h 0 rfl rfl rfl Try.isAgg82 Try.sizeOf82 (ints_whole _ _ _) (ints_len _ _ _)⟩) trivial
    intro _ w113 H113
    clear H112
    refine rest_at (l := [1]) rfl ?_
    refine rest_store rfl rfl rfl (ex_storeT (vs := ints .i64 (gr v 34) 34) H113.out.1 3 rfl rfl rfl rfl (by rw [ints_len]; exact Try.sizeOf82) (ints_all _ _ _) (by simp [ints_len])) ?_
    have H114 : Hid (Mm (w113.setCells γ1_1 0 (ints .i64 (gr v 34) 34)) [(γ88_0, ints .i64 (gr v 34) 34), (γ47_0, ints .i64 (hz v 54) 70), (γ1_0, ints .i64 v 70), (γ1_1, ints .i64 (gr v 34) 34)] ∧ Below w.heap.size w (w113.setCells γ1_1 0 (ints .i64 (gr v 34) 34))) := ⟨by
      have h := H113.out.1.put 3 (off := 0) (vs := ints .i64 (gr v 34) 34) rfl (by simp [ints_len])
      rw [ints_patch0 _ _ _ _] at h
      exact h, below_setCells _ o1_1.out _ _ _ H113.out.2⟩
    clear H113
    generalize hgw : World.setCells _ _ _ _ = w114 at H114 ⊢
    clear hgw
    refine rest_nil (then_normal (wp_ret ?_))
    repeat (first | refine then_ret ?_ | refine block_ret ?_)
    have hf0 := var_T H114.out.1 3 rfl Try.isAgg82 Try.sizeOf82 (ints_len _ _ _)
    refine bodyPost_ret (v := .agg (ints .i64 (gr v 34) 34).toArray) (by simp [results, Try.results61, asAddr, hf0]) rfl ?_
    exact ⟨by rw [gr_dg hk0.1 (end_else hk0.1 hbig hk0.2 fun hh => h0 hh.2)], H114.out.2⟩
  · have hv0 := hk0.1 0
    refine wp_seq (wp_seq ?_)
    refine walk_seqB 2 [.quiet (.int .i64 ((1 + 15 : Nat) : Int)), .quiet (.bool false)] H96 ?ho86f2 ?he86f2
    case ho86f2 => exact ak (fun _ => ⟨rfl, fun _ _ => rfl⟩) (ak (by refine fun γ => ⟨rfl, fun w' h => ?_⟩; clear h; go_simp <;> omega) trivial)
    intro _ w103 H103
    clear H96
    refine rest0 rfl (then_normal (wp_cond_false rfl ?_))
    refine wp_exit ?_
    repeat refine then_exit ?_
    refine block_exit ?_
    refine then_normal (wp_seq (wp_seq ?_))
    refine walk_seqB 6 [.quiet (.bool false), .quiet (.bool false), .gone, .gone, .gone, .quiet (.bool false)] H103 ?ho87f2 ?he87f2
    case ho87f2 => exact ak (fun _ => ⟨rfl, fun _ _ => rfl⟩) (ak (fun _ => ⟨rfl, fun _ _ => rfl⟩) (ak (fun γ => rfl) (ak (fun γ => rfl) (ak (fun γ => rfl) (ak (by refine fun γ => ⟨rfl, fun w' h => ?_⟩; clear h; go_simp) trivial)))))
    intro _ w104 H104
    clear H103
    refine rest0 rfl (then_normal (wp_cond_false rfl ?_))
    refine wp_skip (then_normal (wp_seq ?_))
    refine walk_seqA 1 [.made (ints .i64 (fun _ => 0) 34) 82] (sB H104) ?ho88f2 ?he88f2
    case ho88f2 => exact ak (fun γ => ⟨rfl, fun w' => ex_mk82 rfl⟩) trivial
    intro γ w105 l hM hl
    have H105 : Hid (Mm w105 [(γ 0, ints .i64 (fun _ => 0) 34), (γ47_0, ints .i64 (hz v 54) 70), (γ1_0, ints .i64 v 70), (γ1_1, ints .i64 (fun _ => 0) 34)] ∧ _) := growB H104 hM (Nat.le_refl _) hl [0] rfl (by decide)
    have o88_0 := ownB H104 hM (Nat.le_refl _) hl (i := 0) rfl
    clear hM hl l H104
    generalize γ 0 = γ88_0 at H105 o88_0 ⊢
    clear γ
    refine rest0 rfl (then_normal (wp_seq (wp_seq ?_)))
    refine walk_seqB 1 [.quiet (.int .i64 0)] H105 ?ho89f2 ?he89f2
    case ho89f2 => exact ak (fun _ => ⟨rfl, fun _ _ => rfl⟩) trivial
    intro _ w106 H106
    clear H105
    refine rest0 rfl (then_normal (wp_block ?_))
    refine loop_ghost (α := Nat) (fun k a' w' => ∃ s10 : Nat → Value, a' = ⟨#[.agg (ints .i64 W 70).toArray, PT γ1_0 0, PT γ1_1 0, PT γ47_0 0, .bool false, .int .i64 ((16 + 54 : Nat) : Int), s2 6, s0 7, s0 8, s0 9, .bool false, .int .i64 ((1 + 15 : Nat) : Int), undef, PT γ88_0 0, .int .i64 ((k : Nat) : Int), .int .i64 ((16 + 54 : Nat) : Int), .bool false, s2 17, s2 18, s2 19, s2 20, s2 21, s2 22, s2 23, s2 24, s2 25, s2 26, s2 27, s2 28, s2 29, s2 30, s2 31, s2 32, s2 33, s2 34, s2 35, s2 36, s2 37, s2 38, s2 39, s2 40, s2 41, s2 42, s2 43, s2 44, .bool false, .bool true, s0 47, s0 48, s0 49, s0 50, s0 51, s0 52, s0 53, s0 54, s0 55, s0 56, s0 57, s0 58, s0 59, s0 60, s0 61, s0 62, s0 63, s0 64, s0 65, s0 66, s0 67, s0 68, s0 69, s0 70, s0 71, s0 72, s0 73, s0 74, s0 75, s0 76, PT γ1_0 16, .int .i64 ((v 16 : Nat) : Int), .bool (decide (v 16 = 3)), .int .i64 ((1 + 15 : Nat) : Int), .bool false, s8 82, s8 83, s8 84, s8 85, s8 86, s8 87, s8 88, s8 89, s8 90, .bool false, .bool false, undef, undef, undef, .bool false, undef, undef, undef, undef, undef, undef, s10 103, s10 104, s10 105, s10 106, s10 107, s10 108, s10 109, s10 110, s10 111, undef], []⟩ ∧ (Mm w' [(γ88_0, ints .i64 (gr v k) 34), (γ47_0, ints .i64 (hz v 54) 70), (γ1_0, ints .i64 v 70), (γ1_1, ints .i64 (fun _ => 0) 34)] ∧ Below w.heap.size w w') ∧ k ≤ 34) (fun k => 34 - k) 0 ?st10f2 ?rd10f2
    case st10f2 => exact ⟨(slotfn [undef, undef, undef, undef, undef, undef, undef, undef, undef, undef, undef, undef, undef, undef, undef, undef, undef, undef, undef, undef, undef, undef, undef, undef, undef, undef, undef, undef, undef, undef, undef, undef, undef, undef, undef, undef, undef, undef, undef, undef, undef, undef, undef, undef, undef, undef, undef, undef, undef, undef, undef, undef, undef, undef, undef, undef, undef, undef, undef, undef, undef, undef, undef, undef, undef, undef, undef, undef, undef, undef, undef, undef, undef, undef, undef, undef, undef, undef, undef, undef, undef, undef, undef, undef, undef, undef, undef, undef, undef, undef, undef, undef, undef, undef, undef, undef, undef, undef, undef, undef, undef, undef, undef, undef, undef, undef, undef, undef, undef, undef, undef, undef]), rfl, ⟨by rw [gr_zero]; exact H106.out.1, H106.out.2⟩, by omega⟩
    intro k a' w107 hI
    obtain ⟨s10, rfl, hMB, hk10⟩ := hI
    have H107 : Hid (_ ∧ _) := hMB
    clear hMB H106
    by_cases hltk : k < 34
    · have hrd : True := trivial
      clear hrd
      refine wp_seq (wp_seq ?_)
      refine walk_seqB 2 [.quiet (.int .i64 ((k : Nat) : Int)), .quiet (.bool true)] H107 ?ho90f2 ?he90f2
      case ho90f2 => exact ak (fun _ => ⟨rfl, fun _ _ => rfl⟩) (ak (by refine fun γ => ⟨rfl, fun w' h => ?_⟩; clear h; go_simp <;> omega) trivial)
      intro _ w108 H108
      clear H107
      refine rest0 rfl (then_normal (wp_cond_true rfl ?_))
      refine wp_skip (then_normal ?_)
      refine wp_seq (wp_block ?_)
      refine walk_seqB 5 [.quiet (.int .i64 ((k : Nat) : Int)), .quiet (.int .i64 ((k : Nat) : Int)), .quiet (PT γ1_0 k), .quiet (.int .i64 ((v k : Nat) : Int)), .quiet (PT γ88_0 k)] H108 ?ho91f2 ?he91f2
      case ho91f2 => exact ak (fun _ => ⟨rfl, fun _ _ => rfl⟩) (ak (fun _ => ⟨rfl, fun _ _ => rfl⟩) (ak (fun γ => ⟨rfl, fun w' _ => ex_ix0_90 (j := k) rfl rfl rfl (by omega)⟩) (ak (fun γ => ⟨rfl, fun w' h => ex_loadC h 2 rfl rfl rfl Try.isAgg3 (ints_get _ _ (by omega))⟩) (ak (fun γ => ⟨rfl, fun w' _ => ex_ix0_82 (j := k) rfl rfl rfl (by omega)⟩) trivial))))
      intro _ w109 H109
      clear H108
      refine rest_at (l := [5]) rfl ?_
      refine rest_store rfl rfl rfl (ex_storeI H109.out.1 0 rfl rfl Try.sizeOf3 rfl rfl (by rw [ints_len]; omega)) ?_
      have H110 : Hid (Mm (w109.setCells γ88_0 k ([Value.int .i64 ((v k : Nat) : Int)])) [(γ88_0, ints .i64 (gr v (k + 1)) 34), (γ47_0, ints .i64 (hz v 54) 70), (γ1_0, ints .i64 v 70), (γ1_1, ints .i64 (fun _ => 0) 34)] ∧ Below w.heap.size w (w109.setCells γ88_0 k ([Value.int .i64 ((v k : Nat) : Int)]))) := ⟨by
        have h := H109.out.1.put 0 (off := k) (vs := [Value.int .i64 ((v k : Nat) : Int)]) rfl (by rw [ints_len]; simp only [List.length_cons, List.length_nil]; omega)
        rw [ints_patch _ _ _ _ (by omega), show ints .i64 (up (gr v k) k (v k)) 34 = ints .i64 (gr v (k + 1)) 34 by rw [show (up (gr v k) k (v k)) = gr v (k + 1) from gr_set _ k]] at h
        exact h, below_setCells _ o88_0.out _ _ _ H109.out.2⟩
      clear H109
      generalize hgw : World.setCells _ _ _ _ = w110 at H110 ⊢
      clear hgw
      refine rest_nil (block_normal (then_normal ?_))
      refine walk_seqB 2 [.quiet (.int .i64 ((k : Nat) : Int)), .quiet (.int .i64 ((k + 1 : Nat) : Int))] H110 ?ho92f2 ?he92f2
      case ho92f2 => exact ak (fun _ => ⟨rfl, fun _ _ => rfl⟩) (ak (by refine fun γ => ⟨rfl, fun w' h => ?_⟩; clear h; go_simp; rw [IntKind.wrap_i64]; omega) trivial)
      intro _ w111 H111
      clear H110
      refine rest_at (l := [2]) rfl ?_
      refine rest_set (d := 14) rfl rfl rfl rfl ?_
      simp only [Act.put, sa, sz, ss]
      refine rest_nil (then_normal ?_)
      exact ⟨k + 1, ⟨(slotfn [undef, undef, undef, undef, undef, undef, undef, undef, undef, undef, undef, undef, undef, undef, undef, undef, undef, undef, undef, undef, undef, undef, undef, undef, undef, undef, undef, undef, undef, undef, undef, undef, undef, undef, undef, undef, undef, undef, undef, undef, undef, undef, undef, undef, undef, undef, undef, undef, undef, undef, undef, undef, undef, undef, undef, undef, undef, undef, undef, undef, undef, undef, undef, undef, undef, undef, undef, undef, undef, undef, undef, undef, undef, undef, undef, undef, undef, undef, undef, undef, undef, undef, undef, undef, undef, undef, undef, undef, undef, undef, undef, undef, undef, undef, undef, undef, undef, undef, undef, undef, undef, undef, undef, .int .i64 ((k : Nat) : Int), .bool true, .int .i64 ((k : Nat) : Int), .int .i64 ((k + 1 : Nat) : Int), .int .i64 ((k : Nat) : Int), .int .i64 ((k : Nat) : Int), PT γ1_0 k, .int .i64 ((v k : Nat) : Int), PT γ88_0 k]), rfl, ⟨H111.out.1, H111.out.2⟩, by omega⟩, by omega⟩
    have hkN : k = 34 := by omega
    subst hkN
    refine wp_seq (wp_seq ?_)
    refine walk_seqB 2 [.quiet (.int .i64 ((34 : Nat) : Int)), .quiet (.bool false)] H107 ?ho93f2 ?he93f2
    case ho93f2 => exact ak (fun _ => ⟨rfl, fun _ _ => rfl⟩) (ak (by refine fun γ => ⟨rfl, fun w' h => ?_⟩; clear h; go_simp <;> omega) trivial)
    intro _ w112 H112
    clear H107
    refine rest0 rfl (then_normal (wp_cond_false rfl ?_))
    refine wp_exit ?_
    repeat refine then_exit ?_
    refine block_exit ?_
    refine then_normal (wp_seq ?_)
    refine walk_seqB 1 [.quiet (.agg (ints .i64 (gr v 34) 34).toArray)] H112 ?ho94f2 ?he94f2
    case ho94f2 => exact ak (fun γ => ⟨rfl, fun w' h => ex_loadT h 0 rfl rfl rfl Try.isAgg82 Try.sizeOf82 (ints_whole _ _ _) (ints_len _ _ _)⟩) trivial
    intro _ w113 H113
    clear H112
    refine rest_at (l := [1]) rfl ?_
    refine rest_store rfl rfl rfl (ex_storeT (vs := ints .i64 (gr v 34) 34) H113.out.1 3 rfl rfl rfl rfl (by rw [ints_len]; exact Try.sizeOf82) (ints_all _ _ _) (by simp [ints_len])) ?_
    have H114 : Hid (Mm (w113.setCells γ1_1 0 (ints .i64 (gr v 34) 34)) [(γ88_0, ints .i64 (gr v 34) 34), (γ47_0, ints .i64 (hz v 54) 70), (γ1_0, ints .i64 v 70), (γ1_1, ints .i64 (gr v 34) 34)] ∧ Below w.heap.size w (w113.setCells γ1_1 0 (ints .i64 (gr v 34) 34))) := ⟨by
      have h := H113.out.1.put 3 (off := 0) (vs := ints .i64 (gr v 34) 34) rfl (by simp [ints_len])
      rw [ints_patch0 _ _ _ _] at h
      exact h, below_setCells _ o1_1.out _ _ _ H113.out.2⟩
    clear H113
    generalize hgw : World.setCells _ _ _ _ = w114 at H114 ⊢
    clear hgw
    refine rest_nil (then_normal (wp_ret ?_))
    repeat (first | refine then_ret ?_ | refine block_ret ?_)
    have hf0 := var_T H114.out.1 3 rfl Try.isAgg82 Try.sizeOf82 (ints_len _ _ _)
    refine bodyPost_ret (v := .agg (ints .i64 (gr v 34) 34).toArray) (by simp [results, Try.results61, asAddr, hf0]) rfl ?_
    exact ⟨by rw [gr_dg hk0.1 (end_else hk0.1 hbig hk0.2 fun hh => by rw [hf] at hh; cases hh.1)], H114.out.2⟩
end Rg
end Go.Proofs.Ytkkippfikfjdpaa
end
section
namespace Go.Proofs.Ytkkippfikfjdpaa
open Go.RowKit
namespace Rg
set_option maxRecDepth 100000
theorem ex_mul3 {ρ : Operand → Value} {o : Oper} {x y : Operand} {a b : Nat} {w : World} (h : a * b < 4611686018427387904) (ho : o.op = .binOp .mul 3 x y 3) (hx : ρ x = .int .i64 ((a : Nat) : Int)) (hy : ρ y = .int .i64 ((b : Nat) : Int)) : (execOp ρ o).run Try.prog w = .ok (.value (.int .i64 ((a * b : Nat) : Int))) w := by
  simp only [execOp, ho, hx, hy]
  clear ho hx hy
  go_simp
  rw [IntKind.wrap_i64, ← Int.natCast_mul]
  generalize a * b = c at h ⊢
  omega
theorem cw_set (x y : Nat → Nat) (i : Nat) (g : Nat → Nat) (k : Nat) : up (cw x y i g k) (i + k) (cw x y i g k (i + k) + x i * y k) = cw x y i g (k + 1) := by
  funext j
  show up (cw x y i g k) (i + k) (cw x y i g k (i + k) + x i * y k) j = if j = i + k then cw x y i g k j + x i * y k else cw x y i g k j
  unfold up
  by_cases h : j = i + k
  · rw [if_pos h, if_pos h, h]
  · rw [if_neg h, if_neg h]
theorem cw_bd {x y : Nat → Nat} (hx : ∀ j, x j < 256) (hy : ∀ j, y j < 256) (i k j : Nat) (hi : i < 34) : cw x y i (cv x y 34 i) k j ≤ 2300000 ∧ x i * y k ≤ 65025 := by
  have h1 := (cw_le (x := x) (y := y) (i := i) (B := 65025 * i) (C := 65025 * i + 65025) (by have := hx i; omega) (fun k => by have := hy k; omega) (cv_le (x := x) (y := y) (N := 34) (fun k => by have := hx k; omega) (fun k => by have := hy k; omega) i) rfl k j).1
  have h2 : x i * y k ≤ 255 * 255 := Nat.mul_le_mul (by have := hx i; omega) (by have := hy k; omega)
  omega
def zq (x y : Nat → Nat) (j : Nat) : Nat := if j < 68 then cv x y 34 34 j else 0
theorem zq_le {x y : Nat → Nat} (hx : ∀ j, x j < 256) (hy : ∀ j, y j < 256) (j : Nat) : zq x y j ≤ 2210850 := by
  have h := cv_le (x := x) (y := y) (N := 34) (fun k => by have := hx k; omega) (fun k => by have := hy k; omega) 34 j
  unfold zq
  split <;> omega
theorem tz_a {x y : Nat → Nat} {k : Nat} (h : k < 68) : up (gr (dz (zq x y)) k) k ((cy (zq x y) k + cv x y 34 34 k) % 256) = gr (dz (zq x y)) (k + 1) := by
  rw [← gr_set]
  unfold dz
  rw [show zq x y k = cv x y 34 34 k from if_pos h]
theorem tz_b {x y : Nat → Nat} {k : Nat} (h : ¬ k < 68) : up (gr (dz (zq x y)) k) k (cy (zq x y) k % 256) = gr (dz (zq x y)) (k + 1) := by
  rw [← gr_set]
  unfold dz
  rw [show zq x y k = 0 from if_neg h, Nat.add_zero]
theorem cz_a {x y : Nat → Nat} {k : Nat} (h : k < 68) : (cy (zq x y) k + cv x y 34 34 k) / 256 = cy (zq x y) (k + 1) := by
  show _ = (cy (zq x y) k + zq x y k) / 256
  rw [show zq x y k = cv x y 34 34 k from if_pos h]
theorem cz_b {x y : Nat → Nat} {k : Nat} (h : ¬ k < 68) : cy (zq x y) k / 256 = cy (zq x y) (k + 1) := by
  show _ = (cy (zq x y) k + zq x y k) / 256
  rw [show zq x y k = 0 from if_neg h, Nat.add_zero]
theorem times_val {x y : Nat → Nat} (hx : ∀ j, x j < 256) (hy : ∀ j, y j < 256) : nv (gr (dz (zq x y)) 70) 70 = nv x 34 * nv y 34 := by
  have e1 : nv (zq x y) 70 = nv x 34 * nv y 34 := by
    rw [nv_more (f := zq x y) (m := 68) (n := 70) (by decide) (fun i h1 _ => if_neg (by omega)), nv_cg (f := zq x y) (g := cv x y 34 34) 68 (fun i hi => if_pos hi), nv_cv x y 34 34 (by decide)]
  have e2 : nv x 34 * nv y 34 < 256 ^ 70 := by
    have a := nv_lt (f := x) 34 (fun i _ => hx i)
    have b := nv_lt (f := y) 34 (fun i _ => hy i)
    have c : nv x 34 * nv y 34 ≤ 256 ^ 34 * 256 ^ 34 := Nat.mul_le_mul (Nat.le_of_lt a) (Nat.le_of_lt b)
    have d : (256 : Nat) ^ 34 * 256 ^ 34 < 256 ^ 70 := by decide
    omega
  rw [nv_cg (f := gr (dz (zq x y)) 70) (g := dz (zq x y)) 70 (fun i hi => if_pos hi), (dz_whole (by rw [e1]; exact e2)).2, e1]
theorem fold_xy (x y : Nat → Nat) (hx : ∀ j, x j < 256) (hy : ∀ j, y j < 256) (w : World) : Calls Try.prog 61 #[.agg (ints .i64 (gr (dz (zq x y)) 70) 70).toArray] w fun e w' => e = .returned (.agg (ints .i64 (dg (nv x 34 * nv y 34 % P5)) 34).toArray) ∧ Below w.heap.size w w' := by
  have h := fold_any (gr (dz (zq x y)) 70) (fun j => by unfold gr; split <;> first | exact dz_lt _ _ | decide) w
  rw [times_val hx hy] at h
  exact h
theorem call61 : ∀ args w, (callFunc 61 args).run Try.prog w = .ok (.enter 61 args) w := by intro args w; go_simp
set_option maxHeartbeats 2000000 in
set_option maxRecDepth 100000 in
theorem times_any (x y : Nat → Nat) (hx : ∀ j, x j < 256) (hy : ∀ j, y j < 256) (w : World) :
    Calls Try.prog 53 #[.agg (ints .i64 x 34).toArray, .agg (ints .i64 y 34).toArray] w fun e w' => e = .returned (.agg (ints .i64 (dg (nv x 34 * nv y 34 % P5)) 34).toArray) ∧ Below w.heap.size w w' := by
  have H0 : Hid (_ ∧ _) := ⟨Mm.nil w, Below.refl w.heap.size w⟩
  go_enter Try.func53, Try.ntmps53
  refine wp_seq ?_
  refine walk_seqA 3 [.made (ints .i64 x 34) 82, .made (ints .i64 y 34) 82, .made (ints .i64 (fun _ => 0) 34) 82] (sB H0) ?ho1 ?he1
  case ho1 => exact ak (fun γ => ⟨rfl, fun w' => ex_boxT rfl rfl⟩) (ak (fun γ => ⟨rfl, fun w' => ex_boxT rfl rfl⟩) (ak (fun γ => ⟨rfl, fun w' => ex_mk82 rfl⟩) trivial))
  intro γ w1 l hM hl
  have H1 : Hid (Mm w1 [(γ 0, ints .i64 x 34), (γ 1, ints .i64 y 34), (γ 2, ints .i64 (fun _ => 0) 34)] ∧ _) := growB H0 hM (Nat.le_refl _) hl [0, 1, 2] rfl (by decide)
  have o1_0 := ownB H0 hM (Nat.le_refl _) hl (i := 0) rfl
  have o1_1 := ownB H0 hM (Nat.le_refl _) hl (i := 1) rfl
  have o1_2 := ownB H0 hM (Nat.le_refl _) hl (i := 2) rfl
  clear hM hl l
  generalize γ 0 = γ1_0 at H1 o1_0 ⊢
  generalize γ 1 = γ1_1 at H1 o1_1 ⊢
  generalize γ 2 = γ1_2 at H1 o1_2 ⊢
  clear γ
  refine rest0 rfl (then_normal (wp_seq ?_))
  refine walk_seqA 1 [.made (ints .i64 (fun _ => 0) 68) 89] (sB H1) ?ho2 ?he2
  case ho2 => exact ak (fun γ => ⟨rfl, fun w' => ex_mk89 rfl⟩) trivial
  intro γ w2 l hM hl
  have H2 : Hid (Mm w2 [(γ 0, ints .i64 (fun _ => 0) 68), (γ1_0, ints .i64 x 34), (γ1_1, ints .i64 y 34), (γ1_2, ints .i64 (fun _ => 0) 34)] ∧ _) := growB H1 hM (Nat.le_refl _) hl [0] rfl (by decide)
  have o2_0 := ownB H1 hM (Nat.le_refl _) hl (i := 0) rfl
  clear hM hl l H1
  generalize γ 0 = γ2_0 at H2 o2_0 ⊢
  clear γ
  refine rest0 rfl (then_normal (wp_seq (wp_seq ?_)))
  refine walk_seqB 1 [.quiet (.int .i64 0)] H2 ?ho3 ?he3
  case ho3 => exact ak (fun _ => ⟨rfl, fun _ _ => rfl⟩) trivial
  intro _ w3 H3
  clear H2
  refine rest0 rfl (then_normal (wp_block ?_))
  refine loop_ghost (α := Nat) (fun i a' w' => ∃ s0 : Nat → Value, a' = ⟨#[.agg (ints .i64 x 34).toArray, .agg (ints .i64 y 34).toArray, PT γ1_0 0, PT γ1_1 0, PT γ1_2 0, PT γ2_0 0, .int .i64 ((i : Nat) : Int), s0 7, undef, undef, undef, s0 11, s0 12, s0 13, s0 14, s0 15, s0 16, s0 17, s0 18, s0 19, s0 20, s0 21, s0 22, s0 23, s0 24, s0 25, s0 26, s0 27, s0 28, s0 29, s0 30, s0 31, s0 32, s0 33, s0 34, s0 35, undef, undef, undef, undef, undef, undef, undef, undef, undef, undef, undef, undef, undef, undef, undef, undef, undef, undef, undef], []⟩ ∧ (Mm w' [(γ2_0, ints .i64 (cv x y 34 i) 68), (γ1_0, ints .i64 x 34), (γ1_1, ints .i64 y 34), (γ1_2, ints .i64 (fun _ => 0) 34)] ∧ Below w.heap.size w w') ∧ i ≤ 34) (fun i => 34 - i) 0 ?st0 ?rd0
  case st0 => exact ⟨(slotfn [undef, undef, undef, undef, undef, undef, undef, undef, undef, undef, undef, undef, undef, undef, undef, undef, undef, undef, undef, undef, undef, undef, undef, undef, undef, undef, undef, undef, undef, undef, undef, undef, undef, undef, undef, undef]), rfl, ⟨H3.out.1, H3.out.2⟩, by omega⟩
  intro i a' w4 hI
  obtain ⟨s0, rfl, hMB, hk0⟩ := hI
  have H4 : Hid (_ ∧ _) := hMB
  clear hMB H3
  by_cases hlti : i < 34
  · have hrd : True := trivial
    clear hrd
    refine wp_seq (wp_seq ?_)
    refine walk_seqB 2 [.quiet (.int .i64 ((i : Nat) : Int)), .quiet (.bool true)] H4 ?ho4 ?he4
    case ho4 => exact ak (fun _ => ⟨rfl, fun _ _ => rfl⟩) (ak (by refine fun γ => ⟨rfl, fun w' h => ?_⟩; clear h; go_simp <;> omega) trivial)
    intro _ w5 H5
    clear H4
    refine rest0 rfl (then_normal (wp_cond_true rfl ?_))
    refine wp_skip (then_normal ?_)
    refine wp_seq (wp_block (wp_seq ?_))
    refine walk_seqB 1 [.quiet (.int .i64 0)] H5 ?ho5 ?he5
    case ho5 => exact ak (fun _ => ⟨rfl, fun _ _ => rfl⟩) trivial
    intro _ w6 H6
    clear H5
    refine rest0 rfl (then_normal (wp_block ?_))
    refine loop_ghost (α := Nat) (fun m a' w' => ∃ s2 : Nat → Value, a' = ⟨#[.agg (ints .i64 x 34).toArray, .agg (ints .i64 y 34).toArray, PT γ1_0 0, PT γ1_1 0, PT γ1_2 0, PT γ2_0 0, .int .i64 ((i : Nat) : Int), .int .i64 ((m : Nat) : Int), undef, undef, undef, .int .i64 ((i : Nat) : Int), .bool true, s0 13, s0 14, s2 15, s2 16, s2 17, s2 18, s2 19, s2 20, s2 21, s2 22, s2 23, s2 24, s2 25, s2 26, s2 27, s2 28, s2 29, s2 30, s2 31, s2 32, s2 33, s2 34, s2 35, undef, undef, undef, undef, undef, undef, undef, undef, undef, undef, undef, undef, undef, undef, undef, undef, undef, undef, undef], []⟩ ∧ (Mm w' [(γ2_0, ints .i64 (cw x y i (cv x y 34 i) m) 68), (γ1_0, ints .i64 x 34), (γ1_1, ints .i64 y 34), (γ1_2, ints .i64 (fun _ => 0) 34)] ∧ Below w.heap.size w w') ∧ m ≤ 34) (fun m => 34 - m) 0 ?st2 ?rd2
    case st2 => exact ⟨(slotfn [undef, undef, undef, undef, undef, undef, undef, undef, undef, undef, undef, undef, undef, undef, undef, s0 15, s0 16, s0 17, s0 18, s0 19, s0 20, s0 21, s0 22, s0 23, s0 24, s0 25, s0 26, s0 27, s0 28, s0 29, s0 30, s0 31, s0 32, s0 33, s0 34, s0 35]), rfl, ⟨H6.out.1, H6.out.2⟩, by omega⟩
    intro m a' w7 hI
    obtain ⟨s2, rfl, hMB, hk2⟩ := hI
    have H7 : Hid (_ ∧ _) := hMB
    clear hMB H6
    by_cases hltm : m < 34
    · have hrd : True := trivial
      clear hrd
      have hpr := cw_bd hx hy i m (i + m) hlti
      refine wp_seq (wp_seq ?_)
      refine walk_seqB 2 [.quiet (.int .i64 ((m : Nat) : Int)), .quiet (.bool true)] H7 ?ho6 ?he6
      case ho6 => exact ak (fun _ => ⟨rfl, fun _ _ => rfl⟩) (ak (by refine fun γ => ⟨rfl, fun w' h => ?_⟩; clear h; go_simp <;> omega) trivial)
      intro _ w8 H8
      clear H7
      refine rest0 rfl (then_normal (wp_cond_true rfl ?_))
      refine wp_skip (then_normal ?_)
      refine wp_seq (wp_block ?_)
      refine walk_anyB 17 [.quiet (.int .i64 ((i : Nat) : Int)), .quiet (.int .i64 ((m : Nat) : Int)), .quiet (.int .i64 ((i + m : Nat) : Int)), .quiet (.int .i64 ((i : Nat) : Int)), .quiet (.int .i64 ((m : Nat) : Int)), .quiet (.int .i64 ((i + m : Nat) : Int)), .quiet (PT γ2_0 (i + m)), .quiet (.int .i64 (((cw x y i (cv x y 34 i) m) (i + m) : Nat) : Int)), .quiet (.int .i64 ((i : Nat) : Int)), .quiet (PT γ1_0 i), .quiet (.int .i64 ((x i : Nat) : Int)), .quiet (.int .i64 ((m : Nat) : Int)), .quiet (PT γ1_1 m), .quiet (.int .i64 ((y m : Nat) : Int)), .quiet (.int .i64 (((x i) * (y m) : Nat) : Int)), .quiet (.int .i64 ((((cw x y i (cv x y 34 i) m) (i + m)) + ((x i) * (y m)) : Nat) : Int)), .quiet (PT γ2_0 (i + m))] H8 ?ho7 ?he7
      case ho7 => exact ak (fun _ => ⟨rfl, fun _ _ => rfl⟩) (ak (fun _ => ⟨rfl, fun _ _ => rfl⟩) (ak (by refine fun γ => ⟨rfl, fun w' h => ?_⟩; clear h; go_simp; rw [IntKind.wrap_i64]; omega) (ak (fun _ => ⟨rfl, fun _ _ => rfl⟩) (ak (fun _ => ⟨rfl, fun _ _ => rfl⟩) (ak (by refine fun γ => ⟨rfl, fun w' h => ?_⟩; clear h; go_simp; rw [IntKind.wrap_i64]; omega) (ak (fun γ => ⟨rfl, fun w' _ => ex_ix0_89 (j := i + m) rfl rfl rfl (by omega)⟩) (ak (fun γ => ⟨rfl, fun w' h => ex_loadC h 0 rfl rfl rfl Try.isAgg3 (ints_get _ _ (by omega))⟩) (ak (fun _ => ⟨rfl, fun _ _ => rfl⟩) (ak (fun γ => ⟨rfl, fun w' _ => ex_ix0_82 (j := i) rfl rfl rfl (by omega)⟩) (ak (fun γ => ⟨rfl, fun w' h => ex_loadC h 1 rfl rfl rfl Try.isAgg3 (ints_get _ _ (by omega))⟩) (ak (fun _ => ⟨rfl, fun _ _ => rfl⟩) (ak (fun γ => ⟨rfl, fun w' _ => ex_ix0_82 (j := m) rfl rfl rfl (by omega)⟩) (ak (fun γ => ⟨rfl, fun w' h => ex_loadC h 2 rfl rfl rfl Try.isAgg3 (ints_get _ _ (by omega))⟩) (ak (fun γ => ⟨rfl, fun w' _ => ex_mul3 (a := x i) (b := y m) (Nat.lt_of_le_of_lt hpr.2 (by decide)) rfl rfl rfl⟩) (ak (by refine fun γ => ⟨rfl, fun w' h => ?_⟩; clear h; go_simp; rw [IntKind.wrap_i64]; omega) (ak (fun γ => ⟨rfl, fun w' _ => ex_ix0_89 (j := i + m) rfl rfl rfl (by omega)⟩) trivial))))))))))))))))
      intro _ w9 H9
      clear H8
      refine rest_at (l := [17]) rfl ?_
      refine rest_store rfl rfl rfl (ex_storeI H9.out.1 0 rfl rfl Try.sizeOf3 rfl rfl (by rw [ints_len]; omega)) ?_
      have H10 : Hid (Mm (w9.setCells γ2_0 (i + m) ([Value.int .i64 ((((cw x y i (cv x y 34 i) m) (i + m)) + ((x i) * (y m)) : Nat) : Int)])) [(γ2_0, ints .i64 (cw x y i (cv x y 34 i) (m + 1)) 68), (γ1_0, ints .i64 x 34), (γ1_1, ints .i64 y 34), (γ1_2, ints .i64 (fun _ => 0) 34)] ∧ Below w.heap.size w (w9.setCells γ2_0 (i + m) ([Value.int .i64 ((((cw x y i (cv x y 34 i) m) (i + m)) + ((x i) * (y m)) : Nat) : Int)]))) := ⟨by
        have h := H9.out.1.put 0 (off := i + m) (vs := [Value.int .i64 ((((cw x y i (cv x y 34 i) m) (i + m)) + ((x i) * (y m)) : Nat) : Int)]) rfl (by rw [ints_len]; simp only [List.length_cons, List.length_nil]; omega)
        rw [ints_patch _ _ _ _ (by omega), show ints .i64 (up (cw x y i (cv x y 34 i) m) (i + m) (((cw x y i (cv x y 34 i) m) (i + m)) + ((x i) * (y m)))) 68 = ints .i64 (cw x y i (cv x y 34 i) (m + 1)) 68 by rw [show (up (cw x y i (cv x y 34 i) m) (i + m) (((cw x y i (cv x y 34 i) m) (i + m)) + ((x i) * (y m)))) = cw x y i (cv x y 34 i) (m + 1) from cw_set x y i _ m]] at h
        exact h, below_setCells _ o2_0.out _ _ _ H9.out.2⟩
      clear H9
      generalize hgw : World.setCells _ _ _ _ = w10 at H10 ⊢
      clear hgw
      refine rest_nil (block_normal (then_normal ?_))
      refine walk_seqB 2 [.quiet (.int .i64 ((m : Nat) : Int)), .quiet (.int .i64 ((m + 1 : Nat) : Int))] H10 ?ho8 ?he8
      case ho8 => exact ak (fun _ => ⟨rfl, fun _ _ => rfl⟩) (ak (by refine fun γ => ⟨rfl, fun w' h => ?_⟩; clear h; go_simp; rw [IntKind.wrap_i64]; omega) trivial)
      intro _ w11 H11
      clear H10
      refine rest_at (l := [2]) rfl ?_
      refine rest_set (d := 7) rfl rfl rfl rfl ?_
      simp only [Act.put, sa, sz, ss]
      refine rest_nil (then_normal ?_)
      exact ⟨m + 1, ⟨(slotfn [undef, undef, undef, undef, undef, undef, undef, undef, undef, undef, undef, undef, undef, undef, undef, .int .i64 ((m : Nat) : Int), .bool true, .int .i64 ((m : Nat) : Int), .int .i64 ((m + 1 : Nat) : Int), .int .i64 ((i : Nat) : Int), .int .i64 ((m : Nat) : Int), .int .i64 ((i + m : Nat) : Int), .int .i64 ((i : Nat) : Int), .int .i64 ((m : Nat) : Int), .int .i64 ((i + m : Nat) : Int), PT γ2_0 (i + m), .int .i64 (((cw x y i (cv x y 34 i) m) (i + m) : Nat) : Int), .int .i64 ((i : Nat) : Int), PT γ1_0 i, .int .i64 ((x i : Nat) : Int), .int .i64 ((m : Nat) : Int), PT γ1_1 m, .int .i64 ((y m : Nat) : Int), .int .i64 (((x i) * (y m) : Nat) : Int), .int .i64 ((((cw x y i (cv x y 34 i) m) (i + m)) + ((x i) * (y m)) : Nat) : Int), PT γ2_0 (i + m)]), rfl, ⟨H11.out.1, H11.out.2⟩, by omega⟩, by omega⟩
    have hmN : m = 34 := by omega
    subst hmN
    refine wp_seq (wp_seq ?_)
    refine walk_seqB 2 [.quiet (.int .i64 ((34 : Nat) : Int)), .quiet (.bool false)] H7 ?ho9 ?he9
    case ho9 => exact ak (fun _ => ⟨rfl, fun _ _ => rfl⟩) (ak (by refine fun γ => ⟨rfl, fun w' h => ?_⟩; clear h; go_simp <;> omega) trivial)
    intro _ w12 H12
    clear H7
    refine rest0 rfl (then_normal (wp_cond_false rfl ?_))
    refine wp_exit ?_
    repeat refine then_exit ?_
    refine block_exit ?_
    refine block_normal (then_normal ?_)
    refine walk_seqB 2 [.quiet (.int .i64 ((i : Nat) : Int)), .quiet (.int .i64 ((i + 1 : Nat) : Int))] H12 ?ho10 ?he10
    case ho10 => exact ak (fun _ => ⟨rfl, fun _ _ => rfl⟩) (ak (by refine fun γ => ⟨rfl, fun w' h => ?_⟩; clear h; go_simp; rw [IntKind.wrap_i64]; omega) trivial)
    intro _ w13 H13
    clear H12
    refine rest_at (l := [2]) rfl ?_
    refine rest_set (d := 6) rfl rfl rfl rfl ?_
    simp only [Act.put, sa, sz, ss]
    refine rest_nil (then_normal ?_)
    exact ⟨i + 1, ⟨(slotfn [undef, undef, undef, undef, undef, undef, undef, .int .i64 ((34 : Nat) : Int), undef, undef, undef, .int .i64 ((i : Nat) : Int), .bool true, .int .i64 ((i : Nat) : Int), .int .i64 ((i + 1 : Nat) : Int), .int .i64 ((34 : Nat) : Int), .bool false, s2 17, s2 18, s2 19, s2 20, s2 21, s2 22, s2 23, s2 24, s2 25, s2 26, s2 27, s2 28, s2 29, s2 30, s2 31, s2 32, s2 33, s2 34, s2 35]), rfl, ⟨H13.out.1, H13.out.2⟩, by omega⟩, by omega⟩
  have hiN : i = 34 := by omega
  subst hiN
  refine wp_seq (wp_seq ?_)
  refine walk_seqB 2 [.quiet (.int .i64 ((34 : Nat) : Int)), .quiet (.bool false)] H4 ?ho11 ?he11
  case ho11 => exact ak (fun _ => ⟨rfl, fun _ _ => rfl⟩) (ak (by refine fun γ => ⟨rfl, fun w' h => ?_⟩; clear h; go_simp <;> omega) trivial)
  intro _ w14 H14
  clear H4
  refine rest0 rfl (then_normal (wp_cond_false rfl ?_))
  refine wp_exit ?_
  repeat refine then_exit ?_
  refine block_exit ?_
  refine then_normal (wp_seq ?_)
  refine walk_seqA 1 [.made (ints .i64 (fun _ => 0) 70) 90] (sB H14) ?ho12 ?he12
  case ho12 => exact ak (fun γ => ⟨rfl, fun w' => ex_mk90 rfl⟩) trivial
  intro γ w15 l hM hl
  have H15 : Hid (Mm w15 [(γ 0, ints .i64 (fun _ => 0) 70), (γ2_0, ints .i64 (cv x y 34 34) 68), (γ1_0, ints .i64 x 34), (γ1_1, ints .i64 y 34), (γ1_2, ints .i64 (fun _ => 0) 34)] ∧ _) := growB H14 hM (Nat.le_refl _) hl [0] rfl (by decide)
  have o12_0 := ownB H14 hM (Nat.le_refl _) hl (i := 0) rfl
  clear hM hl l H14
  generalize γ 0 = γ12_0 at H15 o12_0 ⊢
  clear γ
  refine rest0 rfl (then_normal (wp_seq ?_))
  refine walk_seqB 1 [.quiet (.int .i64 0)] H15 ?ho13 ?he13
  case ho13 => exact ak (fun _ => ⟨rfl, fun _ _ => rfl⟩) trivial
  intro _ w16 H16
  clear H15
  refine rest0 rfl (then_normal (wp_seq (wp_seq ?_)))
  refine walk_seqB 1 [.quiet (.int .i64 0)] H16 ?ho14 ?he14
  case ho14 => exact ak (fun _ => ⟨rfl, fun _ _ => rfl⟩) trivial
  intro _ w17 H17
  clear H16
  refine rest0 rfl (then_normal (wp_block ?_))
  refine loop_ghost (α := Nat) (fun k a' w' => ∃ s4 : Nat → Value, a' = ⟨#[.agg (ints .i64 x 34).toArray, .agg (ints .i64 y 34).toArray, PT γ1_0 0, PT γ1_1 0, PT γ1_2 0, PT γ2_0 0, .int .i64 ((34 : Nat) : Int), s0 7, PT γ12_0 0, .int .i64 ((cy (zq x y) k : Nat) : Int), .int .i64 ((k : Nat) : Int), .int .i64 ((34 : Nat) : Int), .bool false, s0 13, s0 14, s0 15, s0 16, s0 17, s0 18, s0 19, s0 20, s0 21, s0 22, s0 23, s0 24, s0 25, s0 26, s0 27, s0 28, s0 29, s0 30, s0 31, s0 32, s0 33, s0 34, s0 35, s4 36, s4 37, s4 38, s4 39, s4 40, s4 41, s4 42, s4 43, s4 44, s4 45, s4 46, s4 47, s4 48, s4 49, s4 50, s4 51, s4 52, undef, undef], []⟩ ∧ (Mm w' [(γ12_0, ints .i64 (gr (dz (zq x y)) k) 70), (γ2_0, ints .i64 (cv x y 34 34) 68), (γ1_0, ints .i64 x 34), (γ1_1, ints .i64 y 34), (γ1_2, ints .i64 (fun _ => 0) 34)] ∧ Below w.heap.size w w') ∧ k ≤ 70) (fun k => 70 - k) 0 ?st4 ?rd4
  case st4 => exact ⟨(slotfn [undef, undef, undef, undef, undef, undef, undef, undef, undef, undef, undef, undef, undef, undef, undef, undef, undef, undef, undef, undef, undef, undef, undef, undef, undef, undef, undef, undef, undef, undef, undef, undef, undef, undef, undef, undef, undef, undef, undef, undef, undef, undef, undef, undef, undef, undef, undef, undef, undef, undef, undef, undef, undef]), rfl, ⟨by rw [gr_zero]; exact H17.out.1, H17.out.2⟩, by omega⟩
  intro k a' w18 hI
  obtain ⟨s4, rfl, hMB, hk4⟩ := hI
  have H18 : Hid (_ ∧ _) := hMB
  clear hMB H17
  by_cases hltk : k < 70
  · have hrd : True := trivial
    clear hrd
    by_cases h68 : k < 68
    · have hrd : True := trivial
      clear hrd
      have hc := cy_le (zq_le hx hy) (C := 8671) (by decide) k
      have hcv := cv_le (x := x) (y := y) (N := 34) (fun k => by have := hx k; omega) (fun k => by have := hy k; omega) 34 k
      refine wp_seq (wp_seq ?_)
      refine walk_seqB 2 [.quiet (.int .i64 ((k : Nat) : Int)), .quiet (.bool true)] H18 ?ho15 ?he15
      case ho15 => exact ak (fun _ => ⟨rfl, fun _ _ => rfl⟩) (ak (by refine fun γ => ⟨rfl, fun w' h => ?_⟩; clear h; go_simp <;> omega) trivial)
      intro _ w19 H19
      clear H18
      refine rest0 rfl (then_normal (wp_cond_true rfl ?_))
      refine wp_skip (then_normal ?_)
      refine wp_seq (wp_block ?_)
      refine wp_seq (wp_seq ?_)
      refine walk_seqB 2 [.quiet (.int .i64 ((k : Nat) : Int)), .quiet (.bool true)] H19 ?ho16 ?he16
      case ho16 => exact ak (fun _ => ⟨rfl, fun _ _ => rfl⟩) (ak (by refine fun γ => ⟨rfl, fun w' h => ?_⟩; clear h; go_simp <;> omega) trivial)
      intro _ w20 H20
      clear H19
      refine rest0 rfl (then_normal (wp_cond_true rfl ?_))
      refine walk_seqB 5 [.quiet (.int .i64 ((cy (zq x y) k : Nat) : Int)), .quiet (.int .i64 ((k : Nat) : Int)), .quiet (PT γ2_0 k), .quiet (.int .i64 (((cv x y 34 34) k : Nat) : Int)), .quiet (.int .i64 (((cy (zq x y) k) + ((cv x y 34 34) k) : Nat) : Int))] H20 ?ho17 ?he17
      case ho17 => exact ak (fun _ => ⟨rfl, fun _ _ => rfl⟩) (ak (fun _ => ⟨rfl, fun _ _ => rfl⟩) (ak (fun γ => ⟨rfl, fun w' _ => ex_ix0_89 (j := k) rfl rfl rfl (by omega)⟩) (ak (fun γ => ⟨rfl, fun w' h => ex_loadC h 1 rfl rfl rfl Try.isAgg3 (ints_get _ _ (by omega))⟩) (ak (by refine fun γ => ⟨rfl, fun w' h => ?_⟩; clear h; go_simp; rw [IntKind.wrap_i64]; omega) trivial))))
      intro _ w21 H21
      clear H20
      refine rest_at (l := [5]) rfl ?_
      refine rest_set (d := 9) rfl rfl rfl rfl ?_
      simp only [Act.put, sa, sz, ss]
      refine rest_nil (then_normal (wp_seq ?_))
      refine walk_seqB 4 [.quiet (.int .i64 ((k : Nat) : Int)), .quiet (.int .i64 (((cy (zq x y) k) + ((cv x y 34 34) k) : Nat) : Int)), .quiet (.int .i64 ((((cy (zq x y) k) + ((cv x y 34 34) k)) % 256 : Nat) : Int)), .quiet (PT γ12_0 k)] H21 ?ho18 ?he18
      case ho18 => exact ak (fun _ => ⟨rfl, fun _ _ => rfl⟩) (ak (fun _ => ⟨rfl, fun _ _ => rfl⟩) (ak (fun γ => ⟨rfl, fun w' _ => ex_rem3 (a := (cy (zq x y) k) + ((cv x y 34 34) k)) (b := 256) (by omega) (by omega) rfl rfl rfl⟩) (ak (fun γ => ⟨rfl, fun w' _ => ex_ix0_90 (j := k) rfl rfl rfl (by omega)⟩) trivial)))
      intro _ w22 H22
      clear H21
      refine rest_at (l := [4]) rfl ?_
      refine rest_store rfl rfl rfl (ex_storeI H22.out.1 0 rfl rfl Try.sizeOf3 rfl rfl (by rw [ints_len]; omega)) ?_
      have H23 : Hid (Mm (w22.setCells γ12_0 k ([Value.int .i64 ((((cy (zq x y) k) + ((cv x y 34 34) k)) % 256 : Nat) : Int)])) [(γ12_0, ints .i64 (gr (dz (zq x y)) (k + 1)) 70), (γ2_0, ints .i64 (cv x y 34 34) 68), (γ1_0, ints .i64 x 34), (γ1_1, ints .i64 y 34), (γ1_2, ints .i64 (fun _ => 0) 34)] ∧ Below w.heap.size w (w22.setCells γ12_0 k ([Value.int .i64 ((((cy (zq x y) k) + ((cv x y 34 34) k)) % 256 : Nat) : Int)]))) := ⟨by
        have h := H22.out.1.put 0 (off := k) (vs := [Value.int .i64 ((((cy (zq x y) k) + ((cv x y 34 34) k)) % 256 : Nat) : Int)]) rfl (by rw [ints_len]; simp only [List.length_cons, List.length_nil]; omega)
        rw [ints_patch _ _ _ _ (by omega), show ints .i64 (up (gr (dz (zq x y)) k) k (((cy (zq x y) k) + ((cv x y 34 34) k)) % 256)) 70 = ints .i64 (gr (dz (zq x y)) (k + 1)) 70 by rw [show (up (gr (dz (zq x y)) k) k (((cy (zq x y) k) + ((cv x y 34 34) k)) % 256)) = gr (dz (zq x y)) (k + 1) from tz_a h68]] at h
        exact h, below_setCells _ o12_0.out _ _ _ H22.out.2⟩
      clear H22
      generalize hgw : World.setCells _ _ _ _ = w23 at H23 ⊢
      clear hgw
      refine rest_nil (then_normal ?_)
      refine walk_seqB 2 [.quiet (.int .i64 (((cy (zq x y) k) + ((cv x y 34 34) k) : Nat) : Int)), .quiet (.int .i64 ((((cy (zq x y) k) + ((cv x y 34 34) k)) / 256 : Nat) : Int))] H23 ?ho19 ?he19
      case ho19 => exact ak (fun _ => ⟨rfl, fun _ _ => rfl⟩) (ak (fun γ => ⟨rfl, fun w' _ => ex_quo3 (a := (cy (zq x y) k) + ((cv x y 34 34) k)) (b := 256) (by omega) (by omega) rfl rfl rfl⟩) trivial)
      intro _ w24 H24
      clear H23
      refine rest_at (l := [2]) rfl ?_
      refine rest_set (d := 9) rfl rfl rfl rfl ?_
      simp only [Act.put, sa, sz, ss]
      refine rest_nil (block_normal (then_normal ?_))
      refine walk_seqB 2 [.quiet (.int .i64 ((k : Nat) : Int)), .quiet (.int .i64 ((k + 1 : Nat) : Int))] H24 ?ho20 ?he20
      case ho20 => exact ak (fun _ => ⟨rfl, fun _ _ => rfl⟩) (ak (by refine fun γ => ⟨rfl, fun w' h => ?_⟩; clear h; go_simp; rw [IntKind.wrap_i64]; omega) trivial)
      intro _ w25 H25
      clear H24
      refine rest_at (l := [2]) rfl ?_
      refine rest_set (d := 10) rfl rfl rfl rfl ?_
      simp only [Act.put, sa, sz, ss]
      refine rest_nil (then_normal ?_)
      exact ⟨k + 1, ⟨(slotfn [undef, undef, undef, undef, undef, undef, undef, undef, undef, undef, undef, undef, undef, undef, undef, undef, undef, undef, undef, undef, undef, undef, undef, undef, undef, undef, undef, undef, undef, undef, undef, undef, undef, undef, undef, undef, .int .i64 ((k : Nat) : Int), .bool true, .int .i64 ((k : Nat) : Int), .int .i64 ((k + 1 : Nat) : Int), .int .i64 ((k : Nat) : Int), .bool true, .int .i64 ((cy (zq x y) k : Nat) : Int), .int .i64 ((k : Nat) : Int), PT γ2_0 k, .int .i64 (((cv x y 34 34) k : Nat) : Int), .int .i64 (((cy (zq x y) k) + ((cv x y 34 34) k) : Nat) : Int), .int .i64 ((k : Nat) : Int), .int .i64 (((cy (zq x y) k) + ((cv x y 34 34) k) : Nat) : Int), .int .i64 ((((cy (zq x y) k) + ((cv x y 34 34) k)) % 256 : Nat) : Int), PT γ12_0 k, .int .i64 (((cy (zq x y) k) + ((cv x y 34 34) k) : Nat) : Int), .int .i64 ((((cy (zq x y) k) + ((cv x y 34 34) k)) / 256 : Nat) : Int)]), by rw [← cz_a h68]; rfl, ⟨H25.out.1, H25.out.2⟩, by omega⟩, by omega⟩
    · have hrd : True := trivial
      clear hrd
      have hc := cy_le (zq_le hx hy) (C := 8671) (by decide) k
      have hcv := cv_le (x := x) (y := y) (N := 34) (fun k => by have := hx k; omega) (fun k => by have := hy k; omega) 34 k
      refine wp_seq (wp_seq ?_)
      refine walk_seqB 2 [.quiet (.int .i64 ((k : Nat) : Int)), .quiet (.bool true)] H18 ?ho21 ?he21
      case ho21 => exact ak (fun _ => ⟨rfl, fun _ _ => rfl⟩) (ak (by refine fun γ => ⟨rfl, fun w' h => ?_⟩; clear h; go_simp <;> omega) trivial)
      intro _ w26 H26
      clear H18
      refine rest0 rfl (then_normal (wp_cond_true rfl ?_))
      refine wp_skip (then_normal ?_)
      refine wp_seq (wp_block ?_)
      refine wp_seq (wp_seq ?_)
      refine walk_seqB 2 [.quiet (.int .i64 ((k : Nat) : Int)), .quiet (.bool false)] H26 ?ho22 ?he22
      case ho22 => exact ak (fun _ => ⟨rfl, fun _ _ => rfl⟩) (ak (by refine fun γ => ⟨rfl, fun w' h => ?_⟩; clear h; go_simp <;> omega) trivial)
      intro _ w27 H27
      clear H26
      refine rest0 rfl (then_normal (wp_cond_false rfl ?_))
      refine wp_skip (then_normal (wp_seq ?_))
      refine walk_seqB 4 [.quiet (.int .i64 ((k : Nat) : Int)), .quiet (.int .i64 ((cy (zq x y) k : Nat) : Int)), .quiet (.int .i64 (((cy (zq x y) k) % 256 : Nat) : Int)), .quiet (PT γ12_0 k)] H27 ?ho23 ?he23
      case ho23 => exact ak (fun _ => ⟨rfl, fun _ _ => rfl⟩) (ak (fun _ => ⟨rfl, fun _ _ => rfl⟩) (ak (fun γ => ⟨rfl, fun w' _ => ex_rem3 (a := cy (zq x y) k) (b := 256) (by omega) (by omega) rfl rfl rfl⟩) (ak (fun γ => ⟨rfl, fun w' _ => ex_ix0_90 (j := k) rfl rfl rfl (by omega)⟩) trivial)))
      intro _ w28 H28
      clear H27
      refine rest_at (l := [4]) rfl ?_
      refine rest_store rfl rfl rfl (ex_storeI H28.out.1 0 rfl rfl Try.sizeOf3 rfl rfl (by rw [ints_len]; omega)) ?_
      have H29 : Hid (Mm (w28.setCells γ12_0 k ([Value.int .i64 (((cy (zq x y) k) % 256 : Nat) : Int)])) [(γ12_0, ints .i64 (gr (dz (zq x y)) (k + 1)) 70), (γ2_0, ints .i64 (cv x y 34 34) 68), (γ1_0, ints .i64 x 34), (γ1_1, ints .i64 y 34), (γ1_2, ints .i64 (fun _ => 0) 34)] ∧ Below w.heap.size w (w28.setCells γ12_0 k ([Value.int .i64 (((cy (zq x y) k) % 256 : Nat) : Int)]))) := ⟨by
        have h := H28.out.1.put 0 (off := k) (vs := [Value.int .i64 (((cy (zq x y) k) % 256 : Nat) : Int)]) rfl (by rw [ints_len]; simp only [List.length_cons, List.length_nil]; omega)
        rw [ints_patch _ _ _ _ (by omega), show ints .i64 (up (gr (dz (zq x y)) k) k ((cy (zq x y) k) % 256)) 70 = ints .i64 (gr (dz (zq x y)) (k + 1)) 70 by rw [show (up (gr (dz (zq x y)) k) k ((cy (zq x y) k) % 256)) = gr (dz (zq x y)) (k + 1) from tz_b h68]] at h
        exact h, below_setCells _ o12_0.out _ _ _ H28.out.2⟩
      clear H28
      generalize hgw : World.setCells _ _ _ _ = w29 at H29 ⊢
      clear hgw
      refine rest_nil (then_normal ?_)
      refine walk_seqB 2 [.quiet (.int .i64 ((cy (zq x y) k : Nat) : Int)), .quiet (.int .i64 (((cy (zq x y) k) / 256 : Nat) : Int))] H29 ?ho24 ?he24
      case ho24 => exact ak (fun _ => ⟨rfl, fun _ _ => rfl⟩) (ak (fun γ => ⟨rfl, fun w' _ => ex_quo3 (a := cy (zq x y) k) (b := 256) (by omega) (by omega) rfl rfl rfl⟩) trivial)
      intro _ w30 H30
      clear H29
      refine rest_at (l := [2]) rfl ?_
      refine rest_set (d := 9) rfl rfl rfl rfl ?_
      simp only [Act.put, sa, sz, ss]
      refine rest_nil (block_normal (then_normal ?_))
      refine walk_seqB 2 [.quiet (.int .i64 ((k : Nat) : Int)), .quiet (.int .i64 ((k + 1 : Nat) : Int))] H30 ?ho25 ?he25
      case ho25 => exact ak (fun _ => ⟨rfl, fun _ _ => rfl⟩) (ak (by refine fun γ => ⟨rfl, fun w' h => ?_⟩; clear h; go_simp; rw [IntKind.wrap_i64]; omega) trivial)
      intro _ w31 H31
      clear H30
      refine rest_at (l := [2]) rfl ?_
      refine rest_set (d := 10) rfl rfl rfl rfl ?_
      simp only [Act.put, sa, sz, ss]
      refine rest_nil (then_normal ?_)
      exact ⟨k + 1, ⟨(slotfn [undef, undef, undef, undef, undef, undef, undef, undef, undef, undef, undef, undef, undef, undef, undef, undef, undef, undef, undef, undef, undef, undef, undef, undef, undef, undef, undef, undef, undef, undef, undef, undef, undef, undef, undef, undef, .int .i64 ((k : Nat) : Int), .bool true, .int .i64 ((k : Nat) : Int), .int .i64 ((k + 1 : Nat) : Int), .int .i64 ((k : Nat) : Int), .bool false, s4 42, s4 43, s4 44, s4 45, s4 46, .int .i64 ((k : Nat) : Int), .int .i64 ((cy (zq x y) k : Nat) : Int), .int .i64 (((cy (zq x y) k) % 256 : Nat) : Int), PT γ12_0 k, .int .i64 ((cy (zq x y) k : Nat) : Int), .int .i64 (((cy (zq x y) k) / 256 : Nat) : Int)]), by rw [← cz_b h68]; rfl, ⟨H31.out.1, H31.out.2⟩, by omega⟩, by omega⟩
  have hkN : k = 70 := by omega
  subst hkN
  refine wp_seq (wp_seq ?_)
  refine walk_seqB 2 [.quiet (.int .i64 ((70 : Nat) : Int)), .quiet (.bool false)] H18 ?ho26 ?he26
  case ho26 => exact ak (fun _ => ⟨rfl, fun _ _ => rfl⟩) (ak (by refine fun γ => ⟨rfl, fun w' h => ?_⟩; clear h; go_simp <;> omega) trivial)
  intro _ w32 H32
  clear H18
  refine rest0 rfl (then_normal (wp_cond_false rfl ?_))
  refine wp_exit ?_
  repeat refine then_exit ?_
  refine block_exit ?_
  refine then_normal (wp_seq ?_)
  refine walk_seqB 2 [.quiet (.agg (ints .i64 (gr (dz (zq x y)) 70) 70).toArray), .call (.agg (ints .i64 (dg (nv x 34 * nv y 34 % P5)) 34).toArray)] H32 ?ho27 ?he27
  case ho27 => exact ak (fun γ => ⟨rfl, fun w' h => ex_loadT h 0 rfl rfl rfl Try.isAgg90 Try.sizeOf90 (ints_whole _ _ _) (ints_len _ _ _)⟩) (ak (fun γ => ⟨rfl, fun w' h => ⟨61, #[.agg (ints .i64 (gr (dz (zq x y)) 70) 70).toArray], exec_call rfl call61 rfl (mpn rfl), fold_xy x y hx hy w'⟩⟩) trivial)
  intro _ w33 H33
  clear H32
  refine rest_at (l := [2]) rfl ?_
  refine rest_store rfl rfl rfl (ex_storeT (vs := ints .i64 (dg (nv x 34 * nv y 34 % P5)) 34) H33.out.1 4 rfl rfl rfl rfl (by rw [ints_len]; exact Try.sizeOf82) (ints_all _ _ _) (by simp [ints_len])) ?_
  have H34 : Hid (Mm (w33.setCells γ1_2 0 (ints .i64 (dg (nv x 34 * nv y 34 % P5)) 34)) [(γ12_0, ints .i64 (gr (dz (zq x y)) 70) 70), (γ2_0, ints .i64 (cv x y 34 34) 68), (γ1_0, ints .i64 x 34), (γ1_1, ints .i64 y 34), (γ1_2, ints .i64 (dg (nv x 34 * nv y 34 % P5)) 34)] ∧ Below w.heap.size w (w33.setCells γ1_2 0 (ints .i64 (dg (nv x 34 * nv y 34 % P5)) 34))) := ⟨by
    have h := H33.out.1.put 4 (off := 0) (vs := ints .i64 (dg (nv x 34 * nv y 34 % P5)) 34) rfl (by simp [ints_len])
    rw [ints_patch0 _ _ _ _] at h
    exact h, below_setCells _ o1_2.out _ _ _ H33.out.2⟩
  clear H33
  generalize hgw : World.setCells _ _ _ _ = w34 at H34 ⊢
  clear hgw
  refine rest_nil (then_normal (wp_ret ?_))
  repeat (first | refine then_ret ?_ | refine block_ret ?_)
  have hf0 := var_T H34.out.1 4 rfl Try.isAgg82 Try.sizeOf82 (ints_len _ _ _)
  refine bodyPost_ret (v := .agg (ints .i64 (dg (nv x 34 * nv y 34 % P5)) 34).toArray) (by simp [results, Try.results53, asAddr, hf0]) rfl ?_
  exact ⟨rfl, H34.out.2⟩
end Rg
end Go.Proofs.Ytkkippfikfjdpaa
end
