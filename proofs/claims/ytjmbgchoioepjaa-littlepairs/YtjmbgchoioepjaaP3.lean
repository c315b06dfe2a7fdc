/- Texts of the proof, joined. -/
import Derived.Test.YtjmbgchoioepjaaP2
section
namespace Go.Proofs.Ytjmbgchoioepjaa
open Go.RowKit
namespace Rg
theorem len_in (n : Nat) (hn : n < 18446744073709551616) (w : World) : Calls Try.prog 57 #[U n] w fun e w' => e = .returned (.int .i64 ((bl n : Nat) : Int)) ∧ Below w.heap.size w w' := by
  have h := len64_any (n : Int) w (by omega) (by omega)
  rw [Int.toNat_natCast] at h
  exact Calls.mono h (fun e w' h => ⟨h.1, by rw [h.2]; exact Below.refl _ _⟩)
theorem call44 : ∀ args w, (callFunc 44 args).run Try.prog w = .ok (.enter 44 args) w := by intro args w; go_simp
theorem call47 : ∀ args w, (callFunc 47 args).run Try.prog w = .ok (.enter 47 args) w := by intro args w; go_simp
theorem call50 : ∀ args w, (callFunc 50 args).run Try.prog w = .ok (.enter 50 args) w := by intro args w; go_simp
theorem call57 : ∀ args w, (callFunc 57 args).run Try.prog w = .ok (.enter 57 args) w := by intro args w; go_simp
section
variable {p r c gx gy : Nat}
set_option maxHeartbeats 1000000 in
set_option maxRecDepth 100000 in
theorem multiple_any (hp : Pr p) (X Y : Nat) (Z : Bool) (hX : X < p) (hY : Y < p) (n : Nat) (hn : n < 18446744073709551616) (w : World) :
    Calls Try.prog 47 #[.agg (kd p r c gx gy).toArray, .agg (pt X Y Z).toArray, U n] w fun e w' => e = .returned (V (tc (mt p X Y Z n))) ∧ Below w.heap.size w w' := by
  have H0 : Hid (_ ∧ _) := ⟨Mm.nil w, Below.refl w.heap.size w⟩
  go_enter Try.func47, Try.ntmps47
  refine wp_seq ?_
  refine walk_seqA 3 [.made (kd p r c gx gy) 72, .made (pt X Y Z) 25, .made (tr 0 0 0) 77] (sB H0) ?ho1 ?he1
  case ho1 => exact ak (fun γ => ⟨rfl, fun w' => ex_boxT rfl rfl⟩) (ak (fun γ => ⟨rfl, fun w' => ex_boxT rfl rfl⟩) (ak (fun γ => ⟨rfl, fun w' => ex_made77 rfl⟩) trivial))
  intro γ w1 l hM hl
  have H1 : Hid (Mm w1 [(γ 0, kd p r c gx gy), (γ 1, pt X Y Z), (γ 2, tr 0 0 0)] ∧ _) := growB H0 hM (Nat.le_refl _) hl [0, 1, 2] rfl (by decide)
  have o1_0 := ownB H0 hM (Nat.le_refl _) hl (i := 0) rfl
  have o1_1 := ownB H0 hM (Nat.le_refl _) hl (i := 1) rfl
  have o1_2 := ownB H0 hM (Nat.le_refl _) hl (i := 2) rfl
  clear hM hl l
  generalize γ 0 = γ1_0 at H1 o1_0 ⊢
  generalize γ 1 = γ1_1 at H1 o1_1 ⊢
  generalize γ 2 = γ1_2 at H1 o1_2 ⊢
  clear γ
  refine rest0 rfl (then_normal (wp_seq ?_))
  refine walk_seqA 1 [.made (tr 0 0 0) 77] (sB H1) ?ho2 ?he2
  case ho2 => exact ak (fun γ => ⟨rfl, fun w' => ex_made77 rfl⟩) trivial
  intro γ w2 l hM hl
  have H2 : Hid (Mm w2 [(γ 0, tr 0 0 0), (γ1_0, kd p r c gx gy), (γ1_1, pt X Y Z), (γ1_2, tr 0 0 0)] ∧ _) := growB H1 hM (Nat.le_refl _) hl [0] rfl (by decide)
  have o2_0 := ownB H1 hM (Nat.le_refl _) hl (i := 0) rfl
  clear hM hl l H1
  generalize γ 0 = γ2_0 at H2 o2_0 ⊢
  clear γ
  refine rest0 rfl (then_normal (wp_seq (wp_seq ?_)))
  refine walk_seqB 4 [.quiet (U n), .call (.int .i64 ((bl n : Nat) : Int)), .quiet (.int .i64 (((bl n : Nat) : Int) - 1)), .quiet (.int .i64 (((bl n : Nat) : Int) - 1))] H2 ?ho3 ?he3
  case ho3 => exact ak (fun _ => ⟨rfl, fun _ _ => rfl⟩) (ak (fun γ => ⟨rfl, fun w' h => ⟨57, #[U n], exec_call rfl call57 rfl (mpn rfl), len_in n hn w'⟩⟩) (ak (by refine fun γ => ⟨rfl, fun w' h => ?_⟩; clear h; have hbl := bl_le_of n 64 hn; go_simp; rw [IntKind.wrap_i64]; omega) (ak (fun _ => ⟨rfl, fun _ _ => rfl⟩) trivial)))
  intro _ w3 H3
  clear H2
  refine rest0 rfl (then_normal (wp_block ?_))
  refine loop_ghost (α := Nat) (fun k a' w' => ∃ s0 : Nat → Value, a' = ⟨#[.agg (kd p r c gx gy).toArray, .agg (pt X Y Z).toArray, U n, PT γ1_0 0, PT γ1_1 0, undef, PT γ1_2 0, PT γ2_0 0, .int .i64 (((k : Nat) : Int) - 1), U n, .int .i64 ((bl n : Nat) : Int), .int .i64 (((bl n : Nat) : Int) - 1), s0 12, s0 13, s0 14, s0 15, s0 16, s0 17, s0 18, s0 19, s0 20, s0 21, s0 22, s0 23, s0 24, s0 25, s0 26, s0 27, s0 28, s0 29, s0 30, s0 31, s0 32, s0 33, undef], []⟩ ∧ (Mm w' [(γ2_0, tc (mt p X Y Z (n / 2 ^ k))), (γ1_0, kd p r c gx gy), (γ1_1, pt X Y Z), (γ1_2, tr 0 0 0)] ∧ Below w.heap.size w w') ∧ k ≤ 64) (fun k => k) (bl n) ?st0 ?rd0
  case st0 => exact ⟨(slotfn [undef, undef, undef, undef, undef, undef, undef, undef, undef, undef, undef, undef, undef, undef, undef, undef, undef, undef, undef, undef, undef, undef, undef, undef, undef, undef, undef, undef, undef, undef, undef, undef, undef, undef]), rfl, ⟨by rw [Nat.div_eq_of_lt (bl_lt n), mt_zero]; exact H3.out.1, H3.out.2⟩, bl_le_of n 64 hn⟩
  intro k a' w4 hI
  obtain ⟨s0, rfl, hMB, hk0⟩ := hI
  have H4 : Hid (_ ∧ _) := hMB
  clear hMB H3
  by_cases hlt : 0 < k
  · have hrd : True := trivial
    clear hrd
    obtain ⟨j, rfl⟩ : ∃ j, k = j + 1 := ⟨k - 1, by omega⟩
    rw [show (((j + 1 : Nat) : Int) - 1) = ((j : Nat) : Int) by omega]
    by_cases hb : n / 2 ^ j % 2 = 1
    · have hrd : True := trivial
      clear hrd
      refine wp_seq (wp_seq ?_)
      refine walk_seqB 2 [.quiet (.int .i64 ((j : Nat) : Int)), .quiet (.bool true)] H4 ?ho4 ?he4
      case ho4 => exact ak (fun _ => ⟨rfl, fun _ _ => rfl⟩) (ak (by refine fun γ => ⟨rfl, fun w' h => ?_⟩; clear h; go_simp) trivial)
      intro _ w5 H5
      clear H4
      refine rest0 rfl (then_normal (wp_cond_true rfl ?_))
      refine wp_skip (then_normal ?_)
      refine wp_seq (wp_block (wp_seq ?_))
      refine walk_seqB 6 [.quiet (.agg (kd p r c gx gy).toArray), .quiet (.agg (tc (mt p X Y Z (n / 2 ^ (j + 1)))).toArray), .call (.tuple #[.agg (tr ((twT p (mt p X Y Z (n / 2 ^ (j + 1)))).1) ((twT p (mt p X Y Z (n / 2 ^ (j + 1)))).2.1) ((twT p (mt p X Y Z (n / 2 ^ (j + 1)))).2.2)).toArray, U (tR p (mt p X Y Z (n / 2 ^ (j + 1))).1 (mt p X Y Z (n / 2 ^ (j + 1))).2.2)]), .quiet (.tuple #[.agg (tr ((twT p (mt p X Y Z (n / 2 ^ (j + 1)))).1) ((twT p (mt p X Y Z (n / 2 ^ (j + 1)))).2.1) ((twT p (mt p X Y Z (n / 2 ^ (j + 1)))).2.2)).toArray, U (tR p (mt p X Y Z (n / 2 ^ (j + 1))).1 (mt p X Y Z (n / 2 ^ (j + 1))).2.2)]), .quiet (.agg (tr ((twT p (mt p X Y Z (n / 2 ^ (j + 1)))).1) ((twT p (mt p X Y Z (n / 2 ^ (j + 1)))).2.1) ((twT p (mt p X Y Z (n / 2 ^ (j + 1)))).2.2)).toArray), .quiet (U (tR p (mt p X Y Z (n / 2 ^ (j + 1))).1 (mt p X Y Z (n / 2 ^ (j + 1))).2.2))] H5 ?ho5 ?he5
      case ho5 => exact ak (fun γ => ⟨rfl, fun w' h => ex_loadT h 1 rfl rfl rfl Try.isAgg72 Try.sizeOf72 rfl rfl⟩) (ak (fun γ => ⟨rfl, fun w' h => ex_loadT h 0 rfl rfl rfl Try.isAgg77 Try.sizeOf77 rfl rfl⟩) (ak (fun γ => ⟨rfl, fun w' h => ⟨70, #[.agg (kd p r c gx gy).toArray, .agg (tc (mt p X Y Z (n / 2 ^ (j + 1)))).toArray], exec_call rfl call70 rfl (mpn rfl), twice_any hp (mt p X Y Z (n / 2 ^ (j + 1))) (mt_lt hp hX hY _) w'⟩⟩) (ak (fun _ => ⟨rfl, fun _ _ => rfl⟩) (ak (by refine fun γ => ⟨rfl, fun w' h => ?_⟩; clear h; go_simp) (ak (by refine fun γ => ⟨rfl, fun w' h => ?_⟩; clear h; go_simp) trivial)))))
      intro _ w6 H6
      clear H5
      refine rest_at (l := [6]) rfl ?_
      refine rest_store rfl rfl rfl (ex_storeT (vs := tr ((twT p (mt p X Y Z (n / 2 ^ (j + 1)))).1) ((twT p (mt p X Y Z (n / 2 ^ (j + 1)))).2.1) ((twT p (mt p X Y Z (n / 2 ^ (j + 1)))).2.2)) H6.out.1 0 rfl rfl rfl rfl Try.sizeOf77 rfl (Nat.le_of_ble_eq_true rfl)) ?_
      have H7 : Hid (Mm (w6.setCells γ2_0 0 (tr ((twT p (mt p X Y Z (n / 2 ^ (j + 1)))).1) ((twT p (mt p X Y Z (n / 2 ^ (j + 1)))).2.1) ((twT p (mt p X Y Z (n / 2 ^ (j + 1)))).2.2))) [(γ2_0, tr ((twT p (mt p X Y Z (n / 2 ^ (j + 1)))).1) ((twT p (mt p X Y Z (n / 2 ^ (j + 1)))).2.1) ((twT p (mt p X Y Z (n / 2 ^ (j + 1)))).2.2)), (γ1_0, kd p r c gx gy), (γ1_1, pt X Y Z), (γ1_2, tr 0 0 0)] ∧ Below w.heap.size w (w6.setCells γ2_0 0 (tr ((twT p (mt p X Y Z (n / 2 ^ (j + 1)))).1) ((twT p (mt p X Y Z (n / 2 ^ (j + 1)))).2.1) ((twT p (mt p X Y Z (n / 2 ^ (j + 1)))).2.2)))) := ⟨H6.out.1.put 0 (off := 0) (vs := tr ((twT p (mt p X Y Z (n / 2 ^ (j + 1)))).1) ((twT p (mt p X Y Z (n / 2 ^ (j + 1)))).2.1) ((twT p (mt p X Y Z (n / 2 ^ (j + 1)))).2.2)) rfl (Nat.le_of_ble_eq_true rfl), below_setCells _ o2_0.out _ _ _ H6.out.2⟩
      clear H6
      generalize hgw : World.setCells _ _ _ _ = w7 at H7 ⊢
      clear hgw
      refine rest_nil (then_normal (wp_seq ?_))
      refine walk_seqB 5 [.quiet (U n), .quiet (.int .i64 ((j : Nat) : Int)), .quiet (U (n / 2 ^ j)), .quiet (U (n / 2 ^ j % 2)), .quiet (.bool true)] H7 ?ho6 ?he6
      case ho6 => exact ak (fun _ => ⟨rfl, fun _ _ => rfl⟩) (ak (fun _ => ⟨rfl, fun _ _ => rfl⟩) (ak (fun γ => ⟨rfl, fun w' _ => ex_shrU (by omega) rfl rfl rfl⟩) (ak (fun γ => ⟨rfl, fun w' _ => ex_and1 rfl (Nat.lt_of_le_of_lt (Nat.div_le_self _ _) hn) rfl rfl⟩) (ak (fun γ => ⟨rfl, fun w' _ => ex_eqU rfl rfl rfl (decide_eq_true (hb))⟩) trivial))))
      intro _ w8 H8
      clear H7
      refine rest0 rfl (then_normal (wp_cond_true rfl ?_))
      refine walk_seqB 7 [.quiet (.agg (kd p r c gx gy).toArray), .quiet (.agg (tr ((twT p (mt p X Y Z (n / 2 ^ (j + 1)))).1) ((twT p (mt p X Y Z (n / 2 ^ (j + 1)))).2.1) ((twT p (mt p X Y Z (n / 2 ^ (j + 1)))).2.2)).toArray), .quiet (.agg (pt X Y Z).toArray), .call (.tuple #[.agg (tr ((jnT p (twT p (mt p X Y Z (n / 2 ^ (j + 1)))) X Y Z).1) ((jnT p (twT p (mt p X Y Z (n / 2 ^ (j + 1)))) X Y Z).2.1) ((jnT p (twT p (mt p X Y Z (n / 2 ^ (j + 1)))) X Y Z).2.2)).toArray, U (jnR p (twT p (mt p X Y Z (n / 2 ^ (j + 1)))) X Y Z)]), .quiet (.tuple #[.agg (tr ((jnT p (twT p (mt p X Y Z (n / 2 ^ (j + 1)))) X Y Z).1) ((jnT p (twT p (mt p X Y Z (n / 2 ^ (j + 1)))) X Y Z).2.1) ((jnT p (twT p (mt p X Y Z (n / 2 ^ (j + 1)))) X Y Z).2.2)).toArray, U (jnR p (twT p (mt p X Y Z (n / 2 ^ (j + 1)))) X Y Z)]), .quiet (.agg (tr ((jnT p (twT p (mt p X Y Z (n / 2 ^ (j + 1)))) X Y Z).1) ((jnT p (twT p (mt p X Y Z (n / 2 ^ (j + 1)))) X Y Z).2.1) ((jnT p (twT p (mt p X Y Z (n / 2 ^ (j + 1)))) X Y Z).2.2)).toArray), .quiet (U (jnR p (twT p (mt p X Y Z (n / 2 ^ (j + 1)))) X Y Z))] H8 ?ho7 ?he7
      case ho7 => exact ak (fun γ => ⟨rfl, fun w' h => ex_loadT h 1 rfl rfl rfl Try.isAgg72 Try.sizeOf72 rfl rfl⟩) (ak (fun γ => ⟨rfl, fun w' h => ex_loadT h 0 rfl rfl rfl Try.isAgg77 Try.sizeOf77 rfl rfl⟩) (ak (fun γ => ⟨rfl, fun w' h => ex_loadT h 2 rfl rfl rfl Try.isAgg25 Try.sizeOf25 rfl rfl⟩) (ak (fun γ => ⟨rfl, fun w' h => ⟨44, #[.agg (kd p r c gx gy).toArray, .agg (tr ((twT p (mt p X Y Z (n / 2 ^ (j + 1)))).1) ((twT p (mt p X Y Z (n / 2 ^ (j + 1)))).2.1) ((twT p (mt p X Y Z (n / 2 ^ (j + 1)))).2.2)).toArray, .agg (pt X Y Z).toArray], exec_call rfl call44 rfl (mpn rfl), joined_any hp (twT p (mt p X Y Z (n / 2 ^ (j + 1)))) (tw_lt hp _) X Y Z hX hY w'⟩⟩) (ak (fun _ => ⟨rfl, fun _ _ => rfl⟩) (ak (by refine fun γ => ⟨rfl, fun w' h => ?_⟩; clear h; go_simp) (ak (by refine fun γ => ⟨rfl, fun w' h => ?_⟩; clear h; go_simp) trivial))))))
      intro _ w9 H9
      clear H8
      refine rest_at (l := [7]) rfl ?_
      refine rest_store rfl rfl rfl (ex_storeT (vs := tr ((jnT p (twT p (mt p X Y Z (n / 2 ^ (j + 1)))) X Y Z).1) ((jnT p (twT p (mt p X Y Z (n / 2 ^ (j + 1)))) X Y Z).2.1) ((jnT p (twT p (mt p X Y Z (n / 2 ^ (j + 1)))) X Y Z).2.2)) H9.out.1 0 rfl rfl rfl rfl Try.sizeOf77 rfl (Nat.le_of_ble_eq_true rfl)) ?_
      have H10 : Hid (Mm (w9.setCells γ2_0 0 (tr ((jnT p (twT p (mt p X Y Z (n / 2 ^ (j + 1)))) X Y Z).1) ((jnT p (twT p (mt p X Y Z (n / 2 ^ (j + 1)))) X Y Z).2.1) ((jnT p (twT p (mt p X Y Z (n / 2 ^ (j + 1)))) X Y Z).2.2))) [(γ2_0, tr ((jnT p (twT p (mt p X Y Z (n / 2 ^ (j + 1)))) X Y Z).1) ((jnT p (twT p (mt p X Y Z (n / 2 ^ (j + 1)))) X Y Z).2.1) ((jnT p (twT p (mt p X Y Z (n / 2 ^ (j + 1)))) X Y Z).2.2)), (γ1_0, kd p r c gx gy), (γ1_1, pt X Y Z), (γ1_2, tr 0 0 0)] ∧ Below w.heap.size w (w9.setCells γ2_0 0 (tr ((jnT p (twT p (mt p X Y Z (n / 2 ^ (j + 1)))) X Y Z).1) ((jnT p (twT p (mt p X Y Z (n / 2 ^ (j + 1)))) X Y Z).2.1) ((jnT p (twT p (mt p X Y Z (n / 2 ^ (j + 1)))) X Y Z).2.2)))) := ⟨H9.out.1.put 0 (off := 0) (vs := tr ((jnT p (twT p (mt p X Y Z (n / 2 ^ (j + 1)))) X Y Z).1) ((jnT p (twT p (mt p X Y Z (n / 2 ^ (j + 1)))) X Y Z).2.1) ((jnT p (twT p (mt p X Y Z (n / 2 ^ (j + 1)))) X Y Z).2.2)) rfl (Nat.le_of_ble_eq_true rfl), below_setCells _ o2_0.out _ _ _ H9.out.2⟩
      clear H9
      generalize hgw : World.setCells _ _ _ _ = w10 at H10 ⊢
      clear hgw
      refine rest_nil (block_normal (then_normal ?_))
      refine walk_seqB 2 [.quiet (.int .i64 ((j : Nat) : Int)), .quiet (.int .i64 (((j : Nat) : Int) - 1))] H10 ?ho8 ?he8
      case ho8 => exact ak (fun _ => ⟨rfl, fun _ _ => rfl⟩) (ak (by refine fun γ => ⟨rfl, fun w' h => ?_⟩; clear h; go_simp; rw [IntKind.wrap_i64]; omega) trivial)
      intro _ w11 H11
      clear H10
      refine rest_at (l := [2]) rfl ?_
      refine rest_set (d := 8) rfl rfl rfl rfl ?_
      simp only [Act.put, sa, sz, ss]
      refine rest_nil (then_normal ?_)
      exact ⟨j, ⟨(slotfn [undef, undef, undef, undef, undef, undef, undef, undef, undef, undef, undef, undef, .int .i64 ((j : Nat) : Int), .bool true, .int .i64 ((j : Nat) : Int), .int .i64 (((j : Nat) : Int) - 1), .tuple #[.agg (tr ((twT p (mt p X Y Z (n / 2 ^ (j + 1)))).1) ((twT p (mt p X Y Z (n / 2 ^ (j + 1)))).2.1) ((twT p (mt p X Y Z (n / 2 ^ (j + 1)))).2.2)).toArray, U (tR p (mt p X Y Z (n / 2 ^ (j + 1))).1 (mt p X Y Z (n / 2 ^ (j + 1))).2.2)], .agg (kd p r c gx gy).toArray, .agg (tc (mt p X Y Z (n / 2 ^ (j + 1)))).toArray, .tuple #[.agg (tr ((twT p (mt p X Y Z (n / 2 ^ (j + 1)))).1) ((twT p (mt p X Y Z (n / 2 ^ (j + 1)))).2.1) ((twT p (mt p X Y Z (n / 2 ^ (j + 1)))).2.2)).toArray, U (tR p (mt p X Y Z (n / 2 ^ (j + 1))).1 (mt p X Y Z (n / 2 ^ (j + 1))).2.2)], .agg (tr ((twT p (mt p X Y Z (n / 2 ^ (j + 1)))).1) ((twT p (mt p X Y Z (n / 2 ^ (j + 1)))).2.1) ((twT p (mt p X Y Z (n / 2 ^ (j + 1)))).2.2)).toArray, U (tR p (mt p X Y Z (n / 2 ^ (j + 1))).1 (mt p X Y Z (n / 2 ^ (j + 1))).2.2), U n, .int .i64 ((j : Nat) : Int), U (n / 2 ^ j), U (n / 2 ^ j % 2), .bool true, .tuple #[.agg (tr ((jnT p (twT p (mt p X Y Z (n / 2 ^ (j + 1)))) X Y Z).1) ((jnT p (twT p (mt p X Y Z (n / 2 ^ (j + 1)))) X Y Z).2.1) ((jnT p (twT p (mt p X Y Z (n / 2 ^ (j + 1)))) X Y Z).2.2)).toArray, U (jnR p (twT p (mt p X Y Z (n / 2 ^ (j + 1)))) X Y Z)], .agg (kd p r c gx gy).toArray, .agg (tr ((twT p (mt p X Y Z (n / 2 ^ (j + 1)))).1) ((twT p (mt p X Y Z (n / 2 ^ (j + 1)))).2.1) ((twT p (mt p X Y Z (n / 2 ^ (j + 1)))).2.2)).toArray, .agg (pt X Y Z).toArray, .tuple #[.agg (tr ((jnT p (twT p (mt p X Y Z (n / 2 ^ (j + 1)))) X Y Z).1) ((jnT p (twT p (mt p X Y Z (n / 2 ^ (j + 1)))) X Y Z).2.1) ((jnT p (twT p (mt p X Y Z (n / 2 ^ (j + 1)))) X Y Z).2.2)).toArray, U (jnR p (twT p (mt p X Y Z (n / 2 ^ (j + 1)))) X Y Z)], .agg (tr ((jnT p (twT p (mt p X Y Z (n / 2 ^ (j + 1)))) X Y Z).1) ((jnT p (twT p (mt p X Y Z (n / 2 ^ (j + 1)))) X Y Z).2.1) ((jnT p (twT p (mt p X Y Z (n / 2 ^ (j + 1)))) X Y Z).2.2)).toArray, U (jnR p (twT p (mt p X Y Z (n / 2 ^ (j + 1)))) X Y Z)]), rfl, ⟨by rw [mt_bit X Y Z n j hn, if_pos hb]; exact H11.out.1, H11.out.2⟩, by omega⟩, by omega⟩
    · have hrd : True := trivial
      clear hrd
      refine wp_seq (wp_seq ?_)
      refine walk_seqB 2 [.quiet (.int .i64 ((j : Nat) : Int)), .quiet (.bool true)] H4 ?ho9 ?he9
      case ho9 => exact ak (fun _ => ⟨rfl, fun _ _ => rfl⟩) (ak (by refine fun γ => ⟨rfl, fun w' h => ?_⟩; clear h; go_simp) trivial)
      intro _ w12 H12
      clear H4
      refine rest0 rfl (then_normal (wp_cond_true rfl ?_))
      refine wp_skip (then_normal ?_)
      refine wp_seq (wp_block (wp_seq ?_))
      refine walk_seqB 6 [.quiet (.agg (kd p r c gx gy).toArray), .quiet (.agg (tc (mt p X Y Z (n / 2 ^ (j + 1)))).toArray), .call (.tuple #[.agg (tr ((twT p (mt p X Y Z (n / 2 ^ (j + 1)))).1) ((twT p (mt p X Y Z (n / 2 ^ (j + 1)))).2.1) ((twT p (mt p X Y Z (n / 2 ^ (j + 1)))).2.2)).toArray, U (tR p (mt p X Y Z (n / 2 ^ (j + 1))).1 (mt p X Y Z (n / 2 ^ (j + 1))).2.2)]), .quiet (.tuple #[.agg (tr ((twT p (mt p X Y Z (n / 2 ^ (j + 1)))).1) ((twT p (mt p X Y Z (n / 2 ^ (j + 1)))).2.1) ((twT p (mt p X Y Z (n / 2 ^ (j + 1)))).2.2)).toArray, U (tR p (mt p X Y Z (n / 2 ^ (j + 1))).1 (mt p X Y Z (n / 2 ^ (j + 1))).2.2)]), .quiet (.agg (tr ((twT p (mt p X Y Z (n / 2 ^ (j + 1)))).1) ((twT p (mt p X Y Z (n / 2 ^ (j + 1)))).2.1) ((twT p (mt p X Y Z (n / 2 ^ (j + 1)))).2.2)).toArray), .quiet (U (tR p (mt p X Y Z (n / 2 ^ (j + 1))).1 (mt p X Y Z (n / 2 ^ (j + 1))).2.2))] H12 ?ho10 ?he10
      case ho10 => exact ak (fun γ => ⟨rfl, fun w' h => ex_loadT h 1 rfl rfl rfl Try.isAgg72 Try.sizeOf72 rfl rfl⟩) (ak (fun γ => ⟨rfl, fun w' h => ex_loadT h 0 rfl rfl rfl Try.isAgg77 Try.sizeOf77 rfl rfl⟩) (ak (fun γ => ⟨rfl, fun w' h => ⟨70, #[.agg (kd p r c gx gy).toArray, .agg (tc (mt p X Y Z (n / 2 ^ (j + 1)))).toArray], exec_call rfl call70 rfl (mpn rfl), twice_any hp (mt p X Y Z (n / 2 ^ (j + 1))) (mt_lt hp hX hY _) w'⟩⟩) (ak (fun _ => ⟨rfl, fun _ _ => rfl⟩) (ak (by refine fun γ => ⟨rfl, fun w' h => ?_⟩; clear h; go_simp) (ak (by refine fun γ => ⟨rfl, fun w' h => ?_⟩; clear h; go_simp) trivial)))))
      intro _ w13 H13
      clear H12
      refine rest_at (l := [6]) rfl ?_
      refine rest_store rfl rfl rfl (ex_storeT (vs := tr ((twT p (mt p X Y Z (n / 2 ^ (j + 1)))).1) ((twT p (mt p X Y Z (n / 2 ^ (j + 1)))).2.1) ((twT p (mt p X Y Z (n / 2 ^ (j + 1)))).2.2)) H13.out.1 0 rfl rfl rfl rfl Try.sizeOf77 rfl (Nat.le_of_ble_eq_true rfl)) ?_
      have H14 : Hid (Mm (w13.setCells γ2_0 0 (tr ((twT p (mt p X Y Z (n / 2 ^ (j + 1)))).1) ((twT p (mt p X Y Z (n / 2 ^ (j + 1)))).2.1) ((twT p (mt p X Y Z (n / 2 ^ (j + 1)))).2.2))) [(γ2_0, tr ((twT p (mt p X Y Z (n / 2 ^ (j + 1)))).1) ((twT p (mt p X Y Z (n / 2 ^ (j + 1)))).2.1) ((twT p (mt p X Y Z (n / 2 ^ (j + 1)))).2.2)), (γ1_0, kd p r c gx gy), (γ1_1, pt X Y Z), (γ1_2, tr 0 0 0)] ∧ Below w.heap.size w (w13.setCells γ2_0 0 (tr ((twT p (mt p X Y Z (n / 2 ^ (j + 1)))).1) ((twT p (mt p X Y Z (n / 2 ^ (j + 1)))).2.1) ((twT p (mt p X Y Z (n / 2 ^ (j + 1)))).2.2)))) := ⟨H13.out.1.put 0 (off := 0) (vs := tr ((twT p (mt p X Y Z (n / 2 ^ (j + 1)))).1) ((twT p (mt p X Y Z (n / 2 ^ (j + 1)))).2.1) ((twT p (mt p X Y Z (n / 2 ^ (j + 1)))).2.2)) rfl (Nat.le_of_ble_eq_true rfl), below_setCells _ o2_0.out _ _ _ H13.out.2⟩
      clear H13
      generalize hgw : World.setCells _ _ _ _ = w14 at H14 ⊢
      clear hgw
      refine rest_nil (then_normal (wp_seq ?_))
      refine walk_seqB 5 [.quiet (U n), .quiet (.int .i64 ((j : Nat) : Int)), .quiet (U (n / 2 ^ j)), .quiet (U (n / 2 ^ j % 2)), .quiet (.bool false)] H14 ?ho11 ?he11
      case ho11 => exact ak (fun _ => ⟨rfl, fun _ _ => rfl⟩) (ak (fun _ => ⟨rfl, fun _ _ => rfl⟩) (ak (fun γ => ⟨rfl, fun w' _ => ex_shrU (by omega) rfl rfl rfl⟩) (ak (fun γ => ⟨rfl, fun w' _ => ex_and1 rfl (Nat.lt_of_le_of_lt (Nat.div_le_self _ _) hn) rfl rfl⟩) (ak (fun γ => ⟨rfl, fun w' _ => ex_eqU rfl rfl rfl (decide_eq_false (hb))⟩) trivial))))
      intro _ w15 H15
      clear H14
      refine rest0 rfl (then_normal (wp_cond_false rfl ?_))
      refine wp_skip (block_normal (then_normal ?_))
      refine walk_seqB 2 [.quiet (.int .i64 ((j : Nat) : Int)), .quiet (.int .i64 (((j : Nat) : Int) - 1))] H15 ?ho12 ?he12
      case ho12 => exact ak (fun _ => ⟨rfl, fun _ _ => rfl⟩) (ak (by refine fun γ => ⟨rfl, fun w' h => ?_⟩; clear h; go_simp; rw [IntKind.wrap_i64]; omega) trivial)
      intro _ w16 H16
      clear H15
      refine rest_at (l := [2]) rfl ?_
      refine rest_set (d := 8) rfl rfl rfl rfl ?_
      simp only [Act.put, sa, sz, ss]
      refine rest_nil (then_normal ?_)
      exact ⟨j, ⟨(slotfn [undef, undef, undef, undef, undef, undef, undef, undef, undef, undef, undef, undef, .int .i64 ((j : Nat) : Int), .bool true, .int .i64 ((j : Nat) : Int), .int .i64 (((j : Nat) : Int) - 1), .tuple #[.agg (tr ((twT p (mt p X Y Z (n / 2 ^ (j + 1)))).1) ((twT p (mt p X Y Z (n / 2 ^ (j + 1)))).2.1) ((twT p (mt p X Y Z (n / 2 ^ (j + 1)))).2.2)).toArray, U (tR p (mt p X Y Z (n / 2 ^ (j + 1))).1 (mt p X Y Z (n / 2 ^ (j + 1))).2.2)], .agg (kd p r c gx gy).toArray, .agg (tc (mt p X Y Z (n / 2 ^ (j + 1)))).toArray, .tuple #[.agg (tr ((twT p (mt p X Y Z (n / 2 ^ (j + 1)))).1) ((twT p (mt p X Y Z (n / 2 ^ (j + 1)))).2.1) ((twT p (mt p X Y Z (n / 2 ^ (j + 1)))).2.2)).toArray, U (tR p (mt p X Y Z (n / 2 ^ (j + 1))).1 (mt p X Y Z (n / 2 ^ (j + 1))).2.2)], .agg (tr ((twT p (mt p X Y Z (n / 2 ^ (j + 1)))).1) ((twT p (mt p X Y Z (n / 2 ^ (j + 1)))).2.1) ((twT p (mt p X Y Z (n / 2 ^ (j + 1)))).2.2)).toArray, U (tR p (mt p X Y Z (n / 2 ^ (j + 1))).1 (mt p X Y Z (n / 2 ^ (j + 1))).2.2), U n, .int .i64 ((j : Nat) : Int), U (n / 2 ^ j), U (n / 2 ^ j % 2), .bool false, s0 27, s0 28, s0 29, s0 30, s0 31, s0 32, s0 33]), rfl, ⟨by rw [mt_bit X Y Z n j hn, if_neg hb]; exact H16.out.1, H16.out.2⟩, by omega⟩, by omega⟩
  have hk : k = 0 := by omega
  subst hk
  refine wp_seq (wp_seq ?_)
  refine walk_seqB 2 [.quiet (.int .i64 (((0 : Nat) : Int) - 1)), .quiet (.bool false)] H4 ?ho13 ?he13
  case ho13 => exact ak (fun _ => ⟨rfl, fun _ _ => rfl⟩) (ak (by refine fun γ => ⟨rfl, fun w' h => ?_⟩; clear h; go_simp) trivial)
  intro _ w17 H17
  clear H4
  refine rest0 rfl (then_normal (wp_cond_false rfl ?_))
  refine wp_exit ?_
  repeat refine then_exit ?_
  refine block_exit ?_
  refine then_normal (wp_seq ?_)
  refine walk_seqB 1 [.quiet (.agg (tc (mt p X Y Z (n / 2 ^ 0))).toArray)] H17 ?ho14 ?he14
  case ho14 => exact ak (fun γ => ⟨rfl, fun w' h => ex_loadT h 0 rfl rfl rfl Try.isAgg77 Try.sizeOf77 rfl rfl⟩) trivial
  intro _ w18 H18
  clear H17
  refine rest_at (l := [1]) rfl ?_
  refine rest_store rfl rfl rfl (ex_storeT (vs := tc (mt p X Y Z (n / 2 ^ 0))) H18.out.1 3 rfl rfl rfl rfl Try.sizeOf77 rfl (Nat.le_of_ble_eq_true rfl)) ?_
  have H19 : Hid (Mm (w18.setCells γ1_2 0 (tc (mt p X Y Z (n / 2 ^ 0)))) [(γ2_0, tc (mt p X Y Z (n / 2 ^ 0))), (γ1_0, kd p r c gx gy), (γ1_1, pt X Y Z), (γ1_2, tc (mt p X Y Z (n / 2 ^ 0)))] ∧ Below w.heap.size w (w18.setCells γ1_2 0 (tc (mt p X Y Z (n / 2 ^ 0))))) := ⟨H18.out.1.put 3 (off := 0) (vs := tc (mt p X Y Z (n / 2 ^ 0))) rfl (Nat.le_of_ble_eq_true rfl), below_setCells _ o1_2.out _ _ _ H18.out.2⟩
  clear H18
  generalize hgw : World.setCells _ _ _ _ = w19 at H19 ⊢
  clear hgw
  refine rest_nil (then_normal (wp_ret ?_))
  repeat (first | refine then_ret ?_ | refine block_ret ?_)
  have hf0 := var_T H19.out.1 3 rfl Try.isAgg77 Try.sizeOf77 rfl
  refine bodyPost_ret (v := .agg (tc (mt p X Y Z (n / 2 ^ 0))).toArray) (by simp [results, Try.results47, asAddr, hf0]) rfl ?_
  exact ⟨by rw [Nat.pow_zero, Nat.div_one], H19.out.2⟩
theorem oc_lt {p X Y : Nat} {Z : Bool} (hp : Pr p) (h : oc p X Y Z = true) : X < p ∧ Y < p := by
  unfold oc at h
  split at h
  · simp at h
    rw [h.1, h.2]
    exact ⟨zero_lt hp, zero_lt hp⟩
  · simp at h
    exact ⟨h.1, h.2.1⟩
theorem on_is (hp : Pr p) (X Y : Nat) (Z t : Bool) (h : oc p X Y Z = t) (w : World) : Calls Try.prog 50 #[.agg (kd p r c gx gy).toArray, .agg (pt X Y Z).toArray] w fun e w' => e = .returned (.bool t) ∧ Below w.heap.size w w' := by
  rw [← h]
  exact onCurve_any hp X Y Z w
set_option maxRecDepth 100000 in
theorem in_no (hp : Pr p) (X Y : Nat) (Z : Bool) (hoc : oc p X Y Z = false) (w : World) :
    Calls Try.prog 51 #[.agg (kd p r c gx gy).toArray, .agg (pt X Y Z).toArray] w fun e w' => e = .returned (.bool false) ∧ Below w.heap.size w w' := by
  have H0 : Hid (_ ∧ _) := ⟨Mm.nil w, Below.refl w.heap.size w⟩
  go_enter Try.func51, Try.ntmps51
  refine wp_seq ?_
  refine walk_seqA 3 [.made (kd p r c gx gy) 72, .made (pt X Y Z) 25, .quiet (.bool false)] (sB H0) ?ho1 ?he1
  case ho1 => exact ak (fun γ => ⟨rfl, fun w' => ex_boxT rfl rfl⟩) (ak (fun γ => ⟨rfl, fun w' => ex_boxT rfl rfl⟩) (ak (fun _ => ⟨rfl, fun _ _ => rfl⟩) trivial))
  intro γ w1 l hM hl
  have H1 : Hid (Mm w1 [(γ 0, kd p r c gx gy), (γ 1, pt X Y Z)] ∧ _) := growB H0 hM (Nat.le_refl _) hl [0, 1] rfl (by decide)
  have o1_0 := ownB H0 hM (Nat.le_refl _) hl (i := 0) rfl
  have o1_1 := ownB H0 hM (Nat.le_refl _) hl (i := 1) rfl
  clear hM hl l
  generalize γ 0 = γ1_0 at H1 o1_0 ⊢
  generalize γ 1 = γ1_1 at H1 o1_1 ⊢
  clear γ
  refine rest0 rfl (then_normal (wp_seq ?_))
  refine walk_seqB 13 [.quiet (.agg (kd p r c gx gy).toArray), .quiet (.agg (pt X Y Z).toArray), .call (.bool false), .quiet (.bool false), .gone, .gone, .gone, .gone, .gone, .gone, .gone, .quiet (.bool false), .quiet (.bool false)] H1 ?ho2 ?he2
  case ho2 => exact ak (fun γ => ⟨rfl, fun w' h => ex_loadT h 0 rfl rfl rfl Try.isAgg72 Try.sizeOf72 rfl rfl⟩) (ak (fun γ => ⟨rfl, fun w' h => ex_loadT h 1 rfl rfl rfl Try.isAgg25 Try.sizeOf25 rfl rfl⟩) (ak (fun γ => ⟨rfl, fun w' h => ⟨50, #[.agg (kd p r c gx gy).toArray, .agg (pt X Y Z).toArray], exec_call rfl call50 rfl (mpn rfl), on_is hp X Y Z _ hoc w'⟩⟩) (ak (fun _ => ⟨rfl, fun _ _ => rfl⟩) (ak (fun γ => rfl) (ak (fun γ => rfl) (ak (fun γ => rfl) (ak (fun γ => rfl) (ak (fun γ => rfl) (ak (fun γ => rfl) (ak (fun γ => rfl) (ak (by refine fun γ => ⟨rfl, fun w' h => ?_⟩; clear h; go_simp) (ak (fun _ => ⟨rfl, fun _ _ => rfl⟩) trivial))))))))))))
  intro _ w2 H2
  clear H1
  refine rest0 rfl (then_normal (wp_ret ?_))
  repeat (first | refine then_ret ?_ | refine block_ret ?_)
  refine bodyPost_ret (v := .bool false) (by simp [results, Try.results51, go_sem, *]) rfl ?_
  exact ⟨rfl, H2.out.2⟩
set_option maxRecDepth 100000 in
theorem in_yes (hp : Pr p) (X Y : Nat) (Z : Bool) (hoc : oc p X Y Z = true) (hr : r < 18446744073709551616) (w : World) :
    Calls Try.prog 51 #[.agg (kd p r c gx gy).toArray, .agg (pt X Y Z).toArray] w fun e w' => e = .returned (.bool (decide ((mt p X Y Z r).2.2 = 0))) ∧ Below w.heap.size w w' := by
  have H0 : Hid (_ ∧ _) := ⟨Mm.nil w, Below.refl w.heap.size w⟩
  go_enter Try.func51, Try.ntmps51
  refine wp_seq ?_
  refine walk_seqA 3 [.made (kd p r c gx gy) 72, .made (pt X Y Z) 25, .quiet (.bool false)] (sB H0) ?ho1 ?he1
  case ho1 => exact ak (fun γ => ⟨rfl, fun w' => ex_boxT rfl rfl⟩) (ak (fun γ => ⟨rfl, fun w' => ex_boxT rfl rfl⟩) (ak (fun _ => ⟨rfl, fun _ _ => rfl⟩) trivial))
  intro γ w1 l hM hl
  have H1 : Hid (Mm w1 [(γ 0, kd p r c gx gy), (γ 1, pt X Y Z)] ∧ _) := growB H0 hM (Nat.le_refl _) hl [0, 1] rfl (by decide)
  have o1_0 := ownB H0 hM (Nat.le_refl _) hl (i := 0) rfl
  have o1_1 := ownB H0 hM (Nat.le_refl _) hl (i := 1) rfl
  clear hM hl l
  generalize γ 0 = γ1_0 at H1 o1_0 ⊢
  generalize γ 1 = γ1_1 at H1 o1_1 ⊢
  clear γ
  refine rest0 rfl (then_normal (wp_seq ?_))
  refine walk_seqB 13 [.quiet (.agg (kd p r c gx gy).toArray), .quiet (.agg (pt X Y Z).toArray), .call (.bool true), .quiet (.bool true), .quiet (.agg (kd p r c gx gy).toArray), .quiet (.agg (pt X Y Z).toArray), .quiet (PT γ1_0 1), .quiet (U r), .call (.agg (tr ((mt p X Y Z r).1) ((mt p X Y Z r).2.1) ((mt p X Y Z r).2.2)).toArray), .quiet (U ((mt p X Y Z r).2.2)), .quiet (.bool (decide ((mt p X Y Z r).2.2 = 0))), .quiet (.bool (decide ((mt p X Y Z r).2.2 = 0))), .quiet (.bool (decide ((mt p X Y Z r).2.2 = 0)))] H1 ?ho2 ?he2
  case ho2 => exact ak (fun γ => ⟨rfl, fun w' h => ex_loadT h 0 rfl rfl rfl Try.isAgg72 Try.sizeOf72 rfl rfl⟩) (ak (fun γ => ⟨rfl, fun w' h => ex_loadT h 1 rfl rfl rfl Try.isAgg25 Try.sizeOf25 rfl rfl⟩) (ak (fun γ => ⟨rfl, fun w' h => ⟨50, #[.agg (kd p r c gx gy).toArray, .agg (pt X Y Z).toArray], exec_call rfl call50 rfl (mpn rfl), on_is hp X Y Z _ hoc w'⟩⟩) (ak (fun _ => ⟨rfl, fun _ _ => rfl⟩) (ak (fun γ => ⟨rfl, fun w' h => ex_loadT h 0 rfl rfl rfl Try.isAgg72 Try.sizeOf72 rfl rfl⟩) (ak (fun γ => ⟨rfl, fun w' h => ex_loadT h 1 rfl rfl rfl Try.isAgg25 Try.sizeOf25 rfl rfl⟩) (ak (by refine fun γ => ⟨rfl, fun w' h => ?_⟩; clear h; go_simp) (ak (fun γ => ⟨rfl, fun w' h => ex_loadC h 0 rfl rfl rfl Try.isAgg23 rfl⟩) (ak (fun γ => ⟨rfl, fun w' h => ⟨47, #[.agg (kd p r c gx gy).toArray, .agg (pt X Y Z).toArray, U r], exec_call rfl call47 rfl (mpn rfl), multiple_any hp X Y Z (oc_lt hp hoc).1 (oc_lt hp hoc).2 r hr w'⟩⟩) (ak (fun γ => ⟨rfl, fun w' _ => ex_field77_2 rfl rfl rfl⟩) (ak (fun γ => ⟨rfl, fun w' _ => ex_eqU rfl rfl rfl rfl⟩) (ak (by refine fun γ => ⟨rfl, fun w' h => ?_⟩; clear h; go_simp) (ak (fun _ => ⟨rfl, fun _ _ => rfl⟩) trivial))))))))))))
  intro _ w2 H2
  clear H1
  refine rest0 rfl (then_normal (wp_ret ?_))
  repeat (first | refine then_ret ?_ | refine block_ret ?_)
  refine bodyPost_ret (v := .bool (decide ((mt p X Y Z r).2.2 = 0))) (by simp [results, Try.results51, go_sem, *]) rfl ?_
  exact ⟨rfl, H2.out.2⟩
theorem inGroup_any (hp : Pr p) (hr : r < 18446744073709551616) (X Y : Nat) (Z : Bool) (w : World) : Calls Try.prog 51 #[.agg (kd p r c gx gy).toArray, .agg (pt X Y Z).toArray] w fun e w' => e = .returned (.bool (ig p r X Y Z)) ∧ Below w.heap.size w w' := by
  unfold ig
  cases h : oc p X Y Z
  · exact in_no hp X Y Z h w
  · exact in_yes hp X Y Z h hr w
end
end Rg
end Go.Proofs.Ytjmbgchoioepjaa
end
section
namespace Go.Proofs.Ytjmbgchoioepjaa
open Go.RowKit
namespace Rg
section
variable {P : Program} {ops : Array Oper} {ks : List Kind} {a₀ : Act} {w₀ : World} {Q : Exit → Act → World → Prop}
end
end Rg
end Go.Proofs.Ytjmbgchoioepjaa
end
section
namespace Go.Proofs.Ytjmbgchoioepjaa
open Go.RowKit
namespace Rg
/-- Two points' cells. -/
abbrev p2 (a b : Nat) (z : Bool) (a' b' : Nat) (z' : Bool) : List Value := [U a, U b, .bool z, U a', U b', .bool z']
theorem rounds_in {P : Program} {c : Code} {Q : Exit → Act → World → Prop} {n : Nat} {a : Act} {w : World} (h : c.wp P (Exit.then (Code.rounds P c Q n) Q) a w) : Code.rounds P c Q (n + 1) a w := h
theorem ex_bs2 {ρ : Operand → Value} {o : Oper} {x y : Operand} {a b a' b' : Nat} {z z' : Bool} {w : World} (ho : o.op = .buildSlice 92 2 #[(0, x), (1, y)]) (hx : ρ x = V (pt a b z)) (hy : ρ y = V (pt a' b' z')) :
    (execOp ρ o).run Try.prog w = .ok (.value (.slice (some ⟨w.heap.size, 0, none⟩) 2 2)) (w.alloc (.cells (p2 a b z a' b' z').toArray 25)) := by
  simp only [execOp, ho, List.map_toArray, List.map_cons, List.map_nil, hx, hy]
  kernel_rfl
/-- What a suite is. -/
structure Kd (s : Int) (p r c gx gy : Nat) : Prop where
  pr : Pr p
  rb : r < 18446744073709551616
  cb : c < 18446744073709551616
  kind : ∀ w, Calls Try.prog 42 #[.int .i64 s] w fun e w' => e = .returned (.tuple #[V (kd p r c gx gy), .int .i64 0]) ∧ Below w.heap.size w w'
theorem kd_1 : Kd 1 786251 65521 12 9723 164643 := ⟨⟨by decide, by decide⟩, by decide, by decide, kindOf_1⟩
theorem kd_2 : Kd 2 1152921504606846223 72057594037927889 16 613740293506734924 666621259561003659 := ⟨⟨by decide, by decide⟩, by decide, by decide, kindOf_2⟩
theorem tO_lt {p X Y : Nat} {Z : Bool} (hp : Pr p) (hX : X < p) (hY : Y < p) : Lt3 p (tO X Y Z) := by
  unfold tO
  split
  · exact ⟨zero_lt hp, zero_lt hp, zero_lt hp⟩
  · exact ⟨hX, hY, one_lt hp⟩
theorem call42 : ∀ args w, (callFunc 42 args).run Try.prog w = .ok (.enter 42 args) w := by intro args w; go_simp
theorem call51 : ∀ args w, (callFunc 51 args).run Try.prog w = .ok (.enter 51 args) w := by intro args w; go_simp
section
variable {s : Int} {p r c gx gy : Nat}
end
end Rg
end Go.Proofs.Ytjmbgchoioepjaa
end
section
namespace Go.Proofs.Ytjmbgchoioepjaa
open Go.RowKit
namespace Rg
/-! The document's answers. -/
theorem mi_pl (p a b : Nat) (hb : b ≤ p) : pl p a (mi p 0 b) = mi p a b := by
  unfold pl mi
  rw [Nat.add_mod_mod]
  congr 1
  omega
theorem side_cb (p x : Nat) : pl p (tm p (tm p x x) x) x = cb p x := by
  unfold pl cb tm pl
  rw [Nat.mod_add_mod, Nat.mul_mod_mod, Nat.mul_add, Nat.mul_one, Nat.mul_comm x (x * x % p)]
theorem pw_bit {p : Nat} (a n k : Nat) : pw p a (n / 2 ^ k) = if n / 2 ^ k % 2 = 1 then tm p (tm p (pw p a (n / 2 ^ (k + 1))) (pw p a (n / 2 ^ (k + 1)))) a else tm p (pw p a (n / 2 ^ (k + 1))) (pw p a (n / 2 ^ (k + 1))) := by
  have e : n / 2 ^ (k + 1) = n / 2 ^ k / 2 := by rw [Nat.pow_succ, Nat.div_div_eq_div_mul]
  rw [e]
  generalize n / 2 ^ k = m
  unfold tm pw
  split
  · rename_i h
    rw [← Nat.mul_mod, ← Nat.pow_add, Nat.mod_mul_mod, ← Nat.pow_succ]
    congr 2
    omega
  · rw [← Nat.mul_mod, ← Nat.pow_add]
    congr 2
    omega
theorem pw_zero {p a : Nat} (hp : Pr p) : pw p a 0 = 1 := by
  unfold pw
  rw [Nat.pow_zero, Nat.mod_eq_of_lt (one_lt hp)]
abbrev P3 : Type := Nat × Nat × Bool
abbrev pc (a : P3) : List Value := pt a.1 a.2.1 a.2.2
def sl1 (p X Y : Nat) : Nat := tm p (pl p (pl p (pl p (tm p X X) (tm p X X)) (tm p X X)) 1) (pw p (pl p Y Y) (p - 2))
def sl2 (p X Y X' Y' : Nat) : Nat := tm p (mi p Y' Y) (pw p (mi p X' X) (p - 2))
def dS (p : Nat) (a b : P3) : Nat := if a = b then sl1 p a.1 a.2.1 else sl2 p a.1 a.2.1 b.1 b.2.1
def d3X (p m X X' : Nat) : Nat := mi p (mi p (tm p m m) X) X'
def d3Y (p m X X' Y : Nat) : Nat := mi p (tm p m (mi p X (d3X p m X X'))) Y
def dA (p : Nat) (a b : P3) : P3 :=
  if a.2.2 = true then b else if b.2.2 = true then a else if a = (b.1, mi p 0 b.2.1, b.2.2) then (0, 0, true)
  else (d3X p (dS p a b) a.1 b.1, d3Y p (dS p a b) a.1 b.1 a.2.1, false)
def dmf (p : Nat) (a : P3) : Nat → Nat → P3
  | 0, _ => (0, 0, true)
  | f + 1, n => if n = 0 then (0, 0, true) else if n % 2 = 1 then dA p (dA p (dmf p a f (n / 2)) (dmf p a f (n / 2))) a else dA p (dmf p a f (n / 2)) (dmf p a f (n / 2))
def dM (p : Nat) (a : P3) (n : Nat) : P3 := dmf p a 64 n
theorem dmf_up (p : Nat) (a : P3) : ∀ (f n : Nat), n < 2 ^ f → dmf p a f n = dmf p a (f + 1) n
  | 0, n, h => by
    have : n = 0 := by omega
    subst this
    rfl
  | f + 1, n, h => by
    have e := dmf_up p a f (n / 2) (by rw [Nat.pow_succ] at h; omega)
    rw [dmf, dmf, e]
theorem dM_zero (p : Nat) (a : P3) : dM p a 0 = (0, 0, true) := rfl
theorem dM_step (p : Nat) (a : P3) (n : Nat) (hn : n < 18446744073709551616) (h0 : n ≠ 0) : dM p a n = if n % 2 = 1 then dA p (dA p (dM p a (n / 2)) (dM p a (n / 2))) a else dA p (dM p a (n / 2)) (dM p a (n / 2)) := by
  have e := dmf_up p a 63 (n / 2) (by rw [show 2 ^ 63 = 9223372036854775808 by decide]; omega)
  unfold dM
  rw [dmf, if_neg h0, e]
theorem dM_bit (p : Nat) (a : P3) (n k : Nat) (hn : n < 18446744073709551616) : dM p a (n / 2 ^ k) = if n / 2 ^ k % 2 = 1 then dA p (dA p (dM p a (n / 2 ^ (k + 1))) (dM p a (n / 2 ^ (k + 1)))) a else dA p (dM p a (n / 2 ^ (k + 1))) (dM p a (n / 2 ^ (k + 1))) := by
  have e : n / 2 ^ (k + 1) = n / 2 ^ k / 2 := by rw [Nat.pow_succ, Nat.div_div_eq_div_mul]
  rw [e]
  by_cases h : n / 2 ^ k = 0
  · rw [h, Nat.zero_div, dM_zero, Nat.zero_mod, if_neg (by decide)]
    rfl
  · exact dM_step p a _ (Nat.lt_of_le_of_lt (Nat.div_le_self _ _) hn) h
structure LtP (p : Nat) (a : P3) : Prop where
  x : a.1 < p
  y : a.2.1 < p
theorem dA_lt {p : Nat} (hp : Pr p) {a b : P3} (ha : LtP p a) (hb : LtP p b) : LtP p (dA p a b) := by
  unfold dA
  split
  · exact hb
  · split
    · exact ha
    · split
      · exact ⟨zero_lt hp, zero_lt hp⟩
      · exact ⟨mi_lt hp, mi_lt hp⟩
theorem dmf_lt {p : Nat} (hp : Pr p) {a : P3} (ha : LtP p a) : ∀ (f n : Nat), LtP p (dmf p a f n)
  | 0, _ => ⟨zero_lt hp, zero_lt hp⟩
  | f + 1, n => by
    have h := dmf_lt hp ha f (n / 2)
    rw [dmf]
    split
    · exact ⟨zero_lt hp, zero_lt hp⟩
    · split
      · exact dA_lt hp (dA_lt hp h h) ha
      · exact dA_lt hp h h
theorem dM_lt {p : Nat} (hp : Pr p) {a : P3} (ha : LtP p a) (n : Nat) : LtP p (dM p a n) := dmf_lt hp ha 64 n
theorem call22 : ∀ args w, (callFunc 22 args).run Try.prog w = .ok (.enter 22 args) w := by intro args w; go_simp
theorem call24 : ∀ args w, (callFunc 24 args).run Try.prog w = .ok (.enter 24 args) w := by intro args w; go_simp
theorem call25 : ∀ args w, (callFunc 25 args).run Try.prog w = .ok (.enter 25 args) w := by intro args w; go_simp
theorem call26 : ∀ args w, (callFunc 26 args).run Try.prog w = .ok (.enter 26 args) w := by intro args w; go_simp
theorem call52 : ∀ args w, (callFunc 52 args).run Try.prog w = .ok (.enter 52 args) w := by intro args w; go_simp
theorem call53 : ∀ args w, (callFunc 53 args).run Try.prog w = .ok (.enter 53 args) w := by intro args w; go_simp
theorem call54 : ∀ args w, (callFunc 54 args).run Try.prog w = .ok (.enter 54 args) w := by intro args w; go_simp
theorem call55 : ∀ args w, (callFunc 55 args).run Try.prog w = .ok (.enter 55 args) w := by intro args w; go_simp
theorem call56 : ∀ args w, (callFunc 56 args).run Try.prog w = .ok (.enter 56 args) w := by intro args w; go_simp
theorem call58 : ∀ args w, (callFunc 58 args).run Try.prog w = .ok (.enter 58 args) w := by intro args w; go_simp
theorem call59 : ∀ args w, (callFunc 59 args).run Try.prog w = .ok (.enter 59 args) w := by intro args w; go_simp
theorem call77 : ∀ args w, (callFunc 77 args).run Try.prog w = .ok (.enter 77 args) w := by intro args w; go_simp
section
variable {p r c gx gy : Nat}
set_option maxRecDepth 100000 in
theorem Of_1  (w : World) :
    Calls Try.prog 10 #[.int .i64 1] w fun e w' => e = .returned (.tuple #[V (kd 786251 65521 12 9723 164643), .bool true]) ∧ Below w.heap.size w w' := by
  have H0 : Hid (_ ∧ _) := ⟨Mm.nil w, Below.refl w.heap.size w⟩
  go_enter Try.func10, Try.ntmps10
  refine wp_seq ?_
  refine walk_seqA 2 [.made (kd 0 0 0 0 0) 27, .quiet (.bool false)] (sB H0) ?ho1 ?he1
  case ho1 => exact ak (fun γ => ⟨rfl, fun w' => ex_made27 rfl⟩) (ak (fun _ => ⟨rfl, fun _ _ => rfl⟩) trivial)
  intro γ w1 l hM hl
  have H1 : Hid (Mm w1 [(γ 0, kd 0 0 0 0 0)] ∧ _) := growB H0 hM (Nat.le_refl _) hl [0] rfl (by decide)
  have o1_0 := ownB H0 hM (Nat.le_refl _) hl (i := 0) rfl
  clear hM hl l
  generalize γ 0 = γ1_0 at H1 o1_0 ⊢
  clear γ
  refine rest0 rfl (then_normal (wp_seq (wp_seq ?_)))
  refine walk_seqB 1 [.quiet (.int .i64 1)] H1 ?ho2 ?he2
  case ho2 => exact ak (fun _ => ⟨rfl, fun _ _ => rfl⟩) trivial
  intro _ w2 H2
  clear H1
  refine rest0 rfl (then_normal (wp_block (wp_seq ?_)))
  refine walk_seqB 2 [.quiet (.bool true), .quiet (.bool true)] H2 ?ho3 ?he3
  case ho3 => exact ak (by refine fun γ => ⟨rfl, fun w' h => ?_⟩; clear h; go_simp) (ak (fun _ => ⟨rfl, fun _ _ => rfl⟩) trivial)
  intro _ w3 H3
  clear H2
  refine rest0 rfl (then_normal (wp_cond_true rfl (wp_seq ?_)))
  refine walk_seqB 2 [.quiet (.agg (pt 9723 164643 false).toArray), .quiet (.agg (kd 786251 65521 12 9723 164643).toArray)] H3 ?ho4 ?he4
  case ho4 => exact ak (fun γ => ⟨rfl, fun w' _ => ex_build25_01 rfl rfl rfl⟩) (ak (fun γ => ⟨rfl, fun w' _ => ex_build27_0123 rfl rfl rfl rfl rfl⟩) trivial)
  intro _ w4 H4
  clear H3
  refine rest_at (l := [2, 3]) rfl ?_
  refine rest_store rfl rfl rfl (ex_storeT (vs := kd 786251 65521 12 9723 164643) H4.out.1 0 rfl rfl rfl rfl Try.sizeOf27 rfl (Nat.le_of_ble_eq_true rfl)) ?_
  have H5 : Hid (Mm (w4.setCells γ1_0 0 (kd 786251 65521 12 9723 164643)) [(γ1_0, kd 786251 65521 12 9723 164643)] ∧ Below w.heap.size w (w4.setCells γ1_0 0 (kd 786251 65521 12 9723 164643))) := ⟨H4.out.1.put 0 (off := 0) (vs := kd 786251 65521 12 9723 164643) rfl (Nat.le_of_ble_eq_true rfl), below_setCells _ o1_0.out _ _ _ H4.out.2⟩
  clear H4
  generalize hgw : World.setCells _ _ _ _ = w5 at H5 ⊢
  clear hgw
  refine rest_set (d := 3) rfl rfl rfl rfl ?_
  simp only [Act.put, sa, sz, ss]
  refine rest_nil (then_normal (wp_ret ?_))
  repeat (first | refine then_ret ?_ | refine block_ret ?_)
  have hf0 := var_T H5.out.1 0 rfl Try.isAgg27 Try.sizeOf27 rfl
  refine bodyPost_ret (v := .tuple #[.agg (kd 786251 65521 12 9723 164643).toArray, .bool true]) (by simp [results, Try.results10, asAddr, Act.eval, hf0]) rfl ?_
  exact ⟨rfl, H5.out.2⟩
set_option maxRecDepth 100000 in
theorem Of_2  (w : World) :
    Calls Try.prog 10 #[.int .i64 2] w fun e w' => e = .returned (.tuple #[V (kd 1152921504606846223 72057594037927889 16 613740293506734924 666621259561003659), .bool true]) ∧ Below w.heap.size w w' := by
  have H0 : Hid (_ ∧ _) := ⟨Mm.nil w, Below.refl w.heap.size w⟩
  go_enter Try.func10, Try.ntmps10
  refine wp_seq ?_
  refine walk_seqA 2 [.made (kd 0 0 0 0 0) 27, .quiet (.bool false)] (sB H0) ?ho1 ?he1
  case ho1 => exact ak (fun γ => ⟨rfl, fun w' => ex_made27 rfl⟩) (ak (fun _ => ⟨rfl, fun _ _ => rfl⟩) trivial)
  intro γ w1 l hM hl
  have H1 : Hid (Mm w1 [(γ 0, kd 0 0 0 0 0)] ∧ _) := growB H0 hM (Nat.le_refl _) hl [0] rfl (by decide)
  have o1_0 := ownB H0 hM (Nat.le_refl _) hl (i := 0) rfl
  clear hM hl l
  generalize γ 0 = γ1_0 at H1 o1_0 ⊢
  clear γ
  refine rest0 rfl (then_normal (wp_seq (wp_seq ?_)))
  refine walk_seqB 1 [.quiet (.int .i64 2)] H1 ?ho2 ?he2
  case ho2 => exact ak (fun _ => ⟨rfl, fun _ _ => rfl⟩) trivial
  intro _ w2 H2
  clear H1
  refine rest0 rfl (then_normal (wp_block (wp_seq ?_)))
  refine walk_seqB 2 [.quiet (.bool false), .quiet (.bool false)] H2 ?ho3 ?he3
  case ho3 => exact ak (by refine fun γ => ⟨rfl, fun w' h => ?_⟩; clear h; go_simp) (ak (fun _ => ⟨rfl, fun _ _ => rfl⟩) trivial)
  intro _ w3 H3
  clear H2
  refine rest0 rfl (then_normal (wp_cond_false rfl (wp_seq ?_)))
  refine walk_seqB 2 [.quiet (.bool true), .quiet (.bool true)] H3 ?ho4 ?he4
  case ho4 => exact ak (by refine fun γ => ⟨rfl, fun w' h => ?_⟩; clear h; go_simp) (ak (fun _ => ⟨rfl, fun _ _ => rfl⟩) trivial)
  intro _ w4 H4
  clear H3
  refine rest0 rfl (then_normal (wp_cond_true rfl (wp_seq ?_)))
  refine walk_seqB 2 [.quiet (.agg (pt 613740293506734924 666621259561003659 false).toArray), .quiet (.agg (kd 1152921504606846223 72057594037927889 16 613740293506734924 666621259561003659).toArray)] H4 ?ho5 ?he5
  case ho5 => exact ak (fun γ => ⟨rfl, fun w' _ => ex_build25_01 rfl rfl rfl⟩) (ak (fun γ => ⟨rfl, fun w' _ => ex_build27_0123 rfl rfl rfl rfl rfl⟩) trivial)
  intro _ w5 H5
  clear H4
  refine rest_at (l := [2, 3]) rfl ?_
  refine rest_store rfl rfl rfl (ex_storeT (vs := kd 1152921504606846223 72057594037927889 16 613740293506734924 666621259561003659) H5.out.1 0 rfl rfl rfl rfl Try.sizeOf27 rfl (Nat.le_of_ble_eq_true rfl)) ?_
  have H6 : Hid (Mm (w5.setCells γ1_0 0 (kd 1152921504606846223 72057594037927889 16 613740293506734924 666621259561003659)) [(γ1_0, kd 1152921504606846223 72057594037927889 16 613740293506734924 666621259561003659)] ∧ Below w.heap.size w (w5.setCells γ1_0 0 (kd 1152921504606846223 72057594037927889 16 613740293506734924 666621259561003659))) := ⟨H5.out.1.put 0 (off := 0) (vs := kd 1152921504606846223 72057594037927889 16 613740293506734924 666621259561003659) rfl (Nat.le_of_ble_eq_true rfl), below_setCells _ o1_0.out _ _ _ H5.out.2⟩
  clear H5
  generalize hgw : World.setCells _ _ _ _ = w6 at H6 ⊢
  clear hgw
  refine rest_set (d := 3) rfl rfl rfl rfl ?_
  simp only [Act.put, sa, sz, ss]
  refine rest_nil (then_normal (wp_ret ?_))
  repeat (first | refine then_ret ?_ | refine block_ret ?_)
  have hf0 := var_T H6.out.1 0 rfl Try.isAgg27 Try.sizeOf27 rfl
  refine bodyPost_ret (v := .tuple #[.agg (kd 1152921504606846223 72057594037927889 16 613740293506734924 666621259561003659).toArray, .bool true]) (by simp [results, Try.results10, asAddr, Act.eval, hf0]) rfl ?_
  exact ⟨rfl, H6.out.2⟩
set_option maxRecDepth 100000 in
theorem Of_no (s : Int) (h1 : s ≠ 1) (h2 : s ≠ 2) (w : World) :
    Calls Try.prog 10 #[.int .i64 s] w fun e w' => e = .returned (.tuple #[V (kd 0 0 0 0 0), .bool false]) ∧ Below w.heap.size w w' := by
  have H0 : Hid (_ ∧ _) := ⟨Mm.nil w, Below.refl w.heap.size w⟩
  go_enter Try.func10, Try.ntmps10
  refine wp_seq ?_
  refine walk_seqA 2 [.made (kd 0 0 0 0 0) 27, .quiet (.bool false)] (sB H0) ?ho1 ?he1
  case ho1 => exact ak (fun γ => ⟨rfl, fun w' => ex_made27 rfl⟩) (ak (fun _ => ⟨rfl, fun _ _ => rfl⟩) trivial)
  intro γ w1 l hM hl
  have H1 : Hid (Mm w1 [(γ 0, kd 0 0 0 0 0)] ∧ _) := growB H0 hM (Nat.le_refl _) hl [0] rfl (by decide)
  have o1_0 := ownB H0 hM (Nat.le_refl _) hl (i := 0) rfl
  clear hM hl l
  generalize γ 0 = γ1_0 at H1 o1_0 ⊢
  clear γ
  refine rest0 rfl (then_normal (wp_seq (wp_seq ?_)))
  refine walk_seqB 1 [.quiet (.int .i64 s)] H1 ?ho2 ?he2
  case ho2 => exact ak (fun _ => ⟨rfl, fun _ _ => rfl⟩) trivial
  intro _ w2 H2
  clear H1
  refine rest0 rfl (then_normal (wp_block (wp_seq ?_)))
  refine walk_seqB 2 [.quiet (.bool false), .quiet (.bool false)] H2 ?ho3 ?he3
  case ho3 => exact ak (by refine fun γ => ⟨rfl, fun w' h => ?_⟩; clear h; go_simp) (ak (fun _ => ⟨rfl, fun _ _ => rfl⟩) trivial)
  intro _ w3 H3
  clear H2
  refine rest0 rfl (then_normal (wp_cond_false rfl (wp_seq ?_)))
  refine walk_seqB 2 [.quiet (.bool false), .quiet (.bool false)] H3 ?ho4 ?he4
  case ho4 => exact ak (by refine fun γ => ⟨rfl, fun w' h => ?_⟩; clear h; go_simp) (ak (fun _ => ⟨rfl, fun _ _ => rfl⟩) trivial)
  intro _ w4 H4
  clear H3
  refine rest0 rfl (then_normal (wp_cond_false rfl ?_))
  refine wp_skip (block_normal ?_)
  refine then_normal (wp_seq ?_)
  refine walk_seqB 1 [.quiet (.agg (kd 0 0 0 0 0).toArray)] H4 ?ho5 ?he5
  case ho5 => exact ak (fun γ => ⟨rfl, fun w' _ => ex_build27_ rfl⟩) trivial
  intro _ w5 H5
  clear H4
  refine rest_at (l := [1, 2]) rfl ?_
  refine rest_store rfl rfl rfl (ex_storeT (vs := kd 0 0 0 0 0) H5.out.1 0 rfl rfl rfl rfl Try.sizeOf27 rfl (Nat.le_of_ble_eq_true rfl)) ?_
  have H6 : Hid (Mm (w5.setCells γ1_0 0 (kd 0 0 0 0 0)) [(γ1_0, kd 0 0 0 0 0)] ∧ Below w.heap.size w (w5.setCells γ1_0 0 (kd 0 0 0 0 0))) := ⟨H5.out.1.put 0 (off := 0) (vs := kd 0 0 0 0 0) rfl (Nat.le_of_ble_eq_true rfl), below_setCells _ o1_0.out _ _ _ H5.out.2⟩
  clear H5
  generalize hgw : World.setCells _ _ _ _ = w6 at H6 ⊢
  clear hgw
  refine rest_set (d := 3) rfl rfl rfl rfl ?_
  simp only [Act.put, sa, sz, ss]
  refine rest_nil (then_normal (wp_ret ?_))
  repeat (first | refine then_ret ?_ | refine block_ret ?_)
  have hf0 := var_T H6.out.1 0 rfl Try.isAgg27 Try.sizeOf27 rfl
  refine bodyPost_ret (v := .tuple #[.agg (kd 0 0 0 0 0).toArray, .bool false]) (by simp [results, Try.results10, asAddr, Act.eval, hf0]) rfl ?_
  exact ⟨rfl, H6.out.2⟩
set_option maxRecDepth 100000 in
theorem dadd_any (hp : Pr p) (a b : Nat) (ha : a < p) (hb : b < p) (w : World) :
    Calls Try.prog 56 #[.agg (kd p r c gx gy).toArray, U a, U b] w fun e w' => e = .returned (U (pl p a b)) ∧ Below w.heap.size w w' := by
  have H0 : Hid (_ ∧ _) := ⟨Mm.nil w, Below.refl w.heap.size w⟩
  go_enter Try.func56, Try.ntmps56
  refine wp_seq ?_
  refine walk_seqA 2 [.made (kd p r c gx gy) 27, .quiet (U 0)] (sB H0) ?ho1 ?he1
  case ho1 => exact ak (fun γ => ⟨rfl, fun w' => ex_boxT rfl rfl⟩) (ak (fun _ => ⟨rfl, fun _ _ => rfl⟩) trivial)
  intro γ w1 l hM hl
  have H1 : Hid (Mm w1 [(γ 0, kd p r c gx gy)] ∧ _) := growB H0 hM (Nat.le_refl _) hl [0] rfl (by decide)
  have o1_0 := ownB H0 hM (Nat.le_refl _) hl (i := 0) rfl
  clear hM hl l
  generalize γ 0 = γ1_0 at H1 o1_0 ⊢
  clear γ
  refine rest0 rfl (then_normal (wp_seq ?_))
  refine walk_seqB 7 [.quiet (U a), .quiet (U b), .quiet (U (a + b)), .quiet (PT γ1_0 0), .quiet (U p), .quiet (U ((a + b) % p)), .quiet (U ((a + b) % p))] H1 ?ho2 ?he2
  case ho2 => exact ak (fun _ => ⟨rfl, fun _ _ => rfl⟩) (ak (fun _ => ⟨rfl, fun _ _ => rfl⟩) (ak (fun γ => ⟨rfl, fun w' _ => ex_addU (by have := hp.hi; omega) rfl rfl rfl⟩) (ak (by refine fun γ => ⟨rfl, fun w' h => ?_⟩; clear h; go_simp) (ak (fun γ => ⟨rfl, fun w' h => ex_loadC h 0 rfl rfl rfl Try.isAgg23 rfl⟩) (ak (fun γ => ⟨rfl, fun w' _ => ex_remU (Nat.ne_of_gt (zero_lt hp)) rfl rfl rfl⟩) (ak (fun _ => ⟨rfl, fun _ _ => rfl⟩) trivial))))))
  intro _ w2 H2
  clear H1
  refine rest0 rfl (then_normal (wp_ret ?_))
  repeat (first | refine then_ret ?_ | refine block_ret ?_)
  refine bodyPost_ret (v := U ((a + b) % p)) (by simp [results, Try.results56, go_sem, *]) rfl ?_
  exact ⟨rfl, H2.out.2⟩
set_option maxRecDepth 100000 in
theorem dneg_raw (hp : Pr p) (a : Nat) (ha : a < p) (w : World) :
    Calls Try.prog 55 #[.agg (kd p r c gx gy).toArray, U a] w fun e w' => e = .returned (U ((p - a) % p)) ∧ Below w.heap.size w w' := by
  have H0 : Hid (_ ∧ _) := ⟨Mm.nil w, Below.refl w.heap.size w⟩
  go_enter Try.func55, Try.ntmps55
  refine wp_seq ?_
  refine walk_seqA 2 [.made (kd p r c gx gy) 27, .quiet (U 0)] (sB H0) ?ho1 ?he1
  case ho1 => exact ak (fun γ => ⟨rfl, fun w' => ex_boxT rfl rfl⟩) (ak (fun _ => ⟨rfl, fun _ _ => rfl⟩) trivial)
  intro γ w1 l hM hl
  have H1 : Hid (Mm w1 [(γ 0, kd p r c gx gy)] ∧ _) := growB H0 hM (Nat.le_refl _) hl [0] rfl (by decide)
  have o1_0 := ownB H0 hM (Nat.le_refl _) hl (i := 0) rfl
  clear hM hl l
  generalize γ 0 = γ1_0 at H1 o1_0 ⊢
  clear γ
  refine rest0 rfl (then_normal (wp_seq ?_))
  refine walk_seqB 8 [.quiet (PT γ1_0 0), .quiet (U p), .quiet (U a), .quiet (U (p - a)), .quiet (PT γ1_0 0), .quiet (U p), .quiet (U ((p - a) % p)), .quiet (U ((p - a) % p))] H1 ?ho2 ?he2
  case ho2 => exact ak (by refine fun γ => ⟨rfl, fun w' h => ?_⟩; clear h; go_simp) (ak (fun γ => ⟨rfl, fun w' h => ex_loadC h 0 rfl rfl rfl Try.isAgg23 rfl⟩) (ak (fun _ => ⟨rfl, fun _ _ => rfl⟩) (ak (fun γ => ⟨rfl, fun w' _ => ex_subU (Nat.le_of_lt ha) (by have := hp.hi; omega) rfl rfl rfl⟩) (ak (by refine fun γ => ⟨rfl, fun w' h => ?_⟩; clear h; go_simp) (ak (fun γ => ⟨rfl, fun w' h => ex_loadC h 0 rfl rfl rfl Try.isAgg23 rfl⟩) (ak (fun γ => ⟨rfl, fun w' _ => ex_remU (Nat.ne_of_gt (zero_lt hp)) rfl rfl rfl⟩) (ak (fun _ => ⟨rfl, fun _ _ => rfl⟩) trivial)))))))
  intro _ w2 H2
  clear H1
  refine rest0 rfl (then_normal (wp_ret ?_))
  repeat (first | refine then_ret ?_ | refine block_ret ?_)
  refine bodyPost_ret (v := U ((p - a) % p)) (by simp [results, Try.results55, go_sem, *]) rfl ?_
  exact ⟨rfl, H2.out.2⟩
theorem dneg_any (hp : Pr p) (a : Nat) (ha : a < p) (w : World) : Calls Try.prog 55 #[.agg (kd p r c gx gy).toArray, U a] w fun e w' => e = .returned (U (mi p 0 a)) ∧ Below w.heap.size w w' := by
  have h := dneg_raw (r := r) (c := c) (gx := gx) (gy := gy) hp a ha w
  unfold mi
  rw [Nat.zero_add]
  exact h
set_option maxRecDepth 100000 in
theorem dsub_raw (hp : Pr p) (a b : Nat) (ha : a < p) (hb : b < p) (w : World) :
    Calls Try.prog 59 #[.agg (kd p r c gx gy).toArray, U a, U b] w fun e w' => e = .returned (U (pl p a (mi p 0 b))) ∧ Below w.heap.size w w' := by
  have H0 : Hid (_ ∧ _) := ⟨Mm.nil w, Below.refl w.heap.size w⟩
  go_enter Try.func59, Try.ntmps59
  refine wp_seq ?_
  refine walk_seqA 2 [.made (kd p r c gx gy) 27, .quiet (U 0)] (sB H0) ?ho1 ?he1
  case ho1 => exact ak (fun γ => ⟨rfl, fun w' => ex_boxT rfl rfl⟩) (ak (fun _ => ⟨rfl, fun _ _ => rfl⟩) trivial)
  intro γ w1 l hM hl
  have H1 : Hid (Mm w1 [(γ 0, kd p r c gx gy)] ∧ _) := growB H0 hM (Nat.le_refl _) hl [0] rfl (by decide)
  have o1_0 := ownB H0 hM (Nat.le_refl _) hl (i := 0) rfl
  clear hM hl l
  generalize γ 0 = γ1_0 at H1 o1_0 ⊢
  clear γ
  refine rest0 rfl (then_normal (wp_seq ?_))
  refine walk_anyB 7 [.quiet (.agg (kd p r c gx gy).toArray), .quiet (U a), .quiet (.agg (kd p r c gx gy).toArray), .quiet (U b), .call (U (mi p 0 b)), .call (U (pl p a (mi p 0 b))), .quiet (U (pl p a (mi p 0 b)))] H1 ?ho2 ?he2
  case ho2 => exact ak (fun γ => ⟨rfl, fun w' h => ex_loadT h 0 rfl rfl rfl Try.isAgg27 Try.sizeOf27 rfl rfl⟩) (ak (fun _ => ⟨rfl, fun _ _ => rfl⟩) (ak (fun γ => ⟨rfl, fun w' h => ex_loadT h 0 rfl rfl rfl Try.isAgg27 Try.sizeOf27 rfl rfl⟩) (ak (fun _ => ⟨rfl, fun _ _ => rfl⟩) (ak (fun γ => ⟨rfl, fun w' h => ⟨55, #[.agg (kd p r c gx gy).toArray, U b], exec_call rfl call55 rfl (mpn rfl), dneg_any hp b hb w'⟩⟩) (ak (fun γ => ⟨rfl, fun w' h => ⟨56, #[.agg (kd p r c gx gy).toArray, U a, U (mi p 0 b)], exec_call rfl call56 rfl (mpn rfl), dadd_any hp a (mi p 0 b) ha (mi_lt hp) w'⟩⟩) (ak (fun _ => ⟨rfl, fun _ _ => rfl⟩) trivial))))))
  intro _ w2 H2
  clear H1
  refine rest0 rfl (then_normal (wp_ret ?_))
  repeat (first | refine then_ret ?_ | refine block_ret ?_)
  refine bodyPost_ret (v := U (pl p a (mi p 0 b))) (by simp [results, Try.results59, go_sem, *]) rfl ?_
  exact ⟨rfl, H2.out.2⟩
theorem dsub_any (hp : Pr p) (a b : Nat) (ha : a < p) (hb : b < p) (w : World) : Calls Try.prog 59 #[.agg (kd p r c gx gy).toArray, U a, U b] w fun e w' => e = .returned (U (mi p a b)) ∧ Below w.heap.size w w' := by
  have h := dsub_raw (r := r) (c := c) (gx := gx) (gy := gy) hp a b ha hb w
  rw [mi_pl p a b (Nat.le_of_lt hb)] at h
  exact h
set_option maxRecDepth 100000 in
theorem dmul_any (hp : Pr p) (a b : Nat) (ha : a < p) (hb : b < p) (w : World) :
    Calls Try.prog 54 #[.agg (kd p r c gx gy).toArray, U a, U b] w fun e w' => e = .returned (U (tm p a b)) ∧ Below w.heap.size w w' := by
  have H0 : Hid (_ ∧ _) := ⟨Mm.nil w, Below.refl w.heap.size w⟩
  go_enter Try.func54, Try.ntmps54
  refine wp_seq ?_
  refine walk_seqA 2 [.made (kd p r c gx gy) 27, .quiet (U 0)] (sB H0) ?ho1 ?he1
  case ho1 => exact ak (fun γ => ⟨rfl, fun w' => ex_boxT rfl rfl⟩) (ak (fun _ => ⟨rfl, fun _ _ => rfl⟩) trivial)
  intro γ w1 l hM hl
  have H1 : Hid (Mm w1 [(γ 0, kd p r c gx gy)] ∧ _) := growB H0 hM (Nat.le_refl _) hl [0] rfl (by decide)
  have o1_0 := ownB H0 hM (Nat.le_refl _) hl (i := 0) rfl
  clear hM hl l
  generalize γ 0 = γ1_0 at H1 o1_0 ⊢
  clear γ
  refine rest0 rfl (then_normal (wp_seq ?_))
  refine walk_seqB 8 [.quiet (U a), .quiet (U b), .call (.tuple #[U (a * b / 18446744073709551616), U (a * b % 18446744073709551616)]), .quiet (.tuple #[U (a * b / 18446744073709551616), U (a * b % 18446744073709551616)]), .quiet (U (a * b / 18446744073709551616)), .quiet (U (a * b % 18446744073709551616)), .quiet (U (a * b / 18446744073709551616)), .quiet (U (a * b % 18446744073709551616))] H1 ?ho2 ?he2
  case ho2 => exact ak (fun _ => ⟨rfl, fun _ _ => rfl⟩) (ak (fun _ => ⟨rfl, fun _ _ => rfl⟩) (ak (fun γ => ⟨rfl, fun w' h => ⟨75, #[U a, U b], exec_call rfl call75 rfl (mpn rfl), mul_in a b (by have := hp.hi; omega) (by have := hp.hi; omega) w'⟩⟩) (ak (fun _ => ⟨rfl, fun _ _ => rfl⟩) (ak (by refine fun γ => ⟨rfl, fun w' h => ?_⟩; clear h; go_simp) (ak (by refine fun γ => ⟨rfl, fun w' h => ?_⟩; clear h; go_simp) (ak (fun _ => ⟨rfl, fun _ _ => rfl⟩) (ak (fun _ => ⟨rfl, fun _ _ => rfl⟩) trivial)))))))
  intro _ w2 H2
  clear H1
  refine rest0 rfl (then_normal (wp_seq ?_))
  refine walk_seqB 6 [.quiet (U (a * b / 18446744073709551616)), .quiet (U (a * b % 18446744073709551616)), .quiet (PT γ1_0 0), .quiet (U p), .call (U (a * b % p)), .quiet (U (a * b % p))] H2 ?ho3 ?he3
  case ho3 => exact ak (fun _ => ⟨rfl, fun _ _ => rfl⟩) (ak (fun _ => ⟨rfl, fun _ _ => rfl⟩) (ak (by refine fun γ => ⟨rfl, fun w' h => ?_⟩; clear h; go_simp) (ak (fun γ => ⟨rfl, fun w' h => ex_loadC h 0 rfl rfl rfl Try.isAgg23 rfl⟩) (ak (fun γ => ⟨rfl, fun w' h => ⟨76, #[U (a * b / 18446744073709551616), U (a * b % 18446744073709551616), U p], exec_call rfl call76 rfl (mpn rfl), rem_in hp (a * b) w'⟩⟩) (ak (fun _ => ⟨rfl, fun _ _ => rfl⟩) trivial)))))
  intro _ w3 H3
  clear H2
  refine rest0 rfl (then_normal (wp_ret ?_))
  repeat (first | refine then_ret ?_ | refine block_ret ?_)
  refine bodyPost_ret (v := U (a * b % p)) (by simp [results, Try.results54, go_sem, *]) rfl ?_
  exact ⟨rfl, H3.out.2⟩
theorem pow_dbl (hp : Pr p) (a n j : Nat) (w : World) : Calls Try.prog 54 #[.agg (kd p r c gx gy).toArray, U (pw p a (n / 2 ^ (j + 1))), U (pw p a (n / 2 ^ (j + 1)))] w fun e w' => e = .returned (U (tm p (pw p a (n / 2 ^ (j + 1))) (pw p a (n / 2 ^ (j + 1))))) ∧ Below w.heap.size w w' := dmul_any hp _ _ (pw_lt hp) (pw_lt hp) w
theorem pow_even (hp : Pr p) (a n j : Nat) (hb : ¬ n / 2 ^ j % 2 = 1) (w : World) : Calls Try.prog 54 #[.agg (kd p r c gx gy).toArray, U (pw p a (n / 2 ^ (j + 1))), U (pw p a (n / 2 ^ (j + 1)))] w fun e w' => e = .returned (U (pw p a (n / 2 ^ j))) ∧ Below w.heap.size w w' := by
  have h := pow_dbl (r := r) (c := c) (gx := gx) (gy := gy) hp a n j w
  rw [pw_bit a n j, if_neg hb]
  exact h
theorem pow_odd (hp : Pr p) (a n j : Nat) (ha : a < p) (hb : n / 2 ^ j % 2 = 1) (w : World) : Calls Try.prog 54 #[.agg (kd p r c gx gy).toArray, U (tm p (pw p a (n / 2 ^ (j + 1))) (pw p a (n / 2 ^ (j + 1)))), U a] w fun e w' => e = .returned (U (pw p a (n / 2 ^ j))) ∧ Below w.heap.size w w' := by
  have h := dmul_any (r := r) (c := c) (gx := gx) (gy := gy) hp (tm p (pw p a (n / 2 ^ (j + 1))) (pw p a (n / 2 ^ (j + 1)))) a (tm_lt hp) ha w
  rw [pw_bit a n j, if_pos hb]
  exact h
set_option maxHeartbeats 1000000 in
set_option maxRecDepth 100000 in
theorem dpow_any (hp : Pr p) (a n : Nat) (ha : a < p) (hn : n < 18446744073709551616) (w : World) :
    Calls Try.prog 53 #[.agg (kd p r c gx gy).toArray, U a, U n] w fun e w' => e = .returned (U (pw p a n)) ∧ Below w.heap.size w w' := by
  have H0 : Hid (_ ∧ _) := ⟨Mm.nil w, Below.refl w.heap.size w⟩
  go_enter Try.func53, Try.ntmps53
  refine wp_seq ?_
  refine walk_seqA 2 [.made (kd p r c gx gy) 27, .quiet (U 0)] (sB H0) ?ho1 ?he1
  case ho1 => exact ak (fun γ => ⟨rfl, fun w' => ex_boxT rfl rfl⟩) (ak (fun _ => ⟨rfl, fun _ _ => rfl⟩) trivial)
  intro γ w1 l hM hl
  have H1 : Hid (Mm w1 [(γ 0, kd p r c gx gy)] ∧ _) := growB H0 hM (Nat.le_refl _) hl [0] rfl (by decide)
  have o1_0 := ownB H0 hM (Nat.le_refl _) hl (i := 0) rfl
  clear hM hl l
  generalize γ 0 = γ1_0 at H1 o1_0 ⊢
  clear γ
  refine rest0 rfl (then_normal (wp_seq ?_))
  refine walk_seqB 1 [.quiet (U 1)] H1 ?ho2 ?he2
  case ho2 => exact ak (fun _ => ⟨rfl, fun _ _ => rfl⟩) trivial
  intro _ w2 H2
  clear H1
  refine rest0 rfl (then_normal (wp_seq (wp_seq ?_)))
  refine walk_seqB 4 [.quiet (U n), .call (.int .i64 ((bl n : Nat) : Int)), .quiet (.int .i64 (((bl n : Nat) : Int) - 1)), .quiet (.int .i64 (((bl n : Nat) : Int) - 1))] H2 ?ho3 ?he3
  case ho3 => exact ak (fun _ => ⟨rfl, fun _ _ => rfl⟩) (ak (fun γ => ⟨rfl, fun w' h => ⟨57, #[U n], exec_call rfl call57 rfl (mpn rfl), len_in n hn w'⟩⟩) (ak (by refine fun γ => ⟨rfl, fun w' h => ?_⟩; clear h; have hbl := bl_le_of n 64 hn; go_simp; rw [IntKind.wrap_i64]; omega) (ak (fun _ => ⟨rfl, fun _ _ => rfl⟩) trivial)))
  intro _ w3 H3
  clear H2
  refine rest0 rfl (then_normal (wp_block ?_))
  refine loop_ghost (α := Nat) (fun k a' w' => ∃ s0 : Nat → Value, a' = ⟨#[.agg (kd p r c gx gy).toArray, U a, U n, PT γ1_0 0, undef, undef, U 0, U (pw p a (n / 2 ^ k)), .int .i64 (((k : Nat) : Int) - 1), U n, .int .i64 ((bl n : Nat) : Int), .int .i64 (((bl n : Nat) : Int) - 1), s0 12, s0 13, s0 14, s0 15, s0 16, s0 17, s0 18, s0 19, s0 20, s0 21, s0 22, s0 23, s0 24, s0 25, s0 26, s0 27, s0 28, undef], []⟩ ∧ (Mm w' [(γ1_0, kd p r c gx gy)] ∧ Below w.heap.size w w') ∧ k ≤ 64) (fun k => k) (bl n) ?st0 ?rd0
  case st0 => exact ⟨(slotfn [undef, undef, undef, undef, undef, undef, undef, undef, undef, undef, undef, undef, undef, undef, undef, undef, undef, undef, undef, undef, undef, undef, undef, undef, undef, undef, undef, undef, undef]), by rw [Nat.div_eq_of_lt (bl_lt n), pw_zero hp]; rfl, ⟨H3.out.1, H3.out.2⟩, bl_le_of n 64 hn⟩
  intro k a' w4 hI
  obtain ⟨s0, rfl, hMB, hk0⟩ := hI
  have H4 : Hid (_ ∧ _) := hMB
  clear hMB H3
  by_cases hlt : 0 < k
  · have hrd : True := trivial
    clear hrd
    obtain ⟨j, rfl⟩ : ∃ j, k = j + 1 := ⟨k - 1, by omega⟩
    rw [show (((j + 1 : Nat) : Int) - 1) = ((j : Nat) : Int) by omega]
    by_cases hb : n / 2 ^ j % 2 = 1
    · have hrd : True := trivial
      clear hrd
      refine wp_seq (wp_seq ?_)
      refine walk_seqB 2 [.quiet (.int .i64 ((j : Nat) : Int)), .quiet (.bool true)] H4 ?ho4 ?he4
      case ho4 => exact ak (fun _ => ⟨rfl, fun _ _ => rfl⟩) (ak (by refine fun γ => ⟨rfl, fun w' h => ?_⟩; clear h; go_simp) trivial)
      intro _ w5 H5
      clear H4
      refine rest0 rfl (then_normal (wp_cond_true rfl ?_))
      refine wp_skip (then_normal ?_)
      refine wp_seq (wp_block (wp_seq ?_))
      refine walk_seqB 4 [.quiet (.agg (kd p r c gx gy).toArray), .quiet (U (pw p a (n / 2 ^ (j + 1)))), .quiet (U (pw p a (n / 2 ^ (j + 1)))), .call (U (tm p (pw p a (n / 2 ^ (j + 1))) (pw p a (n / 2 ^ (j + 1)))))] H5 ?ho5 ?he5
      case ho5 => exact ak (fun γ => ⟨rfl, fun w' h => ex_loadT h 0 rfl rfl rfl Try.isAgg27 Try.sizeOf27 rfl rfl⟩) (ak (fun _ => ⟨rfl, fun _ _ => rfl⟩) (ak (fun _ => ⟨rfl, fun _ _ => rfl⟩) (ak (fun γ => ⟨rfl, fun w' h => ⟨54, #[.agg (kd p r c gx gy).toArray, U (pw p a (n / 2 ^ (j + 1))), U (pw p a (n / 2 ^ (j + 1)))], exec_call rfl call54 rfl (mpn rfl), pow_dbl hp a n j w'⟩⟩) trivial)))
      intro _ w6 H6
      clear H5
      refine rest_at (l := [4]) rfl ?_
      refine rest_set (d := 7) rfl rfl rfl rfl ?_
      simp only [Act.put, sa, sz, ss]
      refine rest_nil (then_normal (wp_seq ?_))
      refine walk_seqB 5 [.quiet (U n), .quiet (.int .i64 ((j : Nat) : Int)), .quiet (U (n / 2 ^ j)), .quiet (U (n / 2 ^ j % 2)), .quiet (.bool true)] H6 ?ho6 ?he6
      case ho6 => exact ak (fun _ => ⟨rfl, fun _ _ => rfl⟩) (ak (fun _ => ⟨rfl, fun _ _ => rfl⟩) (ak (fun γ => ⟨rfl, fun w' _ => ex_shrU (by omega) rfl rfl rfl⟩) (ak (fun γ => ⟨rfl, fun w' _ => ex_and1 rfl (Nat.lt_of_le_of_lt (Nat.div_le_self _ _) hn) rfl rfl⟩) (ak (fun γ => ⟨rfl, fun w' _ => ex_eqU rfl rfl rfl (decide_eq_true (hb))⟩) trivial))))
      intro _ w7 H7
      clear H6
      refine rest0 rfl (then_normal (wp_cond_true rfl ?_))
      refine walk_seqB 4 [.quiet (.agg (kd p r c gx gy).toArray), .quiet (U (tm p (pw p a (n / 2 ^ (j + 1))) (pw p a (n / 2 ^ (j + 1))))), .quiet (U a), .call (U (pw p a (n / 2 ^ j)))] H7 ?ho7 ?he7
      case ho7 => exact ak (fun γ => ⟨rfl, fun w' h => ex_loadT h 0 rfl rfl rfl Try.isAgg27 Try.sizeOf27 rfl rfl⟩) (ak (fun _ => ⟨rfl, fun _ _ => rfl⟩) (ak (fun _ => ⟨rfl, fun _ _ => rfl⟩) (ak (fun γ => ⟨rfl, fun w' h => ⟨54, #[.agg (kd p r c gx gy).toArray, U (tm p (pw p a (n / 2 ^ (j + 1))) (pw p a (n / 2 ^ (j + 1)))), U a], exec_call rfl call54 rfl (mpn rfl), (pow_odd hp a n j ha hb w')⟩⟩) trivial)))
      intro _ w8 H8
      clear H7
      refine rest_at (l := [4]) rfl ?_
      refine rest_set (d := 7) rfl rfl rfl rfl ?_
      simp only [Act.put, sa, sz, ss]
      refine rest_nil (block_normal (then_normal ?_))
      refine walk_seqB 2 [.quiet (.int .i64 ((j : Nat) : Int)), .quiet (.int .i64 (((j : Nat) : Int) - 1))] H8 ?ho8 ?he8
      case ho8 => exact ak (fun _ => ⟨rfl, fun _ _ => rfl⟩) (ak (by refine fun γ => ⟨rfl, fun w' h => ?_⟩; clear h; go_simp; rw [IntKind.wrap_i64]; omega) trivial)
      intro _ w9 H9
      clear H8
      refine rest_at (l := [2]) rfl ?_
      refine rest_set (d := 8) rfl rfl rfl rfl ?_
      simp only [Act.put, sa, sz, ss]
      refine rest_nil (then_normal ?_)
      exact ⟨j, ⟨(slotfn [undef, undef, undef, undef, undef, undef, undef, undef, undef, undef, undef, undef, .int .i64 ((j : Nat) : Int), .bool true, .int .i64 ((j : Nat) : Int), .int .i64 (((j : Nat) : Int) - 1), .agg (kd p r c gx gy).toArray, U (pw p a (n / 2 ^ (j + 1))), U (pw p a (n / 2 ^ (j + 1))), U (tm p (pw p a (n / 2 ^ (j + 1))) (pw p a (n / 2 ^ (j + 1)))), U n, .int .i64 ((j : Nat) : Int), U (n / 2 ^ j), U (n / 2 ^ j % 2), .bool true, .agg (kd p r c gx gy).toArray, U (tm p (pw p a (n / 2 ^ (j + 1))) (pw p a (n / 2 ^ (j + 1)))), U a, U (pw p a (n / 2 ^ j))]), rfl, ⟨H9.out.1, H9.out.2⟩, by omega⟩, by omega⟩
    · have hrd : True := trivial
      clear hrd
      refine wp_seq (wp_seq ?_)
      refine walk_seqB 2 [.quiet (.int .i64 ((j : Nat) : Int)), .quiet (.bool true)] H4 ?ho9 ?he9
      case ho9 => exact ak (fun _ => ⟨rfl, fun _ _ => rfl⟩) (ak (by refine fun γ => ⟨rfl, fun w' h => ?_⟩; clear h; go_simp) trivial)
      intro _ w10 H10
      clear H4
      refine rest0 rfl (then_normal (wp_cond_true rfl ?_))
      refine wp_skip (then_normal ?_)
      refine wp_seq (wp_block (wp_seq ?_))
      refine walk_seqB 4 [.quiet (.agg (kd p r c gx gy).toArray), .quiet (U (pw p a (n / 2 ^ (j + 1)))), .quiet (U (pw p a (n / 2 ^ (j + 1)))), .call (U (pw p a (n / 2 ^ j)))] H10 ?ho10 ?he10
      case ho10 => exact ak (fun γ => ⟨rfl, fun w' h => ex_loadT h 0 rfl rfl rfl Try.isAgg27 Try.sizeOf27 rfl rfl⟩) (ak (fun _ => ⟨rfl, fun _ _ => rfl⟩) (ak (fun _ => ⟨rfl, fun _ _ => rfl⟩) (ak (fun γ => ⟨rfl, fun w' h => ⟨54, #[.agg (kd p r c gx gy).toArray, U (pw p a (n / 2 ^ (j + 1))), U (pw p a (n / 2 ^ (j + 1)))], exec_call rfl call54 rfl (mpn rfl), pow_even hp a n j hb w'⟩⟩) trivial)))
      intro _ w11 H11
      clear H10
      refine rest_at (l := [4]) rfl ?_
      refine rest_set (d := 7) rfl rfl rfl rfl ?_
      simp only [Act.put, sa, sz, ss]
      refine rest_nil (then_normal (wp_seq ?_))
      refine walk_seqB 5 [.quiet (U n), .quiet (.int .i64 ((j : Nat) : Int)), .quiet (U (n / 2 ^ j)), .quiet (U (n / 2 ^ j % 2)), .quiet (.bool false)] H11 ?ho11 ?he11
      case ho11 => exact ak (fun _ => ⟨rfl, fun _ _ => rfl⟩) (ak (fun _ => ⟨rfl, fun _ _ => rfl⟩) (ak (fun γ => ⟨rfl, fun w' _ => ex_shrU (by omega) rfl rfl rfl⟩) (ak (fun γ => ⟨rfl, fun w' _ => ex_and1 rfl (Nat.lt_of_le_of_lt (Nat.div_le_self _ _) hn) rfl rfl⟩) (ak (fun γ => ⟨rfl, fun w' _ => ex_eqU rfl rfl rfl (decide_eq_false (hb))⟩) trivial))))
      intro _ w12 H12
      clear H11
      refine rest0 rfl (then_normal (wp_cond_false rfl ?_))
      refine wp_skip (block_normal (then_normal ?_))
      refine walk_seqB 2 [.quiet (.int .i64 ((j : Nat) : Int)), .quiet (.int .i64 (((j : Nat) : Int) - 1))] H12 ?ho12 ?he12
      case ho12 => exact ak (fun _ => ⟨rfl, fun _ _ => rfl⟩) (ak (by refine fun γ => ⟨rfl, fun w' h => ?_⟩; clear h; go_simp; rw [IntKind.wrap_i64]; omega) trivial)
      intro _ w13 H13
      clear H12
      refine rest_at (l := [2]) rfl ?_
      refine rest_set (d := 8) rfl rfl rfl rfl ?_
      simp only [Act.put, sa, sz, ss]
      refine rest_nil (then_normal ?_)
      exact ⟨j, ⟨(slotfn [undef, undef, undef, undef, undef, undef, undef, undef, undef, undef, undef, undef, .int .i64 ((j : Nat) : Int), .bool true, .int .i64 ((j : Nat) : Int), .int .i64 (((j : Nat) : Int) - 1), .agg (kd p r c gx gy).toArray, U (pw p a (n / 2 ^ (j + 1))), U (pw p a (n / 2 ^ (j + 1))), U (pw p a (n / 2 ^ j)), U n, .int .i64 ((j : Nat) : Int), U (n / 2 ^ j), U (n / 2 ^ j % 2), .bool false, s0 25, s0 26, s0 27, s0 28]), rfl, ⟨H13.out.1, H13.out.2⟩, by omega⟩, by omega⟩
  have hk : k = 0 := by omega
  subst hk
  refine wp_seq (wp_seq ?_)
  refine walk_seqB 2 [.quiet (.int .i64 (((0 : Nat) : Int) - 1)), .quiet (.bool false)] H4 ?ho13 ?he13
  case ho13 => exact ak (fun _ => ⟨rfl, fun _ _ => rfl⟩) (ak (by refine fun γ => ⟨rfl, fun w' h => ?_⟩; clear h; go_simp) trivial)
  intro _ w14 H14
  clear H4
  refine rest0 rfl (then_normal (wp_cond_false rfl ?_))
  refine wp_exit ?_
  repeat refine then_exit ?_
  refine block_exit ?_
  refine then_normal (wp_seq ?_)
  refine walk_seqB 2 [.quiet (U (pw p a (n / 2 ^ 0))), .quiet (U (pw p a (n / 2 ^ 0)))] H14 ?ho14 ?he14
  case ho14 => exact ak (fun _ => ⟨rfl, fun _ _ => rfl⟩) (ak (fun _ => ⟨rfl, fun _ _ => rfl⟩) trivial)
  intro _ w15 H15
  clear H14
  refine rest0 rfl (then_normal (wp_ret ?_))
  repeat (first | refine then_ret ?_ | refine block_ret ?_)
  refine bodyPost_ret (v := U (pw p a (n / 2 ^ 0))) (by simp [results, Try.results53, go_sem, *]) rfl ?_
  exact ⟨by rw [Nat.pow_zero, Nat.div_one], H15.out.2⟩
set_option maxRecDepth 100000 in
theorem dinv_any (hp : Pr p) (a : Nat) (ha : a < p) (w : World) :
    Calls Try.prog 77 #[.agg (kd p r c gx gy).toArray, U a] w fun e w' => e = .returned (U (pw p a (p - 2))) ∧ Below w.heap.size w w' := by
  have H0 : Hid (_ ∧ _) := ⟨Mm.nil w, Below.refl w.heap.size w⟩
  go_enter Try.func77, Try.ntmps77
  refine wp_seq ?_
  refine walk_seqA 2 [.made (kd p r c gx gy) 27, .quiet (U 0)] (sB H0) ?ho1 ?he1
  case ho1 => exact ak (fun γ => ⟨rfl, fun w' => ex_boxT rfl rfl⟩) (ak (fun _ => ⟨rfl, fun _ _ => rfl⟩) trivial)
  intro γ w1 l hM hl
  have H1 : Hid (Mm w1 [(γ 0, kd p r c gx gy)] ∧ _) := growB H0 hM (Nat.le_refl _) hl [0] rfl (by decide)
  have o1_0 := ownB H0 hM (Nat.le_refl _) hl (i := 0) rfl
  clear hM hl l
  generalize γ 0 = γ1_0 at H1 o1_0 ⊢
  clear γ
  refine rest0 rfl (then_normal (wp_seq ?_))
  refine walk_seqB 7 [.quiet (.agg (kd p r c gx gy).toArray), .quiet (U a), .quiet (PT γ1_0 0), .quiet (U p), .quiet (U (p - 2)), .call (U (pw p a (p - 2))), .quiet (U (pw p a (p - 2)))] H1 ?ho2 ?he2
  case ho2 => exact ak (fun γ => ⟨rfl, fun w' h => ex_loadT h 0 rfl rfl rfl Try.isAgg27 Try.sizeOf27 rfl rfl⟩) (ak (fun _ => ⟨rfl, fun _ _ => rfl⟩) (ak (by refine fun γ => ⟨rfl, fun w' h => ?_⟩; clear h; go_simp) (ak (fun γ => ⟨rfl, fun w' h => ex_loadC h 0 rfl rfl rfl Try.isAgg23 rfl⟩) (ak (fun γ => ⟨rfl, fun w' _ => ex_subU (by have := hp.lo; omega) (by have := hp.hi; omega) rfl rfl rfl⟩) (ak (fun γ => ⟨rfl, fun w' h => ⟨53, #[.agg (kd p r c gx gy).toArray, U a, U (p - 2)], exec_call rfl call53 rfl (mpn rfl), dpow_any hp a (p - 2) ha (by have := hp.hi; omega) w'⟩⟩) (ak (fun _ => ⟨rfl, fun _ _ => rfl⟩) trivial))))))
  intro _ w2 H2
  clear H1
  refine rest0 rfl (then_normal (wp_ret ?_))
  repeat (first | refine then_ret ?_ | refine block_ret ?_)
  refine bodyPost_ret (v := U (pw p a (p - 2))) (by simp [results, Try.results77, go_sem, *]) rfl ?_
  exact ⟨rfl, H2.out.2⟩
set_option maxRecDepth 100000 in
theorem side_raw (hp : Pr p) (x : Nat) (hx : x < p) (w : World) :
    Calls Try.prog 52 #[.agg (kd p r c gx gy).toArray, U x] w fun e w' => e = .returned (U (pl p (tm p (tm p x x) x) x)) ∧ Below w.heap.size w w' := by
  have H0 : Hid (_ ∧ _) := ⟨Mm.nil w, Below.refl w.heap.size w⟩
  go_enter Try.func52, Try.ntmps52
  refine wp_seq ?_
  refine walk_seqA 2 [.made (kd p r c gx gy) 27, .quiet (U 0)] (sB H0) ?ho1 ?he1
  case ho1 => exact ak (fun γ => ⟨rfl, fun w' => ex_boxT rfl rfl⟩) (ak (fun _ => ⟨rfl, fun _ _ => rfl⟩) trivial)
  intro γ w1 l hM hl
  have H1 : Hid (Mm w1 [(γ 0, kd p r c gx gy)] ∧ _) := growB H0 hM (Nat.le_refl _) hl [0] rfl (by decide)
  have o1_0 := ownB H0 hM (Nat.le_refl _) hl (i := 0) rfl
  clear hM hl l
  generalize γ 0 = γ1_0 at H1 o1_0 ⊢
  clear γ
  refine rest0 rfl (then_normal (wp_seq ?_))
  refine walk_anyB 11 [.quiet (.agg (kd p r c gx gy).toArray), .quiet (.agg (kd p r c gx gy).toArray), .quiet (.agg (kd p r c gx gy).toArray), .quiet (U x), .quiet (U x), .call (U (tm p x x)), .quiet (U x), .call (U (tm p (tm p x x) x)), .quiet (U x), .call (U (pl p (tm p (tm p x x) x) x)), .quiet (U (pl p (tm p (tm p x x) x) x))] H1 ?ho2 ?he2
  case ho2 => exact ak (fun γ => ⟨rfl, fun w' h => ex_loadT h 0 rfl rfl rfl Try.isAgg27 Try.sizeOf27 rfl rfl⟩) (ak (fun γ => ⟨rfl, fun w' h => ex_loadT h 0 rfl rfl rfl Try.isAgg27 Try.sizeOf27 rfl rfl⟩) (ak (fun γ => ⟨rfl, fun w' h => ex_loadT h 0 rfl rfl rfl Try.isAgg27 Try.sizeOf27 rfl rfl⟩) (ak (fun _ => ⟨rfl, fun _ _ => rfl⟩) (ak (fun _ => ⟨rfl, fun _ _ => rfl⟩) (ak (fun γ => ⟨rfl, fun w' h => ⟨54, #[.agg (kd p r c gx gy).toArray, U x, U x], exec_call rfl call54 rfl (mpn rfl), dmul_any hp x x hx hx w'⟩⟩) (ak (fun _ => ⟨rfl, fun _ _ => rfl⟩) (ak (fun γ => ⟨rfl, fun w' h => ⟨54, #[.agg (kd p r c gx gy).toArray, U (tm p x x), U x], exec_call rfl call54 rfl (mpn rfl), dmul_any hp (tm p x x) x (tm_lt hp) hx w'⟩⟩) (ak (fun _ => ⟨rfl, fun _ _ => rfl⟩) (ak (fun γ => ⟨rfl, fun w' h => ⟨56, #[.agg (kd p r c gx gy).toArray, U (tm p (tm p x x) x), U x], exec_call rfl call56 rfl (mpn rfl), dadd_any hp (tm p (tm p x x) x) x (tm_lt hp) hx w'⟩⟩) (ak (fun _ => ⟨rfl, fun _ _ => rfl⟩) trivial))))))))))
  intro _ w2 H2
  clear H1
  refine rest0 rfl (then_normal (wp_ret ?_))
  repeat (first | refine then_ret ?_ | refine block_ret ?_)
  refine bodyPost_ret (v := U (pl p (tm p (tm p x x) x) x)) (by simp [results, Try.results52, go_sem, *]) rfl ?_
  exact ⟨rfl, H2.out.2⟩
theorem side_any (hp : Pr p) (x : Nat) (hx : x < p) (w : World) : Calls Try.prog 52 #[.agg (kd p r c gx gy).toArray, U x] w fun e w' => e = .returned (U (cb p x)) ∧ Below w.heap.size w w' := by
  have h := side_raw (r := r) (c := c) (gx := gx) (gy := gy) hp x hx w
  rw [side_cb] at h
  exact h
set_option maxRecDepth 100000 in
theorem dc_z0 (X Y : Nat) (h : X ≠ 0) (w : World) :
    Calls Try.prog 22 #[.agg (kd p r c gx gy).toArray, .agg (pt X Y true).toArray] w fun e w' => e = .returned (.bool false) ∧ Below w.heap.size w w' := by
  have H0 : Hid (_ ∧ _) := ⟨Mm.nil w, Below.refl w.heap.size w⟩
  go_enter Try.func22, Try.ntmps22
  refine wp_seq ?_
  refine walk_seqA 3 [.made (kd p r c gx gy) 27, .made (pt X Y true) 25, .quiet (.bool false)] (sB H0) ?ho1 ?he1
  case ho1 => exact ak (fun γ => ⟨rfl, fun w' => ex_boxT rfl rfl⟩) (ak (fun γ => ⟨rfl, fun w' => ex_boxT rfl rfl⟩) (ak (fun _ => ⟨rfl, fun _ _ => rfl⟩) trivial))
  intro γ w1 l hM hl
  have H1 : Hid (Mm w1 [(γ 0, kd p r c gx gy), (γ 1, pt X Y true)] ∧ _) := growB H0 hM (Nat.le_refl _) hl [0, 1] rfl (by decide)
  have o1_0 := ownB H0 hM (Nat.le_refl _) hl (i := 0) rfl
  have o1_1 := ownB H0 hM (Nat.le_refl _) hl (i := 1) rfl
  clear hM hl l
  generalize γ 0 = γ1_0 at H1 o1_0 ⊢
  generalize γ 1 = γ1_1 at H1 o1_1 ⊢
  clear γ
  refine rest0 rfl (then_normal (wp_seq (wp_seq ?_)))
  refine walk_seqB 2 [.quiet (PT γ1_1 2), .quiet (.bool true)] H1 ?ho2 ?he2
  case ho2 => exact ak (by refine fun γ => ⟨rfl, fun w' h => ?_⟩; clear h; go_simp) (ak (fun γ => ⟨rfl, fun w' h => ex_loadC h 1 rfl rfl rfl Try.isAgg4 rfl⟩) trivial)
  intro _ w2 H2
  clear H1
  refine rest0 rfl (then_normal (wp_cond_true rfl (wp_seq ?_)))
  refine walk_seqB 9 [.quiet (PT γ1_1 0), .quiet (U X), .quiet (.bool false), .quiet (.bool false), .gone, .gone, .gone, .quiet (.bool false), .quiet (.bool false)] H2 ?ho3 ?he3
  case ho3 => exact ak (by refine fun γ => ⟨rfl, fun w' h => ?_⟩; clear h; go_simp) (ak (fun γ => ⟨rfl, fun w' h => ex_loadC h 1 rfl rfl rfl Try.isAgg23 rfl⟩) (ak (fun γ => ⟨rfl, fun w' _ => ex_eqU rfl rfl rfl (decide_eq_false (h))⟩) (ak (fun _ => ⟨rfl, fun _ _ => rfl⟩) (ak (fun γ => rfl) (ak (fun γ => rfl) (ak (fun γ => rfl) (ak (by refine fun γ => ⟨rfl, fun w' h => ?_⟩; clear h; go_simp) (ak (fun _ => ⟨rfl, fun _ _ => rfl⟩) trivial))))))))
  intro _ w3 H3
  clear H2
  refine rest0 rfl (then_normal (wp_ret ?_))
  repeat (first | refine then_ret ?_ | refine block_ret ?_)
  refine bodyPost_ret (v := .bool false) (by simp [results, Try.results22, go_sem, *]) rfl ?_
  exact ⟨rfl, H3.out.2⟩
set_option maxRecDepth 100000 in
theorem dc_z1 (X Y : Nat) (h : X = 0) (w : World) :
    Calls Try.prog 22 #[.agg (kd p r c gx gy).toArray, .agg (pt X Y true).toArray] w fun e w' => e = .returned (.bool (decide (Y = 0))) ∧ Below w.heap.size w w' := by
  have H0 : Hid (_ ∧ _) := ⟨Mm.nil w, Below.refl w.heap.size w⟩
  go_enter Try.func22, Try.ntmps22
  refine wp_seq ?_
  refine walk_seqA 3 [.made (kd p r c gx gy) 27, .made (pt X Y true) 25, .quiet (.bool false)] (sB H0) ?ho1 ?he1
  case ho1 => exact ak (fun γ => ⟨rfl, fun w' => ex_boxT rfl rfl⟩) (ak (fun γ => ⟨rfl, fun w' => ex_boxT rfl rfl⟩) (ak (fun _ => ⟨rfl, fun _ _ => rfl⟩) trivial))
  intro γ w1 l hM hl
  have H1 : Hid (Mm w1 [(γ 0, kd p r c gx gy), (γ 1, pt X Y true)] ∧ _) := growB H0 hM (Nat.le_refl _) hl [0, 1] rfl (by decide)
  have o1_0 := ownB H0 hM (Nat.le_refl _) hl (i := 0) rfl
  have o1_1 := ownB H0 hM (Nat.le_refl _) hl (i := 1) rfl
  clear hM hl l
  generalize γ 0 = γ1_0 at H1 o1_0 ⊢
  generalize γ 1 = γ1_1 at H1 o1_1 ⊢
  clear γ
  refine rest0 rfl (then_normal (wp_seq (wp_seq ?_)))
  refine walk_seqB 2 [.quiet (PT γ1_1 2), .quiet (.bool true)] H1 ?ho2 ?he2
  case ho2 => exact ak (by refine fun γ => ⟨rfl, fun w' h => ?_⟩; clear h; go_simp) (ak (fun γ => ⟨rfl, fun w' h => ex_loadC h 1 rfl rfl rfl Try.isAgg4 rfl⟩) trivial)
  intro _ w2 H2
  clear H1
  refine rest0 rfl (then_normal (wp_cond_true rfl (wp_seq ?_)))
  refine walk_seqB 9 [.quiet (PT γ1_1 0), .quiet (U X), .quiet (.bool true), .quiet (.bool true), .quiet (PT γ1_1 1), .quiet (U Y), .quiet (.bool (decide (Y = 0))), .quiet (.bool (decide (Y = 0))), .quiet (.bool (decide (Y = 0)))] H2 ?ho3 ?he3
  case ho3 => exact ak (by refine fun γ => ⟨rfl, fun w' h => ?_⟩; clear h; go_simp) (ak (fun γ => ⟨rfl, fun w' h => ex_loadC h 1 rfl rfl rfl Try.isAgg23 rfl⟩) (ak (fun γ => ⟨rfl, fun w' _ => ex_eqU rfl rfl rfl (decide_eq_true (h))⟩) (ak (fun _ => ⟨rfl, fun _ _ => rfl⟩) (ak (by refine fun γ => ⟨rfl, fun w' h => ?_⟩; clear h; go_simp) (ak (fun γ => ⟨rfl, fun w' h => ex_loadC h 1 rfl rfl rfl Try.isAgg23 rfl⟩) (ak (fun γ => ⟨rfl, fun w' _ => ex_eqU rfl rfl rfl rfl⟩) (ak (by refine fun γ => ⟨rfl, fun w' h => ?_⟩; clear h; go_simp) (ak (fun _ => ⟨rfl, fun _ _ => rfl⟩) trivial))))))))
  intro _ w3 H3
  clear H2
  refine rest0 rfl (then_normal (wp_ret ?_))
  repeat (first | refine then_ret ?_ | refine block_ret ?_)
  refine bodyPost_ret (v := .bool (decide (Y = 0))) (by simp [results, Try.results22, go_sem, *]) rfl ?_
  exact ⟨rfl, H3.out.2⟩
set_option maxRecDepth 100000 in
theorem dc_x (X Y : Nat) (hX : ¬ X < p) (w : World) :
    Calls Try.prog 22 #[.agg (kd p r c gx gy).toArray, .agg (pt X Y false).toArray] w fun e w' => e = .returned (.bool false) ∧ Below w.heap.size w w' := by
  have H0 : Hid (_ ∧ _) := ⟨Mm.nil w, Below.refl w.heap.size w⟩
  go_enter Try.func22, Try.ntmps22
  refine wp_seq ?_
  refine walk_seqA 3 [.made (kd p r c gx gy) 27, .made (pt X Y false) 25, .quiet (.bool false)] (sB H0) ?ho1 ?he1
  case ho1 => exact ak (fun γ => ⟨rfl, fun w' => ex_boxT rfl rfl⟩) (ak (fun γ => ⟨rfl, fun w' => ex_boxT rfl rfl⟩) (ak (fun _ => ⟨rfl, fun _ _ => rfl⟩) trivial))
  intro γ w1 l hM hl
  have H1 : Hid (Mm w1 [(γ 0, kd p r c gx gy), (γ 1, pt X Y false)] ∧ _) := growB H0 hM (Nat.le_refl _) hl [0, 1] rfl (by decide)
  have o1_0 := ownB H0 hM (Nat.le_refl _) hl (i := 0) rfl
  have o1_1 := ownB H0 hM (Nat.le_refl _) hl (i := 1) rfl
  clear hM hl l
  generalize γ 0 = γ1_0 at H1 o1_0 ⊢
  generalize γ 1 = γ1_1 at H1 o1_1 ⊢
  clear γ
  refine rest0 rfl (then_normal (wp_seq (wp_seq ?_)))
  refine walk_seqB 2 [.quiet (PT γ1_1 2), .quiet (.bool false)] H1 ?ho2 ?he2
  case ho2 => exact ak (by refine fun γ => ⟨rfl, fun w' h => ?_⟩; clear h; go_simp) (ak (fun γ => ⟨rfl, fun w' h => ex_loadC h 1 rfl rfl rfl Try.isAgg4 rfl⟩) trivial)
  intro _ w2 H2
  clear H1
  refine rest0 rfl (then_normal (wp_cond_false rfl ?_))
  refine wp_skip (then_normal (wp_seq ?_))
  refine walk_anyB 26 [.quiet (PT γ1_1 0), .quiet (U X), .quiet (PT γ1_0 0), .quiet (U p), .quiet (.bool false), .quiet (.bool false), .gone, .gone, .gone, .gone, .gone, .quiet (.bool false), .quiet (.bool false), .gone, .gone, .gone, .gone, .gone, .gone, .gone, .gone, .gone, .gone, .gone, .quiet (.bool false), .quiet (.bool false)] H2 ?ho3 ?he3 (hL := ?hL3)
  case hL3 => exact trivial
  case ho3 => exact ak (by refine fun γ => ⟨rfl, fun w' h => ?_⟩; clear h; go_simp) (ak (fun γ => ⟨rfl, fun w' h => ex_loadC h 1 rfl rfl rfl Try.isAgg23 rfl⟩) (ak (by refine fun γ => ⟨rfl, fun w' h => ?_⟩; clear h; go_simp) (ak (fun γ => ⟨rfl, fun w' h => ex_loadC h 0 rfl rfl rfl Try.isAgg23 rfl⟩) (ak (fun γ => ⟨rfl, fun w' _ => ex_ltU rfl rfl rfl (decide_eq_false (hX))⟩) (ak (fun _ => ⟨rfl, fun _ _ => rfl⟩) (ak (fun γ => rfl) (ak (fun γ => rfl) (ak (fun γ => rfl) (ak (fun γ => rfl) (ak (fun γ => rfl) (ak (by refine fun γ => ⟨rfl, fun w' h => ?_⟩; clear h; go_simp) (ak (fun _ => ⟨rfl, fun _ _ => rfl⟩) (ak (fun γ => rfl) (ak (fun γ => rfl) (ak (fun γ => rfl) (ak (fun γ => rfl) (ak (fun γ => rfl) (ak (fun γ => rfl) (ak (fun γ => rfl) (ak (fun γ => rfl) (ak (fun γ => rfl) (ak (fun γ => rfl) (ak (fun γ => rfl) (ak (by refine fun γ => ⟨rfl, fun w' h => ?_⟩; clear h; go_simp) (ak (fun _ => ⟨rfl, fun _ _ => rfl⟩) trivial)))))))))))))))))))))))))
  intro _ w3 H3
  clear H2
  refine rest0 rfl (then_normal (wp_ret ?_))
  repeat (first | refine then_ret ?_ | refine block_ret ?_)
  refine bodyPost_ret (v := .bool false) (by simp [results, Try.results22, go_sem, *]) rfl ?_
  exact ⟨rfl, H3.out.2⟩
set_option maxRecDepth 100000 in
theorem dc_y (X Y : Nat) (hX : X < p) (hY : ¬ Y < p) (w : World) :
    Calls Try.prog 22 #[.agg (kd p r c gx gy).toArray, .agg (pt X Y false).toArray] w fun e w' => e = .returned (.bool false) ∧ Below w.heap.size w w' := by
  have H0 : Hid (_ ∧ _) := ⟨Mm.nil w, Below.refl w.heap.size w⟩
  go_enter Try.func22, Try.ntmps22
  refine wp_seq ?_
  refine walk_seqA 3 [.made (kd p r c gx gy) 27, .made (pt X Y false) 25, .quiet (.bool false)] (sB H0) ?ho1 ?he1
  case ho1 => exact ak (fun γ => ⟨rfl, fun w' => ex_boxT rfl rfl⟩) (ak (fun γ => ⟨rfl, fun w' => ex_boxT rfl rfl⟩) (ak (fun _ => ⟨rfl, fun _ _ => rfl⟩) trivial))
  intro γ w1 l hM hl
  have H1 : Hid (Mm w1 [(γ 0, kd p r c gx gy), (γ 1, pt X Y false)] ∧ _) := growB H0 hM (Nat.le_refl _) hl [0, 1] rfl (by decide)
  have o1_0 := ownB H0 hM (Nat.le_refl _) hl (i := 0) rfl
  have o1_1 := ownB H0 hM (Nat.le_refl _) hl (i := 1) rfl
  clear hM hl l
  generalize γ 0 = γ1_0 at H1 o1_0 ⊢
  generalize γ 1 = γ1_1 at H1 o1_1 ⊢
  clear γ
  refine rest0 rfl (then_normal (wp_seq (wp_seq ?_)))
  refine walk_seqB 2 [.quiet (PT γ1_1 2), .quiet (.bool false)] H1 ?ho2 ?he2
  case ho2 => exact ak (by refine fun γ => ⟨rfl, fun w' h => ?_⟩; clear h; go_simp) (ak (fun γ => ⟨rfl, fun w' h => ex_loadC h 1 rfl rfl rfl Try.isAgg4 rfl⟩) trivial)
  intro _ w2 H2
  clear H1
  refine rest0 rfl (then_normal (wp_cond_false rfl ?_))
  refine wp_skip (then_normal (wp_seq ?_))
  refine walk_anyB 26 [.quiet (PT γ1_1 0), .quiet (U X), .quiet (PT γ1_0 0), .quiet (U p), .quiet (.bool true), .quiet (.bool true), .quiet (PT γ1_1 1), .quiet (U Y), .quiet (PT γ1_0 0), .quiet (U p), .quiet (.bool false), .quiet (.bool false), .quiet (.bool false), .gone, .gone, .gone, .gone, .gone, .gone, .gone, .gone, .gone, .gone, .gone, .quiet (.bool false), .quiet (.bool false)] H2 ?ho3 ?he3 (hL := ?hL3)
  case hL3 => exact trivial
  case ho3 => exact ak (by refine fun γ => ⟨rfl, fun w' h => ?_⟩; clear h; go_simp) (ak (fun γ => ⟨rfl, fun w' h => ex_loadC h 1 rfl rfl rfl Try.isAgg23 rfl⟩) (ak (by refine fun γ => ⟨rfl, fun w' h => ?_⟩; clear h; go_simp) (ak (fun γ => ⟨rfl, fun w' h => ex_loadC h 0 rfl rfl rfl Try.isAgg23 rfl⟩) (ak (fun γ => ⟨rfl, fun w' _ => ex_ltU rfl rfl rfl (decide_eq_true (hX))⟩) (ak (fun _ => ⟨rfl, fun _ _ => rfl⟩) (ak (by refine fun γ => ⟨rfl, fun w' h => ?_⟩; clear h; go_simp) (ak (fun γ => ⟨rfl, fun w' h => ex_loadC h 1 rfl rfl rfl Try.isAgg23 rfl⟩) (ak (by refine fun γ => ⟨rfl, fun w' h => ?_⟩; clear h; go_simp) (ak (fun γ => ⟨rfl, fun w' h => ex_loadC h 0 rfl rfl rfl Try.isAgg23 rfl⟩) (ak (fun γ => ⟨rfl, fun w' _ => ex_ltU rfl rfl rfl (decide_eq_false (hY))⟩) (ak (by refine fun γ => ⟨rfl, fun w' h => ?_⟩; clear h; go_simp) (ak (fun _ => ⟨rfl, fun _ _ => rfl⟩) (ak (fun γ => rfl) (ak (fun γ => rfl) (ak (fun γ => rfl) (ak (fun γ => rfl) (ak (fun γ => rfl) (ak (fun γ => rfl) (ak (fun γ => rfl) (ak (fun γ => rfl) (ak (fun γ => rfl) (ak (fun γ => rfl) (ak (fun γ => rfl) (ak (by refine fun γ => ⟨rfl, fun w' h => ?_⟩; clear h; go_simp) (ak (fun _ => ⟨rfl, fun _ _ => rfl⟩) trivial)))))))))))))))))))))))))
  intro _ w3 H3
  clear H2
  refine rest0 rfl (then_normal (wp_ret ?_))
  repeat (first | refine then_ret ?_ | refine block_ret ?_)
  refine bodyPost_ret (v := .bool false) (by simp [results, Try.results22, go_sem, *]) rfl ?_
  exact ⟨rfl, H3.out.2⟩
set_option maxRecDepth 100000 in
theorem dc_in (hp : Pr p) (X Y : Nat) (hX : X < p) (hY : Y < p) (w : World) :
    Calls Try.prog 22 #[.agg (kd p r c gx gy).toArray, .agg (pt X Y false).toArray] w fun e w' => e = .returned (.bool (decide (tm p Y Y = cb p X))) ∧ Below w.heap.size w w' := by
  have H0 : Hid (_ ∧ _) := ⟨Mm.nil w, Below.refl w.heap.size w⟩
  go_enter Try.func22, Try.ntmps22
  refine wp_seq ?_
  refine walk_seqA 3 [.made (kd p r c gx gy) 27, .made (pt X Y false) 25, .quiet (.bool false)] (sB H0) ?ho1 ?he1
  case ho1 => exact ak (fun γ => ⟨rfl, fun w' => ex_boxT rfl rfl⟩) (ak (fun γ => ⟨rfl, fun w' => ex_boxT rfl rfl⟩) (ak (fun _ => ⟨rfl, fun _ _ => rfl⟩) trivial))
  intro γ w1 l hM hl
  have H1 : Hid (Mm w1 [(γ 0, kd p r c gx gy), (γ 1, pt X Y false)] ∧ _) := growB H0 hM (Nat.le_refl _) hl [0, 1] rfl (by decide)
  have o1_0 := ownB H0 hM (Nat.le_refl _) hl (i := 0) rfl
  have o1_1 := ownB H0 hM (Nat.le_refl _) hl (i := 1) rfl
  clear hM hl l
  generalize γ 0 = γ1_0 at H1 o1_0 ⊢
  generalize γ 1 = γ1_1 at H1 o1_1 ⊢
  clear γ
  refine rest0 rfl (then_normal (wp_seq (wp_seq ?_)))
  refine walk_seqB 2 [.quiet (PT γ1_1 2), .quiet (.bool false)] H1 ?ho2 ?he2
  case ho2 => exact ak (by refine fun γ => ⟨rfl, fun w' h => ?_⟩; clear h; go_simp) (ak (fun γ => ⟨rfl, fun w' h => ex_loadC h 1 rfl rfl rfl Try.isAgg4 rfl⟩) trivial)
  intro _ w2 H2
  clear H1
  refine rest0 rfl (then_normal (wp_cond_false rfl ?_))
  refine wp_skip (then_normal (wp_seq ?_))
  refine walk_anyB 26 [.quiet (PT γ1_1 0), .quiet (U X), .quiet (PT γ1_0 0), .quiet (U p), .quiet (.bool true), .quiet (.bool true), .quiet (PT γ1_1 1), .quiet (U Y), .quiet (PT γ1_0 0), .quiet (U p), .quiet (.bool true), .quiet (.bool true), .quiet (.bool true), .quiet (.agg (kd p r c gx gy).toArray), .quiet (PT γ1_1 1), .quiet (U Y), .quiet (PT γ1_1 1), .quiet (U Y), .call (U (tm p Y Y)), .quiet (.agg (kd p r c gx gy).toArray), .quiet (PT γ1_1 0), .quiet (U X), .call (U (cb p X)), .quiet (.bool (decide (tm p Y Y = cb p X))), .quiet (.bool (decide (tm p Y Y = cb p X))), .quiet (.bool (decide (tm p Y Y = cb p X)))] H2 ?ho3 ?he3 (hL := ?hL3)
  case hL3 => exact trivial
  case ho3 => exact ak (by refine fun γ => ⟨rfl, fun w' h => ?_⟩; clear h; go_simp) (ak (fun γ => ⟨rfl, fun w' h => ex_loadC h 1 rfl rfl rfl Try.isAgg23 rfl⟩) (ak (by refine fun γ => ⟨rfl, fun w' h => ?_⟩; clear h; go_simp) (ak (fun γ => ⟨rfl, fun w' h => ex_loadC h 0 rfl rfl rfl Try.isAgg23 rfl⟩) (ak (fun γ => ⟨rfl, fun w' _ => ex_ltU rfl rfl rfl (decide_eq_true (hX))⟩) (ak (fun _ => ⟨rfl, fun _ _ => rfl⟩) (ak (by refine fun γ => ⟨rfl, fun w' h => ?_⟩; clear h; go_simp) (ak (fun γ => ⟨rfl, fun w' h => ex_loadC h 1 rfl rfl rfl Try.isAgg23 rfl⟩) (ak (by refine fun γ => ⟨rfl, fun w' h => ?_⟩; clear h; go_simp) (ak (fun γ => ⟨rfl, fun w' h => ex_loadC h 0 rfl rfl rfl Try.isAgg23 rfl⟩) (ak (fun γ => ⟨rfl, fun w' _ => ex_ltU rfl rfl rfl (decide_eq_true (hY))⟩) (ak (by refine fun γ => ⟨rfl, fun w' h => ?_⟩; clear h; go_simp) (ak (fun _ => ⟨rfl, fun _ _ => rfl⟩) (ak (fun γ => ⟨rfl, fun w' h => ex_loadT h 0 rfl rfl rfl Try.isAgg27 Try.sizeOf27 rfl rfl⟩) (ak (by refine fun γ => ⟨rfl, fun w' h => ?_⟩; clear h; go_simp) (ak (fun γ => ⟨rfl, fun w' h => ex_loadC h 1 rfl rfl rfl Try.isAgg23 rfl⟩) (ak (by refine fun γ => ⟨rfl, fun w' h => ?_⟩; clear h; go_simp) (ak (fun γ => ⟨rfl, fun w' h => ex_loadC h 1 rfl rfl rfl Try.isAgg23 rfl⟩) (ak (fun γ => ⟨rfl, fun w' h => ⟨54, #[.agg (kd p r c gx gy).toArray, U Y, U Y], exec_call rfl call54 rfl (mpn rfl), dmul_any hp Y Y hY hY w'⟩⟩) (ak (fun γ => ⟨rfl, fun w' h => ex_loadT h 0 rfl rfl rfl Try.isAgg27 Try.sizeOf27 rfl rfl⟩) (ak (by refine fun γ => ⟨rfl, fun w' h => ?_⟩; clear h; go_simp) (ak (fun γ => ⟨rfl, fun w' h => ex_loadC h 1 rfl rfl rfl Try.isAgg23 rfl⟩) (ak (fun γ => ⟨rfl, fun w' h => ⟨52, #[.agg (kd p r c gx gy).toArray, U X], exec_call rfl call52 rfl (mpn rfl), side_any hp X hX w'⟩⟩) (ak (fun γ => ⟨rfl, fun w' _ => ex_eqU rfl rfl rfl rfl⟩) (ak (by refine fun γ => ⟨rfl, fun w' h => ?_⟩; clear h; go_simp) (ak (fun _ => ⟨rfl, fun _ _ => rfl⟩) trivial)))))))))))))))))))))))))
  intro _ w3 H3
  clear H2
  refine rest0 rfl (then_normal (wp_ret ?_))
  repeat (first | refine then_ret ?_ | refine block_ret ?_)
  refine bodyPost_ret (v := .bool (decide (tm p Y Y = cb p X))) (by simp [results, Try.results22, go_sem, *]) rfl ?_
  exact ⟨rfl, H3.out.2⟩
theorem dCheck_any (hp : Pr p) (X Y : Nat) (Z : Bool) (w : World) : Calls Try.prog 22 #[.agg (kd p r c gx gy).toArray, .agg (pt X Y Z).toArray] w fun e w' => e = .returned (.bool (oc p X Y Z)) ∧ Below w.heap.size w w' := by
  unfold oc
  cases Z
  · rw [if_neg (by decide)]
    by_cases hX : X < p
    · by_cases hY : Y < p
      · rw [decide_eq_true hX, decide_eq_true hY, Bool.true_and, Bool.true_and]; exact dc_in hp X Y hX hY w
      · rw [decide_eq_false hY, Bool.false_and, Bool.and_false]; exact dc_y X Y hX hY w
    · rw [decide_eq_false hX, Bool.false_and]; exact dc_x X Y hX w
  · rw [if_pos rfl]
    by_cases hX : X = 0
    · rw [decide_eq_true hX, Bool.true_and]; exact dc_z1 X Y hX w
    · rw [decide_eq_false hX, Bool.false_and]; exact dc_z0 X Y hX w
set_option maxRecDepth 100000 in
theorem dNeg_any (hp : Pr p) (X Y : Nat) (Z : Bool) (hY : Y < p) (w : World) :
    Calls Try.prog 25 #[.agg (kd p r c gx gy).toArray, .agg (pt X Y Z).toArray] w fun e w' => e = .returned (V (pt X (mi p 0 Y) Z)) ∧ Below w.heap.size w w' := by
  have H0 : Hid (_ ∧ _) := ⟨Mm.nil w, Below.refl w.heap.size w⟩
  go_enter Try.func25, Try.ntmps25
  refine wp_seq ?_
  refine walk_seqA 3 [.made (kd p r c gx gy) 27, .made (pt X Y Z) 25, .made (pt 0 0 false) 25] (sB H0) ?ho1 ?he1
  case ho1 => exact ak (fun γ => ⟨rfl, fun w' => ex_boxT rfl rfl⟩) (ak (fun γ => ⟨rfl, fun w' => ex_boxT rfl rfl⟩) (ak (fun γ => ⟨rfl, fun w' => ex_made25 rfl⟩) trivial))
  intro γ w1 l hM hl
  have H1 : Hid (Mm w1 [(γ 0, kd p r c gx gy), (γ 1, pt X Y Z), (γ 2, pt 0 0 false)] ∧ _) := growB H0 hM (Nat.le_refl _) hl [0, 1, 2] rfl (by decide)
  have o1_0 := ownB H0 hM (Nat.le_refl _) hl (i := 0) rfl
  have o1_1 := ownB H0 hM (Nat.le_refl _) hl (i := 1) rfl
  have o1_2 := ownB H0 hM (Nat.le_refl _) hl (i := 2) rfl
  clear hM hl l
  generalize γ 0 = γ1_0 at H1 o1_0 ⊢
  generalize γ 1 = γ1_1 at H1 o1_1 ⊢
  generalize γ 2 = γ1_2 at H1 o1_2 ⊢
  clear γ
  refine rest0 rfl (then_normal (wp_seq ?_))
  refine walk_seqB 5 [.quiet (.agg (kd p r c gx gy).toArray), .quiet (PT γ1_1 1), .quiet (U Y), .call (U (mi p 0 Y)), .quiet (PT γ1_1 1)] H1 ?ho2 ?he2
  case ho2 => exact ak (fun γ => ⟨rfl, fun w' h => ex_loadT h 0 rfl rfl rfl Try.isAgg27 Try.sizeOf27 rfl rfl⟩) (ak (by refine fun γ => ⟨rfl, fun w' h => ?_⟩; clear h; go_simp) (ak (fun γ => ⟨rfl, fun w' h => ex_loadC h 1 rfl rfl rfl Try.isAgg23 rfl⟩) (ak (fun γ => ⟨rfl, fun w' h => ⟨55, #[.agg (kd p r c gx gy).toArray, U Y], exec_call rfl call55 rfl (mpn rfl), dneg_any hp Y hY w'⟩⟩) (ak (by refine fun γ => ⟨rfl, fun w' h => ?_⟩; clear h; go_simp) trivial))))
  intro _ w2 H2
  clear H1
  refine rest_at (l := [5]) rfl ?_
  refine rest_store rfl rfl rfl (ex_storeI H2.out.1 1 rfl rfl Try.sizeOf23 rfl rfl (Nat.le_of_ble_eq_true rfl)) ?_
  have H3 : Hid (Mm (w2.setCells γ1_1 1 [U (mi p 0 Y)]) [(γ1_0, kd p r c gx gy), (γ1_1, pt X (mi p 0 Y) Z), (γ1_2, pt 0 0 false)] ∧ Below w.heap.size w (w2.setCells γ1_1 1 [U (mi p 0 Y)])) := ⟨H2.out.1.put 1 (off := 1) (vs := [U (mi p 0 Y)]) rfl (Nat.le_of_ble_eq_true rfl), below_setCells _ o1_1.out _ _ _ H2.out.2⟩
  clear H2
  generalize hgw : World.setCells _ _ _ _ = w3 at H3 ⊢
  clear hgw
  refine rest_nil (then_normal (wp_seq ?_))
  refine walk_seqB 1 [.quiet (.agg (pt X (mi p 0 Y) Z).toArray)] H3 ?ho3 ?he3
  case ho3 => exact ak (fun γ => ⟨rfl, fun w' h => ex_loadT h 1 rfl rfl rfl Try.isAgg25 Try.sizeOf25 rfl rfl⟩) trivial
  intro _ w4 H4
  clear H3
  refine rest_at (l := [1]) rfl ?_
  refine rest_store rfl rfl rfl (ex_storeT (vs := pt X (mi p 0 Y) Z) H4.out.1 2 rfl rfl rfl rfl Try.sizeOf25 rfl (Nat.le_of_ble_eq_true rfl)) ?_
  have H5 : Hid (Mm (w4.setCells γ1_2 0 (pt X (mi p 0 Y) Z)) [(γ1_0, kd p r c gx gy), (γ1_1, pt X (mi p 0 Y) Z), (γ1_2, pt X (mi p 0 Y) Z)] ∧ Below w.heap.size w (w4.setCells γ1_2 0 (pt X (mi p 0 Y) Z))) := ⟨H4.out.1.put 2 (off := 0) (vs := pt X (mi p 0 Y) Z) rfl (Nat.le_of_ble_eq_true rfl), below_setCells _ o1_2.out _ _ _ H4.out.2⟩
  clear H4
  generalize hgw : World.setCells _ _ _ _ = w5 at H5 ⊢
  clear hgw
  refine rest_nil (then_normal (wp_ret ?_))
  repeat (first | refine then_ret ?_ | refine block_ret ?_)
  have hf0 := var_T H5.out.1 2 rfl Try.isAgg25 Try.sizeOf25 rfl
  refine bodyPost_ret (v := .agg (pt X (mi p 0 Y) Z).toArray) (by simp [results, Try.results25, asAddr, hf0]) rfl ?_
  exact ⟨rfl, H5.out.2⟩
theorem eq_self (X Y : Nat) (Z : Bool) (w : World) : (Op.equalIn 10000 25 (V (pt X Y Z)) (V (pt X Y Z))).run Try.prog w = .ok true w := by
  rw [run_eqP X Y X Y Z Z w, decide_eq_true rfl, decide_eq_true rfl, beq_self_eq_true]
  rfl
theorem eq_not (X Y X' Y' : Nat) (Z Z' : Bool) (h : ¬ ((X, Y, Z) : P3) = (X', Y', Z')) (w : World) : (Op.equalIn 10000 25 (V (pt X Y Z)) (V (pt X' Y' Z'))).run Try.prog w = .ok false w := by
  rw [run_eqP X Y X' Y' Z Z' w]
  refine congrArg (fun t => Result.ok t w) ?_
  by_cases h1 : X = X'
  · by_cases h2 : Y = Y'
    · have h3 : Z ≠ Z' := fun h3 => h (by rw [h1, h2, h3])
      simp [h3]
    · simp [h2]
  · simp [h1]
set_option maxHeartbeats 1000000 in
set_option maxRecDepth 100000 in
theorem slope_same (hp : Pr p) (X Y : Nat) (Z : Bool) (hX : X < p) (hY : Y < p) (w : World) :
    Calls Try.prog 58 #[.agg (kd p r c gx gy).toArray, .agg (pt X Y Z).toArray, .agg (pt X Y Z).toArray] w fun e w' => e = .returned (U (sl1 p X Y)) ∧ Below w.heap.size w w' := by
  have H0 : Hid (_ ∧ _) := ⟨Mm.nil w, Below.refl w.heap.size w⟩
  go_enter Try.func58, Try.ntmps58
  refine wp_seq ?_
  refine walk_seqA 4 [.made (kd p r c gx gy) 27, .made (pt X Y Z) 25, .made (pt X Y Z) 25, .quiet (U 0)] (sB H0) ?ho1 ?he1
  case ho1 => exact ak (fun γ => ⟨rfl, fun w' => ex_boxT rfl rfl⟩) (ak (fun γ => ⟨rfl, fun w' => ex_boxT rfl rfl⟩) (ak (fun γ => ⟨rfl, fun w' => ex_boxT rfl rfl⟩) (ak (fun _ => ⟨rfl, fun _ _ => rfl⟩) trivial)))
  intro γ w1 l hM hl
  have H1 : Hid (Mm w1 [(γ 0, kd p r c gx gy), (γ 1, pt X Y Z), (γ 2, pt X Y Z)] ∧ _) := growB H0 hM (Nat.le_refl _) hl [0, 1, 2] rfl (by decide)
  have o1_0 := ownB H0 hM (Nat.le_refl _) hl (i := 0) rfl
  have o1_1 := ownB H0 hM (Nat.le_refl _) hl (i := 1) rfl
  have o1_2 := ownB H0 hM (Nat.le_refl _) hl (i := 2) rfl
  clear hM hl l
  generalize γ 0 = γ1_0 at H1 o1_0 ⊢
  generalize γ 1 = γ1_1 at H1 o1_1 ⊢
  generalize γ 2 = γ1_2 at H1 o1_2 ⊢
  clear γ
  refine rest0 rfl (then_normal (wp_seq (wp_seq ?_)))
  refine walk_seqB 3 [.quiet (.agg (pt X Y Z).toArray), .quiet (.agg (pt X Y Z).toArray), .quiet (.bool true)] H1 ?ho2 ?he2
  case ho2 => exact ak (fun γ => ⟨rfl, fun w' h => ex_loadT h 1 rfl rfl rfl Try.isAgg25 Try.sizeOf25 rfl rfl⟩) (ak (fun γ => ⟨rfl, fun w' h => ex_loadT h 2 rfl rfl rfl Try.isAgg25 Try.sizeOf25 rfl rfl⟩) (ak (fun γ => ⟨rfl, fun w' _ => exec_eqT25 (fun w => eq_self X Y Z w) rfl rfl rfl⟩) trivial))
  intro _ w2 H2
  clear H1
  refine rest0 rfl (then_normal (wp_cond_true rfl (wp_seq ?_)))
  refine walk_seqB 7 [.quiet (.agg (kd p r c gx gy).toArray), .quiet (PT γ1_1 0), .quiet (U X), .quiet (PT γ1_1 0), .quiet (U X), .call (U (tm p X X)), .quiet (U (tm p X X))] H2 ?ho3 ?he3
  case ho3 => exact ak (fun γ => ⟨rfl, fun w' h => ex_loadT h 0 rfl rfl rfl Try.isAgg27 Try.sizeOf27 rfl rfl⟩) (ak (by refine fun γ => ⟨rfl, fun w' h => ?_⟩; clear h; go_simp) (ak (fun γ => ⟨rfl, fun w' h => ex_loadC h 1 rfl rfl rfl Try.isAgg23 rfl⟩) (ak (by refine fun γ => ⟨rfl, fun w' h => ?_⟩; clear h; go_simp) (ak (fun γ => ⟨rfl, fun w' h => ex_loadC h 1 rfl rfl rfl Try.isAgg23 rfl⟩) (ak (fun γ => ⟨rfl, fun w' h => ⟨54, #[.agg (kd p r c gx gy).toArray, U X, U X], exec_call rfl call54 rfl (mpn rfl), dmul_any hp X X hX hX w'⟩⟩) (ak (fun _ => ⟨rfl, fun _ _ => rfl⟩) trivial))))))
  intro _ w3 H3
  clear H2
  refine rest0 rfl (then_normal (wp_seq ?_))
  refine walk_anyB 20 [.quiet (.agg (kd p r c gx gy).toArray), .quiet (.agg (kd p r c gx gy).toArray), .quiet (.agg (kd p r c gx gy).toArray), .quiet (.agg (kd p r c gx gy).toArray), .quiet (U (tm p X X)), .quiet (U (tm p X X)), .call (U (pl p (tm p X X) (tm p X X))), .quiet (U (tm p X X)), .call (U (pl p (pl p (tm p X X) (tm p X X)) (tm p X X))), .call (U (pl p (pl p (pl p (tm p X X) (tm p X X)) (tm p X X)) 1)), .quiet (.agg (kd p r c gx gy).toArray), .quiet (.agg (kd p r c gx gy).toArray), .quiet (PT γ1_1 1), .quiet (U Y), .quiet (PT γ1_1 1), .quiet (U Y), .call (U (pl p Y Y)), .call (U (pw p (pl p Y Y) (p - 2))), .call (U (tm p (pl p (pl p (pl p (tm p X X) (tm p X X)) (tm p X X)) 1) (pw p (pl p Y Y) (p - 2)))), .quiet (U (tm p (pl p (pl p (pl p (tm p X X) (tm p X X)) (tm p X X)) 1) (pw p (pl p Y Y) (p - 2))))] H3 ?ho4 ?he4
  case ho4 => exact ak (fun γ => ⟨rfl, fun w' h => ex_loadT h 0 rfl rfl rfl Try.isAgg27 Try.sizeOf27 rfl rfl⟩) (ak (fun γ => ⟨rfl, fun w' h => ex_loadT h 0 rfl rfl rfl Try.isAgg27 Try.sizeOf27 rfl rfl⟩) (ak (fun γ => ⟨rfl, fun w' h => ex_loadT h 0 rfl rfl rfl Try.isAgg27 Try.sizeOf27 rfl rfl⟩) (ak (fun γ => ⟨rfl, fun w' h => ex_loadT h 0 rfl rfl rfl Try.isAgg27 Try.sizeOf27 rfl rfl⟩) (ak (fun _ => ⟨rfl, fun _ _ => rfl⟩) (ak (fun _ => ⟨rfl, fun _ _ => rfl⟩) (ak (fun γ => ⟨rfl, fun w' h => ⟨56, #[.agg (kd p r c gx gy).toArray, U (tm p X X), U (tm p X X)], exec_call rfl call56 rfl (mpn rfl), dadd_any hp (tm p X X) (tm p X X) (tm_lt hp) (tm_lt hp) w'⟩⟩) (ak (fun _ => ⟨rfl, fun _ _ => rfl⟩) (ak (fun γ => ⟨rfl, fun w' h => ⟨56, #[.agg (kd p r c gx gy).toArray, U (pl p (tm p X X) (tm p X X)), U (tm p X X)], exec_call rfl call56 rfl (mpn rfl), dadd_any hp (pl p (tm p X X) (tm p X X)) (tm p X X) (pl_lt hp) (tm_lt hp) w'⟩⟩) (ak (fun γ => ⟨rfl, fun w' h => ⟨56, #[.agg (kd p r c gx gy).toArray, U (pl p (pl p (tm p X X) (tm p X X)) (tm p X X)), U 1], exec_call rfl call56 rfl (mpn rfl), dadd_any hp (pl p (pl p (tm p X X) (tm p X X)) (tm p X X)) 1 (pl_lt hp) (one_lt hp) w'⟩⟩) (ak (fun γ => ⟨rfl, fun w' h => ex_loadT h 0 rfl rfl rfl Try.isAgg27 Try.sizeOf27 rfl rfl⟩) (ak (fun γ => ⟨rfl, fun w' h => ex_loadT h 0 rfl rfl rfl Try.isAgg27 Try.sizeOf27 rfl rfl⟩) (ak (by refine fun γ => ⟨rfl, fun w' h => ?_⟩; clear h; go_simp) (ak (fun γ => ⟨rfl, fun w' h => ex_loadC h 1 rfl rfl rfl Try.isAgg23 rfl⟩) (ak (by refine fun γ => ⟨rfl, fun w' h => ?_⟩; clear h; go_simp) (ak (fun γ => ⟨rfl, fun w' h => ex_loadC h 1 rfl rfl rfl Try.isAgg23 rfl⟩) (ak (fun γ => ⟨rfl, fun w' h => ⟨56, #[.agg (kd p r c gx gy).toArray, U Y, U Y], exec_call rfl call56 rfl (mpn rfl), dadd_any hp Y Y hY hY w'⟩⟩) (ak (fun γ => ⟨rfl, fun w' h => ⟨77, #[.agg (kd p r c gx gy).toArray, U (pl p Y Y)], exec_call rfl call77 rfl (mpn rfl), dinv_any hp (pl p Y Y) (pl_lt hp) w'⟩⟩) (ak (fun γ => ⟨rfl, fun w' h => ⟨54, #[.agg (kd p r c gx gy).toArray, U (pl p (pl p (pl p (tm p X X) (tm p X X)) (tm p X X)) 1), U (pw p (pl p Y Y) (p - 2))], exec_call rfl call54 rfl (mpn rfl), dmul_any hp (pl p (pl p (pl p (tm p X X) (tm p X X)) (tm p X X)) 1) (pw p (pl p Y Y) (p - 2)) (pl_lt hp) (pw_lt hp) w'⟩⟩) (ak (fun _ => ⟨rfl, fun _ _ => rfl⟩) trivial)))))))))))))))))))
  intro _ w4 H4
  clear H3
  refine rest0 rfl (then_normal (wp_ret ?_))
  repeat (first | refine then_ret ?_ | refine block_ret ?_)
  refine bodyPost_ret (v := U (tm p (pl p (pl p (pl p (tm p X X) (tm p X X)) (tm p X X)) 1) (pw p (pl p Y Y) (p - 2)))) (by simp [results, Try.results58, go_sem, *]) rfl ?_
  exact ⟨rfl, H4.out.2⟩
set_option maxHeartbeats 1000000 in
set_option maxRecDepth 100000 in
theorem slope_else (hp : Pr p) (X Y : Nat) (Z : Bool) (hX : X < p) (hY : Y < p) (X' Y' : Nat) (Z' : Bool) (hX' : X' < p) (hY' : Y' < p) (hne : ¬ ((X, Y, Z) : P3) = (X', Y', Z')) (w : World) :
    Calls Try.prog 58 #[.agg (kd p r c gx gy).toArray, .agg (pt X Y Z).toArray, .agg (pt X' Y' Z').toArray] w fun e w' => e = .returned (U (sl2 p X Y X' Y')) ∧ Below w.heap.size w w' := by
  have H0 : Hid (_ ∧ _) := ⟨Mm.nil w, Below.refl w.heap.size w⟩
  go_enter Try.func58, Try.ntmps58
  refine wp_seq ?_
  refine walk_seqA 4 [.made (kd p r c gx gy) 27, .made (pt X Y Z) 25, .made (pt X' Y' Z') 25, .quiet (U 0)] (sB H0) ?ho1 ?he1
  case ho1 => exact ak (fun γ => ⟨rfl, fun w' => ex_boxT rfl rfl⟩) (ak (fun γ => ⟨rfl, fun w' => ex_boxT rfl rfl⟩) (ak (fun γ => ⟨rfl, fun w' => ex_boxT rfl rfl⟩) (ak (fun _ => ⟨rfl, fun _ _ => rfl⟩) trivial)))
  intro γ w1 l hM hl
  have H1 : Hid (Mm w1 [(γ 0, kd p r c gx gy), (γ 1, pt X Y Z), (γ 2, pt X' Y' Z')] ∧ _) := growB H0 hM (Nat.le_refl _) hl [0, 1, 2] rfl (by decide)
  have o1_0 := ownB H0 hM (Nat.le_refl _) hl (i := 0) rfl
  have o1_1 := ownB H0 hM (Nat.le_refl _) hl (i := 1) rfl
  have o1_2 := ownB H0 hM (Nat.le_refl _) hl (i := 2) rfl
  clear hM hl l
  generalize γ 0 = γ1_0 at H1 o1_0 ⊢
  generalize γ 1 = γ1_1 at H1 o1_1 ⊢
  generalize γ 2 = γ1_2 at H1 o1_2 ⊢
  clear γ
  refine rest0 rfl (then_normal (wp_seq (wp_seq ?_)))
  refine walk_seqB 3 [.quiet (.agg (pt X Y Z).toArray), .quiet (.agg (pt X' Y' Z').toArray), .quiet (.bool false)] H1 ?ho2 ?he2
  case ho2 => exact ak (fun γ => ⟨rfl, fun w' h => ex_loadT h 1 rfl rfl rfl Try.isAgg25 Try.sizeOf25 rfl rfl⟩) (ak (fun γ => ⟨rfl, fun w' h => ex_loadT h 2 rfl rfl rfl Try.isAgg25 Try.sizeOf25 rfl rfl⟩) (ak (fun γ => ⟨rfl, fun w' _ => exec_eqT25 (fun w => eq_not X Y X' Y' Z Z' hne w) rfl rfl rfl⟩) trivial))
  intro _ w2 H2
  clear H1
  refine rest0 rfl (then_normal (wp_cond_false rfl ?_))
  refine wp_skip (then_normal (wp_seq ?_))
  refine walk_anyB 17 [.quiet (.agg (kd p r c gx gy).toArray), .quiet (.agg (kd p r c gx gy).toArray), .quiet (PT γ1_2 1), .quiet (U Y'), .quiet (PT γ1_1 1), .quiet (U Y), .call (U (mi p Y' Y)), .quiet (.agg (kd p r c gx gy).toArray), .quiet (.agg (kd p r c gx gy).toArray), .quiet (PT γ1_2 0), .quiet (U X'), .quiet (PT γ1_1 0), .quiet (U X), .call (U (mi p X' X)), .call (U (pw p (mi p X' X) (p - 2))), .call (U (tm p (mi p Y' Y) (pw p (mi p X' X) (p - 2)))), .quiet (U (tm p (mi p Y' Y) (pw p (mi p X' X) (p - 2))))] H2 ?ho3 ?he3
  case ho3 => exact ak (fun γ => ⟨rfl, fun w' h => ex_loadT h 0 rfl rfl rfl Try.isAgg27 Try.sizeOf27 rfl rfl⟩) (ak (fun γ => ⟨rfl, fun w' h => ex_loadT h 0 rfl rfl rfl Try.isAgg27 Try.sizeOf27 rfl rfl⟩) (ak (by refine fun γ => ⟨rfl, fun w' h => ?_⟩; clear h; go_simp) (ak (fun γ => ⟨rfl, fun w' h => ex_loadC h 2 rfl rfl rfl Try.isAgg23 rfl⟩) (ak (by refine fun γ => ⟨rfl, fun w' h => ?_⟩; clear h; go_simp) (ak (fun γ => ⟨rfl, fun w' h => ex_loadC h 1 rfl rfl rfl Try.isAgg23 rfl⟩) (ak (fun γ => ⟨rfl, fun w' h => ⟨59, #[.agg (kd p r c gx gy).toArray, U Y', U Y], exec_call rfl call59 rfl (mpn rfl), dsub_any hp Y' Y hY' hY w'⟩⟩) (ak (fun γ => ⟨rfl, fun w' h => ex_loadT h 0 rfl rfl rfl Try.isAgg27 Try.sizeOf27 rfl rfl⟩) (ak (fun γ => ⟨rfl, fun w' h => ex_loadT h 0 rfl rfl rfl Try.isAgg27 Try.sizeOf27 rfl rfl⟩) (ak (by refine fun γ => ⟨rfl, fun w' h => ?_⟩; clear h; go_simp) (ak (fun γ => ⟨rfl, fun w' h => ex_loadC h 2 rfl rfl rfl Try.isAgg23 rfl⟩) (ak (by refine fun γ => ⟨rfl, fun w' h => ?_⟩; clear h; go_simp) (ak (fun γ => ⟨rfl, fun w' h => ex_loadC h 1 rfl rfl rfl Try.isAgg23 rfl⟩) (ak (fun γ => ⟨rfl, fun w' h => ⟨59, #[.agg (kd p r c gx gy).toArray, U X', U X], exec_call rfl call59 rfl (mpn rfl), dsub_any hp X' X hX' hX w'⟩⟩) (ak (fun γ => ⟨rfl, fun w' h => ⟨77, #[.agg (kd p r c gx gy).toArray, U (mi p X' X)], exec_call rfl call77 rfl (mpn rfl), dinv_any hp (mi p X' X) (mi_lt hp) w'⟩⟩) (ak (fun γ => ⟨rfl, fun w' h => ⟨54, #[.agg (kd p r c gx gy).toArray, U (mi p Y' Y), U (pw p (mi p X' X) (p - 2))], exec_call rfl call54 rfl (mpn rfl), dmul_any hp (mi p Y' Y) (pw p (mi p X' X) (p - 2)) (mi_lt hp) (pw_lt hp) w'⟩⟩) (ak (fun _ => ⟨rfl, fun _ _ => rfl⟩) trivial))))))))))))))))
  intro _ w3 H3
  clear H2
  refine rest0 rfl (then_normal (wp_ret ?_))
  repeat (first | refine then_ret ?_ | refine block_ret ?_)
  refine bodyPost_ret (v := U (tm p (mi p Y' Y) (pw p (mi p X' X) (p - 2)))) (by simp [results, Try.results58, go_sem, *]) rfl ?_
  exact ⟨rfl, H3.out.2⟩
theorem slope_any (hp : Pr p) (a b : P3) (ha : LtP p a) (hb : LtP p b) (w : World) : Calls Try.prog 58 #[.agg (kd p r c gx gy).toArray, .agg (pt a.1 a.2.1 a.2.2).toArray, .agg (pt b.1 b.2.1 b.2.2).toArray] w fun e w' => e = .returned (U (dS p a b)) ∧ Below w.heap.size w w' := by
  unfold dS
  by_cases h : a = b
  · rw [if_pos h, ← h]; exact slope_same hp _ _ _ ha.x ha.y w
  · rw [if_neg h]; exact slope_else hp _ _ _ ha.x ha.y _ _ _ hb.x hb.y h w
set_option maxRecDepth 100000 in
theorem dAdd_z (X Y X' Y' : Nat) (Z' : Bool) (w : World) :
    Calls Try.prog 26 #[.agg (kd p r c gx gy).toArray, .agg (pt X Y true).toArray, .agg (pt X' Y' Z').toArray] w fun e w' => e = .returned (V (pt X' Y' Z')) ∧ Below w.heap.size w w' := by
  have H0 : Hid (_ ∧ _) := ⟨Mm.nil w, Below.refl w.heap.size w⟩
  go_enter Try.func26, Try.ntmps26
  refine wp_seq ?_
  refine walk_seqA 4 [.made (kd p r c gx gy) 27, .made (pt X Y true) 25, .made (pt X' Y' Z') 25, .made (pt 0 0 false) 25] (sB H0) ?ho1 ?he1
  case ho1 => exact ak (fun γ => ⟨rfl, fun w' => ex_boxT rfl rfl⟩) (ak (fun γ => ⟨rfl, fun w' => ex_boxT rfl rfl⟩) (ak (fun γ => ⟨rfl, fun w' => ex_boxT rfl rfl⟩) (ak (fun γ => ⟨rfl, fun w' => ex_made25 rfl⟩) trivial)))
  intro γ w1 l hM hl
  have H1 : Hid (Mm w1 [(γ 0, kd p r c gx gy), (γ 1, pt X Y true), (γ 2, pt X' Y' Z'), (γ 3, pt 0 0 false)] ∧ _) := growB H0 hM (Nat.le_refl _) hl [0, 1, 2, 3] rfl (by decide)
  have o1_0 := ownB H0 hM (Nat.le_refl _) hl (i := 0) rfl
  have o1_1 := ownB H0 hM (Nat.le_refl _) hl (i := 1) rfl
  have o1_2 := ownB H0 hM (Nat.le_refl _) hl (i := 2) rfl
  have o1_3 := ownB H0 hM (Nat.le_refl _) hl (i := 3) rfl
  clear hM hl l
  generalize γ 0 = γ1_0 at H1 o1_0 ⊢
  generalize γ 1 = γ1_1 at H1 o1_1 ⊢
  generalize γ 2 = γ1_2 at H1 o1_2 ⊢
  generalize γ 3 = γ1_3 at H1 o1_3 ⊢
  clear γ
  refine rest0 rfl (then_normal (wp_seq (wp_seq ?_)))
  refine walk_seqB 2 [.quiet (PT γ1_1 2), .quiet (.bool true)] H1 ?ho2 ?he2
  case ho2 => exact ak (by refine fun γ => ⟨rfl, fun w' h => ?_⟩; clear h; go_simp) (ak (fun γ => ⟨rfl, fun w' h => ex_loadC h 1 rfl rfl rfl Try.isAgg4 rfl⟩) trivial)
  intro _ w2 H2
  clear H1
  refine rest0 rfl (then_normal (wp_cond_true rfl (wp_seq ?_)))
  refine walk_seqB 1 [.quiet (.agg (pt X' Y' Z').toArray)] H2 ?ho3 ?he3
  case ho3 => exact ak (fun γ => ⟨rfl, fun w' h => ex_loadT h 2 rfl rfl rfl Try.isAgg25 Try.sizeOf25 rfl rfl⟩) trivial
  intro _ w3 H3
  clear H2
  refine rest_at (l := [1]) rfl ?_
  refine rest_store rfl rfl rfl (ex_storeT (vs := pt X' Y' Z') H3.out.1 3 rfl rfl rfl rfl Try.sizeOf25 rfl (Nat.le_of_ble_eq_true rfl)) ?_
  have H4 : Hid (Mm (w3.setCells γ1_3 0 (pt X' Y' Z')) [(γ1_0, kd p r c gx gy), (γ1_1, pt X Y true), (γ1_2, pt X' Y' Z'), (γ1_3, pt X' Y' Z')] ∧ Below w.heap.size w (w3.setCells γ1_3 0 (pt X' Y' Z'))) := ⟨H3.out.1.put 3 (off := 0) (vs := pt X' Y' Z') rfl (Nat.le_of_ble_eq_true rfl), below_setCells _ o1_3.out _ _ _ H3.out.2⟩
  clear H3
  generalize hgw : World.setCells _ _ _ _ = w4 at H4 ⊢
  clear hgw
  refine rest_nil (then_normal (wp_ret ?_))
  repeat (first | refine then_ret ?_ | refine block_ret ?_)
  have hf0 := var_T H4.out.1 3 rfl Try.isAgg25 Try.sizeOf25 rfl
  refine bodyPost_ret (v := .agg (pt X' Y' Z').toArray) (by simp [results, Try.results26, asAddr, hf0]) rfl ?_
  exact ⟨rfl, H4.out.2⟩
set_option maxRecDepth 100000 in
theorem dAdd_y (X Y X' Y' : Nat) (w : World) :
    Calls Try.prog 26 #[.agg (kd p r c gx gy).toArray, .agg (pt X Y false).toArray, .agg (pt X' Y' true).toArray] w fun e w' => e = .returned (V (pt X Y false)) ∧ Below w.heap.size w w' := by
  have H0 : Hid (_ ∧ _) := ⟨Mm.nil w, Below.refl w.heap.size w⟩
  go_enter Try.func26, Try.ntmps26
  refine wp_seq ?_
  refine walk_seqA 4 [.made (kd p r c gx gy) 27, .made (pt X Y false) 25, .made (pt X' Y' true) 25, .made (pt 0 0 false) 25] (sB H0) ?ho1 ?he1
  case ho1 => exact ak (fun γ => ⟨rfl, fun w' => ex_boxT rfl rfl⟩) (ak (fun γ => ⟨rfl, fun w' => ex_boxT rfl rfl⟩) (ak (fun γ => ⟨rfl, fun w' => ex_boxT rfl rfl⟩) (ak (fun γ => ⟨rfl, fun w' => ex_made25 rfl⟩) trivial)))
  intro γ w1 l hM hl
  have H1 : Hid (Mm w1 [(γ 0, kd p r c gx gy), (γ 1, pt X Y false), (γ 2, pt X' Y' true), (γ 3, pt 0 0 false)] ∧ _) := growB H0 hM (Nat.le_refl _) hl [0, 1, 2, 3] rfl (by decide)
  have o1_0 := ownB H0 hM (Nat.le_refl _) hl (i := 0) rfl
  have o1_1 := ownB H0 hM (Nat.le_refl _) hl (i := 1) rfl
  have o1_2 := ownB H0 hM (Nat.le_refl _) hl (i := 2) rfl
  have o1_3 := ownB H0 hM (Nat.le_refl _) hl (i := 3) rfl
  clear hM hl l
  generalize γ 0 = γ1_0 at H1 o1_0 ⊢
  generalize γ 1 = γ1_1 at H1 o1_1 ⊢
  generalize γ 2 = γ1_2 at H1 o1_2 ⊢
  generalize γ 3 = γ1_3 at H1 o1_3 ⊢
  clear γ
  refine rest0 rfl (then_normal (wp_seq (wp_seq ?_)))
  refine walk_seqB 2 [.quiet (PT γ1_1 2), .quiet (.bool false)] H1 ?ho2 ?he2
  case ho2 => exact ak (by refine fun γ => ⟨rfl, fun w' h => ?_⟩; clear h; go_simp) (ak (fun γ => ⟨rfl, fun w' h => ex_loadC h 1 rfl rfl rfl Try.isAgg4 rfl⟩) trivial)
  intro _ w2 H2
  clear H1
  refine rest0 rfl (then_normal (wp_cond_false rfl ?_))
  refine wp_skip (then_normal ?_)
  refine wp_seq (wp_seq ?_)
  refine walk_seqB 2 [.quiet (PT γ1_2 2), .quiet (.bool true)] H2 ?ho3 ?he3
  case ho3 => exact ak (by refine fun γ => ⟨rfl, fun w' h => ?_⟩; clear h; go_simp) (ak (fun γ => ⟨rfl, fun w' h => ex_loadC h 2 rfl rfl rfl Try.isAgg4 rfl⟩) trivial)
  intro _ w3 H3
  clear H2
  refine rest0 rfl (then_normal (wp_cond_true rfl (wp_seq ?_)))
  refine walk_seqB 1 [.quiet (.agg (pt X Y false).toArray)] H3 ?ho4 ?he4
  case ho4 => exact ak (fun γ => ⟨rfl, fun w' h => ex_loadT h 1 rfl rfl rfl Try.isAgg25 Try.sizeOf25 rfl rfl⟩) trivial
  intro _ w4 H4
  clear H3
  refine rest_at (l := [1]) rfl ?_
  refine rest_store rfl rfl rfl (ex_storeT (vs := pt X Y false) H4.out.1 3 rfl rfl rfl rfl Try.sizeOf25 rfl (Nat.le_of_ble_eq_true rfl)) ?_
  have H5 : Hid (Mm (w4.setCells γ1_3 0 (pt X Y false)) [(γ1_0, kd p r c gx gy), (γ1_1, pt X Y false), (γ1_2, pt X' Y' true), (γ1_3, pt X Y false)] ∧ Below w.heap.size w (w4.setCells γ1_3 0 (pt X Y false))) := ⟨H4.out.1.put 3 (off := 0) (vs := pt X Y false) rfl (Nat.le_of_ble_eq_true rfl), below_setCells _ o1_3.out _ _ _ H4.out.2⟩
  clear H4
  generalize hgw : World.setCells _ _ _ _ = w5 at H5 ⊢
  clear hgw
  refine rest_nil (then_normal (wp_ret ?_))
  repeat (first | refine then_ret ?_ | refine block_ret ?_)
  have hf0 := var_T H5.out.1 3 rfl Try.isAgg25 Try.sizeOf25 rfl
  refine bodyPost_ret (v := .agg (pt X Y false).toArray) (by simp [results, Try.results26, asAddr, hf0]) rfl ?_
  exact ⟨rfl, H5.out.2⟩
set_option maxRecDepth 100000 in
theorem dAdd_n (hp : Pr p) (X Y X' Y' : Nat) (hY' : Y' < p) (h1 : X = X') (h2 : Y = mi p 0 Y') (w : World) :
    Calls Try.prog 26 #[.agg (kd p r c gx gy).toArray, .agg (pt X Y false).toArray, .agg (pt X' Y' false).toArray] w fun e w' => e = .returned (V (pt 0 0 true)) ∧ Below w.heap.size w w' := by
  have H0 : Hid (_ ∧ _) := ⟨Mm.nil w, Below.refl w.heap.size w⟩
  go_enter Try.func26, Try.ntmps26
  refine wp_seq ?_
  refine walk_seqA 4 [.made (kd p r c gx gy) 27, .made (pt X Y false) 25, .made (pt X' Y' false) 25, .made (pt 0 0 false) 25] (sB H0) ?ho1 ?he1
  case ho1 => exact ak (fun γ => ⟨rfl, fun w' => ex_boxT rfl rfl⟩) (ak (fun γ => ⟨rfl, fun w' => ex_boxT rfl rfl⟩) (ak (fun γ => ⟨rfl, fun w' => ex_boxT rfl rfl⟩) (ak (fun γ => ⟨rfl, fun w' => ex_made25 rfl⟩) trivial)))
  intro γ w1 l hM hl
  have H1 : Hid (Mm w1 [(γ 0, kd p r c gx gy), (γ 1, pt X Y false), (γ 2, pt X' Y' false), (γ 3, pt 0 0 false)] ∧ _) := growB H0 hM (Nat.le_refl _) hl [0, 1, 2, 3] rfl (by decide)
  have o1_0 := ownB H0 hM (Nat.le_refl _) hl (i := 0) rfl
  have o1_1 := ownB H0 hM (Nat.le_refl _) hl (i := 1) rfl
  have o1_2 := ownB H0 hM (Nat.le_refl _) hl (i := 2) rfl
  have o1_3 := ownB H0 hM (Nat.le_refl _) hl (i := 3) rfl
  clear hM hl l
  generalize γ 0 = γ1_0 at H1 o1_0 ⊢
  generalize γ 1 = γ1_1 at H1 o1_1 ⊢
  generalize γ 2 = γ1_2 at H1 o1_2 ⊢
  generalize γ 3 = γ1_3 at H1 o1_3 ⊢
  clear γ
  refine rest0 rfl (then_normal (wp_seq (wp_seq ?_)))
  refine walk_seqB 2 [.quiet (PT γ1_1 2), .quiet (.bool false)] H1 ?ho2 ?he2
  case ho2 => exact ak (by refine fun γ => ⟨rfl, fun w' h => ?_⟩; clear h; go_simp) (ak (fun γ => ⟨rfl, fun w' h => ex_loadC h 1 rfl rfl rfl Try.isAgg4 rfl⟩) trivial)
  intro _ w2 H2
  clear H1
  refine rest0 rfl (then_normal (wp_cond_false rfl ?_))
  refine wp_skip (then_normal ?_)
  refine wp_seq (wp_seq ?_)
  refine walk_seqB 2 [.quiet (PT γ1_2 2), .quiet (.bool false)] H2 ?ho3 ?he3
  case ho3 => exact ak (by refine fun γ => ⟨rfl, fun w' h => ?_⟩; clear h; go_simp) (ak (fun γ => ⟨rfl, fun w' h => ex_loadC h 2 rfl rfl rfl Try.isAgg4 rfl⟩) trivial)
  intro _ w3 H3
  clear H2
  refine rest0 rfl (then_normal (wp_cond_false rfl ?_))
  refine wp_skip (then_normal ?_)
  refine wp_seq (wp_seq ?_)
  refine walk_anyB 5 [.quiet (.agg (pt X Y false).toArray), .quiet (.agg (kd p r c gx gy).toArray), .quiet (.agg (pt X' Y' false).toArray), .call (.agg (pt X' (mi p 0 Y') false).toArray), .quiet (.bool true)] H3 ?ho4 ?he4
  case ho4 => exact ak (fun γ => ⟨rfl, fun w' h => ex_loadT h 1 rfl rfl rfl Try.isAgg25 Try.sizeOf25 rfl rfl⟩) (ak (fun γ => ⟨rfl, fun w' h => ex_loadT h 0 rfl rfl rfl Try.isAgg27 Try.sizeOf27 rfl rfl⟩) (ak (fun γ => ⟨rfl, fun w' h => ex_loadT h 2 rfl rfl rfl Try.isAgg25 Try.sizeOf25 rfl rfl⟩) (ak (fun γ => ⟨rfl, fun w' h => ⟨25, #[.agg (kd p r c gx gy).toArray, .agg (pt X' Y' false).toArray], exec_call rfl call25 rfl (mpn rfl), dNeg_any hp X' Y' false hY' w'⟩⟩) (ak (fun γ => ⟨rfl, fun w' _ => exec_eqT25 (fun w => by have e := eq_self X' (mi p 0 Y') false w; rw [h1, h2]; exact e) rfl rfl rfl⟩) trivial))))
  intro _ w4 H4
  clear H3
  refine rest0 rfl (then_normal (wp_cond_true rfl (wp_seq ?_)))
  refine walk_seqB 1 [.quiet (.agg (pt 0 0 true).toArray)] H4 ?ho5 ?he5
  case ho5 => exact ak (fun γ => ⟨rfl, fun w' _ => ex_build25_2 rfl rfl⟩) trivial
  intro _ w5 H5
  clear H4
  refine rest_at (l := [1]) rfl ?_
  refine rest_store rfl rfl rfl (ex_storeT (vs := pt 0 0 true) H5.out.1 3 rfl rfl rfl rfl Try.sizeOf25 rfl (Nat.le_of_ble_eq_true rfl)) ?_
  have H6 : Hid (Mm (w5.setCells γ1_3 0 (pt 0 0 true)) [(γ1_0, kd p r c gx gy), (γ1_1, pt X Y false), (γ1_2, pt X' Y' false), (γ1_3, pt 0 0 true)] ∧ Below w.heap.size w (w5.setCells γ1_3 0 (pt 0 0 true))) := ⟨H5.out.1.put 3 (off := 0) (vs := pt 0 0 true) rfl (Nat.le_of_ble_eq_true rfl), below_setCells _ o1_3.out _ _ _ H5.out.2⟩
  clear H5
  generalize hgw : World.setCells _ _ _ _ = w6 at H6 ⊢
  clear hgw
  refine rest_nil (then_normal (wp_ret ?_))
  repeat (first | refine then_ret ?_ | refine block_ret ?_)
  have hf0 := var_T H6.out.1 3 rfl Try.isAgg25 Try.sizeOf25 rfl
  refine bodyPost_ret (v := .agg (pt 0 0 true).toArray) (by simp [results, Try.results26, asAddr, hf0]) rfl ?_
  exact ⟨rfl, H6.out.2⟩
theorem dS_lt (hp : Pr p) {a b : P3} : dS p a b < p := by
  unfold dS
  split
  · exact tm_lt hp
  · exact tm_lt hp
set_option maxHeartbeats 1000000 in
set_option maxRecDepth 100000 in
theorem dAdd_g (hp : Pr p) (X Y X' Y' : Nat) (hX : X < p) (hY : Y < p) (hX' : X' < p) (hY' : Y' < p) (hne : ¬ ((X, Y, false) : P3) = (X', mi p 0 Y', false)) (w : World) :
    Calls Try.prog 26 #[.agg (kd p r c gx gy).toArray, .agg (pt X Y false).toArray, .agg (pt X' Y' false).toArray] w fun e w' => e = .returned (V (pt (d3X p (dS p (X, Y, false) (X', Y', false)) X X') (d3Y p (dS p (X, Y, false) (X', Y', false)) X X' Y) false)) ∧ Below w.heap.size w w' := by
  have H0 : Hid (_ ∧ _) := ⟨Mm.nil w, Below.refl w.heap.size w⟩
  go_enter Try.func26, Try.ntmps26
  refine wp_seq ?_
  refine walk_seqA 4 [.made (kd p r c gx gy) 27, .made (pt X Y false) 25, .made (pt X' Y' false) 25, .made (pt 0 0 false) 25] (sB H0) ?ho1 ?he1
  case ho1 => exact ak (fun γ => ⟨rfl, fun w' => ex_boxT rfl rfl⟩) (ak (fun γ => ⟨rfl, fun w' => ex_boxT rfl rfl⟩) (ak (fun γ => ⟨rfl, fun w' => ex_boxT rfl rfl⟩) (ak (fun γ => ⟨rfl, fun w' => ex_made25 rfl⟩) trivial)))
  intro γ w1 l hM hl
  have H1 : Hid (Mm w1 [(γ 0, kd p r c gx gy), (γ 1, pt X Y false), (γ 2, pt X' Y' false), (γ 3, pt 0 0 false)] ∧ _) := growB H0 hM (Nat.le_refl _) hl [0, 1, 2, 3] rfl (by decide)
  have o1_0 := ownB H0 hM (Nat.le_refl _) hl (i := 0) rfl
  have o1_1 := ownB H0 hM (Nat.le_refl _) hl (i := 1) rfl
  have o1_2 := ownB H0 hM (Nat.le_refl _) hl (i := 2) rfl
  have o1_3 := ownB H0 hM (Nat.le_refl _) hl (i := 3) rfl
  clear hM hl l
  generalize γ 0 = γ1_0 at H1 o1_0 ⊢
  generalize γ 1 = γ1_1 at H1 o1_1 ⊢
  generalize γ 2 = γ1_2 at H1 o1_2 ⊢
  generalize γ 3 = γ1_3 at H1 o1_3 ⊢
  clear γ
  refine rest0 rfl (then_normal (wp_seq (wp_seq ?_)))
  refine walk_seqB 2 [.quiet (PT γ1_1 2), .quiet (.bool false)] H1 ?ho2 ?he2
  case ho2 => exact ak (by refine fun γ => ⟨rfl, fun w' h => ?_⟩; clear h; go_simp) (ak (fun γ => ⟨rfl, fun w' h => ex_loadC h 1 rfl rfl rfl Try.isAgg4 rfl⟩) trivial)
  intro _ w2 H2
  clear H1
  refine rest0 rfl (then_normal (wp_cond_false rfl ?_))
  refine wp_skip (then_normal ?_)
  refine wp_seq (wp_seq ?_)
  refine walk_seqB 2 [.quiet (PT γ1_2 2), .quiet (.bool false)] H2 ?ho3 ?he3
  case ho3 => exact ak (by refine fun γ => ⟨rfl, fun w' h => ?_⟩; clear h; go_simp) (ak (fun γ => ⟨rfl, fun w' h => ex_loadC h 2 rfl rfl rfl Try.isAgg4 rfl⟩) trivial)
  intro _ w3 H3
  clear H2
  refine rest0 rfl (then_normal (wp_cond_false rfl ?_))
  refine wp_skip (then_normal ?_)
  refine wp_seq (wp_seq ?_)
  refine walk_anyB 5 [.quiet (.agg (pt X Y false).toArray), .quiet (.agg (kd p r c gx gy).toArray), .quiet (.agg (pt X' Y' false).toArray), .call (.agg (pt X' (mi p 0 Y') false).toArray), .quiet (.bool false)] H3 ?ho4 ?he4
  case ho4 => exact ak (fun γ => ⟨rfl, fun w' h => ex_loadT h 1 rfl rfl rfl Try.isAgg25 Try.sizeOf25 rfl rfl⟩) (ak (fun γ => ⟨rfl, fun w' h => ex_loadT h 0 rfl rfl rfl Try.isAgg27 Try.sizeOf27 rfl rfl⟩) (ak (fun γ => ⟨rfl, fun w' h => ex_loadT h 2 rfl rfl rfl Try.isAgg25 Try.sizeOf25 rfl rfl⟩) (ak (fun γ => ⟨rfl, fun w' h => ⟨25, #[.agg (kd p r c gx gy).toArray, .agg (pt X' Y' false).toArray], exec_call rfl call25 rfl (mpn rfl), dNeg_any hp X' Y' false hY' w'⟩⟩) (ak (fun γ => ⟨rfl, fun w' _ => exec_eqT25 (fun w => eq_not X Y X' (mi p 0 Y') false false hne w) rfl rfl rfl⟩) trivial))))
  intro _ w4 H4
  clear H3
  refine rest0 rfl (then_normal (wp_cond_false rfl ?_))
  refine wp_skip (then_normal (wp_seq ?_))
  refine walk_seqB 5 [.quiet (.agg (kd p r c gx gy).toArray), .quiet (.agg (pt X Y false).toArray), .quiet (.agg (pt X' Y' false).toArray), .call (U (dS p (X, Y, false) (X', Y', false))), .quiet (U (dS p (X, Y, false) (X', Y', false)))] H4 ?ho5 ?he5
  case ho5 => exact ak (fun γ => ⟨rfl, fun w' h => ex_loadT h 0 rfl rfl rfl Try.isAgg27 Try.sizeOf27 rfl rfl⟩) (ak (fun γ => ⟨rfl, fun w' h => ex_loadT h 1 rfl rfl rfl Try.isAgg25 Try.sizeOf25 rfl rfl⟩) (ak (fun γ => ⟨rfl, fun w' h => ex_loadT h 2 rfl rfl rfl Try.isAgg25 Try.sizeOf25 rfl rfl⟩) (ak (fun γ => ⟨rfl, fun w' h => ⟨58, #[.agg (kd p r c gx gy).toArray, .agg (pt X Y false).toArray, .agg (pt X' Y' false).toArray], exec_call rfl call58 rfl (mpn rfl), slope_any hp (X, Y, false) (X', Y', false) ⟨hX, hY⟩ ⟨hX', hY'⟩ w'⟩⟩) (ak (fun _ => ⟨rfl, fun _ _ => rfl⟩) trivial))))
  intro _ w5 H5
  clear H4
  refine rest0 rfl (then_normal (wp_seq ?_))
  refine walk_anyB 13 [.quiet (.agg (kd p r c gx gy).toArray), .quiet (.agg (kd p r c gx gy).toArray), .quiet (.agg (kd p r c gx gy).toArray), .quiet (U (dS p (X, Y, false) (X', Y', false))), .quiet (U (dS p (X, Y, false) (X', Y', false))), .call (U (tm p (dS p (X, Y, false) (X', Y', false)) (dS p (X, Y, false) (X', Y', false)))), .quiet (PT γ1_1 0), .quiet (U X), .call (U (mi p (tm p (dS p (X, Y, false) (X', Y', false)) (dS p (X, Y, false) (X', Y', false))) X)), .quiet (PT γ1_2 0), .quiet (U X'), .call (U (mi p (mi p (tm p (dS p (X, Y, false) (X', Y', false)) (dS p (X, Y, false) (X', Y', false))) X) X')), .quiet (U (mi p (mi p (tm p (dS p (X, Y, false) (X', Y', false)) (dS p (X, Y, false) (X', Y', false))) X) X'))] H5 ?ho6 ?he6
  case ho6 => exact ak (fun γ => ⟨rfl, fun w' h => ex_loadT h 0 rfl rfl rfl Try.isAgg27 Try.sizeOf27 rfl rfl⟩) (ak (fun γ => ⟨rfl, fun w' h => ex_loadT h 0 rfl rfl rfl Try.isAgg27 Try.sizeOf27 rfl rfl⟩) (ak (fun γ => ⟨rfl, fun w' h => ex_loadT h 0 rfl rfl rfl Try.isAgg27 Try.sizeOf27 rfl rfl⟩) (ak (fun _ => ⟨rfl, fun _ _ => rfl⟩) (ak (fun _ => ⟨rfl, fun _ _ => rfl⟩) (ak (fun γ => ⟨rfl, fun w' h => ⟨54, #[.agg (kd p r c gx gy).toArray, U (dS p (X, Y, false) (X', Y', false)), U (dS p (X, Y, false) (X', Y', false))], exec_call rfl call54 rfl (mpn rfl), dmul_any hp (dS p (X, Y, false) (X', Y', false)) (dS p (X, Y, false) (X', Y', false)) (dS_lt hp) (dS_lt hp) w'⟩⟩) (ak (by refine fun γ => ⟨rfl, fun w' h => ?_⟩; clear h; go_simp) (ak (fun γ => ⟨rfl, fun w' h => ex_loadC h 1 rfl rfl rfl Try.isAgg23 rfl⟩) (ak (fun γ => ⟨rfl, fun w' h => ⟨59, #[.agg (kd p r c gx gy).toArray, U (tm p (dS p (X, Y, false) (X', Y', false)) (dS p (X, Y, false) (X', Y', false))), U X], exec_call rfl call59 rfl (mpn rfl), dsub_any hp (tm p (dS p (X, Y, false) (X', Y', false)) (dS p (X, Y, false) (X', Y', false))) X (tm_lt hp) hX w'⟩⟩) (ak (by refine fun γ => ⟨rfl, fun w' h => ?_⟩; clear h; go_simp) (ak (fun γ => ⟨rfl, fun w' h => ex_loadC h 2 rfl rfl rfl Try.isAgg23 rfl⟩) (ak (fun γ => ⟨rfl, fun w' h => ⟨59, #[.agg (kd p r c gx gy).toArray, U (mi p (tm p (dS p (X, Y, false) (X', Y', false)) (dS p (X, Y, false) (X', Y', false))) X), U X'], exec_call rfl call59 rfl (mpn rfl), dsub_any hp (mi p (tm p (dS p (X, Y, false) (X', Y', false)) (dS p (X, Y, false) (X', Y', false))) X) X' (mi_lt hp) hX' w'⟩⟩) (ak (fun _ => ⟨rfl, fun _ _ => rfl⟩) trivial))))))))))))
  intro _ w6 H6
  clear H5
  refine rest0 rfl (then_normal (wp_seq ?_))
  refine walk_anyB 14 [.quiet (U (mi p (mi p (tm p (dS p (X, Y, false) (X', Y', false)) (dS p (X, Y, false) (X', Y', false))) X) X')), .quiet (.agg (kd p r c gx gy).toArray), .quiet (.agg (kd p r c gx gy).toArray), .quiet (U (dS p (X, Y, false) (X', Y', false))), .quiet (.agg (kd p r c gx gy).toArray), .quiet (PT γ1_1 0), .quiet (U X), .quiet (U (mi p (mi p (tm p (dS p (X, Y, false) (X', Y', false)) (dS p (X, Y, false) (X', Y', false))) X) X')), .call (U (mi p X (mi p (mi p (tm p (dS p (X, Y, false) (X', Y', false)) (dS p (X, Y, false) (X', Y', false))) X) X'))), .call (U (tm p (dS p (X, Y, false) (X', Y', false)) (mi p X (mi p (mi p (tm p (dS p (X, Y, false) (X', Y', false)) (dS p (X, Y, false) (X', Y', false))) X) X')))), .quiet (PT γ1_1 1), .quiet (U Y), .call (U (mi p (tm p (dS p (X, Y, false) (X', Y', false)) (mi p X (mi p (mi p (tm p (dS p (X, Y, false) (X', Y', false)) (dS p (X, Y, false) (X', Y', false))) X) X'))) Y)), .quiet (.agg (pt (mi p (mi p (tm p (dS p (X, Y, false) (X', Y', false)) (dS p (X, Y, false) (X', Y', false))) X) X') (mi p (tm p (dS p (X, Y, false) (X', Y', false)) (mi p X (mi p (mi p (tm p (dS p (X, Y, false) (X', Y', false)) (dS p (X, Y, false) (X', Y', false))) X) X'))) Y) false).toArray)] H6 ?ho7 ?he7
  case ho7 => exact ak (fun _ => ⟨rfl, fun _ _ => rfl⟩) (ak (fun γ => ⟨rfl, fun w' h => ex_loadT h 0 rfl rfl rfl Try.isAgg27 Try.sizeOf27 rfl rfl⟩) (ak (fun γ => ⟨rfl, fun w' h => ex_loadT h 0 rfl rfl rfl Try.isAgg27 Try.sizeOf27 rfl rfl⟩) (ak (fun _ => ⟨rfl, fun _ _ => rfl⟩) (ak (fun γ => ⟨rfl, fun w' h => ex_loadT h 0 rfl rfl rfl Try.isAgg27 Try.sizeOf27 rfl rfl⟩) (ak (by refine fun γ => ⟨rfl, fun w' h => ?_⟩; clear h; go_simp) (ak (fun γ => ⟨rfl, fun w' h => ex_loadC h 1 rfl rfl rfl Try.isAgg23 rfl⟩) (ak (fun _ => ⟨rfl, fun _ _ => rfl⟩) (ak (fun γ => ⟨rfl, fun w' h => ⟨59, #[.agg (kd p r c gx gy).toArray, U X, U (mi p (mi p (tm p (dS p (X, Y, false) (X', Y', false)) (dS p (X, Y, false) (X', Y', false))) X) X')], exec_call rfl call59 rfl (mpn rfl), dsub_any hp X (mi p (mi p (tm p (dS p (X, Y, false) (X', Y', false)) (dS p (X, Y, false) (X', Y', false))) X) X') hX (mi_lt hp) w'⟩⟩) (ak (fun γ => ⟨rfl, fun w' h => ⟨54, #[.agg (kd p r c gx gy).toArray, U (dS p (X, Y, false) (X', Y', false)), U (mi p X (mi p (mi p (tm p (dS p (X, Y, false) (X', Y', false)) (dS p (X, Y, false) (X', Y', false))) X) X'))], exec_call rfl call54 rfl (mpn rfl), dmul_any hp (dS p (X, Y, false) (X', Y', false)) (mi p X (mi p (mi p (tm p (dS p (X, Y, false) (X', Y', false)) (dS p (X, Y, false) (X', Y', false))) X) X')) (dS_lt hp) (mi_lt hp) w'⟩⟩) (ak (by refine fun γ => ⟨rfl, fun w' h => ?_⟩; clear h; go_simp) (ak (fun γ => ⟨rfl, fun w' h => ex_loadC h 1 rfl rfl rfl Try.isAgg23 rfl⟩) (ak (fun γ => ⟨rfl, fun w' h => ⟨59, #[.agg (kd p r c gx gy).toArray, U (tm p (dS p (X, Y, false) (X', Y', false)) (mi p X (mi p (mi p (tm p (dS p (X, Y, false) (X', Y', false)) (dS p (X, Y, false) (X', Y', false))) X) X'))), U Y], exec_call rfl call59 rfl (mpn rfl), dsub_any hp (tm p (dS p (X, Y, false) (X', Y', false)) (mi p X (mi p (mi p (tm p (dS p (X, Y, false) (X', Y', false)) (dS p (X, Y, false) (X', Y', false))) X) X'))) Y (tm_lt hp) hY w'⟩⟩) (ak (fun γ => ⟨rfl, fun w' _ => ex_build25_01 rfl rfl rfl⟩) trivial)))))))))))))
  intro _ w7 H7
  clear H6
  refine rest_at (l := [14]) rfl ?_
  refine rest_store rfl rfl rfl (ex_storeT (vs := pt (mi p (mi p (tm p (dS p (X, Y, false) (X', Y', false)) (dS p (X, Y, false) (X', Y', false))) X) X') (mi p (tm p (dS p (X, Y, false) (X', Y', false)) (mi p X (mi p (mi p (tm p (dS p (X, Y, false) (X', Y', false)) (dS p (X, Y, false) (X', Y', false))) X) X'))) Y) false) H7.out.1 3 rfl rfl rfl rfl Try.sizeOf25 rfl (Nat.le_of_ble_eq_true rfl)) ?_
  have H8 : Hid (Mm (w7.setCells γ1_3 0 (pt (mi p (mi p (tm p (dS p (X, Y, false) (X', Y', false)) (dS p (X, Y, false) (X', Y', false))) X) X') (mi p (tm p (dS p (X, Y, false) (X', Y', false)) (mi p X (mi p (mi p (tm p (dS p (X, Y, false) (X', Y', false)) (dS p (X, Y, false) (X', Y', false))) X) X'))) Y) false)) [(γ1_0, kd p r c gx gy), (γ1_1, pt X Y false), (γ1_2, pt X' Y' false), (γ1_3, pt (mi p (mi p (tm p (dS p (X, Y, false) (X', Y', false)) (dS p (X, Y, false) (X', Y', false))) X) X') (mi p (tm p (dS p (X, Y, false) (X', Y', false)) (mi p X (mi p (mi p (tm p (dS p (X, Y, false) (X', Y', false)) (dS p (X, Y, false) (X', Y', false))) X) X'))) Y) false)] ∧ Below w.heap.size w (w7.setCells γ1_3 0 (pt (mi p (mi p (tm p (dS p (X, Y, false) (X', Y', false)) (dS p (X, Y, false) (X', Y', false))) X) X') (mi p (tm p (dS p (X, Y, false) (X', Y', false)) (mi p X (mi p (mi p (tm p (dS p (X, Y, false) (X', Y', false)) (dS p (X, Y, false) (X', Y', false))) X) X'))) Y) false))) := ⟨H7.out.1.put 3 (off := 0) (vs := pt (mi p (mi p (tm p (dS p (X, Y, false) (X', Y', false)) (dS p (X, Y, false) (X', Y', false))) X) X') (mi p (tm p (dS p (X, Y, false) (X', Y', false)) (mi p X (mi p (mi p (tm p (dS p (X, Y, false) (X', Y', false)) (dS p (X, Y, false) (X', Y', false))) X) X'))) Y) false) rfl (Nat.le_of_ble_eq_true rfl), below_setCells _ o1_3.out _ _ _ H7.out.2⟩
  clear H7
  generalize hgw : World.setCells _ _ _ _ = w8 at H8 ⊢
  clear hgw
  refine rest_nil (then_normal (wp_ret ?_))
  repeat (first | refine then_ret ?_ | refine block_ret ?_)
  have hf0 := var_T H8.out.1 3 rfl Try.isAgg25 Try.sizeOf25 rfl
  refine bodyPost_ret (v := .agg (pt (mi p (mi p (tm p (dS p (X, Y, false) (X', Y', false)) (dS p (X, Y, false) (X', Y', false))) X) X') (mi p (tm p (dS p (X, Y, false) (X', Y', false)) (mi p X (mi p (mi p (tm p (dS p (X, Y, false) (X', Y', false)) (dS p (X, Y, false) (X', Y', false))) X) X'))) Y) false).toArray) (by simp [results, Try.results26, asAddr, hf0]) rfl ?_
  exact ⟨rfl, H8.out.2⟩
theorem dAdd_any (hp : Pr p) (a b : P3) (ha : LtP p a) (hb : LtP p b) (w : World) : Calls Try.prog 26 #[.agg (kd p r c gx gy).toArray, .agg (pt a.1 a.2.1 a.2.2).toArray, .agg (pt b.1 b.2.1 b.2.2).toArray] w fun e w' => e = .returned (V (pc (dA p a b))) ∧ Below w.heap.size w w' := by
  obtain ⟨X, Y, Z⟩ := a
  obtain ⟨X', Y', Z'⟩ := b
  cases Z
  · cases Z'
    · by_cases h : ((X, Y, false) : P3) = (X', mi p 0 Y', false)
      · rw [show dA p (X, Y, false) (X', Y', false) = (0, 0, true) from by unfold dA; rw [if_neg Bool.false_ne_true, if_neg Bool.false_ne_true, if_pos h]]
        injection h with h1 h2
        injection h2 with h2 _
        exact dAdd_n hp X Y X' Y' hb.y h1 h2 w
      · rw [show dA p (X, Y, false) (X', Y', false) = (d3X p (dS p (X, Y, false) (X', Y', false)) X X', d3Y p (dS p (X, Y, false) (X', Y', false)) X X' Y, false) from by unfold dA; rw [if_neg Bool.false_ne_true, if_neg Bool.false_ne_true, if_neg h]]
        exact dAdd_g hp X Y X' Y' ha.x ha.y hb.x hb.y h w
    · exact dAdd_y X Y X' Y' w
  · exact dAdd_z X Y X' Y' Z' w
set_option maxHeartbeats 1000000 in
set_option maxRecDepth 100000 in
theorem dMul_any (hp : Pr p) (X Y : Nat) (Z : Bool) (hX : X < p) (hY : Y < p) (n : Nat) (hn : n < 18446744073709551616) (w : World) :
    Calls Try.prog 24 #[.agg (kd p r c gx gy).toArray, .agg (pt X Y Z).toArray, U n] w fun e w' => e = .returned (V (pc (dM p (X, Y, Z) n))) ∧ Below w.heap.size w w' := by
  have H0 : Hid (_ ∧ _) := ⟨Mm.nil w, Below.refl w.heap.size w⟩
  go_enter Try.func24, Try.ntmps24
  refine wp_seq ?_
  refine walk_seqA 3 [.made (kd p r c gx gy) 27, .made (pt X Y Z) 25, .made (pt 0 0 false) 25] (sB H0) ?ho1 ?he1
  case ho1 => exact ak (fun γ => ⟨rfl, fun w' => ex_boxT rfl rfl⟩) (ak (fun γ => ⟨rfl, fun w' => ex_boxT rfl rfl⟩) (ak (fun γ => ⟨rfl, fun w' => ex_made25 rfl⟩) trivial))
  intro γ w1 l hM hl
  have H1 : Hid (Mm w1 [(γ 0, kd p r c gx gy), (γ 1, pt X Y Z), (γ 2, pt 0 0 false)] ∧ _) := growB H0 hM (Nat.le_refl _) hl [0, 1, 2] rfl (by decide)
  have o1_0 := ownB H0 hM (Nat.le_refl _) hl (i := 0) rfl
  have o1_1 := ownB H0 hM (Nat.le_refl _) hl (i := 1) rfl
  have o1_2 := ownB H0 hM (Nat.le_refl _) hl (i := 2) rfl
  clear hM hl l
  generalize γ 0 = γ1_0 at H1 o1_0 ⊢
  generalize γ 1 = γ1_1 at H1 o1_1 ⊢
  generalize γ 2 = γ1_2 at H1 o1_2 ⊢
  clear γ
  refine rest0 rfl (then_normal (wp_seq ?_))
  refine walk_seqA 3 [.quiet (.agg (pt 0 0 true).toArray), .made (pt 0 0 false) 25, .laid 1 (pt 0 0 false) (pt 0 0 true)] (sB H1) ?ho2 ?he2 (hL := ?hL2)
  case hL2 => exact ⟨⟨_, rfl⟩, trivial⟩
  case ho2 => exact ak (fun γ => ⟨rfl, fun w' _ => ex_build25_2 rfl rfl⟩) (ak (fun γ => ⟨rfl, fun w' => ex_made25 rfl⟩) (ak (fun γ => ⟨rfl, rfl, rfl, fun w' h => ex_laidT h rfl rfl Try.sizeOf25 rfl rfl rfl⟩) trivial))
  intro γ w2 l hM hl
  have H2 : Hid (Mm w2 [(γ 1, pt 0 0 true), (γ1_0, kd p r c gx gy), (γ1_1, pt X Y Z), (γ1_2, pt 0 0 false)] ∧ _) := growB H1 hM (Nat.le_refl _) hl [1] rfl (by decide)
  have o2_1 := ownB H1 hM (Nat.le_refl _) hl (i := 1) rfl
  clear hM hl l H1
  generalize γ 1 = γ2_1 at H2 o2_1 ⊢
  clear γ
  refine rest0 rfl (then_normal (wp_seq (wp_seq ?_)))
  refine walk_seqB 4 [.quiet (U n), .call (.int .i64 ((bl n : Nat) : Int)), .quiet (.int .i64 (((bl n : Nat) : Int) - 1)), .quiet (.int .i64 (((bl n : Nat) : Int) - 1))] H2 ?ho3 ?he3
  case ho3 => exact ak (fun _ => ⟨rfl, fun _ _ => rfl⟩) (ak (fun γ => ⟨rfl, fun w' h => ⟨57, #[U n], exec_call rfl call57 rfl (mpn rfl), len_in n hn w'⟩⟩) (ak (by refine fun γ => ⟨rfl, fun w' h => ?_⟩; clear h; have hbl := bl_le_of n 64 hn; go_simp; rw [IntKind.wrap_i64]; omega) (ak (fun _ => ⟨rfl, fun _ _ => rfl⟩) trivial)))
  intro _ w3 H3
  clear H2
  refine rest0 rfl (then_normal (wp_block ?_))
  refine loop_ghost (α := Nat) (fun k a' w' => ∃ s0 : Nat → Value, a' = ⟨#[.agg (kd p r c gx gy).toArray, .agg (pt X Y Z).toArray, U n, PT γ1_0 0, PT γ1_1 0, undef, PT γ1_2 0, PT γ2_1 0, .int .i64 (((k : Nat) : Int) - 1), .agg (pt 0 0 true).toArray, U n, .int .i64 ((bl n : Nat) : Int), .int .i64 (((bl n : Nat) : Int) - 1), s0 13, s0 14, s0 15, s0 16, s0 17, s0 18, s0 19, s0 20, s0 21, s0 22, s0 23, s0 24, s0 25, s0 26, s0 27, s0 28, s0 29, undef], []⟩ ∧ (Mm w' [(γ2_1, pc (dM p (X, Y, Z) (n / 2 ^ k))), (γ1_0, kd p r c gx gy), (γ1_1, pt X Y Z), (γ1_2, pt 0 0 false)] ∧ Below w.heap.size w w') ∧ k ≤ 64) (fun k => k) (bl n) ?st0 ?rd0
  case st0 => exact ⟨(slotfn [undef, undef, undef, undef, undef, undef, undef, undef, undef, undef, undef, undef, undef, undef, undef, undef, undef, undef, undef, undef, undef, undef, undef, undef, undef, undef, undef, undef, undef, undef]), rfl, ⟨by rw [Nat.div_eq_of_lt (bl_lt n), dM_zero]; exact H3.out.1, H3.out.2⟩, bl_le_of n 64 hn⟩
  intro k a' w4 hI
  obtain ⟨s0, rfl, hMB, hk0⟩ := hI
  have H4 : Hid (_ ∧ _) := hMB
  clear hMB H3
  by_cases hlt : 0 < k
  · have hrd : True := trivial
    clear hrd
    obtain ⟨j, rfl⟩ : ∃ j, k = j + 1 := ⟨k - 1, by omega⟩
    rw [show (((j + 1 : Nat) : Int) - 1) = ((j : Nat) : Int) by omega]
    by_cases hb : n / 2 ^ j % 2 = 1
    · have hrd : True := trivial
      clear hrd
      refine wp_seq (wp_seq ?_)
      refine walk_seqB 2 [.quiet (.int .i64 ((j : Nat) : Int)), .quiet (.bool true)] H4 ?ho4 ?he4
      case ho4 => exact ak (fun _ => ⟨rfl, fun _ _ => rfl⟩) (ak (by refine fun γ => ⟨rfl, fun w' h => ?_⟩; clear h; go_simp) trivial)
      intro _ w5 H5
      clear H4
      refine rest0 rfl (then_normal (wp_cond_true rfl ?_))
      refine wp_skip (then_normal ?_)
      refine wp_seq (wp_block (wp_seq ?_))
      refine walk_seqB 4 [.quiet (.agg (kd p r c gx gy).toArray), .quiet (.agg (pc (dM p (X, Y, Z) (n / 2 ^ (j + 1)))).toArray), .quiet (.agg (pc (dM p (X, Y, Z) (n / 2 ^ (j + 1)))).toArray), .call (.agg (pt ((dA p (dM p (X, Y, Z) (n / 2 ^ (j + 1))) (dM p (X, Y, Z) (n / 2 ^ (j + 1)))).1) ((dA p (dM p (X, Y, Z) (n / 2 ^ (j + 1))) (dM p (X, Y, Z) (n / 2 ^ (j + 1)))).2.1) ((dA p (dM p (X, Y, Z) (n / 2 ^ (j + 1))) (dM p (X, Y, Z) (n / 2 ^ (j + 1)))).2.2)).toArray)] H5 ?ho5 ?he5
      case ho5 => exact ak (fun γ => ⟨rfl, fun w' h => ex_loadT h 1 rfl rfl rfl Try.isAgg27 Try.sizeOf27 rfl rfl⟩) (ak (fun γ => ⟨rfl, fun w' h => ex_loadT h 0 rfl rfl rfl Try.isAgg25 Try.sizeOf25 rfl rfl⟩) (ak (fun γ => ⟨rfl, fun w' h => ex_loadT h 0 rfl rfl rfl Try.isAgg25 Try.sizeOf25 rfl rfl⟩) (ak (fun γ => ⟨rfl, fun w' h => ⟨26, #[.agg (kd p r c gx gy).toArray, .agg (pc (dM p (X, Y, Z) (n / 2 ^ (j + 1)))).toArray, .agg (pc (dM p (X, Y, Z) (n / 2 ^ (j + 1)))).toArray], exec_call rfl call26 rfl (mpn rfl), dAdd_any hp (dM p (X, Y, Z) (n / 2 ^ (j + 1))) (dM p (X, Y, Z) (n / 2 ^ (j + 1))) (dM_lt hp ⟨hX, hY⟩ _) (dM_lt hp ⟨hX, hY⟩ _) w'⟩⟩) trivial)))
      intro _ w6 H6
      clear H5
      refine rest_at (l := [4]) rfl ?_
      refine rest_store rfl rfl rfl (ex_storeT (vs := pt ((dA p (dM p (X, Y, Z) (n / 2 ^ (j + 1))) (dM p (X, Y, Z) (n / 2 ^ (j + 1)))).1) ((dA p (dM p (X, Y, Z) (n / 2 ^ (j + 1))) (dM p (X, Y, Z) (n / 2 ^ (j + 1)))).2.1) ((dA p (dM p (X, Y, Z) (n / 2 ^ (j + 1))) (dM p (X, Y, Z) (n / 2 ^ (j + 1)))).2.2)) H6.out.1 0 rfl rfl rfl rfl Try.sizeOf25 rfl (Nat.le_of_ble_eq_true rfl)) ?_
      have H7 : Hid (Mm (w6.setCells γ2_1 0 (pt ((dA p (dM p (X, Y, Z) (n / 2 ^ (j + 1))) (dM p (X, Y, Z) (n / 2 ^ (j + 1)))).1) ((dA p (dM p (X, Y, Z) (n / 2 ^ (j + 1))) (dM p (X, Y, Z) (n / 2 ^ (j + 1)))).2.1) ((dA p (dM p (X, Y, Z) (n / 2 ^ (j + 1))) (dM p (X, Y, Z) (n / 2 ^ (j + 1)))).2.2))) [(γ2_1, pt ((dA p (dM p (X, Y, Z) (n / 2 ^ (j + 1))) (dM p (X, Y, Z) (n / 2 ^ (j + 1)))).1) ((dA p (dM p (X, Y, Z) (n / 2 ^ (j + 1))) (dM p (X, Y, Z) (n / 2 ^ (j + 1)))).2.1) ((dA p (dM p (X, Y, Z) (n / 2 ^ (j + 1))) (dM p (X, Y, Z) (n / 2 ^ (j + 1)))).2.2)), (γ1_0, kd p r c gx gy), (γ1_1, pt X Y Z), (γ1_2, pt 0 0 false)] ∧ Below w.heap.size w (w6.setCells γ2_1 0 (pt ((dA p (dM p (X, Y, Z) (n / 2 ^ (j + 1))) (dM p (X, Y, Z) (n / 2 ^ (j + 1)))).1) ((dA p (dM p (X, Y, Z) (n / 2 ^ (j + 1))) (dM p (X, Y, Z) (n / 2 ^ (j + 1)))).2.1) ((dA p (dM p (X, Y, Z) (n / 2 ^ (j + 1))) (dM p (X, Y, Z) (n / 2 ^ (j + 1)))).2.2)))) := ⟨H6.out.1.put 0 (off := 0) (vs := pt ((dA p (dM p (X, Y, Z) (n / 2 ^ (j + 1))) (dM p (X, Y, Z) (n / 2 ^ (j + 1)))).1) ((dA p (dM p (X, Y, Z) (n / 2 ^ (j + 1))) (dM p (X, Y, Z) (n / 2 ^ (j + 1)))).2.1) ((dA p (dM p (X, Y, Z) (n / 2 ^ (j + 1))) (dM p (X, Y, Z) (n / 2 ^ (j + 1)))).2.2)) rfl (Nat.le_of_ble_eq_true rfl), below_setCells _ o2_1.out _ _ _ H6.out.2⟩
      clear H6
      generalize hgw : World.setCells _ _ _ _ = w7 at H7 ⊢
      clear hgw
      refine rest_nil (then_normal (wp_seq ?_))
      refine walk_seqB 5 [.quiet (U n), .quiet (.int .i64 ((j : Nat) : Int)), .quiet (U (n / 2 ^ j)), .quiet (U (n / 2 ^ j % 2)), .quiet (.bool true)] H7 ?ho6 ?he6
      case ho6 => exact ak (fun _ => ⟨rfl, fun _ _ => rfl⟩) (ak (fun _ => ⟨rfl, fun _ _ => rfl⟩) (ak (fun γ => ⟨rfl, fun w' _ => ex_shrU (by omega) rfl rfl rfl⟩) (ak (fun γ => ⟨rfl, fun w' _ => ex_and1 rfl (Nat.lt_of_le_of_lt (Nat.div_le_self _ _) hn) rfl rfl⟩) (ak (fun γ => ⟨rfl, fun w' _ => ex_eqU rfl rfl rfl (decide_eq_true (hb))⟩) trivial))))
      intro _ w8 H8
      clear H7
      refine rest0 rfl (then_normal (wp_cond_true rfl ?_))
      refine walk_seqB 4 [.quiet (.agg (kd p r c gx gy).toArray), .quiet (.agg (pt ((dA p (dM p (X, Y, Z) (n / 2 ^ (j + 1))) (dM p (X, Y, Z) (n / 2 ^ (j + 1)))).1) ((dA p (dM p (X, Y, Z) (n / 2 ^ (j + 1))) (dM p (X, Y, Z) (n / 2 ^ (j + 1)))).2.1) ((dA p (dM p (X, Y, Z) (n / 2 ^ (j + 1))) (dM p (X, Y, Z) (n / 2 ^ (j + 1)))).2.2)).toArray), .quiet (.agg (pt X Y Z).toArray), .call (.agg (pt ((dA p (dA p (dM p (X, Y, Z) (n / 2 ^ (j + 1))) (dM p (X, Y, Z) (n / 2 ^ (j + 1)))) (X, Y, Z)).1) ((dA p (dA p (dM p (X, Y, Z) (n / 2 ^ (j + 1))) (dM p (X, Y, Z) (n / 2 ^ (j + 1)))) (X, Y, Z)).2.1) ((dA p (dA p (dM p (X, Y, Z) (n / 2 ^ (j + 1))) (dM p (X, Y, Z) (n / 2 ^ (j + 1)))) (X, Y, Z)).2.2)).toArray)] H8 ?ho7 ?he7
      case ho7 => exact ak (fun γ => ⟨rfl, fun w' h => ex_loadT h 1 rfl rfl rfl Try.isAgg27 Try.sizeOf27 rfl rfl⟩) (ak (fun γ => ⟨rfl, fun w' h => ex_loadT h 0 rfl rfl rfl Try.isAgg25 Try.sizeOf25 rfl rfl⟩) (ak (fun γ => ⟨rfl, fun w' h => ex_loadT h 2 rfl rfl rfl Try.isAgg25 Try.sizeOf25 rfl rfl⟩) (ak (fun γ => ⟨rfl, fun w' h => ⟨26, #[.agg (kd p r c gx gy).toArray, .agg (pt ((dA p (dM p (X, Y, Z) (n / 2 ^ (j + 1))) (dM p (X, Y, Z) (n / 2 ^ (j + 1)))).1) ((dA p (dM p (X, Y, Z) (n / 2 ^ (j + 1))) (dM p (X, Y, Z) (n / 2 ^ (j + 1)))).2.1) ((dA p (dM p (X, Y, Z) (n / 2 ^ (j + 1))) (dM p (X, Y, Z) (n / 2 ^ (j + 1)))).2.2)).toArray, .agg (pt X Y Z).toArray], exec_call rfl call26 rfl (mpn rfl), dAdd_any hp (dA p (dM p (X, Y, Z) (n / 2 ^ (j + 1))) (dM p (X, Y, Z) (n / 2 ^ (j + 1)))) (X, Y, Z) (dA_lt hp (dM_lt hp ⟨hX, hY⟩ _) (dM_lt hp ⟨hX, hY⟩ _)) ⟨hX, hY⟩ w'⟩⟩) trivial)))
      intro _ w9 H9
      clear H8
      refine rest_at (l := [4]) rfl ?_
      refine rest_store rfl rfl rfl (ex_storeT (vs := pt ((dA p (dA p (dM p (X, Y, Z) (n / 2 ^ (j + 1))) (dM p (X, Y, Z) (n / 2 ^ (j + 1)))) (X, Y, Z)).1) ((dA p (dA p (dM p (X, Y, Z) (n / 2 ^ (j + 1))) (dM p (X, Y, Z) (n / 2 ^ (j + 1)))) (X, Y, Z)).2.1) ((dA p (dA p (dM p (X, Y, Z) (n / 2 ^ (j + 1))) (dM p (X, Y, Z) (n / 2 ^ (j + 1)))) (X, Y, Z)).2.2)) H9.out.1 0 rfl rfl rfl rfl Try.sizeOf25 rfl (Nat.le_of_ble_eq_true rfl)) ?_
      have H10 : Hid (Mm (w9.setCells γ2_1 0 (pt ((dA p (dA p (dM p (X, Y, Z) (n / 2 ^ (j + 1))) (dM p (X, Y, Z) (n / 2 ^ (j + 1)))) (X, Y, Z)).1) ((dA p (dA p (dM p (X, Y, Z) (n / 2 ^ (j + 1))) (dM p (X, Y, Z) (n / 2 ^ (j + 1)))) (X, Y, Z)).2.1) ((dA p (dA p (dM p (X, Y, Z) (n / 2 ^ (j + 1))) (dM p (X, Y, Z) (n / 2 ^ (j + 1)))) (X, Y, Z)).2.2))) [(γ2_1, pt ((dA p (dA p (dM p (X, Y, Z) (n / 2 ^ (j + 1))) (dM p (X, Y, Z) (n / 2 ^ (j + 1)))) (X, Y, Z)).1) ((dA p (dA p (dM p (X, Y, Z) (n / 2 ^ (j + 1))) (dM p (X, Y, Z) (n / 2 ^ (j + 1)))) (X, Y, Z)).2.1) ((dA p (dA p (dM p (X, Y, Z) (n / 2 ^ (j + 1))) (dM p (X, Y, Z) (n / 2 ^ (j + 1)))) (X, Y, Z)).2.2)), (γ1_0, kd p r c gx gy), (γ1_1, pt X Y Z), (γ1_2, pt 0 0 false)] ∧ Below w.heap.size w (w9.setCells γ2_1 0 (pt ((dA p (dA p (dM p (X, Y, Z) (n / 2 ^ (j + 1))) (dM p (X, Y, Z) (n / 2 ^ (j + 1)))) (X, Y, Z)).1) ((dA p (dA p (dM p (X, Y, Z) (n / 2 ^ (j + 1))) (dM p (X, Y, Z) (n / 2 ^ (j + 1)))) (X, Y, Z)).2.1) ((dA p (dA p (dM p (X, Y, Z) (n / 2 ^ (j + 1))) (dM p (X, Y, Z) (n / 2 ^ (j + 1)))) (X, Y, Z)).2.2)))) := ⟨H9.out.1.put 0 (off := 0) (vs := pt ((dA p (dA p (dM p (X, Y, Z) (n / 2 ^ (j + 1))) (dM p (X, Y, Z) (n / 2 ^ (j + 1)))) (X, Y, Z)).1) ((dA p (dA p (dM p (X, Y, Z) (n / 2 ^ (j + 1))) (dM p (X, Y, Z) (n / 2 ^ (j + 1)))) (X, Y, Z)).2.1) ((dA p (dA p (dM p (X, Y, Z) (n / 2 ^ (j + 1))) (dM p (X, Y, Z) (n / 2 ^ (j + 1)))) (X, Y, Z)).2.2)) rfl (Nat.le_of_ble_eq_true rfl), below_setCells _ o2_1.out _ _ _ H9.out.2⟩
      clear H9
      generalize hgw : World.setCells _ _ _ _ = w10 at H10 ⊢
      clear hgw
      refine rest_nil (block_normal (then_normal ?_))
      refine walk_seqB 2 [.quiet (.int .i64 ((j : Nat) : Int)), .quiet (.int .i64 (((j : Nat) : Int) - 1))] H10 ?ho8 ?he8
      case ho8 => exact ak (fun _ => ⟨rfl, fun _ _ => rfl⟩) (ak (by refine fun γ => ⟨rfl, fun w' h => ?_⟩; clear h; go_simp; rw [IntKind.wrap_i64]; omega) trivial)
      intro _ w11 H11
      clear H10
      refine rest_at (l := [2]) rfl ?_
      refine rest_set (d := 8) rfl rfl rfl rfl ?_
      simp only [Act.put, sa, sz, ss]
      refine rest_nil (then_normal ?_)
      exact ⟨j, ⟨(slotfn [undef, undef, undef, undef, undef, undef, undef, undef, undef, undef, undef, undef, undef, .int .i64 ((j : Nat) : Int), .bool true, .int .i64 ((j : Nat) : Int), .int .i64 (((j : Nat) : Int) - 1), .agg (kd p r c gx gy).toArray, .agg (pc (dM p (X, Y, Z) (n / 2 ^ (j + 1)))).toArray, .agg (pc (dM p (X, Y, Z) (n / 2 ^ (j + 1)))).toArray, .agg (pt ((dA p (dM p (X, Y, Z) (n / 2 ^ (j + 1))) (dM p (X, Y, Z) (n / 2 ^ (j + 1)))).1) ((dA p (dM p (X, Y, Z) (n / 2 ^ (j + 1))) (dM p (X, Y, Z) (n / 2 ^ (j + 1)))).2.1) ((dA p (dM p (X, Y, Z) (n / 2 ^ (j + 1))) (dM p (X, Y, Z) (n / 2 ^ (j + 1)))).2.2)).toArray, U n, .int .i64 ((j : Nat) : Int), U (n / 2 ^ j), U (n / 2 ^ j % 2), .bool true, .agg (kd p r c gx gy).toArray, .agg (pt ((dA p (dM p (X, Y, Z) (n / 2 ^ (j + 1))) (dM p (X, Y, Z) (n / 2 ^ (j + 1)))).1) ((dA p (dM p (X, Y, Z) (n / 2 ^ (j + 1))) (dM p (X, Y, Z) (n / 2 ^ (j + 1)))).2.1) ((dA p (dM p (X, Y, Z) (n / 2 ^ (j + 1))) (dM p (X, Y, Z) (n / 2 ^ (j + 1)))).2.2)).toArray, .agg (pt X Y Z).toArray, .agg (pt ((dA p (dA p (dM p (X, Y, Z) (n / 2 ^ (j + 1))) (dM p (X, Y, Z) (n / 2 ^ (j + 1)))) (X, Y, Z)).1) ((dA p (dA p (dM p (X, Y, Z) (n / 2 ^ (j + 1))) (dM p (X, Y, Z) (n / 2 ^ (j + 1)))) (X, Y, Z)).2.1) ((dA p (dA p (dM p (X, Y, Z) (n / 2 ^ (j + 1))) (dM p (X, Y, Z) (n / 2 ^ (j + 1)))) (X, Y, Z)).2.2)).toArray]), rfl, ⟨by rw [dM_bit p (X, Y, Z) n j hn, if_pos hb]; exact H11.out.1, H11.out.2⟩, by omega⟩, by omega⟩
    · have hrd : True := trivial
      clear hrd
      refine wp_seq (wp_seq ?_)
      refine walk_seqB 2 [.quiet (.int .i64 ((j : Nat) : Int)), .quiet (.bool true)] H4 ?ho9 ?he9
      case ho9 => exact ak (fun _ => ⟨rfl, fun _ _ => rfl⟩) (ak (by refine fun γ => ⟨rfl, fun w' h => ?_⟩; clear h; go_simp) trivial)
      intro _ w12 H12
      clear H4
      refine rest0 rfl (then_normal (wp_cond_true rfl ?_))
      refine wp_skip (then_normal ?_)
      refine wp_seq (wp_block (wp_seq ?_))
      refine walk_seqB 4 [.quiet (.agg (kd p r c gx gy).toArray), .quiet (.agg (pc (dM p (X, Y, Z) (n / 2 ^ (j + 1)))).toArray), .quiet (.agg (pc (dM p (X, Y, Z) (n / 2 ^ (j + 1)))).toArray), .call (.agg (pt ((dA p (dM p (X, Y, Z) (n / 2 ^ (j + 1))) (dM p (X, Y, Z) (n / 2 ^ (j + 1)))).1) ((dA p (dM p (X, Y, Z) (n / 2 ^ (j + 1))) (dM p (X, Y, Z) (n / 2 ^ (j + 1)))).2.1) ((dA p (dM p (X, Y, Z) (n / 2 ^ (j + 1))) (dM p (X, Y, Z) (n / 2 ^ (j + 1)))).2.2)).toArray)] H12 ?ho10 ?he10
      case ho10 => exact ak (fun γ => ⟨rfl, fun w' h => ex_loadT h 1 rfl rfl rfl Try.isAgg27 Try.sizeOf27 rfl rfl⟩) (ak (fun γ => ⟨rfl, fun w' h => ex_loadT h 0 rfl rfl rfl Try.isAgg25 Try.sizeOf25 rfl rfl⟩) (ak (fun γ => ⟨rfl, fun w' h => ex_loadT h 0 rfl rfl rfl Try.isAgg25 Try.sizeOf25 rfl rfl⟩) (ak (fun γ => ⟨rfl, fun w' h => ⟨26, #[.agg (kd p r c gx gy).toArray, .agg (pc (dM p (X, Y, Z) (n / 2 ^ (j + 1)))).toArray, .agg (pc (dM p (X, Y, Z) (n / 2 ^ (j + 1)))).toArray], exec_call rfl call26 rfl (mpn rfl), dAdd_any hp (dM p (X, Y, Z) (n / 2 ^ (j + 1))) (dM p (X, Y, Z) (n / 2 ^ (j + 1))) (dM_lt hp ⟨hX, hY⟩ _) (dM_lt hp ⟨hX, hY⟩ _) w'⟩⟩) trivial)))
      intro _ w13 H13
      clear H12
      refine rest_at (l := [4]) rfl ?_
      refine rest_store rfl rfl rfl (ex_storeT (vs := pt ((dA p (dM p (X, Y, Z) (n / 2 ^ (j + 1))) (dM p (X, Y, Z) (n / 2 ^ (j + 1)))).1) ((dA p (dM p (X, Y, Z) (n / 2 ^ (j + 1))) (dM p (X, Y, Z) (n / 2 ^ (j + 1)))).2.1) ((dA p (dM p (X, Y, Z) (n / 2 ^ (j + 1))) (dM p (X, Y, Z) (n / 2 ^ (j + 1)))).2.2)) H13.out.1 0 rfl rfl rfl rfl Try.sizeOf25 rfl (Nat.le_of_ble_eq_true rfl)) ?_
      have H14 : Hid (Mm (w13.setCells γ2_1 0 (pt ((dA p (dM p (X, Y, Z) (n / 2 ^ (j + 1))) (dM p (X, Y, Z) (n / 2 ^ (j + 1)))).1) ((dA p (dM p (X, Y, Z) (n / 2 ^ (j + 1))) (dM p (X, Y, Z) (n / 2 ^ (j + 1)))).2.1) ((dA p (dM p (X, Y, Z) (n / 2 ^ (j + 1))) (dM p (X, Y, Z) (n / 2 ^ (j + 1)))).2.2))) [(γ2_1, pt ((dA p (dM p (X, Y, Z) (n / 2 ^ (j + 1))) (dM p (X, Y, Z) (n / 2 ^ (j + 1)))).1) ((dA p (dM p (X, Y, Z) (n / 2 ^ (j + 1))) (dM p (X, Y, Z) (n / 2 ^ (j + 1)))).2.1) ((dA p (dM p (X, Y, Z) (n / 2 ^ (j + 1))) (dM p (X, Y, Z) (n / 2 ^ (j + 1)))).2.2)), (γ1_0, kd p r c gx gy), (γ1_1, pt X Y Z), (γ1_2, pt 0 0 false)] ∧ Below w.heap.size w (w13.setCells γ2_1 0 (pt ((dA p (dM p (X, Y, Z) (n / 2 ^ (j + 1))) (dM p (X, Y, Z) (n / 2 ^ (j + 1)))).1) ((dA p (dM p (X, Y, Z) (n / 2 ^ (j + 1))) (dM p (X, Y, Z) (n / 2 ^ (j + 1)))).2.1) ((dA p (dM p (X, Y, Z) (n / 2 ^ (j + 1))) (dM p (X, Y, Z) (n / 2 ^ (j + 1)))).2.2)))) := ⟨H13.out.1.put 0 (off := 0) (vs := pt ((dA p (dM p (X, Y, Z) (n / 2 ^ (j + 1))) (dM p (X, Y, Z) (n / 2 ^ (j + 1)))).1) ((dA p (dM p (X, Y, Z) (n / 2 ^ (j + 1))) (dM p (X, Y, Z) (n / 2 ^ (j + 1)))).2.1) ((dA p (dM p (X, Y, Z) (n / 2 ^ (j + 1))) (dM p (X, Y, Z) (n / 2 ^ (j + 1)))).2.2)) rfl (Nat.le_of_ble_eq_true rfl), below_setCells _ o2_1.out _ _ _ H13.out.2⟩
      clear H13
      generalize hgw : World.setCells _ _ _ _ = w14 at H14 ⊢
      clear hgw
      refine rest_nil (then_normal (wp_seq ?_))
      refine walk_seqB 5 [.quiet (U n), .quiet (.int .i64 ((j : Nat) : Int)), .quiet (U (n / 2 ^ j)), .quiet (U (n / 2 ^ j % 2)), .quiet (.bool false)] H14 ?ho11 ?he11
      case ho11 => exact ak (fun _ => ⟨rfl, fun _ _ => rfl⟩) (ak (fun _ => ⟨rfl, fun _ _ => rfl⟩) (ak (fun γ => ⟨rfl, fun w' _ => ex_shrU (by omega) rfl rfl rfl⟩) (ak (fun γ => ⟨rfl, fun w' _ => ex_and1 rfl (Nat.lt_of_le_of_lt (Nat.div_le_self _ _) hn) rfl rfl⟩) (ak (fun γ => ⟨rfl, fun w' _ => ex_eqU rfl rfl rfl (decide_eq_false (hb))⟩) trivial))))
      intro _ w15 H15
      clear H14
      refine rest0 rfl (then_normal (wp_cond_false rfl ?_))
      refine wp_skip (block_normal (then_normal ?_))
      refine walk_seqB 2 [.quiet (.int .i64 ((j : Nat) : Int)), .quiet (.int .i64 (((j : Nat) : Int) - 1))] H15 ?ho12 ?he12
      case ho12 => exact ak (fun _ => ⟨rfl, fun _ _ => rfl⟩) (ak (by refine fun γ => ⟨rfl, fun w' h => ?_⟩; clear h; go_simp; rw [IntKind.wrap_i64]; omega) trivial)
      intro _ w16 H16
      clear H15
      refine rest_at (l := [2]) rfl ?_
      refine rest_set (d := 8) rfl rfl rfl rfl ?_
      simp only [Act.put, sa, sz, ss]
      refine rest_nil (then_normal ?_)
      exact ⟨j, ⟨(slotfn [undef, undef, undef, undef, undef, undef, undef, undef, undef, undef, undef, undef, undef, .int .i64 ((j : Nat) : Int), .bool true, .int .i64 ((j : Nat) : Int), .int .i64 (((j : Nat) : Int) - 1), .agg (kd p r c gx gy).toArray, .agg (pc (dM p (X, Y, Z) (n / 2 ^ (j + 1)))).toArray, .agg (pc (dM p (X, Y, Z) (n / 2 ^ (j + 1)))).toArray, .agg (pt ((dA p (dM p (X, Y, Z) (n / 2 ^ (j + 1))) (dM p (X, Y, Z) (n / 2 ^ (j + 1)))).1) ((dA p (dM p (X, Y, Z) (n / 2 ^ (j + 1))) (dM p (X, Y, Z) (n / 2 ^ (j + 1)))).2.1) ((dA p (dM p (X, Y, Z) (n / 2 ^ (j + 1))) (dM p (X, Y, Z) (n / 2 ^ (j + 1)))).2.2)).toArray, U n, .int .i64 ((j : Nat) : Int), U (n / 2 ^ j), U (n / 2 ^ j % 2), .bool false, s0 26, s0 27, s0 28, s0 29]), rfl, ⟨by rw [dM_bit p (X, Y, Z) n j hn, if_neg hb]; exact H16.out.1, H16.out.2⟩, by omega⟩, by omega⟩
  have hk : k = 0 := by omega
  subst hk
  refine wp_seq (wp_seq ?_)
  refine walk_seqB 2 [.quiet (.int .i64 (((0 : Nat) : Int) - 1)), .quiet (.bool false)] H4 ?ho13 ?he13
  case ho13 => exact ak (fun _ => ⟨rfl, fun _ _ => rfl⟩) (ak (by refine fun γ => ⟨rfl, fun w' h => ?_⟩; clear h; go_simp) trivial)
  intro _ w17 H17
  clear H4
  refine rest0 rfl (then_normal (wp_cond_false rfl ?_))
  refine wp_exit ?_
  repeat refine then_exit ?_
  refine block_exit ?_
  refine then_normal (wp_seq ?_)
  refine walk_seqB 1 [.quiet (.agg (pc (dM p (X, Y, Z) (n / 2 ^ 0))).toArray)] H17 ?ho14 ?he14
  case ho14 => exact ak (fun γ => ⟨rfl, fun w' h => ex_loadT h 0 rfl rfl rfl Try.isAgg25 Try.sizeOf25 rfl rfl⟩) trivial
  intro _ w18 H18
  clear H17
  refine rest_at (l := [1]) rfl ?_
  refine rest_store rfl rfl rfl (ex_storeT (vs := pc (dM p (X, Y, Z) (n / 2 ^ 0))) H18.out.1 3 rfl rfl rfl rfl Try.sizeOf25 rfl (Nat.le_of_ble_eq_true rfl)) ?_
  have H19 : Hid (Mm (w18.setCells γ1_2 0 (pc (dM p (X, Y, Z) (n / 2 ^ 0)))) [(γ2_1, pc (dM p (X, Y, Z) (n / 2 ^ 0))), (γ1_0, kd p r c gx gy), (γ1_1, pt X Y Z), (γ1_2, pc (dM p (X, Y, Z) (n / 2 ^ 0)))] ∧ Below w.heap.size w (w18.setCells γ1_2 0 (pc (dM p (X, Y, Z) (n / 2 ^ 0))))) := ⟨H18.out.1.put 3 (off := 0) (vs := pc (dM p (X, Y, Z) (n / 2 ^ 0))) rfl (Nat.le_of_ble_eq_true rfl), below_setCells _ o1_2.out _ _ _ H18.out.2⟩
  clear H18
  generalize hgw : World.setCells _ _ _ _ = w19 at H19 ⊢
  clear hgw
  refine rest_nil (then_normal (wp_ret ?_))
  repeat (first | refine then_ret ?_ | refine block_ret ?_)
  have hf0 := var_T H19.out.1 3 rfl Try.isAgg25 Try.sizeOf25 rfl
  refine bodyPost_ret (v := .agg (pc (dM p (X, Y, Z) (n / 2 ^ 0))).toArray) (by simp [results, Try.results24, asAddr, hf0]) rfl ?_
  exact ⟨by rw [Nat.pow_zero, Nat.div_one], H19.out.2⟩
def di (p r X Y : Nat) (Z : Bool) : Bool := oc p X Y Z && (dM p (X, Y, Z) r).2.2
theorem dc_is (hp : Pr p) (X Y : Nat) (Z t : Bool) (h : oc p X Y Z = t) (w : World) : Calls Try.prog 22 #[.agg (kd p r c gx gy).toArray, .agg (pt X Y Z).toArray] w fun e w' => e = .returned (.bool t) ∧ Below w.heap.size w w' := by
  rw [← h]
  exact dCheck_any hp X Y Z w
set_option maxRecDepth 100000 in
theorem din_no (hp : Pr p) (X Y : Nat) (Z : Bool) (hoc : oc p X Y Z = false) (w : World) :
    Calls Try.prog 23 #[.agg (kd p r c gx gy).toArray, .agg (pt X Y Z).toArray] w fun e w' => e = .returned (.bool false) ∧ Below w.heap.size w w' := by
  have H0 : Hid (_ ∧ _) := ⟨Mm.nil w, Below.refl w.heap.size w⟩
  go_enter Try.func23, Try.ntmps23
  refine wp_seq ?_
  refine walk_seqA 3 [.made (kd p r c gx gy) 27, .made (pt X Y Z) 25, .quiet (.bool false)] (sB H0) ?ho1 ?he1
  case ho1 => exact ak (fun γ => ⟨rfl, fun w' => ex_boxT rfl rfl⟩) (ak (fun γ => ⟨rfl, fun w' => ex_boxT rfl rfl⟩) (ak (fun _ => ⟨rfl, fun _ _ => rfl⟩) trivial))
  intro γ w1 l hM hl
  have H1 : Hid (Mm w1 [(γ 0, kd p r c gx gy), (γ 1, pt X Y Z)] ∧ _) := growB H0 hM (Nat.le_refl _) hl [0, 1] rfl (by decide)
  have o1_0 := ownB H0 hM (Nat.le_refl _) hl (i := 0) rfl
  have o1_1 := ownB H0 hM (Nat.le_refl _) hl (i := 1) rfl
  clear hM hl l
  generalize γ 0 = γ1_0 at H1 o1_0 ⊢
  generalize γ 1 = γ1_1 at H1 o1_1 ⊢
  clear γ
  refine rest0 rfl (then_normal (wp_seq ?_))
  refine walk_seqB 12 [.quiet (.agg (kd p r c gx gy).toArray), .quiet (.agg (pt X Y Z).toArray), .call (.bool false), .quiet (.bool false), .gone, .gone, .gone, .gone, .gone, .gone, .quiet (.bool false), .quiet (.bool false)] H1 ?ho2 ?he2
  case ho2 => exact ak (fun γ => ⟨rfl, fun w' h => ex_loadT h 0 rfl rfl rfl Try.isAgg27 Try.sizeOf27 rfl rfl⟩) (ak (fun γ => ⟨rfl, fun w' h => ex_loadT h 1 rfl rfl rfl Try.isAgg25 Try.sizeOf25 rfl rfl⟩) (ak (fun γ => ⟨rfl, fun w' h => ⟨22, #[.agg (kd p r c gx gy).toArray, .agg (pt X Y Z).toArray], exec_call rfl call22 rfl (mpn rfl), dc_is hp X Y Z _ hoc w'⟩⟩) (ak (fun _ => ⟨rfl, fun _ _ => rfl⟩) (ak (fun γ => rfl) (ak (fun γ => rfl) (ak (fun γ => rfl) (ak (fun γ => rfl) (ak (fun γ => rfl) (ak (fun γ => rfl) (ak (by refine fun γ => ⟨rfl, fun w' h => ?_⟩; clear h; go_simp) (ak (fun _ => ⟨rfl, fun _ _ => rfl⟩) trivial)))))))))))
  intro _ w2 H2
  clear H1
  refine rest0 rfl (then_normal (wp_ret ?_))
  repeat (first | refine then_ret ?_ | refine block_ret ?_)
  refine bodyPost_ret (v := .bool false) (by simp [results, Try.results23, go_sem, *]) rfl ?_
  exact ⟨rfl, H2.out.2⟩
set_option maxRecDepth 100000 in
theorem din_yes (hp : Pr p) (X Y : Nat) (Z : Bool) (hoc : oc p X Y Z = true) (hr : r < 18446744073709551616) (w : World) :
    Calls Try.prog 23 #[.agg (kd p r c gx gy).toArray, .agg (pt X Y Z).toArray] w fun e w' => e = .returned (.bool ((dM p (X, Y, Z) r).2.2)) ∧ Below w.heap.size w w' := by
  have H0 : Hid (_ ∧ _) := ⟨Mm.nil w, Below.refl w.heap.size w⟩
  go_enter Try.func23, Try.ntmps23
  refine wp_seq ?_
  refine walk_seqA 3 [.made (kd p r c gx gy) 27, .made (pt X Y Z) 25, .quiet (.bool false)] (sB H0) ?ho1 ?he1
  case ho1 => exact ak (fun γ => ⟨rfl, fun w' => ex_boxT rfl rfl⟩) (ak (fun γ => ⟨rfl, fun w' => ex_boxT rfl rfl⟩) (ak (fun _ => ⟨rfl, fun _ _ => rfl⟩) trivial))
  intro γ w1 l hM hl
  have H1 : Hid (Mm w1 [(γ 0, kd p r c gx gy), (γ 1, pt X Y Z)] ∧ _) := growB H0 hM (Nat.le_refl _) hl [0, 1] rfl (by decide)
  have o1_0 := ownB H0 hM (Nat.le_refl _) hl (i := 0) rfl
  have o1_1 := ownB H0 hM (Nat.le_refl _) hl (i := 1) rfl
  clear hM hl l
  generalize γ 0 = γ1_0 at H1 o1_0 ⊢
  generalize γ 1 = γ1_1 at H1 o1_1 ⊢
  clear γ
  refine rest0 rfl (then_normal (wp_seq ?_))
  refine walk_seqB 12 [.quiet (.agg (kd p r c gx gy).toArray), .quiet (.agg (pt X Y Z).toArray), .call (.bool true), .quiet (.bool true), .quiet (.agg (kd p r c gx gy).toArray), .quiet (.agg (pt X Y Z).toArray), .quiet (PT γ1_0 1), .quiet (U r), .call (.agg (pt ((dM p (X, Y, Z) r).1) ((dM p (X, Y, Z) r).2.1) ((dM p (X, Y, Z) r).2.2)).toArray), .quiet (.bool ((dM p (X, Y, Z) r).2.2)), .quiet (.bool ((dM p (X, Y, Z) r).2.2)), .quiet (.bool ((dM p (X, Y, Z) r).2.2))] H1 ?ho2 ?he2
  case ho2 => exact ak (fun γ => ⟨rfl, fun w' h => ex_loadT h 0 rfl rfl rfl Try.isAgg27 Try.sizeOf27 rfl rfl⟩) (ak (fun γ => ⟨rfl, fun w' h => ex_loadT h 1 rfl rfl rfl Try.isAgg25 Try.sizeOf25 rfl rfl⟩) (ak (fun γ => ⟨rfl, fun w' h => ⟨22, #[.agg (kd p r c gx gy).toArray, .agg (pt X Y Z).toArray], exec_call rfl call22 rfl (mpn rfl), dc_is hp X Y Z _ hoc w'⟩⟩) (ak (fun _ => ⟨rfl, fun _ _ => rfl⟩) (ak (fun γ => ⟨rfl, fun w' h => ex_loadT h 0 rfl rfl rfl Try.isAgg27 Try.sizeOf27 rfl rfl⟩) (ak (fun γ => ⟨rfl, fun w' h => ex_loadT h 1 rfl rfl rfl Try.isAgg25 Try.sizeOf25 rfl rfl⟩) (ak (by refine fun γ => ⟨rfl, fun w' h => ?_⟩; clear h; go_simp) (ak (fun γ => ⟨rfl, fun w' h => ex_loadC h 0 rfl rfl rfl Try.isAgg23 rfl⟩) (ak (fun γ => ⟨rfl, fun w' h => ⟨24, #[.agg (kd p r c gx gy).toArray, .agg (pt X Y Z).toArray, U r], exec_call rfl call24 rfl (mpn rfl), dMul_any hp X Y Z (oc_lt hp hoc).1 (oc_lt hp hoc).2 r hr w'⟩⟩) (ak (fun γ => ⟨rfl, fun w' _ => ex_field25_2 rfl rfl rfl⟩) (ak (by refine fun γ => ⟨rfl, fun w' h => ?_⟩; clear h; go_simp) (ak (fun _ => ⟨rfl, fun _ _ => rfl⟩) trivial)))))))))))
  intro _ w2 H2
  clear H1
  refine rest0 rfl (then_normal (wp_ret ?_))
  repeat (first | refine then_ret ?_ | refine block_ret ?_)
  refine bodyPost_ret (v := .bool ((dM p (X, Y, Z) r).2.2)) (by simp [results, Try.results23, go_sem, *]) rfl ?_
  exact ⟨rfl, H2.out.2⟩
theorem dIn_any (hp : Pr p) (hr : r < 18446744073709551616) (X Y : Nat) (Z : Bool) (w : World) : Calls Try.prog 23 #[.agg (kd p r c gx gy).toArray, .agg (pt X Y Z).toArray] w fun e w' => e = .returned (.bool (di p r X Y Z)) ∧ Below w.heap.size w w' := by
  unfold di
  cases h : oc p X Y Z
  · exact din_no hp X Y Z h w
  · exact din_yes hp X Y Z h hr w
end
end Rg
end Go.Proofs.Ytjmbgchoioepjaa
end
