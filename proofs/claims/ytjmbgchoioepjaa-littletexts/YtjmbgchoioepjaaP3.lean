/- Texts of the proof, joined. -/
import Derived.Test.YtjmbgchoioepjaaP2
section
namespace Go.Proofs.Ytjmbgchoioepjaa
open Go.RowKit
namespace Rg
theorem len_in (n : Nat) (hn : n < 18446744073709551616) (w : World) : Calls Try.prog 57 #[U n] w fun e w' => e = .returned (.int .i64 ((bl n : Nat) : Int)) ∧ Below w.heap.size w w' := by
  have h := len64_any (n : Int) w (by omega) (by omega)
  rw [Int.toNat_natCast] at h
  exact Calls.mono h (fun e w' h => ⟨h.1, by rw [h.2]; exact Below.refl _ _⟩)
theorem call44 : ∀ args w, (callFunc 44 args).run Try.prog w = .ok (.enter 44 args) w := by intro args w; go_simp
theorem call47 : ∀ args w, (callFunc 47 args).run Try.prog w = .ok (.enter 47 args) w := by intro args w; go_simp
theorem call50 : ∀ args w, (callFunc 50 args).run Try.prog w = .ok (.enter 50 args) w := by intro args w; go_simp
theorem call57 : ∀ args w, (callFunc 57 args).run Try.prog w = .ok (.enter 57 args) w := by intro args w; go_simp
section
variable {p r c gx gy : Nat}
set_option maxHeartbeats 1000000 in
set_option maxRecDepth 100000 in
theorem multiple_any (hp : Pr p) (X Y : Nat) (Z : Bool) (hX : X < p) (hY : Y < p) (n : Nat) (hn : n < 18446744073709551616) (w : World) :
    Calls Try.prog 47 #[.agg (kd p r c gx gy).toArray, .agg (pt X Y Z).toArray, U n] w fun e w' => e = .returned (V (tc (mt p X Y Z n))) ∧ Below w.heap.size w w' := by
  have H0 : Hid (_ ∧ _) := ⟨Mm.nil w, Below.refl w.heap.size w⟩
  go_enter Try.func47, Try.ntmps47
  refine wp_seq ?_
  refine walk_seqA 3 [.made (kd p r c gx gy) 72, .made (pt X Y Z) 25, .made (tr 0 0 0) 77] (sB H0) ?ho1 ?he1
  case ho1 => exact ak (fun γ => ⟨rfl, fun w' => ex_boxT rfl rfl⟩) (ak (fun γ => ⟨rfl, fun w' => ex_boxT rfl rfl⟩) (ak (fun γ => ⟨rfl, fun w' => ex_made77 rfl⟩) trivial))
  intro γ w1 l hM hl
  have H1 : Hid (Mm w1 [(γ 0, kd p r c gx gy), (γ 1, pt X Y Z), (γ 2, tr 0 0 0)] ∧ _) := growB H0 hM (Nat.le_refl _) hl [0, 1, 2] rfl (by decide)
  have o1_0 := ownB H0 hM (Nat.le_refl _) hl (i := 0) rfl
  have o1_1 := ownB H0 hM (Nat.le_refl _) hl (i := 1) rfl
  have o1_2 := ownB H0 hM (Nat.le_refl _) hl (i := 2) rfl
  clear hM hl l
  generalize γ 0 = γ1_0 at H1 o1_0 ⊢
  generalize γ 1 = γ1_1 at H1 o1_1 ⊢
  generalize γ 2 = γ1_2 at H1 o1_2 ⊢
  clear γ
  refine rest0 rfl (then_normal (wp_seq ?_))
  refine walk_seqA 1 [.made (tr 0 0 0) 77] (sB H1) ?ho2 ?he2
  case ho2 => exact ak (fun γ => ⟨rfl, fun w' => ex_made77 rfl⟩) trivial
  intro γ w2 l hM hl
  have H2 : Hid (Mm w2 [(γ 0, tr 0 0 0), (γ1_0, kd p r c gx gy), (γ1_1, pt X Y Z), (γ1_2, tr 0 0 0)] ∧ _) := growB H1 hM (Nat.le_refl _) hl [0] rfl (by decide)
  have o2_0 := ownB H1 hM (Nat.le_refl _) hl (i := 0) rfl
  clear hM hl l H1
  generalize γ 0 = γ2_0 at H2 o2_0 ⊢
  clear γ
  refine rest0 rfl (then_normal (wp_seq (wp_seq ?_)))
  refine walk_seqB 4 [.quiet (U n), .call (.int .i64 ((bl n : Nat) : Int)), .quiet (.int .i64 (((bl n : Nat) : Int) - 1)), .quiet (.int .i64 (((bl n : Nat) : Int) - 1))] H2 ?ho3 ?he3
  case ho3 => exact ak (fun _ => ⟨rfl, fun _ _ => rfl⟩) (ak (fun γ => ⟨rfl, fun w' h => ⟨57, #[U n], exec_call rfl call57 rfl (mpn rfl), len_in n hn w'⟩⟩) (ak (by refine fun γ => ⟨rfl, fun w' h => ?_⟩; clear h; have hbl := bl_le_of n 64 hn; go_simp; rw [IntKind.wrap_i64]; omega) (ak (fun _ => ⟨rfl, fun _ _ => rfl⟩) trivial)))
  intro _ w3 H3
  clear H2
  refine rest0 rfl (then_normal (wp_block ?_))
  refine loop_ghost (α := Nat) (fun k a' w' => ∃ s0 : Nat → Value, a' = ⟨#[.agg (kd p r c gx gy).toArray, .agg (pt X Y Z).toArray, U n, PT γ1_0 0, PT γ1_1 0, undef, PT γ1_2 0, PT γ2_0 0, .int .i64 (((k : Nat) : Int) - 1), U n, .int .i64 ((bl n : Nat) : Int), .int .i64 (((bl n : Nat) : Int) - 1), s0 12, s0 13, s0 14, s0 15, s0 16, s0 17, s0 18, s0 19, s0 20, s0 21, s0 22, s0 23, s0 24, s0 25, s0 26, s0 27, s0 28, s0 29, s0 30, s0 31, s0 32, s0 33, undef], []⟩ ∧ (Mm w' [(γ2_0, tc (mt p X Y Z (n / 2 ^ k))), (γ1_0, kd p r c gx gy), (γ1_1, pt X Y Z), (γ1_2, tr 0 0 0)] ∧ Below w.heap.size w w') ∧ k ≤ 64) (fun k => k) (bl n) ?st0 ?rd0
  case st0 => exact ⟨(slotfn [undef, undef, undef, undef, undef, undef, undef, undef, undef, undef, undef, undef, undef, undef, undef, undef, undef, undef, undef, undef, undef, undef, undef, undef, undef, undef, undef, undef, undef, undef, undef, undef, undef, undef]), rfl, ⟨by rw [Nat.div_eq_of_lt (bl_lt n), mt_zero]; exact H3.out.1, H3.out.2⟩, bl_le_of n 64 hn⟩
  intro k a' w4 hI
  obtain ⟨s0, rfl, hMB, hk0⟩ := hI
  have H4 : Hid (_ ∧ _) := hMB
  clear hMB H3
  by_cases hlt : 0 < k
  · have hrd : True := trivial
    clear hrd
    obtain ⟨j, rfl⟩ : ∃ j, k = j + 1 := ⟨k - 1, by omega⟩
    rw [show (((j + 1 : Nat) : Int) - 1) = ((j : Nat) : Int) by omega]
    by_cases hb : n / 2 ^ j % 2 = 1
    · have hrd : True := trivial
      clear hrd
      refine wp_seq (wp_seq ?_)
      refine walk_seqB 2 [.quiet (.int .i64 ((j : Nat) : Int)), .quiet (.bool true)] H4 ?ho4 ?he4
      case ho4 => exact ak (fun _ => ⟨rfl, fun _ _ => rfl⟩) (ak (by refine fun γ => ⟨rfl, fun w' h => ?_⟩; clear h; go_simp) trivial)
      intro _ w5 H5
      clear H4
      refine rest0 rfl (then_normal (wp_cond_true rfl ?_))
      refine wp_skip (then_normal ?_)
      refine wp_seq (wp_block (wp_seq ?_))
      refine walk_seqB 6 [.quiet (.agg (kd p r c gx gy).toArray), .quiet (.agg (tc (mt p X Y Z (n / 2 ^ (j + 1)))).toArray), .call (.tuple #[.agg (tr ((twT p (mt p X Y Z (n / 2 ^ (j + 1)))).1) ((twT p (mt p X Y Z (n / 2 ^ (j + 1)))).2.1) ((twT p (mt p X Y Z (n / 2 ^ (j + 1)))).2.2)).toArray, U (tR p (mt p X Y Z (n / 2 ^ (j + 1))).1 (mt p X Y Z (n / 2 ^ (j + 1))).2.2)]), .quiet (.tuple #[.agg (tr ((twT p (mt p X Y Z (n / 2 ^ (j + 1)))).1) ((twT p (mt p X Y Z (n / 2 ^ (j + 1)))).2.1) ((twT p (mt p X Y Z (n / 2 ^ (j + 1)))).2.2)).toArray, U (tR p (mt p X Y Z (n / 2 ^ (j + 1))).1 (mt p X Y Z (n / 2 ^ (j + 1))).2.2)]), .quiet (.agg (tr ((twT p (mt p X Y Z (n / 2 ^ (j + 1)))).1) ((twT p (mt p X Y Z (n / 2 ^ (j + 1)))).2.1) ((twT p (mt p X Y Z (n / 2 ^ (j + 1)))).2.2)).toArray), .quiet (U (tR p (mt p X Y Z (n / 2 ^ (j + 1))).1 (mt p X Y Z (n / 2 ^ (j + 1))).2.2))] H5 ?ho5 ?he5
      case ho5 => exact ak (fun γ => ⟨rfl, fun w' h => ex_loadT h 1 rfl rfl rfl Try.isAgg72 Try.sizeOf72 rfl rfl⟩) (ak (fun γ => ⟨rfl, fun w' h => ex_loadT h 0 rfl rfl rfl Try.isAgg77 Try.sizeOf77 rfl rfl⟩) (ak (fun γ => ⟨rfl, fun w' h => ⟨70, #[.agg (kd p r c gx gy).toArray, .agg (tc (mt p X Y Z (n / 2 ^ (j + 1)))).toArray], exec_call rfl call70 rfl (mpn rfl), twice_any hp (mt p X Y Z (n / 2 ^ (j + 1))) (mt_lt hp hX hY _) w'⟩⟩) (ak (fun _ => ⟨rfl, fun _ _ => rfl⟩) (ak (by refine fun γ => ⟨rfl, fun w' h => ?_⟩; clear h; go_simp) (ak (by refine fun γ => ⟨rfl, fun w' h => ?_⟩; clear h; go_simp) trivial)))))
      intro _ w6 H6
      clear H5
      refine rest_at (l := [6]) rfl ?_
      refine rest_store rfl rfl rfl (ex_storeT (vs := tr ((twT p (mt p X Y Z (n / 2 ^ (j + 1)))).1) ((twT p (mt p X Y Z (n / 2 ^ (j + 1)))).2.1) ((twT p (mt p X Y Z (n / 2 ^ (j + 1)))).2.2)) H6.out.1 0 rfl rfl rfl rfl Try.sizeOf77 rfl (Nat.le_of_ble_eq_true rfl)) ?_
      have H7 : Hid (Mm (w6.setCells γ2_0 0 (tr ((twT p (mt p X Y Z (n / 2 ^ (j + 1)))).1) ((twT p (mt p X Y Z (n / 2 ^ (j + 1)))).2.1) ((twT p (mt p X Y Z (n / 2 ^ (j + 1)))).2.2))) [(γ2_0, tr ((twT p (mt p X Y Z (n / 2 ^ (j + 1)))).1) ((twT p (mt p X Y Z (n / 2 ^ (j + 1)))).2.1) ((twT p (mt p X Y Z (n / 2 ^ (j + 1)))).2.2)), (γ1_0, kd p r c gx gy), (γ1_1, pt X Y Z), (γ1_2, tr 0 0 0)] ∧ Below w.heap.size w (w6.setCells γ2_0 0 (tr ((twT p (mt p X Y Z (n / 2 ^ (j + 1)))).1) ((twT p (mt p X Y Z (n / 2 ^ (j + 1)))).2.1) ((twT p (mt p X Y Z (n / 2 ^ (j + 1)))).2.2)))) := ⟨H6.out.1.put 0 (off := 0) (vs := tr ((twT p (mt p X Y Z (n / 2 ^ (j + 1)))).1) ((twT p (mt p X Y Z (n / 2 ^ (j + 1)))).2.1) ((twT p (mt p X Y Z (n / 2 ^ (j + 1)))).2.2)) rfl (Nat.le_of_ble_eq_true rfl), below_setCells _ o2_0.out _ _ _ H6.out.2⟩
      clear H6
      generalize hgw : World.setCells _ _ _ _ = w7 at H7 ⊢
      clear hgw
      refine rest_nil (then_normal (wp_seq ?_))
      refine walk_seqB 5 [.quiet (U n), .quiet (.int .i64 ((j : Nat) : Int)), .quiet (U (n / 2 ^ j)), .quiet (U (n / 2 ^ j % 2)), .quiet (.bool true)] H7 ?ho6 ?he6
      case ho6 => exact ak (fun _ => ⟨rfl, fun _ _ => rfl⟩) (ak (fun _ => ⟨rfl, fun _ _ => rfl⟩) (ak (fun γ => ⟨rfl, fun w' _ => ex_shrU (by omega) rfl rfl rfl⟩) (ak (fun γ => ⟨rfl, fun w' _ => ex_and1 rfl (Nat.lt_of_le_of_lt (Nat.div_le_self _ _) hn) rfl rfl⟩) (ak (fun γ => ⟨rfl, fun w' _ => ex_eqU rfl rfl rfl (decide_eq_true (hb))⟩) trivial))))
      intro _ w8 H8
      clear H7
      refine rest0 rfl (then_normal (wp_cond_true rfl ?_))
      refine walk_seqB 7 [.quiet (.agg (kd p r c gx gy).toArray), .quiet (.agg (tr ((twT p (mt p X Y Z (n / 2 ^ (j + 1)))).1) ((twT p (mt p X Y Z (n / 2 ^ (j + 1)))).2.1) ((twT p (mt p X Y Z (n / 2 ^ (j + 1)))).2.2)).toArray), .quiet (.agg (pt X Y Z).toArray), .call (.tuple #[.agg (tr ((jnT p (twT p (mt p X Y Z (n / 2 ^ (j + 1)))) X Y Z).1) ((jnT p (twT p (mt p X Y Z (n / 2 ^ (j + 1)))) X Y Z).2.1) ((jnT p (twT p (mt p X Y Z (n / 2 ^ (j + 1)))) X Y Z).2.2)).toArray, U (jnR p (twT p (mt p X Y Z (n / 2 ^ (j + 1)))) X Y Z)]), .quiet (.tuple #[.agg (tr ((jnT p (twT p (mt p X Y Z (n / 2 ^ (j + 1)))) X Y Z).1) ((jnT p (twT p (mt p X Y Z (n / 2 ^ (j + 1)))) X Y Z).2.1) ((jnT p (twT p (mt p X Y Z (n / 2 ^ (j + 1)))) X Y Z).2.2)).toArray, U (jnR p (twT p (mt p X Y Z (n / 2 ^ (j + 1)))) X Y Z)]), .quiet (.agg (tr ((jnT p (twT p (mt p X Y Z (n / 2 ^ (j + 1)))) X Y Z).1) ((jnT p (twT p (mt p X Y Z (n / 2 ^ (j + 1)))) X Y Z).2.1) ((jnT p (twT p (mt p X Y Z (n / 2 ^ (j + 1)))) X Y Z).2.2)).toArray), .quiet (U (jnR p (twT p (mt p X Y Z (n / 2 ^ (j + 1)))) X Y Z))] H8 ?ho7 ?he7
      case ho7 => exact ak (fun γ => ⟨rfl, fun w' h => ex_loadT h 1 rfl rfl rfl Try.isAgg72 Try.sizeOf72 rfl rfl⟩) (ak (fun γ => ⟨rfl, fun w' h => ex_loadT h 0 rfl rfl rfl Try.isAgg77 Try.sizeOf77 rfl rfl⟩) (ak (fun γ => ⟨rfl, fun w' h => ex_loadT h 2 rfl rfl rfl Try.isAgg25 Try.sizeOf25 rfl rfl⟩) (ak (fun γ => ⟨rfl, fun w' h => ⟨44, #[.agg (kd p r c gx gy).toArray, .agg (tr ((twT p (mt p X Y Z (n / 2 ^ (j + 1)))).1) ((twT p (mt p X Y Z (n / 2 ^ (j + 1)))).2.1) ((twT p (mt p X Y Z (n / 2 ^ (j + 1)))).2.2)).toArray, .agg (pt X Y Z).toArray], exec_call rfl call44 rfl (mpn rfl), joined_any hp (twT p (mt p X Y Z (n / 2 ^ (j + 1)))) (tw_lt hp _) X Y Z hX hY w'⟩⟩) (ak (fun _ => ⟨rfl, fun _ _ => rfl⟩) (ak (by refine fun γ => ⟨rfl, fun w' h => ?_⟩; clear h; go_simp) (ak (by refine fun γ => ⟨rfl, fun w' h => ?_⟩; clear h; go_simp) trivial))))))
      intro _ w9 H9
      clear H8
      refine rest_at (l := [7]) rfl ?_
      refine rest_store rfl rfl rfl (ex_storeT (vs := tr ((jnT p (twT p (mt p X Y Z (n / 2 ^ (j + 1)))) X Y Z).1) ((jnT p (twT p (mt p X Y Z (n / 2 ^ (j + 1)))) X Y Z).2.1) ((jnT p (twT p (mt p X Y Z (n / 2 ^ (j + 1)))) X Y Z).2.2)) H9.out.1 0 rfl rfl rfl rfl Try.sizeOf77 rfl (Nat.le_of_ble_eq_true rfl)) ?_
      have H10 : Hid (Mm (w9.setCells γ2_0 0 (tr ((jnT p (twT p (mt p X Y Z (n / 2 ^ (j + 1)))) X Y Z).1) ((jnT p (twT p (mt p X Y Z (n / 2 ^ (j + 1)))) X Y Z).2.1) ((jnT p (twT p (mt p X Y Z (n / 2 ^ (j + 1)))) X Y Z).2.2))) [(γ2_0, tr ((jnT p (twT p (mt p X Y Z (n / 2 ^ (j + 1)))) X Y Z).1) ((jnT p (twT p (mt p X Y Z (n / 2 ^ (j + 1)))) X Y Z).2.1) ((jnT p (twT p (mt p X Y Z (n / 2 ^ (j + 1)))) X Y Z).2.2)), (γ1_0, kd p r c gx gy), (γ1_1, pt X Y Z), (γ1_2, tr 0 0 0)] ∧ Below w.heap.size w (w9.setCells γ2_0 0 (tr ((jnT p (twT p (mt p X Y Z (n / 2 ^ (j + 1)))) X Y Z).1) ((jnT p (twT p (mt p X Y Z (n / 2 ^ (j + 1)))) X Y Z).2.1) ((jnT p (twT p (mt p X Y Z (n / 2 ^ (j + 1)))) X Y Z).2.2)))) := ⟨H9.out.1.put 0 (off := 0) (vs := tr ((jnT p (twT p (mt p X Y Z (n / 2 ^ (j + 1)))) X Y Z).1) ((jnT p (twT p (mt p X Y Z (n / 2 ^ (j + 1)))) X Y Z).2.1) ((jnT p (twT p (mt p X Y Z (n / 2 ^ (j + 1)))) X Y Z).2.2)) rfl (Nat.le_of_ble_eq_true rfl), below_setCells _ o2_0.out _ _ _ H9.out.2⟩
      clear H9
      generalize hgw : World.setCells _ _ _ _ = w10 at H10 ⊢
      clear hgw
      refine rest_nil (block_normal (then_normal ?_))
      refine walk_seqB 2 [.quiet (.int .i64 ((j : Nat) : Int)), .quiet (.int .i64 (((j : Nat) : Int) - 1))] H10 ?ho8 ?he8
      case ho8 => exact ak (fun _ => ⟨rfl, fun _ _ => rfl⟩) (ak (by refine fun γ => ⟨rfl, fun w' h => ?_⟩; clear h; go_simp; rw [IntKind.wrap_i64]; omega) trivial)
      intro _ w11 H11
      clear H10
      refine rest_at (l := [2]) rfl ?_
      refine rest_set (d := 8) rfl rfl rfl rfl ?_
      simp only [Act.put, sa, sz, ss]
      refine rest_nil (then_normal ?_)
      exact ⟨j, ⟨(slotfn [undef, undef, undef, undef, undef, undef, undef, undef, undef, undef, undef, undef, .int .i64 ((j : Nat) : Int), .bool true, .int .i64 ((j : Nat) : Int), .int .i64 (((j : Nat) : Int) - 1), .tuple #[.agg (tr ((twT p (mt p X Y Z (n / 2 ^ (j + 1)))).1) ((twT p (mt p X Y Z (n / 2 ^ (j + 1)))).2.1) ((twT p (mt p X Y Z (n / 2 ^ (j + 1)))).2.2)).toArray, U (tR p (mt p X Y Z (n / 2 ^ (j + 1))).1 (mt p X Y Z (n / 2 ^ (j + 1))).2.2)], .agg (kd p r c gx gy).toArray, .agg (tc (mt p X Y Z (n / 2 ^ (j + 1)))).toArray, .tuple #[.agg (tr ((twT p (mt p X Y Z (n / 2 ^ (j + 1)))).1) ((twT p (mt p X Y Z (n / 2 ^ (j + 1)))).2.1) ((twT p (mt p X Y Z (n / 2 ^ (j + 1)))).2.2)).toArray, U (tR p (mt p X Y Z (n / 2 ^ (j + 1))).1 (mt p X Y Z (n / 2 ^ (j + 1))).2.2)], .agg (tr ((twT p (mt p X Y Z (n / 2 ^ (j + 1)))).1) ((twT p (mt p X Y Z (n / 2 ^ (j + 1)))).2.1) ((twT p (mt p X Y Z (n / 2 ^ (j + 1)))).2.2)).toArray, U (tR p (mt p X Y Z (n / 2 ^ (j + 1))).1 (mt p X Y Z (n / 2 ^ (j + 1))).2.2), U n, .int .i64 ((j : Nat) : Int), U (n / 2 ^ j), U (n / 2 ^ j % 2), .bool true, .tuple #[.agg (tr ((jnT p (twT p (mt p X Y Z (n / 2 ^ (j + 1)))) X Y Z).1) ((jnT p (twT p (mt p X Y Z (n / 2 ^ (j + 1)))) X Y Z).2.1) ((jnT p (twT p (mt p X Y Z (n / 2 ^ (j + 1)))) X Y Z).2.2)).toArray, U (jnR p (twT p (mt p X Y Z (n / 2 ^ (j + 1)))) X Y Z)], .agg (kd p r c gx gy).toArray, .agg (tr ((twT p (mt p X Y Z (n / 2 ^ (j + 1)))).1) ((twT p (mt p X Y Z (n / 2 ^ (j + 1)))).2.1) ((twT p (mt p X Y Z (n / 2 ^ (j + 1)))).2.2)).toArray, .agg (pt X Y Z).toArray, .tuple #[.agg (tr ((jnT p (twT p (mt p X Y Z (n / 2 ^ (j + 1)))) X Y Z).1) ((jnT p (twT p (mt p X Y Z (n / 2 ^ (j + 1)))) X Y Z).2.1) ((jnT p (twT p (mt p X Y Z (n / 2 ^ (j + 1)))) X Y Z).2.2)).toArray, U (jnR p (twT p (mt p X Y Z (n / 2 ^ (j + 1)))) X Y Z)], .agg (tr ((jnT p (twT p (mt p X Y Z (n / 2 ^ (j + 1)))) X Y Z).1) ((jnT p (twT p (mt p X Y Z (n / 2 ^ (j + 1)))) X Y Z).2.1) ((jnT p (twT p (mt p X Y Z (n / 2 ^ (j + 1)))) X Y Z).2.2)).toArray, U (jnR p (twT p (mt p X Y Z (n / 2 ^ (j + 1)))) X Y Z)]), rfl, ⟨by rw [mt_bit X Y Z n j hn, if_pos hb]; exact H11.out.1, H11.out.2⟩, by omega⟩, by omega⟩
    · have hrd : True := trivial
      clear hrd
      refine wp_seq (wp_seq ?_)
      refine walk_seqB 2 [.quiet (.int .i64 ((j : Nat) : Int)), .quiet (.bool true)] H4 ?ho9 ?he9
      case ho9 => exact ak (fun _ => ⟨rfl, fun _ _ => rfl⟩) (ak (by refine fun γ => ⟨rfl, fun w' h => ?_⟩; clear h; go_simp) trivial)
      intro _ w12 H12
      clear H4
      refine rest0 rfl (then_normal (wp_cond_true rfl ?_))
      refine wp_skip (then_normal ?_)
      refine wp_seq (wp_block (wp_seq ?_))
      refine walk_seqB 6 [.quiet (.agg (kd p r c gx gy).toArray), .quiet (.agg (tc (mt p X Y Z (n / 2 ^ (j + 1)))).toArray), .call (.tuple #[.agg (tr ((twT p (mt p X Y Z (n / 2 ^ (j + 1)))).1) ((twT p (mt p X Y Z (n / 2 ^ (j + 1)))).2.1) ((twT p (mt p X Y Z (n / 2 ^ (j + 1)))).2.2)).toArray, U (tR p (mt p X Y Z (n / 2 ^ (j + 1))).1 (mt p X Y Z (n / 2 ^ (j + 1))).2.2)]), .quiet (.tuple #[.agg (tr ((twT p (mt p X Y Z (n / 2 ^ (j + 1)))).1) ((twT p (mt p X Y Z (n / 2 ^ (j + 1)))).2.1) ((twT p (mt p X Y Z (n / 2 ^ (j + 1)))).2.2)).toArray, U (tR p (mt p X Y Z (n / 2 ^ (j + 1))).1 (mt p X Y Z (n / 2 ^ (j + 1))).2.2)]), .quiet (.agg (tr ((twT p (mt p X Y Z (n / 2 ^ (j + 1)))).1) ((twT p (mt p X Y Z (n / 2 ^ (j + 1)))).2.1) ((twT p (mt p X Y Z (n / 2 ^ (j + 1)))).2.2)).toArray), .quiet (U (tR p (mt p X Y Z (n / 2 ^ (j + 1))).1 (mt p X Y Z (n / 2 ^ (j + 1))).2.2))] H12 ?ho10 ?he10
      case ho10 => exact ak (fun γ => ⟨rfl, fun w' h => ex_loadT h 1 rfl rfl rfl Try.isAgg72 Try.sizeOf72 rfl rfl⟩) (ak (fun γ => ⟨rfl, fun w' h => ex_loadT h 0 rfl rfl rfl Try.isAgg77 Try.sizeOf77 rfl rfl⟩) (ak (fun γ => ⟨rfl, fun w' h => ⟨70, #[.agg (kd p r c gx gy).toArray, .agg (tc (mt p X Y Z (n / 2 ^ (j + 1)))).toArray], exec_call rfl call70 rfl (mpn rfl), twice_any hp (mt p X Y Z (n / 2 ^ (j + 1))) (mt_lt hp hX hY _) w'⟩⟩) (ak (fun _ => ⟨rfl, fun _ _ => rfl⟩) (ak (by refine fun γ => ⟨rfl, fun w' h => ?_⟩; clear h; go_simp) (ak (by refine fun γ => ⟨rfl, fun w' h => ?_⟩; clear h; go_simp) trivial)))))
      intro _ w13 H13
      clear H12
      refine rest_at (l := [6]) rfl ?_
      refine rest_store rfl rfl rfl (ex_storeT (vs := tr ((twT p (mt p X Y Z (n / 2 ^ (j + 1)))).1) ((twT p (mt p X Y Z (n / 2 ^ (j + 1)))).2.1) ((twT p (mt p X Y Z (n / 2 ^ (j + 1)))).2.2)) H13.out.1 0 rfl rfl rfl rfl Try.sizeOf77 rfl (Nat.le_of_ble_eq_true rfl)) ?_
      have H14 : Hid (Mm (w13.setCells γ2_0 0 (tr ((twT p (mt p X Y Z (n / 2 ^ (j + 1)))).1) ((twT p (mt p X Y Z (n / 2 ^ (j + 1)))).2.1) ((twT p (mt p X Y Z (n / 2 ^ (j + 1)))).2.2))) [(γ2_0, tr ((twT p (mt p X Y Z (n / 2 ^ (j + 1)))).1) ((twT p (mt p X Y Z (n / 2 ^ (j + 1)))).2.1) ((twT p (mt p X Y Z (n / 2 ^ (j + 1)))).2.2)), (γ1_0, kd p r c gx gy), (γ1_1, pt X Y Z), (γ1_2, tr 0 0 0)] ∧ Below w.heap.size w (w13.setCells γ2_0 0 (tr ((twT p (mt p X Y Z (n / 2 ^ (j + 1)))).1) ((twT p (mt p X Y Z (n / 2 ^ (j + 1)))).2.1) ((twT p (mt p X Y Z (n / 2 ^ (j + 1)))).2.2)))) := ⟨H13.out.1.put 0 (off := 0) (vs := tr ((twT p (mt p X Y Z (n / 2 ^ (j + 1)))).1) ((twT p (mt p X Y Z (n / 2 ^ (j + 1)))).2.1) ((twT p (mt p X Y Z (n / 2 ^ (j + 1)))).2.2)) rfl (Nat.le_of_ble_eq_true rfl), below_setCells _ o2_0.out _ _ _ H13.out.2⟩
      clear H13
      generalize hgw : World.setCells _ _ _ _ = w14 at H14 ⊢
      clear hgw
      refine rest_nil (then_normal (wp_seq ?_))
      refine walk_seqB 5 [.quiet (U n), .quiet (.int .i64 ((j : Nat) : Int)), .quiet (U (n / 2 ^ j)), .quiet (U (n / 2 ^ j % 2)), .quiet (.bool false)] H14 ?ho11 ?he11
      case ho11 => exact ak (fun _ => ⟨rfl, fun _ _ => rfl⟩) (ak (fun _ => ⟨rfl, fun _ _ => rfl⟩) (ak (fun γ => ⟨rfl, fun w' _ => ex_shrU (by omega) rfl rfl rfl⟩) (ak (fun γ => ⟨rfl, fun w' _ => ex_and1 rfl (Nat.lt_of_le_of_lt (Nat.div_le_self _ _) hn) rfl rfl⟩) (ak (fun γ => ⟨rfl, fun w' _ => ex_eqU rfl rfl rfl (decide_eq_false (hb))⟩) trivial))))
      intro _ w15 H15
      clear H14
      refine rest0 rfl (then_normal (wp_cond_false rfl ?_))
      refine wp_skip (block_normal (then_normal ?_))
      refine walk_seqB 2 [.quiet (.int .i64 ((j : Nat) : Int)), .quiet (.int .i64 (((j : Nat) : Int) - 1))] H15 ?ho12 ?he12
      case ho12 => exact ak (fun _ => ⟨rfl, fun _ _ => rfl⟩) (ak (by refine fun γ => ⟨rfl, fun w' h => ?_⟩; clear h; go_simp; rw [IntKind.wrap_i64]; omega) trivial)
      intro _ w16 H16
      clear H15
      refine rest_at (l := [2]) rfl ?_
      refine rest_set (d := 8) rfl rfl rfl rfl ?_
      simp only [Act.put, sa, sz, ss]
      refine rest_nil (then_normal ?_)
      exact ⟨j, ⟨(slotfn [undef, undef, undef, undef, undef, undef, undef, undef, undef, undef, undef, undef, .int .i64 ((j : Nat) : Int), .bool true, .int .i64 ((j : Nat) : Int), .int .i64 (((j : Nat) : Int) - 1), .tuple #[.agg (tr ((twT p (mt p X Y Z (n / 2 ^ (j + 1)))).1) ((twT p (mt p X Y Z (n / 2 ^ (j + 1)))).2.1) ((twT p (mt p X Y Z (n / 2 ^ (j + 1)))).2.2)).toArray, U (tR p (mt p X Y Z (n / 2 ^ (j + 1))).1 (mt p X Y Z (n / 2 ^ (j + 1))).2.2)], .agg (kd p r c gx gy).toArray, .agg (tc (mt p X Y Z (n / 2 ^ (j + 1)))).toArray, .tuple #[.agg (tr ((twT p (mt p X Y Z (n / 2 ^ (j + 1)))).1) ((twT p (mt p X Y Z (n / 2 ^ (j + 1)))).2.1) ((twT p (mt p X Y Z (n / 2 ^ (j + 1)))).2.2)).toArray, U (tR p (mt p X Y Z (n / 2 ^ (j + 1))).1 (mt p X Y Z (n / 2 ^ (j + 1))).2.2)], .agg (tr ((twT p (mt p X Y Z (n / 2 ^ (j + 1)))).1) ((twT p (mt p X Y Z (n / 2 ^ (j + 1)))).2.1) ((twT p (mt p X Y Z (n / 2 ^ (j + 1)))).2.2)).toArray, U (tR p (mt p X Y Z (n / 2 ^ (j + 1))).1 (mt p X Y Z (n / 2 ^ (j + 1))).2.2), U n, .int .i64 ((j : Nat) : Int), U (n / 2 ^ j), U (n / 2 ^ j % 2), .bool false, s0 27, s0 28, s0 29, s0 30, s0 31, s0 32, s0 33]), rfl, ⟨by rw [mt_bit X Y Z n j hn, if_neg hb]; exact H16.out.1, H16.out.2⟩, by omega⟩, by omega⟩
  have hk : k = 0 := by omega
  subst hk
  refine wp_seq (wp_seq ?_)
  refine walk_seqB 2 [.quiet (.int .i64 (((0 : Nat) : Int) - 1)), .quiet (.bool false)] H4 ?ho13 ?he13
  case ho13 => exact ak (fun _ => ⟨rfl, fun _ _ => rfl⟩) (ak (by refine fun γ => ⟨rfl, fun w' h => ?_⟩; clear h; go_simp) trivial)
  intro _ w17 H17
  clear H4
  refine rest0 rfl (then_normal (wp_cond_false rfl ?_))
  refine wp_exit ?_
  repeat refine then_exit ?_
  refine block_exit ?_
  refine then_normal (wp_seq ?_)
  refine walk_seqB 1 [.quiet (.agg (tc (mt p X Y Z (n / 2 ^ 0))).toArray)] H17 ?ho14 ?he14
  case ho14 => exact ak (fun γ => ⟨rfl, fun w' h => ex_loadT h 0 rfl rfl rfl Try.isAgg77 Try.sizeOf77 rfl rfl⟩) trivial
  intro _ w18 H18
  clear H17
  refine rest_at (l := [1]) rfl ?_
  refine rest_store rfl rfl rfl (ex_storeT (vs := tc (mt p X Y Z (n / 2 ^ 0))) H18.out.1 3 rfl rfl rfl rfl Try.sizeOf77 rfl (Nat.le_of_ble_eq_true rfl)) ?_
  have H19 : Hid (Mm (w18.setCells γ1_2 0 (tc (mt p X Y Z (n / 2 ^ 0)))) [(γ2_0, tc (mt p X Y Z (n / 2 ^ 0))), (γ1_0, kd p r c gx gy), (γ1_1, pt X Y Z), (γ1_2, tc (mt p X Y Z (n / 2 ^ 0)))] ∧ Below w.heap.size w (w18.setCells γ1_2 0 (tc (mt p X Y Z (n / 2 ^ 0))))) := ⟨H18.out.1.put 3 (off := 0) (vs := tc (mt p X Y Z (n / 2 ^ 0))) rfl (Nat.le_of_ble_eq_true rfl), below_setCells _ o1_2.out _ _ _ H18.out.2⟩
  clear H18
  generalize hgw : World.setCells _ _ _ _ = w19 at H19 ⊢
  clear hgw
  refine rest_nil (then_normal (wp_ret ?_))
  repeat (first | refine then_ret ?_ | refine block_ret ?_)
  have hf0 := var_T H19.out.1 3 rfl Try.isAgg77 Try.sizeOf77 rfl
  refine bodyPost_ret (v := .agg (tc (mt p X Y Z (n / 2 ^ 0))).toArray) (by simp [results, Try.results47, asAddr, hf0]) rfl ?_
  exact ⟨by rw [Nat.pow_zero, Nat.div_one], H19.out.2⟩
theorem oc_lt {p X Y : Nat} {Z : Bool} (hp : Pr p) (h : oc p X Y Z = true) : X < p ∧ Y < p := by
  unfold oc at h
  split at h
  · simp at h
    rw [h.1, h.2]
    exact ⟨zero_lt hp, zero_lt hp⟩
  · simp at h
    exact ⟨h.1, h.2.1⟩
theorem on_is (hp : Pr p) (X Y : Nat) (Z t : Bool) (h : oc p X Y Z = t) (w : World) : Calls Try.prog 50 #[.agg (kd p r c gx gy).toArray, .agg (pt X Y Z).toArray] w fun e w' => e = .returned (.bool t) ∧ Below w.heap.size w w' := by
  rw [← h]
  exact onCurve_any hp X Y Z w
set_option maxRecDepth 100000 in
theorem in_no (hp : Pr p) (X Y : Nat) (Z : Bool) (hoc : oc p X Y Z = false) (w : World) :
    Calls Try.prog 51 #[.agg (kd p r c gx gy).toArray, .agg (pt X Y Z).toArray] w fun e w' => e = .returned (.bool false) ∧ Below w.heap.size w w' := by
  have H0 : Hid (_ ∧ _) := ⟨Mm.nil w, Below.refl w.heap.size w⟩
  go_enter Try.func51, Try.ntmps51
  refine wp_seq ?_
  refine walk_seqA 3 [.made (kd p r c gx gy) 72, .made (pt X Y Z) 25, .quiet (.bool false)] (sB H0) ?ho1 ?he1
  case ho1 => exact ak (fun γ => ⟨rfl, fun w' => ex_boxT rfl rfl⟩) (ak (fun γ => ⟨rfl, fun w' => ex_boxT rfl rfl⟩) (ak (fun _ => ⟨rfl, fun _ _ => rfl⟩) trivial))
  intro γ w1 l hM hl
  have H1 : Hid (Mm w1 [(γ 0, kd p r c gx gy), (γ 1, pt X Y Z)] ∧ _) := growB H0 hM (Nat.le_refl _) hl [0, 1] rfl (by decide)
  have o1_0 := ownB H0 hM (Nat.le_refl _) hl (i := 0) rfl
  have o1_1 := ownB H0 hM (Nat.le_refl _) hl (i := 1) rfl
  clear hM hl l
  generalize γ 0 = γ1_0 at H1 o1_0 ⊢
  generalize γ 1 = γ1_1 at H1 o1_1 ⊢
  clear γ
  refine rest0 rfl (then_normal (wp_seq ?_))
  refine walk_seqB 13 [.quiet (.agg (kd p r c gx gy).toArray), .quiet (.agg (pt X Y Z).toArray), .call (.bool false), .quiet (.bool false), .gone, .gone, .gone, .gone, .gone, .gone, .gone, .quiet (.bool false), .quiet (.bool false)] H1 ?ho2 ?he2
  case ho2 => exact ak (fun γ => ⟨rfl, fun w' h => ex_loadT h 0 rfl rfl rfl Try.isAgg72 Try.sizeOf72 rfl rfl⟩) (ak (fun γ => ⟨rfl, fun w' h => ex_loadT h 1 rfl rfl rfl Try.isAgg25 Try.sizeOf25 rfl rfl⟩) (ak (fun γ => ⟨rfl, fun w' h => ⟨50, #[.agg (kd p r c gx gy).toArray, .agg (pt X Y Z).toArray], exec_call rfl call50 rfl (mpn rfl), on_is hp X Y Z _ hoc w'⟩⟩) (ak (fun _ => ⟨rfl, fun _ _ => rfl⟩) (ak (fun γ => rfl) (ak (fun γ => rfl) (ak (fun γ => rfl) (ak (fun γ => rfl) (ak (fun γ => rfl) (ak (fun γ => rfl) (ak (fun γ => rfl) (ak (by refine fun γ => ⟨rfl, fun w' h => ?_⟩; clear h; go_simp) (ak (fun _ => ⟨rfl, fun _ _ => rfl⟩) trivial))))))))))))
  intro _ w2 H2
  clear H1
  refine rest0 rfl (then_normal (wp_ret ?_))
  repeat (first | refine then_ret ?_ | refine block_ret ?_)
  refine bodyPost_ret (v := .bool false) (by simp [results, Try.results51, go_sem, *]) rfl ?_
  exact ⟨rfl, H2.out.2⟩
set_option maxRecDepth 100000 in
theorem in_yes (hp : Pr p) (X Y : Nat) (Z : Bool) (hoc : oc p X Y Z = true) (hr : r < 18446744073709551616) (w : World) :
    Calls Try.prog 51 #[.agg (kd p r c gx gy).toArray, .agg (pt X Y Z).toArray] w fun e w' => e = .returned (.bool (decide ((mt p X Y Z r).2.2 = 0))) ∧ Below w.heap.size w w' := by
  have H0 : Hid (_ ∧ _) := ⟨Mm.nil w, Below.refl w.heap.size w⟩
  go_enter Try.func51, Try.ntmps51
  refine wp_seq ?_
  refine walk_seqA 3 [.made (kd p r c gx gy) 72, .made (pt X Y Z) 25, .quiet (.bool false)] (sB H0) ?ho1 ?he1
  case ho1 => exact ak (fun γ => ⟨rfl, fun w' => ex_boxT rfl rfl⟩) (ak (fun γ => ⟨rfl, fun w' => ex_boxT rfl rfl⟩) (ak (fun _ => ⟨rfl, fun _ _ => rfl⟩) trivial))
  intro γ w1 l hM hl
  have H1 : Hid (Mm w1 [(γ 0, kd p r c gx gy), (γ 1, pt X Y Z)] ∧ _) := growB H0 hM (Nat.le_refl _) hl [0, 1] rfl (by decide)
  have o1_0 := ownB H0 hM (Nat.le_refl _) hl (i := 0) rfl
  have o1_1 := ownB H0 hM (Nat.le_refl _) hl (i := 1) rfl
  clear hM hl l
  generalize γ 0 = γ1_0 at H1 o1_0 ⊢
  generalize γ 1 = γ1_1 at H1 o1_1 ⊢
  clear γ
  refine rest0 rfl (then_normal (wp_seq ?_))
  refine walk_seqB 13 [.quiet (.agg (kd p r c gx gy).toArray), .quiet (.agg (pt X Y Z).toArray), .call (.bool true), .quiet (.bool true), .quiet (.agg (kd p r c gx gy).toArray), .quiet (.agg (pt X Y Z).toArray), .quiet (PT γ1_0 1), .quiet (U r), .call (.agg (tr ((mt p X Y Z r).1) ((mt p X Y Z r).2.1) ((mt p X Y Z r).2.2)).toArray), .quiet (U ((mt p X Y Z r).2.2)), .quiet (.bool (decide ((mt p X Y Z r).2.2 = 0))), .quiet (.bool (decide ((mt p X Y Z r).2.2 = 0))), .quiet (.bool (decide ((mt p X Y Z r).2.2 = 0)))] H1 ?ho2 ?he2
  case ho2 => exact ak (fun γ => ⟨rfl, fun w' h => ex_loadT h 0 rfl rfl rfl Try.isAgg72 Try.sizeOf72 rfl rfl⟩) (ak (fun γ => ⟨rfl, fun w' h => ex_loadT h 1 rfl rfl rfl Try.isAgg25 Try.sizeOf25 rfl rfl⟩) (ak (fun γ => ⟨rfl, fun w' h => ⟨50, #[.agg (kd p r c gx gy).toArray, .agg (pt X Y Z).toArray], exec_call rfl call50 rfl (mpn rfl), on_is hp X Y Z _ hoc w'⟩⟩) (ak (fun _ => ⟨rfl, fun _ _ => rfl⟩) (ak (fun γ => ⟨rfl, fun w' h => ex_loadT h 0 rfl rfl rfl Try.isAgg72 Try.sizeOf72 rfl rfl⟩) (ak (fun γ => ⟨rfl, fun w' h => ex_loadT h 1 rfl rfl rfl Try.isAgg25 Try.sizeOf25 rfl rfl⟩) (ak (by refine fun γ => ⟨rfl, fun w' h => ?_⟩; clear h; go_simp) (ak (fun γ => ⟨rfl, fun w' h => ex_loadC h 0 rfl rfl rfl Try.isAgg23 rfl⟩) (ak (fun γ => ⟨rfl, fun w' h => ⟨47, #[.agg (kd p r c gx gy).toArray, .agg (pt X Y Z).toArray, U r], exec_call rfl call47 rfl (mpn rfl), multiple_any hp X Y Z (oc_lt hp hoc).1 (oc_lt hp hoc).2 r hr w'⟩⟩) (ak (fun γ => ⟨rfl, fun w' _ => ex_field77_2 rfl rfl rfl⟩) (ak (fun γ => ⟨rfl, fun w' _ => ex_eqU rfl rfl rfl rfl⟩) (ak (by refine fun γ => ⟨rfl, fun w' h => ?_⟩; clear h; go_simp) (ak (fun _ => ⟨rfl, fun _ _ => rfl⟩) trivial))))))))))))
  intro _ w2 H2
  clear H1
  refine rest0 rfl (then_normal (wp_ret ?_))
  repeat (first | refine then_ret ?_ | refine block_ret ?_)
  refine bodyPost_ret (v := .bool (decide ((mt p X Y Z r).2.2 = 0))) (by simp [results, Try.results51, go_sem, *]) rfl ?_
  exact ⟨rfl, H2.out.2⟩
theorem inGroup_any (hp : Pr p) (hr : r < 18446744073709551616) (X Y : Nat) (Z : Bool) (w : World) : Calls Try.prog 51 #[.agg (kd p r c gx gy).toArray, .agg (pt X Y Z).toArray] w fun e w' => e = .returned (.bool (ig p r X Y Z)) ∧ Below w.heap.size w w' := by
  unfold ig
  cases h : oc p X Y Z
  · exact in_no hp X Y Z h w
  · exact in_yes hp X Y Z h hr w
end
end Rg
end Go.Proofs.Ytjmbgchoioepjaa
end
section
namespace Go.Proofs.Ytjmbgchoioepjaa
open Go.RowKit
namespace Rg
section
variable {P : Program} {ops : Array Oper} {ks : List Kind} {a₀ : Act} {w₀ : World} {Q : Exit → Act → World → Prop}
end
end Rg
end Go.Proofs.Ytjmbgchoioepjaa
end
section
namespace Go.Proofs.Ytjmbgchoioepjaa
open Go.RowKit
namespace Rg
/-- Two points' cells. -/
abbrev p2 (a b : Nat) (z : Bool) (a' b' : Nat) (z' : Bool) : List Value := [U a, U b, .bool z, U a', U b', .bool z']
theorem rounds_in {P : Program} {c : Code} {Q : Exit → Act → World → Prop} {n : Nat} {a : Act} {w : World} (h : c.wp P (Exit.then (Code.rounds P c Q n) Q) a w) : Code.rounds P c Q (n + 1) a w := h
theorem ex_bs1 {ρ : Operand → Value} {o : Oper} {x : Operand} {a b : Nat} {z : Bool} {w : World} (ho : o.op = .buildSlice 92 1 #[(0, x)]) (hx : ρ x = V (pt a b z)) :
    (execOp ρ o).run Try.prog w = .ok (.value (.slice (some ⟨w.heap.size, 0, none⟩) 1 1)) (w.alloc (.cells (pt a b z).toArray 25)) := by
  simp only [execOp, ho, List.map_toArray, List.map_cons, List.map_nil, hx]
  kernel_rfl
/-- What a suite is. -/
structure Kd (s : Int) (p r c gx gy : Nat) : Prop where
  pr : Pr p
  rb : r < 18446744073709551616
  cb : c < 18446744073709551616
  kind : ∀ w, Calls Try.prog 42 #[.int .i64 s] w fun e w' => e = .returned (.tuple #[V (kd p r c gx gy), .int .i64 0]) ∧ Below w.heap.size w w'
theorem kd_1 : Kd 1 786251 65521 12 9723 164643 := ⟨⟨by decide, by decide⟩, by decide, by decide, kindOf_1⟩
theorem kd_2 : Kd 2 1152921504606846223 72057594037927889 16 613740293506734924 666621259561003659 := ⟨⟨by decide, by decide⟩, by decide, by decide, kindOf_2⟩
theorem tO_lt {p X Y : Nat} {Z : Bool} (hp : Pr p) (hX : X < p) (hY : Y < p) : Lt3 p (tO X Y Z) := by
  unfold tO
  split
  · exact ⟨zero_lt hp, zero_lt hp, zero_lt hp⟩
  · exact ⟨hX, hY, one_lt hp⟩
theorem call42 : ∀ args w, (callFunc 42 args).run Try.prog w = .ok (.enter 42 args) w := by intro args w; go_simp
theorem call43 : ∀ args w, (callFunc 43 args).run Try.prog w = .ok (.enter 43 args) w := by intro args w; go_simp
theorem call51 : ∀ args w, (callFunc 51 args).run Try.prog w = .ok (.enter 51 args) w := by intro args w; go_simp
section
variable {s : Int} {p r c gx gy : Nat}
set_option maxHeartbeats 1000000 in
set_option maxRecDepth 100000 in
theorem kw1_ok (k : Kd s p r c gx gy) (X Y : Nat) (Z : Bool) (h1 : oc p X Y Z = true) (g : Nat) (w : World) (hm : Mm w [(g, pt X Y Z)]) :
    Calls Try.prog 43 #[.int .i64 s, .slice (some ⟨g, 0, none⟩) 1 1] w fun e w' => e = .returned (.tuple #[V (kd p r c gx gy), .int .i64 0]) ∧ Below w.heap.size w w' := by
  have H0 : Hid (_ ∧ _) := ⟨hm, Below.refl w.heap.size w⟩
  clear hm
  go_enter Try.func43, Try.ntmps43
  refine wp_seq ?_
  refine walk_seqA 2 [.made (kd 0 0 0 0 0) 72, .quiet (.int .i64 0)] (sB H0) ?ho1 ?he1
  case ho1 => exact ak (fun γ => ⟨rfl, fun w' => ex_made72 rfl⟩) (ak (fun _ => ⟨rfl, fun _ _ => rfl⟩) trivial)
  intro γ w1 l hM hl
  have H1 : Hid (Mm w1 [(γ 0, kd 0 0 0 0 0), (g, pt X Y Z)] ∧ _) := growB H0 hM (Nat.le_refl _) hl [0] rfl (by decide)
  have o1_0 := ownB H0 hM (Nat.le_refl _) hl (i := 0) rfl
  clear hM hl l
  generalize γ 0 = γ1_0 at H1 o1_0 ⊢
  clear γ
  refine rest0 rfl (then_normal (wp_seq ?_))
  refine walk_seqA 8 [.quiet (.int .i64 s), .call (.tuple #[.agg (kd p r c gx gy).toArray, .int .i64 0]), .quiet (.tuple #[.agg (kd p r c gx gy).toArray, .int .i64 0]), .quiet (.agg (kd p r c gx gy).toArray), .quiet (.int .i64 0), .made (kd 0 0 0 0 0) 72, .laid 5 (kd 0 0 0 0 0) (kd p r c gx gy), .quiet (.int .i64 0)] (sB H1) ?ho2 ?he2 (hL := ?hL2)
  case hL2 => exact ⟨⟨_, rfl⟩, trivial⟩
  case ho2 => exact ak (fun _ => ⟨rfl, fun _ _ => rfl⟩) (ak (fun γ => ⟨rfl, fun w' h => ⟨42, #[.int .i64 s], exec_call rfl call42 rfl (mpn rfl), k.kind w'⟩⟩) (ak (fun _ => ⟨rfl, fun _ _ => rfl⟩) (ak (by refine fun γ => ⟨rfl, fun w' h => ?_⟩; clear h; go_simp) (ak (by refine fun γ => ⟨rfl, fun w' h => ?_⟩; clear h; go_simp) (ak (fun γ => ⟨rfl, fun w' => ex_made72 rfl⟩) (ak (fun γ => ⟨rfl, rfl, rfl, fun w' h => ex_laidT h rfl rfl Try.sizeOf72 rfl rfl rfl⟩) (ak (fun _ => ⟨rfl, fun _ _ => rfl⟩) trivial)))))))
  intro γ w2 l hM hl
  have H2 : Hid (Mm w2 [(γ 5, kd p r c gx gy), (γ1_0, kd 0 0 0 0 0), (g, pt X Y Z)] ∧ _) := growB H1 hM (Nat.le_refl _) hl [5] rfl (by decide)
  have o2_5 := ownB H1 hM (Nat.le_refl _) hl (i := 5) rfl
  clear hM hl l H1
  generalize γ 5 = γ2_5 at H2 o2_5 ⊢
  clear γ
  refine rest0 rfl (then_normal (wp_seq (wp_seq ?_)))
  refine walk_seqB 2 [.quiet (.int .i64 0), .quiet (.bool false)] H2 ?ho3 ?he3
  case ho3 => exact ak (fun _ => ⟨rfl, fun _ _ => rfl⟩) (ak (by refine fun γ => ⟨rfl, fun w' h => ?_⟩; clear h; go_simp) trivial)
  intro _ w3 H3
  clear H2
  refine rest0 rfl (then_normal (wp_cond_false rfl ?_))
  refine wp_skip (then_normal ?_)
  refine wp_seq (wp_seq ?_)
  refine walk_seqB 3 [.quiet (.slice (some ⟨g, 0, none⟩) 1 1), .quiet (.int .i64 1), .quiet (.int .i64 0)] H3 ?ho4 ?he4
  case ho4 => exact ak (fun _ => ⟨rfl, fun _ _ => rfl⟩) (ak (by refine fun γ => ⟨rfl, fun w' h => ?_⟩; clear h; go_simp) (ak (fun _ => ⟨rfl, fun _ _ => rfl⟩) trivial))
  intro _ w4 H4
  clear H3
  refine rest0 rfl (then_normal (wp_block ?_))
  refine wp_loop_rounds 2 ?_
  refine rounds_in (n := 1) ?_
  refine wp_seq ?_
  refine walk_seqB 1 [.quiet (.bool true)] H4 ?ho5 ?he5
  case ho5 => exact ak (by refine fun γ => ⟨rfl, fun w' h => ?_⟩; clear h; go_simp) trivial
  intro _ w5 H5
  clear H4
  refine rest0 rfl (then_normal (wp_seq ?_))
  refine wp_cond_true rfl (wp_skip ?_)
  refine then_normal (wp_seq ?_)
  refine wp_block (wp_seq ?_)
  refine walk_seqA 4 [.quiet (PT g 0), .quiet (.agg (pt X Y Z).toArray), .made (pt 0 0 false) 25, .laid 2 (pt 0 0 false) (pt X Y Z)] (sB H5) ?ho6 ?he6 (hL := ?hL6)
  case hL6 => exact ⟨⟨_, rfl⟩, trivial⟩
  case ho6 => exact ak (by refine fun γ => ⟨rfl, fun w' h => ?_⟩; clear h; go_simp) (ak (fun γ => ⟨rfl, fun w' h => ex_loadT h 2 rfl rfl rfl Try.isAgg25 Try.sizeOf25 rfl rfl⟩) (ak (fun γ => ⟨rfl, fun w' => ex_made25 rfl⟩) (ak (fun γ => ⟨rfl, rfl, rfl, fun w' h => ex_laidT h rfl rfl Try.sizeOf25 rfl rfl rfl⟩) trivial)))
  intro γ w6 l hM hl
  have H6 : Hid (Mm w6 [(γ 2, pt X Y Z), (γ2_5, kd p r c gx gy), (γ1_0, kd 0 0 0 0 0), (g, pt X Y Z)] ∧ _) := growB H5 hM (Nat.le_refl _) hl [2] rfl (by decide)
  have o6_2 := ownB H5 hM (Nat.le_refl _) hl (i := 2) rfl
  clear hM hl l H5
  generalize γ 2 = γ6_2 at H6 o6_2 ⊢
  clear γ
  refine rest0 rfl (then_normal (wp_seq ?_))
  refine walk_seqB 4 [.quiet (.agg (kd p r c gx gy).toArray), .quiet (.agg (pt X Y Z).toArray), .call (.bool true), .quiet (.bool false)] H6 ?ho7 ?he7
  case ho7 => exact ak (fun γ => ⟨rfl, fun w' h => ex_loadT h 1 rfl rfl rfl Try.isAgg72 Try.sizeOf72 rfl rfl⟩) (ak (fun γ => ⟨rfl, fun w' h => ex_loadT h 0 rfl rfl rfl Try.isAgg25 Try.sizeOf25 rfl rfl⟩) (ak (fun γ => ⟨rfl, fun w' h => ⟨50, #[.agg (kd p r c gx gy).toArray, .agg (pt X Y Z).toArray], exec_call rfl call50 rfl (mpn rfl), on_is k.pr X Y Z _ h1 w'⟩⟩) (ak (by refine fun γ => ⟨rfl, fun w' h => ?_⟩; clear h; go_simp) trivial)))
  intro _ w7 H7
  clear H6
  refine rest0 rfl (then_normal (wp_cond_false rfl ?_))
  refine wp_skip (block_normal (then_normal ?_))
  refine walk_seqB 1 [.quiet (.int .i64 1)] H7 ?ho8 ?he8
  case ho8 => exact ak (fun γ => ⟨rfl, fun w' _ => by kernel_rfl⟩) trivial
  intro _ w8 H8
  clear H7
  refine rest_at (l := [1]) rfl ?_
  refine rest_set (d := 21) rfl rfl rfl rfl ?_
  simp only [Act.put, sa, sz, ss]
  refine rest_nil (then_normal ?_)
  refine rounds_in (n := 0) ?_
  refine wp_seq ?_
  refine walk_seqB 1 [.quiet (.bool false)] H8 ?ho9 ?he9
  case ho9 => exact ak (by refine fun γ => ⟨rfl, fun w' h => ?_⟩; clear h; go_simp) trivial
  intro _ w9 H9
  clear H8
  refine rest0 rfl (then_normal (wp_seq (wp_cond_false rfl ?_)))
  refine wp_exit ?_
  repeat refine then_exit ?_
  refine block_exit ?_
  refine then_normal (wp_seq ?_)
  refine walk_seqB 1 [.quiet (.agg (kd p r c gx gy).toArray)] H9 ?ho10 ?he10
  case ho10 => exact ak (fun γ => ⟨rfl, fun w' h => ex_loadT h 1 rfl rfl rfl Try.isAgg72 Try.sizeOf72 rfl rfl⟩) trivial
  intro _ w10 H10
  clear H9
  refine rest_at (l := [1, 2]) rfl ?_
  refine rest_store rfl rfl rfl (ex_storeT (vs := kd p r c gx gy) H10.out.1 2 rfl rfl rfl rfl Try.sizeOf72 rfl (Nat.le_of_ble_eq_true rfl)) ?_
  have H11 : Hid (Mm (w10.setCells γ1_0 0 (kd p r c gx gy)) [(γ6_2, pt X Y Z), (γ2_5, kd p r c gx gy), (γ1_0, kd p r c gx gy), (g, pt X Y Z)] ∧ Below w.heap.size w (w10.setCells γ1_0 0 (kd p r c gx gy))) := ⟨H10.out.1.put 2 (off := 0) (vs := kd p r c gx gy) rfl (Nat.le_of_ble_eq_true rfl), below_setCells _ o1_0.out _ _ _ H10.out.2⟩
  clear H10
  generalize hgw : World.setCells _ _ _ _ = w11 at H11 ⊢
  clear hgw
  refine rest_set (d := 5) rfl rfl rfl rfl ?_
  simp only [Act.put, sa, sz, ss]
  refine rest_nil (then_normal (wp_ret ?_))
  repeat (first | refine then_ret ?_ | refine block_ret ?_)
  have hf0 := var_T H11.out.1 2 rfl Try.isAgg72 Try.sizeOf72 rfl
  refine bodyPost_ret (v := .tuple #[.agg (kd p r c gx gy).toArray, .int .i64 0]) (by simp [results, Try.results43, asAddr, Act.eval, hf0]) rfl ?_
  exact ⟨rfl, H11.out.2⟩
set_option maxHeartbeats 1000000 in
set_option maxRecDepth 100000 in
theorem kw1_no (k : Kd s p r c gx gy) (X Y : Nat) (Z : Bool) (h1 : oc p X Y Z = false) (g : Nat) (w : World) (hm : Mm w [(g, pt X Y Z)]) :
    Calls Try.prog 43 #[.int .i64 s, .slice (some ⟨g, 0, none⟩) 1 1] w fun e w' => e = .returned (.tuple #[V (kd 0 0 0 0 0), .int .i64 5]) ∧ Below w.heap.size w w' := by
  have H0 : Hid (_ ∧ _) := ⟨hm, Below.refl w.heap.size w⟩
  clear hm
  go_enter Try.func43, Try.ntmps43
  refine wp_seq ?_
  refine walk_seqA 2 [.made (kd 0 0 0 0 0) 72, .quiet (.int .i64 0)] (sB H0) ?ho1 ?he1
  case ho1 => exact ak (fun γ => ⟨rfl, fun w' => ex_made72 rfl⟩) (ak (fun _ => ⟨rfl, fun _ _ => rfl⟩) trivial)
  intro γ w1 l hM hl
  have H1 : Hid (Mm w1 [(γ 0, kd 0 0 0 0 0), (g, pt X Y Z)] ∧ _) := growB H0 hM (Nat.le_refl _) hl [0] rfl (by decide)
  have o1_0 := ownB H0 hM (Nat.le_refl _) hl (i := 0) rfl
  clear hM hl l
  generalize γ 0 = γ1_0 at H1 o1_0 ⊢
  clear γ
  refine rest0 rfl (then_normal (wp_seq ?_))
  refine walk_seqA 8 [.quiet (.int .i64 s), .call (.tuple #[.agg (kd p r c gx gy).toArray, .int .i64 0]), .quiet (.tuple #[.agg (kd p r c gx gy).toArray, .int .i64 0]), .quiet (.agg (kd p r c gx gy).toArray), .quiet (.int .i64 0), .made (kd 0 0 0 0 0) 72, .laid 5 (kd 0 0 0 0 0) (kd p r c gx gy), .quiet (.int .i64 0)] (sB H1) ?ho2 ?he2 (hL := ?hL2)
  case hL2 => exact ⟨⟨_, rfl⟩, trivial⟩
  case ho2 => exact ak (fun _ => ⟨rfl, fun _ _ => rfl⟩) (ak (fun γ => ⟨rfl, fun w' h => ⟨42, #[.int .i64 s], exec_call rfl call42 rfl (mpn rfl), k.kind w'⟩⟩) (ak (fun _ => ⟨rfl, fun _ _ => rfl⟩) (ak (by refine fun γ => ⟨rfl, fun w' h => ?_⟩; clear h; go_simp) (ak (by refine fun γ => ⟨rfl, fun w' h => ?_⟩; clear h; go_simp) (ak (fun γ => ⟨rfl, fun w' => ex_made72 rfl⟩) (ak (fun γ => ⟨rfl, rfl, rfl, fun w' h => ex_laidT h rfl rfl Try.sizeOf72 rfl rfl rfl⟩) (ak (fun _ => ⟨rfl, fun _ _ => rfl⟩) trivial)))))))
  intro γ w2 l hM hl
  have H2 : Hid (Mm w2 [(γ 5, kd p r c gx gy), (γ1_0, kd 0 0 0 0 0), (g, pt X Y Z)] ∧ _) := growB H1 hM (Nat.le_refl _) hl [5] rfl (by decide)
  have o2_5 := ownB H1 hM (Nat.le_refl _) hl (i := 5) rfl
  clear hM hl l H1
  generalize γ 5 = γ2_5 at H2 o2_5 ⊢
  clear γ
  refine rest0 rfl (then_normal (wp_seq (wp_seq ?_)))
  refine walk_seqB 2 [.quiet (.int .i64 0), .quiet (.bool false)] H2 ?ho3 ?he3
  case ho3 => exact ak (fun _ => ⟨rfl, fun _ _ => rfl⟩) (ak (by refine fun γ => ⟨rfl, fun w' h => ?_⟩; clear h; go_simp) trivial)
  intro _ w3 H3
  clear H2
  refine rest0 rfl (then_normal (wp_cond_false rfl ?_))
  refine wp_skip (then_normal ?_)
  refine wp_seq (wp_seq ?_)
  refine walk_seqB 3 [.quiet (.slice (some ⟨g, 0, none⟩) 1 1), .quiet (.int .i64 1), .quiet (.int .i64 0)] H3 ?ho4 ?he4
  case ho4 => exact ak (fun _ => ⟨rfl, fun _ _ => rfl⟩) (ak (by refine fun γ => ⟨rfl, fun w' h => ?_⟩; clear h; go_simp) (ak (fun _ => ⟨rfl, fun _ _ => rfl⟩) trivial))
  intro _ w4 H4
  clear H3
  refine rest0 rfl (then_normal (wp_block ?_))
  refine wp_loop_rounds 2 ?_
  refine rounds_in (n := 1) ?_
  refine wp_seq ?_
  refine walk_seqB 1 [.quiet (.bool true)] H4 ?ho5 ?he5
  case ho5 => exact ak (by refine fun γ => ⟨rfl, fun w' h => ?_⟩; clear h; go_simp) trivial
  intro _ w5 H5
  clear H4
  refine rest0 rfl (then_normal (wp_seq ?_))
  refine wp_cond_true rfl (wp_skip ?_)
  refine then_normal (wp_seq ?_)
  refine wp_block (wp_seq ?_)
  refine walk_seqA 4 [.quiet (PT g 0), .quiet (.agg (pt X Y Z).toArray), .made (pt 0 0 false) 25, .laid 2 (pt 0 0 false) (pt X Y Z)] (sB H5) ?ho6 ?he6 (hL := ?hL6)
  case hL6 => exact ⟨⟨_, rfl⟩, trivial⟩
  case ho6 => exact ak (by refine fun γ => ⟨rfl, fun w' h => ?_⟩; clear h; go_simp) (ak (fun γ => ⟨rfl, fun w' h => ex_loadT h 2 rfl rfl rfl Try.isAgg25 Try.sizeOf25 rfl rfl⟩) (ak (fun γ => ⟨rfl, fun w' => ex_made25 rfl⟩) (ak (fun γ => ⟨rfl, rfl, rfl, fun w' h => ex_laidT h rfl rfl Try.sizeOf25 rfl rfl rfl⟩) trivial)))
  intro γ w6 l hM hl
  have H6 : Hid (Mm w6 [(γ 2, pt X Y Z), (γ2_5, kd p r c gx gy), (γ1_0, kd 0 0 0 0 0), (g, pt X Y Z)] ∧ _) := growB H5 hM (Nat.le_refl _) hl [2] rfl (by decide)
  have o6_2 := ownB H5 hM (Nat.le_refl _) hl (i := 2) rfl
  clear hM hl l H5
  generalize γ 2 = γ6_2 at H6 o6_2 ⊢
  clear γ
  refine rest0 rfl (then_normal (wp_seq ?_))
  refine walk_seqB 4 [.quiet (.agg (kd p r c gx gy).toArray), .quiet (.agg (pt X Y Z).toArray), .call (.bool false), .quiet (.bool true)] H6 ?ho7 ?he7
  case ho7 => exact ak (fun γ => ⟨rfl, fun w' h => ex_loadT h 1 rfl rfl rfl Try.isAgg72 Try.sizeOf72 rfl rfl⟩) (ak (fun γ => ⟨rfl, fun w' h => ex_loadT h 0 rfl rfl rfl Try.isAgg25 Try.sizeOf25 rfl rfl⟩) (ak (fun γ => ⟨rfl, fun w' h => ⟨50, #[.agg (kd p r c gx gy).toArray, .agg (pt X Y Z).toArray], exec_call rfl call50 rfl (mpn rfl), on_is k.pr X Y Z _ h1 w'⟩⟩) (ak (by refine fun γ => ⟨rfl, fun w' h => ?_⟩; clear h; go_simp) trivial)))
  intro _ w7 H7
  clear H6
  refine rest0 rfl (then_normal (wp_cond_true rfl (wp_seq ?_)))
  refine walk_seqB 1 [.quiet (.agg (kd 0 0 0 0 0).toArray)] H7 ?ho8 ?he8
  case ho8 => exact ak (fun γ => ⟨rfl, fun w' _ => ex_build72_ rfl⟩) trivial
  intro _ w8 H8
  clear H7
  refine rest_at (l := [1, 2]) rfl ?_
  refine rest_store rfl rfl rfl (ex_storeT (vs := kd 0 0 0 0 0) H8.out.1 2 rfl rfl rfl rfl Try.sizeOf72 rfl (Nat.le_of_ble_eq_true rfl)) ?_
  have H9 : Hid (Mm (w8.setCells γ1_0 0 (kd 0 0 0 0 0)) [(γ6_2, pt X Y Z), (γ2_5, kd p r c gx gy), (γ1_0, kd 0 0 0 0 0), (g, pt X Y Z)] ∧ Below w.heap.size w (w8.setCells γ1_0 0 (kd 0 0 0 0 0))) := ⟨H8.out.1.put 2 (off := 0) (vs := kd 0 0 0 0 0) rfl (Nat.le_of_ble_eq_true rfl), below_setCells _ o1_0.out _ _ _ H8.out.2⟩
  clear H8
  generalize hgw : World.setCells _ _ _ _ = w9 at H9 ⊢
  clear hgw
  refine rest_set (d := 5) rfl rfl rfl rfl ?_
  simp only [Act.put, sa, sz, ss]
  refine rest_nil (then_normal (wp_ret ?_))
  repeat (first | refine then_ret ?_ | refine block_ret ?_)
  have hf0 := var_T H9.out.1 2 rfl Try.isAgg72 Try.sizeOf72 rfl
  refine bodyPost_ret (v := .tuple #[.agg (kd 0 0 0 0 0).toArray, .int .i64 5]) (by simp [results, Try.results43, asAddr, Act.eval, hf0]) rfl ?_
  exact ⟨rfl, H9.out.2⟩
set_option maxRecDepth 100000 in
theorem kw_arg (s : Int) (h1 : s ≠ 1) (h2 : s ≠ 2) (v : Value) (w : World) :
    Calls Try.prog 43 #[.int .i64 s, v] w fun e w' => e = .returned (.tuple #[V (kd 0 0 0 0 0), .int .i64 2]) ∧ Below w.heap.size w w' := by
  have H0 : Hid (_ ∧ _) := ⟨Mm.nil w, Below.refl w.heap.size w⟩
  go_enter Try.func43, Try.ntmps43
  refine wp_seq ?_
  refine walk_seqA 2 [.made (kd 0 0 0 0 0) 72, .quiet (.int .i64 0)] (sB H0) ?ho1 ?he1
  case ho1 => exact ak (fun γ => ⟨rfl, fun w' => ex_made72 rfl⟩) (ak (fun _ => ⟨rfl, fun _ _ => rfl⟩) trivial)
  intro γ w1 l hM hl
  have H1 : Hid (Mm w1 [(γ 0, kd 0 0 0 0 0)] ∧ _) := growB H0 hM (Nat.le_refl _) hl [0] rfl (by decide)
  have o1_0 := ownB H0 hM (Nat.le_refl _) hl (i := 0) rfl
  clear hM hl l
  generalize γ 0 = γ1_0 at H1 o1_0 ⊢
  clear γ
  refine rest0 rfl (then_normal (wp_seq ?_))
  refine walk_seqA 8 [.quiet (.int .i64 s), .call (.tuple #[.agg (kd 0 0 0 0 0).toArray, .int .i64 2]), .quiet (.tuple #[.agg (kd 0 0 0 0 0).toArray, .int .i64 2]), .quiet (.agg (kd 0 0 0 0 0).toArray), .quiet (.int .i64 2), .made (kd 0 0 0 0 0) 72, .laid 5 (kd 0 0 0 0 0) (kd 0 0 0 0 0), .quiet (.int .i64 2)] (sB H1) ?ho2 ?he2 (hL := ?hL2)
  case hL2 => exact ⟨⟨_, rfl⟩, trivial⟩
  case ho2 => exact ak (fun _ => ⟨rfl, fun _ _ => rfl⟩) (ak (fun γ => ⟨rfl, fun w' h => ⟨42, #[.int .i64 s], exec_call rfl call42 rfl (mpn rfl), kindOf_no s h1 h2 w'⟩⟩) (ak (fun _ => ⟨rfl, fun _ _ => rfl⟩) (ak (by refine fun γ => ⟨rfl, fun w' h => ?_⟩; clear h; go_simp) (ak (by refine fun γ => ⟨rfl, fun w' h => ?_⟩; clear h; go_simp) (ak (fun γ => ⟨rfl, fun w' => ex_made72 rfl⟩) (ak (fun γ => ⟨rfl, rfl, rfl, fun w' h => ex_laidT h rfl rfl Try.sizeOf72 rfl rfl rfl⟩) (ak (fun _ => ⟨rfl, fun _ _ => rfl⟩) trivial)))))))
  intro γ w2 l hM hl
  have H2 : Hid (Mm w2 [(γ 5, kd 0 0 0 0 0), (γ1_0, kd 0 0 0 0 0)] ∧ _) := growB H1 hM (Nat.le_refl _) hl [5] rfl (by decide)
  have o2_5 := ownB H1 hM (Nat.le_refl _) hl (i := 5) rfl
  clear hM hl l H1
  generalize γ 5 = γ2_5 at H2 o2_5 ⊢
  clear γ
  refine rest0 rfl (then_normal (wp_seq (wp_seq ?_)))
  refine walk_seqB 2 [.quiet (.int .i64 2), .quiet (.bool true)] H2 ?ho3 ?he3
  case ho3 => exact ak (fun _ => ⟨rfl, fun _ _ => rfl⟩) (ak (by refine fun γ => ⟨rfl, fun w' h => ?_⟩; clear h; go_simp) trivial)
  intro _ w3 H3
  clear H2
  refine rest0 rfl (then_normal (wp_cond_true rfl (wp_seq ?_)))
  refine walk_seqB 2 [.quiet (.agg (kd 0 0 0 0 0).toArray), .quiet (.int .i64 2)] H3 ?ho4 ?he4
  case ho4 => exact ak (fun γ => ⟨rfl, fun w' _ => ex_build72_ rfl⟩) (ak (fun _ => ⟨rfl, fun _ _ => rfl⟩) trivial)
  intro _ w4 H4
  clear H3
  refine rest_at (l := [2, 3]) rfl ?_
  refine rest_store rfl rfl rfl (ex_storeT (vs := kd 0 0 0 0 0) H4.out.1 1 rfl rfl rfl rfl Try.sizeOf72 rfl (Nat.le_of_ble_eq_true rfl)) ?_
  have H5 : Hid (Mm (w4.setCells γ1_0 0 (kd 0 0 0 0 0)) [(γ2_5, kd 0 0 0 0 0), (γ1_0, kd 0 0 0 0 0)] ∧ Below w.heap.size w (w4.setCells γ1_0 0 (kd 0 0 0 0 0))) := ⟨H4.out.1.put 1 (off := 0) (vs := kd 0 0 0 0 0) rfl (Nat.le_of_ble_eq_true rfl), below_setCells _ o1_0.out _ _ _ H4.out.2⟩
  clear H4
  generalize hgw : World.setCells _ _ _ _ = w5 at H5 ⊢
  clear hgw
  refine rest_set (d := 5) rfl rfl rfl rfl ?_
  simp only [Act.put, sa, sz, ss]
  refine rest_nil (then_normal (wp_ret ?_))
  repeat (first | refine then_ret ?_ | refine block_ret ?_)
  have hf0 := var_T H5.out.1 1 rfl Try.isAgg72 Try.sizeOf72 rfl
  refine bodyPost_ret (v := .tuple #[.agg (kd 0 0 0 0 0).toArray, .int .i64 2]) (by simp [results, Try.results43, asAddr, Act.eval, hf0]) rfl ?_
  exact ⟨rfl, H5.out.2⟩
end
end Rg
end Go.Proofs.Ytjmbgchoioepjaa
end
