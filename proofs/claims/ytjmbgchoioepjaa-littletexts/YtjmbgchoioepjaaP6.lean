/- Texts of the proof, joined. -/
import Derived.Test.YtjmbgchoioepjaaP5
import Derived.ProofKit
import Derived.OpenShut
import Derived.Test.YtjmbgchoioepjaaRows
import Derived.ChangeSlices
section
namespace Go.Proofs.Ytjmbgchoioepjaa
open Go.RowKit
namespace Rg
section
variable {p r c gx gy : Nat}
theorem di_is (hp : Pr p) (hr : r < 18446744073709551616) (X Y : Nat) (Z t : Bool) (h : di p r X Y Z = t) (w : World) : Calls Try.prog 23 #[.agg (kd p r c gx gy).toArray, .agg (pt X Y Z).toArray] w fun e w' => e = .returned (.bool t) ∧ Below w.heap.size w w' := by
  rw [← h]
  exact dIn_any hp hr X Y Z w
set_option maxHeartbeats 1000000 in
set_option maxRecDepth 100000 in
theorem dread_hi (_hp : Pr p) (_hr64 : r < 18446744073709551616) (g o cp : Nat) (f : Nat → Nat) (hf : ∀ i, f i < 256) (_hc : 17 ≤ cp) (h0 : 1 < f 0) (w : World) (hr : Rd g o 17 f w) :
    Calls Try.prog 38 #[.agg (kd p r c gx gy).toArray, .slice (some ⟨g, o, none⟩) 17 cp] w fun e w' => e = .returned (.tuple #[V (pt 0 0 false), .int .i64 4]) ∧ Below w.heap.size w w' := by
  have H0 : Hid (_ ∧ _) := ⟨Mm.nil w, Below.refl w.heap.size w⟩
  go_enter Try.func38, Try.ntmps38
  refine wp_seq ?_
  refine walk_seqA 3 [.made (kd p r c gx gy) 27, .made (pt 0 0 false) 25, .quiet (.int .i64 0)] (sB H0) ?ho1 ?he1
  case ho1 => exact ak (fun γ => ⟨rfl, fun w' => ex_boxT rfl rfl⟩) (ak (fun γ => ⟨rfl, fun w' => ex_made25 rfl⟩) (ak (fun _ => ⟨rfl, fun _ _ => rfl⟩) trivial))
  intro γ w1 l hM hl
  have H1 : Hid (Mm w1 [(γ 0, kd p r c gx gy), (γ 1, pt 0 0 false)] ∧ _) := growB H0 hM (Nat.le_refl _) hl [0, 1] rfl (by decide)
  have o1_0 := ownB H0 hM (Nat.le_refl _) hl (i := 0) rfl
  have o1_1 := ownB H0 hM (Nat.le_refl _) hl (i := 1) rfl
  clear hM hl l
  generalize γ 0 = γ1_0 at H1 o1_0 ⊢
  generalize γ 1 = γ1_1 at H1 o1_1 ⊢
  clear γ
  refine rest0 rfl (then_normal (wp_seq (wp_seq ?_)))
  refine walk_seqB 3 [.quiet (.slice (some ⟨g, o, none⟩) 17 cp), .quiet (.int .i64 17), .quiet (.bool false)] H1 ?ho2 ?he2
  case ho2 => exact ak (fun _ => ⟨rfl, fun _ _ => rfl⟩) (ak (by refine fun γ => ⟨rfl, fun w' h => ?_⟩; clear h; go_simp) (ak (by refine fun γ => ⟨rfl, fun w' h => ?_⟩; clear h; go_simp) trivial))
  intro _ w2 H2
  clear H1
  refine rest0 rfl (then_normal (wp_cond_false rfl ?_))
  refine wp_skip (then_normal (wp_seq ?_))
  refine walk_seqA 1 [.made (pt 0 0 false) 25] (sB H2) ?ho3 ?he3
  case ho3 => exact ak (fun γ => ⟨rfl, fun w' => ex_made25 rfl⟩) trivial
  intro γ w3 l hM hl
  have H3 : Hid (Mm w3 [(γ 0, pt 0 0 false), (γ1_0, kd p r c gx gy), (γ1_1, pt 0 0 false)] ∧ _) := growB H2 hM (Nat.le_refl _) hl [0] rfl (by decide)
  have o3_0 := ownB H2 hM (Nat.le_refl _) hl (i := 0) rfl
  clear hM hl l H2
  generalize γ 0 = γ3_0 at H3 o3_0 ⊢
  clear γ
  refine rest0 rfl (then_normal (wp_seq ?_))
  refine (walk_seq) 5 [.quiet (.slice (some ⟨g, o, none⟩) 17 cp), .quiet (PT g (o + 0)), .quiet (.int .u8 ((f 0 : Nat) : Int)), .quiet (.bool (decide (f 0 = 1))), .quiet (PT γ3_0 2)] (fun u' => Mm u' [(γ3_0, pt 0 0 false), (γ1_0, kd p r c gx gy), (γ1_1, pt 0 0 false)] ∧ Rd g o 17 f u') ?pre4 ?F4 ?hpre4 (fun γ => ?hF4) (by kernel_rfl) ?hL4 ?hS4 ?ho4 ?he4
  case hpre4 => simp only [tk, tz]; rfl
  case hF4 => simp only [fill, Kind.val, Act.put, sa, sz, ss]; rfl
  case hL4 => exact trivial
  case hS4 => exact fun w' hb => ⟨H3.out.1.below hb, hr.below (H3.out.2.trans (hb.mono H3.out.2.size))⟩
  case ho4 =>
    refine ak (fun _ => ⟨rfl, fun _ _ => rfl⟩) ?_
    refine ak (fun γ => ⟨rfl, fun w' _ => ex_idxS rfl rfl rfl (by omega)⟩) ?_
    refine ak (fun γ => ⟨rfl, fun w' hX => ex_ld8 (k := 0) hX.2 (by omega) rfl rfl⟩) ?_
    refine ak (fun γ => ⟨rfl, fun w' _ => ex_e8 rfl rfl rfl⟩) ?_
    refine ak (by refine fun γ => ⟨rfl, fun w' h => ?_⟩; clear h; go_simp) ?_
    exact trivial
  intro γ w4 l hM hl
  have H4 := keepB H3 hM.below
  clear hM hl l H3 γ
  refine rest_at (l := [5]) rfl ?_
  refine rest_store rfl rfl rfl (ex_storeB H4.out.1 0 rfl rfl Try.sizeOf4 rfl rfl (Nat.le_of_ble_eq_true rfl)) ?_
  have H5 : Hid (Mm (w4.setCells γ3_0 2 [Value.bool (decide (f 0 = 1))]) [(γ3_0, pt 0 0 (decide (f 0 = 1))), (γ1_0, kd p r c gx gy), (γ1_1, pt 0 0 false)] ∧ Below w.heap.size w (w4.setCells γ3_0 2 [Value.bool (decide (f 0 = 1))])) := ⟨H4.out.1.put 0 (off := 2) (vs := [Value.bool (decide (f 0 = 1))]) rfl (Nat.le_of_ble_eq_true rfl), below_setCells _ o3_0.out _ _ _ H4.out.2⟩
  clear H4
  generalize hgw : World.setCells _ _ _ _ = w5 at H5 ⊢
  clear hgw
  refine rest_nil (then_normal ?_)
  refine wp_seq (wp_seq ?_)
  refine walk_seqB 1 [.quiet (.int .i64 0)] H5 ?ho5 ?he5
  case ho5 => exact ak (fun _ => ⟨rfl, fun _ _ => rfl⟩) trivial
  intro _ w6 H6
  clear H5
  refine rest0 rfl (then_normal (wp_block ?_))
  refine loop_ghost (α := Nat) (fun k a' w' => ∃ s0 : Nat → Value, a' = ⟨#[.agg (kd p r c gx gy).toArray, .slice (some ⟨g, o, none⟩) 17 cp, PT γ1_0 0, undef, PT γ1_1 0, .int .i64 0, PT γ3_0 0, .int .i64 ((k : Nat) : Int), .slice (some ⟨g, o, none⟩) 17 cp, .int .i64 17, .bool false, undef, .slice (some ⟨g, o, none⟩) 17 cp, PT g (o + 0), .int .u8 ((f 0 : Nat) : Int), .bool (decide (f 0 = 1)), PT γ3_0 2, s0 17, s0 18, s0 19, s0 20, s0 21, s0 22, s0 23, s0 24, s0 25, s0 26, s0 27, s0 28, s0 29, s0 30, s0 31, s0 32, s0 33, s0 34, s0 35, s0 36, s0 37, s0 38, s0 39, s0 40, s0 41, s0 42, undef, undef, undef, undef, undef, undef, undef, undef, undef, undef, undef, undef, undef, undef, undef, undef, undef], []⟩ ∧ (Mm w' [(γ3_0, pt (tkn (fun i => f (1 + i)) k) (tkn (fun i => f (9 + i)) k) (decide (f 0 = 1))), (γ1_0, kd p r c gx gy), (γ1_1, pt 0 0 false)] ∧ Below w.heap.size w w') ∧ k ≤ 8) (fun k => 8 - k) 0 ?st0 ?rd0
  case st0 => exact ⟨(slotfn [undef, undef, undef, undef, undef, undef, undef, undef, undef, undef, undef, undef, undef, undef, undef, undef, undef, undef, undef, undef, undef, undef, undef, undef, undef, undef, undef, undef, undef, undef, undef, undef, undef, undef, undef, undef, undef, undef, undef, undef, undef, undef, undef]), rfl, ⟨H6.out.1, H6.out.2⟩, by omega⟩
  intro k a' w7 hI
  obtain ⟨s0, rfl, hMB, hk0⟩ := hI
  have H7 : Hid (_ ∧ _) := hMB
  clear hMB H6
  by_cases hlt : k < 8
  · have hrd : True := trivial
    clear hrd
    refine wp_seq (wp_seq ?_)
    refine walk_seqB 2 [.quiet (.int .i64 ((k : Nat) : Int)), .quiet (.bool true)] H7 ?ho6 ?he6
    case ho6 => exact ak (fun _ => ⟨rfl, fun _ _ => rfl⟩) (ak (by refine fun γ => ⟨rfl, fun w' h => ?_⟩; clear h; go_simp <;> omega) trivial)
    intro _ w8 H8
    clear H7
    refine rest0 rfl (then_normal (wp_cond_true rfl ?_))
    refine wp_skip (then_normal ?_)
    refine wp_seq (wp_block (wp_seq ?_))
    refine (walk_any) (by kernel_rfl) 11 [.quiet (PT γ3_0 0), .quiet (U (tkn (fun i => f (1 + i)) k)), .quiet (U (tkn (fun i => f (1 + i)) k * 256)), .quiet (.slice (some ⟨g, o, none⟩) 17 cp), .quiet (.int .i64 ((k : Nat) : Int)), .quiet (.int .i64 ((1 + k : Nat) : Int)), .quiet (PT g (o + (1 + k))), .quiet (.int .u8 ((f (1 + k) : Nat) : Int)), .quiet (U (f (1 + k))), .quiet (U (tkn (fun i => f (1 + i)) (k + 1))), .quiet (PT γ3_0 0)] (fun u' => Mm u' [(γ3_0, pt (tkn (fun i => f (1 + i)) k) (tkn (fun i => f (9 + i)) k) (decide (f 0 = 1))), (γ1_0, kd p r c gx gy), (γ1_1, pt 0 0 false)] ∧ Rd g o 17 f u') ?pre7 ?F7 ?hpre7 (fun γ => ?hF7) (by kernel_rfl) ?hL7 ?hS7 ?ho7 ?he7
    case hpre7 => simp only [tk, tz]; rfl
    case hF7 => simp only [fill, Kind.val, Act.put, sa, sz, ss]; rfl
    case hL7 => exact trivial
    case hS7 => exact fun w' hb => ⟨H8.out.1.below hb, hr.below (H8.out.2.trans (hb.mono H8.out.2.size))⟩
    case ho7 =>
      refine ak (by refine fun γ => ⟨rfl, fun w' h => ?_⟩; clear h; go_simp) ?_
      refine ak (fun γ => ⟨rfl, fun w' hX => have h := hX.1; ex_loadC h 0 rfl rfl rfl Try.isAgg23 rfl⟩) ?_
      refine ak (fun γ => ⟨rfl, fun w' _ => ex_shl8 (tkn_small (fun i => hf _) hlt) rfl rfl rfl⟩) ?_
      refine ak (fun _ => ⟨rfl, fun _ _ => rfl⟩) ?_
      refine ak (fun _ => ⟨rfl, fun _ _ => rfl⟩) ?_
      refine ak (by refine fun γ => ⟨rfl, fun w' h => ?_⟩; clear h; go_simp; rw [IntKind.wrap_i64]; omega) ?_
      refine ak (fun γ => ⟨rfl, fun w' _ => ex_idxS rfl rfl rfl (by omega)⟩) ?_
      refine ak (fun γ => ⟨rfl, fun w' hX => ex_ld8 (k := (1 + k)) hX.2 (by omega) rfl rfl⟩) ?_
      refine ak (fun γ => ⟨rfl, fun w' _ => ex_cv64 (hf _) rfl rfl⟩) ?_
      refine ak (fun γ => ⟨rfl, fun w' _ => ex_or8 (tkn_small (fun i => hf _) hlt) (hf _) rfl rfl rfl⟩) ?_
      refine ak (by refine fun γ => ⟨rfl, fun w' h => ?_⟩; clear h; go_simp) ?_
      exact trivial
    intro γ w9 l hM hl
    have H9 := keepB H8 hM.below
    clear hM hl l H8 γ
    refine rest_at (l := [11]) rfl ?_
    refine rest_store rfl rfl rfl (ex_storeI H9.out.1 0 rfl rfl Try.sizeOf23 rfl rfl (Nat.le_of_ble_eq_true rfl)) ?_
    have H10 : Hid (Mm (w9.setCells γ3_0 0 [U (tkn (fun i => f (1 + i)) (k + 1))]) [(γ3_0, pt (tkn (fun i => f (1 + i)) (k + 1)) (tkn (fun i => f (9 + i)) k) (decide (f 0 = 1))), (γ1_0, kd p r c gx gy), (γ1_1, pt 0 0 false)] ∧ Below w.heap.size w (w9.setCells γ3_0 0 [U (tkn (fun i => f (1 + i)) (k + 1))])) := ⟨H9.out.1.put 0 (off := 0) (vs := [U (tkn (fun i => f (1 + i)) (k + 1))]) rfl (Nat.le_of_ble_eq_true rfl), below_setCells _ o3_0.out _ _ _ H9.out.2⟩
    clear H9
    generalize hgw : World.setCells _ _ _ _ = w10 at H10 ⊢
    clear hgw
    refine rest_nil (then_normal ?_)
    refine (walk_any) (by kernel_rfl) 11 [.quiet (PT γ3_0 1), .quiet (U (tkn (fun i => f (9 + i)) k)), .quiet (U (tkn (fun i => f (9 + i)) k * 256)), .quiet (.slice (some ⟨g, o, none⟩) 17 cp), .quiet (.int .i64 ((k : Nat) : Int)), .quiet (.int .i64 ((9 + k : Nat) : Int)), .quiet (PT g (o + (9 + k))), .quiet (.int .u8 ((f (9 + k) : Nat) : Int)), .quiet (U (f (9 + k))), .quiet (U (tkn (fun i => f (9 + i)) (k + 1))), .quiet (PT γ3_0 1)] (fun u' => Mm u' [(γ3_0, pt (tkn (fun i => f (1 + i)) (k + 1)) (tkn (fun i => f (9 + i)) k) (decide (f 0 = 1))), (γ1_0, kd p r c gx gy), (γ1_1, pt 0 0 false)] ∧ Rd g o 17 f u') ?pre8 ?F8 ?hpre8 (fun γ => ?hF8) (by kernel_rfl) ?hL8 ?hS8 ?ho8 ?he8
    case hpre8 => simp only [tk, tz]; rfl
    case hF8 => simp only [fill, Kind.val, Act.put, sa, sz, ss]; rfl
    case hL8 => exact trivial
    case hS8 => exact fun w' hb => ⟨H10.out.1.below hb, hr.below (H10.out.2.trans (hb.mono H10.out.2.size))⟩
    case ho8 =>
      refine ak (by refine fun γ => ⟨rfl, fun w' h => ?_⟩; clear h; go_simp) ?_
      refine ak (fun γ => ⟨rfl, fun w' hX => have h := hX.1; ex_loadC h 0 rfl rfl rfl Try.isAgg23 rfl⟩) ?_
      refine ak (fun γ => ⟨rfl, fun w' _ => ex_shl8 (tkn_small (fun i => hf _) hlt) rfl rfl rfl⟩) ?_
      refine ak (fun _ => ⟨rfl, fun _ _ => rfl⟩) ?_
      refine ak (fun _ => ⟨rfl, fun _ _ => rfl⟩) ?_
      refine ak (by refine fun γ => ⟨rfl, fun w' h => ?_⟩; clear h; go_simp; rw [IntKind.wrap_i64]; omega) ?_
      refine ak (fun γ => ⟨rfl, fun w' _ => ex_idxS rfl rfl rfl (by omega)⟩) ?_
      refine ak (fun γ => ⟨rfl, fun w' hX => ex_ld8 (k := (9 + k)) hX.2 (by omega) rfl rfl⟩) ?_
      refine ak (fun γ => ⟨rfl, fun w' _ => ex_cv64 (hf _) rfl rfl⟩) ?_
      refine ak (fun γ => ⟨rfl, fun w' _ => ex_or8 (tkn_small (fun i => hf _) hlt) (hf _) rfl rfl rfl⟩) ?_
      refine ak (by refine fun γ => ⟨rfl, fun w' h => ?_⟩; clear h; go_simp) ?_
      exact trivial
    intro γ w11 l hM hl
    have H11 := keepB H10 hM.below
    clear hM hl l H10 γ
    refine rest_at (l := [11]) rfl ?_
    refine rest_store rfl rfl rfl (ex_storeI H11.out.1 0 rfl rfl Try.sizeOf23 rfl rfl (Nat.le_of_ble_eq_true rfl)) ?_
    have H12 : Hid (Mm (w11.setCells γ3_0 1 [U (tkn (fun i => f (9 + i)) (k + 1))]) [(γ3_0, pt (tkn (fun i => f (1 + i)) (k + 1)) (tkn (fun i => f (9 + i)) (k + 1)) (decide (f 0 = 1))), (γ1_0, kd p r c gx gy), (γ1_1, pt 0 0 false)] ∧ Below w.heap.size w (w11.setCells γ3_0 1 [U (tkn (fun i => f (9 + i)) (k + 1))])) := ⟨H11.out.1.put 0 (off := 1) (vs := [U (tkn (fun i => f (9 + i)) (k + 1))]) rfl (Nat.le_of_ble_eq_true rfl), below_setCells _ o3_0.out _ _ _ H11.out.2⟩
    clear H11
    generalize hgw : World.setCells _ _ _ _ = w12 at H12 ⊢
    clear hgw
    refine rest_nil (block_normal (then_normal ?_))
    refine walk_seqB 2 [.quiet (.int .i64 ((k : Nat) : Int)), .quiet (.int .i64 ((k + 1 : Nat) : Int))] H12 ?ho9 ?he9
    case ho9 => exact ak (fun _ => ⟨rfl, fun _ _ => rfl⟩) (ak (by refine fun γ => ⟨rfl, fun w' h => ?_⟩; clear h; go_simp; rw [IntKind.wrap_i64]; omega) trivial)
    intro _ w13 H13
    clear H12
    refine rest_at (l := [2]) rfl ?_
    refine rest_set (d := 7) rfl rfl rfl rfl ?_
    simp only [Act.put, sa, sz, ss]
    refine rest_nil (then_normal ?_)
    exact ⟨k + 1, ⟨(slotfn [undef, undef, undef, undef, undef, undef, undef, undef, undef, undef, undef, undef, undef, undef, undef, undef, undef, .int .i64 ((k : Nat) : Int), .bool true, .int .i64 ((k : Nat) : Int), .int .i64 ((k + 1 : Nat) : Int), PT γ3_0 0, U (tkn (fun i => f (1 + i)) k), U (tkn (fun i => f (1 + i)) k * 256), .slice (some ⟨g, o, none⟩) 17 cp, .int .i64 ((k : Nat) : Int), .int .i64 ((1 + k : Nat) : Int), PT g (o + (1 + k)), .int .u8 ((f (1 + k) : Nat) : Int), U (f (1 + k)), U (tkn (fun i => f (1 + i)) (k + 1)), PT γ3_0 0, PT γ3_0 1, U (tkn (fun i => f (9 + i)) k), U (tkn (fun i => f (9 + i)) k * 256), .slice (some ⟨g, o, none⟩) 17 cp, .int .i64 ((k : Nat) : Int), .int .i64 ((9 + k : Nat) : Int), PT g (o + (9 + k)), .int .u8 ((f (9 + k) : Nat) : Int), U (f (9 + k)), U (tkn (fun i => f (9 + i)) (k + 1)), PT γ3_0 1]), rfl, ⟨H13.out.1, H13.out.2⟩, by omega⟩, by omega⟩
  have hk8 : k = 8 := by omega
  subst hk8
  refine wp_seq (wp_seq ?_)
  refine walk_seqB 2 [.quiet (.int .i64 ((8 : Nat) : Int)), .quiet (.bool false)] H7 ?ho10 ?he10
  case ho10 => exact ak (fun _ => ⟨rfl, fun _ _ => rfl⟩) (ak (by refine fun γ => ⟨rfl, fun w' h => ?_⟩; clear h; go_simp <;> omega) trivial)
  intro _ w14 H14
  clear H7
  refine rest0 rfl (then_normal (wp_cond_false rfl ?_))
  refine wp_exit ?_
  repeat refine then_exit ?_
  refine block_exit ?_
  refine then_normal (wp_seq (wp_seq ?_))
  refine (walk_seq) 10 [.quiet (.slice (some ⟨g, o, none⟩) 17 cp), .quiet (PT g (o + 0)), .quiet (.int .u8 ((f 0 : Nat) : Int)), .quiet (.bool true), .quiet (.bool true), .gone, .gone, .gone, .gone, .quiet (.bool true)] (fun u' => Mm u' [(γ3_0, pt (tkn (fun i => f (1 + i)) 8) (tkn (fun i => f (9 + i)) 8) (decide (f 0 = 1))), (γ1_0, kd p r c gx gy), (γ1_1, pt 0 0 false)] ∧ Rd g o 17 f u') ?pre11 ?F11 ?hpre11 (fun γ => ?hF11) (by kernel_rfl) ?hL11 ?hS11 ?ho11 ?he11
  case hpre11 => simp only [tk, tz]; rfl
  case hF11 => simp only [fill, Kind.val, Act.put, sa, sz, ss]; rfl
  case hL11 => exact trivial
  case hS11 => exact fun w' hb => ⟨H14.out.1.below hb, hr.below (H14.out.2.trans (hb.mono H14.out.2.size))⟩
  case ho11 =>
    refine ak (fun _ => ⟨rfl, fun _ _ => rfl⟩) ?_
    refine ak (fun γ => ⟨rfl, fun w' _ => ex_idxS rfl rfl rfl (by omega)⟩) ?_
    refine ak (fun γ => ⟨rfl, fun w' hX => ex_ld8 (k := 0) hX.2 (by omega) rfl rfl⟩) ?_
    refine ak (fun γ => ⟨rfl, fun w' _ => ex_gt8 rfl rfl rfl (decide_eq_true h0)⟩) ?_
    refine ak (fun _ => ⟨rfl, fun _ _ => rfl⟩) ?_
    refine ak (fun γ => rfl) ?_
    refine ak (fun γ => rfl) ?_
    refine ak (fun γ => rfl) ?_
    refine ak (fun γ => rfl) ?_
    refine ak (by refine fun γ => ⟨rfl, fun w' h => ?_⟩; clear h; go_simp) ?_
    exact trivial
  intro γ w15 l hM hl
  have H15 := keepB H14 hM.below
  clear hM hl l H14 γ
  refine rest0 rfl (then_normal (wp_cond_true rfl (wp_seq ?_)))
  refine walk_seqB 1 [.quiet (.agg (pt 0 0 false).toArray)] H15 ?ho12 ?he12
  case ho12 => exact ak (fun γ => ⟨rfl, fun w' _ => ex_build25_ rfl⟩) trivial
  intro _ w16 H16
  clear H15
  refine rest_at (l := [1, 2]) rfl ?_
  refine rest_store rfl rfl rfl (ex_storeT (vs := pt 0 0 false) H16.out.1 2 rfl rfl rfl rfl Try.sizeOf25 rfl (Nat.le_of_ble_eq_true rfl)) ?_
  have H17 : Hid (Mm (w16.setCells γ1_1 0 (pt 0 0 false)) [(γ3_0, pt (tkn (fun i => f (1 + i)) 8) (tkn (fun i => f (9 + i)) 8) (decide (f 0 = 1))), (γ1_0, kd p r c gx gy), (γ1_1, pt 0 0 false)] ∧ Below w.heap.size w (w16.setCells γ1_1 0 (pt 0 0 false))) := ⟨H16.out.1.put 2 (off := 0) (vs := pt 0 0 false) rfl (Nat.le_of_ble_eq_true rfl), below_setCells _ o1_1.out _ _ _ H16.out.2⟩
  clear H16
  generalize hgw : World.setCells _ _ _ _ = w17 at H17 ⊢
  clear hgw
  refine rest_set (d := 5) rfl rfl rfl rfl ?_
  simp only [Act.put, sa, sz, ss]
  refine rest_nil (then_normal (wp_ret ?_))
  repeat (first | refine then_ret ?_ | refine block_ret ?_)
  have hf0 := var_T H17.out.1 2 rfl Try.isAgg25 Try.sizeOf25 rfl
  refine bodyPost_ret (v := .tuple #[.agg (pt 0 0 false).toArray, .int .i64 4]) (by simp [results, Try.results38, asAddr, Act.eval, hf0]) rfl ?_
  exact ⟨rfl, H17.out.2⟩
set_option maxHeartbeats 1000000 in
set_option maxRecDepth 100000 in
theorem dread_oc (hp : Pr p) (_hr64 : r < 18446744073709551616) (g o cp : Nat) (f : Nat → Nat) (hf : ∀ i, f i < 256) (_hc : 17 ≤ cp) (h0 : ¬ 1 < f 0) (h1 : oc p (tkn (fun i => f (1 + i)) 8) (tkn (fun i => f (9 + i)) 8) (decide (f 0 = 1)) = false) (w : World) (hr : Rd g o 17 f w) :
    Calls Try.prog 38 #[.agg (kd p r c gx gy).toArray, .slice (some ⟨g, o, none⟩) 17 cp] w fun e w' => e = .returned (.tuple #[V (pt 0 0 false), .int .i64 4]) ∧ Below w.heap.size w w' := by
  have H0 : Hid (_ ∧ _) := ⟨Mm.nil w, Below.refl w.heap.size w⟩
  go_enter Try.func38, Try.ntmps38
  refine wp_seq ?_
  refine walk_seqA 3 [.made (kd p r c gx gy) 27, .made (pt 0 0 false) 25, .quiet (.int .i64 0)] (sB H0) ?ho1 ?he1
  case ho1 => exact ak (fun γ => ⟨rfl, fun w' => ex_boxT rfl rfl⟩) (ak (fun γ => ⟨rfl, fun w' => ex_made25 rfl⟩) (ak (fun _ => ⟨rfl, fun _ _ => rfl⟩) trivial))
  intro γ w1 l hM hl
  have H1 : Hid (Mm w1 [(γ 0, kd p r c gx gy), (γ 1, pt 0 0 false)] ∧ _) := growB H0 hM (Nat.le_refl _) hl [0, 1] rfl (by decide)
  have o1_0 := ownB H0 hM (Nat.le_refl _) hl (i := 0) rfl
  have o1_1 := ownB H0 hM (Nat.le_refl _) hl (i := 1) rfl
  clear hM hl l
  generalize γ 0 = γ1_0 at H1 o1_0 ⊢
  generalize γ 1 = γ1_1 at H1 o1_1 ⊢
  clear γ
  refine rest0 rfl (then_normal (wp_seq (wp_seq ?_)))
  refine walk_seqB 3 [.quiet (.slice (some ⟨g, o, none⟩) 17 cp), .quiet (.int .i64 17), .quiet (.bool false)] H1 ?ho2 ?he2
  case ho2 => exact ak (fun _ => ⟨rfl, fun _ _ => rfl⟩) (ak (by refine fun γ => ⟨rfl, fun w' h => ?_⟩; clear h; go_simp) (ak (by refine fun γ => ⟨rfl, fun w' h => ?_⟩; clear h; go_simp) trivial))
  intro _ w2 H2
  clear H1
  refine rest0 rfl (then_normal (wp_cond_false rfl ?_))
  refine wp_skip (then_normal (wp_seq ?_))
  refine walk_seqA 1 [.made (pt 0 0 false) 25] (sB H2) ?ho3 ?he3
  case ho3 => exact ak (fun γ => ⟨rfl, fun w' => ex_made25 rfl⟩) trivial
  intro γ w3 l hM hl
  have H3 : Hid (Mm w3 [(γ 0, pt 0 0 false), (γ1_0, kd p r c gx gy), (γ1_1, pt 0 0 false)] ∧ _) := growB H2 hM (Nat.le_refl _) hl [0] rfl (by decide)
  have o3_0 := ownB H2 hM (Nat.le_refl _) hl (i := 0) rfl
  clear hM hl l H2
  generalize γ 0 = γ3_0 at H3 o3_0 ⊢
  clear γ
  refine rest0 rfl (then_normal (wp_seq ?_))
  refine (walk_seq) 5 [.quiet (.slice (some ⟨g, o, none⟩) 17 cp), .quiet (PT g (o + 0)), .quiet (.int .u8 ((f 0 : Nat) : Int)), .quiet (.bool (decide (f 0 = 1))), .quiet (PT γ3_0 2)] (fun u' => Mm u' [(γ3_0, pt 0 0 false), (γ1_0, kd p r c gx gy), (γ1_1, pt 0 0 false)] ∧ Rd g o 17 f u') ?pre4 ?F4 ?hpre4 (fun γ => ?hF4) (by kernel_rfl) ?hL4 ?hS4 ?ho4 ?he4
  case hpre4 => simp only [tk, tz]; rfl
  case hF4 => simp only [fill, Kind.val, Act.put, sa, sz, ss]; rfl
  case hL4 => exact trivial
  case hS4 => exact fun w' hb => ⟨H3.out.1.below hb, hr.below (H3.out.2.trans (hb.mono H3.out.2.size))⟩
  case ho4 =>
    refine ak (fun _ => ⟨rfl, fun _ _ => rfl⟩) ?_
    refine ak (fun γ => ⟨rfl, fun w' _ => ex_idxS rfl rfl rfl (by omega)⟩) ?_
    refine ak (fun γ => ⟨rfl, fun w' hX => ex_ld8 (k := 0) hX.2 (by omega) rfl rfl⟩) ?_
    refine ak (fun γ => ⟨rfl, fun w' _ => ex_e8 rfl rfl rfl⟩) ?_
    refine ak (by refine fun γ => ⟨rfl, fun w' h => ?_⟩; clear h; go_simp) ?_
    exact trivial
  intro γ w4 l hM hl
  have H4 := keepB H3 hM.below
  clear hM hl l H3 γ
  refine rest_at (l := [5]) rfl ?_
  refine rest_store rfl rfl rfl (ex_storeB H4.out.1 0 rfl rfl Try.sizeOf4 rfl rfl (Nat.le_of_ble_eq_true rfl)) ?_
  have H5 : Hid (Mm (w4.setCells γ3_0 2 [Value.bool (decide (f 0 = 1))]) [(γ3_0, pt 0 0 (decide (f 0 = 1))), (γ1_0, kd p r c gx gy), (γ1_1, pt 0 0 false)] ∧ Below w.heap.size w (w4.setCells γ3_0 2 [Value.bool (decide (f 0 = 1))])) := ⟨H4.out.1.put 0 (off := 2) (vs := [Value.bool (decide (f 0 = 1))]) rfl (Nat.le_of_ble_eq_true rfl), below_setCells _ o3_0.out _ _ _ H4.out.2⟩
  clear H4
  generalize hgw : World.setCells _ _ _ _ = w5 at H5 ⊢
  clear hgw
  refine rest_nil (then_normal ?_)
  refine wp_seq (wp_seq ?_)
  refine walk_seqB 1 [.quiet (.int .i64 0)] H5 ?ho5 ?he5
  case ho5 => exact ak (fun _ => ⟨rfl, fun _ _ => rfl⟩) trivial
  intro _ w6 H6
  clear H5
  refine rest0 rfl (then_normal (wp_block ?_))
  refine loop_ghost (α := Nat) (fun k a' w' => ∃ s0 : Nat → Value, a' = ⟨#[.agg (kd p r c gx gy).toArray, .slice (some ⟨g, o, none⟩) 17 cp, PT γ1_0 0, undef, PT γ1_1 0, .int .i64 0, PT γ3_0 0, .int .i64 ((k : Nat) : Int), .slice (some ⟨g, o, none⟩) 17 cp, .int .i64 17, .bool false, undef, .slice (some ⟨g, o, none⟩) 17 cp, PT g (o + 0), .int .u8 ((f 0 : Nat) : Int), .bool (decide (f 0 = 1)), PT γ3_0 2, s0 17, s0 18, s0 19, s0 20, s0 21, s0 22, s0 23, s0 24, s0 25, s0 26, s0 27, s0 28, s0 29, s0 30, s0 31, s0 32, s0 33, s0 34, s0 35, s0 36, s0 37, s0 38, s0 39, s0 40, s0 41, s0 42, undef, undef, undef, undef, undef, undef, undef, undef, undef, undef, undef, undef, undef, undef, undef, undef, undef], []⟩ ∧ (Mm w' [(γ3_0, pt (tkn (fun i => f (1 + i)) k) (tkn (fun i => f (9 + i)) k) (decide (f 0 = 1))), (γ1_0, kd p r c gx gy), (γ1_1, pt 0 0 false)] ∧ Below w.heap.size w w') ∧ k ≤ 8) (fun k => 8 - k) 0 ?st0 ?rd0
  case st0 => exact ⟨(slotfn [undef, undef, undef, undef, undef, undef, undef, undef, undef, undef, undef, undef, undef, undef, undef, undef, undef, undef, undef, undef, undef, undef, undef, undef, undef, undef, undef, undef, undef, undef, undef, undef, undef, undef, undef, undef, undef, undef, undef, undef, undef, undef, undef]), rfl, ⟨H6.out.1, H6.out.2⟩, by omega⟩
  intro k a' w7 hI
  obtain ⟨s0, rfl, hMB, hk0⟩ := hI
  have H7 : Hid (_ ∧ _) := hMB
  clear hMB H6
  by_cases hlt : k < 8
  · have hrd : True := trivial
    clear hrd
    refine wp_seq (wp_seq ?_)
    refine walk_seqB 2 [.quiet (.int .i64 ((k : Nat) : Int)), .quiet (.bool true)] H7 ?ho6 ?he6
    case ho6 => exact ak (fun _ => ⟨rfl, fun _ _ => rfl⟩) (ak (by refine fun γ => ⟨rfl, fun w' h => ?_⟩; clear h; go_simp <;> omega) trivial)
    intro _ w8 H8
    clear H7
    refine rest0 rfl (then_normal (wp_cond_true rfl ?_))
    refine wp_skip (then_normal ?_)
    refine wp_seq (wp_block (wp_seq ?_))
    refine (walk_any) (by kernel_rfl) 11 [.quiet (PT γ3_0 0), .quiet (U (tkn (fun i => f (1 + i)) k)), .quiet (U (tkn (fun i => f (1 + i)) k * 256)), .quiet (.slice (some ⟨g, o, none⟩) 17 cp), .quiet (.int .i64 ((k : Nat) : Int)), .quiet (.int .i64 ((1 + k : Nat) : Int)), .quiet (PT g (o + (1 + k))), .quiet (.int .u8 ((f (1 + k) : Nat) : Int)), .quiet (U (f (1 + k))), .quiet (U (tkn (fun i => f (1 + i)) (k + 1))), .quiet (PT γ3_0 0)] (fun u' => Mm u' [(γ3_0, pt (tkn (fun i => f (1 + i)) k) (tkn (fun i => f (9 + i)) k) (decide (f 0 = 1))), (γ1_0, kd p r c gx gy), (γ1_1, pt 0 0 false)] ∧ Rd g o 17 f u') ?pre7 ?F7 ?hpre7 (fun γ => ?hF7) (by kernel_rfl) ?hL7 ?hS7 ?ho7 ?he7
    case hpre7 => simp only [tk, tz]; rfl
    case hF7 => simp only [fill, Kind.val, Act.put, sa, sz, ss]; rfl
    case hL7 => exact trivial
    case hS7 => exact fun w' hb => ⟨H8.out.1.below hb, hr.below (H8.out.2.trans (hb.mono H8.out.2.size))⟩
    case ho7 =>
      refine ak (by refine fun γ => ⟨rfl, fun w' h => ?_⟩; clear h; go_simp) ?_
      refine ak (fun γ => ⟨rfl, fun w' hX => have h := hX.1; ex_loadC h 0 rfl rfl rfl Try.isAgg23 rfl⟩) ?_
      refine ak (fun γ => ⟨rfl, fun w' _ => ex_shl8 (tkn_small (fun i => hf _) hlt) rfl rfl rfl⟩) ?_
      refine ak (fun _ => ⟨rfl, fun _ _ => rfl⟩) ?_
      refine ak (fun _ => ⟨rfl, fun _ _ => rfl⟩) ?_
      refine ak (by refine fun γ => ⟨rfl, fun w' h => ?_⟩; clear h; go_simp; rw [IntKind.wrap_i64]; omega) ?_
      refine ak (fun γ => ⟨rfl, fun w' _ => ex_idxS rfl rfl rfl (by omega)⟩) ?_
      refine ak (fun γ => ⟨rfl, fun w' hX => ex_ld8 (k := (1 + k)) hX.2 (by omega) rfl rfl⟩) ?_
      refine ak (fun γ => ⟨rfl, fun w' _ => ex_cv64 (hf _) rfl rfl⟩) ?_
      refine ak (fun γ => ⟨rfl, fun w' _ => ex_or8 (tkn_small (fun i => hf _) hlt) (hf _) rfl rfl rfl⟩) ?_
      refine ak (by refine fun γ => ⟨rfl, fun w' h => ?_⟩; clear h; go_simp) ?_
      exact trivial
    intro γ w9 l hM hl
    have H9 := keepB H8 hM.below
    clear hM hl l H8 γ
    refine rest_at (l := [11]) rfl ?_
    refine rest_store rfl rfl rfl (ex_storeI H9.out.1 0 rfl rfl Try.sizeOf23 rfl rfl (Nat.le_of_ble_eq_true rfl)) ?_
    have H10 : Hid (Mm (w9.setCells γ3_0 0 [U (tkn (fun i => f (1 + i)) (k + 1))]) [(γ3_0, pt (tkn (fun i => f (1 + i)) (k + 1)) (tkn (fun i => f (9 + i)) k) (decide (f 0 = 1))), (γ1_0, kd p r c gx gy), (γ1_1, pt 0 0 false)] ∧ Below w.heap.size w (w9.setCells γ3_0 0 [U (tkn (fun i => f (1 + i)) (k + 1))])) := ⟨H9.out.1.put 0 (off := 0) (vs := [U (tkn (fun i => f (1 + i)) (k + 1))]) rfl (Nat.le_of_ble_eq_true rfl), below_setCells _ o3_0.out _ _ _ H9.out.2⟩
    clear H9
    generalize hgw : World.setCells _ _ _ _ = w10 at H10 ⊢
    clear hgw
    refine rest_nil (then_normal ?_)
    refine (walk_any) (by kernel_rfl) 11 [.quiet (PT γ3_0 1), .quiet (U (tkn (fun i => f (9 + i)) k)), .quiet (U (tkn (fun i => f (9 + i)) k * 256)), .quiet (.slice (some ⟨g, o, none⟩) 17 cp), .quiet (.int .i64 ((k : Nat) : Int)), .quiet (.int .i64 ((9 + k : Nat) : Int)), .quiet (PT g (o + (9 + k))), .quiet (.int .u8 ((f (9 + k) : Nat) : Int)), .quiet (U (f (9 + k))), .quiet (U (tkn (fun i => f (9 + i)) (k + 1))), .quiet (PT γ3_0 1)] (fun u' => Mm u' [(γ3_0, pt (tkn (fun i => f (1 + i)) (k + 1)) (tkn (fun i => f (9 + i)) k) (decide (f 0 = 1))), (γ1_0, kd p r c gx gy), (γ1_1, pt 0 0 false)] ∧ Rd g o 17 f u') ?pre8 ?F8 ?hpre8 (fun γ => ?hF8) (by kernel_rfl) ?hL8 ?hS8 ?ho8 ?he8
    case hpre8 => simp only [tk, tz]; rfl
    case hF8 => simp only [fill, Kind.val, Act.put, sa, sz, ss]; rfl
    case hL8 => exact trivial
    case hS8 => exact fun w' hb => ⟨H10.out.1.below hb, hr.below (H10.out.2.trans (hb.mono H10.out.2.size))⟩
    case ho8 =>
      refine ak (by refine fun γ => ⟨rfl, fun w' h => ?_⟩; clear h; go_simp) ?_
      refine ak (fun γ => ⟨rfl, fun w' hX => have h := hX.1; ex_loadC h 0 rfl rfl rfl Try.isAgg23 rfl⟩) ?_
      refine ak (fun γ => ⟨rfl, fun w' _ => ex_shl8 (tkn_small (fun i => hf _) hlt) rfl rfl rfl⟩) ?_
      refine ak (fun _ => ⟨rfl, fun _ _ => rfl⟩) ?_
      refine ak (fun _ => ⟨rfl, fun _ _ => rfl⟩) ?_
      refine ak (by refine fun γ => ⟨rfl, fun w' h => ?_⟩; clear h; go_simp; rw [IntKind.wrap_i64]; omega) ?_
      refine ak (fun γ => ⟨rfl, fun w' _ => ex_idxS rfl rfl rfl (by omega)⟩) ?_
      refine ak (fun γ => ⟨rfl, fun w' hX => ex_ld8 (k := (9 + k)) hX.2 (by omega) rfl rfl⟩) ?_
      refine ak (fun γ => ⟨rfl, fun w' _ => ex_cv64 (hf _) rfl rfl⟩) ?_
      refine ak (fun γ => ⟨rfl, fun w' _ => ex_or8 (tkn_small (fun i => hf _) hlt) (hf _) rfl rfl rfl⟩) ?_
      refine ak (by refine fun γ => ⟨rfl, fun w' h => ?_⟩; clear h; go_simp) ?_
      exact trivial
    intro γ w11 l hM hl
    have H11 := keepB H10 hM.below
    clear hM hl l H10 γ
    refine rest_at (l := [11]) rfl ?_
    refine rest_store rfl rfl rfl (ex_storeI H11.out.1 0 rfl rfl Try.sizeOf23 rfl rfl (Nat.le_of_ble_eq_true rfl)) ?_
    have H12 : Hid (Mm (w11.setCells γ3_0 1 [U (tkn (fun i => f (9 + i)) (k + 1))]) [(γ3_0, pt (tkn (fun i => f (1 + i)) (k + 1)) (tkn (fun i => f (9 + i)) (k + 1)) (decide (f 0 = 1))), (γ1_0, kd p r c gx gy), (γ1_1, pt 0 0 false)] ∧ Below w.heap.size w (w11.setCells γ3_0 1 [U (tkn (fun i => f (9 + i)) (k + 1))])) := ⟨H11.out.1.put 0 (off := 1) (vs := [U (tkn (fun i => f (9 + i)) (k + 1))]) rfl (Nat.le_of_ble_eq_true rfl), below_setCells _ o3_0.out _ _ _ H11.out.2⟩
    clear H11
    generalize hgw : World.setCells _ _ _ _ = w12 at H12 ⊢
    clear hgw
    refine rest_nil (block_normal (then_normal ?_))
    refine walk_seqB 2 [.quiet (.int .i64 ((k : Nat) : Int)), .quiet (.int .i64 ((k + 1 : Nat) : Int))] H12 ?ho9 ?he9
    case ho9 => exact ak (fun _ => ⟨rfl, fun _ _ => rfl⟩) (ak (by refine fun γ => ⟨rfl, fun w' h => ?_⟩; clear h; go_simp; rw [IntKind.wrap_i64]; omega) trivial)
    intro _ w13 H13
    clear H12
    refine rest_at (l := [2]) rfl ?_
    refine rest_set (d := 7) rfl rfl rfl rfl ?_
    simp only [Act.put, sa, sz, ss]
    refine rest_nil (then_normal ?_)
    exact ⟨k + 1, ⟨(slotfn [undef, undef, undef, undef, undef, undef, undef, undef, undef, undef, undef, undef, undef, undef, undef, undef, undef, .int .i64 ((k : Nat) : Int), .bool true, .int .i64 ((k : Nat) : Int), .int .i64 ((k + 1 : Nat) : Int), PT γ3_0 0, U (tkn (fun i => f (1 + i)) k), U (tkn (fun i => f (1 + i)) k * 256), .slice (some ⟨g, o, none⟩) 17 cp, .int .i64 ((k : Nat) : Int), .int .i64 ((1 + k : Nat) : Int), PT g (o + (1 + k)), .int .u8 ((f (1 + k) : Nat) : Int), U (f (1 + k)), U (tkn (fun i => f (1 + i)) (k + 1)), PT γ3_0 0, PT γ3_0 1, U (tkn (fun i => f (9 + i)) k), U (tkn (fun i => f (9 + i)) k * 256), .slice (some ⟨g, o, none⟩) 17 cp, .int .i64 ((k : Nat) : Int), .int .i64 ((9 + k : Nat) : Int), PT g (o + (9 + k)), .int .u8 ((f (9 + k) : Nat) : Int), U (f (9 + k)), U (tkn (fun i => f (9 + i)) (k + 1)), PT γ3_0 1]), rfl, ⟨H13.out.1, H13.out.2⟩, by omega⟩, by omega⟩
  have hk8 : k = 8 := by omega
  subst hk8
  refine wp_seq (wp_seq ?_)
  refine walk_seqB 2 [.quiet (.int .i64 ((8 : Nat) : Int)), .quiet (.bool false)] H7 ?ho10 ?he10
  case ho10 => exact ak (fun _ => ⟨rfl, fun _ _ => rfl⟩) (ak (by refine fun γ => ⟨rfl, fun w' h => ?_⟩; clear h; go_simp <;> omega) trivial)
  intro _ w14 H14
  clear H7
  refine rest0 rfl (then_normal (wp_cond_false rfl ?_))
  refine wp_exit ?_
  repeat refine then_exit ?_
  refine block_exit ?_
  refine then_normal (wp_seq (wp_seq ?_))
  refine (walk_seq) 10 [.quiet (.slice (some ⟨g, o, none⟩) 17 cp), .quiet (PT g (o + 0)), .quiet (.int .u8 ((f 0 : Nat) : Int)), .quiet (.bool false), .quiet (.bool false), .quiet (.agg (kd p r c gx gy).toArray), .quiet (.agg (pt (tkn (fun i => f (1 + i)) 8) (tkn (fun i => f (9 + i)) 8) (decide (f 0 = 1))).toArray), .call (.bool false), .quiet (.bool true), .quiet (.bool true)] (fun u' => Mm u' [(γ3_0, pt (tkn (fun i => f (1 + i)) 8) (tkn (fun i => f (9 + i)) 8) (decide (f 0 = 1))), (γ1_0, kd p r c gx gy), (γ1_1, pt 0 0 false)] ∧ Rd g o 17 f u') ?pre11 ?F11 ?hpre11 (fun γ => ?hF11) (by kernel_rfl) ?hL11 ?hS11 ?ho11 ?he11
  case hpre11 => simp only [tk, tz]; rfl
  case hF11 => simp only [fill, Kind.val, Act.put, sa, sz, ss]; rfl
  case hL11 => exact trivial
  case hS11 => exact fun w' hb => ⟨H14.out.1.below hb, hr.below (H14.out.2.trans (hb.mono H14.out.2.size))⟩
  case ho11 =>
    refine ak (fun _ => ⟨rfl, fun _ _ => rfl⟩) ?_
    refine ak (fun γ => ⟨rfl, fun w' _ => ex_idxS rfl rfl rfl (by omega)⟩) ?_
    refine ak (fun γ => ⟨rfl, fun w' hX => ex_ld8 (k := 0) hX.2 (by omega) rfl rfl⟩) ?_
    refine ak (fun γ => ⟨rfl, fun w' _ => ex_gt8 rfl rfl rfl (decide_eq_false h0)⟩) ?_
    refine ak (fun _ => ⟨rfl, fun _ _ => rfl⟩) ?_
    refine ak (fun γ => ⟨rfl, fun w' hX => have h := hX.1; ex_loadT h 1 rfl rfl rfl Try.isAgg27 Try.sizeOf27 rfl rfl⟩) ?_
    refine ak (fun γ => ⟨rfl, fun w' hX => have h := hX.1; ex_loadT h 0 rfl rfl rfl Try.isAgg25 Try.sizeOf25 rfl rfl⟩) ?_
    refine ak (fun γ => ⟨rfl, fun w' hX => ⟨22, #[.agg (kd p r c gx gy).toArray, .agg (pt (tkn (fun i => f (1 + i)) 8) (tkn (fun i => f (9 + i)) 8) (decide (f 0 = 1))).toArray], exec_call rfl call22 rfl (mpn rfl), dc_is hp _ _ _ _ h1 w'⟩⟩) ?_
    refine ak (by refine fun γ => ⟨rfl, fun w' h => ?_⟩; clear h; go_simp) ?_
    refine ak (by refine fun γ => ⟨rfl, fun w' h => ?_⟩; clear h; go_simp) ?_
    exact trivial
  intro γ w15 l hM hl
  have H15 := keepB H14 hM.below
  clear hM hl l H14 γ
  refine rest0 rfl (then_normal (wp_cond_true rfl (wp_seq ?_)))
  refine walk_seqB 1 [.quiet (.agg (pt 0 0 false).toArray)] H15 ?ho12 ?he12
  case ho12 => exact ak (fun γ => ⟨rfl, fun w' _ => ex_build25_ rfl⟩) trivial
  intro _ w16 H16
  clear H15
  refine rest_at (l := [1, 2]) rfl ?_
  refine rest_store rfl rfl rfl (ex_storeT (vs := pt 0 0 false) H16.out.1 2 rfl rfl rfl rfl Try.sizeOf25 rfl (Nat.le_of_ble_eq_true rfl)) ?_
  have H17 : Hid (Mm (w16.setCells γ1_1 0 (pt 0 0 false)) [(γ3_0, pt (tkn (fun i => f (1 + i)) 8) (tkn (fun i => f (9 + i)) 8) (decide (f 0 = 1))), (γ1_0, kd p r c gx gy), (γ1_1, pt 0 0 false)] ∧ Below w.heap.size w (w16.setCells γ1_1 0 (pt 0 0 false))) := ⟨H16.out.1.put 2 (off := 0) (vs := pt 0 0 false) rfl (Nat.le_of_ble_eq_true rfl), below_setCells _ o1_1.out _ _ _ H16.out.2⟩
  clear H16
  generalize hgw : World.setCells _ _ _ _ = w17 at H17 ⊢
  clear hgw
  refine rest_set (d := 5) rfl rfl rfl rfl ?_
  simp only [Act.put, sa, sz, ss]
  refine rest_nil (then_normal (wp_ret ?_))
  repeat (first | refine then_ret ?_ | refine block_ret ?_)
  have hf0 := var_T H17.out.1 2 rfl Try.isAgg25 Try.sizeOf25 rfl
  refine bodyPost_ret (v := .tuple #[.agg (pt 0 0 false).toArray, .int .i64 4]) (by simp [results, Try.results38, asAddr, Act.eval, hf0]) rfl ?_
  exact ⟨rfl, H17.out.2⟩
set_option maxHeartbeats 1000000 in
set_option maxRecDepth 100000 in
theorem dread_ig (hp : Pr p) (hr64 : r < 18446744073709551616) (g o cp : Nat) (f : Nat → Nat) (hf : ∀ i, f i < 256) (_hc : 17 ≤ cp) (h0 : ¬ 1 < f 0) (h1 : oc p (tkn (fun i => f (1 + i)) 8) (tkn (fun i => f (9 + i)) 8) (decide (f 0 = 1)) = true) (h2 : di p r (tkn (fun i => f (1 + i)) 8) (tkn (fun i => f (9 + i)) 8) (decide (f 0 = 1)) = false) (w : World) (hr : Rd g o 17 f w) :
    Calls Try.prog 38 #[.agg (kd p r c gx gy).toArray, .slice (some ⟨g, o, none⟩) 17 cp] w fun e w' => e = .returned (.tuple #[V (pt 0 0 false), .int .i64 5]) ∧ Below w.heap.size w w' := by
  have H0 : Hid (_ ∧ _) := ⟨Mm.nil w, Below.refl w.heap.size w⟩
  go_enter Try.func38, Try.ntmps38
  refine wp_seq ?_
  refine walk_seqA 3 [.made (kd p r c gx gy) 27, .made (pt 0 0 false) 25, .quiet (.int .i64 0)] (sB H0) ?ho1 ?he1
  case ho1 => exact ak (fun γ => ⟨rfl, fun w' => ex_boxT rfl rfl⟩) (ak (fun γ => ⟨rfl, fun w' => ex_made25 rfl⟩) (ak (fun _ => ⟨rfl, fun _ _ => rfl⟩) trivial))
  intro γ w1 l hM hl
  have H1 : Hid (Mm w1 [(γ 0, kd p r c gx gy), (γ 1, pt 0 0 false)] ∧ _) := growB H0 hM (Nat.le_refl _) hl [0, 1] rfl (by decide)
  have o1_0 := ownB H0 hM (Nat.le_refl _) hl (i := 0) rfl
  have o1_1 := ownB H0 hM (Nat.le_refl _) hl (i := 1) rfl
  clear hM hl l
  generalize γ 0 = γ1_0 at H1 o1_0 ⊢
  generalize γ 1 = γ1_1 at H1 o1_1 ⊢
  clear γ
  refine rest0 rfl (then_normal (wp_seq (wp_seq ?_)))
  refine walk_seqB 3 [.quiet (.slice (some ⟨g, o, none⟩) 17 cp), .quiet (.int .i64 17), .quiet (.bool false)] H1 ?ho2 ?he2
  case ho2 => exact ak (fun _ => ⟨rfl, fun _ _ => rfl⟩) (ak (by refine fun γ => ⟨rfl, fun w' h => ?_⟩; clear h; go_simp) (ak (by refine fun γ => ⟨rfl, fun w' h => ?_⟩; clear h; go_simp) trivial))
  intro _ w2 H2
  clear H1
  refine rest0 rfl (then_normal (wp_cond_false rfl ?_))
  refine wp_skip (then_normal (wp_seq ?_))
  refine walk_seqA 1 [.made (pt 0 0 false) 25] (sB H2) ?ho3 ?he3
  case ho3 => exact ak (fun γ => ⟨rfl, fun w' => ex_made25 rfl⟩) trivial
  intro γ w3 l hM hl
  have H3 : Hid (Mm w3 [(γ 0, pt 0 0 false), (γ1_0, kd p r c gx gy), (γ1_1, pt 0 0 false)] ∧ _) := growB H2 hM (Nat.le_refl _) hl [0] rfl (by decide)
  have o3_0 := ownB H2 hM (Nat.le_refl _) hl (i := 0) rfl
  clear hM hl l H2
  generalize γ 0 = γ3_0 at H3 o3_0 ⊢
  clear γ
  refine rest0 rfl (then_normal (wp_seq ?_))
  refine (walk_seq) 5 [.quiet (.slice (some ⟨g, o, none⟩) 17 cp), .quiet (PT g (o + 0)), .quiet (.int .u8 ((f 0 : Nat) : Int)), .quiet (.bool (decide (f 0 = 1))), .quiet (PT γ3_0 2)] (fun u' => Mm u' [(γ3_0, pt 0 0 false), (γ1_0, kd p r c gx gy), (γ1_1, pt 0 0 false)] ∧ Rd g o 17 f u') ?pre4 ?F4 ?hpre4 (fun γ => ?hF4) (by kernel_rfl) ?hL4 ?hS4 ?ho4 ?he4
  case hpre4 => simp only [tk, tz]; rfl
  case hF4 => simp only [fill, Kind.val, Act.put, sa, sz, ss]; rfl
  case hL4 => exact trivial
  case hS4 => exact fun w' hb => ⟨H3.out.1.below hb, hr.below (H3.out.2.trans (hb.mono H3.out.2.size))⟩
  case ho4 =>
    refine ak (fun _ => ⟨rfl, fun _ _ => rfl⟩) ?_
    refine ak (fun γ => ⟨rfl, fun w' _ => ex_idxS rfl rfl rfl (by omega)⟩) ?_
    refine ak (fun γ => ⟨rfl, fun w' hX => ex_ld8 (k := 0) hX.2 (by omega) rfl rfl⟩) ?_
    refine ak (fun γ => ⟨rfl, fun w' _ => ex_e8 rfl rfl rfl⟩) ?_
    refine ak (by refine fun γ => ⟨rfl, fun w' h => ?_⟩; clear h; go_simp) ?_
    exact trivial
  intro γ w4 l hM hl
  have H4 := keepB H3 hM.below
  clear hM hl l H3 γ
  refine rest_at (l := [5]) rfl ?_
  refine rest_store rfl rfl rfl (ex_storeB H4.out.1 0 rfl rfl Try.sizeOf4 rfl rfl (Nat.le_of_ble_eq_true rfl)) ?_
  have H5 : Hid (Mm (w4.setCells γ3_0 2 [Value.bool (decide (f 0 = 1))]) [(γ3_0, pt 0 0 (decide (f 0 = 1))), (γ1_0, kd p r c gx gy), (γ1_1, pt 0 0 false)] ∧ Below w.heap.size w (w4.setCells γ3_0 2 [Value.bool (decide (f 0 = 1))])) := ⟨H4.out.1.put 0 (off := 2) (vs := [Value.bool (decide (f 0 = 1))]) rfl (Nat.le_of_ble_eq_true rfl), below_setCells _ o3_0.out _ _ _ H4.out.2⟩
  clear H4
  generalize hgw : World.setCells _ _ _ _ = w5 at H5 ⊢
  clear hgw
  refine rest_nil (then_normal ?_)
  refine wp_seq (wp_seq ?_)
  refine walk_seqB 1 [.quiet (.int .i64 0)] H5 ?ho5 ?he5
  case ho5 => exact ak (fun _ => ⟨rfl, fun _ _ => rfl⟩) trivial
  intro _ w6 H6
  clear H5
  refine rest0 rfl (then_normal (wp_block ?_))
  refine loop_ghost (α := Nat) (fun k a' w' => ∃ s0 : Nat → Value, a' = ⟨#[.agg (kd p r c gx gy).toArray, .slice (some ⟨g, o, none⟩) 17 cp, PT γ1_0 0, undef, PT γ1_1 0, .int .i64 0, PT γ3_0 0, .int .i64 ((k : Nat) : Int), .slice (some ⟨g, o, none⟩) 17 cp, .int .i64 17, .bool false, undef, .slice (some ⟨g, o, none⟩) 17 cp, PT g (o + 0), .int .u8 ((f 0 : Nat) : Int), .bool (decide (f 0 = 1)), PT γ3_0 2, s0 17, s0 18, s0 19, s0 20, s0 21, s0 22, s0 23, s0 24, s0 25, s0 26, s0 27, s0 28, s0 29, s0 30, s0 31, s0 32, s0 33, s0 34, s0 35, s0 36, s0 37, s0 38, s0 39, s0 40, s0 41, s0 42, undef, undef, undef, undef, undef, undef, undef, undef, undef, undef, undef, undef, undef, undef, undef, undef, undef], []⟩ ∧ (Mm w' [(γ3_0, pt (tkn (fun i => f (1 + i)) k) (tkn (fun i => f (9 + i)) k) (decide (f 0 = 1))), (γ1_0, kd p r c gx gy), (γ1_1, pt 0 0 false)] ∧ Below w.heap.size w w') ∧ k ≤ 8) (fun k => 8 - k) 0 ?st0 ?rd0
  case st0 => exact ⟨(slotfn [undef, undef, undef, undef, undef, undef, undef, undef, undef, undef, undef, undef, undef, undef, undef, undef, undef, undef, undef, undef, undef, undef, undef, undef, undef, undef, undef, undef, undef, undef, undef, undef, undef, undef, undef, undef, undef, undef, undef, undef, undef, undef, undef]), rfl, ⟨H6.out.1, H6.out.2⟩, by omega⟩
  intro k a' w7 hI
  obtain ⟨s0, rfl, hMB, hk0⟩ := hI
  have H7 : Hid (_ ∧ _) := hMB
  clear hMB H6
  by_cases hlt : k < 8
  · have hrd : True := trivial
    clear hrd
    refine wp_seq (wp_seq ?_)
    refine walk_seqB 2 [.quiet (.int .i64 ((k : Nat) : Int)), .quiet (.bool true)] H7 ?ho6 ?he6
    case ho6 => exact ak (fun _ => ⟨rfl, fun _ _ => rfl⟩) (ak (by refine fun γ => ⟨rfl, fun w' h => ?_⟩; clear h; go_simp <;> omega) trivial)
    intro _ w8 H8
    clear H7
    refine rest0 rfl (then_normal (wp_cond_true rfl ?_))
    refine wp_skip (then_normal ?_)
    refine wp_seq (wp_block (wp_seq ?_))
    refine (walk_any) (by kernel_rfl) 11 [.quiet (PT γ3_0 0), .quiet (U (tkn (fun i => f (1 + i)) k)), .quiet (U (tkn (fun i => f (1 + i)) k * 256)), .quiet (.slice (some ⟨g, o, none⟩) 17 cp), .quiet (.int .i64 ((k : Nat) : Int)), .quiet (.int .i64 ((1 + k : Nat) : Int)), .quiet (PT g (o + (1 + k))), .quiet (.int .u8 ((f (1 + k) : Nat) : Int)), .quiet (U (f (1 + k))), .quiet (U (tkn (fun i => f (1 + i)) (k + 1))), .quiet (PT γ3_0 0)] (fun u' => Mm u' [(γ3_0, pt (tkn (fun i => f (1 + i)) k) (tkn (fun i => f (9 + i)) k) (decide (f 0 = 1))), (γ1_0, kd p r c gx gy), (γ1_1, pt 0 0 false)] ∧ Rd g o 17 f u') ?pre7 ?F7 ?hpre7 (fun γ => ?hF7) (by kernel_rfl) ?hL7 ?hS7 ?ho7 ?he7
    case hpre7 => simp only [tk, tz]; rfl
    case hF7 => simp only [fill, Kind.val, Act.put, sa, sz, ss]; rfl
    case hL7 => exact trivial
    case hS7 => exact fun w' hb => ⟨H8.out.1.below hb, hr.below (H8.out.2.trans (hb.mono H8.out.2.size))⟩
    case ho7 =>
      refine ak (by refine fun γ => ⟨rfl, fun w' h => ?_⟩; clear h; go_simp) ?_
      refine ak (fun γ => ⟨rfl, fun w' hX => have h := hX.1; ex_loadC h 0 rfl rfl rfl Try.isAgg23 rfl⟩) ?_
      refine ak (fun γ => ⟨rfl, fun w' _ => ex_shl8 (tkn_small (fun i => hf _) hlt) rfl rfl rfl⟩) ?_
      refine ak (fun _ => ⟨rfl, fun _ _ => rfl⟩) ?_
      refine ak (fun _ => ⟨rfl, fun _ _ => rfl⟩) ?_
      refine ak (by refine fun γ => ⟨rfl, fun w' h => ?_⟩; clear h; go_simp; rw [IntKind.wrap_i64]; omega) ?_
      refine ak (fun γ => ⟨rfl, fun w' _ => ex_idxS rfl rfl rfl (by omega)⟩) ?_
      refine ak (fun γ => ⟨rfl, fun w' hX => ex_ld8 (k := (1 + k)) hX.2 (by omega) rfl rfl⟩) ?_
      refine ak (fun γ => ⟨rfl, fun w' _ => ex_cv64 (hf _) rfl rfl⟩) ?_
      refine ak (fun γ => ⟨rfl, fun w' _ => ex_or8 (tkn_small (fun i => hf _) hlt) (hf _) rfl rfl rfl⟩) ?_
      refine ak (by refine fun γ => ⟨rfl, fun w' h => ?_⟩; clear h; go_simp) ?_
      exact trivial
    intro γ w9 l hM hl
    have H9 := keepB H8 hM.below
    clear hM hl l H8 γ
    refine rest_at (l := [11]) rfl ?_
    refine rest_store rfl rfl rfl (ex_storeI H9.out.1 0 rfl rfl Try.sizeOf23 rfl rfl (Nat.le_of_ble_eq_true rfl)) ?_
    have H10 : Hid (Mm (w9.setCells γ3_0 0 [U (tkn (fun i => f (1 + i)) (k + 1))]) [(γ3_0, pt (tkn (fun i => f (1 + i)) (k + 1)) (tkn (fun i => f (9 + i)) k) (decide (f 0 = 1))), (γ1_0, kd p r c gx gy), (γ1_1, pt 0 0 false)] ∧ Below w.heap.size w (w9.setCells γ3_0 0 [U (tkn (fun i => f (1 + i)) (k + 1))])) := ⟨H9.out.1.put 0 (off := 0) (vs := [U (tkn (fun i => f (1 + i)) (k + 1))]) rfl (Nat.le_of_ble_eq_true rfl), below_setCells _ o3_0.out _ _ _ H9.out.2⟩
    clear H9
    generalize hgw : World.setCells _ _ _ _ = w10 at H10 ⊢
    clear hgw
    refine rest_nil (then_normal ?_)
    refine (walk_any) (by kernel_rfl) 11 [.quiet (PT γ3_0 1), .quiet (U (tkn (fun i => f (9 + i)) k)), .quiet (U (tkn (fun i => f (9 + i)) k * 256)), .quiet (.slice (some ⟨g, o, none⟩) 17 cp), .quiet (.int .i64 ((k : Nat) : Int)), .quiet (.int .i64 ((9 + k : Nat) : Int)), .quiet (PT g (o + (9 + k))), .quiet (.int .u8 ((f (9 + k) : Nat) : Int)), .quiet (U (f (9 + k))), .quiet (U (tkn (fun i => f (9 + i)) (k + 1))), .quiet (PT γ3_0 1)] (fun u' => Mm u' [(γ3_0, pt (tkn (fun i => f (1 + i)) (k + 1)) (tkn (fun i => f (9 + i)) k) (decide (f 0 = 1))), (γ1_0, kd p r c gx gy), (γ1_1, pt 0 0 false)] ∧ Rd g o 17 f u') ?pre8 ?F8 ?hpre8 (fun γ => ?hF8) (by kernel_rfl) ?hL8 ?hS8 ?ho8 ?he8
    case hpre8 => simp only [tk, tz]; rfl
    case hF8 => simp only [fill, Kind.val, Act.put, sa, sz, ss]; rfl
    case hL8 => exact trivial
    case hS8 => exact fun w' hb => ⟨H10.out.1.below hb, hr.below (H10.out.2.trans (hb.mono H10.out.2.size))⟩
    case ho8 =>
      refine ak (by refine fun γ => ⟨rfl, fun w' h => ?_⟩; clear h; go_simp) ?_
      refine ak (fun γ => ⟨rfl, fun w' hX => have h := hX.1; ex_loadC h 0 rfl rfl rfl Try.isAgg23 rfl⟩) ?_
      refine ak (fun γ => ⟨rfl, fun w' _ => ex_shl8 (tkn_small (fun i => hf _) hlt) rfl rfl rfl⟩) ?_
      refine ak (fun _ => ⟨rfl, fun _ _ => rfl⟩) ?_
      refine ak (fun _ => ⟨rfl, fun _ _ => rfl⟩) ?_
      refine ak (by refine fun γ => ⟨rfl, fun w' h => ?_⟩; clear h; go_simp; rw [IntKind.wrap_i64]; omega) ?_
      refine ak (fun γ => ⟨rfl, fun w' _ => ex_idxS rfl rfl rfl (by omega)⟩) ?_
      refine ak (fun γ => ⟨rfl, fun w' hX => ex_ld8 (k := (9 + k)) hX.2 (by omega) rfl rfl⟩) ?_
      refine ak (fun γ => ⟨rfl, fun w' _ => ex_cv64 (hf _) rfl rfl⟩) ?_
      refine ak (fun γ => ⟨rfl, fun w' _ => ex_or8 (tkn_small (fun i => hf _) hlt) (hf _) rfl rfl rfl⟩) ?_
      refine ak (by refine fun γ => ⟨rfl, fun w' h => ?_⟩; clear h; go_simp) ?_
      exact trivial
    intro γ w11 l hM hl
    have H11 := keepB H10 hM.below
    clear hM hl l H10 γ
    refine rest_at (l := [11]) rfl ?_
    refine rest_store rfl rfl rfl (ex_storeI H11.out.1 0 rfl rfl Try.sizeOf23 rfl rfl (Nat.le_of_ble_eq_true rfl)) ?_
    have H12 : Hid (Mm (w11.setCells γ3_0 1 [U (tkn (fun i => f (9 + i)) (k + 1))]) [(γ3_0, pt (tkn (fun i => f (1 + i)) (k + 1)) (tkn (fun i => f (9 + i)) (k + 1)) (decide (f 0 = 1))), (γ1_0, kd p r c gx gy), (γ1_1, pt 0 0 false)] ∧ Below w.heap.size w (w11.setCells γ3_0 1 [U (tkn (fun i => f (9 + i)) (k + 1))])) := ⟨H11.out.1.put 0 (off := 1) (vs := [U (tkn (fun i => f (9 + i)) (k + 1))]) rfl (Nat.le_of_ble_eq_true rfl), below_setCells _ o3_0.out _ _ _ H11.out.2⟩
    clear H11
    generalize hgw : World.setCells _ _ _ _ = w12 at H12 ⊢
    clear hgw
    refine rest_nil (block_normal (then_normal ?_))
    refine walk_seqB 2 [.quiet (.int .i64 ((k : Nat) : Int)), .quiet (.int .i64 ((k + 1 : Nat) : Int))] H12 ?ho9 ?he9
    case ho9 => exact ak (fun _ => ⟨rfl, fun _ _ => rfl⟩) (ak (by refine fun γ => ⟨rfl, fun w' h => ?_⟩; clear h; go_simp; rw [IntKind.wrap_i64]; omega) trivial)
    intro _ w13 H13
    clear H12
    refine rest_at (l := [2]) rfl ?_
    refine rest_set (d := 7) rfl rfl rfl rfl ?_
    simp only [Act.put, sa, sz, ss]
    refine rest_nil (then_normal ?_)
    exact ⟨k + 1, ⟨(slotfn [undef, undef, undef, undef, undef, undef, undef, undef, undef, undef, undef, undef, undef, undef, undef, undef, undef, .int .i64 ((k : Nat) : Int), .bool true, .int .i64 ((k : Nat) : Int), .int .i64 ((k + 1 : Nat) : Int), PT γ3_0 0, U (tkn (fun i => f (1 + i)) k), U (tkn (fun i => f (1 + i)) k * 256), .slice (some ⟨g, o, none⟩) 17 cp, .int .i64 ((k : Nat) : Int), .int .i64 ((1 + k : Nat) : Int), PT g (o + (1 + k)), .int .u8 ((f (1 + k) : Nat) : Int), U (f (1 + k)), U (tkn (fun i => f (1 + i)) (k + 1)), PT γ3_0 0, PT γ3_0 1, U (tkn (fun i => f (9 + i)) k), U (tkn (fun i => f (9 + i)) k * 256), .slice (some ⟨g, o, none⟩) 17 cp, .int .i64 ((k : Nat) : Int), .int .i64 ((9 + k : Nat) : Int), PT g (o + (9 + k)), .int .u8 ((f (9 + k) : Nat) : Int), U (f (9 + k)), U (tkn (fun i => f (9 + i)) (k + 1)), PT γ3_0 1]), rfl, ⟨H13.out.1, H13.out.2⟩, by omega⟩, by omega⟩
  have hk8 : k = 8 := by omega
  subst hk8
  refine wp_seq (wp_seq ?_)
  refine walk_seqB 2 [.quiet (.int .i64 ((8 : Nat) : Int)), .quiet (.bool false)] H7 ?ho10 ?he10
  case ho10 => exact ak (fun _ => ⟨rfl, fun _ _ => rfl⟩) (ak (by refine fun γ => ⟨rfl, fun w' h => ?_⟩; clear h; go_simp <;> omega) trivial)
  intro _ w14 H14
  clear H7
  refine rest0 rfl (then_normal (wp_cond_false rfl ?_))
  refine wp_exit ?_
  repeat refine then_exit ?_
  refine block_exit ?_
  refine then_normal (wp_seq (wp_seq ?_))
  refine (walk_seq) 10 [.quiet (.slice (some ⟨g, o, none⟩) 17 cp), .quiet (PT g (o + 0)), .quiet (.int .u8 ((f 0 : Nat) : Int)), .quiet (.bool false), .quiet (.bool false), .quiet (.agg (kd p r c gx gy).toArray), .quiet (.agg (pt (tkn (fun i => f (1 + i)) 8) (tkn (fun i => f (9 + i)) 8) (decide (f 0 = 1))).toArray), .call (.bool true), .quiet (.bool false), .quiet (.bool false)] (fun u' => Mm u' [(γ3_0, pt (tkn (fun i => f (1 + i)) 8) (tkn (fun i => f (9 + i)) 8) (decide (f 0 = 1))), (γ1_0, kd p r c gx gy), (γ1_1, pt 0 0 false)] ∧ Rd g o 17 f u') ?pre11 ?F11 ?hpre11 (fun γ => ?hF11) (by kernel_rfl) ?hL11 ?hS11 ?ho11 ?he11
  case hpre11 => simp only [tk, tz]; rfl
  case hF11 => simp only [fill, Kind.val, Act.put, sa, sz, ss]; rfl
  case hL11 => exact trivial
  case hS11 => exact fun w' hb => ⟨H14.out.1.below hb, hr.below (H14.out.2.trans (hb.mono H14.out.2.size))⟩
  case ho11 =>
    refine ak (fun _ => ⟨rfl, fun _ _ => rfl⟩) ?_
    refine ak (fun γ => ⟨rfl, fun w' _ => ex_idxS rfl rfl rfl (by omega)⟩) ?_
    refine ak (fun γ => ⟨rfl, fun w' hX => ex_ld8 (k := 0) hX.2 (by omega) rfl rfl⟩) ?_
    refine ak (fun γ => ⟨rfl, fun w' _ => ex_gt8 rfl rfl rfl (decide_eq_false h0)⟩) ?_
    refine ak (fun _ => ⟨rfl, fun _ _ => rfl⟩) ?_
    refine ak (fun γ => ⟨rfl, fun w' hX => have h := hX.1; ex_loadT h 1 rfl rfl rfl Try.isAgg27 Try.sizeOf27 rfl rfl⟩) ?_
    refine ak (fun γ => ⟨rfl, fun w' hX => have h := hX.1; ex_loadT h 0 rfl rfl rfl Try.isAgg25 Try.sizeOf25 rfl rfl⟩) ?_
    refine ak (fun γ => ⟨rfl, fun w' hX => ⟨22, #[.agg (kd p r c gx gy).toArray, .agg (pt (tkn (fun i => f (1 + i)) 8) (tkn (fun i => f (9 + i)) 8) (decide (f 0 = 1))).toArray], exec_call rfl call22 rfl (mpn rfl), dc_is hp _ _ _ _ h1 w'⟩⟩) ?_
    refine ak (by refine fun γ => ⟨rfl, fun w' h => ?_⟩; clear h; go_simp) ?_
    refine ak (by refine fun γ => ⟨rfl, fun w' h => ?_⟩; clear h; go_simp) ?_
    exact trivial
  intro γ w15 l hM hl
  have H15 := keepB H14 hM.below
  clear hM hl l H14 γ
  refine rest0 rfl (then_normal (wp_cond_false rfl ?_))
  refine wp_skip (then_normal ?_)
  refine wp_seq (wp_seq ?_)
  refine walk_seqB 4 [.quiet (.agg (kd p r c gx gy).toArray), .quiet (.agg (pt (tkn (fun i => f (1 + i)) 8) (tkn (fun i => f (9 + i)) 8) (decide (f 0 = 1))).toArray), .call (.bool false), .quiet (.bool true)] H15 ?ho12 ?he12
  case ho12 => exact ak (fun γ => ⟨rfl, fun w' h => ex_loadT h 1 rfl rfl rfl Try.isAgg27 Try.sizeOf27 rfl rfl⟩) (ak (fun γ => ⟨rfl, fun w' h => ex_loadT h 0 rfl rfl rfl Try.isAgg25 Try.sizeOf25 rfl rfl⟩) (ak (fun γ => ⟨rfl, fun w' h => ⟨23, #[.agg (kd p r c gx gy).toArray, .agg (pt (tkn (fun i => f (1 + i)) 8) (tkn (fun i => f (9 + i)) 8) (decide (f 0 = 1))).toArray], exec_call rfl call23 rfl (mpn rfl), di_is hp hr64 _ _ _ _ h2 w'⟩⟩) (ak (by refine fun γ => ⟨rfl, fun w' h => ?_⟩; clear h; go_simp) trivial)))
  intro _ w16 H16
  clear H15
  refine rest0 rfl (then_normal (wp_cond_true rfl (wp_seq ?_)))
  refine walk_seqB 1 [.quiet (.agg (pt 0 0 false).toArray)] H16 ?ho13 ?he13
  case ho13 => exact ak (fun γ => ⟨rfl, fun w' _ => ex_build25_ rfl⟩) trivial
  intro _ w17 H17
  clear H16
  refine rest_at (l := [1, 2]) rfl ?_
  refine rest_store rfl rfl rfl (ex_storeT (vs := pt 0 0 false) H17.out.1 2 rfl rfl rfl rfl Try.sizeOf25 rfl (Nat.le_of_ble_eq_true rfl)) ?_
  have H18 : Hid (Mm (w17.setCells γ1_1 0 (pt 0 0 false)) [(γ3_0, pt (tkn (fun i => f (1 + i)) 8) (tkn (fun i => f (9 + i)) 8) (decide (f 0 = 1))), (γ1_0, kd p r c gx gy), (γ1_1, pt 0 0 false)] ∧ Below w.heap.size w (w17.setCells γ1_1 0 (pt 0 0 false))) := ⟨H17.out.1.put 2 (off := 0) (vs := pt 0 0 false) rfl (Nat.le_of_ble_eq_true rfl), below_setCells _ o1_1.out _ _ _ H17.out.2⟩
  clear H17
  generalize hgw : World.setCells _ _ _ _ = w18 at H18 ⊢
  clear hgw
  refine rest_set (d := 5) rfl rfl rfl rfl ?_
  simp only [Act.put, sa, sz, ss]
  refine rest_nil (then_normal (wp_ret ?_))
  repeat (first | refine then_ret ?_ | refine block_ret ?_)
  have hf0 := var_T H18.out.1 2 rfl Try.isAgg25 Try.sizeOf25 rfl
  refine bodyPost_ret (v := .tuple #[.agg (pt 0 0 false).toArray, .int .i64 5]) (by simp [results, Try.results38, asAddr, Act.eval, hf0]) rfl ?_
  exact ⟨rfl, H18.out.2⟩
set_option maxHeartbeats 1000000 in
set_option maxRecDepth 100000 in
theorem dread_ok (hp : Pr p) (hr64 : r < 18446744073709551616) (g o cp : Nat) (f : Nat → Nat) (hf : ∀ i, f i < 256) (_hc : 17 ≤ cp) (h0 : ¬ 1 < f 0) (h1 : oc p (tkn (fun i => f (1 + i)) 8) (tkn (fun i => f (9 + i)) 8) (decide (f 0 = 1)) = true) (h2 : di p r (tkn (fun i => f (1 + i)) 8) (tkn (fun i => f (9 + i)) 8) (decide (f 0 = 1)) = true) (w : World) (hr : Rd g o 17 f w) :
    Calls Try.prog 38 #[.agg (kd p r c gx gy).toArray, .slice (some ⟨g, o, none⟩) 17 cp] w fun e w' => e = .returned (.tuple #[V (pt (tkn (fun i => f (1 + i)) 8) (tkn (fun i => f (9 + i)) 8) (decide (f 0 = 1))), .int .i64 0]) ∧ Below w.heap.size w w' := by
  have H0 : Hid (_ ∧ _) := ⟨Mm.nil w, Below.refl w.heap.size w⟩
  go_enter Try.func38, Try.ntmps38
  refine wp_seq ?_
  refine walk_seqA 3 [.made (kd p r c gx gy) 27, .made (pt 0 0 false) 25, .quiet (.int .i64 0)] (sB H0) ?ho1 ?he1
  case ho1 => exact ak (fun γ => ⟨rfl, fun w' => ex_boxT rfl rfl⟩) (ak (fun γ => ⟨rfl, fun w' => ex_made25 rfl⟩) (ak (fun _ => ⟨rfl, fun _ _ => rfl⟩) trivial))
  intro γ w1 l hM hl
  have H1 : Hid (Mm w1 [(γ 0, kd p r c gx gy), (γ 1, pt 0 0 false)] ∧ _) := growB H0 hM (Nat.le_refl _) hl [0, 1] rfl (by decide)
  have o1_0 := ownB H0 hM (Nat.le_refl _) hl (i := 0) rfl
  have o1_1 := ownB H0 hM (Nat.le_refl _) hl (i := 1) rfl
  clear hM hl l
  generalize γ 0 = γ1_0 at H1 o1_0 ⊢
  generalize γ 1 = γ1_1 at H1 o1_1 ⊢
  clear γ
  refine rest0 rfl (then_normal (wp_seq (wp_seq ?_)))
  refine walk_seqB 3 [.quiet (.slice (some ⟨g, o, none⟩) 17 cp), .quiet (.int .i64 17), .quiet (.bool false)] H1 ?ho2 ?he2
  case ho2 => exact ak (fun _ => ⟨rfl, fun _ _ => rfl⟩) (ak (by refine fun γ => ⟨rfl, fun w' h => ?_⟩; clear h; go_simp) (ak (by refine fun γ => ⟨rfl, fun w' h => ?_⟩; clear h; go_simp) trivial))
  intro _ w2 H2
  clear H1
  refine rest0 rfl (then_normal (wp_cond_false rfl ?_))
  refine wp_skip (then_normal (wp_seq ?_))
  refine walk_seqA 1 [.made (pt 0 0 false) 25] (sB H2) ?ho3 ?he3
  case ho3 => exact ak (fun γ => ⟨rfl, fun w' => ex_made25 rfl⟩) trivial
  intro γ w3 l hM hl
  have H3 : Hid (Mm w3 [(γ 0, pt 0 0 false), (γ1_0, kd p r c gx gy), (γ1_1, pt 0 0 false)] ∧ _) := growB H2 hM (Nat.le_refl _) hl [0] rfl (by decide)
  have o3_0 := ownB H2 hM (Nat.le_refl _) hl (i := 0) rfl
  clear hM hl l H2
  generalize γ 0 = γ3_0 at H3 o3_0 ⊢
  clear γ
  refine rest0 rfl (then_normal (wp_seq ?_))
  refine (walk_seq) 5 [.quiet (.slice (some ⟨g, o, none⟩) 17 cp), .quiet (PT g (o + 0)), .quiet (.int .u8 ((f 0 : Nat) : Int)), .quiet (.bool (decide (f 0 = 1))), .quiet (PT γ3_0 2)] (fun u' => Mm u' [(γ3_0, pt 0 0 false), (γ1_0, kd p r c gx gy), (γ1_1, pt 0 0 false)] ∧ Rd g o 17 f u') ?pre4 ?F4 ?hpre4 (fun γ => ?hF4) (by kernel_rfl) ?hL4 ?hS4 ?ho4 ?he4
  case hpre4 => simp only [tk, tz]; rfl
  case hF4 => simp only [fill, Kind.val, Act.put, sa, sz, ss]; rfl
  case hL4 => exact trivial
  case hS4 => exact fun w' hb => ⟨H3.out.1.below hb, hr.below (H3.out.2.trans (hb.mono H3.out.2.size))⟩
  case ho4 =>
    refine ak (fun _ => ⟨rfl, fun _ _ => rfl⟩) ?_
    refine ak (fun γ => ⟨rfl, fun w' _ => ex_idxS rfl rfl rfl (by omega)⟩) ?_
    refine ak (fun γ => ⟨rfl, fun w' hX => ex_ld8 (k := 0) hX.2 (by omega) rfl rfl⟩) ?_
    refine ak (fun γ => ⟨rfl, fun w' _ => ex_e8 rfl rfl rfl⟩) ?_
    refine ak (by refine fun γ => ⟨rfl, fun w' h => ?_⟩; clear h; go_simp) ?_
    exact trivial
  intro γ w4 l hM hl
  have H4 := keepB H3 hM.below
  clear hM hl l H3 γ
  refine rest_at (l := [5]) rfl ?_
  refine rest_store rfl rfl rfl (ex_storeB H4.out.1 0 rfl rfl Try.sizeOf4 rfl rfl (Nat.le_of_ble_eq_true rfl)) ?_
  have H5 : Hid (Mm (w4.setCells γ3_0 2 [Value.bool (decide (f 0 = 1))]) [(γ3_0, pt 0 0 (decide (f 0 = 1))), (γ1_0, kd p r c gx gy), (γ1_1, pt 0 0 false)] ∧ Below w.heap.size w (w4.setCells γ3_0 2 [Value.bool (decide (f 0 = 1))])) := ⟨H4.out.1.put 0 (off := 2) (vs := [Value.bool (decide (f 0 = 1))]) rfl (Nat.le_of_ble_eq_true rfl), below_setCells _ o3_0.out _ _ _ H4.out.2⟩
  clear H4
  generalize hgw : World.setCells _ _ _ _ = w5 at H5 ⊢
  clear hgw
  refine rest_nil (then_normal ?_)
  refine wp_seq (wp_seq ?_)
  refine walk_seqB 1 [.quiet (.int .i64 0)] H5 ?ho5 ?he5
  case ho5 => exact ak (fun _ => ⟨rfl, fun _ _ => rfl⟩) trivial
  intro _ w6 H6
  clear H5
  refine rest0 rfl (then_normal (wp_block ?_))
  refine loop_ghost (α := Nat) (fun k a' w' => ∃ s0 : Nat → Value, a' = ⟨#[.agg (kd p r c gx gy).toArray, .slice (some ⟨g, o, none⟩) 17 cp, PT γ1_0 0, undef, PT γ1_1 0, .int .i64 0, PT γ3_0 0, .int .i64 ((k : Nat) : Int), .slice (some ⟨g, o, none⟩) 17 cp, .int .i64 17, .bool false, undef, .slice (some ⟨g, o, none⟩) 17 cp, PT g (o + 0), .int .u8 ((f 0 : Nat) : Int), .bool (decide (f 0 = 1)), PT γ3_0 2, s0 17, s0 18, s0 19, s0 20, s0 21, s0 22, s0 23, s0 24, s0 25, s0 26, s0 27, s0 28, s0 29, s0 30, s0 31, s0 32, s0 33, s0 34, s0 35, s0 36, s0 37, s0 38, s0 39, s0 40, s0 41, s0 42, undef, undef, undef, undef, undef, undef, undef, undef, undef, undef, undef, undef, undef, undef, undef, undef, undef], []⟩ ∧ (Mm w' [(γ3_0, pt (tkn (fun i => f (1 + i)) k) (tkn (fun i => f (9 + i)) k) (decide (f 0 = 1))), (γ1_0, kd p r c gx gy), (γ1_1, pt 0 0 false)] ∧ Below w.heap.size w w') ∧ k ≤ 8) (fun k => 8 - k) 0 ?st0 ?rd0
  case st0 => exact ⟨(slotfn [undef, undef, undef, undef, undef, undef, undef, undef, undef, undef, undef, undef, undef, undef, undef, undef, undef, undef, undef, undef, undef, undef, undef, undef, undef, undef, undef, undef, undef, undef, undef, undef, undef, undef, undef, undef, undef, undef, undef, undef, undef, undef, undef]), rfl, ⟨H6.out.1, H6.out.2⟩, by omega⟩
  intro k a' w7 hI
  obtain ⟨s0, rfl, hMB, hk0⟩ := hI
  have H7 : Hid (_ ∧ _) := hMB
  clear hMB H6
  by_cases hlt : k < 8
  · have hrd : True := trivial
    clear hrd
    refine wp_seq (wp_seq ?_)
    refine walk_seqB 2 [.quiet (.int .i64 ((k : Nat) : Int)), .quiet (.bool true)] H7 ?ho6 ?he6
    case ho6 => exact ak (fun _ => ⟨rfl, fun _ _ => rfl⟩) (ak (by refine fun γ => ⟨rfl, fun w' h => ?_⟩; clear h; go_simp <;> omega) trivial)
    intro _ w8 H8
    clear H7
    refine rest0 rfl (then_normal (wp_cond_true rfl ?_))
    refine wp_skip (then_normal ?_)
    refine wp_seq (wp_block (wp_seq ?_))
    refine (walk_any) (by kernel_rfl) 11 [.quiet (PT γ3_0 0), .quiet (U (tkn (fun i => f (1 + i)) k)), .quiet (U (tkn (fun i => f (1 + i)) k * 256)), .quiet (.slice (some ⟨g, o, none⟩) 17 cp), .quiet (.int .i64 ((k : Nat) : Int)), .quiet (.int .i64 ((1 + k : Nat) : Int)), .quiet (PT g (o + (1 + k))), .quiet (.int .u8 ((f (1 + k) : Nat) : Int)), .quiet (U (f (1 + k))), .quiet (U (tkn (fun i => f (1 + i)) (k + 1))), .quiet (PT γ3_0 0)] (fun u' => Mm u' [(γ3_0, pt (tkn (fun i => f (1 + i)) k) (tkn (fun i => f (9 + i)) k) (decide (f 0 = 1))), (γ1_0, kd p r c gx gy), (γ1_1, pt 0 0 false)] ∧ Rd g o 17 f u') ?pre7 ?F7 ?hpre7 (fun γ => ?hF7) (by kernel_rfl) ?hL7 ?hS7 ?ho7 ?he7
    case hpre7 => simp only [tk, tz]; rfl
    case hF7 => simp only [fill, Kind.val, Act.put, sa, sz, ss]; rfl
    case hL7 => exact trivial
    case hS7 => exact fun w' hb => ⟨H8.out.1.below hb, hr.below (H8.out.2.trans (hb.mono H8.out.2.size))⟩
    case ho7 =>
      refine ak (by refine fun γ => ⟨rfl, fun w' h => ?_⟩; clear h; go_simp) ?_
      refine ak (fun γ => ⟨rfl, fun w' hX => have h := hX.1; ex_loadC h 0 rfl rfl rfl Try.isAgg23 rfl⟩) ?_
      refine ak (fun γ => ⟨rfl, fun w' _ => ex_shl8 (tkn_small (fun i => hf _) hlt) rfl rfl rfl⟩) ?_
      refine ak (fun _ => ⟨rfl, fun _ _ => rfl⟩) ?_
      refine ak (fun _ => ⟨rfl, fun _ _ => rfl⟩) ?_
      refine ak (by refine fun γ => ⟨rfl, fun w' h => ?_⟩; clear h; go_simp; rw [IntKind.wrap_i64]; omega) ?_
      refine ak (fun γ => ⟨rfl, fun w' _ => ex_idxS rfl rfl rfl (by omega)⟩) ?_
      refine ak (fun γ => ⟨rfl, fun w' hX => ex_ld8 (k := (1 + k)) hX.2 (by omega) rfl rfl⟩) ?_
      refine ak (fun γ => ⟨rfl, fun w' _ => ex_cv64 (hf _) rfl rfl⟩) ?_
      refine ak (fun γ => ⟨rfl, fun w' _ => ex_or8 (tkn_small (fun i => hf _) hlt) (hf _) rfl rfl rfl⟩) ?_
      refine ak (by refine fun γ => ⟨rfl, fun w' h => ?_⟩; clear h; go_simp) ?_
      exact trivial
    intro γ w9 l hM hl
    have H9 := keepB H8 hM.below
    clear hM hl l H8 γ
    refine rest_at (l := [11]) rfl ?_
    refine rest_store rfl rfl rfl (ex_storeI H9.out.1 0 rfl rfl Try.sizeOf23 rfl rfl (Nat.le_of_ble_eq_true rfl)) ?_
    have H10 : Hid (Mm (w9.setCells γ3_0 0 [U (tkn (fun i => f (1 + i)) (k + 1))]) [(γ3_0, pt (tkn (fun i => f (1 + i)) (k + 1)) (tkn (fun i => f (9 + i)) k) (decide (f 0 = 1))), (γ1_0, kd p r c gx gy), (γ1_1, pt 0 0 false)] ∧ Below w.heap.size w (w9.setCells γ3_0 0 [U (tkn (fun i => f (1 + i)) (k + 1))])) := ⟨H9.out.1.put 0 (off := 0) (vs := [U (tkn (fun i => f (1 + i)) (k + 1))]) rfl (Nat.le_of_ble_eq_true rfl), below_setCells _ o3_0.out _ _ _ H9.out.2⟩
    clear H9
    generalize hgw : World.setCells _ _ _ _ = w10 at H10 ⊢
    clear hgw
    refine rest_nil (then_normal ?_)
    refine (walk_any) (by kernel_rfl) 11 [.quiet (PT γ3_0 1), .quiet (U (tkn (fun i => f (9 + i)) k)), .quiet (U (tkn (fun i => f (9 + i)) k * 256)), .quiet (.slice (some ⟨g, o, none⟩) 17 cp), .quiet (.int .i64 ((k : Nat) : Int)), .quiet (.int .i64 ((9 + k : Nat) : Int)), .quiet (PT g (o + (9 + k))), .quiet (.int .u8 ((f (9 + k) : Nat) : Int)), .quiet (U (f (9 + k))), .quiet (U (tkn (fun i => f (9 + i)) (k + 1))), .quiet (PT γ3_0 1)] (fun u' => Mm u' [(γ3_0, pt (tkn (fun i => f (1 + i)) (k + 1)) (tkn (fun i => f (9 + i)) k) (decide (f 0 = 1))), (γ1_0, kd p r c gx gy), (γ1_1, pt 0 0 false)] ∧ Rd g o 17 f u') ?pre8 ?F8 ?hpre8 (fun γ => ?hF8) (by kernel_rfl) ?hL8 ?hS8 ?ho8 ?he8
    case hpre8 => simp only [tk, tz]; rfl
    case hF8 => simp only [fill, Kind.val, Act.put, sa, sz, ss]; rfl
    case hL8 => exact trivial
    case hS8 => exact fun w' hb => ⟨H10.out.1.below hb, hr.below (H10.out.2.trans (hb.mono H10.out.2.size))⟩
    case ho8 =>
      refine ak (by refine fun γ => ⟨rfl, fun w' h => ?_⟩; clear h; go_simp) ?_
      refine ak (fun γ => ⟨rfl, fun w' hX => have h := hX.1; ex_loadC h 0 rfl rfl rfl Try.isAgg23 rfl⟩) ?_
      refine ak (fun γ => ⟨rfl, fun w' _ => ex_shl8 (tkn_small (fun i => hf _) hlt) rfl rfl rfl⟩) ?_
      refine ak (fun _ => ⟨rfl, fun _ _ => rfl⟩) ?_
      refine ak (fun _ => ⟨rfl, fun _ _ => rfl⟩) ?_
      refine ak (by refine fun γ => ⟨rfl, fun w' h => ?_⟩; clear h; go_simp; rw [IntKind.wrap_i64]; omega) ?_
      refine ak (fun γ => ⟨rfl, fun w' _ => ex_idxS rfl rfl rfl (by omega)⟩) ?_
      refine ak (fun γ => ⟨rfl, fun w' hX => ex_ld8 (k := (9 + k)) hX.2 (by omega) rfl rfl⟩) ?_
      refine ak (fun γ => ⟨rfl, fun w' _ => ex_cv64 (hf _) rfl rfl⟩) ?_
      refine ak (fun γ => ⟨rfl, fun w' _ => ex_or8 (tkn_small (fun i => hf _) hlt) (hf _) rfl rfl rfl⟩) ?_
      refine ak (by refine fun γ => ⟨rfl, fun w' h => ?_⟩; clear h; go_simp) ?_
      exact trivial
    intro γ w11 l hM hl
    have H11 := keepB H10 hM.below
    clear hM hl l H10 γ
    refine rest_at (l := [11]) rfl ?_
    refine rest_store rfl rfl rfl (ex_storeI H11.out.1 0 rfl rfl Try.sizeOf23 rfl rfl (Nat.le_of_ble_eq_true rfl)) ?_
    have H12 : Hid (Mm (w11.setCells γ3_0 1 [U (tkn (fun i => f (9 + i)) (k + 1))]) [(γ3_0, pt (tkn (fun i => f (1 + i)) (k + 1)) (tkn (fun i => f (9 + i)) (k + 1)) (decide (f 0 = 1))), (γ1_0, kd p r c gx gy), (γ1_1, pt 0 0 false)] ∧ Below w.heap.size w (w11.setCells γ3_0 1 [U (tkn (fun i => f (9 + i)) (k + 1))])) := ⟨H11.out.1.put 0 (off := 1) (vs := [U (tkn (fun i => f (9 + i)) (k + 1))]) rfl (Nat.le_of_ble_eq_true rfl), below_setCells _ o3_0.out _ _ _ H11.out.2⟩
    clear H11
    generalize hgw : World.setCells _ _ _ _ = w12 at H12 ⊢
    clear hgw
    refine rest_nil (block_normal (then_normal ?_))
    refine walk_seqB 2 [.quiet (.int .i64 ((k : Nat) : Int)), .quiet (.int .i64 ((k + 1 : Nat) : Int))] H12 ?ho9 ?he9
    case ho9 => exact ak (fun _ => ⟨rfl, fun _ _ => rfl⟩) (ak (by refine fun γ => ⟨rfl, fun w' h => ?_⟩; clear h; go_simp; rw [IntKind.wrap_i64]; omega) trivial)
    intro _ w13 H13
    clear H12
    refine rest_at (l := [2]) rfl ?_
    refine rest_set (d := 7) rfl rfl rfl rfl ?_
    simp only [Act.put, sa, sz, ss]
    refine rest_nil (then_normal ?_)
    exact ⟨k + 1, ⟨(slotfn [undef, undef, undef, undef, undef, undef, undef, undef, undef, undef, undef, undef, undef, undef, undef, undef, undef, .int .i64 ((k : Nat) : Int), .bool true, .int .i64 ((k : Nat) : Int), .int .i64 ((k + 1 : Nat) : Int), PT γ3_0 0, U (tkn (fun i => f (1 + i)) k), U (tkn (fun i => f (1 + i)) k * 256), .slice (some ⟨g, o, none⟩) 17 cp, .int .i64 ((k : Nat) : Int), .int .i64 ((1 + k : Nat) : Int), PT g (o + (1 + k)), .int .u8 ((f (1 + k) : Nat) : Int), U (f (1 + k)), U (tkn (fun i => f (1 + i)) (k + 1)), PT γ3_0 0, PT γ3_0 1, U (tkn (fun i => f (9 + i)) k), U (tkn (fun i => f (9 + i)) k * 256), .slice (some ⟨g, o, none⟩) 17 cp, .int .i64 ((k : Nat) : Int), .int .i64 ((9 + k : Nat) : Int), PT g (o + (9 + k)), .int .u8 ((f (9 + k) : Nat) : Int), U (f (9 + k)), U (tkn (fun i => f (9 + i)) (k + 1)), PT γ3_0 1]), rfl, ⟨H13.out.1, H13.out.2⟩, by omega⟩, by omega⟩
  have hk8 : k = 8 := by omega
  subst hk8
  refine wp_seq (wp_seq ?_)
  refine walk_seqB 2 [.quiet (.int .i64 ((8 : Nat) : Int)), .quiet (.bool false)] H7 ?ho10 ?he10
  case ho10 => exact ak (fun _ => ⟨rfl, fun _ _ => rfl⟩) (ak (by refine fun γ => ⟨rfl, fun w' h => ?_⟩; clear h; go_simp <;> omega) trivial)
  intro _ w14 H14
  clear H7
  refine rest0 rfl (then_normal (wp_cond_false rfl ?_))
  refine wp_exit ?_
  repeat refine then_exit ?_
  refine block_exit ?_
  refine then_normal (wp_seq (wp_seq ?_))
  refine (walk_seq) 10 [.quiet (.slice (some ⟨g, o, none⟩) 17 cp), .quiet (PT g (o + 0)), .quiet (.int .u8 ((f 0 : Nat) : Int)), .quiet (.bool false), .quiet (.bool false), .quiet (.agg (kd p r c gx gy).toArray), .quiet (.agg (pt (tkn (fun i => f (1 + i)) 8) (tkn (fun i => f (9 + i)) 8) (decide (f 0 = 1))).toArray), .call (.bool true), .quiet (.bool false), .quiet (.bool false)] (fun u' => Mm u' [(γ3_0, pt (tkn (fun i => f (1 + i)) 8) (tkn (fun i => f (9 + i)) 8) (decide (f 0 = 1))), (γ1_0, kd p r c gx gy), (γ1_1, pt 0 0 false)] ∧ Rd g o 17 f u') ?pre11 ?F11 ?hpre11 (fun γ => ?hF11) (by kernel_rfl) ?hL11 ?hS11 ?ho11 ?he11
  case hpre11 => simp only [tk, tz]; rfl
  case hF11 => simp only [fill, Kind.val, Act.put, sa, sz, ss]; rfl
  case hL11 => exact trivial
  case hS11 => exact fun w' hb => ⟨H14.out.1.below hb, hr.below (H14.out.2.trans (hb.mono H14.out.2.size))⟩
  case ho11 =>
    refine ak (fun _ => ⟨rfl, fun _ _ => rfl⟩) ?_
    refine ak (fun γ => ⟨rfl, fun w' _ => ex_idxS rfl rfl rfl (by omega)⟩) ?_
    refine ak (fun γ => ⟨rfl, fun w' hX => ex_ld8 (k := 0) hX.2 (by omega) rfl rfl⟩) ?_
    refine ak (fun γ => ⟨rfl, fun w' _ => ex_gt8 rfl rfl rfl (decide_eq_false h0)⟩) ?_
    refine ak (fun _ => ⟨rfl, fun _ _ => rfl⟩) ?_
    refine ak (fun γ => ⟨rfl, fun w' hX => have h := hX.1; ex_loadT h 1 rfl rfl rfl Try.isAgg27 Try.sizeOf27 rfl rfl⟩) ?_
    refine ak (fun γ => ⟨rfl, fun w' hX => have h := hX.1; ex_loadT h 0 rfl rfl rfl Try.isAgg25 Try.sizeOf25 rfl rfl⟩) ?_
    refine ak (fun γ => ⟨rfl, fun w' hX => ⟨22, #[.agg (kd p r c gx gy).toArray, .agg (pt (tkn (fun i => f (1 + i)) 8) (tkn (fun i => f (9 + i)) 8) (decide (f 0 = 1))).toArray], exec_call rfl call22 rfl (mpn rfl), dc_is hp _ _ _ _ h1 w'⟩⟩) ?_
    refine ak (by refine fun γ => ⟨rfl, fun w' h => ?_⟩; clear h; go_simp) ?_
    refine ak (by refine fun γ => ⟨rfl, fun w' h => ?_⟩; clear h; go_simp) ?_
    exact trivial
  intro γ w15 l hM hl
  have H15 := keepB H14 hM.below
  clear hM hl l H14 γ
  refine rest0 rfl (then_normal (wp_cond_false rfl ?_))
  refine wp_skip (then_normal ?_)
  refine wp_seq (wp_seq ?_)
  refine walk_seqB 4 [.quiet (.agg (kd p r c gx gy).toArray), .quiet (.agg (pt (tkn (fun i => f (1 + i)) 8) (tkn (fun i => f (9 + i)) 8) (decide (f 0 = 1))).toArray), .call (.bool true), .quiet (.bool false)] H15 ?ho12 ?he12
  case ho12 => exact ak (fun γ => ⟨rfl, fun w' h => ex_loadT h 1 rfl rfl rfl Try.isAgg27 Try.sizeOf27 rfl rfl⟩) (ak (fun γ => ⟨rfl, fun w' h => ex_loadT h 0 rfl rfl rfl Try.isAgg25 Try.sizeOf25 rfl rfl⟩) (ak (fun γ => ⟨rfl, fun w' h => ⟨23, #[.agg (kd p r c gx gy).toArray, .agg (pt (tkn (fun i => f (1 + i)) 8) (tkn (fun i => f (9 + i)) 8) (decide (f 0 = 1))).toArray], exec_call rfl call23 rfl (mpn rfl), di_is hp hr64 _ _ _ _ h2 w'⟩⟩) (ak (by refine fun γ => ⟨rfl, fun w' h => ?_⟩; clear h; go_simp) trivial)))
  intro _ w16 H16
  clear H15
  refine rest0 rfl (then_normal (wp_cond_false rfl ?_))
  refine wp_skip (then_normal (wp_seq ?_))
  refine walk_seqB 1 [.quiet (.agg (pt (tkn (fun i => f (1 + i)) 8) (tkn (fun i => f (9 + i)) 8) (decide (f 0 = 1))).toArray)] H16 ?ho13 ?he13
  case ho13 => exact ak (fun γ => ⟨rfl, fun w' h => ex_loadT h 0 rfl rfl rfl Try.isAgg25 Try.sizeOf25 rfl rfl⟩) trivial
  intro _ w17 H17
  clear H16
  refine rest_at (l := [1, 2]) rfl ?_
  refine rest_store rfl rfl rfl (ex_storeT (vs := pt (tkn (fun i => f (1 + i)) 8) (tkn (fun i => f (9 + i)) 8) (decide (f 0 = 1))) H17.out.1 2 rfl rfl rfl rfl Try.sizeOf25 rfl (Nat.le_of_ble_eq_true rfl)) ?_
  have H18 : Hid (Mm (w17.setCells γ1_1 0 (pt (tkn (fun i => f (1 + i)) 8) (tkn (fun i => f (9 + i)) 8) (decide (f 0 = 1)))) [(γ3_0, pt (tkn (fun i => f (1 + i)) 8) (tkn (fun i => f (9 + i)) 8) (decide (f 0 = 1))), (γ1_0, kd p r c gx gy), (γ1_1, pt (tkn (fun i => f (1 + i)) 8) (tkn (fun i => f (9 + i)) 8) (decide (f 0 = 1)))] ∧ Below w.heap.size w (w17.setCells γ1_1 0 (pt (tkn (fun i => f (1 + i)) 8) (tkn (fun i => f (9 + i)) 8) (decide (f 0 = 1))))) := ⟨H17.out.1.put 2 (off := 0) (vs := pt (tkn (fun i => f (1 + i)) 8) (tkn (fun i => f (9 + i)) 8) (decide (f 0 = 1))) rfl (Nat.le_of_ble_eq_true rfl), below_setCells _ o1_1.out _ _ _ H17.out.2⟩
  clear H17
  generalize hgw : World.setCells _ _ _ _ = w18 at H18 ⊢
  clear hgw
  refine rest_set (d := 5) rfl rfl rfl rfl ?_
  simp only [Act.put, sa, sz, ss]
  refine rest_nil (then_normal (wp_ret ?_))
  repeat (first | refine then_ret ?_ | refine block_ret ?_)
  have hf0 := var_T H18.out.1 2 rfl Try.isAgg25 Try.sizeOf25 rfl
  refine bodyPost_ret (v := .tuple #[.agg (pt (tkn (fun i => f (1 + i)) 8) (tkn (fun i => f (9 + i)) 8) (decide (f 0 = 1))).toArray, .int .i64 0]) (by simp [results, Try.results38, asAddr, Act.eval, hf0]) rfl ?_
  exact ⟨rfl, H18.out.2⟩
set_option maxHeartbeats 1000000 in
set_option maxRecDepth 100000 in
theorem dread_len (q : Option Addr) (n cp : Nat) (h0 : n ≠ 17) (w : World) :
    Calls Try.prog 38 #[.agg (kd p r c gx gy).toArray, .slice q n cp] w fun e w' => e = .returned (.tuple #[V (pt 0 0 false), .int .i64 4]) ∧ Below w.heap.size w w' := by
  have H0 : Hid (_ ∧ _) := ⟨Mm.nil w, Below.refl w.heap.size w⟩
  go_enter Try.func38, Try.ntmps38
  refine wp_seq ?_
  refine walk_seqA 3 [.made (kd p r c gx gy) 27, .made (pt 0 0 false) 25, .quiet (.int .i64 0)] (sB H0) ?ho1 ?he1
  case ho1 => exact ak (fun γ => ⟨rfl, fun w' => ex_boxT rfl rfl⟩) (ak (fun γ => ⟨rfl, fun w' => ex_made25 rfl⟩) (ak (fun _ => ⟨rfl, fun _ _ => rfl⟩) trivial))
  intro γ w1 l hM hl
  have H1 : Hid (Mm w1 [(γ 0, kd p r c gx gy), (γ 1, pt 0 0 false)] ∧ _) := growB H0 hM (Nat.le_refl _) hl [0, 1] rfl (by decide)
  have o1_0 := ownB H0 hM (Nat.le_refl _) hl (i := 0) rfl
  have o1_1 := ownB H0 hM (Nat.le_refl _) hl (i := 1) rfl
  clear hM hl l
  generalize γ 0 = γ1_0 at H1 o1_0 ⊢
  generalize γ 1 = γ1_1 at H1 o1_1 ⊢
  clear γ
  refine rest0 rfl (then_normal (wp_seq (wp_seq ?_)))
  refine walk_seqB 3 [.quiet (.slice q n cp), .quiet (.int .i64 ((n : Nat) : Int)), .quiet (.bool true)] H1 ?ho2 ?he2
  case ho2 => exact ak (fun _ => ⟨rfl, fun _ _ => rfl⟩) (ak (by refine fun γ => ⟨rfl, fun w' h => ?_⟩; clear h; go_simp) (ak (by refine fun γ => ⟨rfl, fun w' h => ?_⟩; clear h; go_simp <;> omega) trivial))
  intro _ w2 H2
  clear H1
  refine rest0 rfl (then_normal (wp_cond_true rfl (wp_seq ?_)))
  refine walk_seqB 1 [.quiet (.agg (pt 0 0 false).toArray)] H2 ?ho3 ?he3
  case ho3 => exact ak (fun γ => ⟨rfl, fun w' _ => ex_build25_ rfl⟩) trivial
  intro _ w3 H3
  clear H2
  refine rest_at (l := [1, 2]) rfl ?_
  refine rest_store rfl rfl rfl (ex_storeT (vs := pt 0 0 false) H3.out.1 1 rfl rfl rfl rfl Try.sizeOf25 rfl (Nat.le_of_ble_eq_true rfl)) ?_
  have H4 : Hid (Mm (w3.setCells γ1_1 0 (pt 0 0 false)) [(γ1_0, kd p r c gx gy), (γ1_1, pt 0 0 false)] ∧ Below w.heap.size w (w3.setCells γ1_1 0 (pt 0 0 false))) := ⟨H3.out.1.put 1 (off := 0) (vs := pt 0 0 false) rfl (Nat.le_of_ble_eq_true rfl), below_setCells _ o1_1.out _ _ _ H3.out.2⟩
  clear H3
  generalize hgw : World.setCells _ _ _ _ = w4 at H4 ⊢
  clear hgw
  refine rest_set (d := 5) rfl rfl rfl rfl ?_
  simp only [Act.put, sa, sz, ss]
  refine rest_nil (then_normal (wp_ret ?_))
  repeat (first | refine then_ret ?_ | refine block_ret ?_)
  have hf0 := var_T H4.out.1 1 rfl Try.isAgg25 Try.sizeOf25 rfl
  refine bodyPost_ret (v := .tuple #[.agg (pt 0 0 false).toArray, .int .i64 4]) (by simp [results, Try.results38, asAddr, Act.eval, hf0]) rfl ?_
  exact ⟨rfl, H4.out.2⟩
end
end Rg
end Go.Proofs.Ytjmbgchoioepjaa
end
section
namespace Go.Proofs.Ytjmbgchoioepjaa
open Go.RowKit
namespace Rg
theorem call34 : ∀ args w, (callFunc 34 args).run Try.prog w = .ok (.enter 34 args) w := by intro args w; go_simp
theorem call37 : ∀ args w, (callFunc 37 args).run Try.prog w = .ok (.enter 37 args) w := by intro args w; go_simp
theorem call38 : ∀ args w, (callFunc 38 args).run Try.prog w = .ok (.enter 38 args) w := by intro args w; go_simp
theorem call40 : ∀ args w, (callFunc 40 args).run Try.prog w = .ok (.enter 40 args) w := by intro args w; go_simp
section
variable {s : Int} {p r c gx gy : Nat}
theorem Mm.over {u w : World} {l : List (Nat × List Value)} {g : Nat} {cs : List Value} (h0 : Mm u l) (hge : u.heap.size ≤ g) (h1 : Mm w l) (hb : Blk w g cs) (hlt : g < w.heap.size) : Mm w ((g, cs) :: l) :=
  h1.cons hb hlt (fun p hp => by have := (h0.blk p hp).1; omega)
theorem same_doc {X Y : Nat} {Z : Bool} (g g' x : Nat) (w : World) (h : Mm w [(g, by8 (pb X Y Z) 17)]) (h' : Mm w [(g', by8 (pb X Y Z) 17)]) : Calls Try.prog 39 #[.slice (some ⟨g, 0, none⟩) 17 17, .slice (some ⟨g', 0, none⟩) 17 (17 + x)] w fun e w' => e = .returned (.bool true) ∧ Below w.heap.size w w' :=
  same_rd w (Blk.rd (h.blk _ (List.mem_singleton.2 rfl)).1 (h.blk _ (List.mem_singleton.2 rfl)).2) (Blk.rd (h'.blk _ (List.mem_singleton.2 rfl)).1 (h'.blk _ (List.mem_singleton.2 rfl)).2) (Nat.le_refl _) (by omega) (fun _ _ => rfl)
set_option maxHeartbeats 2000000 in
set_option maxRecDepth 100000 in
theorem texts_no (w : World) (s : Int) (h1 : s ≠ 1) (h2 : s ≠ 2) (X Y : Nat) (Z : Bool) (q : Option Addr) (n cp : Nat) (hn : n ≤ 100) (xs : List Int) (cl : ∀ u, Below w.heap.size w u → Calls Try.prog 34 #[.slice q n cp] u fun e w' => Below u.heap.size u w' ∧ ∃ g, e = .returned (.slice (some ⟨g, 0, none⟩) n (n + 3)) ∧ u.heap.size ≤ g ∧ g < w'.heap.size ∧ Blk w' g (by8 (lent xs) (n + 3))) (ck : ∀ g u, Below w.heap.size w u → Mm u [(g, by8 (lent xs) (n + 3))] → Calls Try.prog 37 #[.slice (some ⟨g, 0, none⟩) n (n + 3), .slice q n cp] u fun e w' => e = .returned (.bool true) ∧ Below u.heap.size u w') :
    Calls Try.prog 5 #[.int .i64 s, .agg (pt X Y Z).toArray, .slice q n cp] w fun e w' => e = .returned (.bool true) ∧ Below w.heap.size w w' := by
  have H0 : Hid (_ ∧ _) := ⟨Mm.nil w, Below.refl w.heap.size w⟩
  have CL : Hid _ := cl
  clear cl
  have CK : Hid _ := ck
  clear ck
  go_enter Try.func5, Try.ntmps5
  refine wp_seq ?_
  refine walk_seqA 2 [.made (pt X Y Z) 25, .quiet (.bool false)] (sB H0) ?ho1 ?he1
  case ho1 => exact ak (fun γ => ⟨rfl, fun w' => ex_boxT rfl rfl⟩) (ak (fun _ => ⟨rfl, fun _ _ => rfl⟩) trivial)
  intro γ w1 l hM hl
  have H1 : Hid (Mm w1 [(γ 0, pt X Y Z)] ∧ _) := growB H0 hM (Nat.le_refl _) hl [0] rfl (by decide)
  have o1_0 := ownB H0 hM (Nat.le_refl _) hl (i := 0) rfl
  clear hM hl l
  generalize γ 0 = γ1_0 at H1 o1_0 ⊢
  clear γ
  refine rest0 rfl (then_normal (wp_seq (wp_seq ?_)))
  refine walk_seqB 3 [.quiet (.slice q n cp), .quiet (.int .i64 ((n : Nat) : Int)), .quiet (.bool false)] H1 ?ho2 ?he2
  case ho2 => exact ak (fun _ => ⟨rfl, fun _ _ => rfl⟩) (ak (by refine fun γ => ⟨rfl, fun w' h => ?_⟩; clear h; go_simp) (ak (by refine fun γ => ⟨rfl, fun w' h => ?_⟩; clear h; go_simp <;> omega) trivial))
  intro _ w2 H2
  clear H1
  refine rest0 rfl (then_normal (wp_cond_false rfl ?_))
  refine wp_skip (then_normal (wp_seq ?_))
  refine (walk_seq) 2 [.quiet (.slice q n cp), .born (fun g => .slice (some ⟨g, 0, none⟩) n (n + 3)) (by8 (lent xs) (n + 3))] (fun u' => Mm u' [(γ1_0, pt X Y Z)] ∧ Below w.heap.size w u') ?pre3 ?F3 ?hpre3 (fun γ => ?hF3) (by kernel_rfl) ?hL3 ?hS3 ?ho3 ?he3
  case hpre3 => simp only [tk, tz]; rfl
  case hF3 => simp only [fill, Kind.val, Act.put, sa, sz, ss]; rfl
  case hL3 => exact trivial
  case hS3 => exact fun w' hb => ⟨H2.out.1.below hb, H2.out.2.trans (hb.mono H2.out.2.size)⟩
  case ho3 =>
    refine ak (fun _ => ⟨rfl, fun _ _ => rfl⟩) ?_
    refine ak (fun γ => ⟨rfl, fun w' hX => ⟨34, #[.slice q n cp], exec_call rfl call34 rfl (mpn rfl), CL.out w' hX.2⟩⟩) ?_
    exact trivial
  intro γ w3 l hM hl
  have H3 : Hid (Mm w3 [(γ 1, by8 (lent xs) (n + 3)), (γ1_0, pt X Y Z)] ∧ _) := growB H2 hM (Nat.le_refl _) hl [1] rfl (by decide)
  have o3_1 := ownB H2 hM (Nat.le_refl _) hl (i := 1) rfl
  clear hM hl l H2
  generalize γ 1 = γ3_1 at H3 o3_1 ⊢
  clear γ
  refine rest_at (l := [2]) rfl ?_
  refine rest_set (d := 7) rfl rfl rfl rfl ?_
  simp only [Act.put, sa, sz, ss]
  refine rest_nil (then_normal (wp_seq ?_))
  refine walk_seqA 8 [.quiet (.int .i64 s), .call (.tuple #[.agg (kd 0 0 0 0 0).toArray, .bool false]), .quiet (.tuple #[.agg (kd 0 0 0 0 0).toArray, .bool false]), .quiet (.agg (kd 0 0 0 0 0).toArray), .quiet (.bool false), .made (kd 0 0 0 0 0) 27, .laid 5 (kd 0 0 0 0 0) (kd 0 0 0 0 0), .quiet (.bool false)] (sB H3) ?ho4 ?he4 (hL := ?hL4)
  case hL4 => exact ⟨⟨_, rfl⟩, trivial⟩
  case ho4 => exact ak (fun _ => ⟨rfl, fun _ _ => rfl⟩) (ak (fun γ => ⟨rfl, fun w' h => ⟨10, #[.int .i64 s], exec_call rfl call10 rfl (mpn rfl), Of_no s h1 h2 w'⟩⟩) (ak (fun _ => ⟨rfl, fun _ _ => rfl⟩) (ak (by refine fun γ => ⟨rfl, fun w' h => ?_⟩; clear h; go_simp) (ak (by refine fun γ => ⟨rfl, fun w' h => ?_⟩; clear h; go_simp) (ak (fun γ => ⟨rfl, fun w' => ex_made27 rfl⟩) (ak (fun γ => ⟨rfl, rfl, rfl, fun w' h => ex_laidT h rfl rfl Try.sizeOf27 rfl rfl rfl⟩) (ak (fun _ => ⟨rfl, fun _ _ => rfl⟩) trivial)))))))
  intro γ w4 l hM hl
  have H4 : Hid (Mm w4 [(γ 5, kd 0 0 0 0 0), (γ3_1, by8 (lent xs) (n + 3)), (γ1_0, pt X Y Z)] ∧ _) := growB H3 hM (Nat.le_refl _) hl [5] rfl (by decide)
  have o4_5 := ownB H3 hM (Nat.le_refl _) hl (i := 5) rfl
  clear hM hl l H3
  generalize γ 5 = γ4_5 at H4 o4_5 ⊢
  clear γ
  refine rest0 rfl (then_normal (wp_seq ?_))
  refine walk_seqB 8 [.quiet (.int .i64 s), .quiet (.agg (pt X Y Z).toArray), .call (.tuple #[.slice none 0 0, .int .i64 2]), .quiet (.tuple #[.slice none 0 0, .int .i64 2]), .quiet (.slice none 0 0), .quiet (.int .i64 2), .quiet (.slice none 0 0), .quiet (.int .i64 2)] H4 ?ho5 ?he5
  case ho5 => exact ak (fun _ => ⟨rfl, fun _ _ => rfl⟩) (ak (fun γ => ⟨rfl, fun w' h => ex_loadT h 2 rfl rfl rfl Try.isAgg25 Try.sizeOf25 rfl rfl⟩) (ak (fun γ => ⟨rfl, fun w' h => ⟨35, #[.int .i64 s, .agg (pt X Y Z).toArray], exec_call rfl call35 rfl (mpn rfl), bytes_no s h1 h2 _ _ _ w'⟩⟩) (ak (fun _ => ⟨rfl, fun _ _ => rfl⟩) (ak (by refine fun γ => ⟨rfl, fun w' h => ?_⟩; clear h; go_simp) (ak (by refine fun γ => ⟨rfl, fun w' h => ?_⟩; clear h; go_simp) (ak (fun _ => ⟨rfl, fun _ _ => rfl⟩) (ak (fun _ => ⟨rfl, fun _ _ => rfl⟩) trivial)))))))
  intro _ w5 H5
  clear H4
  refine rest0 rfl (then_normal (wp_seq ?_))
  refine walk_seqA 9 [.quiet (.int .i64 s), .quiet (.slice (some ⟨γ3_1, 0, none⟩) n (n + 3)), .call (.tuple #[.agg (pt 0 0 false).toArray, .int .i64 2]), .quiet (.tuple #[.agg (pt 0 0 false).toArray, .int .i64 2]), .quiet (.agg (pt 0 0 false).toArray), .quiet (.int .i64 2), .made (pt 0 0 false) 25, .laid 6 (pt 0 0 false) (pt 0 0 false), .quiet (.int .i64 2)] (sB H5) ?ho6 ?he6 (hL := ?hL6)
  case hL6 => exact ⟨⟨_, rfl⟩, trivial⟩
  case ho6 => exact ak (fun _ => ⟨rfl, fun _ _ => rfl⟩) (ak (fun _ => ⟨rfl, fun _ _ => rfl⟩) (ak (fun γ => ⟨rfl, fun w' h => ⟨36, #[.int .i64 s, .slice (some ⟨γ3_1, 0, none⟩) n (n + 3)], exec_call rfl call36 rfl (mpn rfl), read_no s h1 h2 _ w'⟩⟩) (ak (fun _ => ⟨rfl, fun _ _ => rfl⟩) (ak (by refine fun γ => ⟨rfl, fun w' h => ?_⟩; clear h; go_simp) (ak (by refine fun γ => ⟨rfl, fun w' h => ?_⟩; clear h; go_simp) (ak (fun γ => ⟨rfl, fun w' => ex_made25 rfl⟩) (ak (fun γ => ⟨rfl, rfl, rfl, fun w' h => ex_laidT h rfl rfl Try.sizeOf25 rfl rfl rfl⟩) (ak (fun _ => ⟨rfl, fun _ _ => rfl⟩) trivial))))))))
  intro γ w6 l hM hl
  have H6 : Hid (Mm w6 [(γ 6, pt 0 0 false), (γ4_5, kd 0 0 0 0 0), (γ3_1, by8 (lent xs) (n + 3)), (γ1_0, pt X Y Z)] ∧ _) := growB H5 hM (Nat.le_refl _) hl [6] rfl (by decide)
  have o6_6 := ownB H5 hM (Nat.le_refl _) hl (i := 6) rfl
  clear hM hl l H5
  generalize γ 6 = γ6_6 at H6 o6_6 ⊢
  clear γ
  refine rest0 rfl (then_normal (wp_seq (wp_seq ?_)))
  refine (walk_seq) 4 [.quiet (.slice (some ⟨γ3_1, 0, none⟩) n (n + 3)), .quiet (.slice q n cp), .call (.bool true), .quiet (.bool false)] (fun u' => Mm u' [(γ6_6, pt 0 0 false), (γ4_5, kd 0 0 0 0 0), (γ3_1, by8 (lent xs) (n + 3)), (γ1_0, pt X Y Z)] ∧ Below w.heap.size w u') ?pre7 ?F7 ?hpre7 (fun γ => ?hF7) (by kernel_rfl) ?hL7 ?hS7 ?ho7 ?he7
  case hpre7 => simp only [tk, tz]; rfl
  case hF7 => simp only [fill, Kind.val, Act.put, sa, sz, ss]; rfl
  case hL7 => exact trivial
  case hS7 => exact fun w' hb => ⟨H6.out.1.below hb, H6.out.2.trans (hb.mono H6.out.2.size)⟩
  case ho7 =>
    refine ak (fun _ => ⟨rfl, fun _ _ => rfl⟩) ?_
    refine ak (fun _ => ⟨rfl, fun _ _ => rfl⟩) ?_
    refine ak (fun γ => ⟨rfl, fun w' hX => have h := hX.1; ⟨37, #[.slice (some ⟨γ3_1, 0, none⟩) n (n + 3), .slice q n cp], exec_call rfl call37 rfl (mpn rfl), CK.out γ3_1 w' hX.2 (h.one 2 rfl)⟩⟩) ?_
    refine ak (by refine fun γ => ⟨rfl, fun w' h => ?_⟩; clear h; go_simp) ?_
    exact trivial
  intro γ w7 l hM hl
  have H7 := keepB H6 hM.below
  clear hM hl l H6 γ
  refine rest0 rfl (then_normal (wp_cond_false rfl ?_))
  refine wp_skip (then_normal ?_)
  refine wp_seq (wp_seq ?_)
  refine walk_seqB 2 [.quiet (.bool false), .quiet (.bool true)] H7 ?ho8 ?he8
  case ho8 => exact ak (fun _ => ⟨rfl, fun _ _ => rfl⟩) (ak (by refine fun γ => ⟨rfl, fun w' h => ?_⟩; clear h; go_simp) trivial)
  intro _ w8 H8
  clear H7
  refine rest0 rfl (then_normal (wp_cond_true rfl (wp_seq ?_)))
  refine walk_seqB 17 [.quiet (.slice none 0 0), .quiet (.int .i64 0), .quiet (.bool true), .quiet (.bool true), .quiet (.int .i64 2), .quiet (.bool true), .quiet (.bool true), .quiet (.bool true), .quiet (.agg (pt 0 0 false).toArray), .quiet (.agg (pt 0 0 false).toArray), .quiet (.bool true), .quiet (.bool true), .quiet (.bool true), .quiet (.int .i64 2), .quiet (.bool true), .quiet (.bool true), .quiet (.bool true)] H8 ?ho9 ?he9
  case ho9 => exact ak (fun _ => ⟨rfl, fun _ _ => rfl⟩) (ak (by refine fun γ => ⟨rfl, fun w' h => ?_⟩; clear h; go_simp) (ak (by refine fun γ => ⟨rfl, fun w' h => ?_⟩; clear h; go_simp) (ak (fun _ => ⟨rfl, fun _ _ => rfl⟩) (ak (fun _ => ⟨rfl, fun _ _ => rfl⟩) (ak (by refine fun γ => ⟨rfl, fun w' h => ?_⟩; clear h; go_simp) (ak (by refine fun γ => ⟨rfl, fun w' h => ?_⟩; clear h; go_simp) (ak (fun _ => ⟨rfl, fun _ _ => rfl⟩) (ak (fun γ => ⟨rfl, fun w' h => ex_loadT h 0 rfl rfl rfl Try.isAgg25 Try.sizeOf25 rfl rfl⟩) (ak (fun γ => ⟨rfl, fun w' _ => ex_build25_ rfl⟩) (ak (fun γ => ⟨rfl, fun w' _ => exec_eqT25 (fun w => eq_self _ _ _ w) rfl rfl rfl⟩) (ak (by refine fun γ => ⟨rfl, fun w' h => ?_⟩; clear h; go_simp) (ak (fun _ => ⟨rfl, fun _ _ => rfl⟩) (ak (fun _ => ⟨rfl, fun _ _ => rfl⟩) (ak (by refine fun γ => ⟨rfl, fun w' h => ?_⟩; clear h; go_simp) (ak (by refine fun γ => ⟨rfl, fun w' h => ?_⟩; clear h; go_simp) (ak (fun _ => ⟨rfl, fun _ _ => rfl⟩) trivial))))))))))))))))
  intro _ w9 H9
  clear H8
  refine rest0 rfl (then_normal (wp_ret ?_))
  repeat (first | refine then_ret ?_ | refine block_ret ?_)
  refine bodyPost_ret (v := .bool true) (by simp [results, Try.results5, go_sem, *]) rfl ?_
  exact ⟨rfl, H9.out.2⟩
set_option maxHeartbeats 2000000 in
set_option maxRecDepth 100000 in
theorem texts_f (w : World) (k : Kq s p r c gx gy) (X Y : Nat) (Z : Bool) (ho : oc p X Y Z = false) (q : Option Addr) (n cp : Nat) (hn : n ≤ 100) (xs : List Int) (cl : ∀ u, Below w.heap.size w u → Calls Try.prog 34 #[.slice q n cp] u fun e w' => Below u.heap.size u w' ∧ ∃ g, e = .returned (.slice (some ⟨g, 0, none⟩) n (n + 3)) ∧ u.heap.size ≤ g ∧ g < w'.heap.size ∧ Blk w' g (by8 (lent xs) (n + 3))) (ck : ∀ g u, Below w.heap.size w u → Mm u [(g, by8 (lent xs) (n + 3))] → Calls Try.prog 37 #[.slice (some ⟨g, 0, none⟩) n (n + 3), .slice q n cp] u fun e w' => e = .returned (.bool true) ∧ Below u.heap.size u w') (X' Y' : Nat) (Z' : Bool) (er : Int) (cr : ∀ g u, Mm u [(g, by8 (lent xs) (n + 3))] → Calls Try.prog 36 #[.int .i64 s, .slice (some ⟨g, 0, none⟩) n (n + 3)] u fun e w' => e = .returned (.tuple #[V (pt X' Y' Z'), .int .i64 er]) ∧ Below u.heap.size u w') (cd : ∀ u, Below w.heap.size w u → Calls Try.prog 38 #[.agg (kd p r c gx gy).toArray, .slice q n cp] u fun e w' => e = .returned (.tuple #[V (pt X' Y' Z'), .int .i64 er]) ∧ Below u.heap.size u w') :
    Calls Try.prog 5 #[.int .i64 s, .agg (pt X Y Z).toArray, .slice q n cp] w fun e w' => e = .returned (.bool true) ∧ Below w.heap.size w w' := by
  have H0 : Hid (_ ∧ _) := ⟨Mm.nil w, Below.refl w.heap.size w⟩
  have CL : Hid _ := cl
  clear cl
  have CK : Hid _ := ck
  clear ck
  have CR : Hid _ := cr
  clear cr
  have CD : Hid _ := cd
  clear cd
  go_enter Try.func5, Try.ntmps5
  refine wp_seq ?_
  refine walk_seqA 2 [.made (pt X Y Z) 25, .quiet (.bool false)] (sB H0) ?ho1 ?he1
  case ho1 => exact ak (fun γ => ⟨rfl, fun w' => ex_boxT rfl rfl⟩) (ak (fun _ => ⟨rfl, fun _ _ => rfl⟩) trivial)
  intro γ w1 l hM hl
  have H1 : Hid (Mm w1 [(γ 0, pt X Y Z)] ∧ _) := growB H0 hM (Nat.le_refl _) hl [0] rfl (by decide)
  have o1_0 := ownB H0 hM (Nat.le_refl _) hl (i := 0) rfl
  clear hM hl l
  generalize γ 0 = γ1_0 at H1 o1_0 ⊢
  clear γ
  refine rest0 rfl (then_normal (wp_seq (wp_seq ?_)))
  refine walk_seqB 3 [.quiet (.slice q n cp), .quiet (.int .i64 ((n : Nat) : Int)), .quiet (.bool false)] H1 ?ho2 ?he2
  case ho2 => exact ak (fun _ => ⟨rfl, fun _ _ => rfl⟩) (ak (by refine fun γ => ⟨rfl, fun w' h => ?_⟩; clear h; go_simp) (ak (by refine fun γ => ⟨rfl, fun w' h => ?_⟩; clear h; go_simp <;> omega) trivial))
  intro _ w2 H2
  clear H1
  refine rest0 rfl (then_normal (wp_cond_false rfl ?_))
  refine wp_skip (then_normal (wp_seq ?_))
  refine (walk_seq) 2 [.quiet (.slice q n cp), .born (fun g => .slice (some ⟨g, 0, none⟩) n (n + 3)) (by8 (lent xs) (n + 3))] (fun u' => Mm u' [(γ1_0, pt X Y Z)] ∧ Below w.heap.size w u') ?pre3 ?F3 ?hpre3 (fun γ => ?hF3) (by kernel_rfl) ?hL3 ?hS3 ?ho3 ?he3
  case hpre3 => simp only [tk, tz]; rfl
  case hF3 => simp only [fill, Kind.val, Act.put, sa, sz, ss]; rfl
  case hL3 => exact trivial
  case hS3 => exact fun w' hb => ⟨H2.out.1.below hb, H2.out.2.trans (hb.mono H2.out.2.size)⟩
  case ho3 =>
    refine ak (fun _ => ⟨rfl, fun _ _ => rfl⟩) ?_
    refine ak (fun γ => ⟨rfl, fun w' hX => ⟨34, #[.slice q n cp], exec_call rfl call34 rfl (mpn rfl), CL.out w' hX.2⟩⟩) ?_
    exact trivial
  intro γ w3 l hM hl
  have H3 : Hid (Mm w3 [(γ 1, by8 (lent xs) (n + 3)), (γ1_0, pt X Y Z)] ∧ _) := growB H2 hM (Nat.le_refl _) hl [1] rfl (by decide)
  have o3_1 := ownB H2 hM (Nat.le_refl _) hl (i := 1) rfl
  clear hM hl l H2
  generalize γ 1 = γ3_1 at H3 o3_1 ⊢
  clear γ
  refine rest_at (l := [2]) rfl ?_
  refine rest_set (d := 7) rfl rfl rfl rfl ?_
  simp only [Act.put, sa, sz, ss]
  refine rest_nil (then_normal (wp_seq ?_))
  refine walk_seqA 8 [.quiet (.int .i64 s), .call (.tuple #[.agg (kd p r c gx gy).toArray, .bool true]), .quiet (.tuple #[.agg (kd p r c gx gy).toArray, .bool true]), .quiet (.agg (kd p r c gx gy).toArray), .quiet (.bool true), .made (kd 0 0 0 0 0) 27, .laid 5 (kd 0 0 0 0 0) (kd p r c gx gy), .quiet (.bool true)] (sB H3) ?ho4 ?he4 (hL := ?hL4)
  case hL4 => exact ⟨⟨_, rfl⟩, trivial⟩
  case ho4 => exact ak (fun _ => ⟨rfl, fun _ _ => rfl⟩) (ak (fun γ => ⟨rfl, fun w' h => ⟨10, #[.int .i64 s], exec_call rfl call10 rfl (mpn rfl), k.of w'⟩⟩) (ak (fun _ => ⟨rfl, fun _ _ => rfl⟩) (ak (by refine fun γ => ⟨rfl, fun w' h => ?_⟩; clear h; go_simp) (ak (by refine fun γ => ⟨rfl, fun w' h => ?_⟩; clear h; go_simp) (ak (fun γ => ⟨rfl, fun w' => ex_made27 rfl⟩) (ak (fun γ => ⟨rfl, rfl, rfl, fun w' h => ex_laidT h rfl rfl Try.sizeOf27 rfl rfl rfl⟩) (ak (fun _ => ⟨rfl, fun _ _ => rfl⟩) trivial)))))))
  intro γ w4 l hM hl
  have H4 : Hid (Mm w4 [(γ 5, kd p r c gx gy), (γ3_1, by8 (lent xs) (n + 3)), (γ1_0, pt X Y Z)] ∧ _) := growB H3 hM (Nat.le_refl _) hl [5] rfl (by decide)
  have o4_5 := ownB H3 hM (Nat.le_refl _) hl (i := 5) rfl
  clear hM hl l H3
  generalize γ 5 = γ4_5 at H4 o4_5 ⊢
  clear γ
  refine rest0 rfl (then_normal (wp_seq ?_))
  refine walk_seqB 8 [.quiet (.int .i64 s), .quiet (.agg (pt X Y Z).toArray), .call (.tuple #[.slice none 0 0, .int .i64 5]), .quiet (.tuple #[.slice none 0 0, .int .i64 5]), .quiet (.slice none 0 0), .quiet (.int .i64 5), .quiet (.slice none 0 0), .quiet (.int .i64 5)] H4 ?ho5 ?he5
  case ho5 => exact ak (fun _ => ⟨rfl, fun _ _ => rfl⟩) (ak (fun γ => ⟨rfl, fun w' h => ex_loadT h 2 rfl rfl rfl Try.isAgg25 Try.sizeOf25 rfl rfl⟩) (ak (fun γ => ⟨rfl, fun w' h => ⟨35, #[.int .i64 s, .agg (pt X Y Z).toArray], exec_call rfl call35 rfl (mpn rfl), bytes_pt k.k X Y Z ho w'⟩⟩) (ak (fun _ => ⟨rfl, fun _ _ => rfl⟩) (ak (by refine fun γ => ⟨rfl, fun w' h => ?_⟩; clear h; go_simp) (ak (by refine fun γ => ⟨rfl, fun w' h => ?_⟩; clear h; go_simp) (ak (fun _ => ⟨rfl, fun _ _ => rfl⟩) (ak (fun _ => ⟨rfl, fun _ _ => rfl⟩) trivial)))))))
  intro _ w5 H5
  clear H4
  refine rest0 rfl (then_normal (wp_seq ?_))
  refine walk_seqA 9 [.quiet (.int .i64 s), .quiet (.slice (some ⟨γ3_1, 0, none⟩) n (n + 3)), .call (.tuple #[.agg (pt X' Y' Z').toArray, .int .i64 er]), .quiet (.tuple #[.agg (pt X' Y' Z').toArray, .int .i64 er]), .quiet (.agg (pt X' Y' Z').toArray), .quiet (.int .i64 er), .made (pt 0 0 false) 25, .laid 6 (pt 0 0 false) (pt X' Y' Z'), .quiet (.int .i64 er)] (sB H5) ?ho6 ?he6 (hL := ?hL6)
  case hL6 => exact ⟨⟨_, rfl⟩, trivial⟩
  case ho6 => exact ak (fun _ => ⟨rfl, fun _ _ => rfl⟩) (ak (fun _ => ⟨rfl, fun _ _ => rfl⟩) (ak (fun γ => ⟨rfl, fun w' h => ⟨36, #[.int .i64 s, .slice (some ⟨γ3_1, 0, none⟩) n (n + 3)], exec_call rfl call36 rfl (mpn rfl), CR.out γ3_1 w' (h.one 1 rfl)⟩⟩) (ak (fun _ => ⟨rfl, fun _ _ => rfl⟩) (ak (by refine fun γ => ⟨rfl, fun w' h => ?_⟩; clear h; go_simp) (ak (by refine fun γ => ⟨rfl, fun w' h => ?_⟩; clear h; go_simp) (ak (fun γ => ⟨rfl, fun w' => ex_made25 rfl⟩) (ak (fun γ => ⟨rfl, rfl, rfl, fun w' h => ex_laidT h rfl rfl Try.sizeOf25 rfl rfl rfl⟩) (ak (fun _ => ⟨rfl, fun _ _ => rfl⟩) trivial))))))))
  intro γ w6 l hM hl
  have H6 : Hid (Mm w6 [(γ 6, pt X' Y' Z'), (γ4_5, kd p r c gx gy), (γ3_1, by8 (lent xs) (n + 3)), (γ1_0, pt X Y Z)] ∧ _) := growB H5 hM (Nat.le_refl _) hl [6] rfl (by decide)
  have o6_6 := ownB H5 hM (Nat.le_refl _) hl (i := 6) rfl
  clear hM hl l H5
  generalize γ 6 = γ6_6 at H6 o6_6 ⊢
  clear γ
  refine rest0 rfl (then_normal (wp_seq (wp_seq ?_)))
  refine (walk_seq) 4 [.quiet (.slice (some ⟨γ3_1, 0, none⟩) n (n + 3)), .quiet (.slice q n cp), .call (.bool true), .quiet (.bool false)] (fun u' => Mm u' [(γ6_6, pt X' Y' Z'), (γ4_5, kd p r c gx gy), (γ3_1, by8 (lent xs) (n + 3)), (γ1_0, pt X Y Z)] ∧ Below w.heap.size w u') ?pre7 ?F7 ?hpre7 (fun γ => ?hF7) (by kernel_rfl) ?hL7 ?hS7 ?ho7 ?he7
  case hpre7 => simp only [tk, tz]; rfl
  case hF7 => simp only [fill, Kind.val, Act.put, sa, sz, ss]; rfl
  case hL7 => exact trivial
  case hS7 => exact fun w' hb => ⟨H6.out.1.below hb, H6.out.2.trans (hb.mono H6.out.2.size)⟩
  case ho7 =>
    refine ak (fun _ => ⟨rfl, fun _ _ => rfl⟩) ?_
    refine ak (fun _ => ⟨rfl, fun _ _ => rfl⟩) ?_
    refine ak (fun γ => ⟨rfl, fun w' hX => have h := hX.1; ⟨37, #[.slice (some ⟨γ3_1, 0, none⟩) n (n + 3), .slice q n cp], exec_call rfl call37 rfl (mpn rfl), CK.out γ3_1 w' hX.2 (h.one 2 rfl)⟩⟩) ?_
    refine ak (by refine fun γ => ⟨rfl, fun w' h => ?_⟩; clear h; go_simp) ?_
    exact trivial
  intro γ w7 l hM hl
  have H7 := keepB H6 hM.below
  clear hM hl l H6 γ
  refine rest0 rfl (then_normal (wp_cond_false rfl ?_))
  refine wp_skip (then_normal ?_)
  refine wp_seq (wp_seq ?_)
  refine walk_seqB 2 [.quiet (.bool true), .quiet (.bool false)] H7 ?ho8 ?he8
  case ho8 => exact ak (fun _ => ⟨rfl, fun _ _ => rfl⟩) (ak (by refine fun γ => ⟨rfl, fun w' h => ?_⟩; clear h; go_simp) trivial)
  intro _ w8 H8
  clear H7
  refine rest0 rfl (then_normal (wp_cond_false rfl ?_))
  refine wp_skip (then_normal (wp_seq ?_))
  refine (walk_seq) 9 [.quiet (.agg (kd p r c gx gy).toArray), .quiet (.slice q n cp), .call (.tuple #[.agg (pt X' Y' Z').toArray, .int .i64 er]), .quiet (.tuple #[.agg (pt X' Y' Z').toArray, .int .i64 er]), .quiet (.agg (pt X' Y' Z').toArray), .quiet (.int .i64 er), .made (pt 0 0 false) 25, .laid 6 (pt 0 0 false) (pt X' Y' Z'), .quiet (.int .i64 er)] (fun u' => Mm u' [(γ6_6, pt X' Y' Z'), (γ4_5, kd p r c gx gy), (γ3_1, by8 (lent xs) (n + 3)), (γ1_0, pt X Y Z)] ∧ Below w.heap.size w u') ?pre9 ?F9 ?hpre9 (fun γ => ?hF9) (by kernel_rfl) ?hL9 ?hS9 ?ho9 ?he9
  case hpre9 => simp only [tk, tz]; rfl
  case hF9 => simp only [fill, Kind.val, Act.put, sa, sz, ss]; rfl
  case hL9 => exact ⟨⟨_, rfl⟩, trivial⟩
  case hS9 => exact fun w' hb => ⟨H8.out.1.below hb, H8.out.2.trans (hb.mono H8.out.2.size)⟩
  case ho9 =>
    refine ak (fun γ => ⟨rfl, fun w' hX => have h := hX.1; ex_loadT h 1 rfl rfl rfl Try.isAgg27 Try.sizeOf27 rfl rfl⟩) ?_
    refine ak (fun _ => ⟨rfl, fun _ _ => rfl⟩) ?_
    refine ak (fun γ => ⟨rfl, fun w' hX => ⟨38, #[.agg (kd p r c gx gy).toArray, .slice q n cp], exec_call rfl call38 rfl (mpn rfl), CD.out w' hX.2⟩⟩) ?_
    refine ak (fun _ => ⟨rfl, fun _ _ => rfl⟩) ?_
    refine ak (by refine fun γ => ⟨rfl, fun w' h => ?_⟩; clear h; go_simp) ?_
    refine ak (by refine fun γ => ⟨rfl, fun w' h => ?_⟩; clear h; go_simp) ?_
    refine ak (fun γ => ⟨rfl, fun w' => ex_made25 rfl⟩) ?_
    refine ak (fun γ => ⟨rfl, rfl, rfl, fun w' h => ex_laidT h rfl rfl Try.sizeOf25 rfl rfl rfl⟩) ?_
    refine ak (fun _ => ⟨rfl, fun _ _ => rfl⟩) ?_
    exact trivial
  intro γ w9 l hM hl
  have H9 : Hid (Mm w9 [(γ 6, pt X' Y' Z'), (γ6_6, pt X' Y' Z'), (γ4_5, kd p r c gx gy), (γ3_1, by8 (lent xs) (n + 3)), (γ1_0, pt X Y Z)] ∧ _) := growB H8 hM (Nat.le_refl _) hl [6] rfl (by decide)
  have o9_6 := ownB H8 hM (Nat.le_refl _) hl (i := 6) rfl
  clear hM hl l H8
  generalize γ 6 = γ9_6 at H9 o9_6 ⊢
  clear γ
  refine rest0 rfl (then_normal (wp_seq (wp_seq ?_)))
  refine walk_seqB 8 [.quiet (.agg (pt X' Y' Z').toArray), .quiet (.agg (pt X' Y' Z').toArray), .quiet (.bool false), .quiet (.bool false), .quiet (.int .i64 er), .quiet (.int .i64 er), .quiet (.bool false), .quiet (.bool false)] H9 ?ho10 ?he10
  case ho10 => exact ak (fun γ => ⟨rfl, fun w' h => ex_loadT h 1 rfl rfl rfl Try.isAgg25 Try.sizeOf25 rfl rfl⟩) (ak (fun γ => ⟨rfl, fun w' h => ex_loadT h 0 rfl rfl rfl Try.isAgg25 Try.sizeOf25 rfl rfl⟩) (ak (fun γ => ⟨rfl, fun w' _ => exec_neqT25 (fun w => eq_self _ _ _ w) rfl rfl rfl⟩) (ak (fun _ => ⟨rfl, fun _ _ => rfl⟩) (ak (fun _ => ⟨rfl, fun _ _ => rfl⟩) (ak (fun _ => ⟨rfl, fun _ _ => rfl⟩) (ak (by refine fun γ => ⟨rfl, fun w' h => ?_⟩; clear h; go_simp) (ak (by refine fun γ => ⟨rfl, fun w' h => ?_⟩; clear h; go_simp) trivial)))))))
  intro _ w10 H10
  clear H9
  refine rest0 rfl (then_normal (wp_cond_false rfl ?_))
  refine wp_skip (then_normal ?_)
  refine wp_seq (wp_seq ?_)
  refine walk_seqB 4 [.quiet (.agg (kd p r c gx gy).toArray), .quiet (.agg (pt X Y Z).toArray), .call (.bool false), .quiet (.bool true)] H10 ?ho11 ?he11
  case ho11 => exact ak (fun γ => ⟨rfl, fun w' h => ex_loadT h 2 rfl rfl rfl Try.isAgg27 Try.sizeOf27 rfl rfl⟩) (ak (fun γ => ⟨rfl, fun w' h => ex_loadT h 4 rfl rfl rfl Try.isAgg25 Try.sizeOf25 rfl rfl⟩) (ak (fun γ => ⟨rfl, fun w' h => ⟨22, #[.agg (kd p r c gx gy).toArray, .agg (pt X Y Z).toArray], exec_call rfl call22 rfl (mpn rfl), dc_is k.k.pr X Y Z _ ho w'⟩⟩) (ak (by refine fun γ => ⟨rfl, fun w' h => ?_⟩; clear h; go_simp) trivial)))
  intro _ w11 H11
  clear H10
  refine rest0 rfl (then_normal (wp_cond_true rfl (wp_seq ?_)))
  refine walk_seqB 8 [.quiet (.slice none 0 0), .quiet (.int .i64 0), .quiet (.bool true), .quiet (.bool true), .quiet (.int .i64 5), .quiet (.bool true), .quiet (.bool true), .quiet (.bool true)] H11 ?ho12 ?he12
  case ho12 => exact ak (fun _ => ⟨rfl, fun _ _ => rfl⟩) (ak (by refine fun γ => ⟨rfl, fun w' h => ?_⟩; clear h; go_simp) (ak (by refine fun γ => ⟨rfl, fun w' h => ?_⟩; clear h; go_simp) (ak (fun _ => ⟨rfl, fun _ _ => rfl⟩) (ak (fun _ => ⟨rfl, fun _ _ => rfl⟩) (ak (by refine fun γ => ⟨rfl, fun w' h => ?_⟩; clear h; go_simp) (ak (by refine fun γ => ⟨rfl, fun w' h => ?_⟩; clear h; go_simp) (ak (fun _ => ⟨rfl, fun _ _ => rfl⟩) trivial)))))))
  intro _ w12 H12
  clear H11
  refine rest0 rfl (then_normal (wp_ret ?_))
  repeat (first | refine then_ret ?_ | refine block_ret ?_)
  refine bodyPost_ret (v := .bool true) (by simp [results, Try.results5, go_sem, *]) rfl ?_
  exact ⟨rfl, H12.out.2⟩
set_option maxHeartbeats 2000000 in
set_option maxRecDepth 100000 in
theorem texts_t (w : World) (k : Kq s p r c gx gy) (X Y : Nat) (Z : Bool) (ho : oc p X Y Z = true) (q : Option Addr) (n cp : Nat) (hn : n ≤ 100) (xs : List Int) (cl : ∀ u, Below w.heap.size w u → Calls Try.prog 34 #[.slice q n cp] u fun e w' => Below u.heap.size u w' ∧ ∃ g, e = .returned (.slice (some ⟨g, 0, none⟩) n (n + 3)) ∧ u.heap.size ≤ g ∧ g < w'.heap.size ∧ Blk w' g (by8 (lent xs) (n + 3))) (ck : ∀ g u, Below w.heap.size w u → Mm u [(g, by8 (lent xs) (n + 3))] → Calls Try.prog 37 #[.slice (some ⟨g, 0, none⟩) n (n + 3), .slice q n cp] u fun e w' => e = .returned (.bool true) ∧ Below u.heap.size u w') (X' Y' : Nat) (Z' : Bool) (er : Int) (cr : ∀ g u, Mm u [(g, by8 (lent xs) (n + 3))] → Calls Try.prog 36 #[.int .i64 s, .slice (some ⟨g, 0, none⟩) n (n + 3)] u fun e w' => e = .returned (.tuple #[V (pt X' Y' Z'), .int .i64 er]) ∧ Below u.heap.size u w') (cd : ∀ u, Below w.heap.size w u → Calls Try.prog 38 #[.agg (kd p r c gx gy).toArray, .slice q n cp] u fun e w' => e = .returned (.tuple #[V (pt X' Y' Z'), .int .i64 er]) ∧ Below u.heap.size u w') :
    Calls Try.prog 5 #[.int .i64 s, .agg (pt X Y Z).toArray, .slice q n cp] w fun e w' => e = .returned (.bool true) ∧ Below w.heap.size w w' := by
  have H0 : Hid (_ ∧ _) := ⟨Mm.nil w, Below.refl w.heap.size w⟩
  have CL : Hid _ := cl
  clear cl
  have CK : Hid _ := ck
  clear ck
  have CR : Hid _ := cr
  clear cr
  have CD : Hid _ := cd
  clear cd
  go_enter Try.func5, Try.ntmps5
  refine wp_seq ?_
  refine walk_seqA 2 [.made (pt X Y Z) 25, .quiet (.bool false)] (sB H0) ?ho1 ?he1
  case ho1 => exact ak (fun γ => ⟨rfl, fun w' => ex_boxT rfl rfl⟩) (ak (fun _ => ⟨rfl, fun _ _ => rfl⟩) trivial)
  intro γ w1 l hM hl
  have H1 : Hid (Mm w1 [(γ 0, pt X Y Z)] ∧ _) := growB H0 hM (Nat.le_refl _) hl [0] rfl (by decide)
  have o1_0 := ownB H0 hM (Nat.le_refl _) hl (i := 0) rfl
  clear hM hl l
  generalize γ 0 = γ1_0 at H1 o1_0 ⊢
  clear γ
  refine rest0 rfl (then_normal (wp_seq (wp_seq ?_)))
  refine walk_seqB 3 [.quiet (.slice q n cp), .quiet (.int .i64 ((n : Nat) : Int)), .quiet (.bool false)] H1 ?ho2 ?he2
  case ho2 => exact ak (fun _ => ⟨rfl, fun _ _ => rfl⟩) (ak (by refine fun γ => ⟨rfl, fun w' h => ?_⟩; clear h; go_simp) (ak (by refine fun γ => ⟨rfl, fun w' h => ?_⟩; clear h; go_simp <;> omega) trivial))
  intro _ w2 H2
  clear H1
  refine rest0 rfl (then_normal (wp_cond_false rfl ?_))
  refine wp_skip (then_normal (wp_seq ?_))
  refine (walk_seq) 2 [.quiet (.slice q n cp), .born (fun g => .slice (some ⟨g, 0, none⟩) n (n + 3)) (by8 (lent xs) (n + 3))] (fun u' => Mm u' [(γ1_0, pt X Y Z)] ∧ Below w.heap.size w u') ?pre3 ?F3 ?hpre3 (fun γ => ?hF3) (by kernel_rfl) ?hL3 ?hS3 ?ho3 ?he3
  case hpre3 => simp only [tk, tz]; rfl
  case hF3 => simp only [fill, Kind.val, Act.put, sa, sz, ss]; rfl
  case hL3 => exact trivial
  case hS3 => exact fun w' hb => ⟨H2.out.1.below hb, H2.out.2.trans (hb.mono H2.out.2.size)⟩
  case ho3 =>
    refine ak (fun _ => ⟨rfl, fun _ _ => rfl⟩) ?_
    refine ak (fun γ => ⟨rfl, fun w' hX => ⟨34, #[.slice q n cp], exec_call rfl call34 rfl (mpn rfl), CL.out w' hX.2⟩⟩) ?_
    exact trivial
  intro γ w3 l hM hl
  have H3 : Hid (Mm w3 [(γ 1, by8 (lent xs) (n + 3)), (γ1_0, pt X Y Z)] ∧ _) := growB H2 hM (Nat.le_refl _) hl [1] rfl (by decide)
  have o3_1 := ownB H2 hM (Nat.le_refl _) hl (i := 1) rfl
  clear hM hl l H2
  generalize γ 1 = γ3_1 at H3 o3_1 ⊢
  clear γ
  refine rest_at (l := [2]) rfl ?_
  refine rest_set (d := 7) rfl rfl rfl rfl ?_
  simp only [Act.put, sa, sz, ss]
  refine rest_nil (then_normal (wp_seq ?_))
  refine walk_seqA 8 [.quiet (.int .i64 s), .call (.tuple #[.agg (kd p r c gx gy).toArray, .bool true]), .quiet (.tuple #[.agg (kd p r c gx gy).toArray, .bool true]), .quiet (.agg (kd p r c gx gy).toArray), .quiet (.bool true), .made (kd 0 0 0 0 0) 27, .laid 5 (kd 0 0 0 0 0) (kd p r c gx gy), .quiet (.bool true)] (sB H3) ?ho4 ?he4 (hL := ?hL4)
  case hL4 => exact ⟨⟨_, rfl⟩, trivial⟩
  case ho4 => exact ak (fun _ => ⟨rfl, fun _ _ => rfl⟩) (ak (fun γ => ⟨rfl, fun w' h => ⟨10, #[.int .i64 s], exec_call rfl call10 rfl (mpn rfl), k.of w'⟩⟩) (ak (fun _ => ⟨rfl, fun _ _ => rfl⟩) (ak (by refine fun γ => ⟨rfl, fun w' h => ?_⟩; clear h; go_simp) (ak (by refine fun γ => ⟨rfl, fun w' h => ?_⟩; clear h; go_simp) (ak (fun γ => ⟨rfl, fun w' => ex_made27 rfl⟩) (ak (fun γ => ⟨rfl, rfl, rfl, fun w' h => ex_laidT h rfl rfl Try.sizeOf27 rfl rfl rfl⟩) (ak (fun _ => ⟨rfl, fun _ _ => rfl⟩) trivial)))))))
  intro γ w4 l hM hl
  have H4 : Hid (Mm w4 [(γ 5, kd p r c gx gy), (γ3_1, by8 (lent xs) (n + 3)), (γ1_0, pt X Y Z)] ∧ _) := growB H3 hM (Nat.le_refl _) hl [5] rfl (by decide)
  have o4_5 := ownB H3 hM (Nat.le_refl _) hl (i := 5) rfl
  clear hM hl l H3
  generalize γ 5 = γ4_5 at H4 o4_5 ⊢
  clear γ
  refine rest0 rfl (then_normal (wp_seq ?_))
  refine walk_seqA 3 [.quiet (.int .i64 s), .quiet (.agg (pt X Y Z).toArray), .born (fun g => .tuple #[.slice (some ⟨g, 0, none⟩) 17 17, .int .i64 0]) (by8 (pb X Y Z) 17)] (sB H4) ?ho5 ?he5
  case ho5 => exact ak (fun _ => ⟨rfl, fun _ _ => rfl⟩) (ak (fun γ => ⟨rfl, fun w' h => ex_loadT h 2 rfl rfl rfl Try.isAgg25 Try.sizeOf25 rfl rfl⟩) (ak (fun γ => ⟨rfl, fun w' h => ⟨35, #[.int .i64 s, .agg (pt X Y Z).toArray], exec_call rfl call35 rfl (mpn rfl), Bytes_ok k.k X Y Z ho w'⟩⟩) trivial))
  intro γ w5 l hM hl
  have H5 : Hid (Mm w5 [(γ 2, by8 (pb X Y Z) 17), (γ4_5, kd p r c gx gy), (γ3_1, by8 (lent xs) (n + 3)), (γ1_0, pt X Y Z)] ∧ _) := growB H4 hM (Nat.le_refl _) hl [2] rfl (by decide)
  have o5_2 := ownB H4 hM (Nat.le_refl _) hl (i := 2) rfl
  clear hM hl l H4
  generalize γ 2 = γ5_2 at H5 o5_2 ⊢
  clear γ
  refine rest_at (l := [3, 4, 5, 6, 7]) rfl ?_
  refine rest_set (d := 26) rfl rfl rfl rfl ?_
  simp only [Act.put, sa, sz, ss]
  refine rest_set (d := 30) (v := .slice (some ⟨γ5_2, 0, none⟩) 17 17) (w' := w5) rfl rfl rfl (by go_simp) ?_
  simp only [Act.put, sa, sz, ss]
  refine rest_set (d := 31) (v := .int .i64 0) (w' := w5) rfl rfl rfl (by go_simp) ?_
  simp only [Act.put, sa, sz, ss]
  refine rest_set (d := 10) rfl rfl rfl rfl ?_
  simp only [Act.put, sa, sz, ss]
  refine rest_set (d := 11) rfl rfl rfl rfl ?_
  simp only [Act.put, sa, sz, ss]
  refine rest_nil (then_normal (wp_seq ?_))
  refine walk_seqA 9 [.quiet (.int .i64 s), .quiet (.slice (some ⟨γ3_1, 0, none⟩) n (n + 3)), .call (.tuple #[.agg (pt X' Y' Z').toArray, .int .i64 er]), .quiet (.tuple #[.agg (pt X' Y' Z').toArray, .int .i64 er]), .quiet (.agg (pt X' Y' Z').toArray), .quiet (.int .i64 er), .made (pt 0 0 false) 25, .laid 6 (pt 0 0 false) (pt X' Y' Z'), .quiet (.int .i64 er)] (sB H5) ?ho6 ?he6 (hL := ?hL6)
  case hL6 => exact ⟨⟨_, rfl⟩, trivial⟩
  case ho6 => exact ak (fun _ => ⟨rfl, fun _ _ => rfl⟩) (ak (fun _ => ⟨rfl, fun _ _ => rfl⟩) (ak (fun γ => ⟨rfl, fun w' h => ⟨36, #[.int .i64 s, .slice (some ⟨γ3_1, 0, none⟩) n (n + 3)], exec_call rfl call36 rfl (mpn rfl), CR.out γ3_1 w' (h.one 2 rfl)⟩⟩) (ak (fun _ => ⟨rfl, fun _ _ => rfl⟩) (ak (by refine fun γ => ⟨rfl, fun w' h => ?_⟩; clear h; go_simp) (ak (by refine fun γ => ⟨rfl, fun w' h => ?_⟩; clear h; go_simp) (ak (fun γ => ⟨rfl, fun w' => ex_made25 rfl⟩) (ak (fun γ => ⟨rfl, rfl, rfl, fun w' h => ex_laidT h rfl rfl Try.sizeOf25 rfl rfl rfl⟩) (ak (fun _ => ⟨rfl, fun _ _ => rfl⟩) trivial))))))))
  intro γ w6 l hM hl
  have H6 : Hid (Mm w6 [(γ 6, pt X' Y' Z'), (γ5_2, by8 (pb X Y Z) 17), (γ4_5, kd p r c gx gy), (γ3_1, by8 (lent xs) (n + 3)), (γ1_0, pt X Y Z)] ∧ _) := growB H5 hM (Nat.le_refl _) hl [6] rfl (by decide)
  have o6_6 := ownB H5 hM (Nat.le_refl _) hl (i := 6) rfl
  clear hM hl l H5
  generalize γ 6 = γ6_6 at H6 o6_6 ⊢
  clear γ
  refine rest0 rfl (then_normal (wp_seq (wp_seq ?_)))
  refine (walk_seq) 4 [.quiet (.slice (some ⟨γ3_1, 0, none⟩) n (n + 3)), .quiet (.slice q n cp), .call (.bool true), .quiet (.bool false)] (fun u' => Mm u' [(γ6_6, pt X' Y' Z'), (γ5_2, by8 (pb X Y Z) 17), (γ4_5, kd p r c gx gy), (γ3_1, by8 (lent xs) (n + 3)), (γ1_0, pt X Y Z)] ∧ Below w.heap.size w u') ?pre7 ?F7 ?hpre7 (fun γ => ?hF7) (by kernel_rfl) ?hL7 ?hS7 ?ho7 ?he7
  case hpre7 => simp only [tk, tz]; rfl
  case hF7 => simp only [fill, Kind.val, Act.put, sa, sz, ss]; rfl
  case hL7 => exact trivial
  case hS7 => exact fun w' hb => ⟨H6.out.1.below hb, H6.out.2.trans (hb.mono H6.out.2.size)⟩
  case ho7 =>
    refine ak (fun _ => ⟨rfl, fun _ _ => rfl⟩) ?_
    refine ak (fun _ => ⟨rfl, fun _ _ => rfl⟩) ?_
    refine ak (fun γ => ⟨rfl, fun w' hX => have h := hX.1; ⟨37, #[.slice (some ⟨γ3_1, 0, none⟩) n (n + 3), .slice q n cp], exec_call rfl call37 rfl (mpn rfl), CK.out γ3_1 w' hX.2 (h.one 3 rfl)⟩⟩) ?_
    refine ak (by refine fun γ => ⟨rfl, fun w' h => ?_⟩; clear h; go_simp) ?_
    exact trivial
  intro γ w7 l hM hl
  have H7 := keepB H6 hM.below
  clear hM hl l H6 γ
  refine rest0 rfl (then_normal (wp_cond_false rfl ?_))
  refine wp_skip (then_normal ?_)
  refine wp_seq (wp_seq ?_)
  refine walk_seqB 2 [.quiet (.bool true), .quiet (.bool false)] H7 ?ho8 ?he8
  case ho8 => exact ak (fun _ => ⟨rfl, fun _ _ => rfl⟩) (ak (by refine fun γ => ⟨rfl, fun w' h => ?_⟩; clear h; go_simp) trivial)
  intro _ w8 H8
  clear H7
  refine rest0 rfl (then_normal (wp_cond_false rfl ?_))
  refine wp_skip (then_normal (wp_seq ?_))
  refine (walk_seq) 9 [.quiet (.agg (kd p r c gx gy).toArray), .quiet (.slice q n cp), .call (.tuple #[.agg (pt X' Y' Z').toArray, .int .i64 er]), .quiet (.tuple #[.agg (pt X' Y' Z').toArray, .int .i64 er]), .quiet (.agg (pt X' Y' Z').toArray), .quiet (.int .i64 er), .made (pt 0 0 false) 25, .laid 6 (pt 0 0 false) (pt X' Y' Z'), .quiet (.int .i64 er)] (fun u' => Mm u' [(γ6_6, pt X' Y' Z'), (γ5_2, by8 (pb X Y Z) 17), (γ4_5, kd p r c gx gy), (γ3_1, by8 (lent xs) (n + 3)), (γ1_0, pt X Y Z)] ∧ Below w.heap.size w u') ?pre9 ?F9 ?hpre9 (fun γ => ?hF9) (by kernel_rfl) ?hL9 ?hS9 ?ho9 ?he9
  case hpre9 => simp only [tk, tz]; rfl
  case hF9 => simp only [fill, Kind.val, Act.put, sa, sz, ss]; rfl
  case hL9 => exact ⟨⟨_, rfl⟩, trivial⟩
  case hS9 => exact fun w' hb => ⟨H8.out.1.below hb, H8.out.2.trans (hb.mono H8.out.2.size)⟩
  case ho9 =>
    refine ak (fun γ => ⟨rfl, fun w' hX => have h := hX.1; ex_loadT h 2 rfl rfl rfl Try.isAgg27 Try.sizeOf27 rfl rfl⟩) ?_
    refine ak (fun _ => ⟨rfl, fun _ _ => rfl⟩) ?_
    refine ak (fun γ => ⟨rfl, fun w' hX => ⟨38, #[.agg (kd p r c gx gy).toArray, .slice q n cp], exec_call rfl call38 rfl (mpn rfl), CD.out w' hX.2⟩⟩) ?_
    refine ak (fun _ => ⟨rfl, fun _ _ => rfl⟩) ?_
    refine ak (by refine fun γ => ⟨rfl, fun w' h => ?_⟩; clear h; go_simp) ?_
    refine ak (by refine fun γ => ⟨rfl, fun w' h => ?_⟩; clear h; go_simp) ?_
    refine ak (fun γ => ⟨rfl, fun w' => ex_made25 rfl⟩) ?_
    refine ak (fun γ => ⟨rfl, rfl, rfl, fun w' h => ex_laidT h rfl rfl Try.sizeOf25 rfl rfl rfl⟩) ?_
    refine ak (fun _ => ⟨rfl, fun _ _ => rfl⟩) ?_
    exact trivial
  intro γ w9 l hM hl
  have H9 : Hid (Mm w9 [(γ 6, pt X' Y' Z'), (γ6_6, pt X' Y' Z'), (γ5_2, by8 (pb X Y Z) 17), (γ4_5, kd p r c gx gy), (γ3_1, by8 (lent xs) (n + 3)), (γ1_0, pt X Y Z)] ∧ _) := growB H8 hM (Nat.le_refl _) hl [6] rfl (by decide)
  have o9_6 := ownB H8 hM (Nat.le_refl _) hl (i := 6) rfl
  clear hM hl l H8
  generalize γ 6 = γ9_6 at H9 o9_6 ⊢
  clear γ
  refine rest0 rfl (then_normal (wp_seq (wp_seq ?_)))
  refine walk_seqB 8 [.quiet (.agg (pt X' Y' Z').toArray), .quiet (.agg (pt X' Y' Z').toArray), .quiet (.bool false), .quiet (.bool false), .quiet (.int .i64 er), .quiet (.int .i64 er), .quiet (.bool false), .quiet (.bool false)] H9 ?ho10 ?he10
  case ho10 => exact ak (fun γ => ⟨rfl, fun w' h => ex_loadT h 1 rfl rfl rfl Try.isAgg25 Try.sizeOf25 rfl rfl⟩) (ak (fun γ => ⟨rfl, fun w' h => ex_loadT h 0 rfl rfl rfl Try.isAgg25 Try.sizeOf25 rfl rfl⟩) (ak (fun γ => ⟨rfl, fun w' _ => exec_neqT25 (fun w => eq_self _ _ _ w) rfl rfl rfl⟩) (ak (fun _ => ⟨rfl, fun _ _ => rfl⟩) (ak (fun _ => ⟨rfl, fun _ _ => rfl⟩) (ak (fun _ => ⟨rfl, fun _ _ => rfl⟩) (ak (by refine fun γ => ⟨rfl, fun w' h => ?_⟩; clear h; go_simp) (ak (by refine fun γ => ⟨rfl, fun w' h => ?_⟩; clear h; go_simp) trivial)))))))
  intro _ w10 H10
  clear H9
  refine rest0 rfl (then_normal (wp_cond_false rfl ?_))
  refine wp_skip (then_normal ?_)
  refine wp_seq (wp_seq ?_)
  refine walk_seqB 4 [.quiet (.agg (kd p r c gx gy).toArray), .quiet (.agg (pt X Y Z).toArray), .call (.bool true), .quiet (.bool false)] H10 ?ho11 ?he11
  case ho11 => exact ak (fun γ => ⟨rfl, fun w' h => ex_loadT h 3 rfl rfl rfl Try.isAgg27 Try.sizeOf27 rfl rfl⟩) (ak (fun γ => ⟨rfl, fun w' h => ex_loadT h 5 rfl rfl rfl Try.isAgg25 Try.sizeOf25 rfl rfl⟩) (ak (fun γ => ⟨rfl, fun w' h => ⟨22, #[.agg (kd p r c gx gy).toArray, .agg (pt X Y Z).toArray], exec_call rfl call22 rfl (mpn rfl), dc_is k.k.pr X Y Z _ ho w'⟩⟩) (ak (by refine fun γ => ⟨rfl, fun w' h => ?_⟩; clear h; go_simp) trivial)))
  intro _ w11 H11
  clear H10
  refine rest0 rfl (then_normal (wp_cond_false rfl ?_))
  refine wp_skip (then_normal (wp_seq ?_))
  refine walk_seqA 9 [.quiet (.slice (some ⟨γ5_2, 0, none⟩) 17 17), .quiet (.agg (pt X Y Z).toArray), .bornX (fun g x y => .slice (some ⟨g, 0, none⟩) 17 (17 + x)) (by8 (pb X Y Z) 17), .over (.bool true) 2 (by8 (pb X Y Z) 17), .quiet (.bool true), .quiet (.int .i64 0), .quiet (.bool true), .quiet (.bool true), .quiet (.bool true)] (sB H11) ?ho12 ?he12 (hL := ?hL12)
  case hL12 => exact ⟨⟨_, rfl⟩, trivial⟩
  case ho12 => exact ak (fun _ => ⟨rfl, fun _ _ => rfl⟩) (ak (fun γ => ⟨rfl, fun w' h => ex_loadT h 5 rfl rfl rfl Try.isAgg25 Try.sizeOf25 rfl rfl⟩) (ak (fun γ => ⟨rfl, fun w' h => ⟨40, #[.agg (pt X Y Z).toArray], exec_call rfl call40 rfl (mpn rfl), Bytes_doc X Y Z w'⟩⟩) (ak (fun γ => ⟨rfl, fun u w' h0 hge h1 hb hlt => by have h := Mm.over h0 hge h1 hb hlt; exact ⟨39, #[.slice (some ⟨γ5_2, 0, none⟩) 17 17, .slice (some ⟨(γ 2), 0, none⟩) 17 (17 + (γ 65538))], exec_call rfl call39 rfl (mpn rfl), same_doc _ _ _ w' (h.one 3 rfl) (h.one 0 rfl)⟩⟩) (ak (fun _ => ⟨rfl, fun _ _ => rfl⟩) (ak (fun _ => ⟨rfl, fun _ _ => rfl⟩) (ak (by refine fun γ => ⟨rfl, fun w' h => ?_⟩; clear h; go_simp) (ak (by refine fun γ => ⟨rfl, fun w' h => ?_⟩; clear h; go_simp) (ak (fun _ => ⟨rfl, fun _ _ => rfl⟩) trivial))))))))
  intro γ w12 l hM hl
  have H12 : Hid (Mm w12 [(γ 2, by8 (pb X Y Z) 17), (γ9_6, pt X' Y' Z'), (γ6_6, pt X' Y' Z'), (γ5_2, by8 (pb X Y Z) 17), (γ4_5, kd p r c gx gy), (γ3_1, by8 (lent xs) (n + 3)), (γ1_0, pt X Y Z)] ∧ _) := growB H11 hM (Nat.le_refl _) hl [2] rfl (by decide)
  have o12_2 := ownB H11 hM (Nat.le_refl _) hl (i := 2) rfl
  clear hM hl l H11
  generalize γ 2 = γ12_2 at H12 o12_2 ⊢
  generalize γ 65538 = γ12_65538
  clear γ
  refine rest0 rfl (then_normal (wp_ret ?_))
  repeat (first | refine then_ret ?_ | refine block_ret ?_)
  refine bodyPost_ret (v := .bool true) (by simp [results, Try.results5, go_sem, *]) rfl ?_
  exact ⟨rfl, H12.out.2⟩
set_option maxHeartbeats 1000000 in
set_option maxRecDepth 100000 in
theorem texts_long (X Y : Nat) (Z : Bool) (q : Option Addr) (n cp : Nat) (hn : ¬ n ≤ 100) (w : World) :
    Calls Try.prog 5 #[.int .i64 s, .agg (pt X Y Z).toArray, .slice q n cp] w fun e w' => e = .returned (.bool true) ∧ Below w.heap.size w w' := by
  have H0 : Hid (_ ∧ _) := ⟨Mm.nil w, Below.refl w.heap.size w⟩
  go_enter Try.func5, Try.ntmps5
  refine wp_seq ?_
  refine walk_seqA 2 [.made (pt X Y Z) 25, .quiet (.bool false)] (sB H0) ?ho1 ?he1
  case ho1 => exact ak (fun γ => ⟨rfl, fun w' => ex_boxT rfl rfl⟩) (ak (fun _ => ⟨rfl, fun _ _ => rfl⟩) trivial)
  intro γ w1 l hM hl
  have H1 : Hid (Mm w1 [(γ 0, pt X Y Z)] ∧ _) := growB H0 hM (Nat.le_refl _) hl [0] rfl (by decide)
  have o1_0 := ownB H0 hM (Nat.le_refl _) hl (i := 0) rfl
  clear hM hl l
  generalize γ 0 = γ1_0 at H1 o1_0 ⊢
  clear γ
  refine rest0 rfl (then_normal (wp_seq (wp_seq ?_)))
  refine walk_seqB 3 [.quiet (.slice q n cp), .quiet (.int .i64 ((n : Nat) : Int)), .quiet (.bool true)] H1 ?ho2 ?he2
  case ho2 => exact ak (fun _ => ⟨rfl, fun _ _ => rfl⟩) (ak (by refine fun γ => ⟨rfl, fun w' h => ?_⟩; clear h; go_simp) (ak (by refine fun γ => ⟨rfl, fun w' h => ?_⟩; clear h; go_simp <;> omega) trivial))
  intro _ w2 H2
  clear H1
  refine rest0 rfl (then_normal (wp_cond_true rfl (wp_seq ?_)))
  refine walk_seqB 1 [.quiet (.bool true)] H2 ?ho3 ?he3
  case ho3 => exact ak (fun _ => ⟨rfl, fun _ _ => rfl⟩) trivial
  intro _ w3 H3
  clear H2
  refine rest0 rfl (then_normal (wp_ret ?_))
  repeat (first | refine then_ret ?_ | refine block_ret ?_)
  refine bodyPost_ret (v := .bool true) (by simp [results, Try.results5, go_sem, *]) rfl ?_
  exact ⟨rfl, H3.out.2⟩
end
end Rg
end Go.Proofs.Ytjmbgchoioepjaa
end
section
namespace Go.Proofs.Ytjmbgchoioepjaa
open Go.RowKit
namespace Rg
section
variable {s : Int} {p r c gx gy : Nat}
theorem bsl_inv {w : World} {xs : List Int} {c : Nat} {v : Value} (h : BSl w xs c v) : xs = [] ∨ ∃ g o, v = .slice (some ⟨g, o, none⟩) xs.length c ∧ g < w.heap.size ∧ xs.length ≤ c ∧ ∀ i, i < xs.length → w.cell? ⟨g, o + i, none⟩ = some (.int .u8 (xs.getD i 0)) := by
  cases h using BSl.each with
  | full g o hg hc h => exact .inr ⟨g, o, rfl, hg, hc, h⟩
  | void q hq => exact .inl hq
theorem Blk.row8 {w : World} {g n : Nat} {f : Nat → Int} (h : Row8 w g n f) : Blk w g (by8 f n) := fun j v hj => by
  obtain ⟨h1, h2⟩ := by8_inv hj
  rw [h2]
  exact h j h1
theorem Row8.blk {w : World} {g n : Nat} {f : Nat → Int} (h : Blk w g (by8 f n)) : Row8 w g n f := fun j hj => h j _ (by8_get f hj)
theorem lent_c (xs : List Int) (cp : Nat) (v : Value) (hn : xs.length ≤ 100) (w : World) (h : BSl w xs cp v) (u : World) (hu : Below w.heap.size w u) :
    Calls Try.prog 34 #[v] u fun e w' => Below u.heap.size u w' ∧ ∃ g, e = .returned (.slice (some ⟨g, 0, none⟩) xs.length (xs.length + 3)) ∧ u.heap.size ≤ g ∧ g < w'.heap.size ∧ Blk w' g (by8 (lent xs) (xs.length + 3)) :=
  Calls.mono (lent_any xs cp v (by omega) u (h.below hu)) (fun e w' hh => ⟨hh.2.2.2, u.heap.size, hh.1, Nat.le_refl _, hh.2.1, Blk.row8 hh.2.2.1⟩)
theorem kept_c (xs : List Int) (cp : Nat) (v : Value) (hn : xs.length ≤ 100) (w : World) (h : BSl w xs cp v) (g : Nat) (u : World) (hu : Below w.heap.size w u) (hm : Mm u [(g, by8 (lent xs) (xs.length + 3))]) :
    Calls Try.prog 37 #[.slice (some ⟨g, 0, none⟩) xs.length (xs.length + 3), v] u fun e w' => e = .returned (.bool true) ∧ Below u.heap.size u w' :=
  kept_any xs g cp v (by omega) u (hm.blk _ (List.mem_singleton.2 rfl)).1 (Row8.blk (hm.blk _ (List.mem_singleton.2 rfl)).2) (h.below hu)
theorem texts_eq (k : Kq s p r c gx gy) (X Y : Nat) (Z : Bool) (xs : List Int) (q : Option Addr) (cp : Nat) (hn : xs.length ≤ 100) (w : World) (h : BSl w xs cp (.slice q xs.length cp)) (X' Y' : Nat) (Z' : Bool) (er : Int)
    (cr : ∀ g u, Mm u [(g, by8 (lent xs) (xs.length + 3))] → Calls Try.prog 36 #[.int .i64 s, .slice (some ⟨g, 0, none⟩) xs.length (xs.length + 3)] u fun e w' => e = .returned (.tuple #[V (pt X' Y' Z'), .int .i64 er]) ∧ Below u.heap.size u w')
    (cd : ∀ u, Below w.heap.size w u → Calls Try.prog 38 #[.agg (kd p r c gx gy).toArray, .slice q xs.length cp] u fun e w' => e = .returned (.tuple #[V (pt X' Y' Z'), .int .i64 er]) ∧ Below u.heap.size u w') : Calls Try.prog 5 #[.int .i64 s, .agg (pt X Y Z).toArray, (.slice q xs.length cp)] w fun e w' => e = .returned (.bool true) ∧ Below w.heap.size w w' := by
  cases ho : oc p X Y Z
  · exact texts_f w k X Y Z ho q _ cp hn xs (lent_c xs cp _ hn w h) (kept_c xs cp _ hn w h) X' Y' Z' er cr cd
  · exact texts_t w k X Y Z ho q _ cp hn xs (lent_c xs cp _ hn w h) (kept_c xs cp _ hn w h) X' Y' Z' er cr cd
theorem lent_rd (xs : List Int) (h17 : xs.length = 17) (hx : ∀ x ∈ xs, 0 ≤ x ∧ x < 256) (g : Nat) (u : World) (hm : Mm u [(g, by8 (lent xs) (xs.length + 3))]) : Rd g 0 17 (fun i => (xs.getD i 0).toNat) u :=
  ⟨(hm.blk _ (List.mem_singleton.2 rfl)).1, fun i hi => by
    have h := (Row8.blk (hm.blk _ (List.mem_singleton.2 rfl)).2 i (by omega)).1
    rw [Nat.zero_add, h]
    unfold lent
    rw [if_pos (by omega)]
    have hmem : xs.getD i 0 ∈ xs := by
      rw [List.getD, List.getElem?_eq_getElem (show i < xs.length by omega)]
      exact List.getElem_mem _
    rw [Int.toNat_of_nonneg (hx _ hmem).1]⟩
theorem xs_rd (xs : List Int) (h17 : xs.length = 17) (hx : ∀ x ∈ xs, 0 ≤ x ∧ x < 256) (g o : Nat) (w : World) (hg : g < w.heap.size) (h : ∀ i, i < xs.length → w.cell? ⟨g, o + i, none⟩ = some (.int .u8 (xs.getD i 0))) : Rd g o 17 (fun i => (xs.getD i 0).toNat) w :=
  ⟨hg, fun i hi => by
    rw [h i (by omega)]
    have hmem : xs.getD i 0 ∈ xs := by
      rw [List.getD, List.getElem?_eq_getElem (show i < xs.length by omega)]
      exact List.getElem_mem _
    rw [Int.toNat_of_nonneg (hx _ hmem).1]⟩
theorem xs_lt (xs : List Int) (hx : ∀ x ∈ xs, 0 ≤ x ∧ x < 256) (i : Nat) : (xs.getD i 0).toNat < 256 := by
  by_cases hi : i < xs.length
  · have hm : xs.getD i 0 ∈ xs := by
      rw [List.getD, List.getElem?_eq_getElem hi]
      exact List.getElem_mem _
    have := hx _ hm
    omega
  · rw [List.getD, List.getElem?_eq_none (by omega)]
    decide
theorem texts_kf (k : Kf s p r c gx gy) (X Y : Nat) (Z : Bool) (xs : List Int) (cp : Nat) (v : Value) (hx : ∀ x ∈ xs, 0 ≤ x ∧ x < 256) (w : World) (h : BSl w xs cp v) : Calls Try.prog 5 #[.int .i64 s, .agg (pt X Y Z).toArray, v] w fun e w' => e = .returned (.bool true) ∧ Below w.heap.size w w' := by
  have := k.q.ne
  have F := k.fd
  obtain ⟨q, hv⟩ : ∃ q, v = .slice q xs.length cp := by
    cases h using BSl.each with
    | full g o hg hc h => exact ⟨_, rfl⟩
    | void q hq => subst hq; exact ⟨q, rfl⟩
  subst hv
  by_cases hn : xs.length ≤ 100
  · by_cases h17 : xs.length = 17
    · rcases bsl_inv h with hq | ⟨g, o, hv, hg, hc, hcell⟩
      · rw [hq] at h17; cases h17
      · injection hv with hq1 _ _
        subst hq1
        have hr := xs_rd xs h17 hx g o w hg hcell
        have hf : ∀ i, (fun i => (xs.getD i 0).toNat) i < 256 := xs_lt xs hx
        have hL := lent_rd xs h17 hx
        have T := texts_eq k.q X Y Z xs (some ⟨g, o, none⟩) cp hn w h
        have hc' : 17 ≤ cp := by omega
        rw [h17] at T hL
        rw [h17]
        generalize (fun i => (xs.getD i 0).toNat) = f at hr hf hL
        by_cases h0 : 1 < f 0
        · exact T 0 0 false 4 (fun g' u hm => read_hi k.q.k g' 0 20 f hf (by decide) h0 u (hL g' u hm)) (fun u hu => dread_hi k.q.k.pr k.q.k.rb g o cp f hf hc' h0 u (hr.below hu))
        · cases h1 : oc p (tkn (fun i => f (1 + i)) 8) (tkn (fun i => f (9 + i)) 8) (decide (f 0 = 1))
          · exact T 0 0 false 4 (fun g' u hm => read_oc k.q.k g' 0 20 f hf (by decide) h0 h1 u (hL g' u hm)) (fun u hu => dread_oc k.q.k.pr k.q.k.rb g o cp f hf hc' h0 h1 u (hr.below hu))
          · cases h2 : ig p r (tkn (fun i => f (1 + i)) 8) (tkn (fun i => f (9 + i)) 8) (decide (f 0 = 1))
            · exact T 0 0 false 5 (fun g' u hm => read_ig k.q.k g' 0 20 f hf (by decide) h0 h1 h2 u (hL g' u hm)) (fun u hu => dread_ig k.q.k.pr k.q.k.rb g o cp f hf hc' h0 h1 (by rw [← ig_is F.pr F.prm]; exact h2) u (hr.below hu))
            · exact T _ _ _ 0 (fun g' u hm => read_ok k.q.k g' 0 20 f hf (by decide) h0 h1 h2 u (hL g' u hm)) (fun u hu => dread_ok k.q.k.pr k.q.k.rb g o cp f hf hc' h0 h1 (by rw [← ig_is F.pr F.prm]; exact h2) u (hr.below hu))
    · exact texts_eq k.q X Y Z xs q cp hn w h 0 0 false 4 (fun g u _ => read_len k.q.k _ _ _ h17 u) (fun u _ => dread_len _ _ cp h17 u)
  · exact texts_long X Y Z _ _ cp hn w
end
theorem texts_any (s : Int) (X Y : Nat) (Z : Bool) (xs : List Int) (cp : Nat) (v : Value) (hx : ∀ x ∈ xs, 0 ≤ x ∧ x < 256) (w : World) (h : BSl w xs cp v) : Calls Try.prog 5 #[.int .i64 s, .agg (pt X Y Z).toArray, v] w fun e w' => e = .returned (.bool true) ∧ Below w.heap.size w w' := by
  by_cases h1 : s = 1
  · subst h1; exact texts_kf kf_1 X Y Z xs cp v hx w h
  · by_cases h2 : s = 2
    · subst h2; exact texts_kf kf_2 X Y Z xs cp v hx w h
    · obtain ⟨q, hv⟩ : ∃ q, v = .slice q xs.length cp := by
        cases h using BSl.each with
        | full g o hg hc h => exact ⟨_, rfl⟩
        | void q hq => subst hq; exact ⟨q, rfl⟩
      subst hv
      by_cases hn : xs.length ≤ 100
      · exact texts_no w s h1 h2 X Y Z q _ cp hn xs (lent_c xs cp _ hn w h) (kept_c xs cp _ hn w h)
      · exact texts_long X Y Z _ _ cp hn w
end Rg
end Go.Proofs.Ytjmbgchoioepjaa
end
section
namespace Go.Proofs.Ytjmbgchoioepjaa
open Go.ChangeShapes Go.WideShapes Go.ChangeAt Go.RowKit
theorem Try.own : ownKnob Try.prog.godebug = none := by kernel_rfl
theorem Try.laidOut : laidOutB Try.prog = true := by kernel_rfl
section
variable {H : Type} {enc : TypeId × Value → H} {w : World} {base : Nat} {sp : Nat → Bool} {held : Bool}
set_option maxRecDepth 100000 in
theorem cells_U {fuel : Nat} {cs : List Value} {x : DataW H × List MemPlace} (h : DataW.trod enc Try.prog w base sp held fuel 23 cs = some x) : (∃ a : Nat, a < 18446744073709551616 ∧ cs = [Rg.U a]) ∧ x.2 = [] := by
  obtain ⟨n, e1, e2, e3⟩ := DataW.trod_int Try.underlying23 h
  have hb := bounds_u64 e3
  exact ⟨⟨n.toNat, by omega, by rw [e1, Rg.U, Int.toNat_of_nonneg hb.1]⟩, by rw [e2]⟩
set_option maxRecDepth 100000 in
theorem cells_L1 {fuel : Nat} {cs : List Value} {x : DataW H × List MemPlace} (h : DataW.trod enc Try.prog w base sp held fuel 25 cs = some x) : (∃ a b z, a < 18446744073709551616 ∧ b < 18446744073709551616 ∧ cs = Rg.pt a b z) ∧ x.2 = [] := by
  obtain ⟨xs, n, -, hx, hl, hn, hel⟩ := DataW.trod_struct Try.underlying25 h
  have hl' : cs.length = 3 := hl.trans (by kernel_rfl)
  have hn' : xs.length = 3 := hn
  obtain ⟨c0, c1, c2, rfl⟩ : ∃ c0 c1 c2, cs = [c0, c1, c2] := by
    match cs, hl' with
    | [c0, c1, c2], _ => exact ⟨c0, c1, c2, rfl⟩
  match xs, hn' with
  | [x0, x1, x2], _ =>
    have f0 : DataW.trod enc Try.prog w base sp held n 23 [c0] = some x0 := by
      have f : DataW.trod enc Try.prog w base sp held n 23 ((([c0, c1, c2] : List Value).drop 0).take (Try.prog.cellsOf 23)) = some x0 := hel 0 _ rfl
      rw [show Try.prog.cellsOf 23 = 1 by kernel_rfl] at f
      exact f
    have f1 : DataW.trod enc Try.prog w base sp held n 23 [c1] = some x1 := by
      have f : DataW.trod enc Try.prog w base sp held n 23 ((([c0, c1, c2] : List Value).drop 1).take (Try.prog.cellsOf 23)) = some x1 := hel 1 _ rfl
      rw [show Try.prog.cellsOf 23 = 1 by kernel_rfl] at f
      exact f
    have f2 : DataW.trod enc Try.prog w base sp held n 4 [c2] = some x2 := by
      have f : DataW.trod enc Try.prog w base sp held n 4 ((([c0, c1, c2] : List Value).drop 2).take (Try.prog.cellsOf 4)) = some x2 := hel 2 _ rfl
      rw [show Try.prog.cellsOf 4 = 1 by kernel_rfl] at f
      exact f
    obtain ⟨⟨a, ha, e0⟩, q0⟩ := cells_U f0
    obtain ⟨⟨b, hb, e1⟩, q1⟩ := cells_U f1
    obtain ⟨z, e2, q2⟩ := DataW.trod_bool Try.underlying4 f2
    refine ⟨⟨a, b, z, ha, hb, ?_⟩, ?_⟩
    · injection e0 with e0 _
      injection e1 with e1 _
      injection e2 with e2 _
      rw [e0, e1, e2]
    · rw [hx]
      show x0.2 ++ (x1.2 ++ (x2.2 ++ [])) = []
      rw [q0, q1, q2]
      rfl
end
section
variable {H : Type} {enc : TypeId × Value → H} {w : World} {base : Nat} {sp : Nat → Bool} {held : Bool} {r : Reach} {b0 : Nat} {v : Value} {d : DataW H} {ps : List MemPlace}
set_option maxRecDepth 100000 in
theorem open_L1 (hval : Value.okWide Try.prog w r b0 25 v) (hd : DataW.Trod enc Try.prog w base sp held 25 v d ps) : ∃ a b z, a < 18446744073709551616 ∧ b < 18446744073709551616 ∧ v = Rg.V (Rg.pt a b z) ∧ ps = [] := by
  unfold Value.okWide at hval
  rw [Try.underlying25] at hval
  obtain ⟨cs, rfl, hsz, _⟩ := hval
  obtain ⟨fuel, hf⟩ := hd
  obtain ⟨⟨a, b, z, ha, hb, e⟩, hx⟩ := cells_L1 hf
  refine ⟨a, b, z, ha, hb, ?_, hx⟩
  have e2 : cs.toList = Rg.pt a b z := e
  rw [Rg.V, ← e2, Array.toArray_toList]
end
section
variable {H : Type} {enc : TypeId × Value → H} {w : World} {base : Nat} {sp : Nat → Bool} {held : Bool} {r : Reach} {b0 : Nat} {v : Value} {d : DataW H} {ps : List MemPlace}
end
theorem l1_stays {H : Type} {enc : TypeId × Value → H} {W W' : World} {v : Value} {d : DataW H}
    (h : DataW.Trod enc Try.prog W 0 (fun _ => true) true 25 v d []) (hb : Below W.heap.size W W') :
    DataW.Trod enc Try.prog W' 0 (fun b => decide (b < W.heap.size)) true 25 v d [] :=
  Below.trod Try.laidOut (by kernel_rfl) (by decide +kernel) h hb (fun _ hx => by cases hx)
section
variable {H : Type} {enc : TypeId × Value → H} {P : Program} {w : World} {base : Nat} {spare : Nat → Bool} {held : Bool}
end
end Go.Proofs.Ytjmbgchoioepjaa
end
section
namespace Go.Proofs.Ytjmbgchoioepjaa
open Go.ChangeShapes Go.WideShapes Go.ChangeAt Go.RowKit
theorem Try.cells5 : Try.prog.cellsOf 5 = 1 := by kernel_rfl
set_option maxRecDepth 100000 in
theorem open_bytes {H : Type} {enc : TypeId × Value → H} {w : World} {base : Nat} {sp : Nat → Bool} {held : Bool} {r : Reach} {b0 : Nat} {v : Value} {d : DataW H} {ps : List MemPlace}
    (hval : Value.okWide Try.prog w r b0 59 v) (hd : DataW.Trod enc Try.prog w base sp held 59 v d ps) :
    ∃ xs c, BSl w xs c v ∧ (∀ x ∈ xs, 0 ≤ x ∧ x < 256) ∧ ∀ x ∈ ps, x.block < w.heap.size := by
  obtain ⟨a0, len, cap, rfl⟩ := okWide_slice Try.underlying59 hval
  obtain ⟨fuel, hf⟩ := hd
  rcases open_ints Try.underlying59 Try.underlying5 Try.cells5 hf with ⟨hcs, hx⟩ | ⟨a, len', cap', zs, hcs, _, hl, hm, hz, hx, hcell, hwz⟩
  · simp [Value.cells] at hcs
    obtain ⟨rfl, rfl, rfl⟩ := hcs
    simp only [Prod.mk.injEq] at hx
    obtain ⟨_, rfl⟩ := hx
    exact ⟨[], 0, .void none rfl, by simp, by simp⟩
  · simp [Value.cells] at hcs
    obtain ⟨rfl, rfl, rfl⟩ := hcs
    simp only [Prod.mk.injEq] at hx
    obtain ⟨_, rfl⟩ := hx
    have hlz : len ≤ zs.length := by rw [hz]; split <;> omega
    have hps : ∀ x ∈ MemPlace.row a zs.length, x.block < w.heap.size := fun x hx => by
      obtain ⟨i, hi, rfl⟩ := MemPlace.mem_row.1 hx
      have := World.block_lt_of_cell? w _ (hcell i hi)
      obtain ⟨b, off, rfl, _⟩ := ints_at hcell (by omega)
      exact World.block_lt_of_cell? w _ (hcell 0 (by omega))
    have hb : ∀ x ∈ zs, 0 ≤ x ∧ x < 256 := fun x hx => by
      have := bounds_u8 (hwz x hx)
      omega
    by_cases h0 : len = 0
    · subst h0
      exact ⟨[], cap, .void (some a) rfl, by simp, hps⟩
    · obtain ⟨b, off, rfl, hc⟩ := ints_at hcell (by omega)
      refine ⟨zs.take len, cap, ?_, fun x hx => hb x (List.mem_of_mem_take hx), hps⟩
      have hlen : (zs.take len).length = len := by simp; omega
      have hf : BSl w (zs.take len) cap (.slice (some ⟨b, off, none⟩) (zs.take len).length cap) := .full b off (World.block_lt_of_cell? w _ (hc 0 (by omega))) (by rw [hlen]; exact hl) (fun i hi => by
        rw [hlen] at hi
        rw [hc i (by omega)]
        simp [hi])
      rw [hlen] at hf
      exact hf
end Go.Proofs.Ytjmbgchoioepjaa
end
