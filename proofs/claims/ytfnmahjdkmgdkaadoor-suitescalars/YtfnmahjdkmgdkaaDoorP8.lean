/- Texts of the proof, joined. -/
import Derived.Test.YtfnmahjdkmgdkaaDoorP7
import Derived.BigRegion
section
namespace Go.Proofs.YtfnmahjdkmgdkaaDoor
open Go.RowKit
namespace Rg
namespace Fs
set_option maxRecDepth 100000
theorem pre7 (F : Nat → Nat) : ((ints .u64 F 13).drop 7).take 6 = ints .u64 (fun j => F (7 + j)) 6 := rfl
set_option maxHeartbeats 1000000 in
set_option maxRecDepth 100000 in
theorem fmul_w (F a b D E : Nat → Nat) (h1 : ∀ w, Calls Tryd.prog 88 #[.agg (ints .u64 F 13).toArray, .agg (ints .u64 a 6).toArray, .agg (ints .u64 b 6).toArray] w fun e w' => e = .returned (.agg (ints .u64 D 6).toArray) ∧ Below w.heap.size w w') (h2 : ∀ w, Calls Tryd.prog 88 #[.agg (ints .u64 F 13).toArray, .agg (ints .u64 D 6).toArray, .agg (ints .u64 (fun j => F (7 + j)) 6).toArray] w fun e w' => e = .returned (.agg (ints .u64 E 6).toArray) ∧ Below w.heap.size w w') (w : World) :
    Calls Tryd.prog 62 #[.agg (ints .u64 F 13).toArray, .agg (ints .u64 a 6).toArray, .agg (ints .u64 b 6).toArray] w fun e w' => e = .returned (.agg (ints .u64 E 6).toArray) ∧ Below w.heap.size w w' := by
  have H0 : Hid (_ ∧ _) := ⟨Mm.nil w, Below.refl w.heap.size w⟩
  have HM1 : Hid _ := h1
  have HM2 : Hid _ := h2
  clear h1 h2
  go_enter Tryd.func62, Tryd.ntmps62
  refine wp_seq ?_
  refine walk_seqA 4 [.made (ints .u64 F 13) 81, .made (ints .u64 a 6) 24, .made (ints .u64 b 6) 24, .made (ints .u64 (fun _ => 0) 6) 24] (sB H0) ?ho1 ?he1
  case ho1 => exact ak (fun γ => ⟨rfl, fun w' => ex_boxT rfl rfl⟩) (ak (fun γ => ⟨rfl, fun w' => ex_boxT rfl rfl⟩) (ak (fun γ => ⟨rfl, fun w' => ex_boxT rfl rfl⟩) (ak (fun γ => ⟨rfl, fun w' => ex_mk25 rfl⟩) trivial)))
  intro γ w1 l hM hl
  have H1 : Hid (Mm w1 [(γ 0, ints .u64 F 13), (γ 1, ints .u64 a 6), (γ 2, ints .u64 b 6), (γ 3, ints .u64 (fun _ => 0) 6)] ∧ _) := growB H0 hM (Nat.le_refl _) hl [0, 1, 2, 3] rfl (by decide)
  have o1_0 := ownB H0 hM (Nat.le_refl _) hl (i := 0) rfl
  have o1_1 := ownB H0 hM (Nat.le_refl _) hl (i := 1) rfl
  have o1_2 := ownB H0 hM (Nat.le_refl _) hl (i := 2) rfl
  have o1_3 := ownB H0 hM (Nat.le_refl _) hl (i := 3) rfl
  clear hM hl l
  generalize γ 0 = γ1_0 at H1 o1_0 ⊢
  generalize γ 1 = γ1_1 at H1 o1_1 ⊢
  generalize γ 2 = γ1_2 at H1 o1_2 ⊢
  generalize γ 3 = γ1_3 at H1 o1_3 ⊢
  clear γ
  refine rest0 rfl (then_normal (wp_seq ?_))
  refine walk_anyB 8 [.quiet (.agg (ints .u64 F 13).toArray), .quiet (.agg (ints .u64 F 13).toArray), .quiet (.agg (ints .u64 a 6).toArray), .quiet (.agg (ints .u64 b 6).toArray), .call (.agg (ints .u64 D 6).toArray), .quiet (PT γ1_0 7), .quiet (.agg (ints .u64 (fun j => F (7 + j)) 6).toArray), .call (.agg (ints .u64 E 6).toArray)] H1 ?ho2 ?he2
  case ho2 => exact ak (fun γ => ⟨rfl, fun w' h => ex_loadT h 0 rfl rfl rfl Tryd.isAgg81 Tryd.sizeOf81 (ints_whole _ _ _) (ints_len _ _ _)⟩) (ak (fun γ => ⟨rfl, fun w' h => ex_loadT h 0 rfl rfl rfl Tryd.isAgg81 Tryd.sizeOf81 (ints_whole _ _ _) (ints_len _ _ _)⟩) (ak (fun γ => ⟨rfl, fun w' h => ex_loadT h 1 rfl rfl rfl Tryd.isAgg24 Tryd.sizeOf24 (ints_whole _ _ _) (ints_len _ _ _)⟩) (ak (fun γ => ⟨rfl, fun w' h => ex_loadT h 2 rfl rfl rfl Tryd.isAgg24 Tryd.sizeOf24 (ints_whole _ _ _) (ints_len _ _ _)⟩) (ak (fun γ => ⟨rfl, fun w' h => ⟨88, #[.agg (ints .u64 F 13).toArray, .agg (ints .u64 a 6).toArray, .agg (ints .u64 b 6).toArray], exec_call rfl call88 rfl (mpn rfl), HM1.out w'⟩⟩) (ak (by refine fun γ => ⟨rfl, fun w' h => ?_⟩; clear h; go_simp) (ak (fun γ => ⟨rfl, fun w' h => ex_loadT h 0 rfl rfl rfl Tryd.isAgg24 Tryd.sizeOf24 (pre7 F) (ints_len _ _ _)⟩) (ak (fun γ => ⟨rfl, fun w' h => ⟨88, #[.agg (ints .u64 F 13).toArray, .agg (ints .u64 D 6).toArray, .agg (ints .u64 (fun j => F (7 + j)) 6).toArray], exec_call rfl call88 rfl (mpn rfl), HM2.out w'⟩⟩) trivial)))))))
  intro _ w2 H2
  clear H1
  refine rest_at (l := [8]) rfl ?_
  refine rest_store rfl rfl rfl (ex_storeT (vs := ints .u64 E 6) H2.out.1 3 rfl rfl rfl rfl (by rw [ints_len]; exact Tryd.sizeOf24) (ints_all _ _ _) (by simp [ints_len])) ?_
  have H3 : Hid (Mm (w2.setCells γ1_3 0 (ints .u64 E 6)) [(γ1_0, ints .u64 F 13), (γ1_1, ints .u64 a 6), (γ1_2, ints .u64 b 6), (γ1_3, ints .u64 E 6)] ∧ Below w.heap.size w (w2.setCells γ1_3 0 (ints .u64 E 6))) := ⟨by
    have h := H2.out.1.put 3 (off := 0) (vs := ints .u64 E 6) rfl (by simp [ints_len])
    rw [ints_patch0 _ _ _ _] at h
    exact h, below_setCells _ o1_3.out _ _ _ H2.out.2⟩
  clear H2
  generalize hgw : World.setCells _ _ _ _ = w3 at H3 ⊢
  clear hgw
  refine rest_nil (then_normal (wp_ret ?_))
  repeat (first | refine then_ret ?_ | refine block_ret ?_)
  have hf0 := var_T H3.out.1 3 rfl Tryd.isAgg24 Tryd.sizeOf24 (ints_len _ _ _)
  refine bodyPost_ret (v := .agg (ints .u64 E 6).toArray) (by simp [results, Tryd.results62, asAddr, hf0]) rfl ?_
  exact ⟨rfl, H3.out.2⟩
set_option maxHeartbeats 1000000 in
set_option maxRecDepth 100000 in
theorem fadd_b (F a b S D : Nat → Nat) (z : Int) (hc0 : ∀ w, Calls Tryd.prog 54 #[.agg (ints .u64 S 6).toArray, .agg (ints .u64 F 6).toArray] w fun e w' => e = .returned (.int .i64 z) ∧ Below w.heap.size w w') (ub : Bool) (hs0 : ∀ w, Calls Tryd.prog 57 #[.agg (ints .u64 S 6).toArray, .agg (ints .u64 F 6).toArray] w fun e w' => e = .returned (.tuple #[.agg (ints .u64 D 6).toArray, .bool ub]) ∧ Below w.heap.size w w') (cb : Bool) (ha0 : ∀ w, Calls Tryd.prog 87 #[.agg (ints .u64 a 6).toArray, .agg (ints .u64 b 6).toArray] w fun e w' => e = .returned (.tuple #[.agg (ints .u64 S 6).toArray, .bool cb]) ∧ Below w.heap.size w w') (hz : 0 ≤ z) (w : World) :
    Calls Tryd.prog 61 #[.agg (ints .u64 F 13).toArray, .agg (ints .u64 a 6).toArray, .agg (ints .u64 b 6).toArray] w fun e w' => e = .returned (.agg (ints .u64 D 6).toArray) ∧ Below w.heap.size w w' := by
  have H0 : Hid (_ ∧ _) := ⟨Mm.nil w, Below.refl w.heap.size w⟩
  have HA : Hid _ := ha0
  have HC : Hid _ := hc0
  have HS : Hid _ := hs0
  clear ha0 hc0 hs0
  go_enter Tryd.func61, Tryd.ntmps61
  refine wp_seq ?_
  refine walk_seqA 4 [.made (ints .u64 F 13) 81, .made (ints .u64 a 6) 24, .made (ints .u64 b 6) 24, .made (ints .u64 (fun _ => 0) 6) 24] (sB H0) ?ho1 ?he1
  case ho1 => exact ak (fun γ => ⟨rfl, fun w' => ex_boxT rfl rfl⟩) (ak (fun γ => ⟨rfl, fun w' => ex_boxT rfl rfl⟩) (ak (fun γ => ⟨rfl, fun w' => ex_boxT rfl rfl⟩) (ak (fun γ => ⟨rfl, fun w' => ex_mk25 rfl⟩) trivial)))
  intro γ w1 l hM hl
  have H1 : Hid (Mm w1 [(γ 0, ints .u64 F 13), (γ 1, ints .u64 a 6), (γ 2, ints .u64 b 6), (γ 3, ints .u64 (fun _ => 0) 6)] ∧ _) := growB H0 hM (Nat.le_refl _) hl [0, 1, 2, 3] rfl (by decide)
  have o1_0 := ownB H0 hM (Nat.le_refl _) hl (i := 0) rfl
  have o1_1 := ownB H0 hM (Nat.le_refl _) hl (i := 1) rfl
  have o1_2 := ownB H0 hM (Nat.le_refl _) hl (i := 2) rfl
  have o1_3 := ownB H0 hM (Nat.le_refl _) hl (i := 3) rfl
  clear hM hl l
  generalize γ 0 = γ1_0 at H1 o1_0 ⊢
  generalize γ 1 = γ1_1 at H1 o1_1 ⊢
  generalize γ 2 = γ1_2 at H1 o1_2 ⊢
  generalize γ 3 = γ1_3 at H1 o1_3 ⊢
  clear γ
  refine rest0 rfl (then_normal (wp_seq ?_))
  refine walk_seqA 9 [.quiet (.agg (ints .u64 a 6).toArray), .quiet (.agg (ints .u64 b 6).toArray), .call (.tuple #[.agg (ints .u64 S 6).toArray, .bool cb]), .quiet (.tuple #[.agg (ints .u64 S 6).toArray, .bool cb]), .quiet (.agg (ints .u64 S 6).toArray), .quiet (.bool cb), .made (ints .u64 (fun _ => 0) 6) 24, .laid 6 (ints .u64 (fun _ => 0) 6) (ints .u64 S 6), .quiet (.bool cb)] (sB H1) ?ho2 ?he2 (hL := ?hL2)
  case hL2 => exact ⟨⟨_, rfl⟩, trivial⟩
  case ho2 => exact ak (fun γ => ⟨rfl, fun w' h => ex_loadT h 1 rfl rfl rfl Tryd.isAgg24 Tryd.sizeOf24 (ints_whole _ _ _) (ints_len _ _ _)⟩) (ak (fun γ => ⟨rfl, fun w' h => ex_loadT h 2 rfl rfl rfl Tryd.isAgg24 Tryd.sizeOf24 (ints_whole _ _ _) (ints_len _ _ _)⟩) (ak (fun γ => ⟨rfl, fun w' h => ⟨87, #[.agg (ints .u64 a 6).toArray, .agg (ints .u64 b 6).toArray], exec_call rfl call87 rfl (mpn rfl), HA.out w'⟩⟩) (ak (fun _ => ⟨rfl, fun _ _ => rfl⟩) (ak (by refine fun γ => ⟨rfl, fun w' h => ?_⟩; clear h; go_simp) (ak (by refine fun γ => ⟨rfl, fun w' h => ?_⟩; clear h; go_simp) (ak (fun γ => ⟨rfl, fun w' => ex_mk25 rfl⟩) (ak (fun γ => ⟨rfl, rfl, (ints_len _ _ _).trans (ints_len _ _ _).symm, fun w' h => ex_laidI h Tryd.sizeOf24 rfl rfl rfl⟩) (ak (fun _ => ⟨rfl, fun _ _ => rfl⟩) trivial))))))))
  intro γ w2 l hM hl
  have H2 : Hid (Mm w2 [(γ 6, ints .u64 S 6), (γ1_0, ints .u64 F 13), (γ1_1, ints .u64 a 6), (γ1_2, ints .u64 b 6), (γ1_3, ints .u64 (fun _ => 0) 6)] ∧ _) := growB H1 hM (Nat.le_refl _) hl [6] rfl (by decide)
  have o2_6 := ownB H1 hM (Nat.le_refl _) hl (i := 6) rfl
  clear hM hl l H1
  generalize γ 6 = γ2_6 at H2 o2_6 ⊢
  clear γ
  refine rest0 rfl (then_normal (wp_seq (wp_seq ?_)))
  refine walk_seqB 5 [.quiet (.agg (ints .u64 S 6).toArray), .quiet (PT γ1_0 0), .quiet (.agg (ints .u64 F 6).toArray), .call (.int .i64 z), .quiet (.bool true)] H2 ?ho3 ?he3
  case ho3 => exact ak (fun γ => ⟨rfl, fun w' h => ex_loadT h 0 rfl rfl rfl Tryd.isAgg24 Tryd.sizeOf24 (ints_whole _ _ _) (ints_len _ _ _)⟩) (ak (by refine fun γ => ⟨rfl, fun w' h => ?_⟩; clear h; go_simp) (ak (fun γ => ⟨rfl, fun w' h => ex_loadT h 1 rfl rfl rfl Tryd.isAgg24 Tryd.sizeOf24 (pre13 F) (ints_len _ _ _)⟩) (ak (fun γ => ⟨rfl, fun w' h => ⟨54, #[.agg (ints .u64 S 6).toArray, .agg (ints .u64 F 6).toArray], exec_call rfl call54 rfl (mpn rfl), HC.out w'⟩⟩) (ak (fun γ => ⟨rfl, fun w' _ => ex_ge3 (z := z) (decide_eq_true hz) rfl rfl rfl⟩) trivial))))
  intro _ w3 H3
  clear H2
  refine rest0 rfl (then_normal (wp_cond_true rfl ?_))
  refine walk_seqB 7 [.quiet (.agg (ints .u64 S 6).toArray), .quiet (PT γ1_0 0), .quiet (.agg (ints .u64 F 6).toArray), .call (.tuple #[.agg (ints .u64 D 6).toArray, .bool ub]), .quiet (.tuple #[.agg (ints .u64 D 6).toArray, .bool ub]), .quiet (.agg (ints .u64 D 6).toArray), .quiet (.bool ub)] H3 ?ho4 ?he4
  case ho4 => exact ak (fun γ => ⟨rfl, fun w' h => ex_loadT h 0 rfl rfl rfl Tryd.isAgg24 Tryd.sizeOf24 (ints_whole _ _ _) (ints_len _ _ _)⟩) (ak (by refine fun γ => ⟨rfl, fun w' h => ?_⟩; clear h; go_simp) (ak (fun γ => ⟨rfl, fun w' h => ex_loadT h 1 rfl rfl rfl Tryd.isAgg24 Tryd.sizeOf24 (pre13 F) (ints_len _ _ _)⟩) (ak (fun γ => ⟨rfl, fun w' h => ⟨57, #[.agg (ints .u64 S 6).toArray, .agg (ints .u64 F 6).toArray], exec_call rfl call57 rfl (mpn rfl), HS.out w'⟩⟩) (ak (fun _ => ⟨rfl, fun _ _ => rfl⟩) (ak (by refine fun γ => ⟨rfl, fun w' h => ?_⟩; clear h; go_simp) (ak (by refine fun γ => ⟨rfl, fun w' h => ?_⟩; clear h; go_simp) trivial))))))
  intro _ w4 H4
  clear H3
  refine rest_at (l := [7]) rfl ?_
  refine rest_store rfl rfl rfl (ex_storeT (vs := ints .u64 D 6) H4.out.1 0 rfl rfl rfl rfl (by rw [ints_len]; exact Tryd.sizeOf24) (ints_all _ _ _) (by simp [ints_len])) ?_
  have H5 : Hid (Mm (w4.setCells γ2_6 0 (ints .u64 D 6)) [(γ2_6, ints .u64 D 6), (γ1_0, ints .u64 F 13), (γ1_1, ints .u64 a 6), (γ1_2, ints .u64 b 6), (γ1_3, ints .u64 (fun _ => 0) 6)] ∧ Below w.heap.size w (w4.setCells γ2_6 0 (ints .u64 D 6))) := ⟨by
    have h := H4.out.1.put 0 (off := 0) (vs := ints .u64 D 6) rfl (by simp [ints_len])
    rw [ints_patch0 _ _ _ _] at h
    exact h, below_setCells _ o2_6.out _ _ _ H4.out.2⟩
  clear H4
  generalize hgw : World.setCells _ _ _ _ = w5 at H5 ⊢
  clear hgw
  refine rest_nil (then_normal (wp_seq ?_))
  refine walk_seqB 1 [.quiet (.agg (ints .u64 D 6).toArray)] H5 ?ho5 ?he5
  case ho5 => exact ak (fun γ => ⟨rfl, fun w' h => ex_loadT h 0 rfl rfl rfl Tryd.isAgg24 Tryd.sizeOf24 (ints_whole _ _ _) (ints_len _ _ _)⟩) trivial
  intro _ w6 H6
  clear H5
  refine rest_at (l := [1]) rfl ?_
  refine rest_store rfl rfl rfl (ex_storeT (vs := ints .u64 D 6) H6.out.1 4 rfl rfl rfl rfl (by rw [ints_len]; exact Tryd.sizeOf24) (ints_all _ _ _) (by simp [ints_len])) ?_
  have H7 : Hid (Mm (w6.setCells γ1_3 0 (ints .u64 D 6)) [(γ2_6, ints .u64 D 6), (γ1_0, ints .u64 F 13), (γ1_1, ints .u64 a 6), (γ1_2, ints .u64 b 6), (γ1_3, ints .u64 D 6)] ∧ Below w.heap.size w (w6.setCells γ1_3 0 (ints .u64 D 6))) := ⟨by
    have h := H6.out.1.put 4 (off := 0) (vs := ints .u64 D 6) rfl (by simp [ints_len])
    rw [ints_patch0 _ _ _ _] at h
    exact h, below_setCells _ o1_3.out _ _ _ H6.out.2⟩
  clear H6
  generalize hgw : World.setCells _ _ _ _ = w7 at H7 ⊢
  clear hgw
  refine rest_nil (then_normal (wp_ret ?_))
  repeat (first | refine then_ret ?_ | refine block_ret ?_)
  have hf0 := var_T H7.out.1 4 rfl Tryd.isAgg24 Tryd.sizeOf24 (ints_len _ _ _)
  refine bodyPost_ret (v := .agg (ints .u64 D 6).toArray) (by simp [results, Tryd.results61, asAddr, hf0]) rfl ?_
  exact ⟨rfl, H7.out.2⟩
set_option maxHeartbeats 1000000 in
set_option maxRecDepth 100000 in
theorem fadd_c (F a b S D : Nat → Nat) (z : Int) (hc0 : ∀ w, Calls Tryd.prog 54 #[.agg (ints .u64 S 6).toArray, .agg (ints .u64 F 6).toArray] w fun e w' => e = .returned (.int .i64 z) ∧ Below w.heap.size w w') (ub : Bool) (hs0 : ∀ w, Calls Tryd.prog 57 #[.agg (ints .u64 S 6).toArray, .agg (ints .u64 F 6).toArray] w fun e w' => e = .returned (.tuple #[.agg (ints .u64 D 6).toArray, .bool ub]) ∧ Below w.heap.size w w') (cb : Bool) (ha0 : ∀ w, Calls Tryd.prog 87 #[.agg (ints .u64 a 6).toArray, .agg (ints .u64 b 6).toArray] w fun e w' => e = .returned (.tuple #[.agg (ints .u64 S 6).toArray, .bool cb]) ∧ Below w.heap.size w w') (hz : z < 0) (w : World) :
    Calls Tryd.prog 61 #[.agg (ints .u64 F 13).toArray, .agg (ints .u64 a 6).toArray, .agg (ints .u64 b 6).toArray] w fun e w' => e = .returned (.agg (ints .u64 S 6).toArray) ∧ Below w.heap.size w w' := by
  have H0 : Hid (_ ∧ _) := ⟨Mm.nil w, Below.refl w.heap.size w⟩
  have HA : Hid _ := ha0
  have HC : Hid _ := hc0
  have HS : Hid _ := hs0
  clear ha0 hc0 hs0
  go_enter Tryd.func61, Tryd.ntmps61
  refine wp_seq ?_
  refine walk_seqA 4 [.made (ints .u64 F 13) 81, .made (ints .u64 a 6) 24, .made (ints .u64 b 6) 24, .made (ints .u64 (fun _ => 0) 6) 24] (sB H0) ?ho1 ?he1
  case ho1 => exact ak (fun γ => ⟨rfl, fun w' => ex_boxT rfl rfl⟩) (ak (fun γ => ⟨rfl, fun w' => ex_boxT rfl rfl⟩) (ak (fun γ => ⟨rfl, fun w' => ex_boxT rfl rfl⟩) (ak (fun γ => ⟨rfl, fun w' => ex_mk25 rfl⟩) trivial)))
  intro γ w1 l hM hl
  have H1 : Hid (Mm w1 [(γ 0, ints .u64 F 13), (γ 1, ints .u64 a 6), (γ 2, ints .u64 b 6), (γ 3, ints .u64 (fun _ => 0) 6)] ∧ _) := growB H0 hM (Nat.le_refl _) hl [0, 1, 2, 3] rfl (by decide)
  have o1_0 := ownB H0 hM (Nat.le_refl _) hl (i := 0) rfl
  have o1_1 := ownB H0 hM (Nat.le_refl _) hl (i := 1) rfl
  have o1_2 := ownB H0 hM (Nat.le_refl _) hl (i := 2) rfl
  have o1_3 := ownB H0 hM (Nat.le_refl _) hl (i := 3) rfl
  clear hM hl l
  generalize γ 0 = γ1_0 at H1 o1_0 ⊢
  generalize γ 1 = γ1_1 at H1 o1_1 ⊢
  generalize γ 2 = γ1_2 at H1 o1_2 ⊢
  generalize γ 3 = γ1_3 at H1 o1_3 ⊢
  clear γ
  refine rest0 rfl (then_normal (wp_seq ?_))
  refine walk_seqA 9 [.quiet (.agg (ints .u64 a 6).toArray), .quiet (.agg (ints .u64 b 6).toArray), .call (.tuple #[.agg (ints .u64 S 6).toArray, .bool cb]), .quiet (.tuple #[.agg (ints .u64 S 6).toArray, .bool cb]), .quiet (.agg (ints .u64 S 6).toArray), .quiet (.bool cb), .made (ints .u64 (fun _ => 0) 6) 24, .laid 6 (ints .u64 (fun _ => 0) 6) (ints .u64 S 6), .quiet (.bool cb)] (sB H1) ?ho2 ?he2 (hL := ?hL2)
  case hL2 => exact ⟨⟨_, rfl⟩, trivial⟩
  case ho2 => exact ak (fun γ => ⟨rfl, fun w' h => ex_loadT h 1 rfl rfl rfl Tryd.isAgg24 Tryd.sizeOf24 (ints_whole _ _ _) (ints_len _ _ _)⟩) (ak (fun γ => ⟨rfl, fun w' h => ex_loadT h 2 rfl rfl rfl Tryd.isAgg24 Tryd.sizeOf24 (ints_whole _ _ _) (ints_len _ _ _)⟩) (ak (fun γ => ⟨rfl, fun w' h => ⟨87, #[.agg (ints .u64 a 6).toArray, .agg (ints .u64 b 6).toArray], exec_call rfl call87 rfl (mpn rfl), HA.out w'⟩⟩) (ak (fun _ => ⟨rfl, fun _ _ => rfl⟩) (ak (by refine fun γ => ⟨rfl, fun w' h => ?_⟩; clear h; go_simp) (ak (by refine fun γ => ⟨rfl, fun w' h => ?_⟩; clear h; go_simp) (ak (fun γ => ⟨rfl, fun w' => ex_mk25 rfl⟩) (ak (fun γ => ⟨rfl, rfl, (ints_len _ _ _).trans (ints_len _ _ _).symm, fun w' h => ex_laidI h Tryd.sizeOf24 rfl rfl rfl⟩) (ak (fun _ => ⟨rfl, fun _ _ => rfl⟩) trivial))))))))
  intro γ w2 l hM hl
  have H2 : Hid (Mm w2 [(γ 6, ints .u64 S 6), (γ1_0, ints .u64 F 13), (γ1_1, ints .u64 a 6), (γ1_2, ints .u64 b 6), (γ1_3, ints .u64 (fun _ => 0) 6)] ∧ _) := growB H1 hM (Nat.le_refl _) hl [6] rfl (by decide)
  have o2_6 := ownB H1 hM (Nat.le_refl _) hl (i := 6) rfl
  clear hM hl l H1
  generalize γ 6 = γ2_6 at H2 o2_6 ⊢
  clear γ
  refine rest0 rfl (then_normal (wp_seq (wp_seq ?_)))
  refine walk_seqB 5 [.quiet (.agg (ints .u64 S 6).toArray), .quiet (PT γ1_0 0), .quiet (.agg (ints .u64 F 6).toArray), .call (.int .i64 z), .quiet (.bool false)] H2 ?ho3 ?he3
  case ho3 => exact ak (fun γ => ⟨rfl, fun w' h => ex_loadT h 0 rfl rfl rfl Tryd.isAgg24 Tryd.sizeOf24 (ints_whole _ _ _) (ints_len _ _ _)⟩) (ak (by refine fun γ => ⟨rfl, fun w' h => ?_⟩; clear h; go_simp) (ak (fun γ => ⟨rfl, fun w' h => ex_loadT h 1 rfl rfl rfl Tryd.isAgg24 Tryd.sizeOf24 (pre13 F) (ints_len _ _ _)⟩) (ak (fun γ => ⟨rfl, fun w' h => ⟨54, #[.agg (ints .u64 S 6).toArray, .agg (ints .u64 F 6).toArray], exec_call rfl call54 rfl (mpn rfl), HC.out w'⟩⟩) (ak (fun γ => ⟨rfl, fun w' _ => ex_ge3 (z := z) (decide_eq_false (by omega)) rfl rfl rfl⟩) trivial))))
  intro _ w3 H3
  clear H2
  refine rest0 rfl (then_normal (wp_cond_false rfl ?_))
  refine wp_skip (then_normal (wp_seq ?_))
  refine walk_seqB 1 [.quiet (.agg (ints .u64 S 6).toArray)] H3 ?ho4 ?he4
  case ho4 => exact ak (fun γ => ⟨rfl, fun w' h => ex_loadT h 0 rfl rfl rfl Tryd.isAgg24 Tryd.sizeOf24 (ints_whole _ _ _) (ints_len _ _ _)⟩) trivial
  intro _ w4 H4
  clear H3
  refine rest_at (l := [1]) rfl ?_
  refine rest_store rfl rfl rfl (ex_storeT (vs := ints .u64 S 6) H4.out.1 4 rfl rfl rfl rfl (by rw [ints_len]; exact Tryd.sizeOf24) (ints_all _ _ _) (by simp [ints_len])) ?_
  have H5 : Hid (Mm (w4.setCells γ1_3 0 (ints .u64 S 6)) [(γ2_6, ints .u64 S 6), (γ1_0, ints .u64 F 13), (γ1_1, ints .u64 a 6), (γ1_2, ints .u64 b 6), (γ1_3, ints .u64 S 6)] ∧ Below w.heap.size w (w4.setCells γ1_3 0 (ints .u64 S 6))) := ⟨by
    have h := H4.out.1.put 4 (off := 0) (vs := ints .u64 S 6) rfl (by simp [ints_len])
    rw [ints_patch0 _ _ _ _] at h
    exact h, below_setCells _ o1_3.out _ _ _ H4.out.2⟩
  clear H4
  generalize hgw : World.setCells _ _ _ _ = w5 at H5 ⊢
  clear hgw
  refine rest_nil (then_normal (wp_ret ?_))
  repeat (first | refine then_ret ?_ | refine block_ret ?_)
  have hf0 := var_T H5.out.1 4 rfl Tryd.isAgg24 Tryd.sizeOf24 (ints_len _ _ _)
  refine bodyPost_ret (v := .agg (ints .u64 S 6).toArray) (by simp [results, Tryd.results61, asAddr, hf0]) rfl ?_
  exact ⟨rfl, H5.out.2⟩
/-- The document's product by a modulus. -/
theorem fmul_spec (F a b : Nat → Nat) (Ri : Nat) (hA : ∀ i, i < 6 → a i < 18446744073709551616) (hB : ∀ i, i < 6 → b i < 18446744073709551616) (hN : ∀ i, i < 6 → F i < 18446744073709551616) (hl : (F 0 * F 6 + 1) % 18446744073709551616 = 0) (hbN : gv b 6 < gv F 6) (hSq : ∀ i, i < 6 → F (7 + i) < 18446744073709551616) (hsN : gv (fun j => F (7 + j)) 6 < gv F 6) (hs : gv (fun j => F (7 + j)) 6 % gv F 6 = 18446744073709551616 ^ 6 * 18446744073709551616 ^ 6 % gv F 6) (hRi : 18446744073709551616 ^ 6 * Ri % gv F 6 = 1 % gv F 6)
    (HC : ∀ x : Nat → Nat, (∀ i, i < 6 → x i < 18446744073709551616) → ∃ z : Int, (0 ≤ z ↔ gv F 6 ≤ gv x 6) ∧ ∀ w, Calls Tryd.prog 54 #[.agg (ints .u64 x 6).toArray, .agg (ints .u64 F 6).toArray] w fun e w' => e = .returned (.int .i64 z) ∧ Below w.heap.size w w')
    (HS : ∀ x : Nat → Nat, (∀ i, i < 6 → x i < 18446744073709551616) → ∃ (D : Nat → Nat) (bb : Bool), (∀ i, i < 6 → D i < 18446744073709551616) ∧ gv D 6 = (gv x 6 + 18446744073709551616 ^ 6 - gv F 6) % 18446744073709551616 ^ 6 ∧ ∀ w, Calls Tryd.prog 57 #[.agg (ints .u64 x 6).toArray, .agg (ints .u64 F 6).toArray] w fun e w' => e = .returned (.tuple #[.agg (ints .u64 D 6).toArray, .bool bb]) ∧ Below w.heap.size w w') :
    ∃ E : Nat → Nat, (∀ i, i < 6 → E i < 18446744073709551616) ∧ gv E 6 = gv a 6 * gv b 6 % gv F 6 ∧ ∀ w, Calls Tryd.prog 62 #[.agg (ints .u64 F 13).toArray, .agg (ints .u64 a 6).toArray, .agg (ints .u64 b 6).toArray] w fun e w' => e = .returned (.agg (ints .u64 E 6).toArray) ∧ Below w.heap.size w w' := by
  obtain ⟨D, d1, _, d3, d4⟩ := mont_spec F a b hA hB hN hl hbN HC HS
  obtain ⟨E, e1, e2, e3, e4⟩ := mont_spec F D (fun j => F (7 + j)) d1 hSq hN hl hsN HC HS
  refine ⟨E, e1, ?_, fun w => fmul_w F a b D E d4 e4 w⟩
  rw [← mont_two d3 e3 hs hRi, Nat.mod_eq_of_lt e2]
/-- The document's sum by a modulus. -/
theorem fadd_spec (F a b : Nat → Nat) (hN : ∀ i, i < 6 → F i < 18446744073709551616) (haN : gv a 6 < gv F 6) (hbN : gv b 6 < gv F 6) (h2N : 2 * gv F 6 ≤ 18446744073709551616 ^ 6)
    (HA : ∃ (S : Nat → Nat) (cb : Bool), (∀ i, i < 6 → S i < 18446744073709551616) ∧ gv S 6 = (gv a 6 + gv b 6) % 18446744073709551616 ^ 6 ∧ ∀ w, Calls Tryd.prog 87 #[.agg (ints .u64 a 6).toArray, .agg (ints .u64 b 6).toArray] w fun e w' => e = .returned (.tuple #[.agg (ints .u64 S 6).toArray, .bool cb]) ∧ Below w.heap.size w w')
    (HC : ∀ x : Nat → Nat, (∀ i, i < 6 → x i < 18446744073709551616) → ∃ z : Int, (0 ≤ z ↔ gv F 6 ≤ gv x 6) ∧ ∀ w, Calls Tryd.prog 54 #[.agg (ints .u64 x 6).toArray, .agg (ints .u64 F 6).toArray] w fun e w' => e = .returned (.int .i64 z) ∧ Below w.heap.size w w')
    (HS : ∀ x : Nat → Nat, (∀ i, i < 6 → x i < 18446744073709551616) → ∃ (D : Nat → Nat) (bb : Bool), (∀ i, i < 6 → D i < 18446744073709551616) ∧ gv D 6 = (gv x 6 + 18446744073709551616 ^ 6 - gv F 6) % 18446744073709551616 ^ 6 ∧ ∀ w, Calls Tryd.prog 57 #[.agg (ints .u64 x 6).toArray, .agg (ints .u64 F 6).toArray] w fun e w' => e = .returned (.tuple #[.agg (ints .u64 D 6).toArray, .bool bb]) ∧ Below w.heap.size w w') :
    ∃ E : Nat → Nat, (∀ i, i < 6 → E i < 18446744073709551616) ∧ gv E 6 = (gv a 6 + gv b 6) % gv F 6 ∧ ∀ w, Calls Tryd.prog 61 #[.agg (ints .u64 F 13).toArray, .agg (ints .u64 a 6).toArray, .agg (ints .u64 b 6).toArray] w fun e w' => e = .returned (.agg (ints .u64 E 6).toArray) ∧ Below w.heap.size w w' := by
  obtain ⟨S, cb, s1, s2, s3⟩ := HA
  obtain ⟨z, hz, hC⟩ := HC S s1
  obtain ⟨D, ub, d1, d2, d3⟩ := HS S s1
  have hN6 := gv_lt 6 hN
  rw [Nat.mod_eq_of_lt (by omega)] at s2
  by_cases h0 : 0 ≤ z
  · refine ⟨D, d1, ?_, fun w => fadd_b F a b S D z hC ub d3 cb s3 h0 w⟩
    have hx := gv_lt 6 s1
    rw [← s2]
    exact mont_end (x6 := 0) (by rw [Nat.zero_mul, Nat.add_zero]) (by omega) hx hN6 d2 (.inr (hz.1 h0))
  · refine ⟨S, s1, ?_, fun w => fadd_c F a b S D z hC ub d3 cb s3 (by omega) w⟩
    have h1 : ¬ gv F 6 ≤ gv S 6 := fun h => h0 (hz.2 h)
    rw [← s2, Nat.mod_eq_of_lt (by omega)]
end Fs
end Rg
end Go.Proofs.YtfnmahjdkmgdkaaDoor
end
section
namespace Go.Proofs.YtfnmahjdkmgdkaaDoor
open Go.RowKit
namespace Rg
namespace Fs
set_option maxRecDepth 100000
/-- A number's words. -/
def wdv (v i : Nat) : Nat := v / 18446744073709551616 ^ i % 18446744073709551616
theorem wdv_lt (v i : Nat) : wdv v i < 18446744073709551616 := Nat.mod_lt _ (by decide)
theorem gv_wdv (v : Nat) : ∀ n, gv (wdv v) n = v % 18446744073709551616 ^ n
  | 0 => by
    show 0 = v % 18446744073709551616 ^ 0
    rw [Nat.pow_zero, Nat.mod_one]
  | n + 1 => by
    show gv (wdv v) n + v / 18446744073709551616 ^ n % 18446744073709551616 * 18446744073709551616 ^ n = _
    rw [gv_wdv v n, Nat.pow_succ, Nat.mod_mul, Nat.mul_comm (18446744073709551616 ^ n)]
theorem gv_w6 {v : Nat} (h : v < 18446744073709551616 ^ 6) : gv (wdv v) 6 = v := by rw [gv_wdv, Nat.mod_eq_of_lt h]
theorem gv_word {f : Nat → Nat} : ∀ n, (∀ i, i < n → f i < 18446744073709551616) → ∀ i, i < n → f i = wdv (gv f n) i
  | 0, _, i, hi => absurd hi (Nat.not_lt_zero _)
  | n + 1, h, i, hi => by
    have hp : 0 < 18446744073709551616 ^ i := Nat.pow_pos (by decide)
    have hl := gv_lt n (fun i hi => h i (by omega))
    unfold wdv
    show f i = (gv f n + f n * 18446744073709551616 ^ n) / 18446744073709551616 ^ i % 18446744073709551616
    by_cases e : i = n
    · subst e
      rw [Nat.add_mul_div_right _ _ hp, Nat.div_eq_of_lt hl, Nat.zero_add, Nat.mod_eq_of_lt (h i (by omega))]
    · obtain ⟨k, rfl⟩ : ∃ k, n = i + 1 + k := ⟨n - i - 1, by omega⟩
      have h1 := gv_word (i + 1 + k) (fun j hj => h j (by omega)) i (by omega)
      rw [h1]
      unfold wdv
      have e2 : f (i + 1 + k) * 18446744073709551616 ^ (i + 1 + k) = f (i + 1 + k) * 18446744073709551616 ^ k * 18446744073709551616 * 18446744073709551616 ^ i := by
        rw [show i + 1 + k = k + 1 + i by omega, Nat.pow_add, Nat.pow_succ, Nat.mul_assoc, Nat.mul_assoc, Nat.mul_assoc]
      rw [e2, Nat.add_mul_div_right _ _ hp, Nat.add_mul_mod_self_right]
theorem w6_eq {f : Nat → Nat} {v : Nat} (h : ∀ i, i < 6 → f i < 18446744073709551616) (e : gv f 6 = v) : ints .u64 f 6 = ints .u64 (wdv v) 6 := by
  subst e
  exact ints_congr (fun i hi => gv_word 6 h i hi)
theorem w6_cg {f g : Nat → Nat} (h : ∀ i, i < 6 → f i = g i) : ints .u64 f 6 = ints .u64 g 6 := ints_congr h
/-- The great moduli, as Fast has them. -/
structure Fa (F : Nat → Nat) (n : Nat) : Prop where
  n6 : ∀ i, i < 6 → F i = wdv n i
  lt : n < 18446744073709551616 ^ 6
  h2 : 2 * n ≤ 18446744073709551616 ^ 6
  less : (F 0 * F 6 + 1) % 18446744073709551616 = 0
  sq : ∀ i, i < 6 → F (7 + i) < 18446744073709551616
  sqn : gv (fun j => F (7 + j)) 6 < n
  sqv : gv (fun j => F (7 + j)) 6 % n = 18446744073709551616 ^ 6 * 18446744073709551616 ^ 6 % n
  inv : ∃ Ri, 18446744073709551616 ^ 6 * Ri % n = 1 % n
theorem Fa.words {F : Nat → Nat} {n : Nat} (h : Fa F n) (i : Nat) (hi : i < 6) : F i < 18446744073709551616 := by
  rw [h.n6 i hi]
  exact wdv_lt _ _
theorem Fa.val {F : Nat → Nat} {n : Nat} (h : Fa F n) : gv F 6 = n := by
  rw [gv_cg 6 h.n6]
  exact gv_w6 h.lt
theorem fa_cmp {F : Nat → Nat} {n : Nat} (h : Fa F n) (HC : ∀ x, x < 18446744073709551616 ^ 6 → ∃ z : Int, (0 ≤ z ↔ n ≤ x) ∧ ∀ w, Calls Tryd.prog 54 #[.agg (ints .u64 (wdv x) 6).toArray, .agg (ints .u64 (wdv n) 6).toArray] w fun e w' => e = .returned (.int .i64 z) ∧ Below w.heap.size w w') (x : Nat → Nat) (hx : ∀ i, i < 6 → x i < 18446744073709551616) : ∃ z : Int, (0 ≤ z ↔ gv F 6 ≤ gv x 6) ∧ ∀ w, Calls Tryd.prog 54 #[.agg (ints .u64 x 6).toArray, .agg (ints .u64 F 6).toArray] w fun e w' => e = .returned (.int .i64 z) ∧ Below w.heap.size w w' := by
  obtain ⟨z, h1, h2⟩ := HC (gv x 6) (gv_lt 6 hx)
  rw [h.val, w6_eq hx rfl, w6_cg h.n6]
  exact ⟨z, h1, h2⟩
theorem fa_sub {F : Nat → Nat} {n : Nat} (h : Fa F n) (HS : ∀ x, x < 18446744073709551616 ^ 6 → ∃ bb : Bool, ∀ w, Calls Tryd.prog 57 #[.agg (ints .u64 (wdv x) 6).toArray, .agg (ints .u64 (wdv n) 6).toArray] w fun e w' => e = .returned (.tuple #[.agg (ints .u64 (wdv ((x + 18446744073709551616 ^ 6 - n) % 18446744073709551616 ^ 6)) 6).toArray, .bool bb]) ∧ Below w.heap.size w w') (x : Nat → Nat) (hx : ∀ i, i < 6 → x i < 18446744073709551616) : ∃ (D : Nat → Nat) (bb : Bool), (∀ i, i < 6 → D i < 18446744073709551616) ∧ gv D 6 = (gv x 6 + 18446744073709551616 ^ 6 - gv F 6) % 18446744073709551616 ^ 6 ∧ ∀ w, Calls Tryd.prog 57 #[.agg (ints .u64 x 6).toArray, .agg (ints .u64 F 6).toArray] w fun e w' => e = .returned (.tuple #[.agg (ints .u64 D 6).toArray, .bool bb]) ∧ Below w.heap.size w w' := by
  obtain ⟨bb, h2⟩ := HS (gv x 6) (gv_lt 6 hx)
  refine ⟨wdv ((gv x 6 + 18446744073709551616 ^ 6 - n) % 18446744073709551616 ^ 6), bb, fun i _ => wdv_lt _ i, ?_, ?_⟩
  · rw [gv_w6 (Nat.mod_lt _ (by decide)), h.val]
  · rw [w6_eq hx rfl, w6_cg h.n6]
    exact h2
theorem fmul_num {F : Nat → Nat} {n : Nat} (h : Fa F n) (HC : ∀ x, x < 18446744073709551616 ^ 6 → ∃ z : Int, (0 ≤ z ↔ n ≤ x) ∧ ∀ w, Calls Tryd.prog 54 #[.agg (ints .u64 (wdv x) 6).toArray, .agg (ints .u64 (wdv n) 6).toArray] w fun e w' => e = .returned (.int .i64 z) ∧ Below w.heap.size w w') (HS : ∀ x, x < 18446744073709551616 ^ 6 → ∃ bb : Bool, ∀ w, Calls Tryd.prog 57 #[.agg (ints .u64 (wdv x) 6).toArray, .agg (ints .u64 (wdv n) 6).toArray] w fun e w' => e = .returned (.tuple #[.agg (ints .u64 (wdv ((x + 18446744073709551616 ^ 6 - n) % 18446744073709551616 ^ 6)) 6).toArray, .bool bb]) ∧ Below w.heap.size w w') {x y : Nat} (hx : x < 18446744073709551616 ^ 6) (hy : y < n) (w : World) : Calls Tryd.prog 62 #[.agg (ints .u64 F 13).toArray, .agg (ints .u64 (wdv x) 6).toArray, .agg (ints .u64 (wdv y) 6).toArray] w fun e w' => e = .returned (.agg (ints .u64 (wdv (x * y % n)) 6).toArray) ∧ Below w.heap.size w w' := by
  obtain ⟨Ri, hRi⟩ := h.inv
  have hy6 := Nat.lt_trans hy h.lt
  obtain ⟨E, h1, h2, h3⟩ := fmul_spec F (wdv x) (wdv y) Ri (fun i _ => wdv_lt _ i) (fun i _ => wdv_lt _ i) h.words h.less (by rw [h.val, gv_w6 hy6]; exact hy) h.sq (by rw [h.val]; exact h.sqn) (by rw [h.val]; exact h.sqv) (by rw [h.val]; exact hRi) (fa_cmp h HC) (fa_sub h HS)
  rw [gv_w6 hx, gv_w6 hy6, h.val] at h2
  rw [← w6_eq h1 h2]
  exact h3 w
theorem fadd_num {F : Nat → Nat} {n : Nat} (h : Fa F n) (HC : ∀ x, x < 18446744073709551616 ^ 6 → ∃ z : Int, (0 ≤ z ↔ n ≤ x) ∧ ∀ w, Calls Tryd.prog 54 #[.agg (ints .u64 (wdv x) 6).toArray, .agg (ints .u64 (wdv n) 6).toArray] w fun e w' => e = .returned (.int .i64 z) ∧ Below w.heap.size w w') (HS : ∀ x, x < 18446744073709551616 ^ 6 → ∃ bb : Bool, ∀ w, Calls Tryd.prog 57 #[.agg (ints .u64 (wdv x) 6).toArray, .agg (ints .u64 (wdv n) 6).toArray] w fun e w' => e = .returned (.tuple #[.agg (ints .u64 (wdv ((x + 18446744073709551616 ^ 6 - n) % 18446744073709551616 ^ 6)) 6).toArray, .bool bb]) ∧ Below w.heap.size w w') (HA : ∀ x y, x < 18446744073709551616 ^ 6 → y < 18446744073709551616 ^ 6 → ∃ cb : Bool, ∀ w, Calls Tryd.prog 87 #[.agg (ints .u64 (wdv x) 6).toArray, .agg (ints .u64 (wdv y) 6).toArray] w fun e w' => e = .returned (.tuple #[.agg (ints .u64 (wdv ((x + y) % 18446744073709551616 ^ 6)) 6).toArray, .bool cb]) ∧ Below w.heap.size w w') {x y : Nat} (hx : x < n) (hy : y < n) (w : World) : Calls Tryd.prog 61 #[.agg (ints .u64 F 13).toArray, .agg (ints .u64 (wdv x) 6).toArray, .agg (ints .u64 (wdv y) 6).toArray] w fun e w' => e = .returned (.agg (ints .u64 (wdv ((x + y) % n)) 6).toArray) ∧ Below w.heap.size w w' := by
  have hx6 := Nat.lt_trans hx h.lt
  have hy6 := Nat.lt_trans hy h.lt
  obtain ⟨cb, hA⟩ := HA x y hx6 hy6
  obtain ⟨E, h1, h2, h3⟩ := fadd_spec F (wdv x) (wdv y) h.words (by rw [h.val, gv_w6 hx6]; exact hx) (by rw [h.val, gv_w6 hy6]; exact hy) (by rw [h.val]; exact h.h2) ⟨wdv ((x + y) % 18446744073709551616 ^ 6), cb, fun i _ => wdv_lt _ i, by rw [gv_w6 (Nat.mod_lt _ (by decide)), gv_w6 hx6, gv_w6 hy6], hA⟩ (fa_cmp h HC) (fa_sub h HS)
  rw [gv_w6 hx6, gv_w6 hy6, h.val] at h2
  rw [← w6_eq h1 h2]
  exact h3 w
end Fs
end Rg
end Go.Proofs.YtfnmahjdkmgdkaaDoor
end
section
namespace Go.Proofs.YtfnmahjdkmgdkaaDoor
open Go.RowKit
namespace Rg
namespace Fs
set_option maxRecDepth 100000
def fstR (i : Nat) : Nat := [18446744069414584321, 6034159408538082302, 3691218898639771653, 8353516859464449352, 0, 0, 18446744069414584319, 14279814937963099055, 1963020886675057040, 8345518043873801240, 7938258146690806761, 0, 0].getD i 0
def modR : Nat := 52435875175126190479447740508185965837690552500527637822603658699938581184513
theorem fa_R : Fa fstR modR where
  n6 := fun i hi => by rcases (by omega : i = 0 ∨ i = 1 ∨ i = 2 ∨ i = 3 ∨ i = 4 ∨ i = 5) with rfl | rfl | rfl | rfl | rfl | rfl <;> decide +kernel
  lt := by decide +kernel
  h2 := by decide +kernel
  less := by decide +kernel
  sq := fun i hi => by rcases (by omega : i = 0 ∨ i = 1 ∨ i = 2 ∨ i = 3 ∨ i = 4 ∨ i = 5) with rfl | rfl | rfl | rfl | rfl | rfl <;> decide +kernel
  sqn := by decide +kernel
  sqv := by decide +kernel
  inv := ⟨3355780196830291892987310667864784896352702591869607001429614921875678373541, by decide +kernel⟩
end Fs
end Rg
end Go.Proofs.YtfnmahjdkmgdkaaDoor
end
section
namespace Go.Proofs.YtfnmahjdkmgdkaaDoor
open Go.RowKit
set_option maxHeartbeats 400000 in
set_option maxRecDepth 100000 in
theorem bit_ref_in (a i : Nat) (hi : i < 384) (w : World) :
    Calls Tryd.prog 102 #[N a, .int .i64 i] w fun e w' => e = .returned (.int .i64 (bitv a i)) ∧ Below w.heap.size w w' := by
  have d0 : decide ((i : Int) < 0) = false := decide_eq_false (by omega)
  have d1 : decide ((383 : Int) < i) = false := decide_eq_false (by omega)
  have hA : Row (w.alloc (.cells #[.int .u64 (wd a 0), .int .u64 (wd a 1), .int .u64 (wd a 2), .int .u64 (wd a 3), .int .u64 (wd a 4), .int .u64 (wd a 5)] 24)) w.heap.size 6 (wd a) := Row.new w _ 24 rfl (six_lt rfl)
  have hA1 := (hA (i / 64) (by omega)).1
  clear hA
  go_enter Tryd.func102, Tryd.ntmps102
  go_wp2
  rw [bitv_word, show wrap64 (bitv a i) = bitv a i by have := bitv_bd a i; unfold wrap64; omega]
  go_ret
  exact ⟨rfl, (Below.refl _ _).alloc (Nat.le_refl _) _⟩
end Go.Proofs.YtfnmahjdkmgdkaaDoor
end
section
namespace Go.Proofs.YtfnmahjdkmgdkaaDoor
open Go.RowKit
theorem high_step (a k : Nat) : ((a / 2 ^ (64 * k) : Nat) : Int) = wd a k + 18446744073709551616 * ((a / 2 ^ (64 * (k + 1)) : Nat) : Int) := by
  unfold wd
  rw [pow_step, ← Nat.div_div_eq_div_mul]
  omega
theorem high_none (a : Nat) (ha : a < big) : a / 2 ^ (64 * 6) = 0 := by
  rw [← big_eq]; exact Nat.div_eq_of_lt ha
theorem lt_of_high {a b k : Nat} (h : a / 2 ^ (64 * k) < b / 2 ^ (64 * k)) : a < b := by
  rcases Nat.lt_or_ge a b with h' | h'
  · exact h'
  · have := Nat.div_le_div_right (c := 2 ^ (64 * k)) h'
    omega
set_option maxHeartbeats 1000000 in
set_option maxRecDepth 100000 in
theorem compare_ref (a b : Nat) (ha : a < big) (hb : b < big) (w : World) :
    Calls Tryd.prog 54 #[N a, N b] w fun e w' => e = .returned (.int .i64 (cmpv a b)) ∧ Below w.heap.size w w' := by
  have HA : Hid (a < big ∧ b < big) := ⟨ha, hb⟩
  clear ha hb
  go_enter Tryd.func54, Tryd.ntmps54
  go_wp2
  go_loopw [5] (fun i wr => ∃ k : Nat, k ≤ 6 ∧ i = .int .i64 ((k : Int) - 1) ∧ a / 2 ^ (64 * k) = b / 2 ^ (64 * k) ∧ Row wr w.heap.size 6 (wd a) ∧ Row wr (w.heap.size + 1) 6 (wd b) ∧ Below w.heap.size w wr) (fun i _ => (RowKit.intOf i + 1).toNat)
  case atStart =>
    refine ⟨6, by omega, rfl, ?_, (Row.new w _ 24 rfl (six_lt rfl)).alloc (by simp) _, Row.new _ _ 24 (by simp) (six_lt rfl), ((Below.refl _ _).alloc (Nat.le_refl _) _).alloc (by simp) _⟩
    rw [high_none a HA.out.1, high_none b HA.out.2]
  case round =>
    obtain ⟨k, hk, rfl, hz, hA, hB, hw⟩ := hrel
    have HZ : Hid _ := hz
    clear hz
    by_cases h0 : 1 ≤ k
    · obtain ⟨i, rfl⟩ : ∃ i, k = i + 1 := ⟨k - 1, by omega⟩
      rw [show (((i + 1 : Nat) : Int) - 1) = (i : Int) by omega]
      have hA1 := (hA i (by omega)).1
      have hB1 := (hB i (by omega)).1
      have HR : Hid (_ ∧ _ ∧ _) := ⟨hA, hB, hw⟩
      clear hA hB hw
      by_cases hx : wd a i < wd b i
      · have d1 : decide (wd a i < wd b i) = true := decide_eq_true hx
        have hfin : Hid (cmpv a b = -1) := by
          have h1 := high_step a i
          have h2 := high_step b i
          rw [HZ.out] at h1
          have h3 : a < b := lt_of_high (k := i) (by omega)
          show cmpv a b = -1
          unfold cmpv
          rw [if_neg (by omega), if_pos h3]
        clear hx
        go_wp2
        go_region
        go_wp2
        go_ret
        refine ⟨?_, HR.out.2.2.drew⟩
        rw [hfin.out]
        rfl
      · have d1 : decide (wd a i < wd b i) = false := decide_eq_false hx
        by_cases hy : wd b i < wd a i
        · have d2 : decide (wd b i < wd a i) = true := decide_eq_true hy
          have hfin : Hid (cmpv a b = 1) := by
            have h1 := high_step a i
            have h2 := high_step b i
            rw [HZ.out] at h1
            have h3 : b < a := lt_of_high (k := i) (by omega)
            show cmpv a b = 1
            unfold cmpv
            rw [if_neg (by omega), if_neg (by omega)]
          clear hx hy
          go_wp2
          go_region
          go_wp2
          go_region
          go_wp2
          go_ret
          refine ⟨?_, HR.out.2.2.drew.drew⟩
          rw [hfin.out]
          rfl
        · have d2 : decide (wd b i < wd a i) = false := decide_eq_false hy
          have HE : Hid (wd a i = wd b i) := (by omega : wd a i = wd b i)
          clear hx hy
          go_wp2
          go_region
          go_wp2
          go_region
          go_wp2
          go_roundw
          case rel =>
            obtain ⟨hA, hB, hw⟩ := HR.out
            refine ⟨i, by omega, by go_num, ?_, hA.drew.drew, hB.drew.drew, hw.drew.drew⟩
            have h1 := high_step a i
            have h2 := high_step b i
            rw [HZ.out] at h1
            have h3 := HE.out
            omega
          case measure => simp [RowKit.intOf] <;> omega
    · have hk0 : k = 0 := by omega
      subst hk0
      rw [show (((0 : Nat) : Int) - 1) = -1 from rfl]
      have hfin : Hid (cmpv a b = 0) := by
        have h1 := HZ.out
        simp only [Nat.mul_zero, Nat.pow_zero, Nat.div_one] at h1
        show cmpv a b = 0
        unfold cmpv
        rw [if_pos h1]
      clear hA hB HZ
      go_wp2
      go_ret
      refine ⟨?_, hw⟩
      rw [hfin.out]
      rfl
theorem top_bit (a i : Nat) (h : a < 2 ^ (i + 1)) : (bitv a i = 1 ∧ bl a = i + 1) ∨ (bitv a i = 0 ∧ a < 2 ^ i) := by
  unfold bitv
  have h1 : a / 2 ^ i < 2 := by
    rw [Nat.div_lt_iff_lt_mul (Nat.two_pow_pos _), Nat.mul_comm, ← Nat.pow_succ]
    exact h
  rcases Nat.lt_or_ge a (2 ^ i) with h2 | h2
  · right
    rw [Nat.div_eq_of_lt h2]
    exact ⟨rfl, h2⟩
  · left
    have h3 := Nat.div_pos h2 (Nat.two_pow_pos i)
    exact ⟨by omega, bl_unique a i h2 h⟩
set_option maxHeartbeats 1000000 in
set_option maxRecDepth 100000 in
theorem len_ref (a : Nat) (ha : a < big) (w : World) :
    Calls Tryd.prog 101 #[N a] w fun e w' => e = .returned (.int .i64 (bl a)) ∧ Below w.heap.size w w' := by
  have CB : Hid _ := fun i hi w => bit_ref_in a i hi w
  have HA : Hid (a < 2 ^ 384) := by
    obtain ⟨n, hn, e⟩ := big_pow
    show a < 2 ^ 384
    rw [e, show 64 * n = 384 by omega] at ha
    exact ha
  clear ha
  go_enter Tryd.func101, Tryd.ntmps101
  go_wp2
  go_loopw [3] (fun i wr => ∃ k : Nat, k ≤ 384 ∧ i = .int .i64 ((k : Int) - 1) ∧ a < 2 ^ k ∧ Rws wr [(w.heap.size, a)] ∧ Below w.heap.size w wr) (fun i _ => (RowKit.intOf i + 1).toNat)
  case atStart =>
    exact ⟨384, by omega, rfl, HA.out, (Rws.nil w).alloc a rfl, (Below.refl _ _).alloc (Nat.le_refl _) _⟩
  case round =>
    obtain ⟨k, hk, rfl, hz, hR, hw⟩ := hrel
    have HZ : Hid _ := hz
    clear hz HA
    by_cases h0 : 1 ≤ k
    · obtain ⟨i, rfl⟩ : ∃ i, k = i + 1 := ⟨k - 1, by omega⟩
      rw [show (((i + 1 : Nat) : Int) - 1) = (i : Int) by omega]
      obtain ⟨pa, a0, a1, a2, a3, a4, a5⟩ := hR.at (g := w.heap.size) (v := a) (by simp)
      have HR : Hid (_ ∧ _) := ⟨hR, hw⟩
      clear hR hw
      go_wp2_with fail
      refine (CB.out i (by omega) _).mono ?_
      rintro e wx ⟨rfl, hb⟩
      rcases top_bit a i HZ.out with ⟨h1, h2⟩ | ⟨h1, h2⟩
      · rw [h1]
        have H2 : Hid (bl a = i + 1) := h2
        clear h1 h2
        go_wp2
        go_ret
        refine ⟨?_, HR.out.2.trans (hb.mono HR.out.2.size)⟩
        rw [H2.out]
        refine congrArg Ending.returned (congrArg (Value.int IntKind.i64) ?_)
        omega
      · rw [h1]
        have H2 : Hid (a < 2 ^ i) := h2
        clear h1 h2
        go_wp2
        go_roundw
        case rel => exact ⟨i, by omega, by go_num, H2.out, HR.out.1.below hb, HR.out.2.trans (hb.mono HR.out.2.size)⟩
        case measure => simp [RowKit.intOf] <;> omega
    · have hk0 : k = 0 := by omega
      subst hk0
      rw [show (((0 : Nat) : Int) - 1) = -1 from rfl]
      have hfin : Hid (bl a = 0) := by
        have h1 := HZ.out
        have : a = 0 := by simpa using h1
        show bl a = 0
        rw [this]; rfl
      clear HZ hR
      go_wp2
      go_ret
      refine ⟨?_, hw⟩
      rw [hfin.out]
      rfl
end Go.Proofs.YtfnmahjdkmgdkaaDoor
end
section
namespace Go.Proofs.YtfnmahjdkmgdkaaDoor
open Go.RowKit
/-- A sum by halves of the carry. -/
theorem add_two (x y c : Int) (hx0 : 0 ≤ x) (hx1 : x < 18446744073709551616) (hy0 : 0 ≤ y) (hy1 : y < 18446744073709551616) (hc0 : 0 ≤ c) (hc1 : c ≤ 1) :
    ∃ s t : Int, IntKind.u64.wrap (x + y) = s ∧ IntKind.u64.wrap (s + c) = t ∧ t = addLo x y c ∧
      ((decide (s < x) = true ∧ decide (t < s) = false ∧ addHi x y c = 1) ∨ (decide (s < x) = false ∧ decide (t < s) = true ∧ addHi x y c = 1) ∨ (decide (s < x) = false ∧ decide (t < s) = false ∧ addHi x y c = 0)) := by
  refine ⟨_, _, rfl, rfl, ?_, ?_⟩
  · rw [IntKind.wrap_u64, IntKind.wrap_u64]; unfold addLo; omega
  · rw [IntKind.wrap_u64, IntKind.wrap_u64]
    unfold addHi
    simp only [decide_eq_true_eq, decide_eq_false_iff_not]
    omega
set_option maxHeartbeats 1000000 in
set_option maxRecDepth 100000 in
theorem add_ref (a b : Nat) (ha : a < big) (hb : b < big) (w : World) :
    Calls Tryd.prog 87 #[N a, N b] w fun e w' => e = .returned (.tuple #[N ((a + b) % big), .bool (decide (big ≤ a + b))]) ∧ Below w.heap.size w w' := by
  have hend := cry_end a b ha hb
  have He : Hid ((cry a b 6 == 1) = decide (big ≤ a + b)) := by
    show _ = _
    rw [← hend]
    have := cry_bd a b 6
    by_cases h : cry a b 6 = 0
    · rw [h]; rfl
    · rw [show cry a b 6 = 1 by omega]; rfl
  clear hend ha hb
  go_enter Tryd.func87, Tryd.ntmps87
  go_wp2
  go_loopw [7, 8] (fun c i wr => ∃ k : Nat, k ≤ 6 ∧ i = .int .i64 k ∧ c = .int .u64 (cry a b k) ∧ Row wr w.heap.size 6 (wd a) ∧ Row wr (w.heap.size + 1) 6 (wd b) ∧ Row wr (w.heap.size + 1 + 1) 6 (fun _ => 0) ∧ Row wr (w.heap.size + 1 + 1 + 1) 6 (part (a + b) k) ∧ Below w.heap.size w wr) (fun _ i _ => 6 - (RowKit.intOf i).toNat)
  case atStart =>
    refine ⟨0, by omega, rfl, by simp [cry], ?_, ?_, ?_, ?_, ?_⟩
    · exact (((Row.new w _ 24 rfl (six_lt rfl)).alloc (by simp <;> omega) _).alloc (by simp <;> omega) _).alloc (by simp <;> omega) _
    · exact ((Row.new _ _ 24 (by simp <;> omega) (six_lt rfl)).alloc (by simp <;> omega) _).alloc (by simp <;> omega) _
    · exact (Row.new _ _ 24 (by simp <;> omega) (six_lt (f := fun _ => 0) rfl)).alloc (by simp <;> omega) _
    · exact Row.new _ _ 24 (by simp <;> omega) (six_lt (f := part (a + b) 0) rfl)
    · exact ((((Below.refl _ _).alloc (Nat.le_refl _) _).alloc (by simp <;> omega) _).alloc (by simp <;> omega) _).alloc (by simp <;> omega) _
  case round =>
    obtain ⟨k, hk, rfl, rfl, hA, hB, hZ, hS, hw⟩ := hrel
    by_cases hlt : k < 6
    · obtain ⟨hc0, hc1⟩ := cry_bd a b k
      obtain ⟨ha0, ha1⟩ := wd_bd a k
      obtain ⟨hb0, hb1⟩ := wd_bd b k
      obtain ⟨s, t, hs, ht, htt, hcs⟩ := add_two (wd a k) (wd b k) (cry a b k) ha0 ha1 hb0 hb1 hc0 hc1
      rw [add_word] at htt
      rw [add_cry] at hcs
      have HT : Hid (t = wd (a + b) k) := htt
      have hA1 := (hA k hlt).1
      have hB1 := (hB k hlt).1
      obtain ⟨hS1, hS2⟩ := hS k hlt
      have R1 : Hid (_ ∧ _ ∧ _ ∧ _ ∧ _) := ⟨hA, hB, hZ, hS, hw⟩
      clear hA hB hZ hS hw htt hc0 hc1 ha0 ha1 hb0 hb1
      rcases hcs with ⟨d1, d2, d3⟩ | ⟨d1, d2, d3⟩ | ⟨d1, d2, d3⟩
      all_goals
        have H3 : Hid _ := d3
        clear d3
        go_wp2
        go_region
        go_wp2
        go_roundw
        case rel =>
          obtain ⟨hA, hB, hZ, hS, hw⟩ := R1.out
          exact ⟨k + 1, by omega, by go_num, by rw [H3.out], (hA.set_other _ (by simp <;> omega)), (hB.set_other _ (by simp <;> omega)), (hZ.set_other _ (by simp <;> omega)), ((hS.set _).congr (fun j _ => part_step HT.out j)), (hw.drew.setCell (by simp <;> omega) _)⟩
        case measure => simp [RowKit.intOf]; omega
    · have hk6 : k = 6 := by omega
      subst hk6
      obtain ⟨s0, s1, s2, s3, s4, s5⟩ := (hS.congr (f' := wd ((a + b) % big)) (fun j hj => by rw [part_lt hj, wd_mod _ _ hj])).reads
      obtain ⟨z0, z1, z2, z3, z4, z5⟩ := hZ.writes
      obtain ⟨y0, y1, y2, y3, y4, y5⟩ := hZ.reads
      clear hA hB hZ hS
      go_wp2
      rw [He.out]
      exact bodyPost_ret (v := .tuple #[N ((a + b) % big), .bool (decide (big ≤ a + b))]) (by simp [results, Tryd.results87, go_sem, *]) rfl ⟨rfl, (((((hw.setCell (by simp <;> omega) _).setCell (by simp <;> omega) _).setCell (by simp <;> omega) _).setCell (by simp <;> omega) _).setCell (by simp <;> omega) _).setCell (by simp <;> omega) _⟩
end Go.Proofs.YtfnmahjdkmgdkaaDoor
end
section
namespace Go.Proofs.YtfnmahjdkmgdkaaDoor
open Go.RowKit
theorem sub_two (x y c : Int) (hx0 : 0 ≤ x) (hx1 : x < 18446744073709551616) (hy0 : 0 ≤ y) (hy1 : y < 18446744073709551616) (hc0 : 0 ≤ c) (hc1 : c ≤ 1) :
    ∃ s t : Int, IntKind.u64.wrap (x - y) = s ∧ IntKind.u64.wrap (s - c) = t ∧ t = subLo x y c ∧
      ((decide (x < y) = true ∧ decide (s < c) = false ∧ bor x (y + c) = 1) ∨ (decide (x < y) = false ∧ decide (s < c) = true ∧ bor x (y + c) = 1) ∨ (decide (x < y) = false ∧ decide (s < c) = false ∧ bor x (y + c) = 0)) := by
  refine ⟨_, _, rfl, rfl, ?_, ?_⟩
  · rw [IntKind.wrap_u64, IntKind.wrap_u64]; unfold subLo; omega
  · rw [IntKind.wrap_u64]
    unfold bor
    simp only [decide_eq_true_eq, decide_eq_false_iff_not]
    split <;> omega
set_option maxHeartbeats 1000000 in
set_option maxRecDepth 100000 in
theorem sub_ref (a b : Nat) (ha : a < big) (hb : b < big) (w : World) :
    Calls Tryd.prog 57 #[N a, N b] w fun e w' => e = .returned (.tuple #[N ((a + big - b) % big), .bool (decide (a < b))]) ∧ Below w.heap.size w w' := by
  have hend := brw_end a b ha hb
  have HB : Hid (b < big) := hb
  have He : Hid ((brw a b 6 == 1) = decide (a < b)) := by
    show _ = _
    rw [← hend]
    have := brw_bd a b 6
    by_cases h : brw a b 6 = 0
    · rw [h]; rfl
    · rw [show brw a b 6 = 1 by omega]; rfl
  clear hend ha hb
  go_enter Tryd.func57, Tryd.ntmps57
  go_wp2
  go_loopw [7, 8] (fun c i wr => ∃ k : Nat, k ≤ 6 ∧ i = .int .i64 k ∧ c = .int .u64 (brw a b k) ∧ Row wr w.heap.size 6 (wd a) ∧ Row wr (w.heap.size + 1) 6 (wd b) ∧ Row wr (w.heap.size + 1 + 1) 6 (fun _ => 0) ∧ Row wr (w.heap.size + 1 + 1 + 1) 6 (part (a + big - b) k) ∧ Below w.heap.size w wr) (fun _ i _ => 6 - (RowKit.intOf i).toNat)
  case atStart =>
    refine ⟨0, by omega, rfl, by simp [brw, Nat.mod_one], ?_, ?_, ?_, ?_, ?_⟩
    · exact (((Row.new w _ 24 rfl (six_lt rfl)).alloc (by simp <;> omega) _).alloc (by simp <;> omega) _).alloc (by simp <;> omega) _
    · exact ((Row.new _ _ 24 (by simp <;> omega) (six_lt rfl)).alloc (by simp <;> omega) _).alloc (by simp <;> omega) _
    · exact (Row.new _ _ 24 (by simp <;> omega) (six_lt (f := fun _ => 0) rfl)).alloc (by simp <;> omega) _
    · exact Row.new _ _ 24 (by simp <;> omega) (six_lt (f := part (a + big - b) 0) rfl)
    · exact ((((Below.refl _ _).alloc (Nat.le_refl _) _).alloc (by simp <;> omega) _).alloc (by simp <;> omega) _).alloc (by simp <;> omega) _
  case round =>
    obtain ⟨k, hk, rfl, rfl, hA, hB, hZ, hS, hw⟩ := hrel
    by_cases hlt : k < 6
    · obtain ⟨hc0, hc1⟩ := brw_bd a b k
      obtain ⟨ha0, ha1⟩ := wd_bd a k
      obtain ⟨hb0, hb1⟩ := wd_bd b k
      obtain ⟨s, t, hs, ht, htt, hcs⟩ := sub_two (wd a k) (wd b k) (brw a b k) ha0 ha1 hb0 hb1 hc0 hc1
      rw [sub_word a b k hlt HB.out] at htt
      rw [sub_cry] at hcs
      have HT : Hid (t = wd (a + big - b) k) := htt
      have hA1 := (hA k hlt).1
      have hB1 := (hB k hlt).1
      obtain ⟨hS1, hS2⟩ := hS k hlt
      have R1 : Hid (_ ∧ _ ∧ _ ∧ _ ∧ _) := ⟨hA, hB, hZ, hS, hw⟩
      clear hA hB hZ hS hw htt hc0 hc1 ha0 ha1 hb0 hb1
      rcases hcs with ⟨d1, d2, d3⟩ | ⟨d1, d2, d3⟩ | ⟨d1, d2, d3⟩
      all_goals
        have H3 : Hid _ := d3
        clear d3
        go_wp2
        go_region
        go_wp2
        go_region
        go_wp2
        go_roundw
        case rel =>
          obtain ⟨hA, hB, hZ, hS, hw⟩ := R1.out
          exact ⟨k + 1, by omega, by go_num, by rw [H3.out], (hA.set_other _ (by simp <;> omega)), (hB.set_other _ (by simp <;> omega)), (hZ.set_other _ (by simp <;> omega)), ((hS.set _).congr (fun j _ => part_step HT.out j)), (hw.drew.drew.setCell (by simp <;> omega) _)⟩
        case measure => simp [RowKit.intOf]; omega
    · have hk6 : k = 6 := by omega
      subst hk6
      obtain ⟨s0, s1, s2, s3, s4, s5⟩ := (hS.congr (f' := wd ((a + big - b) % big)) (fun j hj => by rw [part_lt hj, wd_mod _ _ hj])).reads
      obtain ⟨z0, z1, z2, z3, z4, z5⟩ := hZ.writes
      obtain ⟨y0, y1, y2, y3, y4, y5⟩ := hZ.reads
      clear hA hB hZ hS
      go_wp2
      rw [He.out]
      exact bodyPost_ret (v := .tuple #[N ((a + big - b) % big), .bool (decide (a < b))]) (by simp [results, Tryd.results57, go_sem, *]) rfl ⟨rfl, (((((hw.setCell (by simp <;> omega) _).setCell (by simp <;> omega) _).setCell (by simp <;> omega) _).setCell (by simp <;> omega) _).setCell (by simp <;> omega) _).setCell (by simp <;> omega) _⟩
end Go.Proofs.YtfnmahjdkmgdkaaDoor
end
section
namespace Go.Proofs.YtfnmahjdkmgdkaaDoor
open Go.RowKit
namespace Rg
set_option maxRecDepth 100000
theorem cel0 : cel [0] = [.int .u64 0, .int .u64 0, .int .u64 0, .int .u64 0, .int .u64 0, .int .u64 0] := cel_zero 1
theorem ex_made81 {ρ : Operand → Value} {o : Oper} {w : World} (ho : o.op = .alloc 81) :
    (execOp ρ o).run Tryd.prog w = .ok (.value (.pointer (some ⟨w.heap.size, 0, none⟩))) (w.alloc (.cells (cel [0] ++ ([Value.int .u64 0] ++ cel [0])).toArray 81)) := by
  rw [cel0]
  simp only [execOp, ho]
  go_simp
theorem ex_build81 {ρ : Operand → Value} {o : Oper} {x0 x1 x2 : Operand} {a c : Nat} {l : Int} {w : World} (ho : o.op = .build 81 #[(0, x0), (1, x1), (2, x2)]) (h0 : ρ x0 = N a) (h1 : ρ x1 = .int .u64 l) (h2 : ρ x2 = N c) :
    (execOp ρ o).run Tryd.prog w = .ok (.value (.agg (cel [a] ++ ([Value.int .u64 l] ++ cel [c])).toArray)) w := by
  simp only [execOp, ho, List.map_toArray, List.map_cons, List.map_nil, h0, h1, h2]
  kernel_rfl
/-- What 2^768 leaves by the great order. -/
def sqR : Nat := 49829253988540319354550742249276084460127446355315915089527227471280320770991
theorem sqR_0 : wd sqR 0 = 14279814937963099055 := by decide +kernel
theorem sqR_1 : wd sqR 1 = 1963020886675057040 := by decide +kernel
theorem sqR_2 : wd sqR 2 = 8345518043873801240 := by decide +kernel
theorem sqR_3 : wd sqR 3 = 7938258146690806761 := by decide +kernel
theorem sqR_4 : wd sqR 4 = 0 := by decide +kernel
theorem sqR_5 : wd sqR 5 = 0 := by decide +kernel
theorem exd_build_rB {ρ : Operand → Value} {o : Oper} {w : World} (ho : o.op = .build 24 #[(0, .const (.int .u64 18446744069414584321)), (1, .const (.int .u64 6034159408538082302)), (2, .const (.int .u64 3691218898639771653)), (3, .const (.int .u64 8353516859464449352)), (4, .const (.int .u64 0)), (5, .const (.int .u64 0))]) (h0 : ρ (.const (.int .u64 18446744069414584321)) = .int .u64 18446744069414584321) (h1 : ρ (.const (.int .u64 6034159408538082302)) = .int .u64 6034159408538082302) (h2 : ρ (.const (.int .u64 3691218898639771653)) = .int .u64 3691218898639771653) (h3 : ρ (.const (.int .u64 8353516859464449352)) = .int .u64 8353516859464449352) (h4 : ρ (.const (.int .u64 0)) = .int .u64 0) (_h5 : ρ (.const (.int .u64 0)) = .int .u64 0) : (execOp ρ o).run Tryd.prog w = .ok (.value (N rB)) w := by
  have e : N rB = .agg #[.int .u64 18446744069414584321, .int .u64 6034159408538082302, .int .u64 3691218898639771653, .int .u64 8353516859464449352, .int .u64 0, .int .u64 0] := by simp only [N, rB_0, rB_1, rB_2, rB_3, rB_4, rB_5]
  rw [e]
  clear e
  simp only [execOp, ho]
  go_simp
set_option maxRecDepth 100000 in
theorem dOrder_rB (w : World) :
    Calls Tryd.prog 55 #[] w fun e w' => e = .returned (N rB) ∧ Below w.heap.size w w' := by
  have H0 : Hid (_ ∧ _) := ⟨Mm.nil w, Below.refl w.heap.size w⟩
  go_enter Tryd.func55, Tryd.ntmps55
  refine wp_seq ?_
  refine walk_seqA 1 [.made zero6 24] (sB H0) ?ho1 ?he1
  case ho1 => exact ak (fun γ => ⟨rfl, fun w' => exec_made6 rfl⟩) trivial
  intro γ w1 l hM hl
  have H1 : Hid (Mm w1 [(γ 0, zero6)] ∧ _) := growB H0 hM (Nat.le_refl _) hl [0] rfl (by decide)
  have o1_0 := ownB H0 hM (Nat.le_refl _) hl (i := 0) rfl
  clear hM hl l
  generalize γ 0 = γ1_0 at H1 o1_0 ⊢
  clear γ
  refine rest0 rfl (then_normal (wp_seq ?_))
  refine walk_seqB 1 [.quiet (N rB)] H1 ?ho2 ?he2
  case ho2 => exact ak (fun γ => ⟨rfl, fun w' _ => exd_build_rB rfl rfl rfl rfl rfl rfl rfl ⟩) trivial
  intro _ w2 H2
  clear H1
  refine rest_at (l := [1]) rfl ?_
  refine rest_store rfl rfl rfl (ex_store6 H2.out.1 0 rfl rfl rfl rfl (Nat.le_of_ble_eq_true rfl)) ?_
  have H3 : Hid (Mm (w2.setCells γ1_0 0 (cells6 rB)) [(γ1_0, cells6 rB)] ∧ Below w.heap.size w (w2.setCells γ1_0 0 (cells6 rB))) := ⟨H2.out.1.put 0 (off := 0) (vs := cells6 rB) rfl (Nat.le_of_ble_eq_true rfl), below_setCells _ o1_0.out _ _ _ H2.out.2⟩
  clear H2
  generalize hgw : World.setCells _ _ _ _ = w3 at H3 ⊢
  clear hgw
  refine rest_nil (then_normal (wp_ret ?_))
  repeat (first | refine then_ret ?_ | refine block_ret ?_)
  have c0 := H3.out.1.get 0 rfl 0 rfl
  have c1 := H3.out.1.get 0 rfl 1 rfl
  have c2 := H3.out.1.get 0 rfl 2 rfl
  have c3 := H3.out.1.get 0 rfl 3 rfl
  have c4 := H3.out.1.get 0 rfl 4 rfl
  have c5 := H3.out.1.get 0 rfl 5 rfl
  refine bodyPost_ret (v := N rB) (by simp [results, Tryd.results55, go_sem, *]) rfl ?_
  exact ⟨rfl, H3.out.2⟩
theorem exd_build_sqR {ρ : Operand → Value} {o : Oper} {w : World} (ho : o.op = .build 24 #[(0, .const (.int .u64 14279814937963099055)), (1, .const (.int .u64 1963020886675057040)), (2, .const (.int .u64 8345518043873801240)), (3, .const (.int .u64 7938258146690806761)), (4, .const (.int .u64 0)), (5, .const (.int .u64 0))]) (h0 : ρ (.const (.int .u64 14279814937963099055)) = .int .u64 14279814937963099055) (h1 : ρ (.const (.int .u64 1963020886675057040)) = .int .u64 1963020886675057040) (h2 : ρ (.const (.int .u64 8345518043873801240)) = .int .u64 8345518043873801240) (h3 : ρ (.const (.int .u64 7938258146690806761)) = .int .u64 7938258146690806761) (h4 : ρ (.const (.int .u64 0)) = .int .u64 0) (_h5 : ρ (.const (.int .u64 0)) = .int .u64 0) : (execOp ρ o).run Tryd.prog w = .ok (.value (N sqR)) w := by
  have e : N sqR = .agg #[.int .u64 14279814937963099055, .int .u64 1963020886675057040, .int .u64 8345518043873801240, .int .u64 7938258146690806761, .int .u64 0, .int .u64 0] := by simp only [N, sqR_0, sqR_1, sqR_2, sqR_3, sqR_4, sqR_5]
  rw [e]
  clear e
  simp only [execOp, ho]
  go_simp
set_option maxRecDepth 100000 in
theorem dR_any (w : World) :
    Calls Tryd.prog 83 #[] w fun e w' => e = .returned (.agg (cel [rB] ++ ([Value.int .u64 18446744069414584319] ++ cel [sqR])).toArray) ∧ Below w.heap.size w w' := by
  have H0 : Hid (_ ∧ _) := ⟨Mm.nil w, Below.refl w.heap.size w⟩
  go_enter Tryd.func83, Tryd.ntmps83
  refine wp_seq ?_
  refine walk_seqA 1 [.made (cel [0] ++ ([Value.int .u64 0] ++ cel [0])) 81] (sB H0) ?ho1 ?he1
  case ho1 => exact ak (fun γ => ⟨rfl, fun w' => ex_made81 rfl⟩) trivial
  intro γ w1 l hM hl
  have H1 : Hid (Mm w1 [(γ 0, cel [0] ++ ([Value.int .u64 0] ++ cel [0]))] ∧ _) := growB H0 hM (Nat.le_refl _) hl [0] rfl (by decide)
  have o1_0 := ownB H0 hM (Nat.le_refl _) hl (i := 0) rfl
  clear hM hl l
  generalize γ 0 = γ1_0 at H1 o1_0 ⊢
  clear γ
  refine rest0 rfl (then_normal (wp_seq ?_))
  refine walk_seqB 3 [.call (N rB), .quiet (N sqR), .quiet (.agg (cel [rB] ++ ([Value.int .u64 18446744069414584319] ++ cel [sqR])).toArray)] H1 ?ho2 ?he2
  case ho2 => exact ak (fun γ => ⟨rfl, fun w' h => ⟨55, #[], exec_call rfl call55 rfl (mpn rfl), dOrder_rB w'⟩⟩) (ak (fun γ => ⟨rfl, fun w' _ => exd_build_sqR rfl rfl rfl rfl rfl rfl rfl ⟩) (ak (fun γ => ⟨rfl, fun w' _ => ex_build81 rfl rfl rfl rfl⟩) trivial))
  intro _ w2 H2
  clear H1
  refine rest_at (l := [3]) rfl ?_
  refine rest_store rfl rfl rfl (ex_storeT (vs := cel [rB] ++ ([Value.int .u64 18446744069414584319] ++ cel [sqR])) H2.out.1 0 rfl rfl rfl rfl Tryd.sizeOf81 rfl (Nat.le_of_ble_eq_true rfl)) ?_
  have H3 : Hid (Mm (w2.setCells γ1_0 0 (cel [rB] ++ ([Value.int .u64 18446744069414584319] ++ cel [sqR]))) [(γ1_0, cel [rB] ++ ([Value.int .u64 18446744069414584319] ++ cel [sqR]))] ∧ Below w.heap.size w (w2.setCells γ1_0 0 (cel [rB] ++ ([Value.int .u64 18446744069414584319] ++ cel [sqR])))) := ⟨H2.out.1.put 0 (off := 0) (vs := cel [rB] ++ ([Value.int .u64 18446744069414584319] ++ cel [sqR])) rfl (Nat.le_of_ble_eq_true rfl), below_setCells _ o1_0.out _ _ _ H2.out.2⟩
  clear H2
  generalize hgw : World.setCells _ _ _ _ = w3 at H3 ⊢
  clear hgw
  refine rest_nil (then_normal (wp_ret ?_))
  repeat (first | refine then_ret ?_ | refine block_ret ?_)
  have hf0 := var_T H3.out.1 0 rfl Tryd.isAgg81 Tryd.sizeOf81 rfl
  refine bodyPost_ret (v := .agg (cel [rB] ++ ([Value.int .u64 18446744069414584319] ++ cel [sqR])).toArray) (by simp [results, Tryd.results83, asAddr, hf0]) rfl ?_
  exact ⟨rfl, H3.out.2⟩
theorem w6N (v : Nat) : Value.agg (Fs.ints .u64 (Fs.wdv v) 6).toArray = N v := by
  have e : ∀ i, ((Fs.wdv v i : Nat) : Int) = wd v i := fun i => by unfold Fs.wdv wd; rw [Nat.pow_mul]
  unfold N
  rw [← e 0, ← e 1, ← e 2, ← e 3, ← e 4, ← e 5]
  rfl
theorem fRN : Value.agg (Fs.ints .u64 Fs.fstR 13).toArray = .agg (cel [rB] ++ ([Value.int .u64 18446744069414584319] ++ cel [sqR])).toArray := by
  have e1 : cel [rB] = [.int .u64 (wd rB 0), .int .u64 (wd rB 1), .int .u64 (wd rB 2), .int .u64 (wd rB 3), .int .u64 (wd rB 4), .int .u64 (wd rB 5)] := rfl
  have e2 : cel [sqR] = [.int .u64 (wd sqR 0), .int .u64 (wd sqR 1), .int .u64 (wd sqR 2), .int .u64 (wd sqR 3), .int .u64 (wd sqR 4), .int .u64 (wd sqR 5)] := rfl
  rw [e1, e2, rB_0, rB_1, rB_2, rB_3, rB_4, rB_5, sqR_0, sqR_1, sqR_2, sqR_3, sqR_4, sqR_5]
  show (_ : Value) = _
  kernel_rfl
theorem pw64 (n : Nat) : 18446744073709551616 ^ n = 2 ^ (64 * n) := by rw [Nat.pow_mul]
theorem big6 : 18446744073709551616 ^ 6 = big := (pw64 6).trans big_eq.symm
theorem rB_modR : Fs.modR = rB := rfl
theorem hcR (x : Nat) (hx : x < 18446744073709551616 ^ 6) : ∃ z : Int, (0 ≤ z ↔ Fs.modR ≤ x) ∧ ∀ w, Calls Tryd.prog 54 #[.agg (Fs.ints .u64 (Fs.wdv x) 6).toArray, .agg (Fs.ints .u64 (Fs.wdv Fs.modR) 6).toArray] w fun e w' => e = .returned (.int .i64 z) ∧ Below w.heap.size w w' := by
  rw [w6N, w6N, rB_modR]
  rw [big6] at hx
  refine ⟨cmpv x rB, ?_, fun w => compare_ref x rB hx rB_lt w⟩
  unfold cmpv
  by_cases h : x = rB
  · rw [if_pos h]; omega
  · rw [if_neg h]
    by_cases h2 : x < rB
    · rw [if_pos h2]; omega
    · rw [if_neg h2]; omega
theorem hsR (x : Nat) (hx : x < 18446744073709551616 ^ 6) : ∃ bb : Bool, ∀ w, Calls Tryd.prog 57 #[.agg (Fs.ints .u64 (Fs.wdv x) 6).toArray, .agg (Fs.ints .u64 (Fs.wdv Fs.modR) 6).toArray] w fun e w' => e = .returned (.tuple #[.agg (Fs.ints .u64 (Fs.wdv ((x + 18446744073709551616 ^ 6 - Fs.modR) % 18446744073709551616 ^ 6)) 6).toArray, .bool bb]) ∧ Below w.heap.size w w' := by
  rw [w6N, w6N, w6N, rB_modR, big6]
  rw [big6] at hx
  exact ⟨_, fun w => sub_ref x rB hx rB_lt w⟩
theorem haR (x y : Nat) (hx : x < 18446744073709551616 ^ 6) (hy : y < 18446744073709551616 ^ 6) : ∃ cb : Bool, ∀ w, Calls Tryd.prog 87 #[.agg (Fs.ints .u64 (Fs.wdv x) 6).toArray, .agg (Fs.ints .u64 (Fs.wdv y) 6).toArray] w fun e w' => e = .returned (.tuple #[.agg (Fs.ints .u64 (Fs.wdv ((x + y) % 18446744073709551616 ^ 6)) 6).toArray, .bool cb]) ∧ Below w.heap.size w w' := by
  rw [w6N, w6N, w6N, big6]
  rw [big6] at hx hy
  exact ⟨_, fun w => add_ref x y hx hy w⟩
theorem fMulR {x y : Nat} (hx : x < rB) (hy : y < rB) (w : World) : Calls Tryd.prog 62 #[.agg (cel [rB] ++ ([Value.int .u64 18446744069414584319] ++ cel [sqR])).toArray, N x, N y] w fun e w' => e = .returned (N (x * y % rB)) ∧ Below w.heap.size w w' := by
  have h := Fs.fmul_num Fs.fa_R hcR hsR (x := x) (y := y) (by rw [big6]; exact Nat.lt_trans hx rB_lt) hy w
  rw [w6N, w6N, w6N, fRN, rB_modR] at h
  exact h
theorem fAddR {x y : Nat} (hx : x < rB) (hy : y < rB) (w : World) : Calls Tryd.prog 61 #[.agg (cel [rB] ++ ([Value.int .u64 18446744069414584319] ++ cel [sqR])).toArray, N x, N y] w fun e w' => e = .returned (N ((x + y) % rB)) ∧ Below w.heap.size w w' := by
  have h := Fs.fadd_num Fs.fa_R hcR hsR haR (x := x) (y := y) hx hy w
  rw [w6N, w6N, w6N, fRN, rB_modR] at h
  exact h
end Rg
end Go.Proofs.YtfnmahjdkmgdkaaDoor
end
section
namespace Go.Proofs.YtfnmahjdkmgdkaaDoor
open Go.RowKit
namespace Rg
set_option maxRecDepth 100000
theorem N_small {m : Nat} (h : m < 18446744073709551616) : N m = .agg #[.int .u64 (m : Int), .int .u64 0, .int .u64 0, .int .u64 0, .int .u64 0, .int .u64 0] := by
  unfold N
  rw [wd_small0 m h, wd_small m 0 h, wd_small m 1 h, wd_small m 2 h, wd_small m 3 h, wd_small m 4 h]
section
variable {ρ : Operand → Value} {o : Oper} {x y : Operand} {w : World}
theorem ex_bld1 {v m : Nat} (hm : m < 18446744073709551616) (hv : v = m) (ho : o.op = .build 24 #[(0, x)]) (hx : ρ x = .int .u64 (m : Int)) : (execOp ρ o).run Tryd.prog w = .ok (.value (N v)) w := by
  rw [hv, N_small hm]
  simp only [execOp, ho, List.map_toArray, List.map_cons, List.map_nil, hx]
  kernel_rfl
theorem ex_eq31 {m : Nat} {t : Bool} (h : decide (m = 1) = t) (ho : o.op = .binOp .eql 3 x y 3) (hx : ρ x = .int .i64 ((m : Nat) : Int)) (hy : ρ y = .int .i64 1) : (execOp ρ o).run Tryd.prog w = .ok (.value (.bool t)) w := by
  rw [← h]
  simp only [execOp, ho, hx, hy]
  clear ho hx hy h
  go_simp
  by_cases h : m = 1
  · subst h; rfl
  · rw [decide_eq_false h]
    simp
    omega
end
set_option maxHeartbeats 2000000 in
set_option maxRecDepth 100000 in
theorem fpow_gen {fn fs n a ex L : Nat} {fl : Int} (P bt : Nat → Nat) (hn : 0 < n) (ha : a < n) (hL : L ≤ 384) (hP0 : P L = 1) (hlt' : ∀ k, P k < n)
    (h1 : ∀ j, bt j = 1 → P (j + 1) * P (j + 1) % n * a % n = P j) (h0 : ∀ j, ¬ bt j = 1 → P (j + 1) * P (j + 1) % n = P j)
    (hM : ∀ x y, x < n → y < n → ∀ w, Calls Tryd.prog 62 #[.agg (cel [fn] ++ ([Value.int .u64 fl] ++ cel [fs])).toArray, N x, N y] w fun e w' => e = .returned (N (x * y % n)) ∧ Below w.heap.size w w')
    (hL0 : ∀ w, Calls Tryd.prog 101 #[N ex] w fun e w' => e = .returned (.int .i64 ((L : Nat) : Int)) ∧ Below w.heap.size w w') (hB0 : ∀ j, j < L → ∀ w, Calls Tryd.prog 102 #[N ex, .int .i64 ((j : Nat) : Int)] w fun e w' => e = .returned (.int .i64 ((bt j : Nat) : Int)) ∧ Below w.heap.size w w') (w : World) :
    Calls Tryd.prog 85 #[.agg (cel [fn] ++ ([Value.int .u64 fl] ++ cel [fs])).toArray, N a, N ex] w fun e w' => e = .returned (N (P 0)) ∧ Below w.heap.size w w' := by
  have H0 : Hid (_ ∧ _) := ⟨Mm.nil w, Below.refl w.heap.size w⟩
  have HM : Hid _ := hM
  have HL : Hid _ := hL0
  have HB : Hid _ := hB0
  clear hM hL0 hB0
  go_enter Tryd.func85, Tryd.ntmps85
  refine wp_seq ?_
  refine walk_seqA 4 [.made (cel [fn] ++ ([Value.int .u64 fl] ++ cel [fs])) 81, .made (cells6 a) 24, .made (cells6 ex) 24, .made zero6 24] (sB H0) ?ho1 ?he1
  case ho1 => exact ak (fun γ => ⟨rfl, fun w' => ex_boxT rfl rfl⟩) (ak (fun γ => ⟨rfl, fun w' => ex_box6 rfl rfl⟩) (ak (fun γ => ⟨rfl, fun w' => ex_box6 rfl rfl⟩) (ak (fun γ => ⟨rfl, fun w' => exec_made6 rfl⟩) trivial)))
  intro γ w1 l hM hl
  have H1 : Hid (Mm w1 [(γ 0, cel [fn] ++ ([Value.int .u64 fl] ++ cel [fs])), (γ 1, cells6 a), (γ 2, cells6 ex), (γ 3, zero6)] ∧ _) := growB H0 hM (Nat.le_refl _) hl [0, 1, 2, 3] rfl (by decide)
  have o1_0 := ownB H0 hM (Nat.le_refl _) hl (i := 0) rfl
  have o1_1 := ownB H0 hM (Nat.le_refl _) hl (i := 1) rfl
  have o1_2 := ownB H0 hM (Nat.le_refl _) hl (i := 2) rfl
  have o1_3 := ownB H0 hM (Nat.le_refl _) hl (i := 3) rfl
  clear hM hl l
  generalize γ 0 = γ1_0 at H1 o1_0 ⊢
  generalize γ 1 = γ1_1 at H1 o1_1 ⊢
  generalize γ 2 = γ1_2 at H1 o1_2 ⊢
  generalize γ 3 = γ1_3 at H1 o1_3 ⊢
  clear γ
  refine rest0 rfl (then_normal (wp_seq ?_))
  refine walk_seqA 3 [.quiet (N (P L)), .made zero6 24, .laid 1 zero6 (cells6 (P L))] (sB H1) ?ho2 ?he2 (hL := ?hL2)
  case hL2 => exact ⟨⟨_, rfl⟩, trivial⟩
  case ho2 => exact ak (fun γ => ⟨rfl, fun w' _ => ex_bld1 (m := 1) (by decide) hP0 rfl rfl⟩) (ak (fun γ => ⟨rfl, fun w' => exec_made6 rfl⟩) (ak (fun γ => ⟨rfl, rfl, rfl, fun w' h => exec_laid6 h rfl rfl rfl⟩) trivial))
  intro γ w2 l hM hl
  have H2 : Hid (Mm w2 [(γ 1, cells6 (P L)), (γ1_0, cel [fn] ++ ([Value.int .u64 fl] ++ cel [fs])), (γ1_1, cells6 a), (γ1_2, cells6 ex), (γ1_3, zero6)] ∧ _) := growB H1 hM (Nat.le_refl _) hl [1] rfl (by decide)
  have o2_1 := ownB H1 hM (Nat.le_refl _) hl (i := 1) rfl
  clear hM hl l H1
  generalize γ 1 = γ2_1 at H2 o2_1 ⊢
  clear γ
  refine rest0 rfl (then_normal (wp_seq (wp_seq ?_)))
  refine walk_seqB 4 [.quiet (N ex), .call (.int .i64 ((L : Nat) : Int)), .quiet (.int .i64 (((L : Nat) : Int) - 1)), .quiet (.int .i64 (((L : Nat) : Int) - 1))] H2 ?ho3 ?he3
  case ho3 => exact ak (fun γ => ⟨rfl, fun w' h => ex_load6 h 3 rfl rfl rfl rfl⟩) (ak (fun γ => ⟨rfl, fun w' h => ⟨101, #[N ex], exec_call rfl call101 rfl (mpn rfl), HL.out w'⟩⟩) (ak (by refine fun γ => ⟨rfl, fun w' h => ?_⟩; clear h; go_simp; rw [IntKind.wrap_i64]; omega) (ak (fun _ => ⟨rfl, fun _ _ => rfl⟩) trivial)))
  intro _ w3 H3
  clear H2
  refine rest0 rfl (then_normal (wp_block ?_))
  refine loop_ghost (α := Nat) (fun k a' w' => ∃ s0 : Nat → Value, a' = ⟨#[.agg (cel [fn] ++ ([Value.int .u64 fl] ++ cel [fs])).toArray, N a, N ex, PT γ1_0 0, PT γ1_1 0, PT γ1_2 0, PT γ1_3 0, PT γ2_1 0, .int .i64 (((k : Nat) : Int) - 1), N (P L), N ex, .int .i64 ((L : Nat) : Int), .int .i64 (((L : Nat) : Int) - 1), s0 13, s0 14, s0 15, s0 16, s0 17, s0 18, s0 19, s0 20, s0 21, s0 22, s0 23, s0 24, s0 25, s0 26, s0 27, s0 28, undef], []⟩ ∧ (Mm w' [(γ2_1, cells6 (P k)), (γ1_0, cel [fn] ++ ([Value.int .u64 fl] ++ cel [fs])), (γ1_1, cells6 a), (γ1_2, cells6 ex), (γ1_3, zero6)] ∧ Below w.heap.size w w') ∧ k ≤ L) (fun k => k) L ?st0 ?rd0
  case st0 => exact ⟨(slotfn [undef, undef, undef, undef, undef, undef, undef, undef, undef, undef, undef, undef, undef, undef, undef, undef, undef, undef, undef, undef, undef, undef, undef, undef, undef, undef, undef, undef, undef]), rfl, ⟨H3.out.1, H3.out.2⟩, Nat.le_refl _⟩
  intro k a' w4 hI
  obtain ⟨s0, rfl, hMB, hk0⟩ := hI
  have H4 : Hid (_ ∧ _) := hMB
  clear hMB H3
  by_cases hlt : 0 < k
  · have hrd : True := trivial
    clear hrd
    obtain ⟨j, rfl⟩ : ∃ j, k = j + 1 := ⟨k - 1, by omega⟩
    rw [show (((j + 1 : Nat) : Int) - 1) = ((j : Nat) : Int) by omega]
    by_cases hb : bt j = 1
    · have hrd : True := trivial
      clear hrd
      refine wp_seq (wp_seq ?_)
      refine walk_seqB 2 [.quiet (.int .i64 ((j : Nat) : Int)), .quiet (.bool true)] H4 ?ho4 ?he4
      case ho4 => exact ak (fun _ => ⟨rfl, fun _ _ => rfl⟩) (ak (by refine fun γ => ⟨rfl, fun w' h => ?_⟩; clear h; go_simp) trivial)
      intro _ w5 H5
      clear H4
      refine rest0 rfl (then_normal (wp_cond_true rfl ?_))
      refine wp_skip (then_normal ?_)
      refine wp_seq (wp_block (wp_seq ?_))
      refine walk_seqB 4 [.quiet (.agg (cel [fn] ++ ([Value.int .u64 fl] ++ cel [fs])).toArray), .quiet (N (P (j + 1))), .quiet (N (P (j + 1))), .call (N ((P (j + 1)) * (P (j + 1)) % n))] H5 ?ho5 ?he5
      case ho5 => exact ak (fun γ => ⟨rfl, fun w' h => ex_loadT h 1 rfl rfl rfl Tryd.isAgg81 Tryd.sizeOf81 rfl rfl⟩) (ak (fun γ => ⟨rfl, fun w' h => ex_load6 h 0 rfl rfl rfl rfl⟩) (ak (fun γ => ⟨rfl, fun w' h => ex_load6 h 0 rfl rfl rfl rfl⟩) (ak (fun γ => ⟨rfl, fun w' h => ⟨62, #[.agg (cel [fn] ++ ([Value.int .u64 fl] ++ cel [fs])).toArray, N (P (j + 1)), N (P (j + 1))], exec_call rfl call62 rfl (mpn rfl), HM.out (P (j + 1)) (P (j + 1)) (hlt' _) (hlt' _) w'⟩⟩) trivial)))
      intro _ w6 H6
      clear H5
      refine rest_at (l := [4]) rfl ?_
      refine rest_store rfl rfl rfl (ex_store6 H6.out.1 0 rfl rfl rfl rfl (Nat.le_of_ble_eq_true rfl)) ?_
      have H7 : Hid (Mm (w6.setCells γ2_1 0 (cells6 ((P (j + 1)) * (P (j + 1)) % n))) [(γ2_1, cells6 ((P (j + 1)) * (P (j + 1)) % n)), (γ1_0, cel [fn] ++ ([Value.int .u64 fl] ++ cel [fs])), (γ1_1, cells6 a), (γ1_2, cells6 ex), (γ1_3, zero6)] ∧ Below w.heap.size w (w6.setCells γ2_1 0 (cells6 ((P (j + 1)) * (P (j + 1)) % n)))) := ⟨H6.out.1.put 0 (off := 0) (vs := cells6 ((P (j + 1)) * (P (j + 1)) % n)) rfl (Nat.le_of_ble_eq_true rfl), below_setCells _ o2_1.out _ _ _ H6.out.2⟩
      clear H6
      generalize hgw : World.setCells _ _ _ _ = w7 at H7 ⊢
      clear hgw
      refine rest_nil (then_normal (wp_seq ?_))
      refine walk_seqB 4 [.quiet (N ex), .quiet (.int .i64 ((j : Nat) : Int)), .call (.int .i64 ((bt j : Nat) : Int)), .quiet (.bool true)] H7 ?ho6 ?he6
      case ho6 => exact ak (fun γ => ⟨rfl, fun w' h => ex_load6 h 3 rfl rfl rfl rfl⟩) (ak (fun _ => ⟨rfl, fun _ _ => rfl⟩) (ak (fun γ => ⟨rfl, fun w' h => ⟨102, #[N ex, .int .i64 ((j : Nat) : Int)], exec_call rfl call102 rfl (mpn rfl), HB.out j (by omega) w'⟩⟩) (ak (fun γ => ⟨rfl, fun w' _ => ex_eq31 (decide_eq_true hb) rfl rfl rfl⟩) trivial)))
      intro _ w8 H8
      clear H7
      refine rest0 rfl (then_normal (wp_cond_true rfl ?_))
      refine walk_seqB 4 [.quiet (.agg (cel [fn] ++ ([Value.int .u64 fl] ++ cel [fs])).toArray), .quiet (N ((P (j + 1)) * (P (j + 1)) % n)), .quiet (N a), .call (N (((P (j + 1)) * (P (j + 1)) % n) * a % n))] H8 ?ho7 ?he7
      case ho7 => exact ak (fun γ => ⟨rfl, fun w' h => ex_loadT h 1 rfl rfl rfl Tryd.isAgg81 Tryd.sizeOf81 rfl rfl⟩) (ak (fun γ => ⟨rfl, fun w' h => ex_load6 h 0 rfl rfl rfl rfl⟩) (ak (fun γ => ⟨rfl, fun w' h => ex_load6 h 2 rfl rfl rfl rfl⟩) (ak (fun γ => ⟨rfl, fun w' h => ⟨62, #[.agg (cel [fn] ++ ([Value.int .u64 fl] ++ cel [fs])).toArray, N ((P (j + 1)) * (P (j + 1)) % n), N a], exec_call rfl call62 rfl (mpn rfl), HM.out ((P (j + 1)) * (P (j + 1)) % n) a (Nat.mod_lt _ hn) ha w'⟩⟩) trivial)))
      intro _ w9 H9
      clear H8
      refine rest_at (l := [4]) rfl ?_
      refine rest_store rfl rfl rfl (ex_store6 H9.out.1 0 rfl rfl rfl rfl (Nat.le_of_ble_eq_true rfl)) ?_
      have H10 : Hid (Mm (w9.setCells γ2_1 0 (cells6 (((P (j + 1)) * (P (j + 1)) % n) * a % n))) [(γ2_1, cells6 (((P (j + 1)) * (P (j + 1)) % n) * a % n)), (γ1_0, cel [fn] ++ ([Value.int .u64 fl] ++ cel [fs])), (γ1_1, cells6 a), (γ1_2, cells6 ex), (γ1_3, zero6)] ∧ Below w.heap.size w (w9.setCells γ2_1 0 (cells6 (((P (j + 1)) * (P (j + 1)) % n) * a % n)))) := ⟨H9.out.1.put 0 (off := 0) (vs := cells6 (((P (j + 1)) * (P (j + 1)) % n) * a % n)) rfl (Nat.le_of_ble_eq_true rfl), below_setCells _ o2_1.out _ _ _ H9.out.2⟩
      clear H9
      generalize hgw : World.setCells _ _ _ _ = w10 at H10 ⊢
      clear hgw
      refine rest_nil (block_normal (then_normal ?_))
      refine walk_seqB 2 [.quiet (.int .i64 ((j : Nat) : Int)), .quiet (.int .i64 (((j : Nat) : Int) - 1))] H10 ?ho8 ?he8
      case ho8 => exact ak (fun _ => ⟨rfl, fun _ _ => rfl⟩) (ak (by refine fun γ => ⟨rfl, fun w' h => ?_⟩; clear h; go_simp; rw [IntKind.wrap_i64]; omega) trivial)
      intro _ w11 H11
      clear H10
      refine rest_at (l := [2]) rfl ?_
      refine rest_set (d := 8) rfl rfl rfl rfl ?_
      simp only [Act.put, sa, sz, ss]
      refine rest_nil (then_normal ?_)
      exact ⟨j, ⟨(slotfn [undef, undef, undef, undef, undef, undef, undef, undef, undef, undef, undef, undef, undef, .int .i64 ((j : Nat) : Int), .bool true, .int .i64 ((j : Nat) : Int), .int .i64 (((j : Nat) : Int) - 1), .agg (cel [fn] ++ ([Value.int .u64 fl] ++ cel [fs])).toArray, N (P (j + 1)), N (P (j + 1)), N ((P (j + 1)) * (P (j + 1)) % n), N ex, .int .i64 ((j : Nat) : Int), .int .i64 ((bt j : Nat) : Int), .bool true, .agg (cel [fn] ++ ([Value.int .u64 fl] ++ cel [fs])).toArray, N ((P (j + 1)) * (P (j + 1)) % n), N a, N (((P (j + 1)) * (P (j + 1)) % n) * a % n)]), rfl, ⟨by rw [← h1 j hb]; exact H11.out.1, H11.out.2⟩, by omega⟩, by omega⟩
    · have hrd : True := trivial
      clear hrd
      refine wp_seq (wp_seq ?_)
      refine walk_seqB 2 [.quiet (.int .i64 ((j : Nat) : Int)), .quiet (.bool true)] H4 ?ho9 ?he9
      case ho9 => exact ak (fun _ => ⟨rfl, fun _ _ => rfl⟩) (ak (by refine fun γ => ⟨rfl, fun w' h => ?_⟩; clear h; go_simp) trivial)
      intro _ w12 H12
      clear H4
      refine rest0 rfl (then_normal (wp_cond_true rfl ?_))
      refine wp_skip (then_normal ?_)
      refine wp_seq (wp_block (wp_seq ?_))
      refine walk_seqB 4 [.quiet (.agg (cel [fn] ++ ([Value.int .u64 fl] ++ cel [fs])).toArray), .quiet (N (P (j + 1))), .quiet (N (P (j + 1))), .call (N ((P (j + 1)) * (P (j + 1)) % n))] H12 ?ho10 ?he10
      case ho10 => exact ak (fun γ => ⟨rfl, fun w' h => ex_loadT h 1 rfl rfl rfl Tryd.isAgg81 Tryd.sizeOf81 rfl rfl⟩) (ak (fun γ => ⟨rfl, fun w' h => ex_load6 h 0 rfl rfl rfl rfl⟩) (ak (fun γ => ⟨rfl, fun w' h => ex_load6 h 0 rfl rfl rfl rfl⟩) (ak (fun γ => ⟨rfl, fun w' h => ⟨62, #[.agg (cel [fn] ++ ([Value.int .u64 fl] ++ cel [fs])).toArray, N (P (j + 1)), N (P (j + 1))], exec_call rfl call62 rfl (mpn rfl), HM.out (P (j + 1)) (P (j + 1)) (hlt' _) (hlt' _) w'⟩⟩) trivial)))
      intro _ w13 H13
      clear H12
      refine rest_at (l := [4]) rfl ?_
      refine rest_store rfl rfl rfl (ex_store6 H13.out.1 0 rfl rfl rfl rfl (Nat.le_of_ble_eq_true rfl)) ?_
      have H14 : Hid (Mm (w13.setCells γ2_1 0 (cells6 ((P (j + 1)) * (P (j + 1)) % n))) [(γ2_1, cells6 ((P (j + 1)) * (P (j + 1)) % n)), (γ1_0, cel [fn] ++ ([Value.int .u64 fl] ++ cel [fs])), (γ1_1, cells6 a), (γ1_2, cells6 ex), (γ1_3, zero6)] ∧ Below w.heap.size w (w13.setCells γ2_1 0 (cells6 ((P (j + 1)) * (P (j + 1)) % n)))) := ⟨H13.out.1.put 0 (off := 0) (vs := cells6 ((P (j + 1)) * (P (j + 1)) % n)) rfl (Nat.le_of_ble_eq_true rfl), below_setCells _ o2_1.out _ _ _ H13.out.2⟩
      clear H13
      generalize hgw : World.setCells _ _ _ _ = w14 at H14 ⊢
      clear hgw
      refine rest_nil (then_normal (wp_seq ?_))
      refine walk_seqB 4 [.quiet (N ex), .quiet (.int .i64 ((j : Nat) : Int)), .call (.int .i64 ((bt j : Nat) : Int)), .quiet (.bool false)] H14 ?ho11 ?he11
      case ho11 => exact ak (fun γ => ⟨rfl, fun w' h => ex_load6 h 3 rfl rfl rfl rfl⟩) (ak (fun _ => ⟨rfl, fun _ _ => rfl⟩) (ak (fun γ => ⟨rfl, fun w' h => ⟨102, #[N ex, .int .i64 ((j : Nat) : Int)], exec_call rfl call102 rfl (mpn rfl), HB.out j (by omega) w'⟩⟩) (ak (fun γ => ⟨rfl, fun w' _ => ex_eq31 (decide_eq_false hb) rfl rfl rfl⟩) trivial)))
      intro _ w15 H15
      clear H14
      refine rest0 rfl (then_normal (wp_cond_false rfl ?_))
      refine wp_skip (block_normal (then_normal ?_))
      refine walk_seqB 2 [.quiet (.int .i64 ((j : Nat) : Int)), .quiet (.int .i64 (((j : Nat) : Int) - 1))] H15 ?ho12 ?he12
      case ho12 => exact ak (fun _ => ⟨rfl, fun _ _ => rfl⟩) (ak (by refine fun γ => ⟨rfl, fun w' h => ?_⟩; clear h; go_simp; rw [IntKind.wrap_i64]; omega) trivial)
      intro _ w16 H16
      clear H15
      refine rest_at (l := [2]) rfl ?_
      refine rest_set (d := 8) rfl rfl rfl rfl ?_
      simp only [Act.put, sa, sz, ss]
      refine rest_nil (then_normal ?_)
      exact ⟨j, ⟨(slotfn [undef, undef, undef, undef, undef, undef, undef, undef, undef, undef, undef, undef, undef, .int .i64 ((j : Nat) : Int), .bool true, .int .i64 ((j : Nat) : Int), .int .i64 (((j : Nat) : Int) - 1), .agg (cel [fn] ++ ([Value.int .u64 fl] ++ cel [fs])).toArray, N (P (j + 1)), N (P (j + 1)), N ((P (j + 1)) * (P (j + 1)) % n), N ex, .int .i64 ((j : Nat) : Int), .int .i64 ((bt j : Nat) : Int), .bool false, s0 25, s0 26, s0 27, s0 28]), rfl, ⟨by rw [← h0 j hb]; exact H16.out.1, H16.out.2⟩, by omega⟩, by omega⟩
  have hk : k = 0 := by omega
  subst hk
  refine wp_seq (wp_seq ?_)
  refine walk_seqB 2 [.quiet (.int .i64 (((0 : Nat) : Int) - 1)), .quiet (.bool false)] H4 ?ho13 ?he13
  case ho13 => exact ak (fun _ => ⟨rfl, fun _ _ => rfl⟩) (ak (by refine fun γ => ⟨rfl, fun w' h => ?_⟩; clear h; go_simp) trivial)
  intro _ w17 H17
  clear H4
  refine rest0 rfl (then_normal (wp_cond_false rfl ?_))
  refine wp_exit ?_
  repeat refine then_exit ?_
  refine block_exit ?_
  refine then_normal (wp_seq ?_)
  refine walk_seqB 1 [.quiet (N (P 0))] H17 ?ho14 ?he14
  case ho14 => exact ak (fun γ => ⟨rfl, fun w' h => ex_load6 h 0 rfl rfl rfl rfl⟩) trivial
  intro _ w18 H18
  clear H17
  refine rest_at (l := [1]) rfl ?_
  refine rest_store rfl rfl rfl (ex_store6 H18.out.1 4 rfl rfl rfl rfl (Nat.le_of_ble_eq_true rfl)) ?_
  have H19 : Hid (Mm (w18.setCells γ1_3 0 (cells6 (P 0))) [(γ2_1, cells6 (P 0)), (γ1_0, cel [fn] ++ ([Value.int .u64 fl] ++ cel [fs])), (γ1_1, cells6 a), (γ1_2, cells6 ex), (γ1_3, cells6 (P 0))] ∧ Below w.heap.size w (w18.setCells γ1_3 0 (cells6 (P 0)))) := ⟨H18.out.1.put 4 (off := 0) (vs := cells6 (P 0)) rfl (Nat.le_of_ble_eq_true rfl), below_setCells _ o1_3.out _ _ _ H18.out.2⟩
  clear H18
  generalize hgw : World.setCells _ _ _ _ = w19 at H19 ⊢
  clear hgw
  refine rest_nil (then_normal (wp_ret ?_))
  repeat (first | refine then_ret ?_ | refine block_ret ?_)
  have c0 := H19.out.1.get 4 rfl 0 rfl
  have c1 := H19.out.1.get 4 rfl 1 rfl
  have c2 := H19.out.1.get 4 rfl 2 rfl
  have c3 := H19.out.1.get 4 rfl 3 rfl
  have c4 := H19.out.1.get 4 rfl 4 rfl
  have c5 := H19.out.1.get 4 rfl 5 rfl
  refine bodyPost_ret (v := N (P 0)) (by simp [results, Tryd.results85, go_sem, *]) rfl ?_
  exact ⟨rfl, H19.out.2⟩
set_option maxHeartbeats 1000000 in
set_option maxRecDepth 100000 in
theorem finv_gen {fn fs a ex res c2 : Nat} {fl : Int} {bb : Bool} (hc2 : c2 = 2) (hS0 : ∀ w, Calls Tryd.prog 57 #[N fn, N c2] w fun e w' => e = .returned (.tuple #[N ex, .bool bb]) ∧ Below w.heap.size w w') (hP : ∀ w, Calls Tryd.prog 85 #[.agg (cel [fn] ++ ([Value.int .u64 fl] ++ cel [fs])).toArray, N a, N ex] w fun e w' => e = .returned (N res) ∧ Below w.heap.size w w') (w : World) :
    Calls Tryd.prog 59 #[.agg (cel [fn] ++ ([Value.int .u64 fl] ++ cel [fs])).toArray, N a] w fun e w' => e = .returned (N res) ∧ Below w.heap.size w w' := by
  have H0 : Hid (_ ∧ _) := ⟨Mm.nil w, Below.refl w.heap.size w⟩
  have HS : Hid _ := hS0
  have HP : Hid _ := hP
  clear hS0 hP
  go_enter Tryd.func59, Tryd.ntmps59
  refine wp_seq ?_
  refine walk_seqA 3 [.made (cel [fn] ++ ([Value.int .u64 fl] ++ cel [fs])) 81, .made (cells6 a) 24, .made zero6 24] (sB H0) ?ho1 ?he1
  case ho1 => exact ak (fun γ => ⟨rfl, fun w' => ex_boxT rfl rfl⟩) (ak (fun γ => ⟨rfl, fun w' => ex_box6 rfl rfl⟩) (ak (fun γ => ⟨rfl, fun w' => exec_made6 rfl⟩) trivial))
  intro γ w1 l hM hl
  have H1 : Hid (Mm w1 [(γ 0, cel [fn] ++ ([Value.int .u64 fl] ++ cel [fs])), (γ 1, cells6 a), (γ 2, zero6)] ∧ _) := growB H0 hM (Nat.le_refl _) hl [0, 1, 2] rfl (by decide)
  have o1_0 := ownB H0 hM (Nat.le_refl _) hl (i := 0) rfl
  have o1_1 := ownB H0 hM (Nat.le_refl _) hl (i := 1) rfl
  have o1_2 := ownB H0 hM (Nat.le_refl _) hl (i := 2) rfl
  clear hM hl l
  generalize γ 0 = γ1_0 at H1 o1_0 ⊢
  generalize γ 1 = γ1_1 at H1 o1_1 ⊢
  generalize γ 2 = γ1_2 at H1 o1_2 ⊢
  clear γ
  refine rest0 rfl (then_normal (wp_seq ?_))
  refine walk_seqA 10 [.quiet (PT γ1_0 0), .quiet (N fn), .quiet (N c2), .call (.tuple #[N ex, .bool bb]), .quiet (.tuple #[N ex, .bool bb]), .quiet (N ex), .quiet (.bool bb), .made zero6 24, .laid 7 zero6 (cells6 ex), .quiet (.bool bb)] (sB H1) ?ho2 ?he2 (hL := ?hL2)
  case hL2 => exact ⟨⟨_, rfl⟩, trivial⟩
  case ho2 => exact ak (by refine fun γ => ⟨rfl, fun w' h => ?_⟩; clear h; go_simp) (ak (fun γ => ⟨rfl, fun w' h => ex_load6 h 0 rfl rfl rfl rfl⟩) (ak (fun γ => ⟨rfl, fun w' _ => ex_bld1 (m := 2) (by decide) hc2 rfl rfl⟩) (ak (fun γ => ⟨rfl, fun w' h => ⟨57, #[N fn, N c2], exec_call rfl call57 rfl (mpn rfl), HS.out w'⟩⟩) (ak (fun _ => ⟨rfl, fun _ _ => rfl⟩) (ak (by refine fun γ => ⟨rfl, fun w' h => ?_⟩; clear h; go_simp) (ak (by refine fun γ => ⟨rfl, fun w' h => ?_⟩; clear h; go_simp) (ak (fun γ => ⟨rfl, fun w' => exec_made6 rfl⟩) (ak (fun γ => ⟨rfl, rfl, rfl, fun w' h => exec_laid6 h rfl rfl rfl⟩) (ak (fun _ => ⟨rfl, fun _ _ => rfl⟩) trivial)))))))))
  intro γ w2 l hM hl
  have H2 : Hid (Mm w2 [(γ 7, cells6 ex), (γ1_0, cel [fn] ++ ([Value.int .u64 fl] ++ cel [fs])), (γ1_1, cells6 a), (γ1_2, zero6)] ∧ _) := growB H1 hM (Nat.le_refl _) hl [7] rfl (by decide)
  have o2_7 := ownB H1 hM (Nat.le_refl _) hl (i := 7) rfl
  clear hM hl l H1
  generalize γ 7 = γ2_7 at H2 o2_7 ⊢
  clear γ
  refine rest0 rfl (then_normal (wp_seq ?_))
  refine walk_seqB 4 [.quiet (.agg (cel [fn] ++ ([Value.int .u64 fl] ++ cel [fs])).toArray), .quiet (N a), .quiet (N ex), .call (N res)] H2 ?ho3 ?he3
  case ho3 => exact ak (fun γ => ⟨rfl, fun w' h => ex_loadT h 1 rfl rfl rfl Tryd.isAgg81 Tryd.sizeOf81 rfl rfl⟩) (ak (fun γ => ⟨rfl, fun w' h => ex_load6 h 2 rfl rfl rfl rfl⟩) (ak (fun γ => ⟨rfl, fun w' h => ex_load6 h 0 rfl rfl rfl rfl⟩) (ak (fun γ => ⟨rfl, fun w' h => ⟨85, #[.agg (cel [fn] ++ ([Value.int .u64 fl] ++ cel [fs])).toArray, N a, N ex], exec_call rfl call85 rfl (mpn rfl), HP.out w'⟩⟩) trivial)))
  intro _ w3 H3
  clear H2
  refine rest_at (l := [4]) rfl ?_
  refine rest_store rfl rfl rfl (ex_store6 H3.out.1 3 rfl rfl rfl rfl (Nat.le_of_ble_eq_true rfl)) ?_
  have H4 : Hid (Mm (w3.setCells γ1_2 0 (cells6 res)) [(γ2_7, cells6 ex), (γ1_0, cel [fn] ++ ([Value.int .u64 fl] ++ cel [fs])), (γ1_1, cells6 a), (γ1_2, cells6 res)] ∧ Below w.heap.size w (w3.setCells γ1_2 0 (cells6 res))) := ⟨H3.out.1.put 3 (off := 0) (vs := cells6 res) rfl (Nat.le_of_ble_eq_true rfl), below_setCells _ o1_2.out _ _ _ H3.out.2⟩
  clear H3
  generalize hgw : World.setCells _ _ _ _ = w4 at H4 ⊢
  clear hgw
  refine rest_nil (then_normal (wp_ret ?_))
  repeat (first | refine then_ret ?_ | refine block_ret ?_)
  have c0 := H4.out.1.get 3 rfl 0 rfl
  have c1 := H4.out.1.get 3 rfl 1 rfl
  have c2 := H4.out.1.get 3 rfl 2 rfl
  have c3 := H4.out.1.get 3 rfl 3 rfl
  have c4 := H4.out.1.get 3 rfl 4 rfl
  have c5 := H4.out.1.get 3 rfl 5 rfl
  refine bodyPost_ret (v := N res) (by simp [results, Tryd.results59, go_sem, *]) rfl ?_
  exact ⟨rfl, H4.out.2⟩
theorem pow_step1 (n a e j : Nat) (h : e / 2 ^ j % 2 = 1) : a ^ (e / 2 ^ (j + 1)) % n * (a ^ (e / 2 ^ (j + 1)) % n) % n * a % n = a ^ (e / 2 ^ j) % n := by
  rw [Nat.pow_succ, ← Nat.div_div_eq_div_mul]
  generalize e / 2 ^ j = q at *
  rw [← Nat.mul_mod, ← Nat.pow_add, Nat.mod_mul_mod, ← Nat.pow_succ, show (q / 2 + q / 2).succ = q by omega]
theorem pow_step0 (n a e j : Nat) (h : ¬ e / 2 ^ j % 2 = 1) : a ^ (e / 2 ^ (j + 1)) % n * (a ^ (e / 2 ^ (j + 1)) % n) % n = a ^ (e / 2 ^ j) % n := by
  rw [Nat.pow_succ, ← Nat.div_div_eq_div_mul]
  generalize e / 2 ^ j = q at *
  rw [← Nat.mul_mod, ← Nat.pow_add, show q / 2 + q / 2 = q by omega]
theorem bit_in (a i : Nat) (hi : i < 384) (w : World) : Calls Tryd.prog 102 #[N a, .int .i64 ((i : Nat) : Int)] w fun e w' => e = .returned (.int .i64 ((a / 2 ^ i % 2 : Nat) : Int)) ∧ Below w.heap.size w w' := bit_ref_in a i hi w
theorem blr : bl (rB - 2) = 255 := by decide +kernel
theorem fPowR {a : Nat} (ha : a < rB) (w : World) : Calls Tryd.prog 85 #[.agg (cel [rB] ++ ([Value.int .u64 18446744069414584319] ++ cel [sqR])).toArray, N a, N (rB - 2)] w fun e w' => e = .returned (N (a ^ (rB - 2) % rB)) ∧ Below w.heap.size w w' := by
  have h1r : 1 < rB := by decide +kernel
  have hl : bl (rB - 2) ≤ 384 := by rw [blr]; decide
  have hlt : rB - 2 < 2 ^ bl (rB - 2) := bl_lt _
  have h := fpow_gen (fn := rB) (fs := sqR) (fl := 18446744069414584319) (n := rB) (a := a) (ex := rB - 2) (L := bl (rB - 2)) (fun k => a ^ ((rB - 2) / 2 ^ k) % rB) (fun k => (rB - 2) / 2 ^ k % 2) (by omega) ha hl
    (by rw [Nat.div_eq_of_lt hlt, Nat.pow_zero, Nat.mod_eq_of_lt h1r]) (fun k => Nat.mod_lt _ (by omega)) (fun j hj => pow_step1 rB a (rB - 2) j hj) (fun j hj => pow_step0 rB a (rB - 2) j hj)
    (fun x y hx hy w => fMulR hx hy w) (fun w => len_ref (rB - 2) (Nat.lt_of_le_of_lt (Nat.sub_le _ _) rB_lt) w) (fun j hj w => bit_in (rB - 2) j (by omega) w) w
  rw [Nat.pow_zero, Nat.div_one] at h
  exact h
theorem subr2 : (rB + big - 2) % big = rB - 2 := by
  have h1r : 2 ≤ rB := by decide +kernel
  have h2 := rB_lt
  rw [show rB + big - 2 = (rB - 2) + big by omega, Nat.add_mod_right, Nat.mod_eq_of_lt (by omega)]
theorem fInvR {a : Nat} (ha : a < rB) (w : World) : Calls Tryd.prog 59 #[.agg (cel [rB] ++ ([Value.int .u64 18446744069414584319] ++ cel [sqR])).toArray, N a] w fun e w' => e = .returned (N (a ^ (rB - 2) % rB)) ∧ Below w.heap.size w w' := by
  have hs := fun w => sub_ref rB 2 rB_lt (small_big 2 (by decide)) w
  rw [subr2] at hs
  exact finv_gen (fl := 18446744069414584319) rfl hs (fun w => fPowR ha w) w
set_option maxRecDepth 100000 in
theorem dField0 (w : World) :
    Calls Tryd.prog 58 #[.int .i64 0] w fun e w' => e = .returned (.agg (cel [rB] ++ ([Value.int .u64 18446744069414584319] ++ cel [sqR])).toArray) ∧ Below w.heap.size w w' := by
  have H0 : Hid (_ ∧ _) := ⟨Mm.nil w, Below.refl w.heap.size w⟩
  go_enter Tryd.func58, Tryd.ntmps58
  refine wp_seq ?_
  refine walk_seqA 1 [.made (cel [0] ++ ([Value.int .u64 0] ++ cel [0])) 81] (sB H0) ?ho1 ?he1
  case ho1 => exact ak (fun γ => ⟨rfl, fun w' => ex_made81 rfl⟩) trivial
  intro γ w1 l hM hl
  have H1 : Hid (Mm w1 [(γ 0, cel [0] ++ ([Value.int .u64 0] ++ cel [0]))] ∧ _) := growB H0 hM (Nat.le_refl _) hl [0] rfl (by decide)
  have o1_0 := ownB H0 hM (Nat.le_refl _) hl (i := 0) rfl
  clear hM hl l
  generalize γ 0 = γ1_0 at H1 o1_0 ⊢
  clear γ
  refine rest0 rfl (then_normal (wp_seq (wp_seq ?_)))
  refine walk_seqB 2 [.quiet (.int .i64 0), .quiet (.bool true)] H1 ?ho2 ?he2
  case ho2 => exact ak (fun _ => ⟨rfl, fun _ _ => rfl⟩) (ak (by refine fun γ => ⟨rfl, fun w' h => ?_⟩; clear h; go_simp) trivial)
  intro _ w2 H2
  clear H1
  refine rest0 rfl (then_normal (wp_cond_true rfl (wp_seq ?_)))
  refine walk_seqB 1 [.call (.agg (cel [rB] ++ ([Value.int .u64 18446744069414584319] ++ cel [sqR])).toArray)] H2 ?ho3 ?he3
  case ho3 => exact ak (fun γ => ⟨rfl, fun w' h => ⟨83, #[], exec_call rfl call83 rfl (mpn rfl), dR_any w'⟩⟩) trivial
  intro _ w3 H3
  clear H2
  refine rest_at (l := [1]) rfl ?_
  refine rest_store rfl rfl rfl (ex_storeT (vs := cel [rB] ++ ([Value.int .u64 18446744069414584319] ++ cel [sqR])) H3.out.1 0 rfl rfl rfl rfl Tryd.sizeOf81 rfl (Nat.le_of_ble_eq_true rfl)) ?_
  have H4 : Hid (Mm (w3.setCells γ1_0 0 (cel [rB] ++ ([Value.int .u64 18446744069414584319] ++ cel [sqR]))) [(γ1_0, cel [rB] ++ ([Value.int .u64 18446744069414584319] ++ cel [sqR]))] ∧ Below w.heap.size w (w3.setCells γ1_0 0 (cel [rB] ++ ([Value.int .u64 18446744069414584319] ++ cel [sqR])))) := ⟨H3.out.1.put 0 (off := 0) (vs := cel [rB] ++ ([Value.int .u64 18446744069414584319] ++ cel [sqR])) rfl (Nat.le_of_ble_eq_true rfl), below_setCells _ o1_0.out _ _ _ H3.out.2⟩
  clear H3
  generalize hgw : World.setCells _ _ _ _ = w4 at H4 ⊢
  clear hgw
  refine rest_nil (then_normal (wp_ret ?_))
  repeat (first | refine then_ret ?_ | refine block_ret ?_)
  have hf0 := var_T H4.out.1 0 rfl Tryd.isAgg81 Tryd.sizeOf81 rfl
  refine bodyPost_ret (v := .agg (cel [rB] ++ ([Value.int .u64 18446744069414584319] ++ cel [sqR])).toArray) (by simp [results, Tryd.results58, asAddr, hf0]) rfl ?_
  exact ⟨rfl, H4.out.2⟩
set_option maxRecDepth 100000 in
theorem dOrd0 (w : World) :
    Calls Tryd.prog 29 #[.int .i64 0] w fun e w' => e = .returned (N rB) ∧ Below w.heap.size w w' := by
  have H0 : Hid (_ ∧ _) := ⟨Mm.nil w, Below.refl w.heap.size w⟩
  go_enter Tryd.func29, Tryd.ntmps29
  refine wp_seq ?_
  refine walk_seqA 1 [.made zero6 24] (sB H0) ?ho1 ?he1
  case ho1 => exact ak (fun γ => ⟨rfl, fun w' => exec_made6 rfl⟩) trivial
  intro γ w1 l hM hl
  have H1 : Hid (Mm w1 [(γ 0, zero6)] ∧ _) := growB H0 hM (Nat.le_refl _) hl [0] rfl (by decide)
  have o1_0 := ownB H0 hM (Nat.le_refl _) hl (i := 0) rfl
  clear hM hl l
  generalize γ 0 = γ1_0 at H1 o1_0 ⊢
  clear γ
  refine rest0 rfl (then_normal (wp_seq (wp_seq ?_)))
  refine walk_seqB 2 [.quiet (.int .i64 0), .quiet (.bool true)] H1 ?ho2 ?he2
  case ho2 => exact ak (fun _ => ⟨rfl, fun _ _ => rfl⟩) (ak (by refine fun γ => ⟨rfl, fun w' h => ?_⟩; clear h; go_simp) trivial)
  intro _ w2 H2
  clear H1
  refine rest0 rfl (then_normal (wp_cond_true rfl (wp_seq ?_)))
  refine walk_seqB 1 [.call (N rB)] H2 ?ho3 ?he3
  case ho3 => exact ak (fun γ => ⟨rfl, fun w' h => ⟨55, #[], exec_call rfl call55 rfl (mpn rfl), dOrder_rB w'⟩⟩) trivial
  intro _ w3 H3
  clear H2
  refine rest_at (l := [1]) rfl ?_
  refine rest_store rfl rfl rfl (ex_store6 H3.out.1 0 rfl rfl rfl rfl (Nat.le_of_ble_eq_true rfl)) ?_
  have H4 : Hid (Mm (w3.setCells γ1_0 0 (cells6 rB)) [(γ1_0, cells6 rB)] ∧ Below w.heap.size w (w3.setCells γ1_0 0 (cells6 rB))) := ⟨H3.out.1.put 0 (off := 0) (vs := cells6 rB) rfl (Nat.le_of_ble_eq_true rfl), below_setCells _ o1_0.out _ _ _ H3.out.2⟩
  clear H3
  generalize hgw : World.setCells _ _ _ _ = w4 at H4 ⊢
  clear hgw
  refine rest_nil (then_normal (wp_ret ?_))
  repeat (first | refine then_ret ?_ | refine block_ret ?_)
  have c0 := H4.out.1.get 0 rfl 0 rfl
  have c1 := H4.out.1.get 0 rfl 1 rfl
  have c2 := H4.out.1.get 0 rfl 2 rfl
  have c3 := H4.out.1.get 0 rfl 3 rfl
  have c4 := H4.out.1.get 0 rfl 4 rfl
  have c5 := H4.out.1.get 0 rfl 5 rfl
  refine bodyPost_ret (v := N rB) (by simp [results, Tryd.results29, go_sem, *]) rfl ?_
  exact ⟨rfl, H4.out.2⟩
set_option maxHeartbeats 1000000 in
set_option maxRecDepth 100000 in
theorem dAdd0 {a b : Nat} (ha : a < rB) (hb : b < rB) (w : World) :
    Calls Tryd.prog 32 #[.int .i64 0, N a, N b] w fun e w' => e = .returned (N ((a + b) % rB)) ∧ Below w.heap.size w w' := by
  have H0 : Hid (_ ∧ _) := ⟨Mm.nil w, Below.refl w.heap.size w⟩
  go_enter Tryd.func32, Tryd.ntmps32
  refine wp_seq ?_
  refine walk_seqA 3 [.made (cells6 a) 24, .made (cells6 b) 24, .made zero6 24] (sB H0) ?ho1 ?he1
  case ho1 => exact ak (fun γ => ⟨rfl, fun w' => ex_box6 rfl rfl⟩) (ak (fun γ => ⟨rfl, fun w' => ex_box6 rfl rfl⟩) (ak (fun γ => ⟨rfl, fun w' => exec_made6 rfl⟩) trivial))
  intro γ w1 l hM hl
  have H1 : Hid (Mm w1 [(γ 0, cells6 a), (γ 1, cells6 b), (γ 2, zero6)] ∧ _) := growB H0 hM (Nat.le_refl _) hl [0, 1, 2] rfl (by decide)
  have o1_0 := ownB H0 hM (Nat.le_refl _) hl (i := 0) rfl
  have o1_1 := ownB H0 hM (Nat.le_refl _) hl (i := 1) rfl
  have o1_2 := ownB H0 hM (Nat.le_refl _) hl (i := 2) rfl
  clear hM hl l
  generalize γ 0 = γ1_0 at H1 o1_0 ⊢
  generalize γ 1 = γ1_1 at H1 o1_1 ⊢
  generalize γ 2 = γ1_2 at H1 o1_2 ⊢
  clear γ
  refine rest0 rfl (then_normal (wp_seq (wp_seq ?_)))
  refine walk_seqB 2 [.quiet (.int .i64 0), .quiet (.bool true)] H1 ?ho2 ?he2
  case ho2 => exact ak (fun _ => ⟨rfl, fun _ _ => rfl⟩) (ak (by refine fun γ => ⟨rfl, fun w' h => ?_⟩; clear h; go_simp) trivial)
  intro _ w2 H2
  clear H1
  refine rest0 rfl (then_normal (wp_cond_true rfl (wp_seq ?_)))
  refine walk_anyB 5 [.quiet (.int .i64 0), .call (.agg (cel [rB] ++ ([Value.int .u64 18446744069414584319] ++ cel [sqR])).toArray), .quiet (N a), .quiet (N b), .call (N ((a + b) % rB))] H2 ?ho3 ?he3
  case ho3 => exact ak (fun _ => ⟨rfl, fun _ _ => rfl⟩) (ak (fun γ => ⟨rfl, fun w' h => ⟨58, #[.int .i64 0], exec_call rfl call58 rfl (mpn rfl), dField0 w'⟩⟩) (ak (fun γ => ⟨rfl, fun w' h => ex_load6 h 0 rfl rfl rfl rfl⟩) (ak (fun γ => ⟨rfl, fun w' h => ex_load6 h 1 rfl rfl rfl rfl⟩) (ak (fun γ => ⟨rfl, fun w' h => ⟨61, #[.agg (cel [rB] ++ ([Value.int .u64 18446744069414584319] ++ cel [sqR])).toArray, N a, N b], exec_call rfl call61 rfl (mpn rfl), fAddR ha hb w'⟩⟩) trivial))))
  intro _ w3 H3
  clear H2
  refine rest_at (l := [5]) rfl ?_
  refine rest_store rfl rfl rfl (ex_store6 H3.out.1 2 rfl rfl rfl rfl (Nat.le_of_ble_eq_true rfl)) ?_
  have H4 : Hid (Mm (w3.setCells γ1_2 0 (cells6 ((a + b) % rB))) [(γ1_0, cells6 a), (γ1_1, cells6 b), (γ1_2, cells6 ((a + b) % rB))] ∧ Below w.heap.size w (w3.setCells γ1_2 0 (cells6 ((a + b) % rB)))) := ⟨H3.out.1.put 2 (off := 0) (vs := cells6 ((a + b) % rB)) rfl (Nat.le_of_ble_eq_true rfl), below_setCells _ o1_2.out _ _ _ H3.out.2⟩
  clear H3
  generalize hgw : World.setCells _ _ _ _ = w4 at H4 ⊢
  clear hgw
  refine rest_nil (then_normal (wp_ret ?_))
  repeat (first | refine then_ret ?_ | refine block_ret ?_)
  have c0 := H4.out.1.get 2 rfl 0 rfl
  have c1 := H4.out.1.get 2 rfl 1 rfl
  have c2 := H4.out.1.get 2 rfl 2 rfl
  have c3 := H4.out.1.get 2 rfl 3 rfl
  have c4 := H4.out.1.get 2 rfl 4 rfl
  have c5 := H4.out.1.get 2 rfl 5 rfl
  refine bodyPost_ret (v := N ((a + b) % rB)) (by simp [results, Tryd.results32, go_sem, *]) rfl ?_
  exact ⟨rfl, H4.out.2⟩
set_option maxHeartbeats 1000000 in
set_option maxRecDepth 100000 in
theorem dMul0 {a b : Nat} (ha : a < rB) (hb : b < rB) (w : World) :
    Calls Tryd.prog 34 #[.int .i64 0, N a, N b] w fun e w' => e = .returned (N (a * b % rB)) ∧ Below w.heap.size w w' := by
  have H0 : Hid (_ ∧ _) := ⟨Mm.nil w, Below.refl w.heap.size w⟩
  go_enter Tryd.func34, Tryd.ntmps34
  refine wp_seq ?_
  refine walk_seqA 3 [.made (cells6 a) 24, .made (cells6 b) 24, .made zero6 24] (sB H0) ?ho1 ?he1
  case ho1 => exact ak (fun γ => ⟨rfl, fun w' => ex_box6 rfl rfl⟩) (ak (fun γ => ⟨rfl, fun w' => ex_box6 rfl rfl⟩) (ak (fun γ => ⟨rfl, fun w' => exec_made6 rfl⟩) trivial))
  intro γ w1 l hM hl
  have H1 : Hid (Mm w1 [(γ 0, cells6 a), (γ 1, cells6 b), (γ 2, zero6)] ∧ _) := growB H0 hM (Nat.le_refl _) hl [0, 1, 2] rfl (by decide)
  have o1_0 := ownB H0 hM (Nat.le_refl _) hl (i := 0) rfl
  have o1_1 := ownB H0 hM (Nat.le_refl _) hl (i := 1) rfl
  have o1_2 := ownB H0 hM (Nat.le_refl _) hl (i := 2) rfl
  clear hM hl l
  generalize γ 0 = γ1_0 at H1 o1_0 ⊢
  generalize γ 1 = γ1_1 at H1 o1_1 ⊢
  generalize γ 2 = γ1_2 at H1 o1_2 ⊢
  clear γ
  refine rest0 rfl (then_normal (wp_seq (wp_seq ?_)))
  refine walk_seqB 2 [.quiet (.int .i64 0), .quiet (.bool true)] H1 ?ho2 ?he2
  case ho2 => exact ak (fun _ => ⟨rfl, fun _ _ => rfl⟩) (ak (by refine fun γ => ⟨rfl, fun w' h => ?_⟩; clear h; go_simp) trivial)
  intro _ w2 H2
  clear H1
  refine rest0 rfl (then_normal (wp_cond_true rfl (wp_seq ?_)))
  refine walk_anyB 5 [.quiet (.int .i64 0), .call (.agg (cel [rB] ++ ([Value.int .u64 18446744069414584319] ++ cel [sqR])).toArray), .quiet (N a), .quiet (N b), .call (N (a * b % rB))] H2 ?ho3 ?he3
  case ho3 => exact ak (fun _ => ⟨rfl, fun _ _ => rfl⟩) (ak (fun γ => ⟨rfl, fun w' h => ⟨58, #[.int .i64 0], exec_call rfl call58 rfl (mpn rfl), dField0 w'⟩⟩) (ak (fun γ => ⟨rfl, fun w' h => ex_load6 h 0 rfl rfl rfl rfl⟩) (ak (fun γ => ⟨rfl, fun w' h => ex_load6 h 1 rfl rfl rfl rfl⟩) (ak (fun γ => ⟨rfl, fun w' h => ⟨62, #[.agg (cel [rB] ++ ([Value.int .u64 18446744069414584319] ++ cel [sqR])).toArray, N a, N b], exec_call rfl call62 rfl (mpn rfl), fMulR ha hb w'⟩⟩) trivial))))
  intro _ w3 H3
  clear H2
  refine rest_at (l := [5]) rfl ?_
  refine rest_store rfl rfl rfl (ex_store6 H3.out.1 2 rfl rfl rfl rfl (Nat.le_of_ble_eq_true rfl)) ?_
  have H4 : Hid (Mm (w3.setCells γ1_2 0 (cells6 (a * b % rB))) [(γ1_0, cells6 a), (γ1_1, cells6 b), (γ1_2, cells6 (a * b % rB))] ∧ Below w.heap.size w (w3.setCells γ1_2 0 (cells6 (a * b % rB)))) := ⟨H3.out.1.put 2 (off := 0) (vs := cells6 (a * b % rB)) rfl (Nat.le_of_ble_eq_true rfl), below_setCells _ o1_2.out _ _ _ H3.out.2⟩
  clear H3
  generalize hgw : World.setCells _ _ _ _ = w4 at H4 ⊢
  clear hgw
  refine rest_nil (then_normal (wp_ret ?_))
  repeat (first | refine then_ret ?_ | refine block_ret ?_)
  have c0 := H4.out.1.get 2 rfl 0 rfl
  have c1 := H4.out.1.get 2 rfl 1 rfl
  have c2 := H4.out.1.get 2 rfl 2 rfl
  have c3 := H4.out.1.get 2 rfl 3 rfl
  have c4 := H4.out.1.get 2 rfl 4 rfl
  have c5 := H4.out.1.get 2 rfl 5 rfl
  refine bodyPost_ret (v := N (a * b % rB)) (by simp [results, Tryd.results34, go_sem, *]) rfl ?_
  exact ⟨rfl, H4.out.2⟩
set_option maxHeartbeats 1000000 in
set_option maxRecDepth 100000 in
theorem dInv0 {a : Nat} (ha : a < rB) (w : World) :
    Calls Tryd.prog 31 #[.int .i64 0, N a] w fun e w' => e = .returned (N (a ^ (rB - 2) % rB)) ∧ Below w.heap.size w w' := by
  have H0 : Hid (_ ∧ _) := ⟨Mm.nil w, Below.refl w.heap.size w⟩
  go_enter Tryd.func31, Tryd.ntmps31
  refine wp_seq ?_
  refine walk_seqA 2 [.made (cells6 a) 24, .made zero6 24] (sB H0) ?ho1 ?he1
  case ho1 => exact ak (fun γ => ⟨rfl, fun w' => ex_box6 rfl rfl⟩) (ak (fun γ => ⟨rfl, fun w' => exec_made6 rfl⟩) trivial)
  intro γ w1 l hM hl
  have H1 : Hid (Mm w1 [(γ 0, cells6 a), (γ 1, zero6)] ∧ _) := growB H0 hM (Nat.le_refl _) hl [0, 1] rfl (by decide)
  have o1_0 := ownB H0 hM (Nat.le_refl _) hl (i := 0) rfl
  have o1_1 := ownB H0 hM (Nat.le_refl _) hl (i := 1) rfl
  clear hM hl l
  generalize γ 0 = γ1_0 at H1 o1_0 ⊢
  generalize γ 1 = γ1_1 at H1 o1_1 ⊢
  clear γ
  refine rest0 rfl (then_normal (wp_seq (wp_seq ?_)))
  refine walk_seqB 2 [.quiet (.int .i64 0), .quiet (.bool true)] H1 ?ho2 ?he2
  case ho2 => exact ak (fun _ => ⟨rfl, fun _ _ => rfl⟩) (ak (by refine fun γ => ⟨rfl, fun w' h => ?_⟩; clear h; go_simp) trivial)
  intro _ w2 H2
  clear H1
  refine rest0 rfl (then_normal (wp_cond_true rfl (wp_seq ?_)))
  refine walk_anyB 4 [.quiet (.int .i64 0), .call (.agg (cel [rB] ++ ([Value.int .u64 18446744069414584319] ++ cel [sqR])).toArray), .quiet (N a), .call (N (a ^ (rB - 2) % rB))] H2 ?ho3 ?he3
  case ho3 => exact ak (fun _ => ⟨rfl, fun _ _ => rfl⟩) (ak (fun γ => ⟨rfl, fun w' h => ⟨58, #[.int .i64 0], exec_call rfl call58 rfl (mpn rfl), dField0 w'⟩⟩) (ak (fun γ => ⟨rfl, fun w' h => ex_load6 h 0 rfl rfl rfl rfl⟩) (ak (fun γ => ⟨rfl, fun w' h => ⟨59, #[.agg (cel [rB] ++ ([Value.int .u64 18446744069414584319] ++ cel [sqR])).toArray, N a], exec_call rfl call59 rfl (mpn rfl), fInvR ha w'⟩⟩) trivial)))
  intro _ w3 H3
  clear H2
  refine rest_at (l := [4]) rfl ?_
  refine rest_store rfl rfl rfl (ex_store6 H3.out.1 1 rfl rfl rfl rfl (Nat.le_of_ble_eq_true rfl)) ?_
  have H4 : Hid (Mm (w3.setCells γ1_1 0 (cells6 (a ^ (rB - 2) % rB))) [(γ1_0, cells6 a), (γ1_1, cells6 (a ^ (rB - 2) % rB))] ∧ Below w.heap.size w (w3.setCells γ1_1 0 (cells6 (a ^ (rB - 2) % rB)))) := ⟨H3.out.1.put 1 (off := 0) (vs := cells6 (a ^ (rB - 2) % rB)) rfl (Nat.le_of_ble_eq_true rfl), below_setCells _ o1_1.out _ _ _ H3.out.2⟩
  clear H3
  generalize hgw : World.setCells _ _ _ _ = w4 at H4 ⊢
  clear hgw
  refine rest_nil (then_normal (wp_ret ?_))
  repeat (first | refine then_ret ?_ | refine block_ret ?_)
  have c0 := H4.out.1.get 1 rfl 0 rfl
  have c1 := H4.out.1.get 1 rfl 1 rfl
  have c2 := H4.out.1.get 1 rfl 2 rfl
  have c3 := H4.out.1.get 1 rfl 3 rfl
  have c4 := H4.out.1.get 1 rfl 4 rfl
  have c5 := H4.out.1.get 1 rfl 5 rfl
  refine bodyPost_ret (v := N (a ^ (rB - 2) % rB)) (by simp [results, Tryd.results31, go_sem, *]) rfl ?_
  exact ⟨rfl, H4.out.2⟩
end Rg
end Go.Proofs.YtfnmahjdkmgdkaaDoor
end
section
namespace Go.Proofs.YtfnmahjdkmgdkaaDoor
open Go.RowKit
namespace Rg
namespace Lt
/-! The document's answers. -/
theorem mi_pl (p a b : Nat) (hb : b ≤ p) : pl p a (mi p 0 b) = mi p a b := by
  unfold pl mi
  rw [Nat.add_mod_mod]
  congr 1
  omega
abbrev P3 : Type := Nat × Nat × Bool
def sl1 (p X Y : Nat) : Nat := tm p (pl p (pl p (pl p (tm p X X) (tm p X X)) (tm p X X)) 1) (pw p (pl p Y Y) (p - 2))
def sl2 (p X Y X' Y' : Nat) : Nat := tm p (mi p Y' Y) (pw p (mi p X' X) (p - 2))
def dS (p : Nat) (a b : P3) : Nat := if a = b then sl1 p a.1 a.2.1 else sl2 p a.1 a.2.1 b.1 b.2.1
def d3X (p m X X' : Nat) : Nat := mi p (mi p (tm p m m) X) X'
def d3Y (p m X X' Y : Nat) : Nat := mi p (tm p m (mi p X (d3X p m X X'))) Y
def dA (p : Nat) (a b : P3) : P3 :=
  if a.2.2 = true then b else if b.2.2 = true then a else if a = (b.1, mi p 0 b.2.1, b.2.2) then (0, 0, true)
  else (d3X p (dS p a b) a.1 b.1, d3Y p (dS p a b) a.1 b.1 a.2.1, false)
def dmf (p : Nat) (a : P3) : Nat → Nat → P3
  | 0, _ => (0, 0, true)
  | f + 1, n => if n = 0 then (0, 0, true) else if n % 2 = 1 then dA p (dA p (dmf p a f (n / 2)) (dmf p a f (n / 2))) a else dA p (dmf p a f (n / 2)) (dmf p a f (n / 2))
def dM (p : Nat) (a : P3) (n : Nat) : P3 := dmf p a 64 n
structure LtP (p : Nat) (a : P3) : Prop where
  x : a.1 < p
  y : a.2.1 < p
section
variable {p r c gx gy : Nat}
set_option maxRecDepth 100000 in
theorem Of_1  (w : World) :
    Calls Tryd.prog 56 #[.int .i64 1] w fun e w' => e = .returned (.tuple #[V (kd 786251 65521 12 9723 164643), .bool true]) ∧ Below w.heap.size w w' := by
  have H0 : Hid (_ ∧ _) := ⟨Mm.nil w, Below.refl w.heap.size w⟩
  go_enter Tryd.func56, Tryd.ntmps56
  refine wp_seq ?_
  refine walk_seqA 2 [.made (kd 0 0 0 0 0) 77, .quiet (.bool false)] (sB H0) ?ho1 ?he1
  case ho1 => exact ak (fun γ => ⟨rfl, fun w' => ex_made27 rfl⟩) (ak (fun _ => ⟨rfl, fun _ _ => rfl⟩) trivial)
  intro γ w1 l hM hl
  have H1 : Hid (Mm w1 [(γ 0, kd 0 0 0 0 0)] ∧ _) := growB H0 hM (Nat.le_refl _) hl [0] rfl (by decide)
  have o1_0 := ownB H0 hM (Nat.le_refl _) hl (i := 0) rfl
  clear hM hl l
  generalize γ 0 = γ1_0 at H1 o1_0 ⊢
  clear γ
  refine rest0 rfl (then_normal (wp_seq (wp_seq ?_)))
  refine walk_seqB 1 [.quiet (.int .i64 1)] H1 ?ho2 ?he2
  case ho2 => exact ak (fun _ => ⟨rfl, fun _ _ => rfl⟩) trivial
  intro _ w2 H2
  clear H1
  refine rest0 rfl (then_normal (wp_block (wp_seq ?_)))
  refine walk_seqB 2 [.quiet (.bool true), .quiet (.bool true)] H2 ?ho3 ?he3
  case ho3 => exact ak (by refine fun γ => ⟨rfl, fun w' h => ?_⟩; clear h; go_simp) (ak (fun _ => ⟨rfl, fun _ _ => rfl⟩) trivial)
  intro _ w3 H3
  clear H2
  refine rest0 rfl (then_normal (wp_cond_true rfl (wp_seq ?_)))
  refine walk_seqB 2 [.quiet (.agg (pt 9723 164643 false).toArray), .quiet (.agg (kd 786251 65521 12 9723 164643).toArray)] H3 ?ho4 ?he4
  case ho4 => exact ak (fun γ => ⟨rfl, fun w' _ => ex_build25_01 rfl rfl rfl⟩) (ak (fun γ => ⟨rfl, fun w' _ => ex_build27_0123 rfl rfl rfl rfl rfl⟩) trivial)
  intro _ w4 H4
  clear H3
  refine rest_at (l := [2, 3]) rfl ?_
  refine rest_store rfl rfl rfl (ex_storeT (vs := kd 786251 65521 12 9723 164643) H4.out.1 0 rfl rfl rfl rfl Tryd.sizeOf77 rfl (Nat.le_of_ble_eq_true rfl)) ?_
  have H5 : Hid (Mm (w4.setCells γ1_0 0 (kd 786251 65521 12 9723 164643)) [(γ1_0, kd 786251 65521 12 9723 164643)] ∧ Below w.heap.size w (w4.setCells γ1_0 0 (kd 786251 65521 12 9723 164643))) := ⟨H4.out.1.put 0 (off := 0) (vs := kd 786251 65521 12 9723 164643) rfl (Nat.le_of_ble_eq_true rfl), below_setCells _ o1_0.out _ _ _ H4.out.2⟩
  clear H4
  generalize hgw : World.setCells _ _ _ _ = w5 at H5 ⊢
  clear hgw
  refine rest_set (d := 3) rfl rfl rfl rfl ?_
  simp only [Act.put, sa, sz, ss]
  refine rest_nil (then_normal (wp_ret ?_))
  repeat (first | refine then_ret ?_ | refine block_ret ?_)
  have hf0 := var_T H5.out.1 0 rfl Tryd.isAgg77 Tryd.sizeOf77 rfl
  refine bodyPost_ret (v := .tuple #[.agg (kd 786251 65521 12 9723 164643).toArray, .bool true]) (by simp [results, Tryd.results56, asAddr, Act.eval, hf0]) rfl ?_
  exact ⟨rfl, H5.out.2⟩
set_option maxRecDepth 100000 in
theorem Of_2  (w : World) :
    Calls Tryd.prog 56 #[.int .i64 2] w fun e w' => e = .returned (.tuple #[V (kd 1152921504606846223 72057594037927889 16 613740293506734924 666621259561003659), .bool true]) ∧ Below w.heap.size w w' := by
  have H0 : Hid (_ ∧ _) := ⟨Mm.nil w, Below.refl w.heap.size w⟩
  go_enter Tryd.func56, Tryd.ntmps56
  refine wp_seq ?_
  refine walk_seqA 2 [.made (kd 0 0 0 0 0) 77, .quiet (.bool false)] (sB H0) ?ho1 ?he1
  case ho1 => exact ak (fun γ => ⟨rfl, fun w' => ex_made27 rfl⟩) (ak (fun _ => ⟨rfl, fun _ _ => rfl⟩) trivial)
  intro γ w1 l hM hl
  have H1 : Hid (Mm w1 [(γ 0, kd 0 0 0 0 0)] ∧ _) := growB H0 hM (Nat.le_refl _) hl [0] rfl (by decide)
  have o1_0 := ownB H0 hM (Nat.le_refl _) hl (i := 0) rfl
  clear hM hl l
  generalize γ 0 = γ1_0 at H1 o1_0 ⊢
  clear γ
  refine rest0 rfl (then_normal (wp_seq (wp_seq ?_)))
  refine walk_seqB 1 [.quiet (.int .i64 2)] H1 ?ho2 ?he2
  case ho2 => exact ak (fun _ => ⟨rfl, fun _ _ => rfl⟩) trivial
  intro _ w2 H2
  clear H1
  refine rest0 rfl (then_normal (wp_block (wp_seq ?_)))
  refine walk_seqB 2 [.quiet (.bool false), .quiet (.bool false)] H2 ?ho3 ?he3
  case ho3 => exact ak (by refine fun γ => ⟨rfl, fun w' h => ?_⟩; clear h; go_simp) (ak (fun _ => ⟨rfl, fun _ _ => rfl⟩) trivial)
  intro _ w3 H3
  clear H2
  refine rest0 rfl (then_normal (wp_cond_false rfl (wp_seq ?_)))
  refine walk_seqB 2 [.quiet (.bool true), .quiet (.bool true)] H3 ?ho4 ?he4
  case ho4 => exact ak (by refine fun γ => ⟨rfl, fun w' h => ?_⟩; clear h; go_simp) (ak (fun _ => ⟨rfl, fun _ _ => rfl⟩) trivial)
  intro _ w4 H4
  clear H3
  refine rest0 rfl (then_normal (wp_cond_true rfl (wp_seq ?_)))
  refine walk_seqB 2 [.quiet (.agg (pt 613740293506734924 666621259561003659 false).toArray), .quiet (.agg (kd 1152921504606846223 72057594037927889 16 613740293506734924 666621259561003659).toArray)] H4 ?ho5 ?he5
  case ho5 => exact ak (fun γ => ⟨rfl, fun w' _ => ex_build25_01 rfl rfl rfl⟩) (ak (fun γ => ⟨rfl, fun w' _ => ex_build27_0123 rfl rfl rfl rfl rfl⟩) trivial)
  intro _ w5 H5
  clear H4
  refine rest_at (l := [2, 3]) rfl ?_
  refine rest_store rfl rfl rfl (ex_storeT (vs := kd 1152921504606846223 72057594037927889 16 613740293506734924 666621259561003659) H5.out.1 0 rfl rfl rfl rfl Tryd.sizeOf77 rfl (Nat.le_of_ble_eq_true rfl)) ?_
  have H6 : Hid (Mm (w5.setCells γ1_0 0 (kd 1152921504606846223 72057594037927889 16 613740293506734924 666621259561003659)) [(γ1_0, kd 1152921504606846223 72057594037927889 16 613740293506734924 666621259561003659)] ∧ Below w.heap.size w (w5.setCells γ1_0 0 (kd 1152921504606846223 72057594037927889 16 613740293506734924 666621259561003659))) := ⟨H5.out.1.put 0 (off := 0) (vs := kd 1152921504606846223 72057594037927889 16 613740293506734924 666621259561003659) rfl (Nat.le_of_ble_eq_true rfl), below_setCells _ o1_0.out _ _ _ H5.out.2⟩
  clear H5
  generalize hgw : World.setCells _ _ _ _ = w6 at H6 ⊢
  clear hgw
  refine rest_set (d := 3) rfl rfl rfl rfl ?_
  simp only [Act.put, sa, sz, ss]
  refine rest_nil (then_normal (wp_ret ?_))
  repeat (first | refine then_ret ?_ | refine block_ret ?_)
  have hf0 := var_T H6.out.1 0 rfl Tryd.isAgg77 Tryd.sizeOf77 rfl
  refine bodyPost_ret (v := .tuple #[.agg (kd 1152921504606846223 72057594037927889 16 613740293506734924 666621259561003659).toArray, .bool true]) (by simp [results, Tryd.results56, asAddr, Act.eval, hf0]) rfl ?_
  exact ⟨rfl, H6.out.2⟩
set_option maxRecDepth 100000 in
theorem dadd_any (hp : Pr p) (a b : Nat) (ha : a < p) (hb : b < p) (w : World) :
    Calls Tryd.prog 105 #[.agg (kd p r c gx gy).toArray, U a, U b] w fun e w' => e = .returned (U (pl p a b)) ∧ Below w.heap.size w w' := by
  have H0 : Hid (_ ∧ _) := ⟨Mm.nil w, Below.refl w.heap.size w⟩
  go_enter Tryd.func105, Tryd.ntmps105
  refine wp_seq ?_
  refine walk_seqA 2 [.made (kd p r c gx gy) 77, .quiet (U 0)] (sB H0) ?ho1 ?he1
  case ho1 => exact ak (fun γ => ⟨rfl, fun w' => ex_boxT rfl rfl⟩) (ak (fun _ => ⟨rfl, fun _ _ => rfl⟩) trivial)
  intro γ w1 l hM hl
  have H1 : Hid (Mm w1 [(γ 0, kd p r c gx gy)] ∧ _) := growB H0 hM (Nat.le_refl _) hl [0] rfl (by decide)
  have o1_0 := ownB H0 hM (Nat.le_refl _) hl (i := 0) rfl
  clear hM hl l
  generalize γ 0 = γ1_0 at H1 o1_0 ⊢
  clear γ
  refine rest0 rfl (then_normal (wp_seq ?_))
  refine walk_seqB 7 [.quiet (U a), .quiet (U b), .quiet (U (a + b)), .quiet (PT γ1_0 0), .quiet (U p), .quiet (U ((a + b) % p)), .quiet (U ((a + b) % p))] H1 ?ho2 ?he2
  case ho2 => exact ak (fun _ => ⟨rfl, fun _ _ => rfl⟩) (ak (fun _ => ⟨rfl, fun _ _ => rfl⟩) (ak (fun γ => ⟨rfl, fun w' _ => ex_addU (by have := hp.hi; omega) rfl rfl rfl⟩) (ak (by refine fun γ => ⟨rfl, fun w' h => ?_⟩; clear h; go_simp) (ak (fun γ => ⟨rfl, fun w' h => ex_loadC h 0 rfl rfl rfl Tryd.isAgg22 rfl⟩) (ak (fun γ => ⟨rfl, fun w' _ => ex_remU (Nat.ne_of_gt (zero_lt hp)) rfl rfl rfl⟩) (ak (fun _ => ⟨rfl, fun _ _ => rfl⟩) trivial))))))
  intro _ w2 H2
  clear H1
  refine rest0 rfl (then_normal (wp_ret ?_))
  repeat (first | refine then_ret ?_ | refine block_ret ?_)
  refine bodyPost_ret (v := U ((a + b) % p)) (by simp [results, Tryd.results105, go_sem, *]) rfl ?_
  exact ⟨rfl, H2.out.2⟩
set_option maxRecDepth 100000 in
theorem dneg_raw (hp : Pr p) (a : Nat) (ha : a < p) (w : World) :
    Calls Tryd.prog 121 #[.agg (kd p r c gx gy).toArray, U a] w fun e w' => e = .returned (U ((p - a) % p)) ∧ Below w.heap.size w w' := by
  have H0 : Hid (_ ∧ _) := ⟨Mm.nil w, Below.refl w.heap.size w⟩
  go_enter Tryd.func121, Tryd.ntmps121
  refine wp_seq ?_
  refine walk_seqA 2 [.made (kd p r c gx gy) 77, .quiet (U 0)] (sB H0) ?ho1 ?he1
  case ho1 => exact ak (fun γ => ⟨rfl, fun w' => ex_boxT rfl rfl⟩) (ak (fun _ => ⟨rfl, fun _ _ => rfl⟩) trivial)
  intro γ w1 l hM hl
  have H1 : Hid (Mm w1 [(γ 0, kd p r c gx gy)] ∧ _) := growB H0 hM (Nat.le_refl _) hl [0] rfl (by decide)
  have o1_0 := ownB H0 hM (Nat.le_refl _) hl (i := 0) rfl
  clear hM hl l
  generalize γ 0 = γ1_0 at H1 o1_0 ⊢
  clear γ
  refine rest0 rfl (then_normal (wp_seq ?_))
  refine walk_seqB 8 [.quiet (PT γ1_0 0), .quiet (U p), .quiet (U a), .quiet (U (p - a)), .quiet (PT γ1_0 0), .quiet (U p), .quiet (U ((p - a) % p)), .quiet (U ((p - a) % p))] H1 ?ho2 ?he2
  case ho2 => exact ak (by refine fun γ => ⟨rfl, fun w' h => ?_⟩; clear h; go_simp) (ak (fun γ => ⟨rfl, fun w' h => ex_loadC h 0 rfl rfl rfl Tryd.isAgg22 rfl⟩) (ak (fun _ => ⟨rfl, fun _ _ => rfl⟩) (ak (fun γ => ⟨rfl, fun w' _ => ex_subU (Nat.le_of_lt ha) (by have := hp.hi; omega) rfl rfl rfl⟩) (ak (by refine fun γ => ⟨rfl, fun w' h => ?_⟩; clear h; go_simp) (ak (fun γ => ⟨rfl, fun w' h => ex_loadC h 0 rfl rfl rfl Tryd.isAgg22 rfl⟩) (ak (fun γ => ⟨rfl, fun w' _ => ex_remU (Nat.ne_of_gt (zero_lt hp)) rfl rfl rfl⟩) (ak (fun _ => ⟨rfl, fun _ _ => rfl⟩) trivial)))))))
  intro _ w2 H2
  clear H1
  refine rest0 rfl (then_normal (wp_ret ?_))
  repeat (first | refine then_ret ?_ | refine block_ret ?_)
  refine bodyPost_ret (v := U ((p - a) % p)) (by simp [results, Tryd.results121, go_sem, *]) rfl ?_
  exact ⟨rfl, H2.out.2⟩
theorem dneg_any (hp : Pr p) (a : Nat) (ha : a < p) (w : World) : Calls Tryd.prog 121 #[.agg (kd p r c gx gy).toArray, U a] w fun e w' => e = .returned (U (mi p 0 a)) ∧ Below w.heap.size w w' := by
  have h := dneg_raw (r := r) (c := c) (gx := gx) (gy := gy) hp a ha w
  unfold mi
  rw [Nat.zero_add]
  exact h
set_option maxRecDepth 100000 in
theorem dsub_raw (hp : Pr p) (a b : Nat) (ha : a < p) (hb : b < p) (w : World) :
    Calls Tryd.prog 103 #[.agg (kd p r c gx gy).toArray, U a, U b] w fun e w' => e = .returned (U (pl p a (mi p 0 b))) ∧ Below w.heap.size w w' := by
  have H0 : Hid (_ ∧ _) := ⟨Mm.nil w, Below.refl w.heap.size w⟩
  go_enter Tryd.func103, Tryd.ntmps103
  refine wp_seq ?_
  refine walk_seqA 2 [.made (kd p r c gx gy) 77, .quiet (U 0)] (sB H0) ?ho1 ?he1
  case ho1 => exact ak (fun γ => ⟨rfl, fun w' => ex_boxT rfl rfl⟩) (ak (fun _ => ⟨rfl, fun _ _ => rfl⟩) trivial)
  intro γ w1 l hM hl
  have H1 : Hid (Mm w1 [(γ 0, kd p r c gx gy)] ∧ _) := growB H0 hM (Nat.le_refl _) hl [0] rfl (by decide)
  have o1_0 := ownB H0 hM (Nat.le_refl _) hl (i := 0) rfl
  clear hM hl l
  generalize γ 0 = γ1_0 at H1 o1_0 ⊢
  clear γ
  refine rest0 rfl (then_normal (wp_seq ?_))
  refine walk_anyB 7 [.quiet (.agg (kd p r c gx gy).toArray), .quiet (U a), .quiet (.agg (kd p r c gx gy).toArray), .quiet (U b), .call (U (mi p 0 b)), .call (U (pl p a (mi p 0 b))), .quiet (U (pl p a (mi p 0 b)))] H1 ?ho2 ?he2
  case ho2 => exact ak (fun γ => ⟨rfl, fun w' h => ex_loadT h 0 rfl rfl rfl Tryd.isAgg77 Tryd.sizeOf77 rfl rfl⟩) (ak (fun _ => ⟨rfl, fun _ _ => rfl⟩) (ak (fun γ => ⟨rfl, fun w' h => ex_loadT h 0 rfl rfl rfl Tryd.isAgg77 Tryd.sizeOf77 rfl rfl⟩) (ak (fun _ => ⟨rfl, fun _ _ => rfl⟩) (ak (fun γ => ⟨rfl, fun w' h => ⟨121, #[.agg (kd p r c gx gy).toArray, U b], exec_call rfl call121 rfl (mpn rfl), dneg_any hp b hb w'⟩⟩) (ak (fun γ => ⟨rfl, fun w' h => ⟨105, #[.agg (kd p r c gx gy).toArray, U a, U (mi p 0 b)], exec_call rfl call105 rfl (mpn rfl), dadd_any hp a (mi p 0 b) ha (mi_lt hp) w'⟩⟩) (ak (fun _ => ⟨rfl, fun _ _ => rfl⟩) trivial))))))
  intro _ w2 H2
  clear H1
  refine rest0 rfl (then_normal (wp_ret ?_))
  repeat (first | refine then_ret ?_ | refine block_ret ?_)
  refine bodyPost_ret (v := U (pl p a (mi p 0 b))) (by simp [results, Tryd.results103, go_sem, *]) rfl ?_
  exact ⟨rfl, H2.out.2⟩
theorem dsub_any (hp : Pr p) (a b : Nat) (ha : a < p) (hb : b < p) (w : World) : Calls Tryd.prog 103 #[.agg (kd p r c gx gy).toArray, U a, U b] w fun e w' => e = .returned (U (mi p a b)) ∧ Below w.heap.size w w' := by
  have h := dsub_raw (r := r) (c := c) (gx := gx) (gy := gy) hp a b ha hb w
  rw [mi_pl p a b (Nat.le_of_lt hb)] at h
  exact h
set_option maxRecDepth 100000 in
theorem dmul_any (hp : Pr p) (a b : Nat) (ha : a < p) (hb : b < p) (w : World) :
    Calls Tryd.prog 104 #[.agg (kd p r c gx gy).toArray, U a, U b] w fun e w' => e = .returned (U (tm p a b)) ∧ Below w.heap.size w w' := by
  have H0 : Hid (_ ∧ _) := ⟨Mm.nil w, Below.refl w.heap.size w⟩
  go_enter Tryd.func104, Tryd.ntmps104
  refine wp_seq ?_
  refine walk_seqA 2 [.made (kd p r c gx gy) 77, .quiet (U 0)] (sB H0) ?ho1 ?he1
  case ho1 => exact ak (fun γ => ⟨rfl, fun w' => ex_boxT rfl rfl⟩) (ak (fun _ => ⟨rfl, fun _ _ => rfl⟩) trivial)
  intro γ w1 l hM hl
  have H1 : Hid (Mm w1 [(γ 0, kd p r c gx gy)] ∧ _) := growB H0 hM (Nat.le_refl _) hl [0] rfl (by decide)
  have o1_0 := ownB H0 hM (Nat.le_refl _) hl (i := 0) rfl
  clear hM hl l
  generalize γ 0 = γ1_0 at H1 o1_0 ⊢
  clear γ
  refine rest0 rfl (then_normal (wp_seq ?_))
  refine walk_seqB 8 [.quiet (U a), .quiet (U b), .call (.tuple #[U (a * b / 18446744073709551616), U (a * b % 18446744073709551616)]), .quiet (.tuple #[U (a * b / 18446744073709551616), U (a * b % 18446744073709551616)]), .quiet (U (a * b / 18446744073709551616)), .quiet (U (a * b % 18446744073709551616)), .quiet (U (a * b / 18446744073709551616)), .quiet (U (a * b % 18446744073709551616))] H1 ?ho2 ?he2
  case ho2 => exact ak (fun _ => ⟨rfl, fun _ _ => rfl⟩) (ak (fun _ => ⟨rfl, fun _ _ => rfl⟩) (ak (fun γ => ⟨rfl, fun w' h => ⟨68, #[U a, U b], exec_call rfl call68 rfl (mpn rfl), mul_in a b (by have := hp.hi; omega) (by have := hp.hi; omega) w'⟩⟩) (ak (fun _ => ⟨rfl, fun _ _ => rfl⟩) (ak (by refine fun γ => ⟨rfl, fun w' h => ?_⟩; clear h; go_simp) (ak (by refine fun γ => ⟨rfl, fun w' h => ?_⟩; clear h; go_simp) (ak (fun _ => ⟨rfl, fun _ _ => rfl⟩) (ak (fun _ => ⟨rfl, fun _ _ => rfl⟩) trivial)))))))
  intro _ w2 H2
  clear H1
  refine rest0 rfl (then_normal (wp_seq ?_))
  refine walk_seqB 6 [.quiet (U (a * b / 18446744073709551616)), .quiet (U (a * b % 18446744073709551616)), .quiet (PT γ1_0 0), .quiet (U p), .call (U (a * b % p)), .quiet (U (a * b % p))] H2 ?ho3 ?he3
  case ho3 => exact ak (fun _ => ⟨rfl, fun _ _ => rfl⟩) (ak (fun _ => ⟨rfl, fun _ _ => rfl⟩) (ak (by refine fun γ => ⟨rfl, fun w' h => ?_⟩; clear h; go_simp) (ak (fun γ => ⟨rfl, fun w' h => ex_loadC h 0 rfl rfl rfl Tryd.isAgg22 rfl⟩) (ak (fun γ => ⟨rfl, fun w' h => ⟨122, #[U (a * b / 18446744073709551616), U (a * b % 18446744073709551616), U p], exec_call rfl call122 rfl (mpn rfl), rem_in hp (a * b) w'⟩⟩) (ak (fun _ => ⟨rfl, fun _ _ => rfl⟩) trivial)))))
  intro _ w3 H3
  clear H2
  refine rest0 rfl (then_normal (wp_ret ?_))
  repeat (first | refine then_ret ?_ | refine block_ret ?_)
  refine bodyPost_ret (v := U (a * b % p)) (by simp [results, Tryd.results104, go_sem, *]) rfl ?_
  exact ⟨rfl, H3.out.2⟩
end
end Lt
end Rg
end Go.Proofs.YtfnmahjdkmgdkaaDoor
end
section
namespace Go.Proofs.YtfnmahjdkmgdkaaDoor
open Go.RowKit
namespace Rg
namespace Lt
set_option maxRecDepth 100000
theorem lt64 {r a : Nat} (hp : Pr r) (h : a < r) : a < 18446744073709551616 := by have := hp.hi; omega
theorem r64 {r : Nat} (hp : Pr r) : r < 18446744073709551616 := by have := hp.hi; omega
section
variable {ρ : Operand → Value} {o : Oper} {x y : Operand} {w : World}
theorem ex_loadW {g a : Nat} {l : List (Nat × List Value)} (ha : a < 18446744073709551616) (h : Mm w l) (k : Nat) (hk : l[k]? = some (g, cells6 a)) (ho : o.op = .load 22 x) (hx : ρ x = PT g 0) : (execOp ρ o).run Tryd.prog w = .ok (.value (U a)) w := by
  refine ex_load1 h k hk ho hx ?_
  show some (Value.int .u64 (wd a 0)) = _
  rw [wd_small0 a ha]
theorem ex_ixV {a : Nat} (ho : o.op = .index 24 x y) (hx : ρ x = N a) (hy : ρ y = .int .i64 0) : (execOp ρ o).run Tryd.prog w = .ok (.value (.int .u64 (wd a 0))) w := by
  simp only [execOp, ho, hx, hy]
  kernel_rfl
theorem ex_ixW {a : Nat} (ha : a < 18446744073709551616) (ho : o.op = .index 24 x y) (hx : ρ x = N a) (hy : ρ y = .int .i64 0) : (execOp ρ o).run Tryd.prog w = .ok (.value (U a)) w := by
  have h := ex_ixV (w := w) ho hx hy
  rw [wd_small0 a ha] at h
  exact h
theorem ex_ixL {a c : Nat} (ho : o.op = .index 111 x y) (hx : ρ x = .agg (l2 a c).toArray) (hy : ρ y = .int .i64 0) : (execOp ρ o).run Tryd.prog w = .ok (.value (U a)) w := by
  simp only [execOp, ho, hx, hy]
  kernel_rfl
theorem ex_build27_0 {a : Nat} (ho : o.op = .build 77 #[(0, x)]) (hx : ρ x = U a) : (execOp ρ o).run Tryd.prog w = .ok (.value (.agg (kd a 0 0 0 0).toArray)) w := by
  simp only [execOp, ho, List.map_toArray, List.map_cons, List.map_nil, hx]
  kernel_rfl
end
section
variable {p r c gx gy : Nat}
set_option maxHeartbeats 1000000 in
set_option maxRecDepth 100000 in
theorem dtimes_raw {r a b : Nat} (hp : Pr r) (ha : a < r) (hb : b < r) (w : World) :
    Calls Tryd.prog 86 #[.agg (kd r 0 0 0 0).toArray, .agg (l2 a 0).toArray, .agg (l2 b 0).toArray] w fun e w' => e = .returned (.agg (l2 (mi r (tm r a b) (tm r 0 0)) (pl r (tm r a 0) (tm r 0 b))).toArray) ∧ Below w.heap.size w w' := by
  have H0 : Hid (_ ∧ _) := ⟨Mm.nil w, Below.refl w.heap.size w⟩
  go_enter Tryd.func86, Tryd.ntmps86
  refine wp_seq ?_
  refine walk_seqA 4 [.made (kd r 0 0 0 0) 77, .made (l2 a 0) 111, .made (l2 b 0) 111, .made (l2 0 0) 111] (sB H0) ?ho1 ?he1
  case ho1 => exact ak (fun γ => ⟨rfl, fun w' => ex_boxT rfl rfl⟩) (ak (fun γ => ⟨rfl, fun w' => ex_boxT rfl rfl⟩) (ak (fun γ => ⟨rfl, fun w' => ex_boxT rfl rfl⟩) (ak (fun γ => ⟨rfl, fun w' => ex_made49 rfl⟩) trivial)))
  intro γ w1 l hM hl
  have H1 : Hid (Mm w1 [(γ 0, kd r 0 0 0 0), (γ 1, l2 a 0), (γ 2, l2 b 0), (γ 3, l2 0 0)] ∧ _) := growB H0 hM (Nat.le_refl _) hl [0, 1, 2, 3] rfl (by decide)
  have o1_0 := ownB H0 hM (Nat.le_refl _) hl (i := 0) rfl
  have o1_1 := ownB H0 hM (Nat.le_refl _) hl (i := 1) rfl
  have o1_2 := ownB H0 hM (Nat.le_refl _) hl (i := 2) rfl
  have o1_3 := ownB H0 hM (Nat.le_refl _) hl (i := 3) rfl
  clear hM hl l
  generalize γ 0 = γ1_0 at H1 o1_0 ⊢
  generalize γ 1 = γ1_1 at H1 o1_1 ⊢
  generalize γ 2 = γ1_2 at H1 o1_2 ⊢
  generalize γ 3 = γ1_3 at H1 o1_3 ⊢
  clear γ
  refine rest0 rfl (then_normal (wp_seq ?_))
  refine walk_anyB 29 [.quiet (.agg (kd r 0 0 0 0).toArray), .quiet (.agg (kd r 0 0 0 0).toArray), .quiet (PT γ1_1 0), .quiet (U a), .quiet (PT γ1_2 0), .quiet (U b), .call (U (tm r a b)), .quiet (.agg (kd r 0 0 0 0).toArray), .quiet (PT γ1_1 1), .quiet (U 0), .quiet (PT γ1_2 1), .quiet (U 0), .call (U (tm r 0 0)), .call (U (mi r (tm r a b) (tm r 0 0))), .quiet (.agg (kd r 0 0 0 0).toArray), .quiet (.agg (kd r 0 0 0 0).toArray), .quiet (PT γ1_1 0), .quiet (U a), .quiet (PT γ1_2 1), .quiet (U 0), .call (U (tm r a 0)), .quiet (.agg (kd r 0 0 0 0).toArray), .quiet (PT γ1_1 1), .quiet (U 0), .quiet (PT γ1_2 0), .quiet (U b), .call (U (tm r 0 b)), .call (U (pl r (tm r a 0) (tm r 0 b))), .quiet (.agg (l2 (mi r (tm r a b) (tm r 0 0)) (pl r (tm r a 0) (tm r 0 b))).toArray)] H1 ?ho2 ?he2 (hL := ?hL2)
  case hL2 => exact trivial
  case ho2 => exact ak (fun γ => ⟨rfl, fun w' h => ex_loadT h 0 rfl rfl rfl Tryd.isAgg77 Tryd.sizeOf77 rfl rfl⟩) (ak (fun γ => ⟨rfl, fun w' h => ex_loadT h 0 rfl rfl rfl Tryd.isAgg77 Tryd.sizeOf77 rfl rfl⟩) (ak (by refine fun γ => ⟨rfl, fun w' h => ?_⟩; clear h; go_simp) (ak (fun γ => ⟨rfl, fun w' h => ex_loadC h 1 rfl rfl rfl Tryd.isAgg22 rfl⟩) (ak (by refine fun γ => ⟨rfl, fun w' h => ?_⟩; clear h; go_simp) (ak (fun γ => ⟨rfl, fun w' h => ex_loadC h 2 rfl rfl rfl Tryd.isAgg22 rfl⟩) (ak (fun γ => ⟨rfl, fun w' h => ⟨104, #[.agg (kd r 0 0 0 0).toArray, U a, U b], exec_call rfl call104 rfl (mpn rfl), dmul_any hp a b ha hb w'⟩⟩) (ak (fun γ => ⟨rfl, fun w' h => ex_loadT h 0 rfl rfl rfl Tryd.isAgg77 Tryd.sizeOf77 rfl rfl⟩) (ak (by refine fun γ => ⟨rfl, fun w' h => ?_⟩; clear h; go_simp) (ak (fun γ => ⟨rfl, fun w' h => ex_loadC h 1 rfl rfl rfl Tryd.isAgg22 rfl⟩) (ak (by refine fun γ => ⟨rfl, fun w' h => ?_⟩; clear h; go_simp) (ak (fun γ => ⟨rfl, fun w' h => ex_loadC h 2 rfl rfl rfl Tryd.isAgg22 rfl⟩) (ak (fun γ => ⟨rfl, fun w' h => ⟨104, #[.agg (kd r 0 0 0 0).toArray, U 0, U 0], exec_call rfl call104 rfl (mpn rfl), dmul_any hp 0 0 (zero_lt hp) (zero_lt hp) w'⟩⟩) (ak (fun γ => ⟨rfl, fun w' h => ⟨103, #[.agg (kd r 0 0 0 0).toArray, U (tm r a b), U (tm r 0 0)], exec_call rfl call103 rfl (mpn rfl), dsub_any hp (tm r a b) (tm r 0 0) (tm_lt hp) (tm_lt hp) w'⟩⟩) (ak (fun γ => ⟨rfl, fun w' h => ex_loadT h 0 rfl rfl rfl Tryd.isAgg77 Tryd.sizeOf77 rfl rfl⟩) (ak (fun γ => ⟨rfl, fun w' h => ex_loadT h 0 rfl rfl rfl Tryd.isAgg77 Tryd.sizeOf77 rfl rfl⟩) (ak (by refine fun γ => ⟨rfl, fun w' h => ?_⟩; clear h; go_simp) (ak (fun γ => ⟨rfl, fun w' h => ex_loadC h 1 rfl rfl rfl Tryd.isAgg22 rfl⟩) (ak (by refine fun γ => ⟨rfl, fun w' h => ?_⟩; clear h; go_simp) (ak (fun γ => ⟨rfl, fun w' h => ex_loadC h 2 rfl rfl rfl Tryd.isAgg22 rfl⟩) (ak (fun γ => ⟨rfl, fun w' h => ⟨104, #[.agg (kd r 0 0 0 0).toArray, U a, U 0], exec_call rfl call104 rfl (mpn rfl), dmul_any hp a 0 ha (zero_lt hp) w'⟩⟩) (ak (fun γ => ⟨rfl, fun w' h => ex_loadT h 0 rfl rfl rfl Tryd.isAgg77 Tryd.sizeOf77 rfl rfl⟩) (ak (by refine fun γ => ⟨rfl, fun w' h => ?_⟩; clear h; go_simp) (ak (fun γ => ⟨rfl, fun w' h => ex_loadC h 1 rfl rfl rfl Tryd.isAgg22 rfl⟩) (ak (by refine fun γ => ⟨rfl, fun w' h => ?_⟩; clear h; go_simp) (ak (fun γ => ⟨rfl, fun w' h => ex_loadC h 2 rfl rfl rfl Tryd.isAgg22 rfl⟩) (ak (fun γ => ⟨rfl, fun w' h => ⟨104, #[.agg (kd r 0 0 0 0).toArray, U 0, U b], exec_call rfl call104 rfl (mpn rfl), dmul_any hp 0 b (zero_lt hp) hb w'⟩⟩) (ak (fun γ => ⟨rfl, fun w' h => ⟨105, #[.agg (kd r 0 0 0 0).toArray, U (tm r a 0), U (tm r 0 b)], exec_call rfl call105 rfl (mpn rfl), dadd_any hp (tm r a 0) (tm r 0 b) (tm_lt hp) (tm_lt hp) w'⟩⟩) (ak (fun γ => ⟨rfl, fun w' _ => ex_build49_01 rfl rfl rfl⟩) trivial))))))))))))))))))))))))))))
  intro _ w2 H2
  clear H1
  refine rest_at (l := [29]) rfl ?_
  refine rest_store rfl rfl rfl (ex_storeT (vs := l2 (mi r (tm r a b) (tm r 0 0)) (pl r (tm r a 0) (tm r 0 b))) H2.out.1 3 rfl rfl rfl rfl Tryd.sizeOf111 rfl (Nat.le_of_ble_eq_true rfl)) ?_
  have H3 : Hid (Mm (w2.setCells γ1_3 0 (l2 (mi r (tm r a b) (tm r 0 0)) (pl r (tm r a 0) (tm r 0 b)))) [(γ1_0, kd r 0 0 0 0), (γ1_1, l2 a 0), (γ1_2, l2 b 0), (γ1_3, l2 (mi r (tm r a b) (tm r 0 0)) (pl r (tm r a 0) (tm r 0 b)))] ∧ Below w.heap.size w (w2.setCells γ1_3 0 (l2 (mi r (tm r a b) (tm r 0 0)) (pl r (tm r a 0) (tm r 0 b))))) := ⟨H2.out.1.put 3 (off := 0) (vs := l2 (mi r (tm r a b) (tm r 0 0)) (pl r (tm r a 0) (tm r 0 b))) rfl (Nat.le_of_ble_eq_true rfl), below_setCells _ o1_3.out _ _ _ H2.out.2⟩
  clear H2
  generalize hgw : World.setCells _ _ _ _ = w3 at H3 ⊢
  clear hgw
  refine rest_nil (then_normal (wp_ret ?_))
  repeat (first | refine then_ret ?_ | refine block_ret ?_)
  have hf0 := var_T H3.out.1 3 rfl Tryd.isAgg111 Tryd.sizeOf111 rfl
  refine bodyPost_ret (v := .agg (l2 (mi r (tm r a b) (tm r 0 0)) (pl r (tm r a 0) (tm r 0 b))).toArray) (by simp [results, Tryd.results86, asAddr, hf0]) rfl ?_
  exact ⟨rfl, H3.out.2⟩
theorem tm_0 (r a : Nat) : tm r a 0 = 0 := by unfold tm; rw [Nat.mul_zero, Nat.zero_mod]
theorem mi_0 {r a : Nat} (ha : a < r) : mi r a 0 = a := by unfold mi; rw [Nat.sub_zero, Nat.add_mod_right, Nat.mod_eq_of_lt ha]
set_option maxHeartbeats 1000000 in
set_option maxRecDepth 100000 in
theorem dsmall_raw {r a b : Nat} (hp : Pr r) (ha : a < r) (hb : b < r) (w : World) :
    Calls Tryd.prog 60 #[U a, U b, U r] w fun e w' => e = .returned (U (mi r (tm r a b) (tm r 0 0))) ∧ Below w.heap.size w w' := by
  have H0 : Hid (_ ∧ _) := ⟨Mm.nil w, Below.refl w.heap.size w⟩
  go_enter Tryd.func60, Tryd.ntmps60
  refine wp_seq ?_
  refine walk_seqB 1 [.quiet (U 0)] H0 ?ho1 ?he1
  case ho1 => exact ak (fun _ => ⟨rfl, fun _ _ => rfl⟩) trivial
  intro _ w1 H1
  refine rest0 rfl (then_normal (wp_seq ?_))
  refine walk_seqA 4 [.quiet (U r), .quiet (.agg (kd r 0 0 0 0).toArray), .made (kd 0 0 0 0 0) 77, .laid 2 (kd 0 0 0 0 0) (kd r 0 0 0 0)] (sB H1) ?ho2 ?he2 (hL := ?hL2)
  case hL2 => exact ⟨⟨_, rfl⟩, trivial⟩
  case ho2 => exact ak (fun _ => ⟨rfl, fun _ _ => rfl⟩) (ak (fun γ => ⟨rfl, fun w' _ => ex_build27_0 rfl rfl⟩) (ak (fun γ => ⟨rfl, fun w' => ex_made27 rfl⟩) (ak (fun γ => ⟨rfl, rfl, rfl, fun w' h => ex_laidT h rfl rfl Tryd.sizeOf77 rfl rfl rfl⟩) trivial)))
  intro γ w2 l hM hl
  have H2 : Hid (Mm w2 [(γ 2, kd r 0 0 0 0)] ∧ _) := growB H1 hM (Nat.le_refl _) hl [2] rfl (by decide)
  have o2_2 := ownB H1 hM (Nat.le_refl _) hl (i := 2) rfl
  clear hM hl l H1
  generalize γ 2 = γ2_2 at H2 o2_2 ⊢
  clear γ
  refine rest0 rfl (then_normal (wp_seq ?_))
  refine walk_seqB 8 [.quiet (.agg (kd r 0 0 0 0).toArray), .quiet (U a), .quiet (.agg (l2 a 0).toArray), .quiet (U b), .quiet (.agg (l2 b 0).toArray), .call (.agg (l2 (mi r (tm r a b) (tm r 0 0)) (pl r (tm r a 0) (tm r 0 b))).toArray), .quiet (U (mi r (tm r a b) (tm r 0 0))), .quiet (U (mi r (tm r a b) (tm r 0 0)))] H2 ?ho3 ?he3
  case ho3 => exact ak (fun γ => ⟨rfl, fun w' h => ex_loadT h 0 rfl rfl rfl Tryd.isAgg77 Tryd.sizeOf77 rfl rfl⟩) (ak (fun _ => ⟨rfl, fun _ _ => rfl⟩) (ak (fun γ => ⟨rfl, fun w' _ => ex_build49_01 rfl rfl rfl⟩) (ak (fun _ => ⟨rfl, fun _ _ => rfl⟩) (ak (fun γ => ⟨rfl, fun w' _ => ex_build49_01 rfl rfl rfl⟩) (ak (fun γ => ⟨rfl, fun w' h => ⟨86, #[.agg (kd r 0 0 0 0).toArray, .agg (l2 a 0).toArray, .agg (l2 b 0).toArray], exec_call rfl call86 rfl (mpn rfl), dtimes_raw hp ha hb w'⟩⟩) (ak (fun γ => ⟨rfl, fun w' _ => ex_ixL rfl rfl rfl⟩) (ak (fun _ => ⟨rfl, fun _ _ => rfl⟩) trivial)))))))
  intro _ w3 H3
  clear H2
  refine rest0 rfl (then_normal (wp_ret ?_))
  repeat (first | refine then_ret ?_ | refine block_ret ?_)
  refine bodyPost_ret (v := U (mi r (tm r a b) (tm r 0 0))) (by simp [results, Tryd.results60, go_sem, *]) rfl ?_
  exact ⟨rfl, H3.out.2⟩
theorem dsmall {r a b : Nat} (hp : Pr r) (ha : a < r) (hb : b < r) (w : World) : Calls Tryd.prog 60 #[U a, U b, U r] w fun e w' => e = .returned (U (tm r a b)) ∧ Below w.heap.size w w' := by
  have h := dsmall_raw hp ha hb w
  rw [tm_0, mi_0 (tm_lt hp)] at h
  exact h
set_option maxHeartbeats 1000000 in
set_option maxRecDepth 100000 in
theorem dOrdL {s : Int} (hs : s ≠ 0) (hr : r < 18446744073709551616) (hO : ∀ w, Calls Tryd.prog 56 #[.int .i64 s] w fun e w' => e = .returned (.tuple #[.agg (kd p r c gx gy).toArray, .bool true]) ∧ Below w.heap.size w w') (w : World) :
    Calls Tryd.prog 29 #[.int .i64 s] w fun e w' => e = .returned (N r) ∧ Below w.heap.size w w' := by
  have H0 : Hid (_ ∧ _) := ⟨Mm.nil w, Below.refl w.heap.size w⟩
  have HO : Hid _ := hO
  clear hO
  go_enter Tryd.func29, Tryd.ntmps29
  refine wp_seq ?_
  refine walk_seqA 1 [.made zero6 24] (sB H0) ?ho1 ?he1
  case ho1 => exact ak (fun γ => ⟨rfl, fun w' => exec_made6 rfl⟩) trivial
  intro γ w1 l hM hl
  have H1 : Hid (Mm w1 [(γ 0, zero6)] ∧ _) := growB H0 hM (Nat.le_refl _) hl [0] rfl (by decide)
  have o1_0 := ownB H0 hM (Nat.le_refl _) hl (i := 0) rfl
  clear hM hl l
  generalize γ 0 = γ1_0 at H1 o1_0 ⊢
  clear γ
  refine rest0 rfl (then_normal (wp_seq (wp_seq ?_)))
  refine walk_seqB 2 [.quiet (.int .i64 s), .quiet (.bool false)] H1 ?ho2 ?he2
  case ho2 => exact ak (fun _ => ⟨rfl, fun _ _ => rfl⟩) (ak (by refine fun γ => ⟨rfl, fun w' h => ?_⟩; clear h; go_simp) trivial)
  intro _ w2 H2
  clear H1
  refine rest0 rfl (then_normal (wp_cond_false rfl ?_))
  refine wp_skip (then_normal (wp_seq ?_))
  refine walk_seqA 8 [.quiet (.int .i64 s), .call (.tuple #[.agg (kd p r c gx gy).toArray, .bool true]), .quiet (.tuple #[.agg (kd p r c gx gy).toArray, .bool true]), .quiet (.agg (kd p r c gx gy).toArray), .quiet (.bool true), .made (kd 0 0 0 0 0) 77, .laid 5 (kd 0 0 0 0 0) (kd p r c gx gy), .quiet (.bool true)] (sB H2) ?ho3 ?he3 (hL := ?hL3)
  case hL3 => exact ⟨⟨_, rfl⟩, trivial⟩
  case ho3 => exact ak (fun _ => ⟨rfl, fun _ _ => rfl⟩) (ak (fun γ => ⟨rfl, fun w' h => ⟨56, #[.int .i64 s], exec_call rfl call56 rfl (mpn rfl), HO.out w'⟩⟩) (ak (fun _ => ⟨rfl, fun _ _ => rfl⟩) (ak (by refine fun γ => ⟨rfl, fun w' h => ?_⟩; clear h; go_simp) (ak (by refine fun γ => ⟨rfl, fun w' h => ?_⟩; clear h; go_simp) (ak (fun γ => ⟨rfl, fun w' => ex_made27 rfl⟩) (ak (fun γ => ⟨rfl, rfl, rfl, fun w' h => ex_laidT h rfl rfl Tryd.sizeOf77 rfl rfl rfl⟩) (ak (fun _ => ⟨rfl, fun _ _ => rfl⟩) trivial)))))))
  intro γ w3 l hM hl
  have H3 : Hid (Mm w3 [(γ 5, kd p r c gx gy), (γ1_0, zero6)] ∧ _) := growB H2 hM (Nat.le_refl _) hl [5] rfl (by decide)
  have o3_5 := ownB H2 hM (Nat.le_refl _) hl (i := 5) rfl
  clear hM hl l H2
  generalize γ 5 = γ3_5 at H3 o3_5 ⊢
  clear γ
  refine rest0 rfl (then_normal (wp_seq ?_))
  refine walk_seqB 3 [.quiet (PT γ3_5 1), .quiet (U r), .quiet (N r)] H3 ?ho4 ?he4
  case ho4 => exact ak (by refine fun γ => ⟨rfl, fun w' h => ?_⟩; clear h; go_simp) (ak (fun γ => ⟨rfl, fun w' h => ex_loadC h 0 rfl rfl rfl Tryd.isAgg22 rfl⟩) (ak (fun γ => ⟨rfl, fun w' _ => ex_bld1 (m := r) (hr) rfl rfl rfl⟩) trivial))
  intro _ w4 H4
  clear H3
  refine rest_at (l := [3]) rfl ?_
  refine rest_store rfl rfl rfl (ex_store6 H4.out.1 1 rfl rfl rfl rfl (Nat.le_of_ble_eq_true rfl)) ?_
  have H5 : Hid (Mm (w4.setCells γ1_0 0 (cells6 r)) [(γ3_5, kd p r c gx gy), (γ1_0, cells6 r)] ∧ Below w.heap.size w (w4.setCells γ1_0 0 (cells6 r))) := ⟨H4.out.1.put 1 (off := 0) (vs := cells6 r) rfl (Nat.le_of_ble_eq_true rfl), below_setCells _ o1_0.out _ _ _ H4.out.2⟩
  clear H4
  generalize hgw : World.setCells _ _ _ _ = w5 at H5 ⊢
  clear hgw
  refine rest_nil (then_normal (wp_ret ?_))
  repeat (first | refine then_ret ?_ | refine block_ret ?_)
  have c0 := H5.out.1.get 1 rfl 0 rfl
  have c1 := H5.out.1.get 1 rfl 1 rfl
  have c2 := H5.out.1.get 1 rfl 2 rfl
  have c3 := H5.out.1.get 1 rfl 3 rfl
  have c4 := H5.out.1.get 1 rfl 4 rfl
  have c5 := H5.out.1.get 1 rfl 5 rfl
  refine bodyPost_ret (v := N r) (by simp [results, Tryd.results29, go_sem, *]) rfl ?_
  exact ⟨rfl, H5.out.2⟩
set_option maxHeartbeats 1000000 in
set_option maxRecDepth 100000 in
theorem dAddL {s : Int} {r a b : Nat} (hs : s ≠ 0) (hp : Pr r) (hO : ∀ w, Calls Tryd.prog 29 #[.int .i64 s] w fun e w' => e = .returned (N r) ∧ Below w.heap.size w w') (ha : a < r) (hb : b < r) (w : World) :
    Calls Tryd.prog 32 #[.int .i64 s, N a, N b] w fun e w' => e = .returned (N ((a + b) % r)) ∧ Below w.heap.size w w' := by
  have H0 : Hid (_ ∧ _) := ⟨Mm.nil w, Below.refl w.heap.size w⟩
  have HO : Hid _ := hO
  clear hO
  go_enter Tryd.func32, Tryd.ntmps32
  refine wp_seq ?_
  refine walk_seqA 3 [.made (cells6 a) 24, .made (cells6 b) 24, .made zero6 24] (sB H0) ?ho1 ?he1
  case ho1 => exact ak (fun γ => ⟨rfl, fun w' => ex_box6 rfl rfl⟩) (ak (fun γ => ⟨rfl, fun w' => ex_box6 rfl rfl⟩) (ak (fun γ => ⟨rfl, fun w' => exec_made6 rfl⟩) trivial))
  intro γ w1 l hM hl
  have H1 : Hid (Mm w1 [(γ 0, cells6 a), (γ 1, cells6 b), (γ 2, zero6)] ∧ _) := growB H0 hM (Nat.le_refl _) hl [0, 1, 2] rfl (by decide)
  have o1_0 := ownB H0 hM (Nat.le_refl _) hl (i := 0) rfl
  have o1_1 := ownB H0 hM (Nat.le_refl _) hl (i := 1) rfl
  have o1_2 := ownB H0 hM (Nat.le_refl _) hl (i := 2) rfl
  clear hM hl l
  generalize γ 0 = γ1_0 at H1 o1_0 ⊢
  generalize γ 1 = γ1_1 at H1 o1_1 ⊢
  generalize γ 2 = γ1_2 at H1 o1_2 ⊢
  clear γ
  refine rest0 rfl (then_normal (wp_seq (wp_seq ?_)))
  refine walk_seqB 2 [.quiet (.int .i64 s), .quiet (.bool false)] H1 ?ho2 ?he2
  case ho2 => exact ak (fun _ => ⟨rfl, fun _ _ => rfl⟩) (ak (by refine fun γ => ⟨rfl, fun w' h => ?_⟩; clear h; go_simp) trivial)
  intro _ w2 H2
  clear H1
  refine rest0 rfl (then_normal (wp_cond_false rfl ?_))
  refine wp_skip (then_normal (wp_seq ?_))
  refine walk_anyB 10 [.quiet (PT γ1_0 0), .quiet (U a), .quiet (PT γ1_1 0), .quiet (U b), .quiet (U (a + b)), .quiet (.int .i64 s), .call (N r), .quiet (U r), .quiet (U ((a + b) % r)), .quiet (N ((a + b) % r))] H2 ?ho3 ?he3
  case ho3 => exact ak (by refine fun γ => ⟨rfl, fun w' h => ?_⟩; clear h; go_simp) (ak (fun γ => ⟨rfl, fun w' h => ex_loadW (lt64 hp ha) h 0 rfl rfl rfl⟩) (ak (by refine fun γ => ⟨rfl, fun w' h => ?_⟩; clear h; go_simp) (ak (fun γ => ⟨rfl, fun w' h => ex_loadW (lt64 hp hb) h 1 rfl rfl rfl⟩) (ak (fun γ => ⟨rfl, fun w' _ => ex_addU (by have := hp.hi; omega) rfl rfl rfl⟩) (ak (fun _ => ⟨rfl, fun _ _ => rfl⟩) (ak (fun γ => ⟨rfl, fun w' h => ⟨29, #[.int .i64 s], exec_call rfl call29 rfl (mpn rfl), HO.out w'⟩⟩) (ak (fun γ => ⟨rfl, fun w' _ => ex_ixW (r64 hp) rfl rfl rfl⟩) (ak (fun γ => ⟨rfl, fun w' _ => ex_remU (Nat.ne_of_gt (zero_lt hp)) rfl rfl rfl⟩) (ak (fun γ => ⟨rfl, fun w' _ => ex_bld1 (m := (a + b) % r) (lt64 hp (pl_lt hp)) rfl rfl rfl⟩) trivial)))))))))
  intro _ w3 H3
  clear H2
  refine rest_at (l := [10]) rfl ?_
  refine rest_store rfl rfl rfl (ex_store6 H3.out.1 2 rfl rfl rfl rfl (Nat.le_of_ble_eq_true rfl)) ?_
  have H4 : Hid (Mm (w3.setCells γ1_2 0 (cells6 ((a + b) % r))) [(γ1_0, cells6 a), (γ1_1, cells6 b), (γ1_2, cells6 ((a + b) % r))] ∧ Below w.heap.size w (w3.setCells γ1_2 0 (cells6 ((a + b) % r)))) := ⟨H3.out.1.put 2 (off := 0) (vs := cells6 ((a + b) % r)) rfl (Nat.le_of_ble_eq_true rfl), below_setCells _ o1_2.out _ _ _ H3.out.2⟩
  clear H3
  generalize hgw : World.setCells _ _ _ _ = w4 at H4 ⊢
  clear hgw
  refine rest_nil (then_normal (wp_ret ?_))
  repeat (first | refine then_ret ?_ | refine block_ret ?_)
  have c0 := H4.out.1.get 2 rfl 0 rfl
  have c1 := H4.out.1.get 2 rfl 1 rfl
  have c2 := H4.out.1.get 2 rfl 2 rfl
  have c3 := H4.out.1.get 2 rfl 3 rfl
  have c4 := H4.out.1.get 2 rfl 4 rfl
  have c5 := H4.out.1.get 2 rfl 5 rfl
  refine bodyPost_ret (v := N ((a + b) % r)) (by simp [results, Tryd.results32, go_sem, *]) rfl ?_
  exact ⟨rfl, H4.out.2⟩
set_option maxHeartbeats 1000000 in
set_option maxRecDepth 100000 in
theorem dMulL {s : Int} {r a b : Nat} (hs : s ≠ 0) (hp : Pr r) (hO : ∀ w, Calls Tryd.prog 29 #[.int .i64 s] w fun e w' => e = .returned (N r) ∧ Below w.heap.size w w') (ha : a < r) (hb : b < r) (w : World) :
    Calls Tryd.prog 34 #[.int .i64 s, N a, N b] w fun e w' => e = .returned (N (a * b % r)) ∧ Below w.heap.size w w' := by
  have H0 : Hid (_ ∧ _) := ⟨Mm.nil w, Below.refl w.heap.size w⟩
  have HO : Hid _ := hO
  clear hO
  go_enter Tryd.func34, Tryd.ntmps34
  refine wp_seq ?_
  refine walk_seqA 3 [.made (cells6 a) 24, .made (cells6 b) 24, .made zero6 24] (sB H0) ?ho1 ?he1
  case ho1 => exact ak (fun γ => ⟨rfl, fun w' => ex_box6 rfl rfl⟩) (ak (fun γ => ⟨rfl, fun w' => ex_box6 rfl rfl⟩) (ak (fun γ => ⟨rfl, fun w' => exec_made6 rfl⟩) trivial))
  intro γ w1 l hM hl
  have H1 : Hid (Mm w1 [(γ 0, cells6 a), (γ 1, cells6 b), (γ 2, zero6)] ∧ _) := growB H0 hM (Nat.le_refl _) hl [0, 1, 2] rfl (by decide)
  have o1_0 := ownB H0 hM (Nat.le_refl _) hl (i := 0) rfl
  have o1_1 := ownB H0 hM (Nat.le_refl _) hl (i := 1) rfl
  have o1_2 := ownB H0 hM (Nat.le_refl _) hl (i := 2) rfl
  clear hM hl l
  generalize γ 0 = γ1_0 at H1 o1_0 ⊢
  generalize γ 1 = γ1_1 at H1 o1_1 ⊢
  generalize γ 2 = γ1_2 at H1 o1_2 ⊢
  clear γ
  refine rest0 rfl (then_normal (wp_seq (wp_seq ?_)))
  refine walk_seqB 2 [.quiet (.int .i64 s), .quiet (.bool false)] H1 ?ho2 ?he2
  case ho2 => exact ak (fun _ => ⟨rfl, fun _ _ => rfl⟩) (ak (by refine fun γ => ⟨rfl, fun w' h => ?_⟩; clear h; go_simp) trivial)
  intro _ w2 H2
  clear H1
  refine rest0 rfl (then_normal (wp_cond_false rfl ?_))
  refine wp_skip (then_normal (wp_seq ?_))
  refine walk_anyB 9 [.quiet (PT γ1_0 0), .quiet (U a), .quiet (PT γ1_1 0), .quiet (U b), .quiet (.int .i64 s), .call (N r), .quiet (U r), .call (U (tm r a b)), .quiet (N (tm r a b))] H2 ?ho3 ?he3
  case ho3 => exact ak (by refine fun γ => ⟨rfl, fun w' h => ?_⟩; clear h; go_simp) (ak (fun γ => ⟨rfl, fun w' h => ex_loadW (lt64 hp ha) h 0 rfl rfl rfl⟩) (ak (by refine fun γ => ⟨rfl, fun w' h => ?_⟩; clear h; go_simp) (ak (fun γ => ⟨rfl, fun w' h => ex_loadW (lt64 hp hb) h 1 rfl rfl rfl⟩) (ak (fun _ => ⟨rfl, fun _ _ => rfl⟩) (ak (fun γ => ⟨rfl, fun w' h => ⟨29, #[.int .i64 s], exec_call rfl call29 rfl (mpn rfl), HO.out w'⟩⟩) (ak (fun γ => ⟨rfl, fun w' _ => ex_ixW (r64 hp) rfl rfl rfl⟩) (ak (fun γ => ⟨rfl, fun w' h => ⟨60, #[U a, U b, U r], exec_call rfl call60 rfl (mpn rfl), dsmall hp ha hb w'⟩⟩) (ak (fun γ => ⟨rfl, fun w' _ => ex_bld1 (m := tm r a b) (lt64 hp (tm_lt hp)) rfl rfl rfl⟩) trivial))))))))
  intro _ w3 H3
  clear H2
  refine rest_at (l := [9]) rfl ?_
  refine rest_store rfl rfl rfl (ex_store6 H3.out.1 2 rfl rfl rfl rfl (Nat.le_of_ble_eq_true rfl)) ?_
  have H4 : Hid (Mm (w3.setCells γ1_2 0 (cells6 (tm r a b))) [(γ1_0, cells6 a), (γ1_1, cells6 b), (γ1_2, cells6 (tm r a b))] ∧ Below w.heap.size w (w3.setCells γ1_2 0 (cells6 (tm r a b)))) := ⟨H3.out.1.put 2 (off := 0) (vs := cells6 (tm r a b)) rfl (Nat.le_of_ble_eq_true rfl), below_setCells _ o1_2.out _ _ _ H3.out.2⟩
  clear H3
  generalize hgw : World.setCells _ _ _ _ = w4 at H4 ⊢
  clear hgw
  refine rest_nil (then_normal (wp_ret ?_))
  repeat (first | refine then_ret ?_ | refine block_ret ?_)
  have c0 := H4.out.1.get 2 rfl 0 rfl
  have c1 := H4.out.1.get 2 rfl 1 rfl
  have c2 := H4.out.1.get 2 rfl 2 rfl
  have c3 := H4.out.1.get 2 rfl 3 rfl
  have c4 := H4.out.1.get 2 rfl 4 rfl
  have c5 := H4.out.1.get 2 rfl 5 rfl
  refine bodyPost_ret (v := N (tm r a b)) (by simp [results, Tryd.results34, go_sem, *]) rfl ?_
  exact ⟨rfl, H4.out.2⟩
set_option maxHeartbeats 2000000 in
set_option maxRecDepth 100000 in
theorem dInvL {s : Int} {r a : Nat} (P : Nat → Nat) (hs : s ≠ 0) (hp : Pr r) (hO : ∀ w, Calls Tryd.prog 29 #[.int .i64 s] w fun e w' => e = .returned (N r) ∧ Below w.heap.size w w') (ha : a < r) (hP0 : P 64 = 1) (hlt' : ∀ k, P k < r) (h1 : ∀ j, (r - 2) / 2 ^ j % 2 = 1 → tm r (tm r (P (j + 1)) (P (j + 1))) a = P j) (h0 : ∀ j, ¬ (r - 2) / 2 ^ j % 2 = 1 → tm r (P (j + 1)) (P (j + 1)) = P j) (w : World) :
    Calls Tryd.prog 31 #[.int .i64 s, N a] w fun e w' => e = .returned (N (P 0)) ∧ Below w.heap.size w w' := by
  have H0 : Hid (_ ∧ _) := ⟨Mm.nil w, Below.refl w.heap.size w⟩
  have HO : Hid _ := hO
  clear hO
  go_enter Tryd.func31, Tryd.ntmps31
  refine wp_seq ?_
  refine walk_seqA 2 [.made (cells6 a) 24, .made zero6 24] (sB H0) ?ho1 ?he1
  case ho1 => exact ak (fun γ => ⟨rfl, fun w' => ex_box6 rfl rfl⟩) (ak (fun γ => ⟨rfl, fun w' => exec_made6 rfl⟩) trivial)
  intro γ w1 l hM hl
  have H1 : Hid (Mm w1 [(γ 0, cells6 a), (γ 1, zero6)] ∧ _) := growB H0 hM (Nat.le_refl _) hl [0, 1] rfl (by decide)
  have o1_0 := ownB H0 hM (Nat.le_refl _) hl (i := 0) rfl
  have o1_1 := ownB H0 hM (Nat.le_refl _) hl (i := 1) rfl
  clear hM hl l
  generalize γ 0 = γ1_0 at H1 o1_0 ⊢
  generalize γ 1 = γ1_1 at H1 o1_1 ⊢
  clear γ
  refine rest0 rfl (then_normal (wp_seq (wp_seq ?_)))
  refine walk_seqB 2 [.quiet (.int .i64 s), .quiet (.bool false)] H1 ?ho2 ?he2
  case ho2 => exact ak (fun _ => ⟨rfl, fun _ _ => rfl⟩) (ak (by refine fun γ => ⟨rfl, fun w' h => ?_⟩; clear h; go_simp) trivial)
  intro _ w2 H2
  clear H1
  refine rest0 rfl (then_normal (wp_cond_false rfl ?_))
  refine wp_skip (then_normal (wp_seq ?_))
  refine walk_seqB 4 [.quiet (.int .i64 s), .call (N r), .quiet (U r), .quiet (U r)] H2 ?ho3 ?he3
  case ho3 => exact ak (fun _ => ⟨rfl, fun _ _ => rfl⟩) (ak (fun γ => ⟨rfl, fun w' h => ⟨29, #[.int .i64 s], exec_call rfl call29 rfl (mpn rfl), HO.out w'⟩⟩) (ak (fun γ => ⟨rfl, fun w' _ => ex_ixW (r64 hp) rfl rfl rfl⟩) (ak (fun _ => ⟨rfl, fun _ _ => rfl⟩) trivial)))
  intro _ w3 H3
  clear H2
  refine rest0 rfl (then_normal (wp_seq ?_))
  refine walk_seqB 1 [.quiet (U 1)] H3 ?ho4 ?he4
  case ho4 => exact ak (fun _ => ⟨rfl, fun _ _ => rfl⟩) trivial
  intro _ w4 H4
  clear H3
  refine rest0 rfl (then_normal (wp_seq (wp_seq ?_)))
  refine walk_seqB 1 [.quiet (.int .i64 63)] H4 ?ho5 ?he5
  case ho5 => exact ak (fun _ => ⟨rfl, fun _ _ => rfl⟩) trivial
  intro _ w5 H5
  clear H4
  refine rest0 rfl (then_normal (wp_block ?_))
  refine loop_ghost (α := Nat) (fun k a' w' => ∃ s0 : Nat → Value, a' = ⟨#[.int .i64 s, N a, undef, PT γ1_0 0, PT γ1_1 0, U r, U (P k), .int .i64 (((k : Nat) : Int) - 1), .int .i64 s, .bool false, undef, undef, undef, undef, .int .i64 s, N r, U r, s0 17, s0 18, s0 19, s0 20, s0 21, s0 22, s0 23, s0 24, s0 25, s0 26, s0 27, s0 28, s0 29, s0 30, s0 31, s0 32, s0 33, s0 34, s0 35, undef, undef], []⟩ ∧ (Mm w' [(γ1_0, cells6 a), (γ1_1, zero6)] ∧ Below w.heap.size w w') ∧ k ≤ 64) (fun k => k) 64 ?st0 ?rd0
  case st0 => exact ⟨(slotfn [undef, undef, undef, undef, undef, undef, undef, undef, undef, undef, undef, undef, undef, undef, undef, undef, undef, undef, undef, undef, undef, undef, undef, undef, undef, undef, undef, undef, undef, undef, undef, undef, undef, undef, undef, undef]), by rw [hP0]; rfl, ⟨H5.out.1, H5.out.2⟩, Nat.le_refl _⟩
  intro k a' w6 hI
  obtain ⟨s0, rfl, hMB, hk0⟩ := hI
  have H6 : Hid (_ ∧ _) := hMB
  clear hMB H5
  by_cases hlt : 0 < k
  · have hrd : True := trivial
    clear hrd
    obtain ⟨j, rfl⟩ : ∃ j, k = j + 1 := ⟨k - 1, by omega⟩
    rw [show (((j + 1 : Nat) : Int) - 1) = ((j : Nat) : Int) by omega]
    by_cases hb : (r - 2) / 2 ^ j % 2 = 1
    · have hrd : True := trivial
      clear hrd
      refine wp_seq (wp_seq ?_)
      refine walk_seqB 2 [.quiet (.int .i64 ((j : Nat) : Int)), .quiet (.bool true)] H6 ?ho6 ?he6
      case ho6 => exact ak (fun _ => ⟨rfl, fun _ _ => rfl⟩) (ak (by refine fun γ => ⟨rfl, fun w' h => ?_⟩; clear h; go_simp) trivial)
      intro _ w7 H7
      clear H6
      refine rest0 rfl (then_normal (wp_cond_true rfl ?_))
      refine wp_skip (then_normal ?_)
      refine wp_seq (wp_block (wp_seq ?_))
      refine walk_seqB 4 [.quiet (U (P (j + 1))), .quiet (U (P (j + 1))), .quiet (U r), .call (U (tm r (P (j + 1)) (P (j + 1))))] H7 ?ho7 ?he7
      case ho7 => exact ak (fun _ => ⟨rfl, fun _ _ => rfl⟩) (ak (fun _ => ⟨rfl, fun _ _ => rfl⟩) (ak (fun _ => ⟨rfl, fun _ _ => rfl⟩) (ak (fun γ => ⟨rfl, fun w' h => ⟨60, #[U (P (j + 1)), U (P (j + 1)), U r], exec_call rfl call60 rfl (mpn rfl), dsmall hp (hlt' _) (hlt' _) w'⟩⟩) trivial)))
      intro _ w8 H8
      clear H7
      refine rest_at (l := [4]) rfl ?_
      refine rest_set (d := 6) rfl rfl rfl rfl ?_
      simp only [Act.put, sa, sz, ss]
      refine rest_nil (then_normal (wp_seq ?_))
      refine walk_seqB 6 [.quiet (U r), .quiet (U (r - 2)), .quiet (.int .i64 ((j : Nat) : Int)), .quiet (U ((r - 2) / 2 ^ j)), .quiet (U ((r - 2) / 2 ^ j % 2)), .quiet (.bool true)] H8 ?ho8 ?he8
      case ho8 => exact ak (fun _ => ⟨rfl, fun _ _ => rfl⟩) (ak (fun γ => ⟨rfl, fun w' _ => ex_subU (by have := hp.lo; omega) (r64 hp) rfl rfl rfl⟩) (ak (fun _ => ⟨rfl, fun _ _ => rfl⟩) (ak (fun γ => ⟨rfl, fun w' _ => ex_shrU (by omega) rfl rfl rfl⟩) (ak (fun γ => ⟨rfl, fun w' _ => ex_and1 rfl (Nat.lt_of_le_of_lt (Nat.div_le_self _ _) (Nat.lt_of_le_of_lt (Nat.sub_le _ _) (r64 hp))) rfl rfl⟩) (ak (fun γ => ⟨rfl, fun w' _ => ex_eqU rfl rfl rfl (decide_eq_true (hb))⟩) trivial)))))
      intro _ w9 H9
      clear H8
      refine rest0 rfl (then_normal (wp_cond_true rfl ?_))
      refine walk_seqB 5 [.quiet (U (tm r (P (j + 1)) (P (j + 1)))), .quiet (PT γ1_0 0), .quiet (U a), .quiet (U r), .call (U (tm r (tm r (P (j + 1)) (P (j + 1))) a))] H9 ?ho9 ?he9
      case ho9 => exact ak (fun _ => ⟨rfl, fun _ _ => rfl⟩) (ak (by refine fun γ => ⟨rfl, fun w' h => ?_⟩; clear h; go_simp) (ak (fun γ => ⟨rfl, fun w' h => ex_loadW (lt64 hp ha) h 0 rfl rfl rfl⟩) (ak (fun _ => ⟨rfl, fun _ _ => rfl⟩) (ak (fun γ => ⟨rfl, fun w' h => ⟨60, #[U (tm r (P (j + 1)) (P (j + 1))), U a, U r], exec_call rfl call60 rfl (mpn rfl), dsmall hp (tm_lt hp) ha w'⟩⟩) trivial))))
      intro _ w10 H10
      clear H9
      refine rest_at (l := [5]) rfl ?_
      refine rest_set (d := 6) rfl rfl rfl rfl ?_
      simp only [Act.put, sa, sz, ss]
      refine rest_nil (block_normal (then_normal ?_))
      refine walk_seqB 2 [.quiet (.int .i64 ((j : Nat) : Int)), .quiet (.int .i64 (((j : Nat) : Int) - 1))] H10 ?ho10 ?he10
      case ho10 => exact ak (fun _ => ⟨rfl, fun _ _ => rfl⟩) (ak (by refine fun γ => ⟨rfl, fun w' h => ?_⟩; clear h; go_simp; rw [IntKind.wrap_i64]; omega) trivial)
      intro _ w11 H11
      clear H10
      refine rest_at (l := [2]) rfl ?_
      refine rest_set (d := 7) rfl rfl rfl rfl ?_
      simp only [Act.put, sa, sz, ss]
      refine rest_nil (then_normal ?_)
      exact ⟨j, ⟨(slotfn [undef, undef, undef, undef, undef, undef, undef, undef, undef, undef, undef, undef, undef, undef, undef, undef, undef, .int .i64 ((j : Nat) : Int), .bool true, .int .i64 ((j : Nat) : Int), .int .i64 (((j : Nat) : Int) - 1), U (P (j + 1)), U (P (j + 1)), U r, U (tm r (P (j + 1)) (P (j + 1))), U r, U (r - 2), .int .i64 ((j : Nat) : Int), U ((r - 2) / 2 ^ j), U ((r - 2) / 2 ^ j % 2), .bool true, U (tm r (P (j + 1)) (P (j + 1))), PT γ1_0 0, U a, U r, U (tm r (tm r (P (j + 1)) (P (j + 1))) a)]), by rw [← h1 j hb]; rfl, ⟨H11.out.1, H11.out.2⟩, by omega⟩, by omega⟩
    · have hrd : True := trivial
      clear hrd
      refine wp_seq (wp_seq ?_)
      refine walk_seqB 2 [.quiet (.int .i64 ((j : Nat) : Int)), .quiet (.bool true)] H6 ?ho11 ?he11
      case ho11 => exact ak (fun _ => ⟨rfl, fun _ _ => rfl⟩) (ak (by refine fun γ => ⟨rfl, fun w' h => ?_⟩; clear h; go_simp) trivial)
      intro _ w12 H12
      clear H6
      refine rest0 rfl (then_normal (wp_cond_true rfl ?_))
      refine wp_skip (then_normal ?_)
      refine wp_seq (wp_block (wp_seq ?_))
      refine walk_seqB 4 [.quiet (U (P (j + 1))), .quiet (U (P (j + 1))), .quiet (U r), .call (U (tm r (P (j + 1)) (P (j + 1))))] H12 ?ho12 ?he12
      case ho12 => exact ak (fun _ => ⟨rfl, fun _ _ => rfl⟩) (ak (fun _ => ⟨rfl, fun _ _ => rfl⟩) (ak (fun _ => ⟨rfl, fun _ _ => rfl⟩) (ak (fun γ => ⟨rfl, fun w' h => ⟨60, #[U (P (j + 1)), U (P (j + 1)), U r], exec_call rfl call60 rfl (mpn rfl), dsmall hp (hlt' _) (hlt' _) w'⟩⟩) trivial)))
      intro _ w13 H13
      clear H12
      refine rest_at (l := [4]) rfl ?_
      refine rest_set (d := 6) rfl rfl rfl rfl ?_
      simp only [Act.put, sa, sz, ss]
      refine rest_nil (then_normal (wp_seq ?_))
      refine walk_seqB 6 [.quiet (U r), .quiet (U (r - 2)), .quiet (.int .i64 ((j : Nat) : Int)), .quiet (U ((r - 2) / 2 ^ j)), .quiet (U ((r - 2) / 2 ^ j % 2)), .quiet (.bool false)] H13 ?ho13 ?he13
      case ho13 => exact ak (fun _ => ⟨rfl, fun _ _ => rfl⟩) (ak (fun γ => ⟨rfl, fun w' _ => ex_subU (by have := hp.lo; omega) (r64 hp) rfl rfl rfl⟩) (ak (fun _ => ⟨rfl, fun _ _ => rfl⟩) (ak (fun γ => ⟨rfl, fun w' _ => ex_shrU (by omega) rfl rfl rfl⟩) (ak (fun γ => ⟨rfl, fun w' _ => ex_and1 rfl (Nat.lt_of_le_of_lt (Nat.div_le_self _ _) (Nat.lt_of_le_of_lt (Nat.sub_le _ _) (r64 hp))) rfl rfl⟩) (ak (fun γ => ⟨rfl, fun w' _ => ex_eqU rfl rfl rfl (decide_eq_false (hb))⟩) trivial)))))
      intro _ w14 H14
      clear H13
      refine rest0 rfl (then_normal (wp_cond_false rfl ?_))
      refine wp_skip (block_normal (then_normal ?_))
      refine walk_seqB 2 [.quiet (.int .i64 ((j : Nat) : Int)), .quiet (.int .i64 (((j : Nat) : Int) - 1))] H14 ?ho14 ?he14
      case ho14 => exact ak (fun _ => ⟨rfl, fun _ _ => rfl⟩) (ak (by refine fun γ => ⟨rfl, fun w' h => ?_⟩; clear h; go_simp; rw [IntKind.wrap_i64]; omega) trivial)
      intro _ w15 H15
      clear H14
      refine rest_at (l := [2]) rfl ?_
      refine rest_set (d := 7) rfl rfl rfl rfl ?_
      simp only [Act.put, sa, sz, ss]
      refine rest_nil (then_normal ?_)
      exact ⟨j, ⟨(slotfn [undef, undef, undef, undef, undef, undef, undef, undef, undef, undef, undef, undef, undef, undef, undef, undef, undef, .int .i64 ((j : Nat) : Int), .bool true, .int .i64 ((j : Nat) : Int), .int .i64 (((j : Nat) : Int) - 1), U (P (j + 1)), U (P (j + 1)), U r, U (tm r (P (j + 1)) (P (j + 1))), U r, U (r - 2), .int .i64 ((j : Nat) : Int), U ((r - 2) / 2 ^ j), U ((r - 2) / 2 ^ j % 2), .bool false, s0 31, s0 32, s0 33, s0 34, s0 35]), by rw [← h0 j hb]; rfl, ⟨H15.out.1, H15.out.2⟩, by omega⟩, by omega⟩
  have hk : k = 0 := by omega
  subst hk
  refine wp_seq (wp_seq ?_)
  refine walk_seqB 2 [.quiet (.int .i64 (((0 : Nat) : Int) - 1)), .quiet (.bool false)] H6 ?ho15 ?he15
  case ho15 => exact ak (fun _ => ⟨rfl, fun _ _ => rfl⟩) (ak (by refine fun γ => ⟨rfl, fun w' h => ?_⟩; clear h; go_simp) trivial)
  intro _ w16 H16
  clear H6
  refine rest0 rfl (then_normal (wp_cond_false rfl ?_))
  refine wp_exit ?_
  repeat refine then_exit ?_
  refine block_exit ?_
  refine then_normal (wp_seq ?_)
  refine walk_seqB 2 [.quiet (U (P 0)), .quiet (N (P 0))] H16 ?ho16 ?he16
  case ho16 => exact ak (fun _ => ⟨rfl, fun _ _ => rfl⟩) (ak (fun γ => ⟨rfl, fun w' _ => ex_bld1 (m := P 0) (lt64 hp (hlt' _)) rfl rfl rfl⟩) trivial)
  intro _ w17 H17
  clear H16
  refine rest_at (l := [2]) rfl ?_
  refine rest_store rfl rfl rfl (ex_store6 H17.out.1 1 rfl rfl rfl rfl (Nat.le_of_ble_eq_true rfl)) ?_
  have H18 : Hid (Mm (w17.setCells γ1_1 0 (cells6 (P 0))) [(γ1_0, cells6 a), (γ1_1, cells6 (P 0))] ∧ Below w.heap.size w (w17.setCells γ1_1 0 (cells6 (P 0)))) := ⟨H17.out.1.put 1 (off := 0) (vs := cells6 (P 0)) rfl (Nat.le_of_ble_eq_true rfl), below_setCells _ o1_1.out _ _ _ H17.out.2⟩
  clear H17
  generalize hgw : World.setCells _ _ _ _ = w18 at H18 ⊢
  clear hgw
  refine rest_nil (then_normal (wp_ret ?_))
  repeat (first | refine then_ret ?_ | refine block_ret ?_)
  have c0 := H18.out.1.get 1 rfl 0 rfl
  have c1 := H18.out.1.get 1 rfl 1 rfl
  have c2 := H18.out.1.get 1 rfl 2 rfl
  have c3 := H18.out.1.get 1 rfl 3 rfl
  have c4 := H18.out.1.get 1 rfl 4 rfl
  have c5 := H18.out.1.get 1 rfl 5 rfl
  refine bodyPost_ret (v := N (P 0)) (by simp [results, Tryd.results31, go_sem, *]) rfl ?_
  exact ⟨rfl, H18.out.2⟩
end
end Lt
end Rg
end Go.Proofs.YtfnmahjdkmgdkaaDoor
end
