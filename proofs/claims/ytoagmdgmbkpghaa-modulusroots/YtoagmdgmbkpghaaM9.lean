/- Pow -/
import Derived.Test.YtoagmdgmbkpghaaM8
import Derived.Test.YtoagmdgmbkpghaaA31
namespace Go.Proofs.Ytoagmdgmbkpghaa
open Go.RowKit
namespace Rg
theorem call34 : ∀ args w, (callFunc 34 args).run Try.prog w = .ok (.enter 34 args) w := by intro args w; go_simp

theorem Mm.at1 {w : World} {p : Nat × List Value} {g : Nat} {cs cs' : List Value} {l : List (Nat × List Value)} (h : Mm w (p :: (g, cs) :: l)) (e : cs = cs') : Mm w (p :: (g, cs') :: l) := e ▸ h
set_option maxHeartbeats 1000000 in
set_option maxRecDepth 100000 in
theorem pow_gen (g n o s a e b r l : Nat) (hl : l ≤ 384) (f q : Nat → Nat) (bv : Nat → Int) (fl : f l = o) (hbv : ∀ k, bv k = 1 ∨ bv k = 0) (fq : ∀ k, bv k = 0 → q k = f k)
    (cm : ∀ w, Mm w [(g, modx n o s)] → Calls Try.prog 15 #[PT g 0] w fun e w' => e = .returned (.bool true) ∧ Below w.heap.size w w')
    (cb : ∀ w, Mm w [(g, modx n o s)] → Calls Try.prog 33 #[PT g 0, N a, N s] w fun e w' => e = .returned (N b) ∧ Below w.heap.size w w')
    (cl : ∀ w, Calls Try.prog 12 #[N e] w fun e w' => e = .returned (.int .i64 ((l : Nat) : Int)) ∧ Below w.heap.size w w')
    (cs : ∀ k w, Mm w [(g, modx n o s)] → Calls Try.prog 33 #[PT g 0, N (f (k + 1)), N (f (k + 1))] w fun e w' => e = .returned (N (q k)) ∧ Below w.heap.size w w')
    (ci : ∀ k w, k + 1 ≤ 384 → Calls Try.prog 34 #[N e, .int .i64 (((k + 1 : Nat) : Int) - 1)] w fun e w' => e = .returned (.int .i64 (bv k)) ∧ Below w.heap.size w w')
    (cu : ∀ k, bv k = 1 → ∀ w, Mm w [(g, modx n o s)] → Calls Try.prog 33 #[PT g 0, N (q k), N b] w fun e w' => e = .returned (N (f k)) ∧ Below w.heap.size w w')
    (co : ∀ w, Calls Try.prog 11 #[.int .u64 1] w fun e w' => e = .returned (N 1) ∧ Below w.heap.size w w')
    (cr : ∀ w, Mm w [(g, modx n o s)] → Calls Try.prog 33 #[PT g 0, N (f 0), N 1] w fun e w' => e = .returned (N r) ∧ Below w.heap.size w w') (w : World) (hm : Mm w [(g, modx n o s)]) :
    Calls Try.prog 17 #[PT g 0, N a, N e] w fun e w' => e = .returned (N r) ∧ Below w.heap.size w w' := by
  have H0 : Hid (_ ∧ _) := ⟨hm, Below.refl w.heap.size w⟩
  clear hm
  have CK : Hid _ := cm
  have CB : Hid _ := cb
  have CL : Hid _ := cl
  have CS : Hid _ := cs
  have CI : Hid _ := ci
  have CM : Hid _ := cu
  have CO : Hid _ := co
  have CR : Hid _ := cr
  have FL : Hid _ := fl
  have HB : Hid _ := hbv
  have FQ : Hid _ := fq
  clear cm cb cl cs ci cu co cr fl hbv fq
  go_enter Try.func17, Try.ntmps17
  refine wp_seq ?_
  refine walk_seq 3 [.made (cells6 a) 24, .made (cells6 e) 24, .made zero6 24] (fun w' => Mm w' [(g, modx n o s)]) ?pre1 ?F1 ?hpre1 (fun γ => ?hF1) (by kernel_rfl) ?hL1 ?hS1 ?ho1 ?he1
  case hpre1 =>
    simp only [List.take_succ_cons, List.take_zero]
    exact rfl
  case hF1 =>
    simp only [fill, Kind.val, Act.put, List.setIfInBounds_toArray, List.set_cons_zero, List.set_cons_succ]
    exact rfl
  case hL1 => exact trivial
  case hS1 => exact fun w' hb => H0.out.1.below hb
  case ho1 =>
    refine AllOk.cons ?_ ?_
    · exact fun γ => ⟨rfl, fun w' => ex_box6 rfl rfl⟩
    refine AllOk.cons ?_ ?_
    · exact fun γ => ⟨rfl, fun w' => ex_box6 rfl rfl⟩
    refine AllOk.cons ?_ ?_
    · exact fun γ => ⟨rfl, fun w' => exec_made6 rfl⟩
    exact trivial
  intro γ w1 l hM hl
  have M1 : Mm w1 [(γ 0, cells6 a), (γ 1, cells6 e), (γ 2, zero6), (g, modx n o s)] := H0.out.1.grow hM (Nat.le_refl _) hl [0, 1, 2] rfl (by decide)
  have B1 : Below w.heap.size w w1 := H0.out.2.trans ((hM.below).mono H0.out.2.size)
  have o1_0 : Hid (w.heap.size ≤ γ 0) := Nat.le_trans H0.out.2.size (hM.fin (Nat.le_refl _) hl (i := 0) rfl).2.1
  have o1_1 : Hid (w.heap.size ≤ γ 1) := Nat.le_trans H0.out.2.size (hM.fin (Nat.le_refl _) hl (i := 1) rfl).2.1
  have o1_2 : Hid (w.heap.size ≤ γ 2) := Nat.le_trans H0.out.2.size (hM.fin (Nat.le_refl _) hl (i := 2) rfl).2.1
  clear hM hl l
  generalize γ 0 = γ1_0 at M1 o1_0 ⊢
  generalize γ 1 = γ1_1 at M1 o1_1 ⊢
  generalize γ 2 = γ1_2 at M1 o1_2 ⊢
  clear γ
  have H1 : Hid (_ ∧ _) := ⟨M1, B1⟩
  clear M1 B1
  refine rest_at (l := []) rfl ?_
  refine rest_nil ?_
  refine then_normal ?_
  refine wp_seq ?_
  refine wp_seq ?_
  refine walk_seq 3 [.quiet (PT g 0), .call (.bool true), .quiet (.bool false)] (fun w' => Mm w' [(γ1_0, cells6 a), (γ1_1, cells6 e), (γ1_2, zero6), (g, modx n o s)]) ?pre2 ?F2 ?hpre2 (fun γ => ?hF2) (by kernel_rfl) ?hL2 ?hS2 ?ho2 ?he2
  case hpre2 =>
    simp only [List.take_succ_cons, List.take_zero]
    exact rfl
  case hF2 =>
    simp only [fill, Kind.val, Act.put, List.setIfInBounds_toArray, List.set_cons_zero, List.set_cons_succ]
    exact rfl
  case hL2 => exact trivial
  case hS2 => exact fun w' hb => H1.out.1.below hb
  case ho2 =>
    refine AllOk.cons ?_ ?_
    · exact fun γ => ⟨rfl, fun w' _ => rfl⟩
    refine AllOk.cons ?_ ?_
    · exact fun γ => ⟨rfl, fun w' h => ⟨15, #[PT g 0], exec_call rfl call15 rfl (by simp only [List.map_toArray, List.map_cons, List.map_nil]; rfl), CK.out w' (h.one 3 rfl)⟩⟩
    refine AllOk.cons ?_ ?_
    · (refine fun γ => ⟨rfl, fun w' h => ?_⟩; clear h; go_simp)
    exact trivial
  intro γ w2 l hM hl
  have M2 : Mm w2 [(γ1_0, cells6 a), (γ1_1, cells6 e), (γ1_2, zero6), (g, modx n o s)] := H1.out.1.grow hM (Nat.le_refl _) hl [] rfl (by decide)
  have B2 : Below w.heap.size w w2 := H1.out.2.trans ((hM.below).mono H1.out.2.size)
  clear hM hl l H1
  clear γ
  have H2 : Hid (_ ∧ _) := ⟨M2, B2⟩
  clear M2 B2
  refine rest_at (l := []) rfl ?_
  refine rest_nil ?_
  refine then_normal ?_
  refine wp_cond_false rfl ?_
  refine wp_skip ?_
  refine then_normal ?_
  refine wp_seq ?_
  refine walk_any (by kernel_rfl) 15 [.quiet (PT g 0), .quiet (N a), .quiet (PT g 0), .quiet (PT g 0), .quiet (PT g 13), .quiet (N s), .call (N b), .quiet (PT g 0), .quiet (PT g 0), .quiet (PT g 7), .quiet (N o), .made zero6 24, .made zero6 24, .laid 11 zero6 (cells6 b), .laid 12 zero6 (cells6 o)] (fun w' => Mm w' [(γ1_0, cells6 a), (γ1_1, cells6 e), (γ1_2, zero6), (g, modx n o s)]) ?pre3 ?F3 ?hpre3 (fun γ => ?hF3) (by kernel_rfl) ?hL3 ?hS3 ?ho3 ?he3
  case hpre3 =>
    simp only [List.take_succ_cons, List.take_zero]
    exact rfl
  case hF3 =>
    simp only [fill, Kind.val, Act.put, List.setIfInBounds_toArray, List.set_cons_zero, List.set_cons_succ]
    exact rfl
  case hL3 => exact ⟨⟨_, rfl⟩, ⟨_, rfl⟩, trivial⟩
  case hS3 => exact fun w' hb => H2.out.1.below hb
  case ho3 =>
    refine AllOk.cons ?_ ?_
    · exact fun γ => ⟨rfl, fun w' _ => rfl⟩
    refine AllOk.cons ?_ ?_
    · exact fun γ => ⟨rfl, fun w' h => ex_load6 h 0 rfl rfl rfl rfl⟩
    refine AllOk.cons ?_ ?_
    · exact fun γ => ⟨rfl, fun w' _ => rfl⟩
    refine AllOk.cons ?_ ?_
    · (refine fun γ => ⟨rfl, fun w' h => ?_⟩; clear h; go_simp)
    refine AllOk.cons ?_ ?_
    · (refine fun γ => ⟨rfl, fun w' h => ?_⟩; clear h; go_simp)
    refine AllOk.cons ?_ ?_
    · exact fun γ => ⟨rfl, fun w' h => ex_load6 h 3 rfl rfl rfl rfl⟩
    refine AllOk.cons ?_ ?_
    · exact fun γ => ⟨rfl, fun w' h => ⟨33, #[PT g 0, N a, N s], exec_call rfl call33 rfl (by simp only [List.map_toArray, List.map_cons, List.map_nil]; rfl), CB.out w' (h.one 3 rfl)⟩⟩
    refine AllOk.cons ?_ ?_
    · exact fun γ => ⟨rfl, fun w' _ => rfl⟩
    refine AllOk.cons ?_ ?_
    · (refine fun γ => ⟨rfl, fun w' h => ?_⟩; clear h; go_simp)
    refine AllOk.cons ?_ ?_
    · (refine fun γ => ⟨rfl, fun w' h => ?_⟩; clear h; go_simp)
    refine AllOk.cons ?_ ?_
    · exact fun γ => ⟨rfl, fun w' h => ex_load6 h 3 rfl rfl rfl rfl⟩
    refine AllOk.cons ?_ ?_
    · exact fun γ => ⟨rfl, fun w' => exec_made6 rfl⟩
    refine AllOk.cons ?_ ?_
    · exact fun γ => ⟨rfl, fun w' => exec_made6 rfl⟩
    refine AllOk.cons ?_ ?_
    · exact fun γ => ⟨rfl, rfl, rfl, fun w' h => exec_laid6 h rfl rfl rfl⟩
    refine AllOk.cons ?_ ?_
    · exact fun γ => ⟨rfl, rfl, rfl, fun w' h => exec_laid6 h rfl rfl rfl⟩
    exact trivial
  intro γ w3 l hM hl
  have M3 : Mm w3 [(γ 11, cells6 b), (γ 12, cells6 o), (γ1_0, cells6 a), (γ1_1, cells6 e), (γ1_2, zero6), (g, modx n o s)] := H2.out.1.grow hM (Nat.le_refl _) hl [11, 12] rfl (by decide)
  have B3 : Below w.heap.size w w3 := H2.out.2.trans ((hM.below).mono H2.out.2.size)
  have o3_11 : Hid (w.heap.size ≤ γ 11) := Nat.le_trans H2.out.2.size (hM.fin (Nat.le_refl _) hl (i := 11) rfl).2.1
  have o3_12 : Hid (w.heap.size ≤ γ 12) := Nat.le_trans H2.out.2.size (hM.fin (Nat.le_refl _) hl (i := 12) rfl).2.1
  clear hM hl l H2
  generalize γ 11 = γ3_11 at M3 o3_11 ⊢
  generalize γ 12 = γ3_12 at M3 o3_12 ⊢
  clear γ
  have H3 : Hid (_ ∧ _) := ⟨M3, B3⟩
  clear M3 B3
  refine rest_at (l := []) rfl ?_
  refine rest_nil ?_
  refine then_normal ?_
  refine wp_seq ?_
  refine wp_seq ?_
  refine walk_seq 4 [.quiet (N e), .call (.int .i64 ((l : Nat) : Int)), .quiet (.int .i64 (((l : Nat) : Int) - 1)), .quiet (.int .i64 (((l : Nat) : Int) - 1))] (fun w' => Mm w' [(γ3_11, cells6 b), (γ3_12, cells6 o), (γ1_0, cells6 a), (γ1_1, cells6 e), (γ1_2, zero6), (g, modx n o s)]) ?pre4 ?F4 ?hpre4 (fun γ => ?hF4) (by kernel_rfl) ?hL4 ?hS4 ?ho4 ?he4
  case hpre4 =>
    simp only [List.take_succ_cons, List.take_zero]
    exact rfl
  case hF4 =>
    simp only [fill, Kind.val, Act.put, List.setIfInBounds_toArray, List.set_cons_zero, List.set_cons_succ]
    exact rfl
  case hL4 => exact trivial
  case hS4 => exact fun w' hb => H3.out.1.below hb
  case ho4 =>
    refine AllOk.cons ?_ ?_
    · exact fun γ => ⟨rfl, fun w' h => ex_load6 h 3 rfl rfl rfl rfl⟩
    refine AllOk.cons ?_ ?_
    · exact fun γ => ⟨rfl, fun w' h => ⟨12, #[N e], exec_call rfl call12 rfl (by simp only [List.map_toArray, List.map_cons, List.map_nil]; rfl), CL.out w'⟩⟩
    refine AllOk.cons ?_ ?_
    · (refine fun γ => ⟨rfl, fun w' h => ?_⟩; clear h; go_simp; rw [IntKind.wrap_i64]; omega)
    refine AllOk.cons ?_ ?_
    · exact fun γ => ⟨rfl, fun w' _ => rfl⟩
    exact trivial
  intro γ w4 l hM hl
  have M4 : Mm w4 [(γ3_11, cells6 b), (γ3_12, cells6 o), (γ1_0, cells6 a), (γ1_1, cells6 e), (γ1_2, zero6), (g, modx n o s)] := H3.out.1.grow hM (Nat.le_refl _) hl [] rfl (by decide)
  have B4 : Below w.heap.size w w4 := H3.out.2.trans ((hM.below).mono H3.out.2.size)
  clear hM hl l H3
  clear γ
  have H4 : Hid (_ ∧ _) := ⟨M4, B4⟩
  clear M4 B4
  refine rest_at (l := []) rfl ?_
  refine rest_nil ?_
  refine then_normal ?_
  refine wp_block ?_
  refine loop_ghost (α := Nat) (fun k a' w' => ∃ s0 : Nat → Value, a' = ⟨#[PT g 0, N a, N e, undef, PT γ1_0 0, PT γ1_1 0, PT γ1_2 0, PT γ3_11 0, PT γ3_12 0, .int .i64 (((k : Nat) : Int) - 1), PT g 0, .bool true, .bool false, undef, PT g 0, N a, PT g 0, PT g 0, PT g 13, N s, N b, PT g 0, PT g 0, PT g 7, N o, N e, .int .i64 ((l : Nat) : Int), .int .i64 (((l : Nat) : Int) - 1), s0 28, s0 29, s0 30, s0 31, s0 32, s0 33, s0 34, s0 35, s0 36, s0 37, s0 38, s0 39, s0 40, s0 41, s0 42, s0 43, undef, undef, undef, undef], []⟩ ∧ (Mm w' [(γ3_11, cells6 b), (γ3_12, cells6 (f k)), (γ1_0, cells6 a), (γ1_1, cells6 e), (γ1_2, zero6), (g, modx n o s)] ∧ Below w.heap.size w w') ∧ k ≤ l) (fun k => k) l ?st0 ?rd0
  case st0 => exact ⟨(slotfn [undef, undef, undef, undef, undef, undef, undef, undef, undef, undef, undef, undef, undef, undef, undef, undef, undef, undef, undef, undef, undef, undef, undef, undef, undef, undef, undef, undef, undef, undef, undef, undef, undef, undef, undef, undef, undef, undef, undef, undef, undef, undef, undef, undef]), rfl, ⟨H4.out.1.at1 (by rw [FL.out]), H4.out.2⟩, by omega⟩
  intro k a' w5 hI
  obtain ⟨s0, rfl, hMB, hk0⟩ := hI
  have H5 : Hid (_ ∧ _) := hMB
  clear hMB H4
  by_cases hlt : 1 ≤ k
  · have hrd : True := trivial
    clear hrd
    obtain ⟨j, rfl⟩ : ∃ j, k = j + 1 := ⟨k - 1, by omega⟩
    by_cases hb : bv j = 1
    · have hrd : True := trivial
      clear hrd
      have hb' : bv j = 1 := hb
      refine wp_seq ?_
      refine wp_seq ?_
      refine walk_seq 2 [.quiet (.int .i64 (((j + 1 : Nat) : Int) - 1)), .quiet (.bool true)] (fun w' => Mm w' [(γ3_11, cells6 b), (γ3_12, cells6 (f (j + 1))), (γ1_0, cells6 a), (γ1_1, cells6 e), (γ1_2, zero6), (g, modx n o s)]) ?pre5 ?F5 ?hpre5 (fun γ => ?hF5) (by kernel_rfl) ?hL5 ?hS5 ?ho5 ?he5
      case hpre5 =>
        simp only [List.take_succ_cons, List.take_zero]
        exact rfl
      case hF5 =>
        simp only [fill, Kind.val, Act.put, List.setIfInBounds_toArray, List.set_cons_zero, List.set_cons_succ]
        exact rfl
      case hL5 => exact trivial
      case hS5 => exact fun w' hb => H5.out.1.below hb
      case ho5 =>
        refine AllOk.cons ?_ ?_
        · exact fun γ => ⟨rfl, fun w' _ => rfl⟩
        refine AllOk.cons ?_ ?_
        · (refine fun γ => ⟨rfl, fun w' h => ?_⟩; clear h; go_simp <;> omega)
        exact trivial
      intro γ w6 l hM hl
      have M6 : Mm w6 [(γ3_11, cells6 b), (γ3_12, cells6 (f (j + 1))), (γ1_0, cells6 a), (γ1_1, cells6 e), (γ1_2, zero6), (g, modx n o s)] := H5.out.1.grow hM (Nat.le_refl _) hl [] rfl (by decide)
      have B6 : Below w.heap.size w w6 := H5.out.2.trans ((hM.below).mono H5.out.2.size)
      clear hM hl l H5
      clear γ
      have H6 : Hid (_ ∧ _) := ⟨M6, B6⟩
      clear M6 B6
      refine rest_at (l := []) rfl ?_
      refine rest_nil ?_
      refine then_normal ?_
      refine wp_cond_true rfl ?_
      refine wp_skip ?_
      refine then_normal ?_
      refine wp_seq ?_
      refine wp_block ?_
      refine wp_seq ?_
      refine walk_seq 4 [.quiet (PT g 0), .quiet (N (f (j + 1))), .quiet (N (f (j + 1))), .call (N (q j))] (fun w' => Mm w' [(γ3_11, cells6 b), (γ3_12, cells6 (f (j + 1))), (γ1_0, cells6 a), (γ1_1, cells6 e), (γ1_2, zero6), (g, modx n o s)]) ?pre6 ?F6 ?hpre6 (fun γ => ?hF6) (by kernel_rfl) ?hL6 ?hS6 ?ho6 ?he6
      case hpre6 =>
        simp only [List.take_succ_cons, List.take_zero]
        exact rfl
      case hF6 =>
        simp only [fill, Kind.val, Act.put, List.setIfInBounds_toArray, List.set_cons_zero, List.set_cons_succ]
        exact rfl
      case hL6 => exact trivial
      case hS6 => exact fun w' hb => H6.out.1.below hb
      case ho6 =>
        refine AllOk.cons ?_ ?_
        · exact fun γ => ⟨rfl, fun w' _ => rfl⟩
        refine AllOk.cons ?_ ?_
        · exact fun γ => ⟨rfl, fun w' h => ex_load6 h 1 rfl rfl rfl rfl⟩
        refine AllOk.cons ?_ ?_
        · exact fun γ => ⟨rfl, fun w' h => ex_load6 h 1 rfl rfl rfl rfl⟩
        refine AllOk.cons ?_ ?_
        · exact fun γ => ⟨rfl, fun w' h => ⟨33, #[PT g 0, N (f (j + 1)), N (f (j + 1))], exec_call rfl call33 rfl (by simp only [List.map_toArray, List.map_cons, List.map_nil]; rfl), CS.out j w' (h.one 5 rfl)⟩⟩
        exact trivial
      intro γ w7 l hM hl
      have M7 : Mm w7 [(γ3_11, cells6 b), (γ3_12, cells6 (f (j + 1))), (γ1_0, cells6 a), (γ1_1, cells6 e), (γ1_2, zero6), (g, modx n o s)] := H6.out.1.grow hM (Nat.le_refl _) hl [] rfl (by decide)
      have B7 : Below w.heap.size w w7 := H6.out.2.trans ((hM.below).mono H6.out.2.size)
      clear hM hl l H6
      clear γ
      have H7 : Hid (_ ∧ _) := ⟨M7, B7⟩
      clear M7 B7
      refine rest_at (l := [4]) rfl ?_
      refine rest_store rfl rfl rfl (ex_store6 H7.out.1 1 rfl rfl rfl rfl (Nat.le_of_ble_eq_true rfl)) ?_
      have H8 : Hid (Mm (w7.setCells γ3_12 0 (cells6 (q j))) [(γ3_11, cells6 b), (γ3_12, cells6 (q j)), (γ1_0, cells6 a), (γ1_1, cells6 e), (γ1_2, zero6), (g, modx n o s)] ∧ Below w.heap.size w (w7.setCells γ3_12 0 (cells6 (q j)))) := ⟨H7.out.1.put 1 (off := 0) (vs := cells6 (q j)) rfl (Nat.le_of_ble_eq_true rfl), below_setCells _ o3_12.out _ _ _ H7.out.2⟩
      clear H7
      generalize hgw : World.setCells _ _ _ _ = w8 at H8 ⊢
      clear hgw
      refine rest_nil ?_
      refine then_normal ?_
      refine wp_seq ?_
      refine walk_seq 4 [.quiet (N e), .quiet (.int .i64 (((j + 1 : Nat) : Int) - 1)), .call (.int .i64 (bv j)), .quiet (.bool true)] (fun w' => Mm w' [(γ3_11, cells6 b), (γ3_12, cells6 (q j)), (γ1_0, cells6 a), (γ1_1, cells6 e), (γ1_2, zero6), (g, modx n o s)]) ?pre7 ?F7 ?hpre7 (fun γ => ?hF7) (by kernel_rfl) ?hL7 ?hS7 ?ho7 ?he7
      case hpre7 =>
        simp only [List.take_succ_cons, List.take_zero]
        exact rfl
      case hF7 =>
        simp only [fill, Kind.val, Act.put, List.setIfInBounds_toArray, List.set_cons_zero, List.set_cons_succ]
        exact rfl
      case hL7 => exact trivial
      case hS7 => exact fun w' hb => H8.out.1.below hb
      case ho7 =>
        refine AllOk.cons ?_ ?_
        · exact fun γ => ⟨rfl, fun w' h => ex_load6 h 3 rfl rfl rfl rfl⟩
        refine AllOk.cons ?_ ?_
        · exact fun γ => ⟨rfl, fun w' _ => rfl⟩
        refine AllOk.cons ?_ ?_
        · exact fun γ => ⟨rfl, fun w' h => ⟨34, #[N e, .int .i64 (((j + 1 : Nat) : Int) - 1)], exec_call rfl call34 rfl (by simp only [List.map_toArray, List.map_cons, List.map_nil]; rfl), CI.out j w' (by omega)⟩⟩
        refine AllOk.cons ?_ ?_
        · (refine fun γ => ⟨rfl, fun w' h => ?_⟩; clear h; go_simp <;> omega)
        exact trivial
      intro γ w9 l hM hl
      have M9 : Mm w9 [(γ3_11, cells6 b), (γ3_12, cells6 (q j)), (γ1_0, cells6 a), (γ1_1, cells6 e), (γ1_2, zero6), (g, modx n o s)] := H8.out.1.grow hM (Nat.le_refl _) hl [] rfl (by decide)
      have B9 : Below w.heap.size w w9 := H8.out.2.trans ((hM.below).mono H8.out.2.size)
      clear hM hl l H8
      clear γ
      have H9 : Hid (_ ∧ _) := ⟨M9, B9⟩
      clear M9 B9
      refine rest_at (l := []) rfl ?_
      refine rest_nil ?_
      refine then_normal ?_
      refine wp_cond_true rfl ?_
      refine walk_seq 4 [.quiet (PT g 0), .quiet (N (q j)), .quiet (N b), .call (N (f j))] (fun w' => Mm w' [(γ3_11, cells6 b), (γ3_12, cells6 (q j)), (γ1_0, cells6 a), (γ1_1, cells6 e), (γ1_2, zero6), (g, modx n o s)]) ?pre8 ?F8 ?hpre8 (fun γ => ?hF8) (by kernel_rfl) ?hL8 ?hS8 ?ho8 ?he8
      case hpre8 =>
        simp only [List.take_succ_cons, List.take_zero]
        exact rfl
      case hF8 =>
        simp only [fill, Kind.val, Act.put, List.setIfInBounds_toArray, List.set_cons_zero, List.set_cons_succ]
        exact rfl
      case hL8 => exact trivial
      case hS8 => exact fun w' hb => H9.out.1.below hb
      case ho8 =>
        refine AllOk.cons ?_ ?_
        · exact fun γ => ⟨rfl, fun w' _ => rfl⟩
        refine AllOk.cons ?_ ?_
        · exact fun γ => ⟨rfl, fun w' h => ex_load6 h 1 rfl rfl rfl rfl⟩
        refine AllOk.cons ?_ ?_
        · exact fun γ => ⟨rfl, fun w' h => ex_load6 h 0 rfl rfl rfl rfl⟩
        refine AllOk.cons ?_ ?_
        · exact fun γ => ⟨rfl, fun w' h => ⟨33, #[PT g 0, N (q j), N b], exec_call rfl call33 rfl (by simp only [List.map_toArray, List.map_cons, List.map_nil]; rfl), CM.out j hb' w' (h.one 5 rfl)⟩⟩
        exact trivial
      intro γ w10 l hM hl
      have M10 : Mm w10 [(γ3_11, cells6 b), (γ3_12, cells6 (q j)), (γ1_0, cells6 a), (γ1_1, cells6 e), (γ1_2, zero6), (g, modx n o s)] := H9.out.1.grow hM (Nat.le_refl _) hl [] rfl (by decide)
      have B10 : Below w.heap.size w w10 := H9.out.2.trans ((hM.below).mono H9.out.2.size)
      clear hM hl l H9
      clear γ
      have H10 : Hid (_ ∧ _) := ⟨M10, B10⟩
      clear M10 B10
      refine rest_at (l := [4]) rfl ?_
      refine rest_store rfl rfl rfl (ex_store6 H10.out.1 1 rfl rfl rfl rfl (Nat.le_of_ble_eq_true rfl)) ?_
      have H11 : Hid (Mm (w10.setCells γ3_12 0 (cells6 (f j))) [(γ3_11, cells6 b), (γ3_12, cells6 (f j)), (γ1_0, cells6 a), (γ1_1, cells6 e), (γ1_2, zero6), (g, modx n o s)] ∧ Below w.heap.size w (w10.setCells γ3_12 0 (cells6 (f j)))) := ⟨H10.out.1.put 1 (off := 0) (vs := cells6 (f j)) rfl (Nat.le_of_ble_eq_true rfl), below_setCells _ o3_12.out _ _ _ H10.out.2⟩
      clear H10
      generalize hgw : World.setCells _ _ _ _ = w11 at H11 ⊢
      clear hgw
      refine rest_nil ?_
      refine block_normal ?_
      refine then_normal ?_
      refine walk_seq 2 [.quiet (.int .i64 (((j + 1 : Nat) : Int) - 1)), .quiet (.int .i64 (((j : Nat) : Int) - 1))] (fun w' => Mm w' [(γ3_11, cells6 b), (γ3_12, cells6 (f j)), (γ1_0, cells6 a), (γ1_1, cells6 e), (γ1_2, zero6), (g, modx n o s)]) ?pre9 ?F9 ?hpre9 (fun γ => ?hF9) (by kernel_rfl) ?hL9 ?hS9 ?ho9 ?he9
      case hpre9 =>
        simp only [List.take_succ_cons, List.take_zero]
        exact rfl
      case hF9 =>
        simp only [fill, Kind.val, Act.put, List.setIfInBounds_toArray, List.set_cons_zero, List.set_cons_succ]
        exact rfl
      case hL9 => exact trivial
      case hS9 => exact fun w' hb => H11.out.1.below hb
      case ho9 =>
        refine AllOk.cons ?_ ?_
        · exact fun γ => ⟨rfl, fun w' _ => rfl⟩
        refine AllOk.cons ?_ ?_
        · (refine fun γ => ⟨rfl, fun w' h => ?_⟩; clear h; go_simp; rw [IntKind.wrap_i64]; omega)
        exact trivial
      intro γ w12 l hM hl
      have M12 : Mm w12 [(γ3_11, cells6 b), (γ3_12, cells6 (f j)), (γ1_0, cells6 a), (γ1_1, cells6 e), (γ1_2, zero6), (g, modx n o s)] := H11.out.1.grow hM (Nat.le_refl _) hl [] rfl (by decide)
      have B12 : Below w.heap.size w w12 := H11.out.2.trans ((hM.below).mono H11.out.2.size)
      clear hM hl l H11
      clear γ
      have H12 : Hid (_ ∧ _) := ⟨M12, B12⟩
      clear M12 B12
      refine rest_at (l := [2]) rfl ?_
      refine rest_set (d := 9) rfl rfl rfl rfl ?_
      simp only [Act.put, List.setIfInBounds_toArray, List.set_cons_zero, List.set_cons_succ]
      refine rest_nil ?_
      refine then_normal ?_
      exact ⟨j, ⟨(slotfn [undef, undef, undef, undef, undef, undef, undef, undef, undef, undef, undef, undef, undef, undef, undef, undef, undef, undef, undef, undef, undef, undef, undef, undef, undef, undef, undef, undef, .int .i64 (((j + 1 : Nat) : Int) - 1), .bool true, .int .i64 (((j + 1 : Nat) : Int) - 1), .int .i64 (((j : Nat) : Int) - 1), PT g 0, N (f (j + 1)), N (f (j + 1)), N (q j), N e, .int .i64 (((j + 1 : Nat) : Int) - 1), .int .i64 (bv j), .bool true, PT g 0, N (q j), N b, N (f j)]), rfl, ⟨H12.out.1, H12.out.2⟩, by omega⟩, by omega⟩
    · have hrd : True := trivial
      clear hrd
      have hb' : bv j = 0 := (HB.out j).resolve_left hb
      have HQ : Hid _ := FQ.out j hb'
      refine wp_seq ?_
      refine wp_seq ?_
      refine walk_seq 2 [.quiet (.int .i64 (((j + 1 : Nat) : Int) - 1)), .quiet (.bool true)] (fun w' => Mm w' [(γ3_11, cells6 b), (γ3_12, cells6 (f (j + 1))), (γ1_0, cells6 a), (γ1_1, cells6 e), (γ1_2, zero6), (g, modx n o s)]) ?pre10 ?F10 ?hpre10 (fun γ => ?hF10) (by kernel_rfl) ?hL10 ?hS10 ?ho10 ?he10
      case hpre10 =>
        simp only [List.take_succ_cons, List.take_zero]
        exact rfl
      case hF10 =>
        simp only [fill, Kind.val, Act.put, List.setIfInBounds_toArray, List.set_cons_zero, List.set_cons_succ]
        exact rfl
      case hL10 => exact trivial
      case hS10 => exact fun w' hb => H5.out.1.below hb
      case ho10 =>
        refine AllOk.cons ?_ ?_
        · exact fun γ => ⟨rfl, fun w' _ => rfl⟩
        refine AllOk.cons ?_ ?_
        · (refine fun γ => ⟨rfl, fun w' h => ?_⟩; clear h; go_simp <;> omega)
        exact trivial
      intro γ w13 l hM hl
      have M13 : Mm w13 [(γ3_11, cells6 b), (γ3_12, cells6 (f (j + 1))), (γ1_0, cells6 a), (γ1_1, cells6 e), (γ1_2, zero6), (g, modx n o s)] := H5.out.1.grow hM (Nat.le_refl _) hl [] rfl (by decide)
      have B13 : Below w.heap.size w w13 := H5.out.2.trans ((hM.below).mono H5.out.2.size)
      clear hM hl l H5
      clear γ
      have H13 : Hid (_ ∧ _) := ⟨M13, B13⟩
      clear M13 B13
      refine rest_at (l := []) rfl ?_
      refine rest_nil ?_
      refine then_normal ?_
      refine wp_cond_true rfl ?_
      refine wp_skip ?_
      refine then_normal ?_
      refine wp_seq ?_
      refine wp_block ?_
      refine wp_seq ?_
      refine walk_seq 4 [.quiet (PT g 0), .quiet (N (f (j + 1))), .quiet (N (f (j + 1))), .call (N (q j))] (fun w' => Mm w' [(γ3_11, cells6 b), (γ3_12, cells6 (f (j + 1))), (γ1_0, cells6 a), (γ1_1, cells6 e), (γ1_2, zero6), (g, modx n o s)]) ?pre11 ?F11 ?hpre11 (fun γ => ?hF11) (by kernel_rfl) ?hL11 ?hS11 ?ho11 ?he11
      case hpre11 =>
        simp only [List.take_succ_cons, List.take_zero]
        exact rfl
      case hF11 =>
        simp only [fill, Kind.val, Act.put, List.setIfInBounds_toArray, List.set_cons_zero, List.set_cons_succ]
        exact rfl
      case hL11 => exact trivial
      case hS11 => exact fun w' hb => H13.out.1.below hb
      case ho11 =>
        refine AllOk.cons ?_ ?_
        · exact fun γ => ⟨rfl, fun w' _ => rfl⟩
        refine AllOk.cons ?_ ?_
        · exact fun γ => ⟨rfl, fun w' h => ex_load6 h 1 rfl rfl rfl rfl⟩
        refine AllOk.cons ?_ ?_
        · exact fun γ => ⟨rfl, fun w' h => ex_load6 h 1 rfl rfl rfl rfl⟩
        refine AllOk.cons ?_ ?_
        · exact fun γ => ⟨rfl, fun w' h => ⟨33, #[PT g 0, N (f (j + 1)), N (f (j + 1))], exec_call rfl call33 rfl (by simp only [List.map_toArray, List.map_cons, List.map_nil]; rfl), CS.out j w' (h.one 5 rfl)⟩⟩
        exact trivial
      intro γ w14 l hM hl
      have M14 : Mm w14 [(γ3_11, cells6 b), (γ3_12, cells6 (f (j + 1))), (γ1_0, cells6 a), (γ1_1, cells6 e), (γ1_2, zero6), (g, modx n o s)] := H13.out.1.grow hM (Nat.le_refl _) hl [] rfl (by decide)
      have B14 : Below w.heap.size w w14 := H13.out.2.trans ((hM.below).mono H13.out.2.size)
      clear hM hl l H13
      clear γ
      have H14 : Hid (_ ∧ _) := ⟨M14, B14⟩
      clear M14 B14
      refine rest_at (l := [4]) rfl ?_
      refine rest_store rfl rfl rfl (ex_store6 H14.out.1 1 rfl rfl rfl rfl (Nat.le_of_ble_eq_true rfl)) ?_
      have H15 : Hid (Mm (w14.setCells γ3_12 0 (cells6 (q j))) [(γ3_11, cells6 b), (γ3_12, cells6 (q j)), (γ1_0, cells6 a), (γ1_1, cells6 e), (γ1_2, zero6), (g, modx n o s)] ∧ Below w.heap.size w (w14.setCells γ3_12 0 (cells6 (q j)))) := ⟨H14.out.1.put 1 (off := 0) (vs := cells6 (q j)) rfl (Nat.le_of_ble_eq_true rfl), below_setCells _ o3_12.out _ _ _ H14.out.2⟩
      clear H14
      generalize hgw : World.setCells _ _ _ _ = w15 at H15 ⊢
      clear hgw
      refine rest_nil ?_
      refine then_normal ?_
      refine wp_seq ?_
      refine walk_seq 4 [.quiet (N e), .quiet (.int .i64 (((j + 1 : Nat) : Int) - 1)), .call (.int .i64 (bv j)), .quiet (.bool false)] (fun w' => Mm w' [(γ3_11, cells6 b), (γ3_12, cells6 (q j)), (γ1_0, cells6 a), (γ1_1, cells6 e), (γ1_2, zero6), (g, modx n o s)]) ?pre12 ?F12 ?hpre12 (fun γ => ?hF12) (by kernel_rfl) ?hL12 ?hS12 ?ho12 ?he12
      case hpre12 =>
        simp only [List.take_succ_cons, List.take_zero]
        exact rfl
      case hF12 =>
        simp only [fill, Kind.val, Act.put, List.setIfInBounds_toArray, List.set_cons_zero, List.set_cons_succ]
        exact rfl
      case hL12 => exact trivial
      case hS12 => exact fun w' hb => H15.out.1.below hb
      case ho12 =>
        refine AllOk.cons ?_ ?_
        · exact fun γ => ⟨rfl, fun w' h => ex_load6 h 3 rfl rfl rfl rfl⟩
        refine AllOk.cons ?_ ?_
        · exact fun γ => ⟨rfl, fun w' _ => rfl⟩
        refine AllOk.cons ?_ ?_
        · exact fun γ => ⟨rfl, fun w' h => ⟨34, #[N e, .int .i64 (((j + 1 : Nat) : Int) - 1)], exec_call rfl call34 rfl (by simp only [List.map_toArray, List.map_cons, List.map_nil]; rfl), CI.out j w' (by omega)⟩⟩
        refine AllOk.cons ?_ ?_
        · (refine fun γ => ⟨rfl, fun w' h => ?_⟩; clear h; go_simp <;> omega)
        exact trivial
      intro γ w16 l hM hl
      have M16 : Mm w16 [(γ3_11, cells6 b), (γ3_12, cells6 (q j)), (γ1_0, cells6 a), (γ1_1, cells6 e), (γ1_2, zero6), (g, modx n o s)] := H15.out.1.grow hM (Nat.le_refl _) hl [] rfl (by decide)
      have B16 : Below w.heap.size w w16 := H15.out.2.trans ((hM.below).mono H15.out.2.size)
      clear hM hl l H15
      clear γ
      have H16 : Hid (_ ∧ _) := ⟨M16, B16⟩
      clear M16 B16
      refine rest_at (l := []) rfl ?_
      refine rest_nil ?_
      refine then_normal ?_
      refine wp_cond_false rfl ?_
      refine wp_skip ?_
      refine block_normal ?_
      refine then_normal ?_
      refine walk_seq 2 [.quiet (.int .i64 (((j + 1 : Nat) : Int) - 1)), .quiet (.int .i64 (((j : Nat) : Int) - 1))] (fun w' => Mm w' [(γ3_11, cells6 b), (γ3_12, cells6 (q j)), (γ1_0, cells6 a), (γ1_1, cells6 e), (γ1_2, zero6), (g, modx n o s)]) ?pre13 ?F13 ?hpre13 (fun γ => ?hF13) (by kernel_rfl) ?hL13 ?hS13 ?ho13 ?he13
      case hpre13 =>
        simp only [List.take_succ_cons, List.take_zero]
        exact rfl
      case hF13 =>
        simp only [fill, Kind.val, Act.put, List.setIfInBounds_toArray, List.set_cons_zero, List.set_cons_succ]
        exact rfl
      case hL13 => exact trivial
      case hS13 => exact fun w' hb => H16.out.1.below hb
      case ho13 =>
        refine AllOk.cons ?_ ?_
        · exact fun γ => ⟨rfl, fun w' _ => rfl⟩
        refine AllOk.cons ?_ ?_
        · (refine fun γ => ⟨rfl, fun w' h => ?_⟩; clear h; go_simp; rw [IntKind.wrap_i64]; omega)
        exact trivial
      intro γ w17 l hM hl
      have M17 : Mm w17 [(γ3_11, cells6 b), (γ3_12, cells6 (q j)), (γ1_0, cells6 a), (γ1_1, cells6 e), (γ1_2, zero6), (g, modx n o s)] := H16.out.1.grow hM (Nat.le_refl _) hl [] rfl (by decide)
      have B17 : Below w.heap.size w w17 := H16.out.2.trans ((hM.below).mono H16.out.2.size)
      clear hM hl l H16
      clear γ
      have H17 : Hid (_ ∧ _) := ⟨M17, B17⟩
      clear M17 B17
      refine rest_at (l := [2]) rfl ?_
      refine rest_set (d := 9) rfl rfl rfl rfl ?_
      simp only [Act.put, List.setIfInBounds_toArray, List.set_cons_zero, List.set_cons_succ]
      refine rest_nil ?_
      refine then_normal ?_
      exact ⟨j, ⟨(slotfn [undef, undef, undef, undef, undef, undef, undef, undef, undef, undef, undef, undef, undef, undef, undef, undef, undef, undef, undef, undef, undef, undef, undef, undef, undef, undef, undef, undef, .int .i64 (((j + 1 : Nat) : Int) - 1), .bool true, .int .i64 (((j + 1 : Nat) : Int) - 1), .int .i64 (((j : Nat) : Int) - 1), PT g 0, N (f (j + 1)), N (f (j + 1)), N (q j), N e, .int .i64 (((j + 1 : Nat) : Int) - 1), .int .i64 (bv j), .bool false, s0 40, s0 41, s0 42, s0 43]), rfl, ⟨by rw [← HQ.out]; exact H17.out.1, H17.out.2⟩, by omega⟩, by omega⟩
  have hk0 : k = 0 := by omega
  subst hk0
  refine wp_seq ?_
  refine wp_seq ?_
  refine walk_seq 2 [.quiet (.int .i64 (((0 : Nat) : Int) - 1)), .quiet (.bool false)] (fun w' => Mm w' [(γ3_11, cells6 b), (γ3_12, cells6 (f 0)), (γ1_0, cells6 a), (γ1_1, cells6 e), (γ1_2, zero6), (g, modx n o s)]) ?pre14 ?F14 ?hpre14 (fun γ => ?hF14) (by kernel_rfl) ?hL14 ?hS14 ?ho14 ?he14
  case hpre14 =>
    simp only [List.take_succ_cons, List.take_zero]
    exact rfl
  case hF14 =>
    simp only [fill, Kind.val, Act.put, List.setIfInBounds_toArray, List.set_cons_zero, List.set_cons_succ]
    exact rfl
  case hL14 => exact trivial
  case hS14 => exact fun w' hb => H5.out.1.below hb
  case ho14 =>
    refine AllOk.cons ?_ ?_
    · exact fun γ => ⟨rfl, fun w' _ => rfl⟩
    refine AllOk.cons ?_ ?_
    · (refine fun γ => ⟨rfl, fun w' h => ?_⟩; clear h; go_simp <;> omega)
    exact trivial
  intro γ w18 l hM hl
  have M18 : Mm w18 [(γ3_11, cells6 b), (γ3_12, cells6 (f 0)), (γ1_0, cells6 a), (γ1_1, cells6 e), (γ1_2, zero6), (g, modx n o s)] := H5.out.1.grow hM (Nat.le_refl _) hl [] rfl (by decide)
  have B18 : Below w.heap.size w w18 := H5.out.2.trans ((hM.below).mono H5.out.2.size)
  clear hM hl l H5
  clear γ
  have H18 : Hid (_ ∧ _) := ⟨M18, B18⟩
  clear M18 B18
  refine rest_at (l := []) rfl ?_
  refine rest_nil ?_
  refine then_normal ?_
  refine wp_cond_false rfl ?_
  refine wp_exit ?_
  repeat refine then_exit ?_
  refine block_exit ?_
  refine then_normal ?_
  refine wp_seq ?_
  refine walk_any (by kernel_rfl) 4 [.quiet (PT g 0), .quiet (N (f 0)), .call (N 1), .call (N r)] (fun w' => Mm w' [(γ3_11, cells6 b), (γ3_12, cells6 (f 0)), (γ1_0, cells6 a), (γ1_1, cells6 e), (γ1_2, zero6), (g, modx n o s)]) ?pre15 ?F15 ?hpre15 (fun γ => ?hF15) (by kernel_rfl) ?hL15 ?hS15 ?ho15 ?he15
  case hpre15 =>
    simp only [List.take_succ_cons, List.take_zero]
    exact rfl
  case hF15 =>
    simp only [fill, Kind.val, Act.put, List.setIfInBounds_toArray, List.set_cons_zero, List.set_cons_succ]
    exact rfl
  case hL15 => exact trivial
  case hS15 => exact fun w' hb => H18.out.1.below hb
  case ho15 =>
    refine AllOk.cons ?_ ?_
    · exact fun γ => ⟨rfl, fun w' _ => rfl⟩
    refine AllOk.cons ?_ ?_
    · exact fun γ => ⟨rfl, fun w' h => ex_load6 h 1 rfl rfl rfl rfl⟩
    refine AllOk.cons ?_ ?_
    · exact fun γ => ⟨rfl, fun w' h => ⟨11, #[.int .u64 1], exec_call rfl call11 rfl (by simp only [List.map_toArray, List.map_cons, List.map_nil]; rfl), CO.out w'⟩⟩
    refine AllOk.cons ?_ ?_
    · exact fun γ => ⟨rfl, fun w' h => ⟨33, #[PT g 0, N (f 0), N 1], exec_call rfl call33 rfl (by simp only [List.map_toArray, List.map_cons, List.map_nil]; rfl), CR.out w' (h.one 5 rfl)⟩⟩
    exact trivial
  intro γ w19 l hM hl
  have M19 : Mm w19 [(γ3_11, cells6 b), (γ3_12, cells6 (f 0)), (γ1_0, cells6 a), (γ1_1, cells6 e), (γ1_2, zero6), (g, modx n o s)] := H18.out.1.grow hM (Nat.le_refl _) hl [] rfl (by decide)
  have B19 : Below w.heap.size w w19 := H18.out.2.trans ((hM.below).mono H18.out.2.size)
  clear hM hl l H18
  clear γ
  have H19 : Hid (_ ∧ _) := ⟨M19, B19⟩
  clear M19 B19
  refine rest_at (l := [4]) rfl ?_
  refine rest_store rfl rfl rfl (ex_store6 H19.out.1 4 rfl rfl rfl rfl (Nat.le_of_ble_eq_true rfl)) ?_
  have H20 : Hid (Mm (w19.setCells γ1_2 0 (cells6 r)) [(γ3_11, cells6 b), (γ3_12, cells6 (f 0)), (γ1_0, cells6 a), (γ1_1, cells6 e), (γ1_2, cells6 r), (g, modx n o s)] ∧ Below w.heap.size w (w19.setCells γ1_2 0 (cells6 r))) := ⟨H19.out.1.put 4 (off := 0) (vs := cells6 r) rfl (Nat.le_of_ble_eq_true rfl), below_setCells _ o1_2.out _ _ _ H19.out.2⟩
  clear H19
  generalize hgw : World.setCells _ _ _ _ = w20 at H20 ⊢
  clear hgw
  refine rest_nil ?_
  refine then_normal ?_
  refine wp_ret ?_
  repeat (first | refine then_ret ?_ | refine block_ret ?_)
  have c0 := H20.out.1.get 4 rfl 0 rfl
  have c1 := H20.out.1.get 4 rfl 1 rfl
  have c2 := H20.out.1.get 4 rfl 2 rfl
  have c3 := H20.out.1.get 4 rfl 3 rfl
  have c4 := H20.out.1.get 4 rfl 4 rfl
  have c5 := H20.out.1.get 4 rfl 5 rfl
  refine bodyPost_ret (v := N r) (by simp [results, Try.results17, go_sem, *]) rfl ?_
  exact ⟨rfl, H20.out.2⟩

theorem mont_bb {n : Nat} (ok : Ok n) (x y : Nat) : mont n (x * big % n) (y * big % n) = x * y * big % n := by
  rw [mont_big ok]
  refine Cg.eq_mod (n := n) ?_ (Nat.mod_lt _ ok.pos)
  refine (Cg.mod _ _).trans (((Cg.mod n (x * big)).mulR y).trans ?_)
  rw [Nat.mul_right_comm]; exact Cg.refl _ _
theorem mont_out {n : Nat} (ok : Ok n) (x : Nat) : mont n (x * big % n) 1 = x % n := by
  have h := mont_big ok 1 x
  rw [Nat.one_mul] at h
  rw [← h]
  unfold mont
  rw [Nat.mul_one, Nat.one_mul]
theorem bit_cases (e k : Nat) : bitv e k = 1 ∨ bitv e k = 0 := by unfold bitv; omega
theorem half_step (e k : Nat) : e / 2 ^ k = 2 * (e / 2 ^ (k + 1)) + e / 2 ^ k % 2 := by
  rw [Nat.pow_succ, ← Nat.div_div_eq_div_mul]; omega
theorem powm_any {g n : Nat} (ok : Ok n) {a e : Nat} (ha : a < big) (he : e < big) (w : World) (hm : Mm w [(g, modc n)]) :
    Calls Try.prog 17 #[PT g 0, N a, N e] w fun r w' => r = .returned (N (a ^ e % n)) ∧ Below w.heap.size w w' := by
  have hl : bl e ≤ 384 := by
    obtain ⟨m, hm, h⟩ := big_pow
    rw [h] at he
    have := bl_le_of e _ he
    omega
  have cb := fun w hm => product_any g n (big % n) (big * big % n) a (big * big % n) ok ha (Nat.mod_lt _ ok.pos) w hm
  rw [mont_big ok] at cb
  have cr := fun w hm => product_any g n (big % n) (big * big % n) (a ^ (e / 2 ^ 0) * big % n) 1 ok (okLt ok _) (by have := ok.three; omega) w hm
  rw [mont_out ok, Nat.pow_zero, Nat.div_one] at cr
  refine pow_gen g n (big % n) (big * big % n) a e (a * big % n) (a ^ e % n) (bl e) hl (fun k => a ^ (e / 2 ^ k) * big % n) (fun k => a ^ (2 * (e / 2 ^ (k + 1))) * big % n) (fun k => bitv e k) ?_ (bit_cases e) (fun k hk => ?_) (fun w hm => madeC ok w hm) cb (fun w => len_any e he w) (fun k w hm => ?_) (fun k w hk => ?_) (fun k hk w hm => ?_) (fun w => of_any 1 (by decide) w) (fun w hm => ?_) w hm
  · simp only [Nat.div_eq_of_lt (bl_lt e), Nat.pow_zero, Nat.one_mul]
  · have h2 : e / 2 ^ k % 2 = 0 := by unfold bitv at hk; omega
    have h3 := half_step e k
    rw [h2, Nat.add_zero] at h3
    simp only [← h3]
  · have h := product_any g n (big % n) (big * big % n) (a ^ (e / 2 ^ (k + 1)) * big % n) (a ^ (e / 2 ^ (k + 1)) * big % n) ok (okLt ok _) (Nat.mod_lt _ ok.pos) w hm
    rw [mont_bb ok, ← Nat.pow_add, ← Nat.two_mul] at h
    exact h
  · have h := bit_in e k (by omega) w
    rw [show (((k + 1 : Nat) : Int) - 1) = ((k : Nat) : Int) by omega]
    exact h
  · have h := product_any g n (big % n) (big * big % n) (a ^ (2 * (e / 2 ^ (k + 1))) * big % n) (a * big % n) ok (okLt ok _) (Nat.mod_lt _ ok.pos) w hm
    have h2 : e / 2 ^ k % 2 = 1 := by unfold bitv at hk; omega
    have h3 := half_step e k
    rw [h2] at h3
    have h4 : a ^ (2 * (e / 2 ^ (k + 1))) * a = a ^ (e / 2 ^ k) := by rw [h3]; exact (Nat.pow_succ ..).symm
    rw [mont_bb ok, h4] at h
    exact h
  · rw [Nat.pow_zero, Nat.div_one]
    exact cr w hm
end Rg
end Go.Proofs.Ytoagmdgmbkpghaa
