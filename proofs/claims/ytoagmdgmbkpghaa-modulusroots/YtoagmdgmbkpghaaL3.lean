/- The leading divisor: step and double, walked with contracts -/
import Derived.Test.YtoagmdgmbkpghaaL2
namespace Go.Proofs.Ytoagmdgmbkpghaa
open Go.RowKit
namespace Rg

theorem Kp.join {g : Nat} {a b c : World} (h : Kp g a b) (k : Kp g b c) : Kp g a c :=
  ⟨k.os.trans h.os, k.tape.trans h.tape, k.output.trans h.output, Nat.le_trans h.size k.size, fun i hi hg => (k.block i (Nat.lt_of_lt_of_le hi h.size) hg).trans (h.block i hi hg)⟩
set_option maxHeartbeats 1000000 in
set_option maxRecDepth 100000 in
theorem step_gen (g b L L1 a0 t T D : Nat) (i : Int) (f : Nat → Nat) (A : Nat → Int) (cr : Nat → Bool)
    (h00 : A 0 = 0) (hN : ∀ x, x + 1 ≤ D → ¬ A (x + 1) = 0) (hD : IntKind.u64.wrap (((a0 : Nat) : Int) - ((T : Nat) : Int)) = A D)
    (hT : ∀ x, cr x = true → IntKind.u64.wrap (A (x + 1) + 1) = A x) (hF : ∀ x, cr x = false → A (x + 1) = A x)
    (cs : ∀ w, Mm w [(g, lec b (wd L))] → Calls Try.prog 50 #[PT g 0, .int .i64 i] w fun e w' => e = .returned (.int .u64 ((a0 : Nat) : Int)) ∧ Mm w' [(g, lec b (wd L1))] ∧ Kp g w w')
    (cg : ∀ w, Calls Try.prog 52 #[.int .u64 ((a0 : Nat) : Int), .int .u64 (wd L1 5), .int .u64 (wd b 5)] w fun e w' => e = .returned (.int .u64 ((t : Nat) : Int)) ∧ Below w.heap.size w w')
    (ct : ∀ w, Mm w [(g, lec b (wd L1))] → Calls Try.prog 51 #[PT g 0, .int .u64 ((t : Nat) : Int)] w fun e w' => e = .returned (.int .u64 ((T : Nat) : Int)) ∧ Mm w' [(g, lec b (wd (f D)))] ∧ Kp g w w')
    (ca : ∀ x w, Calls Try.prog 16 #[N (f (x + 1)), N b] w fun e w' => e = .returned (.tuple #[N (f x), .bool (cr x)]) ∧ Below w.heap.size w w') (w : World) (hm : Mm w [(g, lec b (wd L))]) :
    Calls Try.prog 43 #[PT g 0, .int .i64 i] w fun e w' => e = .returned (.tuple #[]) ∧ Mm w' [(g, lec b (wd (f 0)))] ∧ Kp g w w' := by
  have H0 : Hid (_ ∧ _) := ⟨hm, Kp.refl g w⟩
  clear hm
  have CS : Hid _ := cs
  have CG : Hid _ := cg
  have CT : Hid _ := ct
  have CA : Hid _ := ca
  have HN : Hid _ := hN
  have H00 : Hid _ := h00
  have HT : Hid _ := hT
  have HF : Hid _ := hF
  clear cs cg ct ca hN h00 hT hF
  go_enter Try.func43, Try.ntmps43
  refine wp_seq ?_
  refine walk_seq 2 [.quiet (PT g 0), .quiet (.int .i64 i)] (fun w' => Mm w' [(g, lec b (wd L))]) ?pre1 ?F1 ?hpre1 (fun γ => ?hF1) (by kernel_rfl) ?hL1 ?hS1 ?ho1 ?he1
  case hpre1 =>
    simp only [List.take_succ_cons, List.take_zero]
    exact rfl
  case hF1 =>
    simp only [fill, Kind.val, Act.put, List.setIfInBounds_toArray, List.set_cons_zero, List.set_cons_succ]
    exact rfl
  case hL1 => exact trivial
  case hS1 => exact fun w' hb => H0.out.1.below hb
  case ho1 =>
    refine AllOk.cons ?_ ?_
    · exact fun γ => ⟨rfl, fun w' _ => rfl⟩
    refine AllOk.cons ?_ ?_
    · exact fun γ => ⟨rfl, fun w' _ => rfl⟩
    exact trivial
  intro γ w1 l hM hl
  have M1 : Mm w1 [(g, lec b (wd L))] := H0.out.1.grow hM (Nat.le_refl _) hl [] rfl (by decide)
  have B1 : Kp g w w1 := H0.out.2.trans (hM.below)
  clear hM hl l
  clear γ
  have H1 : Hid (_ ∧ _) := ⟨M1, B1⟩
  clear M1 B1
  refine rest_at (l := [2, 3]) rfl ?_
  refine rest_enter (d := 10) (R := fun vv w' => vv = .int .u64 ((a0 : Nat) : Int) ∧ Mm w' [(g, lec b (wd L1))] ∧ Kp g w1 w') rfl rfl rfl (exec_call (args := #[PT g 0, .int .i64 i]) rfl call50 rfl (by simp only [List.map_toArray, List.map_cons, List.map_nil]; rfl)) (Calls.mono (CS.out w1 (H1.out.1.one 0 rfl)) (fun e w2 hh => ⟨_, hh.1, rfl, hh.2⟩)) ?_
  rintro _ w2 ⟨rfl, hn, hp⟩
  have H2 : Hid (Mm w2 [(g, lec b (wd L1))] ∧ Kp g w w2) := ⟨H1.out.1.change 0 rfl hp hn, H1.out.2.join hp⟩
  clear hn hp H1
  simp only [Act.put, List.setIfInBounds_toArray, List.set_cons_zero, List.set_cons_succ]
  refine rest_set (d := 4) rfl rfl rfl rfl ?_
  simp only [Act.put, List.setIfInBounds_toArray, List.set_cons_zero, List.set_cons_succ]
  refine rest_nil ?_
  refine then_normal ?_
  refine wp_seq ?_
  refine walk_seq 1 [.quiet (.int .i64 5)] (fun w' => Mm w' [(g, lec b (wd L1))]) ?pre2 ?F2 ?hpre2 (fun γ => ?hF2) (by kernel_rfl) ?hL2 ?hS2 ?ho2 ?he2
  case hpre2 =>
    simp only [List.take_succ_cons, List.take_zero]
    exact rfl
  case hF2 =>
    simp only [fill, Kind.val, Act.put, List.setIfInBounds_toArray, List.set_cons_zero, List.set_cons_succ]
    exact rfl
  case hL2 => exact trivial
  case hS2 => exact fun w' hb => H2.out.1.below hb
  case ho2 =>
    refine AllOk.cons ?_ ?_
    · exact fun γ => ⟨rfl, fun w' _ => rfl⟩
    exact trivial
  intro γ w3 l hM hl
  have M3 : Mm w3 [(g, lec b (wd L1))] := H2.out.1.grow hM (Nat.le_refl _) hl [] rfl (by decide)
  have B3 : Kp g w w3 := H2.out.2.trans (hM.below)
  clear hM hl l H2
  clear γ
  have H3 : Hid (_ ∧ _) := ⟨M3, B3⟩
  clear M3 B3
  refine rest_at (l := []) rfl ?_
  refine rest_nil ?_
  refine then_normal ?_
  refine wp_seq ?_
  refine walk_enter (by kernel_rfl) 16 [0] [.quiet (.int .u64 ((a0 : Nat) : Int)), .quiet (PT g 0), .quiet (.int .u64 ((a0 : Nat) : Int)), .quiet (PT g 0), .quiet (.int .i64 5), .quiet (PT g 0), .quiet (PT g 6), .quiet (PT g 11), .quiet (.int .u64 (wd L1 5)), .quiet (PT g 0), .quiet (.int .i64 5), .quiet (PT g 0), .quiet (PT g 0), .quiet (PT g 5), .quiet (.int .u64 (wd b 5)), .call (.int .u64 ((t : Nat) : Int))] (fun w' => Mm w' [(g, lec b (wd L1))]) ?pre3 ?F3 ?G3 _ 27 (.int .u64 ((T : Nat) : Int)) ?hpre3 (fun γ => ?hF3) (fun γ => ?hG3) (by kernel_rfl) rfl ?hL3 ?hS3 ?ho3 ?hla3 ?he3
  case hpre3 =>
    simp only [List.take_succ_cons, List.take_zero]
    exact rfl
  case hF3 =>
    simp only [fill, Kind.val, Act.put, List.setIfInBounds_toArray, List.set_cons_zero, List.set_cons_succ]
    exact rfl
  case hG3 =>
    simp only [fill, Kind.val, Act.put, List.setIfInBounds_toArray, List.set_cons_zero, List.set_cons_succ]
    exact rfl
  case hL3 => exact trivial
  case hS3 => exact fun w' hb => H3.out.1.below hb
  case ho3 =>
    refine AllOk.cons ?_ ?_
    · exact fun γ => ⟨rfl, fun w' _ => rfl⟩
    refine AllOk.cons ?_ ?_
    · exact fun γ => ⟨rfl, fun w' _ => rfl⟩
    refine AllOk.cons ?_ ?_
    · exact fun γ => ⟨rfl, fun w' _ => rfl⟩
    refine AllOk.cons ?_ ?_
    · exact fun γ => ⟨rfl, fun w' _ => rfl⟩
    refine AllOk.cons ?_ ?_
    · exact fun γ => ⟨rfl, fun w' _ => rfl⟩
    refine AllOk.cons ?_ ?_
    · (refine fun γ => ⟨rfl, fun w' h => ?_⟩; clear h; go_simp)
    refine AllOk.cons ?_ ?_
    · (refine fun γ => ⟨rfl, fun w' h => ?_⟩; clear h; go_simp)
    refine AllOk.cons ?_ ?_
    · (refine fun γ => ⟨rfl, fun w' h => ?_⟩; clear h; go_simp)
    refine AllOk.cons ?_ ?_
    · exact fun γ => ⟨rfl, fun w' h => ex_load1 h 0 rfl rfl rfl rfl⟩
    refine AllOk.cons ?_ ?_
    · exact fun γ => ⟨rfl, fun w' _ => rfl⟩
    refine AllOk.cons ?_ ?_
    · exact fun γ => ⟨rfl, fun w' _ => rfl⟩
    refine AllOk.cons ?_ ?_
    · (refine fun γ => ⟨rfl, fun w' h => ?_⟩; clear h; go_simp)
    refine AllOk.cons ?_ ?_
    · (refine fun γ => ⟨rfl, fun w' h => ?_⟩; clear h; go_simp)
    refine AllOk.cons ?_ ?_
    · (refine fun γ => ⟨rfl, fun w' h => ?_⟩; clear h; go_simp)
    refine AllOk.cons ?_ ?_
    · exact fun γ => ⟨rfl, fun w' h => ex_load1 h 0 rfl rfl rfl rfl⟩
    refine AllOk.cons ?_ ?_
    · exact fun γ => ⟨rfl, fun w' h => ⟨52, #[.int .u64 ((a0 : Nat) : Int), .int .u64 (wd L1 5), .int .u64 (wd b 5)], exec_call rfl call52 rfl (by simp only [List.map_toArray, List.map_cons, List.map_nil]; rfl), CG.out w'⟩⟩
    exact trivial
  case hla3 => exact ⟨⟨_, _, rfl, rfl, fun γ => ⟨rfl, fun w' => by first | rfl | go_simp⟩⟩, trivial⟩
  intro γ w4 l hM hl
  have M4 : Mm w4 [(g, lec b (wd L1))] := H3.out.1.grow hM (Nat.le_refl _) hl [] rfl (by decide)
  have B4 : Kp g w w4 := H3.out.2.trans (hM.below)
  clear hM hl l H3
  clear γ
  have H4 : Hid (_ ∧ _) := ⟨M4, B4⟩
  clear M4 B4
  refine ⟨51, #[PT g 0, .int .u64 ((t : Nat) : Int)], (fun w' => Mm w' [(g, lec b (wd (f D)))] ∧ Kp g w4 w'), exec_call (args := #[PT g 0, .int .u64 ((t : Nat) : Int)]) rfl call51 rfl (by simp only [List.map_toArray, List.map_cons, List.map_nil]; rfl), CT.out w4 (H4.out.1.one 0 rfl), ?_⟩
  rintro w5 ⟨hn, hp⟩
  have H5 : Hid (Mm w5 [(g, lec b (wd (f D)))] ∧ Kp g w w5) := ⟨H4.out.1.change 0 rfl hp hn, H4.out.2.join hp⟩
  clear hn hp H4
  refine rest_at (l := [17, 18]) rfl ?_
  refine rest_set (d := 28) (v := .int .u64 (A D)) (w' := w5) rfl rfl rfl (by go_simp) ?_
  simp only [Act.put, List.setIfInBounds_toArray, List.set_cons_zero, List.set_cons_succ]
  refine rest_set (d := 4) rfl rfl rfl rfl ?_
  simp only [Act.put, List.setIfInBounds_toArray, List.set_cons_zero, List.set_cons_succ]
  refine rest_nil ?_
  refine then_normal ?_
  refine wp_block ?_
  refine loop_ghost (α := Nat) (fun d a' w' => ∃ s0 : Nat → Value, a' = ⟨#[PT g 0, .int .i64 i, undef, undef, .int .u64 (A d), .int .i64 5, s0 6, s0 7, PT g 0, .int .i64 i, .int .u64 ((a0 : Nat) : Int), .int .u64 ((a0 : Nat) : Int), PT g 0, .int .u64 ((a0 : Nat) : Int), PT g 0, .int .i64 5, PT g 0, PT g 6, PT g 11, .int .u64 (wd L1 5), PT g 0, .int .i64 5, PT g 0, PT g 0, PT g 5, .int .u64 (wd b 5), .int .u64 ((t : Nat) : Int), .int .u64 ((T : Nat) : Int), .int .u64 (A D), s0 29, s0 30, s0 31, s0 32, s0 33, s0 34, s0 35, s0 36, s0 37, s0 38, s0 39, s0 40, s0 41, s0 42, s0 43, s0 44, s0 45, s0 46, s0 47, s0 48, s0 49], []⟩ ∧ (Mm w' [(g, lec b (wd (f d)))] ∧ Kp g w w') ∧ d ≤ D) (fun d => d) D ?st0 ?rd0
  case st0 => exact ⟨(slotfn [undef, undef, undef, undef, undef, undef, undef, undef, undef, undef, undef, undef, undef, undef, undef, undef, undef, undef, undef, undef, undef, undef, undef, undef, undef, undef, undef, undef, undef, undef, undef, undef, undef, undef, undef, undef, undef, undef, undef, undef, undef, undef, undef, undef, undef, undef, undef, undef, undef, undef]), rfl, ⟨H5.out.1, H5.out.2⟩, by omega⟩
  intro d a' w6 hI
  obtain ⟨s0, rfl, hMB, hk0⟩ := hI
  have H6 : Hid (_ ∧ _) := hMB
  clear hMB H5
  by_cases hlt : 0 < d
  · have hrd : True := trivial
    clear hrd
    obtain ⟨x, hx⟩ : ∃ x, d = x + 1 := ⟨d - 1, by omega⟩
    subst hx
    have hne := HN.out x (by omega)
    rcases Bool.eq_false_or_eq_true (cr x) with hcr | hcr
    · have hrd : True := trivial
      clear hrd
      have cA := CA.out x
      rw [hcr] at cA
      have CA1 : Hid _ := cA
      have hAt := HT.out x hcr
      clear cA
      refine wp_seq ?_
      refine wp_seq ?_
      refine walk_seq 2 [.quiet (.int .u64 (A (x + 1))), .quiet (.bool true)] (fun w' => Mm w' [(g, lec b (wd (f (x + 1))))]) ?pre4 ?F4 ?hpre4 (fun γ => ?hF4) (by kernel_rfl) ?hL4 ?hS4 ?ho4 ?he4
      case hpre4 =>
        simp only [List.take_succ_cons, List.take_zero]
        exact rfl
      case hF4 =>
        simp only [fill, Kind.val, Act.put, List.setIfInBounds_toArray, List.set_cons_zero, List.set_cons_succ]
        exact rfl
      case hL4 => exact trivial
      case hS4 => exact fun w' hb => H6.out.1.below hb
      case ho4 =>
        refine AllOk.cons ?_ ?_
        · exact fun γ => ⟨rfl, fun w' _ => rfl⟩
        refine AllOk.cons ?_ ?_
        · (refine fun γ => ⟨rfl, fun w' h => ?_⟩; clear h; go_simp <;> omega)
        exact trivial
      intro γ w7 l hM hl
      have M7 : Mm w7 [(g, lec b (wd (f (x + 1))))] := H6.out.1.grow hM (Nat.le_refl _) hl [] rfl (by decide)
      have B7 : Kp g w w7 := H6.out.2.trans (hM.below)
      clear hM hl l H6
      clear γ
      have H7 : Hid (_ ∧ _) := ⟨M7, B7⟩
      clear M7 B7
      refine rest_at (l := []) rfl ?_
      refine rest_nil ?_
      refine then_normal ?_
      refine wp_cond_true rfl ?_
      refine wp_skip ?_
      refine then_normal ?_
      refine wp_block ?_
      refine wp_seq ?_
      refine walk_any (by kernel_rfl) 15 [.quiet (PT g 0), .quiet (PT g 0), .quiet (PT g 6), .quiet (N (f (x + 1))), .quiet (PT g 0), .quiet (PT g 0), .quiet (PT g 0), .quiet (N b), .call (.tuple #[N (f x), .bool true]), .quiet (.tuple #[N (f x), .bool true]), .quiet (N (f x)), .quiet (.bool true), .made zero6 24, .laid 12 zero6 (cells6 (f x)), .quiet (.bool true)] (fun w' => Mm w' [(g, lec b (wd (f (x + 1))))]) ?pre5 ?F5 ?hpre5 (fun γ => ?hF5) (by kernel_rfl) ?hL5 ?hS5 ?ho5 ?he5
      case hpre5 =>
        simp only [List.take_succ_cons, List.take_zero]
        exact rfl
      case hF5 =>
        simp only [fill, Kind.val, Act.put, List.setIfInBounds_toArray, List.set_cons_zero, List.set_cons_succ]
        exact rfl
      case hL5 => exact ⟨⟨_, rfl⟩, trivial⟩
      case hS5 => exact fun w' hb => H7.out.1.below hb
      case ho5 =>
        refine AllOk.cons ?_ ?_
        · exact fun γ => ⟨rfl, fun w' _ => rfl⟩
        refine AllOk.cons ?_ ?_
        · (refine fun γ => ⟨rfl, fun w' h => ?_⟩; clear h; go_simp)
        refine AllOk.cons ?_ ?_
        · (refine fun γ => ⟨rfl, fun w' h => ?_⟩; clear h; go_simp)
        refine AllOk.cons ?_ ?_
        · exact fun γ => ⟨rfl, fun w' h => ex_load6 h 0 rfl rfl rfl rfl⟩
        refine AllOk.cons ?_ ?_
        · exact fun γ => ⟨rfl, fun w' _ => rfl⟩
        refine AllOk.cons ?_ ?_
        · (refine fun γ => ⟨rfl, fun w' h => ?_⟩; clear h; go_simp)
        refine AllOk.cons ?_ ?_
        · (refine fun γ => ⟨rfl, fun w' h => ?_⟩; clear h; go_simp)
        refine AllOk.cons ?_ ?_
        · exact fun γ => ⟨rfl, fun w' h => ex_load6 h 0 rfl rfl rfl rfl⟩
        refine AllOk.cons ?_ ?_
        · exact fun γ => ⟨rfl, fun w' h => ⟨16, #[N (f (x + 1)), N b], exec_call rfl call16 rfl (by simp only [List.map_toArray, List.map_cons, List.map_nil]; rfl), CA1.out w'⟩⟩
        refine AllOk.cons ?_ ?_
        · exact fun γ => ⟨rfl, fun w' _ => rfl⟩
        refine AllOk.cons ?_ ?_
        · (refine fun γ => ⟨rfl, fun w' h => ?_⟩; clear h; go_simp)
        refine AllOk.cons ?_ ?_
        · (refine fun γ => ⟨rfl, fun w' h => ?_⟩; clear h; go_simp)
        refine AllOk.cons ?_ ?_
        · exact fun γ => ⟨rfl, fun w' => exec_made6 rfl⟩
        refine AllOk.cons ?_ ?_
        · exact fun γ => ⟨rfl, rfl, rfl, fun w' h => exec_laid6 h rfl rfl rfl⟩
        refine AllOk.cons ?_ ?_
        · exact fun γ => ⟨rfl, fun w' _ => rfl⟩
        exact trivial
      intro γ w8 l hM hl
      have M8 : Mm w8 [(γ 12, cells6 (f x)), (g, lec b (wd (f (x + 1))))] := H7.out.1.grow hM (Nat.le_refl _) hl [12] rfl (by decide)
      have B8 : Kp g w w8 := H7.out.2.trans (hM.below)
      have o5_12 : Hid (w.heap.size ≤ γ 12) := Nat.le_trans H7.out.2.size (hM.fin (Nat.le_refl _) hl (i := 12) rfl).2.1
      clear hM hl l H7
      generalize γ 12 = γ5_12 at M8 o5_12 ⊢
      clear γ
      have H8 : Hid (_ ∧ _) := ⟨M8, B8⟩
      clear M8 B8
      refine rest_at (l := []) rfl ?_
      refine rest_nil ?_
      refine then_normal ?_
      refine wp_seq ?_
      refine walk_seq 4 [.quiet (PT g 0), .quiet (N (f x)), .quiet (PT g 0), .quiet (PT g 6)] (fun w' => Mm w' [(γ5_12, cells6 (f x)), (g, lec b (wd (f (x + 1))))]) ?pre6 ?F6 ?hpre6 (fun γ => ?hF6) (by kernel_rfl) ?hL6 ?hS6 ?ho6 ?he6
      case hpre6 =>
        simp only [List.take_succ_cons, List.take_zero]
        exact rfl
      case hF6 =>
        simp only [fill, Kind.val, Act.put, List.setIfInBounds_toArray, List.set_cons_zero, List.set_cons_succ]
        exact rfl
      case hL6 => exact trivial
      case hS6 => exact fun w' hb => H8.out.1.below hb
      case ho6 =>
        refine AllOk.cons ?_ ?_
        · exact fun γ => ⟨rfl, fun w' _ => rfl⟩
        refine AllOk.cons ?_ ?_
        · exact fun γ => ⟨rfl, fun w' h => ex_load6 h 0 rfl rfl rfl rfl⟩
        refine AllOk.cons ?_ ?_
        · (refine fun γ => ⟨rfl, fun w' h => ?_⟩; clear h; go_simp)
        refine AllOk.cons ?_ ?_
        · (refine fun γ => ⟨rfl, fun w' h => ?_⟩; clear h; go_simp)
        exact trivial
      intro γ w9 l hM hl
      have M9 : Mm w9 [(γ5_12, cells6 (f x)), (g, lec b (wd (f (x + 1))))] := H8.out.1.grow hM (Nat.le_refl _) hl [] rfl (by decide)
      have B9 : Kp g w w9 := H8.out.2.trans (hM.below)
      clear hM hl l H8
      clear γ
      have H9 : Hid (_ ∧ _) := ⟨M9, B9⟩
      clear M9 B9
      refine rest_at (l := [4]) rfl ?_
      refine rest_store rfl rfl rfl (ex_store6 H9.out.1 1 rfl rfl rfl rfl (Nat.le_of_ble_eq_true rfl)) ?_
      have H10 : Hid (Mm (w9.setCells g 6 (cells6 (f x))) [(γ5_12, cells6 (f x)), (g, lec b (wd (f x)))] ∧ Kp g w (w9.setCells g 6 (cells6 (f x)))) := ⟨H9.out.1.put 1 (off := 6) (vs := cells6 (f x)) rfl (Nat.le_of_ble_eq_true rfl), H9.out.2.put (Or.inl rfl)⟩
      clear H9
      generalize hgw : World.setCells _ _ _ _ = w10 at H10 ⊢
      clear hgw
      refine rest_nil ?_
      refine then_normal ?_
      refine wp_seq ?_
      refine walk_seq 1 [.quiet (.bool true)] (fun w' => Mm w' [(γ5_12, cells6 (f x)), (g, lec b (wd (f x)))]) ?pre7 ?F7 ?hpre7 (fun γ => ?hF7) (by kernel_rfl) ?hL7 ?hS7 ?ho7 ?he7
      case hpre7 =>
        simp only [List.take_succ_cons, List.take_zero]
        exact rfl
      case hF7 =>
        simp only [fill, Kind.val, Act.put, List.setIfInBounds_toArray, List.set_cons_zero, List.set_cons_succ]
        exact rfl
      case hL7 => exact trivial
      case hS7 => exact fun w' hb => H10.out.1.below hb
      case ho7 =>
        refine AllOk.cons ?_ ?_
        · exact fun γ => ⟨rfl, fun w' _ => rfl⟩
        exact trivial
      intro γ w11 l hM hl
      have M11 : Mm w11 [(γ5_12, cells6 (f x)), (g, lec b (wd (f x)))] := H10.out.1.grow hM (Nat.le_refl _) hl [] rfl (by decide)
      have B11 : Kp g w w11 := H10.out.2.trans (hM.below)
      clear hM hl l H10
      clear γ
      have H11 : Hid (_ ∧ _) := ⟨M11, B11⟩
      clear M11 B11
      refine rest_at (l := []) rfl ?_
      refine rest_nil ?_
      refine then_normal ?_
      refine wp_cond_true rfl ?_
      refine walk_seq 2 [.quiet (.int .u64 (A (x + 1))), .quiet (.int .u64 (A x))] (fun w' => Mm w' [(γ5_12, cells6 (f x)), (g, lec b (wd (f x)))]) ?pre8 ?F8 ?hpre8 (fun γ => ?hF8) (by kernel_rfl) ?hL8 ?hS8 ?ho8 ?he8
      case hpre8 =>
        simp only [List.take_succ_cons, List.take_zero]
        exact rfl
      case hF8 =>
        simp only [fill, Kind.val, Act.put, List.setIfInBounds_toArray, List.set_cons_zero, List.set_cons_succ]
        exact rfl
      case hL8 => exact trivial
      case hS8 => exact fun w' hb => H11.out.1.below hb
      case ho8 =>
        refine AllOk.cons ?_ ?_
        · exact fun γ => ⟨rfl, fun w' _ => rfl⟩
        refine AllOk.cons ?_ ?_
        · (refine fun γ => ⟨rfl, fun w' h => ?_⟩; clear h; go_simp; try exact hAt)
        exact trivial
      intro γ w12 l hM hl
      have M12 : Mm w12 [(γ5_12, cells6 (f x)), (g, lec b (wd (f x)))] := H11.out.1.grow hM (Nat.le_refl _) hl [] rfl (by decide)
      have B12 : Kp g w w12 := H11.out.2.trans (hM.below)
      clear hM hl l H11
      clear γ
      have H12 : Hid (_ ∧ _) := ⟨M12, B12⟩
      clear M12 B12
      refine rest_at (l := [2]) rfl ?_
      refine rest_set (d := 4) rfl rfl rfl rfl ?_
      simp only [Act.put, List.setIfInBounds_toArray, List.set_cons_zero, List.set_cons_succ]
      refine rest_nil ?_
      refine block_normal ?_
      refine then_normal ?_
      exact ⟨x, ⟨(slotfn [undef, undef, undef, undef, undef, undef, PT γ5_12 0, .bool true, undef, undef, undef, undef, undef, undef, undef, undef, undef, undef, undef, undef, undef, undef, undef, undef, undef, undef, undef, undef, undef, .int .u64 (A (x + 1)), .bool true, .tuple #[N (f x), .bool true], PT g 0, PT g 0, PT g 6, N (f (x + 1)), PT g 0, PT g 0, PT g 0, N b, .tuple #[N (f x), .bool true], N (f x), .bool true, PT g 0, N (f x), PT g 0, PT g 6, .bool true, .int .u64 (A (x + 1)), .int .u64 (A x)]), rfl, ⟨H12.out.1.tail, H12.out.2⟩, by omega⟩, by omega⟩
    · have hrd : True := trivial
      clear hrd
      have cA := CA.out x
      rw [hcr] at cA
      have CA1 : Hid _ := cA
      have hAf := HF.out x hcr
      clear cA
      rw [hAf]
      rw [hAf] at hne
      refine wp_seq ?_
      refine wp_seq ?_
      refine walk_seq 2 [.quiet (.int .u64 (A x)), .quiet (.bool true)] (fun w' => Mm w' [(g, lec b (wd (f (x + 1))))]) ?pre9 ?F9 ?hpre9 (fun γ => ?hF9) (by kernel_rfl) ?hL9 ?hS9 ?ho9 ?he9
      case hpre9 =>
        simp only [List.take_succ_cons, List.take_zero]
        exact rfl
      case hF9 =>
        simp only [fill, Kind.val, Act.put, List.setIfInBounds_toArray, List.set_cons_zero, List.set_cons_succ]
        exact rfl
      case hL9 => exact trivial
      case hS9 => exact fun w' hb => H6.out.1.below hb
      case ho9 =>
        refine AllOk.cons ?_ ?_
        · exact fun γ => ⟨rfl, fun w' _ => rfl⟩
        refine AllOk.cons ?_ ?_
        · (refine fun γ => ⟨rfl, fun w' h => ?_⟩; clear h; go_simp <;> omega)
        exact trivial
      intro γ w13 l hM hl
      have M13 : Mm w13 [(g, lec b (wd (f (x + 1))))] := H6.out.1.grow hM (Nat.le_refl _) hl [] rfl (by decide)
      have B13 : Kp g w w13 := H6.out.2.trans (hM.below)
      clear hM hl l H6
      clear γ
      have H13 : Hid (_ ∧ _) := ⟨M13, B13⟩
      clear M13 B13
      refine rest_at (l := []) rfl ?_
      refine rest_nil ?_
      refine then_normal ?_
      refine wp_cond_true rfl ?_
      refine wp_skip ?_
      refine then_normal ?_
      refine wp_block ?_
      refine wp_seq ?_
      refine walk_any (by kernel_rfl) 15 [.quiet (PT g 0), .quiet (PT g 0), .quiet (PT g 6), .quiet (N (f (x + 1))), .quiet (PT g 0), .quiet (PT g 0), .quiet (PT g 0), .quiet (N b), .call (.tuple #[N (f x), .bool false]), .quiet (.tuple #[N (f x), .bool false]), .quiet (N (f x)), .quiet (.bool false), .made zero6 24, .laid 12 zero6 (cells6 (f x)), .quiet (.bool false)] (fun w' => Mm w' [(g, lec b (wd (f (x + 1))))]) ?pre10 ?F10 ?hpre10 (fun γ => ?hF10) (by kernel_rfl) ?hL10 ?hS10 ?ho10 ?he10
      case hpre10 =>
        simp only [List.take_succ_cons, List.take_zero]
        exact rfl
      case hF10 =>
        simp only [fill, Kind.val, Act.put, List.setIfInBounds_toArray, List.set_cons_zero, List.set_cons_succ]
        exact rfl
      case hL10 => exact ⟨⟨_, rfl⟩, trivial⟩
      case hS10 => exact fun w' hb => H13.out.1.below hb
      case ho10 =>
        refine AllOk.cons ?_ ?_
        · exact fun γ => ⟨rfl, fun w' _ => rfl⟩
        refine AllOk.cons ?_ ?_
        · (refine fun γ => ⟨rfl, fun w' h => ?_⟩; clear h; go_simp)
        refine AllOk.cons ?_ ?_
        · (refine fun γ => ⟨rfl, fun w' h => ?_⟩; clear h; go_simp)
        refine AllOk.cons ?_ ?_
        · exact fun γ => ⟨rfl, fun w' h => ex_load6 h 0 rfl rfl rfl rfl⟩
        refine AllOk.cons ?_ ?_
        · exact fun γ => ⟨rfl, fun w' _ => rfl⟩
        refine AllOk.cons ?_ ?_
        · (refine fun γ => ⟨rfl, fun w' h => ?_⟩; clear h; go_simp)
        refine AllOk.cons ?_ ?_
        · (refine fun γ => ⟨rfl, fun w' h => ?_⟩; clear h; go_simp)
        refine AllOk.cons ?_ ?_
        · exact fun γ => ⟨rfl, fun w' h => ex_load6 h 0 rfl rfl rfl rfl⟩
        refine AllOk.cons ?_ ?_
        · exact fun γ => ⟨rfl, fun w' h => ⟨16, #[N (f (x + 1)), N b], exec_call rfl call16 rfl (by simp only [List.map_toArray, List.map_cons, List.map_nil]; rfl), CA1.out w'⟩⟩
        refine AllOk.cons ?_ ?_
        · exact fun γ => ⟨rfl, fun w' _ => rfl⟩
        refine AllOk.cons ?_ ?_
        · (refine fun γ => ⟨rfl, fun w' h => ?_⟩; clear h; go_simp)
        refine AllOk.cons ?_ ?_
        · (refine fun γ => ⟨rfl, fun w' h => ?_⟩; clear h; go_simp)
        refine AllOk.cons ?_ ?_
        · exact fun γ => ⟨rfl, fun w' => exec_made6 rfl⟩
        refine AllOk.cons ?_ ?_
        · exact fun γ => ⟨rfl, rfl, rfl, fun w' h => exec_laid6 h rfl rfl rfl⟩
        refine AllOk.cons ?_ ?_
        · exact fun γ => ⟨rfl, fun w' _ => rfl⟩
        exact trivial
      intro γ w14 l hM hl
      have M14 : Mm w14 [(γ 12, cells6 (f x)), (g, lec b (wd (f (x + 1))))] := H13.out.1.grow hM (Nat.le_refl _) hl [12] rfl (by decide)
      have B14 : Kp g w w14 := H13.out.2.trans (hM.below)
      have o10_12 : Hid (w.heap.size ≤ γ 12) := Nat.le_trans H13.out.2.size (hM.fin (Nat.le_refl _) hl (i := 12) rfl).2.1
      clear hM hl l H13
      generalize γ 12 = γ10_12 at M14 o10_12 ⊢
      clear γ
      have H14 : Hid (_ ∧ _) := ⟨M14, B14⟩
      clear M14 B14
      refine rest_at (l := []) rfl ?_
      refine rest_nil ?_
      refine then_normal ?_
      refine wp_seq ?_
      refine walk_seq 4 [.quiet (PT g 0), .quiet (N (f x)), .quiet (PT g 0), .quiet (PT g 6)] (fun w' => Mm w' [(γ10_12, cells6 (f x)), (g, lec b (wd (f (x + 1))))]) ?pre11 ?F11 ?hpre11 (fun γ => ?hF11) (by kernel_rfl) ?hL11 ?hS11 ?ho11 ?he11
      case hpre11 =>
        simp only [List.take_succ_cons, List.take_zero]
        exact rfl
      case hF11 =>
        simp only [fill, Kind.val, Act.put, List.setIfInBounds_toArray, List.set_cons_zero, List.set_cons_succ]
        exact rfl
      case hL11 => exact trivial
      case hS11 => exact fun w' hb => H14.out.1.below hb
      case ho11 =>
        refine AllOk.cons ?_ ?_
        · exact fun γ => ⟨rfl, fun w' _ => rfl⟩
        refine AllOk.cons ?_ ?_
        · exact fun γ => ⟨rfl, fun w' h => ex_load6 h 0 rfl rfl rfl rfl⟩
        refine AllOk.cons ?_ ?_
        · (refine fun γ => ⟨rfl, fun w' h => ?_⟩; clear h; go_simp)
        refine AllOk.cons ?_ ?_
        · (refine fun γ => ⟨rfl, fun w' h => ?_⟩; clear h; go_simp)
        exact trivial
      intro γ w15 l hM hl
      have M15 : Mm w15 [(γ10_12, cells6 (f x)), (g, lec b (wd (f (x + 1))))] := H14.out.1.grow hM (Nat.le_refl _) hl [] rfl (by decide)
      have B15 : Kp g w w15 := H14.out.2.trans (hM.below)
      clear hM hl l H14
      clear γ
      have H15 : Hid (_ ∧ _) := ⟨M15, B15⟩
      clear M15 B15
      refine rest_at (l := [4]) rfl ?_
      refine rest_store rfl rfl rfl (ex_store6 H15.out.1 1 rfl rfl rfl rfl (Nat.le_of_ble_eq_true rfl)) ?_
      have H16 : Hid (Mm (w15.setCells g 6 (cells6 (f x))) [(γ10_12, cells6 (f x)), (g, lec b (wd (f x)))] ∧ Kp g w (w15.setCells g 6 (cells6 (f x)))) := ⟨H15.out.1.put 1 (off := 6) (vs := cells6 (f x)) rfl (Nat.le_of_ble_eq_true rfl), H15.out.2.put (Or.inl rfl)⟩
      clear H15
      generalize hgw : World.setCells _ _ _ _ = w16 at H16 ⊢
      clear hgw
      refine rest_nil ?_
      refine then_normal ?_
      refine wp_seq ?_
      refine walk_seq 1 [.quiet (.bool false)] (fun w' => Mm w' [(γ10_12, cells6 (f x)), (g, lec b (wd (f x)))]) ?pre12 ?F12 ?hpre12 (fun γ => ?hF12) (by kernel_rfl) ?hL12 ?hS12 ?ho12 ?he12
      case hpre12 =>
        simp only [List.take_succ_cons, List.take_zero]
        exact rfl
      case hF12 =>
        simp only [fill, Kind.val, Act.put, List.setIfInBounds_toArray, List.set_cons_zero, List.set_cons_succ]
        exact rfl
      case hL12 => exact trivial
      case hS12 => exact fun w' hb => H16.out.1.below hb
      case ho12 =>
        refine AllOk.cons ?_ ?_
        · exact fun γ => ⟨rfl, fun w' _ => rfl⟩
        exact trivial
      intro γ w17 l hM hl
      have M17 : Mm w17 [(γ10_12, cells6 (f x)), (g, lec b (wd (f x)))] := H16.out.1.grow hM (Nat.le_refl _) hl [] rfl (by decide)
      have B17 : Kp g w w17 := H16.out.2.trans (hM.below)
      clear hM hl l H16
      clear γ
      have H17 : Hid (_ ∧ _) := ⟨M17, B17⟩
      clear M17 B17
      refine rest_at (l := []) rfl ?_
      refine rest_nil ?_
      refine then_normal ?_
      refine wp_cond_false rfl ?_
      refine wp_skip ?_
      refine block_normal ?_
      refine then_normal ?_
      exact ⟨x, ⟨(slotfn [undef, undef, undef, undef, undef, undef, PT γ10_12 0, .bool false, undef, undef, undef, undef, undef, undef, undef, undef, undef, undef, undef, undef, undef, undef, undef, undef, undef, undef, undef, undef, undef, .int .u64 (A x), .bool true, .tuple #[N (f x), .bool false], PT g 0, PT g 0, PT g 6, N (f (x + 1)), PT g 0, PT g 0, PT g 0, N b, .tuple #[N (f x), .bool false], N (f x), .bool false, PT g 0, N (f x), PT g 0, PT g 6, .bool false, s0 48, s0 49]), rfl, ⟨H17.out.1.tail, H17.out.2⟩, by omega⟩, by omega⟩
  have hd0 : d = 0 := by omega
  subst hd0
  have hA0 := H00.out
  refine wp_seq ?_
  refine wp_seq ?_
  refine walk_seq 2 [.quiet (.int .u64 (A 0)), .quiet (.bool false)] (fun w' => Mm w' [(g, lec b (wd (f 0)))]) ?pre13 ?F13 ?hpre13 (fun γ => ?hF13) (by kernel_rfl) ?hL13 ?hS13 ?ho13 ?he13
  case hpre13 =>
    simp only [List.take_succ_cons, List.take_zero]
    exact rfl
  case hF13 =>
    simp only [fill, Kind.val, Act.put, List.setIfInBounds_toArray, List.set_cons_zero, List.set_cons_succ]
    exact rfl
  case hL13 => exact trivial
  case hS13 => exact fun w' hb => H6.out.1.below hb
  case ho13 =>
    refine AllOk.cons ?_ ?_
    · exact fun γ => ⟨rfl, fun w' _ => rfl⟩
    refine AllOk.cons ?_ ?_
    · (refine fun γ => ⟨rfl, fun w' h => ?_⟩; clear h; go_simp <;> omega)
    exact trivial
  intro γ w18 l hM hl
  have M18 : Mm w18 [(g, lec b (wd (f 0)))] := H6.out.1.grow hM (Nat.le_refl _) hl [] rfl (by decide)
  have B18 : Kp g w w18 := H6.out.2.trans (hM.below)
  clear hM hl l H6
  clear γ
  have H18 : Hid (_ ∧ _) := ⟨M18, B18⟩
  clear M18 B18
  refine rest_at (l := []) rfl ?_
  refine rest_nil ?_
  refine then_normal ?_
  refine wp_cond_false rfl ?_
  refine wp_exit ?_
  repeat refine then_exit ?_
  refine block_exit ?_
  refine bodyPost_end (v := .tuple #[]) (by simp [results, Try.results43, go_sem]) rfl ?_
  exact ⟨rfl, H18.out.1.one 0 rfl, H18.out.2⟩
set_option maxHeartbeats 1000000 in
set_option maxRecDepth 100000 in
theorem double_gen (g b L1 K j : Nat) (f : Nat → Nat) (hK : K < 1000) (hj : j ≤ 64) (hKj : 0 < K → 0 < j)
    (cf : ∀ k w, Mm w [(g, lec b (wd (f k)))] → Calls Try.prog 43 #[PT g 0, .int .i64 64] w fun e w' => e = .returned (.tuple #[]) ∧ Mm w' [(g, lec b (wd (f (k + 1))))] ∧ Kp g w w')
    (cl : ∀ w, Mm w [(g, lec b (wd (f K)))] → Calls Try.prog 43 #[PT g 0, .int .i64 ((64 * (K - K) + j : Nat) : Int)] w fun e w' => e = .returned (.tuple #[]) ∧ Mm w' [(g, lec b (wd L1))] ∧ Kp g w w') (w : World) (hm : Mm w [(g, lec b (wd (f 0)))]) :
    Calls Try.prog 31 #[PT g 0, .int .i64 ((64 * (K - 0) + j : Nat) : Int)] w fun e w' => e = .returned (.tuple #[]) ∧ Mm w' [(g, lec b (wd L1))] ∧ Kp g w w' := by
  have H0 : Hid (_ ∧ _) := ⟨hm, Kp.refl g w⟩
  clear hm
  have CF : Hid _ := cf
  have CL : Hid _ := cl
  clear cf cl
  go_enter Try.func31, Try.ntmps31
  refine wp_seq ?_
  refine wp_block ?_
  refine loop_ghost (α := Nat) (fun k a' w' => ∃ s0 : Nat → Value, a' = ⟨#[PT g 0, .int .i64 ((64 * (K - k) + j : Nat) : Int), undef, undef, s0 4, s0 5, s0 6, s0 7, s0 8, s0 9, undef, undef, undef], []⟩ ∧ (Mm w' [(g, lec b (wd (f k)))] ∧ Kp g w w') ∧ k ≤ K) (fun k => K - k) 0 ?st0 ?rd0
  case st0 => exact ⟨(slotfn [undef, undef, undef, undef, undef, undef, undef, undef, undef, undef]), rfl, ⟨H0.out.1, H0.out.2⟩, by omega⟩
  intro k a' w1 hI
  obtain ⟨s0, rfl, hMB, hk0⟩ := hI
  have H1 : Hid (_ ∧ _) := hMB
  clear hMB
  by_cases hlt : k < K
  · have hrd : True := trivial
    clear hrd
    refine wp_seq ?_
    refine wp_seq ?_
    refine walk_seq 2 [.quiet (.int .i64 ((64 * (K - k) + j : Nat) : Int)), .quiet (.bool true)] (fun w' => Mm w' [(g, lec b (wd (f k)))]) ?pre1 ?F1 ?hpre1 (fun γ => ?hF1) (by kernel_rfl) ?hL1 ?hS1 ?ho1 ?he1
    case hpre1 =>
      simp only [List.take_succ_cons, List.take_zero]
      exact rfl
    case hF1 =>
      simp only [fill, Kind.val, Act.put, List.setIfInBounds_toArray, List.set_cons_zero, List.set_cons_succ]
      exact rfl
    case hL1 => exact trivial
    case hS1 => exact fun w' hb => H1.out.1.below hb
    case ho1 =>
      refine AllOk.cons ?_ ?_
      · exact fun γ => ⟨rfl, fun w' _ => rfl⟩
      refine AllOk.cons ?_ ?_
      · (refine fun γ => ⟨rfl, fun w' h => ?_⟩; clear h; go_simp <;> omega)
      exact trivial
    intro γ w2 l hM hl
    have M2 : Mm w2 [(g, lec b (wd (f k)))] := H1.out.1.grow hM (Nat.le_refl _) hl [] rfl (by decide)
    have B2 : Kp g w w2 := H1.out.2.trans (hM.below)
    clear hM hl l H1
    clear γ
    have H2 : Hid (_ ∧ _) := ⟨M2, B2⟩
    clear M2 B2
    refine rest_at (l := []) rfl ?_
    refine rest_nil ?_
    refine then_normal ?_
    refine wp_cond_true rfl ?_
    refine wp_skip ?_
    refine then_normal ?_
    refine wp_seq ?_
    refine wp_block ?_
    refine walk_seq 1 [.quiet (PT g 0)] (fun w' => Mm w' [(g, lec b (wd (f k)))]) ?pre2 ?F2 ?hpre2 (fun γ => ?hF2) (by kernel_rfl) ?hL2 ?hS2 ?ho2 ?he2
    case hpre2 =>
      simp only [List.take_succ_cons, List.take_zero]
      exact rfl
    case hF2 =>
      simp only [fill, Kind.val, Act.put, List.setIfInBounds_toArray, List.set_cons_zero, List.set_cons_succ]
      exact rfl
    case hL2 => exact trivial
    case hS2 => exact fun w' hb => H2.out.1.below hb
    case ho2 =>
      refine AllOk.cons ?_ ?_
      · exact fun γ => ⟨rfl, fun w' _ => rfl⟩
      exact trivial
    intro γ w3 l hM hl
    have M3 : Mm w3 [(g, lec b (wd (f k)))] := H2.out.1.grow hM (Nat.le_refl _) hl [] rfl (by decide)
    have B3 : Kp g w w3 := H2.out.2.trans (hM.below)
    clear hM hl l H2
    clear γ
    have H3 : Hid (_ ∧ _) := ⟨M3, B3⟩
    clear M3 B3
    refine rest_at (l := [1]) rfl ?_
    refine rest_enter (d := 9) (R := fun vv w' => vv = .tuple #[] ∧ Mm w' [(g, lec b (wd (f (k + 1))))] ∧ Kp g w3 w') rfl rfl rfl (exec_call (args := #[PT g 0, .int .i64 64]) rfl call43 rfl (by simp only [List.map_toArray, List.map_cons, List.map_nil]; rfl)) (Calls.mono (CF.out k w3 (H3.out.1.one 0 rfl)) (fun e w2 hh => ⟨_, hh.1, rfl, hh.2⟩)) ?_
    rintro _ w4 ⟨rfl, hn, hp⟩
    have H4 : Hid (Mm w4 [(g, lec b (wd (f (k + 1))))] ∧ Kp g w w4) := ⟨H3.out.1.change 0 rfl hp hn, H3.out.2.join hp⟩
    clear hn hp H3
    simp only [Act.put, List.setIfInBounds_toArray, List.set_cons_zero, List.set_cons_succ]
    refine rest_nil ?_
    refine block_normal ?_
    refine then_normal ?_
    refine walk_seq 2 [.quiet (.int .i64 ((64 * (K - k) + j : Nat) : Int)), .quiet (.int .i64 ((64 * (K - (k + 1)) + j : Nat) : Int))] (fun w' => Mm w' [(g, lec b (wd (f (k + 1))))]) ?pre3 ?F3 ?hpre3 (fun γ => ?hF3) (by kernel_rfl) ?hL3 ?hS3 ?ho3 ?he3
    case hpre3 =>
      simp only [List.take_succ_cons, List.take_zero]
      exact rfl
    case hF3 =>
      simp only [fill, Kind.val, Act.put, List.setIfInBounds_toArray, List.set_cons_zero, List.set_cons_succ]
      exact rfl
    case hL3 => exact trivial
    case hS3 => exact fun w' hb => H4.out.1.below hb
    case ho3 =>
      refine AllOk.cons ?_ ?_
      · exact fun γ => ⟨rfl, fun w' _ => rfl⟩
      refine AllOk.cons ?_ ?_
      · (refine fun γ => ⟨rfl, fun w' h => ?_⟩; clear h; go_simp; rw [IntKind.wrap_i64]; omega)
      exact trivial
    intro γ w5 l hM hl
    have M5 : Mm w5 [(g, lec b (wd (f (k + 1))))] := H4.out.1.grow hM (Nat.le_refl _) hl [] rfl (by decide)
    have B5 : Kp g w w5 := H4.out.2.trans (hM.below)
    clear hM hl l H4
    clear γ
    have H5 : Hid (_ ∧ _) := ⟨M5, B5⟩
    clear M5 B5
    refine rest_at (l := [2]) rfl ?_
    refine rest_set (d := 1) rfl rfl rfl rfl ?_
    simp only [Act.put, List.setIfInBounds_toArray, List.set_cons_zero, List.set_cons_succ]
    refine rest_nil ?_
    refine then_normal ?_
    exact ⟨k + 1, ⟨(slotfn [undef, undef, undef, undef, .int .i64 ((64 * (K - k) + j : Nat) : Int), .bool true, .int .i64 ((64 * (K - k) + j : Nat) : Int), .int .i64 ((64 * (K - (k + 1)) + j : Nat) : Int), PT g 0, .tuple #[]]), rfl, ⟨H5.out.1, H5.out.2⟩, by omega⟩, by omega⟩
  have hkK : k = K := by omega
  subst hkK
  refine wp_seq ?_
  refine wp_seq ?_
  refine walk_seq 2 [.quiet (.int .i64 ((64 * (k - k) + j : Nat) : Int)), .quiet (.bool false)] (fun w' => Mm w' [(g, lec b (wd (f k)))]) ?pre4 ?F4 ?hpre4 (fun γ => ?hF4) (by kernel_rfl) ?hL4 ?hS4 ?ho4 ?he4
  case hpre4 =>
    simp only [List.take_succ_cons, List.take_zero]
    exact rfl
  case hF4 =>
    simp only [fill, Kind.val, Act.put, List.setIfInBounds_toArray, List.set_cons_zero, List.set_cons_succ]
    exact rfl
  case hL4 => exact trivial
  case hS4 => exact fun w' hb => H1.out.1.below hb
  case ho4 =>
    refine AllOk.cons ?_ ?_
    · exact fun γ => ⟨rfl, fun w' _ => rfl⟩
    refine AllOk.cons ?_ ?_
    · (refine fun γ => ⟨rfl, fun w' h => ?_⟩; clear h; go_simp <;> omega)
    exact trivial
  intro γ w6 l hM hl
  have M6 : Mm w6 [(g, lec b (wd (f k)))] := H1.out.1.grow hM (Nat.le_refl _) hl [] rfl (by decide)
  have B6 : Kp g w w6 := H1.out.2.trans (hM.below)
  clear hM hl l H1
  clear γ
  have H6 : Hid (_ ∧ _) := ⟨M6, B6⟩
  clear M6 B6
  refine rest_at (l := []) rfl ?_
  refine rest_nil ?_
  refine then_normal ?_
  refine wp_cond_false rfl ?_
  refine wp_exit ?_
  repeat refine then_exit ?_
  refine block_exit ?_
  refine then_normal ?_
  refine walk_seq 2 [.quiet (PT g 0), .quiet (.int .i64 ((64 * (k - k) + j : Nat) : Int))] (fun w' => Mm w' [(g, lec b (wd (f k)))]) ?pre5 ?F5 ?hpre5 (fun γ => ?hF5) (by kernel_rfl) ?hL5 ?hS5 ?ho5 ?he5
  case hpre5 =>
    simp only [List.take_succ_cons, List.take_zero]
    exact rfl
  case hF5 =>
    simp only [fill, Kind.val, Act.put, List.setIfInBounds_toArray, List.set_cons_zero, List.set_cons_succ]
    exact rfl
  case hL5 => exact trivial
  case hS5 => exact fun w' hb => H6.out.1.below hb
  case ho5 =>
    refine AllOk.cons ?_ ?_
    · exact fun γ => ⟨rfl, fun w' _ => rfl⟩
    refine AllOk.cons ?_ ?_
    · exact fun γ => ⟨rfl, fun w' _ => rfl⟩
    exact trivial
  intro γ w7 l hM hl
  have M7 : Mm w7 [(g, lec b (wd (f k)))] := H6.out.1.grow hM (Nat.le_refl _) hl [] rfl (by decide)
  have B7 : Kp g w w7 := H6.out.2.trans (hM.below)
  clear hM hl l H6
  clear γ
  have H7 : Hid (_ ∧ _) := ⟨M7, B7⟩
  clear M7 B7
  refine rest_at (l := [2]) rfl ?_
  refine rest_enter (d := 12) (R := fun vv w' => vv = .tuple #[] ∧ Mm w' [(g, lec b (wd L1))] ∧ Kp g w7 w') rfl rfl rfl (exec_call (args := #[PT g 0, .int .i64 ((64 * (k - k) + j : Nat) : Int)]) rfl call43 rfl (by simp only [List.map_toArray, List.map_cons, List.map_nil]; rfl)) (Calls.mono (CL.out w7 (H7.out.1.one 0 rfl)) (fun e w2 hh => ⟨_, hh.1, rfl, hh.2⟩)) ?_
  rintro _ w8 ⟨rfl, hn, hp⟩
  have H8 : Hid (Mm w8 [(g, lec b (wd L1))] ∧ Kp g w w8) := ⟨H7.out.1.change 0 rfl hp hn, H7.out.2.join hp⟩
  clear hn hp H7
  simp only [Act.put, List.setIfInBounds_toArray, List.set_cons_zero, List.set_cons_succ]
  refine rest_nil ?_
  refine bodyPost_end (v := .tuple #[]) (by simp [results, Try.results31, go_sem]) rfl ?_
  exact ⟨rfl, H8.out.1.one 0 rfl, H8.out.2⟩
end Rg
end Go.Proofs.Ytoagmdgmbkpghaa
