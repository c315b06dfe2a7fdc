/- The product, as Montgomery did it -/
import Derived.Test.YtoagmdgmbkpghaaM3
namespace Go.Proofs.Ytoagmdgmbkpghaa
open Go.RowKit
namespace Rg
set_option maxHeartbeats 4000000 in
set_option maxRecDepth 100000 in
theorem product_any (g n o s a b : Nat) (ok : Ok n) (ha : a < big) (hbn : b < n) (w : World) (hm : Mm w [(g, modx n o s)]) :
    Calls Try.prog 33 #[PT g 0, N a, N b] w fun e w' => e = .returned (N (mont n a b)) ∧ Below w.heap.size w w' := by
  have H0 : Hid (_ ∧ _) := ⟨hm, Below.refl w.heap.size w⟩
  clear hm
  have hb : b < big := Nat.lt_trans hbn ok.big
  have cG : ∀ w, Mm w [(g, modx n o s)] → Calls Try.prog 46 #[PT g 0, N (mrun n (wrapN n) a b 6)] w fun e w' => e = .returned (N (mont n a b)) ∧ Below w.heap.size w w' := fun w hm => by
    have h1 := mrun_lt n (wrapN n) a b ok.pos 6
    have h2 := below_any g n o s (mrun n (wrapN n) a b 6) (by have := ok.top; omega) ok.big w hm
    rw [low_cut n _ _ (mrun_end n (wrapN n) a b ok.odd (wrapN_spec n ok.odd) ha) (by omega) (mont_lt n a b ok.pos)] at h2
    exact h2
  have CG : Hid _ := cG
  have HA : Hid _ := ha
  clear cG ha
  go_enter Try.func33, Try.ntmps33
  refine wp_seq ?_
  refine walk_seq 3 [.made (cells6 a) 24, .made (cells6 b) 24, .made zero6 24] (fun w' => Mm w' [(g, modx n o s)]) ?pre1 ?F1 ?hpre1 (fun γ => ?hF1) (by kernel_rfl) ?hL1 ?hS1 ?ho1 ?he1
  case hpre1 =>
    simp only [List.take_succ_cons, List.take_zero]
    exact rfl
  case hF1 =>
    simp only [fill, Kind.val, Act.put, List.setIfInBounds_toArray, List.set_cons_zero, List.set_cons_succ]
    exact rfl
  case hL1 => exact trivial
  case hS1 => exact fun w' hb => H0.out.1.below hb
  case ho1 =>
    refine AllOk.cons ?_ ?_
    · exact fun γ => ⟨rfl, fun w' => ex_box6 rfl rfl⟩
    refine AllOk.cons ?_ ?_
    · exact fun γ => ⟨rfl, fun w' => ex_box6 rfl rfl⟩
    refine AllOk.cons ?_ ?_
    · exact fun γ => ⟨rfl, fun w' => exec_made6 rfl⟩
    exact trivial
  intro γ w1 l hM hl
  have M1 : Mm w1 [(γ 0, cells6 a), (γ 1, cells6 b), (γ 2, zero6), (g, modx n o s)] := H0.out.1.grow hM (Nat.le_refl _) hl [0, 1, 2] rfl (by decide)
  have B1 : Below w.heap.size w w1 := H0.out.2.trans ((hM.below).mono H0.out.2.size)
  have o1_0 : Hid (w.heap.size ≤ γ 0) := Nat.le_trans H0.out.2.size (hM.fin (Nat.le_refl _) hl (i := 0) rfl).2.1
  have o1_1 : Hid (w.heap.size ≤ γ 1) := Nat.le_trans H0.out.2.size (hM.fin (Nat.le_refl _) hl (i := 1) rfl).2.1
  have o1_2 : Hid (w.heap.size ≤ γ 2) := Nat.le_trans H0.out.2.size (hM.fin (Nat.le_refl _) hl (i := 2) rfl).2.1
  clear hM hl l
  generalize γ 0 = γ1_0 at M1 o1_0 ⊢
  generalize γ 1 = γ1_1 at M1 o1_1 ⊢
  generalize γ 2 = γ1_2 at M1 o1_2 ⊢
  clear γ
  have H1 : Hid (_ ∧ _) := ⟨M1, B1⟩
  clear M1 B1
  refine rest_at (l := []) rfl ?_
  refine rest_nil ?_
  refine then_normal ?_
  refine wp_seq ?_
  refine walk_seq 1 [.made zero6 24] (fun w' => Mm w' [(γ1_0, cells6 a), (γ1_1, cells6 b), (γ1_2, zero6), (g, modx n o s)]) ?pre2 ?F2 ?hpre2 (fun γ => ?hF2) (by kernel_rfl) ?hL2 ?hS2 ?ho2 ?he2
  case hpre2 =>
    simp only [List.take_succ_cons, List.take_zero]
    exact rfl
  case hF2 =>
    simp only [fill, Kind.val, Act.put, List.setIfInBounds_toArray, List.set_cons_zero, List.set_cons_succ]
    exact rfl
  case hL2 => exact trivial
  case hS2 => exact fun w' hb => H1.out.1.below hb
  case ho2 =>
    refine AllOk.cons ?_ ?_
    · exact fun γ => ⟨rfl, fun w' => exec_made6 rfl⟩
    exact trivial
  intro γ w2 l hM hl
  have M2 : Mm w2 [(γ 0, zero6), (γ1_0, cells6 a), (γ1_1, cells6 b), (γ1_2, zero6), (g, modx n o s)] := H1.out.1.grow hM (Nat.le_refl _) hl [0] rfl (by decide)
  have B2 : Below w.heap.size w w2 := H1.out.2.trans ((hM.below).mono H1.out.2.size)
  have o2_0 : Hid (w.heap.size ≤ γ 0) := Nat.le_trans H1.out.2.size (hM.fin (Nat.le_refl _) hl (i := 0) rfl).2.1
  clear hM hl l H1
  generalize γ 0 = γ2_0 at M2 o2_0 ⊢
  clear γ
  have H2 : Hid (_ ∧ _) := ⟨M2, B2⟩
  clear M2 B2
  refine rest_at (l := []) rfl ?_
  refine rest_nil ?_
  refine then_normal ?_
  refine wp_seq ?_
  refine wp_seq ?_
  refine walk_seq 2 [.quiet (N a), .quiet (.int .i64 0)] (fun w' => Mm w' [(γ2_0, zero6), (γ1_0, cells6 a), (γ1_1, cells6 b), (γ1_2, zero6), (g, modx n o s)]) ?pre3 ?F3 ?hpre3 (fun γ => ?hF3) (by kernel_rfl) ?hL3 ?hS3 ?ho3 ?he3
  case hpre3 =>
    simp only [List.take_succ_cons, List.take_zero]
    exact rfl
  case hF3 =>
    simp only [fill, Kind.val, Act.put, List.setIfInBounds_toArray, List.set_cons_zero, List.set_cons_succ]
    exact rfl
  case hL3 => exact trivial
  case hS3 => exact fun w' hb => H2.out.1.below hb
  case ho3 =>
    refine AllOk.cons ?_ ?_
    · exact fun γ => ⟨rfl, fun w' h => ex_load6 h 1 rfl rfl rfl rfl⟩
    refine AllOk.cons ?_ ?_
    · exact fun γ => ⟨rfl, fun w' _ => rfl⟩
    exact trivial
  intro γ w3 l hM hl
  have M3 : Mm w3 [(γ2_0, zero6), (γ1_0, cells6 a), (γ1_1, cells6 b), (γ1_2, zero6), (g, modx n o s)] := H2.out.1.grow hM (Nat.le_refl _) hl [] rfl (by decide)
  have B3 : Below w.heap.size w w3 := H2.out.2.trans ((hM.below).mono H2.out.2.size)
  clear hM hl l H2
  clear γ
  have H3 : Hid (_ ∧ _) := ⟨M3, B3⟩
  clear M3 B3
  refine rest_at (l := []) rfl ?_
  refine rest_nil ?_
  refine then_normal ?_
  refine wp_block ?_
  refine loop_ghost (α := Nat) (fun i a' w' => ∃ s0 : Nat → Value, a' = ⟨#[PT g 0, N a, N b, undef, PT γ1_0 0, PT γ1_1 0, PT γ1_2 0, PT γ2_0 0, undef, s0 9, s0 10, s0 11, s0 12, s0 13, s0 14, s0 15, s0 16, s0 17, N a, .int .i64 ((i : Nat) : Int), s0 20, s0 21, s0 22, s0 23, s0 24, s0 25, s0 26, s0 27, s0 28, s0 29, s0 30, s0 31, s0 32, s0 33, s0 34, s0 35, s0 36, s0 37, s0 38, s0 39, s0 40, s0 41, s0 42, s0 43, s0 44, s0 45, s0 46, s0 47, s0 48, s0 49, s0 50, s0 51, s0 52, s0 53, s0 54, s0 55, s0 56, s0 57, s0 58, s0 59, s0 60, s0 61, s0 62, s0 63, s0 64, s0 65, s0 66, s0 67, s0 68, s0 69, s0 70, s0 71, s0 72, s0 73, s0 74, s0 75, s0 76, s0 77, s0 78, s0 79, s0 80, s0 81, s0 82, s0 83, s0 84, s0 85, s0 86, s0 87, s0 88, s0 89, s0 90, s0 91, s0 92, s0 93, s0 94, s0 95, s0 96, s0 97, s0 98, s0 99, s0 100, undef, undef, undef], []⟩ ∧ (Mm w' [(γ2_0, cells6 (mrun n (wrapN n) a b i)), (γ1_0, cells6 a), (γ1_1, cells6 b), (γ1_2, zero6), (g, modx n o s)] ∧ Below w.heap.size w w') ∧ i ≤ 6) (fun i => 6 - i) 0 ?st0 ?rd0
  case st0 => exact ⟨(slotfn [undef, undef, undef, undef, undef, undef, undef, undef, undef, undef, undef, undef, undef, undef, undef, undef, undef, undef, undef, undef, undef, undef, undef, undef, undef, undef, undef, undef, undef, undef, undef, undef, undef, undef, undef, undef, undef, undef, undef, undef, undef, undef, undef, undef, undef, undef, undef, undef, undef, undef, undef, undef, undef, undef, undef, undef, undef, undef, undef, undef, undef, undef, undef, undef, undef, undef, undef, undef, undef, undef, undef, undef, undef, undef, undef, undef, undef, undef, undef, undef, undef, undef, undef, undef, undef, undef, undef, undef, undef, undef, undef, undef, undef, undef, undef, undef, undef, undef, undef, undef, undef]), rfl, ⟨H3.out.1.at0 (cells_start n (wrapN n) a b), H3.out.2⟩, by omega⟩
  intro i a' w4 hI
  obtain ⟨s0, rfl, hMB, hk0⟩ := hI
  have H4 : Hid (_ ∧ _) := hMB
  clear hMB H3
  by_cases hlt : i < 6
  · have hrd : True := trivial
    clear hrd
    have hx := wn_lt a i
    have hS0 := mrun_lt n (wrapN n) a b (by have := ok.three; omega) i
    obtain ⟨S, hS⟩ : ∃ S, S = mrun n (wrapN n) a b i := ⟨_, rfl⟩
    obtain ⟨X, hX⟩ : ∃ X, X = S + wn a i * b := ⟨_, rfl⟩
    obtain ⟨t, ht⟩ : ∃ t, t = mt X (wrapN n) := ⟨_, rfl⟩
    obtain ⟨Y, hY⟩ : ∃ Y, Y = X + t * n := ⟨_, rfl⟩
    obtain ⟨Z, hZ⟩ : ∃ Z, Z = mrun n (wrapN n) a b (i + 1) := ⟨_, rfl⟩
    have hZ1 : Z = mstep n (wrapN n) b S (wn a i) := by rw [hZ, hS]; rfl
    have htl : t < 18446744073709551616 := by rw [ht]; exact mt_lt _ _
    have hZ2 : Z < big := by have h1 := mrun_lt n (wrapN n) a b ok.pos (i + 1); have h2 := ok.top; rw [hZ]; omega
    have hS2 : S < big := by have h2 := ok.top; rw [hS]; omega
    have e1 : addLo (pLo (wn a i) (wn b 0)) (wd S 0) 0 = wd X 0 := by
      have h := cc_lo S (wn a i) b 0
      rw [cc_zero] at h
      rw [first_lo, hX, ← h]; rfl
    have e2 : IntKind.u64.wrap (pHi (wn a i) (wn b 0) + addHi (pLo (wn a i) (wn b 0)) (wd S 0) 0) = (cc S (wn a i) b 1 : Nat) := by
      have h := cc_hi S (wn a i) b 0
      rw [cc_zero] at h
      rw [first_hi _ _ _ hx (wn_lt b 0) (wd_bd S 0).1 (wd_bd S 0).2, ← h]; rfl
    have e3 : IntKind.u64.wrap (wd X 0 * wrapZ (wd n 0)) = (t : Nat) := by
      rw [IntKind.wrap_u64, ← wrapN_cast, ht, wd_wn]
      unfold mt wn
      rw [Nat.mul_zero, Nat.pow_zero, Nat.div_one, ← Int.natCast_mul]; rfl
    have e4 : IntKind.u64.wrap (pHi t (wn n 0) + addHi (pLo t (wn n 0)) (wd X 0) 0) = (cc X t n 1 : Nat) := by
      have h := cc_hi X t n 0
      rw [cc_zero] at h
      rw [first_hi _ _ _ htl (wn_lt n 0) (wd_bd X 0).1 (wd_bd X 0).2, ← h]; rfl
    have e5 : IntKind.u64.wrap (((cc S (wn a i) b 6 : Nat) : Int) + ((cc X t n 6 : Nat) : Int)) = wd Z 5 := by
      have h := step_top n (wrapN n) b S (wn a i) hS2 hb ok.big (by rw [← hZ1]; exact hZ2)
      rw [← hX, ← ht, ← hZ1] at h
      have h2 := wn_lt Z 5
      rw [IntKind.wrap_u64, wd_wn, ← h]
      omega
    have e6 : ∀ k, k < 5 → wd Z k = wd Y (k + 1) := fun k _ => by rw [hZ1, step_word, hY, hX, ht, ← hX]
    have cA : ∀ m, ∀ w, Calls Try.prog 45 #[.int .u64 (wd a i), .int .u64 (wd b m), .int .u64 (wd S m), .int .u64 ((cc S (wn a i) b m : Nat) : Int)] w fun e w' => e = .returned (.tuple #[.int .u64 (wd X m), .int .u64 ((cc S (wn a i) b (m + 1) : Nat) : Int)]) ∧ Below w.heap.size w w' := fun m w => by
      have h := mulAddM_any (wd a i) (wd b m) (wd S m) ((cc S (wn a i) b m : Nat) : Int) (wd_bd _ _).1 (wd_bd _ _).2 (wd_bd _ _).1 (wd_bd _ _).2 (wd_bd _ _).1 (wd_bd _ _).2 (Int.natCast_nonneg _) (by have := cc_lt S (wn a i) b m hx; omega) w
      rw [wd_wn a i, cc_lo, cc_hi, ← hX] at h
      exact h.mono fun e w2 ⟨h1, h2⟩ => ⟨h1, h2 ▸ Below.refl _ _⟩
    have cB : ∀ m, ∀ w, Calls Try.prog 45 #[.int .u64 ((t : Nat) : Int), .int .u64 (wd n m), .int .u64 (wd X m), .int .u64 ((cc X t n m : Nat) : Int)] w fun e w' => e = .returned (.tuple #[.int .u64 (wd Y m), .int .u64 ((cc X t n (m + 1) : Nat) : Int)]) ∧ Below w.heap.size w w' := fun m w => by
      have h := mulAddM_any ((t : Nat) : Int) (wd n m) (wd X m) ((cc X t n m : Nat) : Int) (Int.natCast_nonneg _) (by omega) (wd_bd _ _).1 (wd_bd _ _).2 (wd_bd _ _).1 (wd_bd _ _).2 (Int.natCast_nonneg _) (by have := cc_lt X t n m htl; omega) w
      rw [cc_lo, cc_hi, ← hY] at h
      exact h.mono fun e w2 ⟨h1, h2⟩ => ⟨h1, h2 ▸ Below.refl _ _⟩
    have cC : ∀ w, Calls Try.prog 44 #[.int .u64 (wd a i), .int .u64 (wd b 0)] w fun e w' => e = .returned (.tuple #[.int .u64 (pHi (wn a i) (wn b 0)), .int .u64 (pLo (wn a i) (wn b 0))]) ∧ Below w.heap.size w w' := fun w =>
      (mul64' (wn a i) (wn b 0) hx (wn_lt b 0) w).mono fun e w2 ⟨h1, h2⟩ => ⟨h1, h2 ▸ Below.refl _ _⟩
    have cD : ∀ w, Calls Try.prog 44 #[.int .u64 ((t : Nat) : Int), .int .u64 (wd n 0)] w fun e w' => e = .returned (.tuple #[.int .u64 (pHi t (wn n 0)), .int .u64 (pLo t (wn n 0))]) ∧ Below w.heap.size w w' := fun w =>
      (mul64' t (wn n 0) htl (wn_lt n 0) w).mono fun e w2 ⟨h1, h2⟩ => ⟨h1, h2 ▸ Below.refl _ _⟩
    have cE := fun w => add64' (pLo (wn a i) (wn b 0)) (wd S 0) 0 (by unfold pLo; omega) (wd_bd S 0).1 (by omega) (by omega) w
    rw [e1] at cE
    have cF := fun w => add64' (pLo t (wn n 0)) (wd X 0) 0 (by unfold pLo; omega) (wd_bd X 0).1 (by omega) (by omega) w
    have CA : Hid _ := cA
    have CB : Hid _ := cB
    have CC : Hid _ := cC
    have CD : Hid _ := cD
    have CE : Hid _ := cE
    have CF : Hid _ := cF
    have E6 : Hid _ := e6
    have HZ : Hid _ := hZ
    rw [← hS] at H4
    clear cA cB cC cD cE cF e6 hZ hZ1 hZ2 hS hS2 hS0 hX ht hY htl hx e1
    generalize addHi (pLo (wn a i) (wn b 0)) (wd S 0) 0 = k1 at e2 CE
    generalize addHi (pLo t (wn n 0)) (wd X 0) 0 = k2 at e4 CF
    generalize addLo (pLo t (wn n 0)) (wd X 0) 0 = z2 at CF
    generalize pHi (wn a i) (wn b 0) = h1 at e2 CC
    generalize pLo (wn a i) (wn b 0) = l1 at CC CE
    generalize pHi t (wn n 0) = h2 at e4 CD
    generalize pLo t (wn n 0) = l2 at CD CF
    refine wp_seq ?_
    refine walk_seq 1 [.quiet (.bool true)] (fun w' => Mm w' [(γ2_0, cells6 S), (γ1_0, cells6 a), (γ1_1, cells6 b), (γ1_2, zero6), (g, modx n o s)]) ?pre4 ?F4 ?hpre4 (fun γ => ?hF4) (by kernel_rfl) ?hL4 ?hS4 ?ho4 ?he4
    case hpre4 =>
      simp only [List.take_succ_cons, List.take_zero]
      exact rfl
    case hF4 =>
      simp only [fill, Kind.val, Act.put, List.setIfInBounds_toArray, List.set_cons_zero, List.set_cons_succ]
      exact rfl
    case hL4 => exact trivial
    case hS4 => exact fun w' hb => H4.out.1.below hb
    case ho4 =>
      refine AllOk.cons ?_ ?_
      · (refine fun γ => ⟨rfl, fun w' h => ?_⟩; clear h; go_simp <;> omega)
      exact trivial
    intro γ w5 l hM hl
    have M5 : Mm w5 [(γ2_0, cells6 S), (γ1_0, cells6 a), (γ1_1, cells6 b), (γ1_2, zero6), (g, modx n o s)] := H4.out.1.grow hM (Nat.le_refl _) hl [] rfl (by decide)
    have B5 : Below w.heap.size w w5 := H4.out.2.trans ((hM.below).mono H4.out.2.size)
    clear hM hl l H4
    clear γ
    have H5 : Hid (_ ∧ _) := ⟨M5, B5⟩
    clear M5 B5
    refine rest_at (l := []) rfl ?_
    refine rest_nil ?_
    refine then_normal ?_
    refine wp_seq ?_
    refine wp_cond_true rfl ?_
    refine wp_skip ?_
    refine then_normal ?_
    refine wp_seq ?_
    refine wp_block ?_
    refine wp_seq ?_
    refine walk_seq 2 [.quiet (.int .u64 (wd a i)), .quiet (.int .u64 (wd a i))] (fun w' => Mm w' [(γ2_0, cells6 S), (γ1_0, cells6 a), (γ1_1, cells6 b), (γ1_2, zero6), (g, modx n o s)]) ?pre5 ?F5 ?hpre5 (fun γ => ?hF5) (by kernel_rfl) ?hL5 ?hS5 ?ho5 ?he5
    case hpre5 =>
      simp only [List.take_succ_cons, List.take_zero]
      exact rfl
    case hF5 =>
      simp only [fill, Kind.val, Act.put, List.setIfInBounds_toArray, List.set_cons_zero, List.set_cons_succ]
      exact rfl
    case hL5 => exact trivial
    case hS5 => exact fun w' hb => H5.out.1.below hb
    case ho5 =>
      refine AllOk.cons ?_ ?_
      · exact fun γ => ⟨rfl, fun w' _ => ex_index6 rfl rfl rfl hlt⟩
      refine AllOk.cons ?_ ?_
      · exact fun γ => ⟨rfl, fun w' _ => rfl⟩
      exact trivial
    intro γ w6 l hM hl
    have M6 : Mm w6 [(γ2_0, cells6 S), (γ1_0, cells6 a), (γ1_1, cells6 b), (γ1_2, zero6), (g, modx n o s)] := H5.out.1.grow hM (Nat.le_refl _) hl [] rfl (by decide)
    have B6 : Below w.heap.size w w6 := H5.out.2.trans ((hM.below).mono H5.out.2.size)
    clear hM hl l H5
    clear γ
    have H6 : Hid (_ ∧ _) := ⟨M6, B6⟩
    clear M6 B6
    refine rest_at (l := []) rfl ?_
    refine rest_nil ?_
    refine then_normal ?_
    refine wp_seq ?_
    refine walk_seq 9 [.quiet (.int .u64 (wd a i)), .quiet (PT γ1_1 0), .quiet (.int .u64 (wd b 0)), .call (.tuple #[.int .u64 h1, .int .u64 l1]), .quiet (.tuple #[.int .u64 h1, .int .u64 l1]), .quiet (.int .u64 h1), .quiet (.int .u64 l1), .quiet (.int .u64 h1), .quiet (.int .u64 l1)] (fun w' => Mm w' [(γ2_0, cells6 S), (γ1_0, cells6 a), (γ1_1, cells6 b), (γ1_2, zero6), (g, modx n o s)]) ?pre6 ?F6 ?hpre6 (fun γ => ?hF6) (by kernel_rfl) ?hL6 ?hS6 ?ho6 ?he6
    case hpre6 =>
      simp only [List.take_succ_cons, List.take_zero]
      exact rfl
    case hF6 =>
      simp only [fill, Kind.val, Act.put, List.setIfInBounds_toArray, List.set_cons_zero, List.set_cons_succ]
      exact rfl
    case hL6 => exact trivial
    case hS6 => exact fun w' hb => H6.out.1.below hb
    case ho6 =>
      refine AllOk.cons ?_ ?_
      · exact fun γ => ⟨rfl, fun w' _ => rfl⟩
      refine AllOk.cons ?_ ?_
      · (refine fun γ => ⟨rfl, fun w' h => ?_⟩; clear h; go_simp)
      refine AllOk.cons ?_ ?_
      · exact fun γ => ⟨rfl, fun w' h => ex_load1 h 2 rfl rfl rfl rfl⟩
      refine AllOk.cons ?_ ?_
      · exact fun γ => ⟨rfl, fun w' h => ⟨44, #[.int .u64 (wd a i), .int .u64 (wd b 0)], exec_call rfl call44 rfl (by simp only [List.map_toArray, List.map_cons, List.map_nil]; rfl), CC.out w'⟩⟩
      refine AllOk.cons ?_ ?_
      · exact fun γ => ⟨rfl, fun w' _ => rfl⟩
      refine AllOk.cons ?_ ?_
      · (refine fun γ => ⟨rfl, fun w' h => ?_⟩; clear h; go_simp)
      refine AllOk.cons ?_ ?_
      · (refine fun γ => ⟨rfl, fun w' h => ?_⟩; clear h; go_simp)
      refine AllOk.cons ?_ ?_
      · exact fun γ => ⟨rfl, fun w' _ => rfl⟩
      refine AllOk.cons ?_ ?_
      · exact fun γ => ⟨rfl, fun w' _ => rfl⟩
      exact trivial
    intro γ w7 l hM hl
    have M7 : Mm w7 [(γ2_0, cells6 S), (γ1_0, cells6 a), (γ1_1, cells6 b), (γ1_2, zero6), (g, modx n o s)] := H6.out.1.grow hM (Nat.le_refl _) hl [] rfl (by decide)
    have B7 : Below w.heap.size w w7 := H6.out.2.trans ((hM.below).mono H6.out.2.size)
    clear hM hl l H6
    clear γ
    have H7 : Hid (_ ∧ _) := ⟨M7, B7⟩
    clear M7 B7
    refine rest_at (l := []) rfl ?_
    refine rest_nil ?_
    refine then_normal ?_
    refine wp_seq ?_
    refine walk_seq 7 [.quiet (.int .u64 l1), .quiet (PT γ2_0 0), .quiet (.int .u64 (wd S 0)), .quiet (.tuple #[.int .u64 (wd X 0), .int .u64 k1]), .quiet (.tuple #[.int .u64 (wd X 0), .int .u64 k1]), .quiet (.int .u64 (wd X 0)), .quiet (.int .u64 k1)] (fun w' => Mm w' [(γ2_0, cells6 S), (γ1_0, cells6 a), (γ1_1, cells6 b), (γ1_2, zero6), (g, modx n o s)]) ?pre7 ?F7 ?hpre7 (fun γ => ?hF7) (by kernel_rfl) ?hL7 ?hS7 ?ho7 ?he7
    case hpre7 =>
      simp only [List.take_succ_cons, List.take_zero]
      exact rfl
    case hF7 =>
      simp only [fill, Kind.val, Act.put, List.setIfInBounds_toArray, List.set_cons_zero, List.set_cons_succ]
      exact rfl
    case hL7 => exact trivial
    case hS7 => exact fun w' hb => H7.out.1.below hb
    case ho7 =>
      refine AllOk.cons ?_ ?_
      · exact fun γ => ⟨rfl, fun w' _ => rfl⟩
      refine AllOk.cons ?_ ?_
      · (refine fun γ => ⟨rfl, fun w' h => ?_⟩; clear h; go_simp)
      refine AllOk.cons ?_ ?_
      · exact fun γ => ⟨rfl, fun w' h => ex_load1 h 0 rfl rfl rfl rfl⟩
      refine AllOk.cons ?_ ?_
      · exact fun γ => ⟨rfl, fun w' h => ex_extern rfl (CE.out w') rfl (by simp only [List.map_toArray, List.map_cons, List.map_nil]; rfl)⟩
      refine AllOk.cons ?_ ?_
      · exact fun γ => ⟨rfl, fun w' _ => rfl⟩
      refine AllOk.cons ?_ ?_
      · (refine fun γ => ⟨rfl, fun w' h => ?_⟩; clear h; go_simp)
      refine AllOk.cons ?_ ?_
      · (refine fun γ => ⟨rfl, fun w' h => ?_⟩; clear h; go_simp)
      exact trivial
    intro γ w8 l hM hl
    have M8 : Mm w8 [(γ2_0, cells6 S), (γ1_0, cells6 a), (γ1_1, cells6 b), (γ1_2, zero6), (g, modx n o s)] := H7.out.1.grow hM (Nat.le_refl _) hl [] rfl (by decide)
    have B8 : Below w.heap.size w w8 := H7.out.2.trans ((hM.below).mono H7.out.2.size)
    clear hM hl l H7
    clear γ
    have H8 : Hid (_ ∧ _) := ⟨M8, B8⟩
    clear M8 B8
    refine rest_at (l := [7, 8]) rfl ?_
    refine rest_set (d := 11) rfl rfl rfl rfl ?_
    simp only [Act.put, List.setIfInBounds_toArray, List.set_cons_zero, List.set_cons_succ]
    refine rest_set (d := 12) rfl rfl rfl rfl ?_
    simp only [Act.put, List.setIfInBounds_toArray, List.set_cons_zero, List.set_cons_succ]
    refine rest_nil ?_
    refine then_normal ?_
    refine wp_seq ?_
    refine walk_seq 4 [.quiet (.int .u64 h1), .quiet (.int .u64 k1), .quiet (.int .u64 ((cc S (wn a i) b 1 : Nat) : Int)), .quiet (.int .u64 ((cc S (wn a i) b 1 : Nat) : Int))] (fun w' => Mm w' [(γ2_0, cells6 S), (γ1_0, cells6 a), (γ1_1, cells6 b), (γ1_2, zero6), (g, modx n o s)]) ?pre8 ?F8 ?hpre8 (fun γ => ?hF8) (by kernel_rfl) ?hL8 ?hS8 ?ho8 ?he8
    case hpre8 =>
      simp only [List.take_succ_cons, List.take_zero]
      exact rfl
    case hF8 =>
      simp only [fill, Kind.val, Act.put, List.setIfInBounds_toArray, List.set_cons_zero, List.set_cons_succ]
      exact rfl
    case hL8 => exact trivial
    case hS8 => exact fun w' hb => H8.out.1.below hb
    case ho8 =>
      refine AllOk.cons ?_ ?_
      · exact fun γ => ⟨rfl, fun w' _ => rfl⟩
      refine AllOk.cons ?_ ?_
      · exact fun γ => ⟨rfl, fun w' _ => rfl⟩
      refine AllOk.cons ?_ ?_
      · (refine fun γ => ⟨rfl, fun w' h => ?_⟩; clear h; go_simp)
      refine AllOk.cons ?_ ?_
      · exact fun γ => ⟨rfl, fun w' _ => rfl⟩
      exact trivial
    intro γ w9 l hM hl
    have M9 : Mm w9 [(γ2_0, cells6 S), (γ1_0, cells6 a), (γ1_1, cells6 b), (γ1_2, zero6), (g, modx n o s)] := H8.out.1.grow hM (Nat.le_refl _) hl [] rfl (by decide)
    have B9 : Below w.heap.size w w9 := H8.out.2.trans ((hM.below).mono H8.out.2.size)
    clear hM hl l H8
    clear γ
    have H9 : Hid (_ ∧ _) := ⟨M9, B9⟩
    clear M9 B9
    refine rest_at (l := []) rfl ?_
    refine rest_nil ?_
    refine then_normal ?_
    refine wp_seq ?_
    refine walk_seq 7 [.quiet (.int .u64 (wd X 0)), .quiet (PT g 0), .quiet (PT g 0), .quiet (PT g 6), .quiet (.int .u64 (wrapZ (wd n 0))), .quiet (.int .u64 ((t : Nat) : Int)), .quiet (.int .u64 ((t : Nat) : Int))] (fun w' => Mm w' [(γ2_0, cells6 S), (γ1_0, cells6 a), (γ1_1, cells6 b), (γ1_2, zero6), (g, modx n o s)]) ?pre9 ?F9 ?hpre9 (fun γ => ?hF9) (by kernel_rfl) ?hL9 ?hS9 ?ho9 ?he9
    case hpre9 =>
      simp only [List.take_succ_cons, List.take_zero]
      exact rfl
    case hF9 =>
      simp only [fill, Kind.val, Act.put, List.setIfInBounds_toArray, List.set_cons_zero, List.set_cons_succ]
      exact rfl
    case hL9 => exact trivial
    case hS9 => exact fun w' hb => H9.out.1.below hb
    case ho9 =>
      refine AllOk.cons ?_ ?_
      · exact fun γ => ⟨rfl, fun w' _ => rfl⟩
      refine AllOk.cons ?_ ?_
      · exact fun γ => ⟨rfl, fun w' _ => rfl⟩
      refine AllOk.cons ?_ ?_
      · (refine fun γ => ⟨rfl, fun w' h => ?_⟩; clear h; go_simp)
      refine AllOk.cons ?_ ?_
      · (refine fun γ => ⟨rfl, fun w' h => ?_⟩; clear h; go_simp)
      refine AllOk.cons ?_ ?_
      · exact fun γ => ⟨rfl, fun w' h => ex_load1 h 4 rfl rfl rfl rfl⟩
      refine AllOk.cons ?_ ?_
      · (refine fun γ => ⟨rfl, fun w' h => ?_⟩; clear h; go_simp)
      refine AllOk.cons ?_ ?_
      · exact fun γ => ⟨rfl, fun w' _ => rfl⟩
      exact trivial
    intro γ w10 l hM hl
    have M10 : Mm w10 [(γ2_0, cells6 S), (γ1_0, cells6 a), (γ1_1, cells6 b), (γ1_2, zero6), (g, modx n o s)] := H9.out.1.grow hM (Nat.le_refl _) hl [] rfl (by decide)
    have B10 : Below w.heap.size w w10 := H9.out.2.trans ((hM.below).mono H9.out.2.size)
    clear hM hl l H9
    clear γ
    have H10 : Hid (_ ∧ _) := ⟨M10, B10⟩
    clear M10 B10
    refine rest_at (l := []) rfl ?_
    refine rest_nil ?_
    refine then_normal ?_
    refine wp_seq ?_
    refine walk_seq 12 [.quiet (.int .u64 ((t : Nat) : Int)), .quiet (PT g 0), .quiet (PT g 0), .quiet (PT g 0), .quiet (PT g 0), .quiet (.int .u64 (wd n 0)), .call (.tuple #[.int .u64 h2, .int .u64 l2]), .quiet (.tuple #[.int .u64 h2, .int .u64 l2]), .quiet (.int .u64 h2), .quiet (.int .u64 l2), .quiet (.int .u64 h2), .quiet (.int .u64 l2)] (fun w' => Mm w' [(γ2_0, cells6 S), (γ1_0, cells6 a), (γ1_1, cells6 b), (γ1_2, zero6), (g, modx n o s)]) ?pre10 ?F10 ?hpre10 (fun γ => ?hF10) (by kernel_rfl) ?hL10 ?hS10 ?ho10 ?he10
    case hpre10 =>
      simp only [List.take_succ_cons, List.take_zero]
      exact rfl
    case hF10 =>
      simp only [fill, Kind.val, Act.put, List.setIfInBounds_toArray, List.set_cons_zero, List.set_cons_succ]
      exact rfl
    case hL10 => exact trivial
    case hS10 => exact fun w' hb => H10.out.1.below hb
    case ho10 =>
      refine AllOk.cons ?_ ?_
      · exact fun γ => ⟨rfl, fun w' _ => rfl⟩
      refine AllOk.cons ?_ ?_
      · exact fun γ => ⟨rfl, fun w' _ => rfl⟩
      refine AllOk.cons ?_ ?_
      · (refine fun γ => ⟨rfl, fun w' h => ?_⟩; clear h; go_simp)
      refine AllOk.cons ?_ ?_
      · (refine fun γ => ⟨rfl, fun w' h => ?_⟩; clear h; go_simp)
      refine AllOk.cons ?_ ?_
      · (refine fun γ => ⟨rfl, fun w' h => ?_⟩; clear h; go_simp)
      refine AllOk.cons ?_ ?_
      · exact fun γ => ⟨rfl, fun w' h => ex_load1 h 4 rfl rfl rfl rfl⟩
      refine AllOk.cons ?_ ?_
      · exact fun γ => ⟨rfl, fun w' h => ⟨44, #[.int .u64 ((t : Nat) : Int), .int .u64 (wd n 0)], exec_call rfl call44 rfl (by simp only [List.map_toArray, List.map_cons, List.map_nil]; rfl), CD.out w'⟩⟩
      refine AllOk.cons ?_ ?_
      · exact fun γ => ⟨rfl, fun w' _ => rfl⟩
      refine AllOk.cons ?_ ?_
      · (refine fun γ => ⟨rfl, fun w' h => ?_⟩; clear h; go_simp)
      refine AllOk.cons ?_ ?_
      · (refine fun γ => ⟨rfl, fun w' h => ?_⟩; clear h; go_simp)
      refine AllOk.cons ?_ ?_
      · exact fun γ => ⟨rfl, fun w' _ => rfl⟩
      refine AllOk.cons ?_ ?_
      · exact fun γ => ⟨rfl, fun w' _ => rfl⟩
      exact trivial
    intro γ w11 l hM hl
    have M11 : Mm w11 [(γ2_0, cells6 S), (γ1_0, cells6 a), (γ1_1, cells6 b), (γ1_2, zero6), (g, modx n o s)] := H10.out.1.grow hM (Nat.le_refl _) hl [] rfl (by decide)
    have B11 : Below w.heap.size w w11 := H10.out.2.trans ((hM.below).mono H10.out.2.size)
    clear hM hl l H10
    clear γ
    have H11 : Hid (_ ∧ _) := ⟨M11, B11⟩
    clear M11 B11
    refine rest_at (l := []) rfl ?_
    refine rest_nil ?_
    refine then_normal ?_
    refine wp_seq ?_
    refine walk_seq 7 [.quiet (.int .u64 l2), .quiet (.int .u64 (wd X 0)), .quiet (.tuple #[.int .u64 z2, .int .u64 k2]), .quiet (.tuple #[.int .u64 z2, .int .u64 k2]), .quiet (.int .u64 z2), .quiet (.int .u64 k2), .quiet (.int .u64 k2)] (fun w' => Mm w' [(γ2_0, cells6 S), (γ1_0, cells6 a), (γ1_1, cells6 b), (γ1_2, zero6), (g, modx n o s)]) ?pre11 ?F11 ?hpre11 (fun γ => ?hF11) (by kernel_rfl) ?hL11 ?hS11 ?ho11 ?he11
    case hpre11 =>
      simp only [List.take_succ_cons, List.take_zero]
      exact rfl
    case hF11 =>
      simp only [fill, Kind.val, Act.put, List.setIfInBounds_toArray, List.set_cons_zero, List.set_cons_succ]
      exact rfl
    case hL11 => exact trivial
    case hS11 => exact fun w' hb => H11.out.1.below hb
    case ho11 =>
      refine AllOk.cons ?_ ?_
      · exact fun γ => ⟨rfl, fun w' _ => rfl⟩
      refine AllOk.cons ?_ ?_
      · exact fun γ => ⟨rfl, fun w' _ => rfl⟩
      refine AllOk.cons ?_ ?_
      · exact fun γ => ⟨rfl, fun w' h => ex_extern rfl (CF.out w') rfl (by simp only [List.map_toArray, List.map_cons, List.map_nil]; rfl)⟩
      refine AllOk.cons ?_ ?_
      · exact fun γ => ⟨rfl, fun w' _ => rfl⟩
      refine AllOk.cons ?_ ?_
      · (refine fun γ => ⟨rfl, fun w' h => ?_⟩; clear h; go_simp)
      refine AllOk.cons ?_ ?_
      · (refine fun γ => ⟨rfl, fun w' h => ?_⟩; clear h; go_simp)
      refine AllOk.cons ?_ ?_
      · exact fun γ => ⟨rfl, fun w' _ => rfl⟩
      exact trivial
    intro γ w12 l hM hl
    have M12 : Mm w12 [(γ2_0, cells6 S), (γ1_0, cells6 a), (γ1_1, cells6 b), (γ1_2, zero6), (g, modx n o s)] := H11.out.1.grow hM (Nat.le_refl _) hl [] rfl (by decide)
    have B12 : Below w.heap.size w w12 := H11.out.2.trans ((hM.below).mono H11.out.2.size)
    clear hM hl l H11
    clear γ
    have H12 : Hid (_ ∧ _) := ⟨M12, B12⟩
    clear M12 B12
    refine rest_at (l := []) rfl ?_
    refine rest_nil ?_
    refine then_normal ?_
    refine wp_seq ?_
    refine walk_seq 4 [.quiet (.int .u64 h2), .quiet (.int .u64 k2), .quiet (.int .u64 ((cc X t n 1 : Nat) : Int)), .quiet (.int .u64 ((cc X t n 1 : Nat) : Int))] (fun w' => Mm w' [(γ2_0, cells6 S), (γ1_0, cells6 a), (γ1_1, cells6 b), (γ1_2, zero6), (g, modx n o s)]) ?pre12 ?F12 ?hpre12 (fun γ => ?hF12) (by kernel_rfl) ?hL12 ?hS12 ?ho12 ?he12
    case hpre12 =>
      simp only [List.take_succ_cons, List.take_zero]
      exact rfl
    case hF12 =>
      simp only [fill, Kind.val, Act.put, List.setIfInBounds_toArray, List.set_cons_zero, List.set_cons_succ]
      exact rfl
    case hL12 => exact trivial
    case hS12 => exact fun w' hb => H12.out.1.below hb
    case ho12 =>
      refine AllOk.cons ?_ ?_
      · exact fun γ => ⟨rfl, fun w' _ => rfl⟩
      refine AllOk.cons ?_ ?_
      · exact fun γ => ⟨rfl, fun w' _ => rfl⟩
      refine AllOk.cons ?_ ?_
      · (refine fun γ => ⟨rfl, fun w' h => ?_⟩; clear h; go_simp)
      refine AllOk.cons ?_ ?_
      · exact fun γ => ⟨rfl, fun w' _ => rfl⟩
      exact trivial
    intro γ w13 l hM hl
    have M13 : Mm w13 [(γ2_0, cells6 S), (γ1_0, cells6 a), (γ1_1, cells6 b), (γ1_2, zero6), (g, modx n o s)] := H12.out.1.grow hM (Nat.le_refl _) hl [] rfl (by decide)
    have B13 : Below w.heap.size w w13 := H12.out.2.trans ((hM.below).mono H12.out.2.size)
    clear hM hl l H12
    clear γ
    have H13 : Hid (_ ∧ _) := ⟨M13, B13⟩
    clear M13 B13
    refine rest_at (l := []) rfl ?_
    refine rest_nil ?_
    refine then_normal ?_
    refine wp_seq ?_
    refine wp_seq ?_
    refine walk_seq 1 [.quiet (.int .i64 1)] (fun w' => Mm w' [(γ2_0, cells6 S), (γ1_0, cells6 a), (γ1_1, cells6 b), (γ1_2, zero6), (g, modx n o s)]) ?pre13 ?F13 ?hpre13 (fun γ => ?hF13) (by kernel_rfl) ?hL13 ?hS13 ?ho13 ?he13
    case hpre13 =>
      simp only [List.take_succ_cons, List.take_zero]
      exact rfl
    case hF13 =>
      simp only [fill, Kind.val, Act.put, List.setIfInBounds_toArray, List.set_cons_zero, List.set_cons_succ]
      exact rfl
    case hL13 => exact trivial
    case hS13 => exact fun w' hb => H13.out.1.below hb
    case ho13 =>
      refine AllOk.cons ?_ ?_
      · exact fun γ => ⟨rfl, fun w' _ => rfl⟩
      exact trivial
    intro γ w14 l hM hl
    have M14 : Mm w14 [(γ2_0, cells6 S), (γ1_0, cells6 a), (γ1_1, cells6 b), (γ1_2, zero6), (g, modx n o s)] := H13.out.1.grow hM (Nat.le_refl _) hl [] rfl (by decide)
    have B14 : Below w.heap.size w w14 := H13.out.2.trans ((hM.below).mono H13.out.2.size)
    clear hM hl l H13
    clear γ
    have H14 : Hid (_ ∧ _) := ⟨M14, B14⟩
    clear M14 B14
    refine rest_at (l := []) rfl ?_
    refine rest_nil ?_
    refine then_normal ?_
    refine wp_block ?_
    refine loop_ghost (α := Nat) (fun m a' w' => ∃ s2 : Nat → Value, a' = ⟨#[PT g 0, N a, N b, undef, PT γ1_0 0, PT γ1_1 0, PT γ1_2 0, PT γ2_0 0, undef, .int .u64 (wd a i), .int .u64 h2, s2 11, .int .u64 k2, .int .u64 ((cc S (wn a i) b (m + 1) : Nat) : Int), .int .u64 ((t : Nat) : Int), .int .u64 l2, .int .u64 ((cc X t n (m + 1) : Nat) : Int), .int .i64 ((m + 1 : Nat) : Int), N a, .int .i64 ((i : Nat) : Int), .bool true, .int .u64 (wd a i), .tuple #[.int .u64 h1, .int .u64 l1], .int .u64 (wd a i), PT γ1_1 0, .int .u64 (wd b 0), .tuple #[.int .u64 h1, .int .u64 l1], .int .u64 h1, .int .u64 l1, .tuple #[.int .u64 (wd X 0), .int .u64 k1], .int .u64 l1, PT γ2_0 0, .int .u64 (wd S 0), .tuple #[.int .u64 (wd X 0), .int .u64 k1], .int .u64 (wd X 0), .int .u64 k1, .int .u64 h1, .int .u64 k1, .int .u64 ((cc S (wn a i) b 1 : Nat) : Int), .int .u64 (wd X 0), PT g 0, PT g 0, PT g 6, .int .u64 (wrapZ (wd n 0)), .int .u64 ((t : Nat) : Int), .tuple #[.int .u64 h2, .int .u64 l2], .int .u64 ((t : Nat) : Int), PT g 0, PT g 0, PT g 0, PT g 0, .int .u64 (wd n 0), .tuple #[.int .u64 h2, .int .u64 l2], .int .u64 h2, .int .u64 l2, .tuple #[.int .u64 z2, .int .u64 k2], .int .u64 l2, .int .u64 (wd X 0), .tuple #[.int .u64 z2, .int .u64 k2], .int .u64 z2, .int .u64 k2, .int .u64 h2, .int .u64 k2, .int .u64 ((cc X t n 1 : Nat) : Int), s2 64, s2 65, s2 66, s2 67, s2 68, s2 69, s2 70, s2 71, s2 72, s2 73, s2 74, s2 75, s2 76, s2 77, s2 78, s2 79, s2 80, s2 81, s2 82, s2 83, s2 84, s2 85, s2 86, s2 87, s2 88, s2 89, s2 90, s2 91, s2 92, s2 93, s2 94, s2 95, s0 96, s0 97, s0 98, s0 99, s0 100, undef, undef, undef], []⟩ ∧ (Mm w' [(γ2_0, rowc (inn S Y (m + 1))), (γ1_0, cells6 a), (γ1_1, cells6 b), (γ1_2, zero6), (g, modx n o s)] ∧ Below w.heap.size w w') ∧ m ≤ 5) (fun m => 5 - m) 0 ?st2 ?rd2
    case st2 => exact ⟨(slotfn [undef, undef, undef, undef, undef, undef, undef, undef, undef, undef, undef, .int .u64 (wd X 0), undef, undef, undef, undef, undef, undef, undef, undef, undef, undef, undef, undef, undef, undef, undef, undef, undef, undef, undef, undef, undef, undef, undef, undef, undef, undef, undef, undef, undef, undef, undef, undef, undef, undef, undef, undef, undef, undef, undef, undef, undef, undef, undef, undef, undef, undef, undef, undef, undef, undef, undef, undef, s0 64, s0 65, s0 66, s0 67, s0 68, s0 69, s0 70, s0 71, s0 72, s0 73, s0 74, s0 75, s0 76, s0 77, s0 78, s0 79, s0 80, s0 81, s0 82, s0 83, s0 84, s0 85, s0 86, s0 87, s0 88, s0 89, s0 90, s0 91, s0 92, s0 93, s0 94, s0 95]), rfl, ⟨H14.out.1, H14.out.2⟩, by omega⟩
    intro m a' w15 hI
    obtain ⟨s2, rfl, hMB, hk2⟩ := hI
    have H15 : Hid (_ ∧ _) := hMB
    clear hMB H14
    by_cases hlt2 : m < 5
    · have hrd : True := trivial
      clear hrd
      have hm6 : m + 1 < 6 := by omega
      refine wp_seq ?_
      refine wp_seq ?_
      refine walk_seq 2 [.quiet (.int .i64 ((m + 1 : Nat) : Int)), .quiet (.bool true)] (fun w' => Mm w' [(γ2_0, rowc (inn S Y (m + 1))), (γ1_0, cells6 a), (γ1_1, cells6 b), (γ1_2, zero6), (g, modx n o s)]) ?pre14 ?F14 ?hpre14 (fun γ => ?hF14) (by kernel_rfl) ?hL14 ?hS14 ?ho14 ?he14
      case hpre14 =>
        simp only [List.take_succ_cons, List.take_zero]
        exact rfl
      case hF14 =>
        simp only [fill, Kind.val, Act.put, List.setIfInBounds_toArray, List.set_cons_zero, List.set_cons_succ]
        exact rfl
      case hL14 => exact trivial
      case hS14 => exact fun w' hb => H15.out.1.below hb
      case ho14 =>
        refine AllOk.cons ?_ ?_
        · exact fun γ => ⟨rfl, fun w' _ => rfl⟩
        refine AllOk.cons ?_ ?_
        · (refine fun γ => ⟨rfl, fun w' h => ?_⟩; clear h; go_simp <;> omega)
        exact trivial
      intro γ w16 l hM hl
      have M16 : Mm w16 [(γ2_0, rowc (inn S Y (m + 1))), (γ1_0, cells6 a), (γ1_1, cells6 b), (γ1_2, zero6), (g, modx n o s)] := H15.out.1.grow hM (Nat.le_refl _) hl [] rfl (by decide)
      have B16 : Below w.heap.size w w16 := H15.out.2.trans ((hM.below).mono H15.out.2.size)
      clear hM hl l H15
      clear γ
      have H16 : Hid (_ ∧ _) := ⟨M16, B16⟩
      clear M16 B16
      refine rest_at (l := []) rfl ?_
      refine rest_nil ?_
      refine then_normal ?_
      refine wp_cond_true rfl ?_
      refine wp_skip ?_
      refine then_normal ?_
      refine wp_seq ?_
      refine wp_block ?_
      refine wp_seq ?_
      refine walk_any (by kernel_rfl) 13 [.quiet (.int .u64 (wd a i)), .quiet (.int .i64 ((m + 1 : Nat) : Int)), .quiet (PT γ1_1 (0 + (m + 1))), .quiet (.int .u64 (wd b (m + 1))), .quiet (.int .i64 ((m + 1 : Nat) : Int)), .quiet (PT γ2_0 (0 + (m + 1))), .quiet (.int .u64 (wd S (m + 1))), .quiet (.int .u64 ((cc S (wn a i) b (m + 1) : Nat) : Int)), .call (.tuple #[.int .u64 (wd X (m + 1)), .int .u64 ((cc S (wn a i) b (m + 1 + 1) : Nat) : Int)]), .quiet (.tuple #[.int .u64 (wd X (m + 1)), .int .u64 ((cc S (wn a i) b (m + 1 + 1) : Nat) : Int)]), .quiet (.int .u64 (wd X (m + 1))), .quiet (.int .u64 ((cc S (wn a i) b (m + 1 + 1) : Nat) : Int)), .quiet (.int .u64 (wd X (m + 1)))] (fun w' => Mm w' [(γ2_0, rowc (inn S Y (m + 1))), (γ1_0, cells6 a), (γ1_1, cells6 b), (γ1_2, zero6), (g, modx n o s)]) ?pre15 ?F15 ?hpre15 (fun γ => ?hF15) (by kernel_rfl) ?hL15 ?hS15 ?ho15 ?he15
      case hpre15 =>
        simp only [List.take_succ_cons, List.take_zero]
        exact rfl
      case hF15 =>
        simp only [fill, Kind.val, Act.put, List.setIfInBounds_toArray, List.set_cons_zero, List.set_cons_succ]
        exact rfl
      case hL15 => exact trivial
      case hS15 => exact fun w' hb => H16.out.1.below hb
      case ho15 =>
        refine AllOk.cons ?_ ?_
        · exact fun γ => ⟨rfl, fun w' _ => rfl⟩
        refine AllOk.cons ?_ ?_
        · exact fun γ => ⟨rfl, fun w' _ => rfl⟩
        refine AllOk.cons ?_ ?_
        · exact fun γ => ⟨rfl, fun w' _ => ex_indexAddr6 rfl rfl rfl hm6⟩
        refine AllOk.cons ?_ ?_
        · exact fun γ => ⟨rfl, fun w' h => ex_load1 h 2 rfl rfl rfl (row_at (f := wd b) hm6)⟩
        refine AllOk.cons ?_ ?_
        · exact fun γ => ⟨rfl, fun w' _ => rfl⟩
        refine AllOk.cons ?_ ?_
        · exact fun γ => ⟨rfl, fun w' _ => ex_indexAddr6 rfl rfl rfl hm6⟩
        refine AllOk.cons ?_ ?_
        · exact fun γ => ⟨rfl, fun w' h => ex_load1 h 0 rfl rfl rfl (inn_at hm6)⟩
        refine AllOk.cons ?_ ?_
        · exact fun γ => ⟨rfl, fun w' _ => rfl⟩
        refine AllOk.cons ?_ ?_
        · exact fun γ => ⟨rfl, fun w' h => ⟨45, #[.int .u64 (wd a i), .int .u64 (wd b (m + 1)), .int .u64 (wd S (m + 1)), .int .u64 ((cc S (wn a i) b (m + 1) : Nat) : Int)], exec_call rfl call45 rfl (by simp only [List.map_toArray, List.map_cons, List.map_nil]; rfl), CA.out (m + 1) w'⟩⟩
        refine AllOk.cons ?_ ?_
        · exact fun γ => ⟨rfl, fun w' _ => rfl⟩
        refine AllOk.cons ?_ ?_
        · (refine fun γ => ⟨rfl, fun w' h => ?_⟩; clear h; go_simp)
        refine AllOk.cons ?_ ?_
        · (refine fun γ => ⟨rfl, fun w' h => ?_⟩; clear h; go_simp)
        refine AllOk.cons ?_ ?_
        · exact fun γ => ⟨rfl, fun w' _ => rfl⟩
        exact trivial
      intro γ w17 l hM hl
      have M17 : Mm w17 [(γ2_0, rowc (inn S Y (m + 1))), (γ1_0, cells6 a), (γ1_1, cells6 b), (γ1_2, zero6), (g, modx n o s)] := H16.out.1.grow hM (Nat.le_refl _) hl [] rfl (by decide)
      have B17 : Below w.heap.size w w17 := H16.out.2.trans ((hM.below).mono H16.out.2.size)
      clear hM hl l H16
      clear γ
      have H17 : Hid (_ ∧ _) := ⟨M17, B17⟩
      clear M17 B17
      refine rest_at (l := [13]) rfl ?_
      refine rest_set (d := 13) rfl rfl rfl rfl ?_
      simp only [Act.put, List.setIfInBounds_toArray, List.set_cons_zero, List.set_cons_succ]
      refine rest_nil ?_
      refine then_normal ?_
      refine walk_seq 16 [.quiet (.int .i64 ((m + 1 : Nat) : Int)), .quiet (.int .i64 ((m : Nat) : Int)), .quiet (.int .u64 ((t : Nat) : Int)), .quiet (PT g 0), .quiet (.int .i64 ((m + 1 : Nat) : Int)), .quiet (PT g 0), .quiet (PT g 0), .quiet (PT g (0 + (m + 1))), .quiet (.int .u64 (wd n (m + 1))), .quiet (.int .u64 (wd X (m + 1))), .quiet (.int .u64 ((cc X t n (m + 1) : Nat) : Int)), .call (.tuple #[.int .u64 (wd Y (m + 1)), .int .u64 ((cc X t n (m + 1 + 1) : Nat) : Int)]), .quiet (.tuple #[.int .u64 (wd Y (m + 1)), .int .u64 ((cc X t n (m + 1 + 1) : Nat) : Int)]), .quiet (.int .u64 (wd Y (m + 1))), .quiet (.int .u64 ((cc X t n (m + 1 + 1) : Nat) : Int)), .quiet (PT γ2_0 (0 + m))] (fun w' => Mm w' [(γ2_0, rowc (inn S Y (m + 1))), (γ1_0, cells6 a), (γ1_1, cells6 b), (γ1_2, zero6), (g, modx n o s)]) ?pre16 ?F16 ?hpre16 (fun γ => ?hF16) (by kernel_rfl) ?hL16 ?hS16 ?ho16 ?he16
      case hpre16 =>
        simp only [List.take_succ_cons, List.take_zero]
        exact rfl
      case hF16 =>
        simp only [fill, Kind.val, Act.put, List.setIfInBounds_toArray, List.set_cons_zero, List.set_cons_succ]
        exact rfl
      case hL16 => exact trivial
      case hS16 => exact fun w' hb => H17.out.1.below hb
      case ho16 =>
        refine AllOk.cons ?_ ?_
        · exact fun γ => ⟨rfl, fun w' _ => rfl⟩
        refine AllOk.cons ?_ ?_
        · (refine fun γ => ⟨rfl, fun w' h => ?_⟩; clear h; go_simp; rw [IntKind.wrap_i64]; omega)
        refine AllOk.cons ?_ ?_
        · exact fun γ => ⟨rfl, fun w' _ => rfl⟩
        refine AllOk.cons ?_ ?_
        · exact fun γ => ⟨rfl, fun w' _ => rfl⟩
        refine AllOk.cons ?_ ?_
        · exact fun γ => ⟨rfl, fun w' _ => rfl⟩
        refine AllOk.cons ?_ ?_
        · (refine fun γ => ⟨rfl, fun w' h => ?_⟩; clear h; go_simp)
        refine AllOk.cons ?_ ?_
        · (refine fun γ => ⟨rfl, fun w' h => ?_⟩; clear h; go_simp)
        refine AllOk.cons ?_ ?_
        · exact fun γ => ⟨rfl, fun w' _ => ex_indexAddr6 rfl rfl rfl hm6⟩
        refine AllOk.cons ?_ ?_
        · exact fun γ => ⟨rfl, fun w' h => ex_load1 h 4 rfl rfl rfl (modn_at hm6)⟩
        refine AllOk.cons ?_ ?_
        · exact fun γ => ⟨rfl, fun w' _ => rfl⟩
        refine AllOk.cons ?_ ?_
        · exact fun γ => ⟨rfl, fun w' _ => rfl⟩
        refine AllOk.cons ?_ ?_
        · exact fun γ => ⟨rfl, fun w' h => ⟨45, #[.int .u64 ((t : Nat) : Int), .int .u64 (wd n (m + 1)), .int .u64 (wd X (m + 1)), .int .u64 ((cc X t n (m + 1) : Nat) : Int)], exec_call rfl call45 rfl (by simp only [List.map_toArray, List.map_cons, List.map_nil]; rfl), CB.out (m + 1) w'⟩⟩
        refine AllOk.cons ?_ ?_
        · exact fun γ => ⟨rfl, fun w' _ => rfl⟩
        refine AllOk.cons ?_ ?_
        · (refine fun γ => ⟨rfl, fun w' h => ?_⟩; clear h; go_simp)
        refine AllOk.cons ?_ ?_
        · (refine fun γ => ⟨rfl, fun w' h => ?_⟩; clear h; go_simp)
        refine AllOk.cons ?_ ?_
        · exact fun γ => ⟨rfl, fun w' _ => ex_indexAddr6 rfl rfl rfl (Nat.lt_of_succ_lt hm6)⟩
        exact trivial
      intro γ w18 l hM hl
      have M18 : Mm w18 [(γ2_0, rowc (inn S Y (m + 1))), (γ1_0, cells6 a), (γ1_1, cells6 b), (γ1_2, zero6), (g, modx n o s)] := H17.out.1.grow hM (Nat.le_refl _) hl [] rfl (by decide)
      have B18 : Below w.heap.size w w18 := H17.out.2.trans ((hM.below).mono H17.out.2.size)
      clear hM hl l H17
      clear γ
      have H18 : Hid (_ ∧ _) := ⟨M18, B18⟩
      clear M18 B18
      refine rest_at (l := [16, 17]) rfl ?_
      refine rest_store rfl rfl rfl (ex_storeI H18.out.1 0 rfl rfl Try.sizeOf22 rfl rfl (row_bd (Nat.lt_of_succ_lt hm6))) ?_
      have H19 : Hid (Mm (w18.setCells γ2_0 (0 + m) [.int .u64 (wd Y (m + 1))]) [(γ2_0, rowc (inn S Y (m + 1 + 1))), (γ1_0, cells6 a), (γ1_1, cells6 b), (γ1_2, zero6), (g, modx n o s)] ∧ Below w.heap.size w (w18.setCells γ2_0 (0 + m) [.int .u64 (wd Y (m + 1))])) := ⟨by
        have h := H18.out.1.put 0 (off := (0 + m)) (vs := [.int .u64 (wd Y (m + 1))]) rfl (row_bd (Nat.lt_of_succ_lt hm6))
        rw [patch_row (Nat.lt_of_succ_lt hm6), inn_step rfl] at h
        exact h, below_setCells _ o2_0.out _ _ _ H18.out.2⟩
      clear H18
      generalize hgw : World.setCells _ _ _ _ = w19 at H19 ⊢
      clear hgw
      refine rest_set (d := 16) rfl rfl rfl rfl ?_
      simp only [Act.put, List.setIfInBounds_toArray, List.set_cons_zero, List.set_cons_succ]
      refine rest_nil ?_
      refine block_normal ?_
      refine then_normal ?_
      refine walk_seq 2 [.quiet (.int .i64 ((m + 1 : Nat) : Int)), .quiet (.int .i64 ((m + 1 + 1 : Nat) : Int))] (fun w' => Mm w' [(γ2_0, rowc (inn S Y (m + 1 + 1))), (γ1_0, cells6 a), (γ1_1, cells6 b), (γ1_2, zero6), (g, modx n o s)]) ?pre17 ?F17 ?hpre17 (fun γ => ?hF17) (by kernel_rfl) ?hL17 ?hS17 ?ho17 ?he17
      case hpre17 =>
        simp only [List.take_succ_cons, List.take_zero]
        exact rfl
      case hF17 =>
        simp only [fill, Kind.val, Act.put, List.setIfInBounds_toArray, List.set_cons_zero, List.set_cons_succ]
        exact rfl
      case hL17 => exact trivial
      case hS17 => exact fun w' hb => H19.out.1.below hb
      case ho17 =>
        refine AllOk.cons ?_ ?_
        · exact fun γ => ⟨rfl, fun w' _ => rfl⟩
        refine AllOk.cons ?_ ?_
        · (refine fun γ => ⟨rfl, fun w' h => ?_⟩; clear h; go_simp; rw [IntKind.wrap_i64]; omega)
        exact trivial
      intro γ w20 l hM hl
      have M20 : Mm w20 [(γ2_0, rowc (inn S Y (m + 1 + 1))), (γ1_0, cells6 a), (γ1_1, cells6 b), (γ1_2, zero6), (g, modx n o s)] := H19.out.1.grow hM (Nat.le_refl _) hl [] rfl (by decide)
      have B20 : Below w.heap.size w w20 := H19.out.2.trans ((hM.below).mono H19.out.2.size)
      clear hM hl l H19
      clear γ
      have H20 : Hid (_ ∧ _) := ⟨M20, B20⟩
      clear M20 B20
      refine rest_at (l := [2]) rfl ?_
      refine rest_set (d := 17) rfl rfl rfl rfl ?_
      simp only [Act.put, List.setIfInBounds_toArray, List.set_cons_zero, List.set_cons_succ]
      refine rest_nil ?_
      refine then_normal ?_
      exact ⟨m + 1, ⟨(slotfn [undef, undef, undef, undef, undef, undef, undef, undef, undef, undef, undef, .int .u64 (wd X (m + 1)), undef, undef, undef, undef, undef, undef, undef, undef, undef, undef, undef, undef, undef, undef, undef, undef, undef, undef, undef, undef, undef, undef, undef, undef, undef, undef, undef, undef, undef, undef, undef, undef, undef, undef, undef, undef, undef, undef, undef, undef, undef, undef, undef, undef, undef, undef, undef, undef, undef, undef, undef, undef, .int .i64 ((m + 1 : Nat) : Int), .bool true, .int .i64 ((m + 1 : Nat) : Int), .int .i64 ((m + 1 + 1 : Nat) : Int), .tuple #[.int .u64 (wd X (m + 1)), .int .u64 ((cc S (wn a i) b (m + 1 + 1) : Nat) : Int)], .int .u64 (wd a i), .int .i64 ((m + 1 : Nat) : Int), PT γ1_1 (0 + (m + 1)), .int .u64 (wd b (m + 1)), .int .i64 ((m + 1 : Nat) : Int), PT γ2_0 (0 + (m + 1)), .int .u64 (wd S (m + 1)), .int .u64 ((cc S (wn a i) b (m + 1) : Nat) : Int), .tuple #[.int .u64 (wd X (m + 1)), .int .u64 ((cc S (wn a i) b (m + 1 + 1) : Nat) : Int)], .int .u64 (wd X (m + 1)), .int .u64 ((cc S (wn a i) b (m + 1 + 1) : Nat) : Int), .tuple #[.int .u64 (wd Y (m + 1)), .int .u64 ((cc X t n (m + 1 + 1) : Nat) : Int)], .int .i64 ((m + 1 : Nat) : Int), .int .i64 ((m : Nat) : Int), .int .u64 ((t : Nat) : Int), PT g 0, .int .i64 ((m + 1 : Nat) : Int), PT g 0, PT g 0, PT g (0 + (m + 1)), .int .u64 (wd n (m + 1)), .int .u64 (wd X (m + 1)), .int .u64 ((cc X t n (m + 1) : Nat) : Int), .tuple #[.int .u64 (wd Y (m + 1)), .int .u64 ((cc X t n (m + 1 + 1) : Nat) : Int)], .int .u64 (wd Y (m + 1)), .int .u64 ((cc X t n (m + 1 + 1) : Nat) : Int), PT γ2_0 (0 + m)]), rfl, ⟨H20.out.1, H20.out.2⟩, by omega⟩, by omega⟩
    have hm5 : m = 5 := by omega
    subst hm5
    refine wp_seq ?_
    refine wp_seq ?_
    refine walk_seq 2 [.quiet (.int .i64 ((5 + 1 : Nat) : Int)), .quiet (.bool false)] (fun w' => Mm w' [(γ2_0, rowc (inn S Y (5 + 1))), (γ1_0, cells6 a), (γ1_1, cells6 b), (γ1_2, zero6), (g, modx n o s)]) ?pre18 ?F18 ?hpre18 (fun γ => ?hF18) (by kernel_rfl) ?hL18 ?hS18 ?ho18 ?he18
    case hpre18 =>
      simp only [List.take_succ_cons, List.take_zero]
      exact rfl
    case hF18 =>
      simp only [fill, Kind.val, Act.put, List.setIfInBounds_toArray, List.set_cons_zero, List.set_cons_succ]
      exact rfl
    case hL18 => exact trivial
    case hS18 => exact fun w' hb => H15.out.1.below hb
    case ho18 =>
      refine AllOk.cons ?_ ?_
      · exact fun γ => ⟨rfl, fun w' _ => rfl⟩
      refine AllOk.cons ?_ ?_
      · (refine fun γ => ⟨rfl, fun w' h => ?_⟩; clear h; go_simp <;> omega)
      exact trivial
    intro γ w21 l hM hl
    have M21 : Mm w21 [(γ2_0, rowc (inn S Y (5 + 1))), (γ1_0, cells6 a), (γ1_1, cells6 b), (γ1_2, zero6), (g, modx n o s)] := H15.out.1.grow hM (Nat.le_refl _) hl [] rfl (by decide)
    have B21 : Below w.heap.size w w21 := H15.out.2.trans ((hM.below).mono H15.out.2.size)
    clear hM hl l H15
    clear γ
    have H21 : Hid (_ ∧ _) := ⟨M21, B21⟩
    clear M21 B21
    refine rest_at (l := []) rfl ?_
    refine rest_nil ?_
    refine then_normal ?_
    refine wp_cond_false rfl ?_
    refine wp_exit ?_
    repeat refine then_exit ?_
    refine block_exit ?_
    refine then_normal ?_
    refine walk_seq 4 [.quiet (.int .u64 ((cc S (wn a i) b (5 + 1) : Nat) : Int)), .quiet (.int .u64 ((cc X t n (5 + 1) : Nat) : Int)), .quiet (.int .u64 (wd Z 5)), .quiet (PT γ2_0 5)] (fun w' => Mm w' [(γ2_0, rowc (inn S Y (5 + 1))), (γ1_0, cells6 a), (γ1_1, cells6 b), (γ1_2, zero6), (g, modx n o s)]) ?pre19 ?F19 ?hpre19 (fun γ => ?hF19) (by kernel_rfl) ?hL19 ?hS19 ?ho19 ?he19
    case hpre19 =>
      simp only [List.take_succ_cons, List.take_zero]
      exact rfl
    case hF19 =>
      simp only [fill, Kind.val, Act.put, List.setIfInBounds_toArray, List.set_cons_zero, List.set_cons_succ]
      exact rfl
    case hL19 => exact trivial
    case hS19 => exact fun w' hb => H21.out.1.below hb
    case ho19 =>
      refine AllOk.cons ?_ ?_
      · exact fun γ => ⟨rfl, fun w' _ => rfl⟩
      refine AllOk.cons ?_ ?_
      · exact fun γ => ⟨rfl, fun w' _ => rfl⟩
      refine AllOk.cons ?_ ?_
      · (refine fun γ => ⟨rfl, fun w' h => ?_⟩; clear h; go_simp)
      refine AllOk.cons ?_ ?_
      · (refine fun γ => ⟨rfl, fun w' h => ?_⟩; clear h; go_simp)
      exact trivial
    intro γ w22 l hM hl
    have M22 : Mm w22 [(γ2_0, rowc (inn S Y (5 + 1))), (γ1_0, cells6 a), (γ1_1, cells6 b), (γ1_2, zero6), (g, modx n o s)] := H21.out.1.grow hM (Nat.le_refl _) hl [] rfl (by decide)
    have B22 : Below w.heap.size w w22 := H21.out.2.trans ((hM.below).mono H21.out.2.size)
    clear hM hl l H21
    clear γ
    have H22 : Hid (_ ∧ _) := ⟨M22, B22⟩
    clear M22 B22
    refine rest_at (l := [4]) rfl ?_
    refine rest_store rfl rfl rfl (ex_storeI H22.out.1 0 rfl rfl Try.sizeOf22 rfl rfl (Nat.le_of_ble_eq_true rfl)) ?_
    have H23 : Hid (Mm (w22.setCells γ2_0 5 [.int .u64 (wd Z 5)]) [(γ2_0, cells6 Z), (γ1_0, cells6 a), (γ1_1, cells6 b), (γ1_2, zero6), (g, modx n o s)] ∧ Below w.heap.size w (w22.setCells γ2_0 5 [.int .u64 (wd Z 5)])) := ⟨by
      have h := H22.out.1.put 0 (off := 5) (vs := [.int .u64 (wd Z 5)]) rfl (Nat.le_of_ble_eq_true rfl)
      rw [patch_row5, inn_end rfl E6.out] at h
      exact h, below_setCells _ o2_0.out _ _ _ H22.out.2⟩
    clear H22
    generalize hgw : World.setCells _ _ _ _ = w23 at H23 ⊢
    clear hgw
    refine rest_nil ?_
    refine block_normal ?_
    refine then_normal ?_
    refine walk_seq 1 [.quiet (.int .i64 ((i + 1 : Nat) : Int))] (fun w' => Mm w' [(γ2_0, cells6 Z), (γ1_0, cells6 a), (γ1_1, cells6 b), (γ1_2, zero6), (g, modx n o s)]) ?pre20 ?F20 ?hpre20 (fun γ => ?hF20) (by kernel_rfl) ?hL20 ?hS20 ?ho20 ?he20
    case hpre20 =>
      simp only [List.take_succ_cons, List.take_zero]
      exact rfl
    case hF20 =>
      simp only [fill, Kind.val, Act.put, List.setIfInBounds_toArray, List.set_cons_zero, List.set_cons_succ]
      exact rfl
    case hL20 => exact trivial
    case hS20 => exact fun w' hb => H23.out.1.below hb
    case ho20 =>
      refine AllOk.cons ?_ ?_
      · (refine fun γ => ⟨rfl, fun w' h => ?_⟩; clear h; go_simp; rw [IntKind.wrap_i64]; omega)
      exact trivial
    intro γ w24 l hM hl
    have M24 : Mm w24 [(γ2_0, cells6 Z), (γ1_0, cells6 a), (γ1_1, cells6 b), (γ1_2, zero6), (g, modx n o s)] := H23.out.1.grow hM (Nat.le_refl _) hl [] rfl (by decide)
    have B24 : Below w.heap.size w w24 := H23.out.2.trans ((hM.below).mono H23.out.2.size)
    clear hM hl l H23
    clear γ
    have H24 : Hid (_ ∧ _) := ⟨M24, B24⟩
    clear M24 B24
    refine rest_at (l := [1]) rfl ?_
    refine rest_set (d := 19) rfl rfl rfl rfl ?_
    simp only [Act.put, List.setIfInBounds_toArray, List.set_cons_zero, List.set_cons_succ]
    refine rest_nil ?_
    refine then_normal ?_
    exact ⟨i + 1, ⟨(slotfn [undef, undef, undef, undef, undef, undef, undef, undef, undef, .int .u64 (wd a i), .int .u64 h2, s2 11, .int .u64 k2, .int .u64 ((cc S (wn a i) b (5 + 1) : Nat) : Int), .int .u64 ((t : Nat) : Int), .int .u64 l2, .int .u64 ((cc X t n (5 + 1) : Nat) : Int), .int .i64 ((5 + 1 : Nat) : Int), undef, undef, .bool true, .int .u64 (wd a i), .tuple #[.int .u64 h1, .int .u64 l1], .int .u64 (wd a i), PT γ1_1 0, .int .u64 (wd b 0), .tuple #[.int .u64 h1, .int .u64 l1], .int .u64 h1, .int .u64 l1, .tuple #[.int .u64 (wd X 0), .int .u64 k1], .int .u64 l1, PT γ2_0 0, .int .u64 (wd S 0), .tuple #[.int .u64 (wd X 0), .int .u64 k1], .int .u64 (wd X 0), .int .u64 k1, .int .u64 h1, .int .u64 k1, .int .u64 ((cc S (wn a i) b 1 : Nat) : Int), .int .u64 (wd X 0), PT g 0, PT g 0, PT g 6, .int .u64 (wrapZ (wd n 0)), .int .u64 ((t : Nat) : Int), .tuple #[.int .u64 h2, .int .u64 l2], .int .u64 ((t : Nat) : Int), PT g 0, PT g 0, PT g 0, PT g 0, .int .u64 (wd n 0), .tuple #[.int .u64 h2, .int .u64 l2], .int .u64 h2, .int .u64 l2, .tuple #[.int .u64 z2, .int .u64 k2], .int .u64 l2, .int .u64 (wd X 0), .tuple #[.int .u64 z2, .int .u64 k2], .int .u64 z2, .int .u64 k2, .int .u64 h2, .int .u64 k2, .int .u64 ((cc X t n 1 : Nat) : Int), .int .i64 ((5 + 1 : Nat) : Int), .bool false, s2 66, s2 67, s2 68, s2 69, s2 70, s2 71, s2 72, s2 73, s2 74, s2 75, s2 76, s2 77, s2 78, s2 79, s2 80, s2 81, s2 82, s2 83, s2 84, s2 85, s2 86, s2 87, s2 88, s2 89, s2 90, s2 91, s2 92, s2 93, s2 94, s2 95, .int .u64 ((cc S (wn a i) b (5 + 1) : Nat) : Int), .int .u64 ((cc X t n (5 + 1) : Nat) : Int), .int .u64 (wd Z 5), PT γ2_0 5, .int .i64 ((i + 1 : Nat) : Int)]), rfl, by rw [← HZ.out]; exact H24.out, by omega⟩, by omega⟩
  have hi6 : i = 6 := by omega
  subst hi6
  refine wp_seq ?_
  refine walk_seq 1 [.quiet (.bool false)] (fun w' => Mm w' [(γ2_0, cells6 (mrun n (wrapN n) a b 6)), (γ1_0, cells6 a), (γ1_1, cells6 b), (γ1_2, zero6), (g, modx n o s)]) ?pre21 ?F21 ?hpre21 (fun γ => ?hF21) (by kernel_rfl) ?hL21 ?hS21 ?ho21 ?he21
  case hpre21 =>
    simp only [List.take_succ_cons, List.take_zero]
    exact rfl
  case hF21 =>
    simp only [fill, Kind.val, Act.put, List.setIfInBounds_toArray, List.set_cons_zero, List.set_cons_succ]
    exact rfl
  case hL21 => exact trivial
  case hS21 => exact fun w' hb => H4.out.1.below hb
  case ho21 =>
    refine AllOk.cons ?_ ?_
    · (refine fun γ => ⟨rfl, fun w' h => ?_⟩; clear h; go_simp <;> omega)
    exact trivial
  intro γ w25 l hM hl
  have M25 : Mm w25 [(γ2_0, cells6 (mrun n (wrapN n) a b 6)), (γ1_0, cells6 a), (γ1_1, cells6 b), (γ1_2, zero6), (g, modx n o s)] := H4.out.1.grow hM (Nat.le_refl _) hl [] rfl (by decide)
  have B25 : Below w.heap.size w w25 := H4.out.2.trans ((hM.below).mono H4.out.2.size)
  clear hM hl l H4
  clear γ
  have H25 : Hid (_ ∧ _) := ⟨M25, B25⟩
  clear M25 B25
  refine rest_at (l := []) rfl ?_
  refine rest_nil ?_
  refine then_normal ?_
  refine wp_seq ?_
  refine wp_cond_false rfl ?_
  refine wp_exit ?_
  repeat refine then_exit ?_
  refine block_exit ?_
  refine then_normal ?_
  refine wp_seq ?_
  refine walk_seq 3 [.quiet (PT g 0), .quiet (N (mrun n (wrapN n) a b 6)), .call (N (mont n a b))] (fun w' => Mm w' [(γ2_0, cells6 (mrun n (wrapN n) a b 6)), (γ1_0, cells6 a), (γ1_1, cells6 b), (γ1_2, zero6), (g, modx n o s)]) ?pre22 ?F22 ?hpre22 (fun γ => ?hF22) (by kernel_rfl) ?hL22 ?hS22 ?ho22 ?he22
  case hpre22 =>
    simp only [List.take_succ_cons, List.take_zero]
    exact rfl
  case hF22 =>
    simp only [fill, Kind.val, Act.put, List.setIfInBounds_toArray, List.set_cons_zero, List.set_cons_succ]
    exact rfl
  case hL22 => exact trivial
  case hS22 => exact fun w' hb => H25.out.1.below hb
  case ho22 =>
    refine AllOk.cons ?_ ?_
    · exact fun γ => ⟨rfl, fun w' _ => rfl⟩
    refine AllOk.cons ?_ ?_
    · exact fun γ => ⟨rfl, fun w' h => ex_load6 h 0 rfl rfl rfl rfl⟩
    refine AllOk.cons ?_ ?_
    · exact fun γ => ⟨rfl, fun w' h => ⟨46, #[PT g 0, N (mrun n (wrapN n) a b 6)], exec_call rfl call46 rfl (by simp only [List.map_toArray, List.map_cons, List.map_nil]; rfl), CG.out w' (h.one 4 rfl)⟩⟩
    exact trivial
  intro γ w26 l hM hl
  have M26 : Mm w26 [(γ2_0, cells6 (mrun n (wrapN n) a b 6)), (γ1_0, cells6 a), (γ1_1, cells6 b), (γ1_2, zero6), (g, modx n o s)] := H25.out.1.grow hM (Nat.le_refl _) hl [] rfl (by decide)
  have B26 : Below w.heap.size w w26 := H25.out.2.trans ((hM.below).mono H25.out.2.size)
  clear hM hl l H25
  clear γ
  have H26 : Hid (_ ∧ _) := ⟨M26, B26⟩
  clear M26 B26
  refine rest_at (l := [3]) rfl ?_
  refine rest_store rfl rfl rfl (ex_store6 H26.out.1 3 rfl rfl rfl rfl (Nat.le_of_ble_eq_true rfl)) ?_
  have H27 : Hid (Mm (w26.setCells γ1_2 0 (cells6 (mont n a b))) [(γ2_0, cells6 (mrun n (wrapN n) a b 6)), (γ1_0, cells6 a), (γ1_1, cells6 b), (γ1_2, cells6 (mont n a b)), (g, modx n o s)] ∧ Below w.heap.size w (w26.setCells γ1_2 0 (cells6 (mont n a b)))) := ⟨H26.out.1.put 3 (off := 0) (vs := cells6 (mont n a b)) rfl (Nat.le_of_ble_eq_true rfl), below_setCells _ o1_2.out _ _ _ H26.out.2⟩
  clear H26
  generalize hgw : World.setCells _ _ _ _ = w27 at H27 ⊢
  clear hgw
  refine rest_nil ?_
  refine then_normal ?_
  refine wp_ret ?_
  repeat (first | refine then_ret ?_ | refine block_ret ?_)
  have c0 := H27.out.1.get 3 rfl 0 rfl
  have c1 := H27.out.1.get 3 rfl 1 rfl
  have c2 := H27.out.1.get 3 rfl 2 rfl
  have c3 := H27.out.1.get 3 rfl 3 rfl
  have c4 := H27.out.1.get 3 rfl 4 rfl
  have c5 := H27.out.1.get 3 rfl 5 rfl
  refine bodyPost_ret (v := N (mont n a b)) (by simp [results, Try.results33, go_sem, *]) rfl ?_
  exact ⟨rfl, H27.out.2⟩
end Rg
end Go.Proofs.Ytoagmdgmbkpghaa
