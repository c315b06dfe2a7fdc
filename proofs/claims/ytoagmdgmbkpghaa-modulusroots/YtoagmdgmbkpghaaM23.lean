/- Pow and Inv of the document, with contracts as premises -/
import Derived.Test.YtoagmdgmbkpghaaM22
import Derived.Test.YtoagmdgmbkpghaaPR
namespace Go.Proofs.Ytoagmdgmbkpghaa
open Go.RowKit
namespace Rg
theorem call26 : ∀ args w, (callFunc 26 args).run Try.prog w = .ok (.enter 26 args) w := by intro args w; go_simp
theorem call4 : ∀ args w, (callFunc 4 args).run Try.prog w = .ok (.enter 4 args) w := by intro args w; go_simp
theorem ex_build1' {ρ : Operand → Value} {o : Oper} {w : World} {c : Nat} (hc : c = 1) (ho : o.op = .build 24 #[(0, .const (.int .u64 1))]) (hx : ρ (.const (.int .u64 1)) = .int .u64 1) : (execOp ρ o).run Try.prog w = .ok (.value (N c)) w := by
  subst hc
  have h1 : wd 1 1 = 0 := wd_small 1 0 (by decide)
  have h2 : wd 1 2 = 0 := wd_small 1 1 (by decide)
  have h3 : wd 1 3 = 0 := wd_small 1 2 (by decide)
  have h4 : wd 1 4 = 0 := wd_small 1 3 (by decide)
  have h5 : wd 1 5 = 0 := wd_small 1 4 (by decide)
  have h0 : wd 1 0 = 1 := wd_small0 1 (by decide)
  unfold N
  rw [h0, h1, h2, h3, h4, h5]
  simp only [execOp, ho]
  clear h0 h1 h2 h3 h4 h5
  go_simp
set_option maxHeartbeats 1000000 in
set_option maxRecDepth 100000 in
theorem rpow_gen (n a e k1 o l : Nat) (hk1 : k1 = 1) (hl : l ≤ 384) (f q : Nat → Nat) (bv : Nat → Int) (fl : f l = o) (hbv : ∀ k, bv k = 1 ∨ bv k = 0) (fq : ∀ k, bv k = 0 → q k = f k)
    (co : ∀ w, Calls Try.prog 27 #[N n, N k1] w fun e w' => e = .returned (N o) ∧ Below w.heap.size w w')
    (cl : ∀ w, Calls Try.prog 4 #[N e] w fun e w' => e = .returned (.int .i64 ((l : Nat) : Int)) ∧ Below w.heap.size w w')
    (cs : ∀ k w, Calls Try.prog 26 #[N n, N (f (k + 1)), N (f (k + 1))] w fun e w' => e = .returned (N (q k)) ∧ Below w.heap.size w w')
    (ci : ∀ k w, k + 1 ≤ 384 → Calls Try.prog 9 #[N e, .int .i64 (((k + 1 : Nat) : Int) - 1)] w fun e w' => e = .returned (.int .i64 (bv k)) ∧ Below w.heap.size w w')
    (cu : ∀ k, bv k = 1 → ∀ w, Calls Try.prog 26 #[N n, N (q k), N a] w fun e w' => e = .returned (N (f k)) ∧ Below w.heap.size w w') (w : World) :
    Calls Try.prog 24 #[N n, N a, N e] w fun e w' => e = .returned (N (f 0)) ∧ Below w.heap.size w w' := by
  have H0 : Hid (_ ∧ _) := ⟨Mm.nil w, Below.refl w.heap.size w⟩
  have CO : Hid _ := co
  have CL : Hid _ := cl
  have CS : Hid _ := cs
  have CI : Hid _ := ci
  have CM : Hid _ := cu
  have FL : Hid _ := fl
  have HB : Hid _ := hbv
  have FQ : Hid _ := fq
  have HK : Hid _ := hk1
  clear co cl cs ci cu fl hbv fq hk1
  go_enter Try.func24, Try.ntmps24
  refine wp_seq ?_
  refine walk_seq 4 [.made (cells6 n) 24, .made (cells6 a) 24, .made (cells6 e) 24, .made zero6 24] (fun w' => Mm w' []) ?pre1 ?F1 ?hpre1 (fun γ => ?hF1) (by kernel_rfl) ?hL1 ?hS1 ?ho1 ?he1
  case hpre1 =>
    simp only [List.take_succ_cons, List.take_zero]
    exact rfl
  case hF1 =>
    simp only [fill, Kind.val, Act.put, List.setIfInBounds_toArray, List.set_cons_zero, List.set_cons_succ]
    exact rfl
  case hL1 => exact trivial
  case hS1 => exact fun w' hb => H0.out.1.below hb
  case ho1 =>
    refine AllOk.cons ?_ ?_
    · exact fun γ => ⟨rfl, fun w' => ex_box6 rfl rfl⟩
    refine AllOk.cons ?_ ?_
    · exact fun γ => ⟨rfl, fun w' => ex_box6 rfl rfl⟩
    refine AllOk.cons ?_ ?_
    · exact fun γ => ⟨rfl, fun w' => ex_box6 rfl rfl⟩
    refine AllOk.cons ?_ ?_
    · exact fun γ => ⟨rfl, fun w' => exec_made6 rfl⟩
    exact trivial
  intro γ w1 l hM hl
  have M1 : Mm w1 [(γ 0, cells6 n), (γ 1, cells6 a), (γ 2, cells6 e), (γ 3, zero6)] := H0.out.1.grow hM (Nat.le_refl _) hl [0, 1, 2, 3] rfl (by decide)
  have B1 : Below w.heap.size w w1 := H0.out.2.trans (hM.below.mono H0.out.2.size)
  have o1_0 : Hid (w.heap.size ≤ γ 0) := Nat.le_trans H0.out.2.size (hM.fin (Nat.le_refl _) hl (i := 0) rfl).2.1
  have o1_1 : Hid (w.heap.size ≤ γ 1) := Nat.le_trans H0.out.2.size (hM.fin (Nat.le_refl _) hl (i := 1) rfl).2.1
  have o1_2 : Hid (w.heap.size ≤ γ 2) := Nat.le_trans H0.out.2.size (hM.fin (Nat.le_refl _) hl (i := 2) rfl).2.1
  have o1_3 : Hid (w.heap.size ≤ γ 3) := Nat.le_trans H0.out.2.size (hM.fin (Nat.le_refl _) hl (i := 3) rfl).2.1
  clear hM hl l
  generalize γ 0 = γ1_0 at M1 o1_0 ⊢
  generalize γ 1 = γ1_1 at M1 o1_1 ⊢
  generalize γ 2 = γ1_2 at M1 o1_2 ⊢
  generalize γ 3 = γ1_3 at M1 o1_3 ⊢
  clear γ
  have H1 : Hid (_ ∧ _) := ⟨M1, B1⟩
  clear M1 B1
  refine rest_at (l := []) rfl ?_
  refine rest_nil ?_
  refine then_normal ?_
  refine wp_seq ?_
  refine walk_seq 5 [.quiet (N n), .quiet (N k1), .call (N o), .made zero6 24, .laid 3 zero6 (cells6 o)] (fun w' => Mm w' [(γ1_0, cells6 n), (γ1_1, cells6 a), (γ1_2, cells6 e), (γ1_3, zero6)]) ?pre2 ?F2 ?hpre2 (fun γ => ?hF2) (by kernel_rfl) ?hL2 ?hS2 ?ho2 ?he2
  case hpre2 =>
    simp only [List.take_succ_cons, List.take_zero]
    exact rfl
  case hF2 =>
    simp only [fill, Kind.val, Act.put, List.setIfInBounds_toArray, List.set_cons_zero, List.set_cons_succ]
    exact rfl
  case hL2 => exact ⟨⟨_, rfl⟩, trivial⟩
  case hS2 => exact fun w' hb => H1.out.1.below hb
  case ho2 =>
    refine AllOk.cons ?_ ?_
    · exact fun γ => ⟨rfl, fun w' h => ex_load6 h 0 rfl rfl rfl rfl⟩
    refine AllOk.cons ?_ ?_
    · exact fun γ => ⟨rfl, fun w' _ => ex_build1' HK.out rfl rfl⟩
    refine AllOk.cons ?_ ?_
    · exact fun γ => ⟨rfl, fun w' h => ⟨27, #[N n, N k1], exec_call rfl call27 rfl (by simp only [List.map_toArray, List.map_cons, List.map_nil]; rfl), CO.out w'⟩⟩
    refine AllOk.cons ?_ ?_
    · exact fun γ => ⟨rfl, fun w' => exec_made6 rfl⟩
    refine AllOk.cons ?_ ?_
    · exact fun γ => ⟨rfl, rfl, rfl, fun w' h => exec_laid6 h rfl rfl rfl⟩
    exact trivial
  intro γ w2 l hM hl
  have M2 : Mm w2 [(γ 3, cells6 o), (γ1_0, cells6 n), (γ1_1, cells6 a), (γ1_2, cells6 e), (γ1_3, zero6)] := H1.out.1.grow hM (Nat.le_refl _) hl [3] rfl (by decide)
  have B2 : Below w.heap.size w w2 := H1.out.2.trans (hM.below.mono H1.out.2.size)
  have o2_3 : Hid (w.heap.size ≤ γ 3) := Nat.le_trans H1.out.2.size (hM.fin (Nat.le_refl _) hl (i := 3) rfl).2.1
  clear hM hl l H1
  generalize γ 3 = γ2_3 at M2 o2_3 ⊢
  clear γ
  have H2 : Hid (_ ∧ _) := ⟨M2, B2⟩
  clear M2 B2
  refine rest_at (l := []) rfl ?_
  refine rest_nil ?_
  refine then_normal ?_
  refine wp_seq ?_
  refine wp_seq ?_
  refine walk_seq 4 [.quiet (N e), .call (.int .i64 ((l : Nat) : Int)), .quiet (.int .i64 (((l : Nat) : Int) - 1)), .quiet (.int .i64 (((l : Nat) : Int) - 1))] (fun w' => Mm w' [(γ2_3, cells6 o), (γ1_0, cells6 n), (γ1_1, cells6 a), (γ1_2, cells6 e), (γ1_3, zero6)]) ?pre3 ?F3 ?hpre3 (fun γ => ?hF3) (by kernel_rfl) ?hL3 ?hS3 ?ho3 ?he3
  case hpre3 =>
    simp only [List.take_succ_cons, List.take_zero]
    exact rfl
  case hF3 =>
    simp only [fill, Kind.val, Act.put, List.setIfInBounds_toArray, List.set_cons_zero, List.set_cons_succ]
    exact rfl
  case hL3 => exact trivial
  case hS3 => exact fun w' hb => H2.out.1.below hb
  case ho3 =>
    refine AllOk.cons ?_ ?_
    · exact fun γ => ⟨rfl, fun w' h => ex_load6 h 3 rfl rfl rfl rfl⟩
    refine AllOk.cons ?_ ?_
    · exact fun γ => ⟨rfl, fun w' h => ⟨4, #[N e], exec_call rfl call4 rfl (by simp only [List.map_toArray, List.map_cons, List.map_nil]; rfl), CL.out w'⟩⟩
    refine AllOk.cons ?_ ?_
    · (refine fun γ => ⟨rfl, fun w' h => ?_⟩; clear h; go_simp; rw [IntKind.wrap_i64]; omega)
    refine AllOk.cons ?_ ?_
    · exact fun γ => ⟨rfl, fun w' _ => rfl⟩
    exact trivial
  intro γ w3 l hM hl
  have M3 : Mm w3 [(γ2_3, cells6 o), (γ1_0, cells6 n), (γ1_1, cells6 a), (γ1_2, cells6 e), (γ1_3, zero6)] := H2.out.1.grow hM (Nat.le_refl _) hl [] rfl (by decide)
  have B3 : Below w.heap.size w w3 := H2.out.2.trans (hM.below.mono H2.out.2.size)
  clear hM hl l H2
  clear γ
  have H3 : Hid (_ ∧ _) := ⟨M3, B3⟩
  clear M3 B3
  refine rest_at (l := []) rfl ?_
  refine rest_nil ?_
  refine then_normal ?_
  refine wp_block ?_
  refine loop_ghost (α := Nat) (fun k a' w' => ∃ s0 : Nat → Value, a' = ⟨#[N n, N a, N e, PT γ1_0 0, PT γ1_1 0, PT γ1_2 0, PT γ1_3 0, PT γ2_3 0, .int .i64 (((k : Nat) : Int) - 1), N n, N k1, N o, N e, .int .i64 ((l : Nat) : Int), .int .i64 (((l : Nat) : Int) - 1), s0 15, s0 16, s0 17, s0 18, s0 19, s0 20, s0 21, s0 22, s0 23, s0 24, s0 25, s0 26, s0 27, s0 28, s0 29, s0 30, undef], []⟩ ∧ (Mm w' [(γ2_3, cells6 (f k)), (γ1_0, cells6 n), (γ1_1, cells6 a), (γ1_2, cells6 e), (γ1_3, zero6)] ∧ Below w.heap.size w w') ∧ k ≤ l) (fun k => k) l ?st0 ?rd0
  case st0 => exact ⟨(slotfn [undef, undef, undef, undef, undef, undef, undef, undef, undef, undef, undef, undef, undef, undef, undef, undef, undef, undef, undef, undef, undef, undef, undef, undef, undef, undef, undef, undef, undef, undef, undef]), rfl, ⟨H3.out.1.at0 (by rw [FL.out]), H3.out.2⟩, by omega⟩
  intro k a' w4 hI
  obtain ⟨s0, rfl, hMB, hk0⟩ := hI
  have H4 : Hid (_ ∧ _) := hMB
  clear hMB H3
  by_cases hlt : 1 ≤ k
  · have hrd : True := trivial
    clear hrd
    obtain ⟨j, rfl⟩ : ∃ j, k = j + 1 := ⟨k - 1, by omega⟩
    by_cases hb : bv j = 1
    · have hrd : True := trivial
      clear hrd
      have hb' : bv j = 1 := hb
      refine wp_seq ?_
      refine wp_seq ?_
      refine walk_seq 2 [.quiet (.int .i64 (((j + 1 : Nat) : Int) - 1)), .quiet (.bool true)] (fun w' => Mm w' [(γ2_3, cells6 (f (j + 1))), (γ1_0, cells6 n), (γ1_1, cells6 a), (γ1_2, cells6 e), (γ1_3, zero6)]) ?pre4 ?F4 ?hpre4 (fun γ => ?hF4) (by kernel_rfl) ?hL4 ?hS4 ?ho4 ?he4
      case hpre4 =>
        simp only [List.take_succ_cons, List.take_zero]
        exact rfl
      case hF4 =>
        simp only [fill, Kind.val, Act.put, List.setIfInBounds_toArray, List.set_cons_zero, List.set_cons_succ]
        exact rfl
      case hL4 => exact trivial
      case hS4 => exact fun w' hb => H4.out.1.below hb
      case ho4 =>
        refine AllOk.cons ?_ ?_
        · exact fun γ => ⟨rfl, fun w' _ => rfl⟩
        refine AllOk.cons ?_ ?_
        · (refine fun γ => ⟨rfl, fun w' h => ?_⟩; clear h; go_simp <;> omega)
        exact trivial
      intro γ w5 l hM hl
      have M5 : Mm w5 [(γ2_3, cells6 (f (j + 1))), (γ1_0, cells6 n), (γ1_1, cells6 a), (γ1_2, cells6 e), (γ1_3, zero6)] := H4.out.1.grow hM (Nat.le_refl _) hl [] rfl (by decide)
      have B5 : Below w.heap.size w w5 := H4.out.2.trans (hM.below.mono H4.out.2.size)
      clear hM hl l H4
      clear γ
      have H5 : Hid (_ ∧ _) := ⟨M5, B5⟩
      clear M5 B5
      refine rest_at (l := []) rfl ?_
      refine rest_nil ?_
      refine then_normal ?_
      refine wp_cond_true rfl ?_
      refine wp_skip ?_
      refine then_normal ?_
      refine wp_seq ?_
      refine wp_block ?_
      refine wp_seq ?_
      refine walk_seq 4 [.quiet (N n), .quiet (N (f (j + 1))), .quiet (N (f (j + 1))), .call (N (q j))] (fun w' => Mm w' [(γ2_3, cells6 (f (j + 1))), (γ1_0, cells6 n), (γ1_1, cells6 a), (γ1_2, cells6 e), (γ1_3, zero6)]) ?pre5 ?F5 ?hpre5 (fun γ => ?hF5) (by kernel_rfl) ?hL5 ?hS5 ?ho5 ?he5
      case hpre5 =>
        simp only [List.take_succ_cons, List.take_zero]
        exact rfl
      case hF5 =>
        simp only [fill, Kind.val, Act.put, List.setIfInBounds_toArray, List.set_cons_zero, List.set_cons_succ]
        exact rfl
      case hL5 => exact trivial
      case hS5 => exact fun w' hb => H5.out.1.below hb
      case ho5 =>
        refine AllOk.cons ?_ ?_
        · exact fun γ => ⟨rfl, fun w' h => ex_load6 h 1 rfl rfl rfl rfl⟩
        refine AllOk.cons ?_ ?_
        · exact fun γ => ⟨rfl, fun w' h => ex_load6 h 0 rfl rfl rfl rfl⟩
        refine AllOk.cons ?_ ?_
        · exact fun γ => ⟨rfl, fun w' h => ex_load6 h 0 rfl rfl rfl rfl⟩
        refine AllOk.cons ?_ ?_
        · exact fun γ => ⟨rfl, fun w' h => ⟨26, #[N n, N (f (j + 1)), N (f (j + 1))], exec_call rfl call26 rfl (by simp only [List.map_toArray, List.map_cons, List.map_nil]; rfl), CS.out j w'⟩⟩
        exact trivial
      intro γ w6 l hM hl
      have M6 : Mm w6 [(γ2_3, cells6 (f (j + 1))), (γ1_0, cells6 n), (γ1_1, cells6 a), (γ1_2, cells6 e), (γ1_3, zero6)] := H5.out.1.grow hM (Nat.le_refl _) hl [] rfl (by decide)
      have B6 : Below w.heap.size w w6 := H5.out.2.trans (hM.below.mono H5.out.2.size)
      clear hM hl l H5
      clear γ
      have H6 : Hid (_ ∧ _) := ⟨M6, B6⟩
      clear M6 B6
      refine rest_at (l := [4]) rfl ?_
      refine rest_store rfl rfl rfl (ex_store6 H6.out.1 0 rfl rfl rfl rfl (Nat.le_of_ble_eq_true rfl)) ?_
      have H7 : Hid (Mm (w6.setCells γ2_3 0 (cells6 (q j))) [(γ2_3, cells6 (q j)), (γ1_0, cells6 n), (γ1_1, cells6 a), (γ1_2, cells6 e), (γ1_3, zero6)] ∧ Below w.heap.size w (w6.setCells γ2_3 0 (cells6 (q j)))) := ⟨H6.out.1.put 0 (off := 0) (vs := cells6 (q j)) rfl (Nat.le_of_ble_eq_true rfl), below_setCells _ o2_3.out _ _ _ H6.out.2⟩
      clear H6
      generalize hgw : World.setCells _ _ _ _ = w7 at H7 ⊢
      clear hgw
      refine rest_nil ?_
      refine then_normal ?_
      refine wp_seq ?_
      refine walk_seq 4 [.quiet (N e), .quiet (.int .i64 (((j + 1 : Nat) : Int) - 1)), .call (.int .i64 (bv j)), .quiet (.bool true)] (fun w' => Mm w' [(γ2_3, cells6 (q j)), (γ1_0, cells6 n), (γ1_1, cells6 a), (γ1_2, cells6 e), (γ1_3, zero6)]) ?pre6 ?F6 ?hpre6 (fun γ => ?hF6) (by kernel_rfl) ?hL6 ?hS6 ?ho6 ?he6
      case hpre6 =>
        simp only [List.take_succ_cons, List.take_zero]
        exact rfl
      case hF6 =>
        simp only [fill, Kind.val, Act.put, List.setIfInBounds_toArray, List.set_cons_zero, List.set_cons_succ]
        exact rfl
      case hL6 => exact trivial
      case hS6 => exact fun w' hb => H7.out.1.below hb
      case ho6 =>
        refine AllOk.cons ?_ ?_
        · exact fun γ => ⟨rfl, fun w' h => ex_load6 h 3 rfl rfl rfl rfl⟩
        refine AllOk.cons ?_ ?_
        · exact fun γ => ⟨rfl, fun w' _ => rfl⟩
        refine AllOk.cons ?_ ?_
        · exact fun γ => ⟨rfl, fun w' h => ⟨9, #[N e, .int .i64 (((j + 1 : Nat) : Int) - 1)], exec_call rfl call9 rfl (by simp only [List.map_toArray, List.map_cons, List.map_nil]; rfl), CI.out j w' (by omega)⟩⟩
        refine AllOk.cons ?_ ?_
        · (refine fun γ => ⟨rfl, fun w' h => ?_⟩; clear h; go_simp <;> omega)
        exact trivial
      intro γ w8 l hM hl
      have M8 : Mm w8 [(γ2_3, cells6 (q j)), (γ1_0, cells6 n), (γ1_1, cells6 a), (γ1_2, cells6 e), (γ1_3, zero6)] := H7.out.1.grow hM (Nat.le_refl _) hl [] rfl (by decide)
      have B8 : Below w.heap.size w w8 := H7.out.2.trans (hM.below.mono H7.out.2.size)
      clear hM hl l H7
      clear γ
      have H8 : Hid (_ ∧ _) := ⟨M8, B8⟩
      clear M8 B8
      refine rest_at (l := []) rfl ?_
      refine rest_nil ?_
      refine then_normal ?_
      refine wp_cond_true rfl ?_
      refine walk_seq 4 [.quiet (N n), .quiet (N (q j)), .quiet (N a), .call (N (f j))] (fun w' => Mm w' [(γ2_3, cells6 (q j)), (γ1_0, cells6 n), (γ1_1, cells6 a), (γ1_2, cells6 e), (γ1_3, zero6)]) ?pre7 ?F7 ?hpre7 (fun γ => ?hF7) (by kernel_rfl) ?hL7 ?hS7 ?ho7 ?he7
      case hpre7 =>
        simp only [List.take_succ_cons, List.take_zero]
        exact rfl
      case hF7 =>
        simp only [fill, Kind.val, Act.put, List.setIfInBounds_toArray, List.set_cons_zero, List.set_cons_succ]
        exact rfl
      case hL7 => exact trivial
      case hS7 => exact fun w' hb => H8.out.1.below hb
      case ho7 =>
        refine AllOk.cons ?_ ?_
        · exact fun γ => ⟨rfl, fun w' h => ex_load6 h 1 rfl rfl rfl rfl⟩
        refine AllOk.cons ?_ ?_
        · exact fun γ => ⟨rfl, fun w' h => ex_load6 h 0 rfl rfl rfl rfl⟩
        refine AllOk.cons ?_ ?_
        · exact fun γ => ⟨rfl, fun w' h => ex_load6 h 2 rfl rfl rfl rfl⟩
        refine AllOk.cons ?_ ?_
        · exact fun γ => ⟨rfl, fun w' h => ⟨26, #[N n, N (q j), N a], exec_call rfl call26 rfl (by simp only [List.map_toArray, List.map_cons, List.map_nil]; rfl), CM.out j hb' w'⟩⟩
        exact trivial
      intro γ w9 l hM hl
      have M9 : Mm w9 [(γ2_3, cells6 (q j)), (γ1_0, cells6 n), (γ1_1, cells6 a), (γ1_2, cells6 e), (γ1_3, zero6)] := H8.out.1.grow hM (Nat.le_refl _) hl [] rfl (by decide)
      have B9 : Below w.heap.size w w9 := H8.out.2.trans (hM.below.mono H8.out.2.size)
      clear hM hl l H8
      clear γ
      have H9 : Hid (_ ∧ _) := ⟨M9, B9⟩
      clear M9 B9
      refine rest_at (l := [4]) rfl ?_
      refine rest_store rfl rfl rfl (ex_store6 H9.out.1 0 rfl rfl rfl rfl (Nat.le_of_ble_eq_true rfl)) ?_
      have H10 : Hid (Mm (w9.setCells γ2_3 0 (cells6 (f j))) [(γ2_3, cells6 (f j)), (γ1_0, cells6 n), (γ1_1, cells6 a), (γ1_2, cells6 e), (γ1_3, zero6)] ∧ Below w.heap.size w (w9.setCells γ2_3 0 (cells6 (f j)))) := ⟨H9.out.1.put 0 (off := 0) (vs := cells6 (f j)) rfl (Nat.le_of_ble_eq_true rfl), below_setCells _ o2_3.out _ _ _ H9.out.2⟩
      clear H9
      generalize hgw : World.setCells _ _ _ _ = w10 at H10 ⊢
      clear hgw
      refine rest_nil ?_
      refine block_normal ?_
      refine then_normal ?_
      refine walk_seq 2 [.quiet (.int .i64 (((j + 1 : Nat) : Int) - 1)), .quiet (.int .i64 (((j : Nat) : Int) - 1))] (fun w' => Mm w' [(γ2_3, cells6 (f j)), (γ1_0, cells6 n), (γ1_1, cells6 a), (γ1_2, cells6 e), (γ1_3, zero6)]) ?pre8 ?F8 ?hpre8 (fun γ => ?hF8) (by kernel_rfl) ?hL8 ?hS8 ?ho8 ?he8
      case hpre8 =>
        simp only [List.take_succ_cons, List.take_zero]
        exact rfl
      case hF8 =>
        simp only [fill, Kind.val, Act.put, List.setIfInBounds_toArray, List.set_cons_zero, List.set_cons_succ]
        exact rfl
      case hL8 => exact trivial
      case hS8 => exact fun w' hb => H10.out.1.below hb
      case ho8 =>
        refine AllOk.cons ?_ ?_
        · exact fun γ => ⟨rfl, fun w' _ => rfl⟩
        refine AllOk.cons ?_ ?_
        · (refine fun γ => ⟨rfl, fun w' h => ?_⟩; clear h; go_simp; rw [IntKind.wrap_i64]; omega)
        exact trivial
      intro γ w11 l hM hl
      have M11 : Mm w11 [(γ2_3, cells6 (f j)), (γ1_0, cells6 n), (γ1_1, cells6 a), (γ1_2, cells6 e), (γ1_3, zero6)] := H10.out.1.grow hM (Nat.le_refl _) hl [] rfl (by decide)
      have B11 : Below w.heap.size w w11 := H10.out.2.trans (hM.below.mono H10.out.2.size)
      clear hM hl l H10
      clear γ
      have H11 : Hid (_ ∧ _) := ⟨M11, B11⟩
      clear M11 B11
      refine rest_at (l := [2]) rfl ?_
      refine rest_set (d := 8) rfl rfl rfl rfl ?_
      simp only [Act.put, List.setIfInBounds_toArray, List.set_cons_zero, List.set_cons_succ]
      refine rest_nil ?_
      refine then_normal ?_
      exact ⟨j, ⟨(slotfn [undef, undef, undef, undef, undef, undef, undef, undef, undef, undef, undef, undef, undef, undef, undef, .int .i64 (((j + 1 : Nat) : Int) - 1), .bool true, .int .i64 (((j + 1 : Nat) : Int) - 1), .int .i64 (((j : Nat) : Int) - 1), N n, N (f (j + 1)), N (f (j + 1)), N (q j), N e, .int .i64 (((j + 1 : Nat) : Int) - 1), .int .i64 (bv j), .bool true, N n, N (q j), N a, N (f j)]), rfl, ⟨H11.out.1, H11.out.2⟩, by omega⟩, by omega⟩
    · have hrd : True := trivial
      clear hrd
      have hb' : bv j = 0 := (HB.out j).resolve_left hb
      have HQ : Hid _ := FQ.out j hb'
      refine wp_seq ?_
      refine wp_seq ?_
      refine walk_seq 2 [.quiet (.int .i64 (((j + 1 : Nat) : Int) - 1)), .quiet (.bool true)] (fun w' => Mm w' [(γ2_3, cells6 (f (j + 1))), (γ1_0, cells6 n), (γ1_1, cells6 a), (γ1_2, cells6 e), (γ1_3, zero6)]) ?pre9 ?F9 ?hpre9 (fun γ => ?hF9) (by kernel_rfl) ?hL9 ?hS9 ?ho9 ?he9
      case hpre9 =>
        simp only [List.take_succ_cons, List.take_zero]
        exact rfl
      case hF9 =>
        simp only [fill, Kind.val, Act.put, List.setIfInBounds_toArray, List.set_cons_zero, List.set_cons_succ]
        exact rfl
      case hL9 => exact trivial
      case hS9 => exact fun w' hb => H4.out.1.below hb
      case ho9 =>
        refine AllOk.cons ?_ ?_
        · exact fun γ => ⟨rfl, fun w' _ => rfl⟩
        refine AllOk.cons ?_ ?_
        · (refine fun γ => ⟨rfl, fun w' h => ?_⟩; clear h; go_simp <;> omega)
        exact trivial
      intro γ w12 l hM hl
      have M12 : Mm w12 [(γ2_3, cells6 (f (j + 1))), (γ1_0, cells6 n), (γ1_1, cells6 a), (γ1_2, cells6 e), (γ1_3, zero6)] := H4.out.1.grow hM (Nat.le_refl _) hl [] rfl (by decide)
      have B12 : Below w.heap.size w w12 := H4.out.2.trans (hM.below.mono H4.out.2.size)
      clear hM hl l H4
      clear γ
      have H12 : Hid (_ ∧ _) := ⟨M12, B12⟩
      clear M12 B12
      refine rest_at (l := []) rfl ?_
      refine rest_nil ?_
      refine then_normal ?_
      refine wp_cond_true rfl ?_
      refine wp_skip ?_
      refine then_normal ?_
      refine wp_seq ?_
      refine wp_block ?_
      refine wp_seq ?_
      refine walk_seq 4 [.quiet (N n), .quiet (N (f (j + 1))), .quiet (N (f (j + 1))), .call (N (q j))] (fun w' => Mm w' [(γ2_3, cells6 (f (j + 1))), (γ1_0, cells6 n), (γ1_1, cells6 a), (γ1_2, cells6 e), (γ1_3, zero6)]) ?pre10 ?F10 ?hpre10 (fun γ => ?hF10) (by kernel_rfl) ?hL10 ?hS10 ?ho10 ?he10
      case hpre10 =>
        simp only [List.take_succ_cons, List.take_zero]
        exact rfl
      case hF10 =>
        simp only [fill, Kind.val, Act.put, List.setIfInBounds_toArray, List.set_cons_zero, List.set_cons_succ]
        exact rfl
      case hL10 => exact trivial
      case hS10 => exact fun w' hb => H12.out.1.below hb
      case ho10 =>
        refine AllOk.cons ?_ ?_
        · exact fun γ => ⟨rfl, fun w' h => ex_load6 h 1 rfl rfl rfl rfl⟩
        refine AllOk.cons ?_ ?_
        · exact fun γ => ⟨rfl, fun w' h => ex_load6 h 0 rfl rfl rfl rfl⟩
        refine AllOk.cons ?_ ?_
        · exact fun γ => ⟨rfl, fun w' h => ex_load6 h 0 rfl rfl rfl rfl⟩
        refine AllOk.cons ?_ ?_
        · exact fun γ => ⟨rfl, fun w' h => ⟨26, #[N n, N (f (j + 1)), N (f (j + 1))], exec_call rfl call26 rfl (by simp only [List.map_toArray, List.map_cons, List.map_nil]; rfl), CS.out j w'⟩⟩
        exact trivial
      intro γ w13 l hM hl
      have M13 : Mm w13 [(γ2_3, cells6 (f (j + 1))), (γ1_0, cells6 n), (γ1_1, cells6 a), (γ1_2, cells6 e), (γ1_3, zero6)] := H12.out.1.grow hM (Nat.le_refl _) hl [] rfl (by decide)
      have B13 : Below w.heap.size w w13 := H12.out.2.trans (hM.below.mono H12.out.2.size)
      clear hM hl l H12
      clear γ
      have H13 : Hid (_ ∧ _) := ⟨M13, B13⟩
      clear M13 B13
      refine rest_at (l := [4]) rfl ?_
      refine rest_store rfl rfl rfl (ex_store6 H13.out.1 0 rfl rfl rfl rfl (Nat.le_of_ble_eq_true rfl)) ?_
      have H14 : Hid (Mm (w13.setCells γ2_3 0 (cells6 (q j))) [(γ2_3, cells6 (q j)), (γ1_0, cells6 n), (γ1_1, cells6 a), (γ1_2, cells6 e), (γ1_3, zero6)] ∧ Below w.heap.size w (w13.setCells γ2_3 0 (cells6 (q j)))) := ⟨H13.out.1.put 0 (off := 0) (vs := cells6 (q j)) rfl (Nat.le_of_ble_eq_true rfl), below_setCells _ o2_3.out _ _ _ H13.out.2⟩
      clear H13
      generalize hgw : World.setCells _ _ _ _ = w14 at H14 ⊢
      clear hgw
      refine rest_nil ?_
      refine then_normal ?_
      refine wp_seq ?_
      refine walk_seq 4 [.quiet (N e), .quiet (.int .i64 (((j + 1 : Nat) : Int) - 1)), .call (.int .i64 (bv j)), .quiet (.bool false)] (fun w' => Mm w' [(γ2_3, cells6 (q j)), (γ1_0, cells6 n), (γ1_1, cells6 a), (γ1_2, cells6 e), (γ1_3, zero6)]) ?pre11 ?F11 ?hpre11 (fun γ => ?hF11) (by kernel_rfl) ?hL11 ?hS11 ?ho11 ?he11
      case hpre11 =>
        simp only [List.take_succ_cons, List.take_zero]
        exact rfl
      case hF11 =>
        simp only [fill, Kind.val, Act.put, List.setIfInBounds_toArray, List.set_cons_zero, List.set_cons_succ]
        exact rfl
      case hL11 => exact trivial
      case hS11 => exact fun w' hb => H14.out.1.below hb
      case ho11 =>
        refine AllOk.cons ?_ ?_
        · exact fun γ => ⟨rfl, fun w' h => ex_load6 h 3 rfl rfl rfl rfl⟩
        refine AllOk.cons ?_ ?_
        · exact fun γ => ⟨rfl, fun w' _ => rfl⟩
        refine AllOk.cons ?_ ?_
        · exact fun γ => ⟨rfl, fun w' h => ⟨9, #[N e, .int .i64 (((j + 1 : Nat) : Int) - 1)], exec_call rfl call9 rfl (by simp only [List.map_toArray, List.map_cons, List.map_nil]; rfl), CI.out j w' (by omega)⟩⟩
        refine AllOk.cons ?_ ?_
        · (refine fun γ => ⟨rfl, fun w' h => ?_⟩; clear h; go_simp <;> omega)
        exact trivial
      intro γ w15 l hM hl
      have M15 : Mm w15 [(γ2_3, cells6 (q j)), (γ1_0, cells6 n), (γ1_1, cells6 a), (γ1_2, cells6 e), (γ1_3, zero6)] := H14.out.1.grow hM (Nat.le_refl _) hl [] rfl (by decide)
      have B15 : Below w.heap.size w w15 := H14.out.2.trans (hM.below.mono H14.out.2.size)
      clear hM hl l H14
      clear γ
      have H15 : Hid (_ ∧ _) := ⟨M15, B15⟩
      clear M15 B15
      refine rest_at (l := []) rfl ?_
      refine rest_nil ?_
      refine then_normal ?_
      refine wp_cond_false rfl ?_
      refine wp_skip ?_
      refine block_normal ?_
      refine then_normal ?_
      refine walk_seq 2 [.quiet (.int .i64 (((j + 1 : Nat) : Int) - 1)), .quiet (.int .i64 (((j : Nat) : Int) - 1))] (fun w' => Mm w' [(γ2_3, cells6 (q j)), (γ1_0, cells6 n), (γ1_1, cells6 a), (γ1_2, cells6 e), (γ1_3, zero6)]) ?pre12 ?F12 ?hpre12 (fun γ => ?hF12) (by kernel_rfl) ?hL12 ?hS12 ?ho12 ?he12
      case hpre12 =>
        simp only [List.take_succ_cons, List.take_zero]
        exact rfl
      case hF12 =>
        simp only [fill, Kind.val, Act.put, List.setIfInBounds_toArray, List.set_cons_zero, List.set_cons_succ]
        exact rfl
      case hL12 => exact trivial
      case hS12 => exact fun w' hb => H15.out.1.below hb
      case ho12 =>
        refine AllOk.cons ?_ ?_
        · exact fun γ => ⟨rfl, fun w' _ => rfl⟩
        refine AllOk.cons ?_ ?_
        · (refine fun γ => ⟨rfl, fun w' h => ?_⟩; clear h; go_simp; rw [IntKind.wrap_i64]; omega)
        exact trivial
      intro γ w16 l hM hl
      have M16 : Mm w16 [(γ2_3, cells6 (q j)), (γ1_0, cells6 n), (γ1_1, cells6 a), (γ1_2, cells6 e), (γ1_3, zero6)] := H15.out.1.grow hM (Nat.le_refl _) hl [] rfl (by decide)
      have B16 : Below w.heap.size w w16 := H15.out.2.trans (hM.below.mono H15.out.2.size)
      clear hM hl l H15
      clear γ
      have H16 : Hid (_ ∧ _) := ⟨M16, B16⟩
      clear M16 B16
      refine rest_at (l := [2]) rfl ?_
      refine rest_set (d := 8) rfl rfl rfl rfl ?_
      simp only [Act.put, List.setIfInBounds_toArray, List.set_cons_zero, List.set_cons_succ]
      refine rest_nil ?_
      refine then_normal ?_
      exact ⟨j, ⟨(slotfn [undef, undef, undef, undef, undef, undef, undef, undef, undef, undef, undef, undef, undef, undef, undef, .int .i64 (((j + 1 : Nat) : Int) - 1), .bool true, .int .i64 (((j + 1 : Nat) : Int) - 1), .int .i64 (((j : Nat) : Int) - 1), N n, N (f (j + 1)), N (f (j + 1)), N (q j), N e, .int .i64 (((j + 1 : Nat) : Int) - 1), .int .i64 (bv j), .bool false, s0 27, s0 28, s0 29, s0 30]), rfl, ⟨by rw [← HQ.out]; exact H16.out.1, H16.out.2⟩, by omega⟩, by omega⟩
  have hk0 : k = 0 := by omega
  subst hk0
  refine wp_seq ?_
  refine wp_seq ?_
  refine walk_seq 2 [.quiet (.int .i64 (((0 : Nat) : Int) - 1)), .quiet (.bool false)] (fun w' => Mm w' [(γ2_3, cells6 (f 0)), (γ1_0, cells6 n), (γ1_1, cells6 a), (γ1_2, cells6 e), (γ1_3, zero6)]) ?pre13 ?F13 ?hpre13 (fun γ => ?hF13) (by kernel_rfl) ?hL13 ?hS13 ?ho13 ?he13
  case hpre13 =>
    simp only [List.take_succ_cons, List.take_zero]
    exact rfl
  case hF13 =>
    simp only [fill, Kind.val, Act.put, List.setIfInBounds_toArray, List.set_cons_zero, List.set_cons_succ]
    exact rfl
  case hL13 => exact trivial
  case hS13 => exact fun w' hb => H4.out.1.below hb
  case ho13 =>
    refine AllOk.cons ?_ ?_
    · exact fun γ => ⟨rfl, fun w' _ => rfl⟩
    refine AllOk.cons ?_ ?_
    · (refine fun γ => ⟨rfl, fun w' h => ?_⟩; clear h; go_simp <;> omega)
    exact trivial
  intro γ w17 l hM hl
  have M17 : Mm w17 [(γ2_3, cells6 (f 0)), (γ1_0, cells6 n), (γ1_1, cells6 a), (γ1_2, cells6 e), (γ1_3, zero6)] := H4.out.1.grow hM (Nat.le_refl _) hl [] rfl (by decide)
  have B17 : Below w.heap.size w w17 := H4.out.2.trans (hM.below.mono H4.out.2.size)
  clear hM hl l H4
  clear γ
  have H17 : Hid (_ ∧ _) := ⟨M17, B17⟩
  clear M17 B17
  refine rest_at (l := []) rfl ?_
  refine rest_nil ?_
  refine then_normal ?_
  refine wp_cond_false rfl ?_
  refine wp_exit ?_
  repeat refine then_exit ?_
  refine block_exit ?_
  refine then_normal ?_
  refine wp_seq ?_
  refine walk_seq 1 [.quiet (N (f 0))] (fun w' => Mm w' [(γ2_3, cells6 (f 0)), (γ1_0, cells6 n), (γ1_1, cells6 a), (γ1_2, cells6 e), (γ1_3, zero6)]) ?pre14 ?F14 ?hpre14 (fun γ => ?hF14) (by kernel_rfl) ?hL14 ?hS14 ?ho14 ?he14
  case hpre14 =>
    simp only [List.take_succ_cons, List.take_zero]
    exact rfl
  case hF14 =>
    simp only [fill, Kind.val, Act.put, List.setIfInBounds_toArray, List.set_cons_zero, List.set_cons_succ]
    exact rfl
  case hL14 => exact trivial
  case hS14 => exact fun w' hb => H17.out.1.below hb
  case ho14 =>
    refine AllOk.cons ?_ ?_
    · exact fun γ => ⟨rfl, fun w' h => ex_load6 h 0 rfl rfl rfl rfl⟩
    exact trivial
  intro γ w18 l hM hl
  have M18 : Mm w18 [(γ2_3, cells6 (f 0)), (γ1_0, cells6 n), (γ1_1, cells6 a), (γ1_2, cells6 e), (γ1_3, zero6)] := H17.out.1.grow hM (Nat.le_refl _) hl [] rfl (by decide)
  have B18 : Below w.heap.size w w18 := H17.out.2.trans (hM.below.mono H17.out.2.size)
  clear hM hl l H17
  clear γ
  have H18 : Hid (_ ∧ _) := ⟨M18, B18⟩
  clear M18 B18
  refine rest_at (l := [1]) rfl ?_
  refine rest_store rfl rfl rfl (ex_store6 H18.out.1 4 rfl rfl rfl rfl (Nat.le_of_ble_eq_true rfl)) ?_
  have H19 : Hid (Mm (w18.setCells γ1_3 0 (cells6 (f 0))) [(γ2_3, cells6 (f 0)), (γ1_0, cells6 n), (γ1_1, cells6 a), (γ1_2, cells6 e), (γ1_3, cells6 (f 0))] ∧ Below w.heap.size w (w18.setCells γ1_3 0 (cells6 (f 0)))) := ⟨H18.out.1.put 4 (off := 0) (vs := cells6 (f 0)) rfl (Nat.le_of_ble_eq_true rfl), below_setCells _ o1_3.out _ _ _ H18.out.2⟩
  clear H18
  generalize hgw : World.setCells _ _ _ _ = w19 at H19 ⊢
  clear hgw
  refine rest_nil ?_
  refine then_normal ?_
  refine wp_ret ?_
  repeat (first | refine then_ret ?_ | refine block_ret ?_)
  have c0 := H19.out.1.get 4 rfl 0 rfl
  have c1 := H19.out.1.get 4 rfl 1 rfl
  have c2 := H19.out.1.get 4 rfl 2 rfl
  have c3 := H19.out.1.get 4 rfl 3 rfl
  have c4 := H19.out.1.get 4 rfl 4 rfl
  have c5 := H19.out.1.get 4 rfl 5 rfl
  refine bodyPost_ret (v := N (f 0)) (by simp [results, Try.results24, go_sem, *]) rfl ?_
  exact ⟨rfl, H19.out.2⟩

structure RS where
  r : Nat
  s : Nat
  x : Nat
  y : Nat
structure RI (n a r s x y : Nat) : Prop where
  sr : s < r
  rn : r ≤ n
  xn : x < n
  yn : y < n
  gcd : Nat.gcd r s = Nat.gcd n a
  cx : Cg n r (x * a)
  cy : Cg n s (y * a)
theorem RI.start {n a : Nat} (ok : Ok n) : RI n a n (a % n) 0 1 := by
  refine ⟨Nat.mod_lt _ ok.pos, Nat.le_refl _, ok.pos, by have := ok.three; omega, ?_, ?_, ?_⟩
  · rw [Nat.gcd_comm n (a % n), ← Nat.gcd_rec, Nat.gcd_comm]
  · rw [Nat.zero_mul]
    have := Cg.zero n 1
    rwa [Nat.one_mul] at this
  · rw [Nat.one_mul]; exact Cg.mod n a
theorem RI.next {n a r s x y : Nat} (ok : Ok n) (h : RI n a r s x y) (hs : s ≠ 0) : RI n a s (r % s) y (subm n x (r / s * y % n)) := by
  have h1 := h.sr
  have h2 := h.rn
  refine ⟨Nat.mod_lt _ (by omega), by omega, h.yn, subm_lt_n ok.pos _ _, ?_, h.cy, ?_⟩
  · rw [Nat.gcd_comm s (r % s), ← Nat.gcd_rec, Nat.gcd_comm s r]; exact h.gcd
  · have hd := Nat.div_add_mod r s
    have hp := ok.pos
    have e1 : Cg n (subm n x (r / s * y % n) + r / s * y) x := by
      unfold subm
      refine ((Cg.mod n (x + (n - r / s * y % n % n))).addR _).trans ?_
      rw [Nat.mod_mod]
      have hl := Nat.mod_lt (r / s * y) hp
      have hdm := Nat.div_add_mod (r / s * y) n
      have e : x + (n - r / s * y % n) + r / s * y = x + (r / s * y / n + 1) * n := by rw [Nat.add_mul, Nat.mul_comm (r / s * y / n)]; omega
      rw [e]
      have := (Cg.zero n (r / s * y / n + 1)).addL x
      rwa [Nat.add_zero] at this
    have e2 := e1.mulR a
    rw [Nat.add_mul, Nat.mul_assoc (r / s)] at e2
    have e3 : Cg n (subm n x (r / s * y % n) * a + r / s * s) (subm n x (r / s * y % n) * a + r / s * (y * a)) := Cg.addL _ (h.cy.mulL (r / s))
    have e4 := (e3.trans e2).trans h.cx.symm
    have e5 : r = r % s + r / s * s := by rw [Nat.mul_comm]; omega
    have e6 : Cg n (subm n x (r / s * y % n) * a + r / s * s) (r % s + r / s * s) := by
      refine e4.trans ?_
      conv => lhs; rw [e5]
      exact Cg.refl _ _
    have hK : ∀ p q c : Nat, Cg n (p + c) (q + c) → Cg n q p := fun p q c h' => by
      unfold Cg at *
      have hc := Nat.mod_lt c hp
      have s1 : Cg n (p + c + (n - c % n)) (q + c + (n - c % n)) := Cg.addR _ h'
      have hcd := Nat.div_add_mod c n
      have s2 : ∀ z : Nat, (z + c + (n - c % n)) % n = z % n := fun z => by
        rw [show z + c + (n - c % n) = z + (c / n + 1) * n by rw [Nat.add_mul, Nat.mul_comm (c / n)]; omega, Nat.add_mul_mod_self_right]
      unfold Cg at s1
      rw [s2, s2] at s1
      exact s1.symm
    exact hK _ _ _ e6
theorem RI.last {n a r s x y : Nat} (ok : Ok n) (h : RI n a r s x y) (hr : r = 1) : x < n ∧ x * a % n = 1 := by
  have := h.cx
  rw [hr] at this
  unfold Cg at this
  rw [← this, Nat.mod_eq_of_lt (by have := ok.three; omega)]
  exact ⟨h.xn, rfl⟩
end Rg
end Go.Proofs.Ytoagmdgmbkpghaa
