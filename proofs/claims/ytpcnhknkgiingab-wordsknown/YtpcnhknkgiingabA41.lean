/- The law WordsKnown, walked: the walk. -/
import Derived.Test.YtpcnhknkgiingabA40
namespace Go.Proofs.Ytpcnhknkgiingab
open Go.RowKit

set_option maxHeartbeats 1500000 in
set_option maxRecDepth 100000 in
theorem known_any (w : World) : Calls Try.prog 3 #[] w fun e w' => e = .returned (.bool true) ∧ Below w.heap.size w w' := by
  have O1 : Hid (∀ w : World, Calls Try.prog 5 #[.int .u64 1] w fun e w' => e = .returned (N 1) ∧ Below w.heap.size w w') := fun w => of_any 1 (by decide) w
  have O2 : Hid (∀ w : World, Calls Try.prog 5 #[.int .u64 2] w fun e w' => e = .returned (N 2) ∧ Below w.heap.size w w') := fun w => of_any 2 (by decide) w
  have O0 : Hid (∀ w : World, Calls Try.prog 5 #[.int .u64 0] w fun e w' => e = .returned (N 0) ∧ Below w.heap.size w w') := fun w => of_any 0 (by decide) w
  have O5 : Hid (∀ w : World, Calls Try.prog 5 #[.int .u64 5] w fun e w' => e = .returned (N 5) ∧ Below w.heap.size w w') := fun w => of_any 5 (by decide) w
  have O4 : Hid (∀ w : World, Calls Try.prog 5 #[.int .u64 4] w fun e w' => e = .returned (N 4) ∧ Below w.heap.size w w') := fun w => of_any 4 (by decide) w
  have O255 : Hid (∀ w : World, Calls Try.prog 5 #[.int .u64 255] w fun e w' => e = .returned (N 255) ∧ Below w.heap.size w w') := fun w => of_any 255 (by decide) w
  have O256 : Hid (∀ w : World, Calls Try.prog 5 #[.int .u64 256] w fun e w' => e = .returned (N 256) ∧ Below w.heap.size w w') := fun w => of_any 256 (by decide) w
  have CS : Hid _ := c_sub
  obtain ⟨z, hz⟩ : ∃ z : Nat, z = 0 := ⟨0, rfl⟩
  have CA : Hid (∀ w : World, Calls Try.prog 6 #[N (big - 1), N 1] w fun e w' => e = .returned (.tuple #[N z, .bool true]) ∧ Below w.heap.size w w') := by rw [hz]; exact c_add
  have hzb : z < big := by rw [hz]; exact big_pos
  have ezz := fun w => run_eqZ z hzb w
  rw [decide_eq_true hz] at ezz
  have hmk := run_make_row' (P := Try.prog) 39 5 (.int .u8 0) 1 (by kernel_rfl) (by kernel_rfl) rfl .i64 .i64 49 (by omega) (by omega)
  simp only [show ((49 : Nat) : Int) = 49 from rfl] at hmk
  have CH : Hid _ := c_shift
  have CM : Hid _ := c_mul
  have CD : Hid _ := fun w => divide_zero 1 w
  have CB : Hid _ := c_back
  have CN : Hid _ := fun w => shift_none 5 384 (Or.inl (by decide)) w
  have CP : Hid (∀ k, k < 5 → ∀ w : World, Calls Try.prog 10 #[.string (bad k)] w fun e w' => e = .returned (.tuple #[N 0, .int .i64 4]) ∧ Below w.heap.size w w') := fun k hk w => by
    have h := parse_any (bad k) w
    rw [psn_none k hk] at h
    exact h
  have CL : Hid _ := c_long
  have CZ : Hid _ := c_zero
  have CR : Hid _ := c_read
  have CG : Hid _ := fun v w => read_long v 49 49 (by decide) (by decide) w
  have CE : Hid (∀ w : World, Calls Try.prog 11 #[.string ⟨#[49]⟩, .int .i64 97] w fun e w' => e = .returned (.string ⟨(Lib.repeatL (ByteArray.mk #[49]).data.toList 97).toArray⟩) ∧ Below w.heap.size w w') := fun w => Try.strings_Repeat ⟨#[49]⟩ 97 w (by decide) (by decide)
  have CI : Hid _ := c_len
  have CJ : Hid _ := c_bit
  have CO : Hid _ := fun w => bit_out 4 w
  have AW : Hid _ := awake_any
  have ep := fun w => run_eqN (2 ^ 383) (2 ^ 383) p383_big p383_big w
  have e1 := fun w => run_eqN 1 1 (small_big 1 (by decide)) (small_big 1 (by decide)) w
  have e256 := fun w => run_eqN 256 256 (small_big 256 (by decide)) (small_big 256 (by decide)) w
  have ez := fun w => run_eqZ 0 big_pos w
  simp only [decide_true] at ep e1 e256 ez
  have hP : Hid _ := p383
  generalize 2 ^ 383 = p at CH CM CB ep hP
  generalize Lib.repeatL (ByteArray.mk #[49]).data.toList 97 = rp at CL CE
  generalize big - 1 = tp at CS CA
  have hp0 : N p = .agg #[.int .u64 0, .int .u64 0, .int .u64 0, .int .u64 0, .int .u64 0, .int .u64 9223372036854775808] := hP.out
  have ep2 : ∀ w : World, (Op.equalIn 10000 24 (N p) (.agg #[.int .u64 0, .int .u64 0, .int .u64 0, .int .u64 0, .int .u64 0, .int .u64 9223372036854775808])).run Try.prog w = .ok true w := fun w => by
    have h := ep w
    rw [← hp0]
    exact h
  clear hp0 hP ep hz hzb
  go_enter Try.func3, Try.ntmps3
  go_wp2_with fail
  refine (O1.out _).mono ?_
  rintro e w1 ⟨rfl, hb1⟩
  have R1 := (Rws.nil w).below hb1
  have B1 : Below w.heap.size w w1 := hb1
  have H1 : Hid (_ ∧ _) := ⟨R1, B1⟩
  clear R1 B1 hb1
  go_wp2_with fail
  refine (CS.out _).mono ?_
  rintro e w2 ⟨rfl, hb2⟩
  have R2 := H1.out.1.below hb2
  have B2 : Below w.heap.size w w2 := H1.out.2.trans (hb2.mono (by first | exact H1.out.2.size | (simp; have := H1.out.2.size; omega)))
  have H2 : Hid (_ ∧ _) := ⟨R2, B2⟩
  clear R2 B2 hb2 H1
  go_wp2_with fail
  have R2 := H2.out.1.alloc tp (g := w2.heap.size) rfl
  have B2 := H2.out.2.alloc H2.out.2.size (O6 tp)
  have H2' : Hid (_ ∧ _) := ⟨R2, B2⟩
  clear R2 B2
  refine region_law (by kernel_rfl) [.quiet (N tp), .call (N 1), .call (.tuple #[N z, .bool true]), .quiet (.tuple #[N z, .bool true]), .quiet (N z), .quiet (.bool true), .made zero6 24, .laid 6 zero6 (cells6 z), .quiet (.bool true)] (fun w' => Rws w' [(w2.heap.size, tp)]) ?F1 (fun γ => ?hF) (by kernel_rfl) ?hL ?hS ?ho ?he
  case hF =>
    simp only [fill, Kind.val, Act.put, List.setIfInBounds_toArray, List.set_cons_zero, List.set_cons_succ]
    exact rfl
  case hL => exact ⟨⟨_, rfl⟩, trivial⟩
  case hS => exact fun w' hb => H2'.out.1.below hb
  case ho =>
    refine AllOk.cons ?_ ?_
    · exact fun γ => ⟨rfl, fun w' h => exec_load6 h (by simp) rfl rfl⟩
    refine AllOk.cons ?_ ?_
    · exact fun γ => ⟨rfl, fun w' h => ⟨5, #[.int .u64 1], exec_call rfl call5 rfl (by simp only [List.map_toArray, List.map_cons, List.map_nil]; rfl), O1.out w'⟩⟩
    refine AllOk.cons ?_ ?_
    · exact fun γ => ⟨rfl, fun w' h => ⟨6, #[N tp, N 1], exec_call rfl call6 rfl (by simp only [List.map_toArray, List.map_cons, List.map_nil]; rfl), CA.out w'⟩⟩
    refine AllOk.cons ?_ ?_
    · exact fun γ => ⟨rfl, fun w' _ => rfl⟩
    refine AllOk.cons ?_ ?_
    · (refine fun γ => ⟨rfl, fun w' h => ?_⟩; clear h; go_simp)
    refine AllOk.cons ?_ ?_
    · (refine fun γ => ⟨rfl, fun w' h => ?_⟩; clear h; go_simp)
    refine AllOk.cons ?_ ?_
    · exact fun γ => ⟨rfl, fun w' => exec_made6 rfl⟩
    refine AllOk.cons ?_ ?_
    · exact fun γ => ⟨rfl, rfl, rfl, fun w' h => exec_laid6 h rfl rfl rfl⟩
    refine AllOk.cons ?_ ?_
    · exact fun γ => ⟨rfl, fun w' _ => rfl⟩
    exact trivial
  case he =>
    intro γ w3 l hM hl
    have R3 := (H2'.out.1.below hM.below).cons (hM.full 7 6 _ _ rfl (hl 7 (by decide)))
    have B3 : Below w.heap.size w w3 := H2'.out.2.trans (hM.below.mono H2'.out.2.size)
    have H3 : Hid (_ ∧ _) := ⟨R3, B3⟩
    clear R3 B3 hM hl l H2 H2'
    generalize γ 6 = g3 at H3 ⊢
    clear γ
    go_wp2_with fail
    refine (O1.out _).mono ?_
    rintro e w4 ⟨rfl, hb4⟩
    have R4 := H3.out.1.below hb4
    have B4 : Below w.heap.size w w4 := H3.out.2.trans (hb4.mono (by first | exact H3.out.2.size | (simp; have := H3.out.2.size; omega)))
    have H4 : Hid (_ ∧ _) := ⟨R4, B4⟩
    clear R4 B4 hb4 H3
    go_wp2_with fail
    refine (CH.out _).mono ?_
    rintro e w5 ⟨rfl, hb5⟩
    have R5 := H4.out.1.below hb5
    have B5 : Below w.heap.size w w5 := H4.out.2.trans (hb5.mono (by first | exact H4.out.2.size | (simp; have := H4.out.2.size; omega)))
    have H5 : Hid (_ ∧ _) := ⟨R5, B5⟩
    clear R5 B5 hb5 H4
    go_wp2_with fail
    refine (O2.out _).mono ?_
    rintro e w6 ⟨rfl, hb6⟩
    have R6 := H5.out.1.below hb6
    have B6 : Below w.heap.size w w6 := H5.out.2.trans (hb6.mono (by first | exact H5.out.2.size | (simp; have := H5.out.2.size; omega)))
    have H6 : Hid (_ ∧ _) := ⟨R6, B6⟩
    clear R6 B6 hb6 H5
    go_wp2_with fail
    refine (CM.out _).mono ?_
    rintro e w7 ⟨rfl, hb7⟩
    have R7 := H6.out.1.below hb7
    have B7 : Below w.heap.size w w7 := H6.out.2.trans (hb7.mono (by first | exact H6.out.2.size | (simp; have := H6.out.2.size; omega)))
    have H7 : Hid (_ ∧ _) := ⟨R7, B7⟩
    clear R7 B7 hb7 H6
    go_wp2_with fail
    refine (O1.out _).mono ?_
    rintro e w8 ⟨rfl, hb8⟩
    have R8 := ((H7.out.1.alloc 0 (g := w7.heap.size) (by first | rfl | simp)).alloc 1 (g := w7.heap.size + 1) (by first | rfl | simp)).below hb8
    have B8 : Below w.heap.size w w8 := ((H7.out.2.alloc (by first | exact H7.out.2.size | (simp; have := H7.out.2.size; omega)) (O6 0)).alloc (by first | exact H7.out.2.size | (simp; have := H7.out.2.size; omega)) (O6 1)).trans (hb8.mono (by first | exact H7.out.2.size | (simp; have := H7.out.2.size; omega)))
    have H8 : Hid (_ ∧ _) := ⟨R8, B8⟩
    clear R8 B8 hb8 H7
    go_wp2_with fail
    refine (O0.out _).mono ?_
    rintro e w9 ⟨rfl, hb9⟩
    have R9 := H8.out.1.below hb9
    have B9 : Below w.heap.size w w9 := H8.out.2.trans (hb9.mono (by first | exact H8.out.2.size | (simp; have := H8.out.2.size; omega)))
    have H9 : Hid (_ ∧ _) := ⟨R9, B9⟩
    clear R9 B9 hb9 H8
    go_wp2_with fail
    refine (CD.out _).mono ?_
    rintro e w10 ⟨rfl, hb10⟩
    have R10 := H9.out.1.below hb10
    have B10 : Below w.heap.size w w10 := H9.out.2.trans (hb10.mono (by first | exact H9.out.2.size | (simp; have := H9.out.2.size; omega)))
    have H10 : Hid (_ ∧ _) := ⟨R10, B10⟩
    clear R10 B10 hb10 H9
    go_wp2_with fail
    refine (O1.out _).mono ?_
    rintro e w11 ⟨rfl, hb11⟩
    have R11 := ((H10.out.1.alloc 0 (g := w10.heap.size) (by first | rfl | simp)).alloc 0 (g := w10.heap.size + 1) (by first | rfl | simp)).below hb11
    have B11 : Below w.heap.size w w11 := ((H10.out.2.alloc (by first | exact H10.out.2.size | (simp; have := H10.out.2.size; omega)) (O6 0)).alloc (by first | exact H10.out.2.size | (simp; have := H10.out.2.size; omega)) (O6 0)).trans (hb11.mono (by first | exact H10.out.2.size | (simp; have := H10.out.2.size; omega)))
    have H11 : Hid (_ ∧ _) := ⟨R11, B11⟩
    clear R11 B11 hb11 H10
    go_wp2_with fail
    refine (CH.out _).mono ?_
    rintro e w12 ⟨rfl, hb12⟩
    have R12 := H11.out.1.below hb12
    have B12 : Below w.heap.size w w12 := H11.out.2.trans (hb12.mono (by first | exact H11.out.2.size | (simp; have := H11.out.2.size; omega)))
    have H12 : Hid (_ ∧ _) := ⟨R12, B12⟩
    clear R12 B12 hb12 H11
    go_wp2_with fail
    refine (O1.out _).mono ?_
    rintro e w13 ⟨rfl, hb13⟩
    have R13 := H12.out.1.below hb13
    have B13 : Below w.heap.size w w13 := H12.out.2.trans (hb13.mono (by first | exact H12.out.2.size | (simp; have := H12.out.2.size; omega)))
    have H13 : Hid (_ ∧ _) := ⟨R13, B13⟩
    clear R13 B13 hb13 H12
    go_wp2_with fail
    refine (CH.out _).mono ?_
    rintro e w14 ⟨rfl, hb14⟩
    have R14 := H13.out.1.below hb14
    have B14 : Below w.heap.size w w14 := H13.out.2.trans (hb14.mono (by first | exact H13.out.2.size | (simp; have := H13.out.2.size; omega)))
    have H14 : Hid (_ ∧ _) := ⟨R14, B14⟩
    clear R14 B14 hb14 H13
    go_wp2_with fail
    refine (CB.out _).mono ?_
    rintro e w15 ⟨rfl, hb15⟩
    have R15 := H14.out.1.below hb15
    have B15 : Below w.heap.size w w15 := H14.out.2.trans (hb15.mono (by first | exact H14.out.2.size | (simp; have := H14.out.2.size; omega)))
    have H15 : Hid (_ ∧ _) := ⟨R15, B15⟩
    clear R15 B15 hb15 H14
    go_wp2_with fail
    refine (O1.out _).mono ?_
    rintro e w16 ⟨rfl, hb16⟩
    have R16 := H15.out.1.below hb16
    have B16 : Below w.heap.size w w16 := H15.out.2.trans (hb16.mono (by first | exact H15.out.2.size | (simp; have := H15.out.2.size; omega)))
    have H16 : Hid (_ ∧ _) := ⟨R16, B16⟩
    clear R16 B16 hb16 H15
    go_wp2_with fail
    refine (O5.out _).mono ?_
    rintro e w17 ⟨rfl, hb17⟩
    have R17 := H16.out.1.below hb17
    have B17 : Below w.heap.size w w17 := H16.out.2.trans (hb17.mono (by first | exact H16.out.2.size | (simp; have := H16.out.2.size; omega)))
    have H17 : Hid (_ ∧ _) := ⟨R17, B17⟩
    clear R17 B17 hb17 H16
    go_wp2_with fail
    refine (CN.out _).mono ?_
    rintro e w18 ⟨rfl, hb18⟩
    have R18 := H17.out.1.below hb18
    have B18 : Below w.heap.size w w18 := H17.out.2.trans (hb18.mono (by first | exact H17.out.2.size | (simp; have := H17.out.2.size; omega)))
    have H18 : Hid (_ ∧ _) := ⟨R18, B18⟩
    clear R18 B18 hb18 H17
    go_wp2_with fail
    go_loopw [68] (fun i wr => ∃ k : Nat, k ≤ 5 ∧ i = .int .i64 k ∧ Rws wr [(w10.heap.size + 1, 0), (w10.heap.size, 0), (w7.heap.size + 1, 1), (w7.heap.size, 0), (g3, z), (w2.heap.size, tp)] ∧ (∀ j, j < 5 → wr.cell? ⟨w18.heap.size, j, none⟩ = some (.string (bad j))) ∧ w18.heap.size < wr.heap.size ∧ Below w.heap.size w wr) (fun i _ => 5 - (intOf i).toNat)
    case atStart =>
      refine ⟨0, by omega, rfl, H18.out.1.below ((Below.refl _ _).alloc (Nat.le_refl _) _), fun j hj => ?_, by simp, H18.out.2.alloc H18.out.2.size _⟩
      rw [World.cell?_alloc_at _ _ _ _ rfl]
      match j, hj with
      | 0, _ => rfl
      | 1, _ => rfl
      | 2, _ => rfl
      | 3, _ => rfl
      | 4, _ => rfl
    case round =>
      clear H18
      obtain ⟨k, hk, rfl, hR, hC, hg, hw⟩ := hrel
      by_cases hlt : k < 5
      · have hC1 := hC k hlt
        have HM : Hid (_ ∧ _ ∧ _ ∧ _) := ⟨hR, hC, hg, hw⟩
        clear hR hC hw
        go_wp2_with fail
        refine (CP.out k hlt _).mono ?_
        rintro e wx ⟨rfl, hb⟩
        go_wp2
        go_roundw
        case rel =>
          obtain ⟨hR, hC, hg, hw⟩ := HM.out
          have hz := hb.size
          refine ⟨k + 1, by omega, by go_num, (hR.below hb).below ((Below.refl _ _).alloc (Nat.le_refl _) _), fun j hj => ?_, by simp; omega, (hw.trans (hb.mono hw.size)).alloc (Nat.le_trans hw.size hz) _⟩
          rw [World.cell?_alloc_past _ _ _ (by omega), hb.cell (p := ⟨w18.heap.size, j, none⟩) hg]
          exact hC j hj
        case measure => simp [intOf] <;> omega
      · have hk5 : k = 5 := by omega
        subst hk5
        rw [show ((5 : Nat) : Int) = 5 from rfl]
        rename_i w19 _ _
        have H19 : Hid (_ ∧ _) := ⟨hR, hw⟩
        clear hR hC hg hw hlt hk CP
        go_wp2_with fail
        refine (CE.out _).mono ?_
        rintro e w20 ⟨rfl, hb20⟩
        have R20 := H19.out.1.below hb20
        have B20 : Below w.heap.size w w20 := H19.out.2.trans (hb20.mono (by first | exact H19.out.2.size | (simp; have := H19.out.2.size; omega)))
        have H20 : Hid (_ ∧ _) := ⟨R20, B20⟩
        clear R20 B20 hb20 H19
        go_wp2_with fail
        refine (CL.out _).mono ?_
        rintro e w21 ⟨rfl, hb21⟩
        have R21 := H20.out.1.below hb21
        have B21 : Below w.heap.size w w21 := H20.out.2.trans (hb21.mono (by first | exact H20.out.2.size | (simp; have := H20.out.2.size; omega)))
        have H21 : Hid (_ ∧ _) := ⟨R21, B21⟩
        clear R21 B21 hb21 H20
        go_wp2_with fail
        refine (CR.out _ _ (by simp) ?_).mono ?_
        · intro j hj
          refine ⟨?_, World.frozen?_alloc_at _ _ _ _ (by simp)⟩
          rw [World.cell?_alloc_at _ _ _ _ (by simp)]
          match j, hj with
          | 0, _ => rfl
          | 1, _ => rfl
        rintro e w22 ⟨rfl, hb22⟩
        have R22 := ((H21.out.1.alloc 0 (g := w21.heap.size) rfl).below ((Below.refl _ _).alloc (Nat.le_refl _) _)).below hb22
        have B22 : Below w.heap.size w w22 := ((H21.out.2.alloc H21.out.2.size (O6 0)).alloc (by simp; have := H21.out.2.size; omega) _).trans (hb22.mono (by simp; have := H21.out.2.size; omega))
        have H22 : Hid (_ ∧ _) := ⟨R22, B22⟩
        clear R22 B22 hb22 H21
        go_wp2_with fail
        refine (CG.out _ _).mono ?_
        rintro e w23 ⟨rfl, hb23⟩
        have R23 := ((H22.out.1.alloc 256 (g := w22.heap.size) rfl).below ((Below.refl _ _).alloc (Nat.le_refl _) _)).below hb23
        have B23 : Below w.heap.size w w23 := ((H22.out.2.alloc H22.out.2.size (O6 256)).alloc (by simp; have := H22.out.2.size; omega) _).trans (hb23.mono (by simp; have := H22.out.2.size; omega))
        have H23 : Hid (_ ∧ _) := ⟨R23, B23⟩
        clear R23 B23 hb23 H22 hmk
        go_wp2_with fail
        refine (CZ.out _).mono ?_
        rintro e w24 ⟨rfl, hb24⟩
        have R24 := (H23.out.1.alloc 0 (g := w23.heap.size) (by first | rfl | simp)).below hb24
        have B24 : Below w.heap.size w w24 := (H23.out.2.alloc (by first | exact H23.out.2.size | (simp; have := H23.out.2.size; omega)) (O6 0)).trans (hb24.mono (by first | exact H23.out.2.size | (simp; have := H23.out.2.size; omega)))
        have H24 : Hid (_ ∧ _) := ⟨R24, B24⟩
        clear R24 B24 hb24 H23
        go_wp2_with fail
        have R24 := H24.out.1.alloc 0 (g := w24.heap.size) rfl
        have B24 := H24.out.2.alloc H24.out.2.size (O6 0)
        have H24' : Hid (_ ∧ _) := ⟨R24, B24⟩
        clear R24 B24 H24
        refine region_law (by kernel_rfl) [.call (.bool true), .quiet (.bool true), .quiet (N z), .quiet (Zv), .quiet (.bool true), .quiet (.bool true), .quiet (.bool true), .quiet (.bool true), .quiet (.bool true), .quiet (.bool true), .quiet (N 0), .quiet (Zv), .quiet (.bool true), .quiet (.bool true), .quiet (.bool true), .quiet (N 1), .call (N 1), .quiet (.bool true), .quiet (.bool true), .quiet (.bool true), .quiet (.int .i64 2), .quiet (.bool true), .quiet (.bool true), .quiet (.bool true), .quiet (.bool true), .quiet (.bool true), .quiet (.bool true), .call (N 255), .call (.int .i64 8), .quiet (.bool true), .quiet (.bool true), .quiet (.bool true), .call (N 4), .call (.int .i64 1), .quiet (.bool true), .quiet (.bool true), .quiet (.bool true), .call (N 4), .call (.int .i64 0), .quiet (.bool true), .quiet (.bool true), .quiet (.bool true), .quiet (.int .i64 3), .quiet (.bool true), .quiet (.bool true), .quiet (.bool true), .quiet (N 256), .call (N 256), .quiet (.bool true), .quiet (.bool true), .quiet (.bool true), .quiet (.int .i64 0), .quiet (.bool true), .quiet (.bool true), .quiet (.bool true), .quiet (.int .i64 3), .quiet (.bool true), .quiet (.bool true), .quiet (.bool true), .quiet (N 0), .quiet (Zv), .quiet (.bool true), .quiet (.bool true), .quiet (.bool true), .quiet (.int .i64 0), .quiet (.bool true), .quiet (.bool true), .quiet (.bool true)] (fun w' => Rws w' [(w24.heap.size, 0), (w23.heap.size, 0), (w22.heap.size, 256), (w21.heap.size, 0), (w10.heap.size + 1, 0), (w10.heap.size, 0), (w7.heap.size + 1, 1), (w7.heap.size, 0), (g3, z), (w2.heap.size, tp)]) ?F2 (fun γ => ?hF) (by kernel_rfl) ?hL ?hS ?ho ?he
        case hF =>
          simp only [List.append_eq, List.cons_append, List.nil_append, fill, Kind.val, Act.put, List.setIfInBounds_toArray, List.set_cons_zero, List.set_cons_succ]
          exact rfl
        case hL => exact trivial
        case hS => exact fun w' hb => H24'.out.1.below hb
        case ho =>
          refine AllOk.cons ?_ ?_
          · exact fun γ => ⟨rfl, fun w' h => ⟨13, #[], exec_call rfl call13 rfl (by simp only [List.map_toArray, List.map_nil]), AW.out w'⟩⟩
          refine AllOk.cons ?_ ?_
          · exact fun γ => ⟨rfl, fun w' _ => rfl⟩
          refine AllOk.cons ?_ ?_
          · exact fun γ => ⟨rfl, fun w' h => exec_load6 h (by simp) rfl rfl⟩
          refine AllOk.cons ?_ ?_
          · (refine fun γ => ⟨rfl, fun w' h => ?_⟩; clear h; go_simp)
          refine AllOk.cons ?_ ?_
          · (refine fun γ => ⟨rfl, fun w' h => ?_⟩; clear h; go_simp)
          refine AllOk.cons ?_ ?_
          · (refine fun γ => ⟨rfl, fun w' h => ?_⟩; clear h; go_simp)
          refine AllOk.cons ?_ ?_
          · exact fun γ => ⟨rfl, fun w' _ => rfl⟩
          refine AllOk.cons ?_ ?_
          · exact fun γ => ⟨rfl, fun w' _ => rfl⟩
          refine AllOk.cons ?_ ?_
          · (refine fun γ => ⟨rfl, fun w' h => ?_⟩; clear h; go_simp)
          refine AllOk.cons ?_ ?_
          · exact fun γ => ⟨rfl, fun w' _ => rfl⟩
          refine AllOk.cons ?_ ?_
          · exact fun γ => ⟨rfl, fun w' h => exec_load6 h (by simp) rfl rfl⟩
          refine AllOk.cons ?_ ?_
          · (refine fun γ => ⟨rfl, fun w' h => ?_⟩; clear h; go_simp)
          refine AllOk.cons ?_ ?_
          · (refine fun γ => ⟨rfl, fun w' h => ?_⟩; clear h; go_simp)
          refine AllOk.cons ?_ ?_
          · (refine fun γ => ⟨rfl, fun w' h => ?_⟩; clear h; go_simp)
          refine AllOk.cons ?_ ?_
          · exact fun γ => ⟨rfl, fun w' _ => rfl⟩
          refine AllOk.cons ?_ ?_
          · exact fun γ => ⟨rfl, fun w' h => exec_load6 h (by simp) rfl rfl⟩
          refine AllOk.cons ?_ ?_
          · exact fun γ => ⟨rfl, fun w' h => ⟨5, #[.int .u64 1], exec_call rfl call5 rfl (by simp only [List.map_toArray, List.map_cons, List.map_nil]; rfl), O1.out w'⟩⟩
          refine AllOk.cons ?_ ?_
          · (refine fun γ => ⟨rfl, fun w' h => ?_⟩; clear h; go_simp)
          refine AllOk.cons ?_ ?_
          · (refine fun γ => ⟨rfl, fun w' h => ?_⟩; clear h; go_simp)
          refine AllOk.cons ?_ ?_
          · exact fun γ => ⟨rfl, fun w' _ => rfl⟩
          refine AllOk.cons ?_ ?_
          · exact fun γ => ⟨rfl, fun w' _ => rfl⟩
          refine AllOk.cons ?_ ?_
          · (refine fun γ => ⟨rfl, fun w' h => ?_⟩; clear h; go_simp)
          refine AllOk.cons ?_ ?_
          · (refine fun γ => ⟨rfl, fun w' h => ?_⟩; clear h; go_simp)
          refine AllOk.cons ?_ ?_
          · exact fun γ => ⟨rfl, fun w' _ => rfl⟩
          refine AllOk.cons ?_ ?_
          · exact fun γ => ⟨rfl, fun w' _ => rfl⟩
          refine AllOk.cons ?_ ?_
          · (refine fun γ => ⟨rfl, fun w' h => ?_⟩; clear h; go_simp)
          refine AllOk.cons ?_ ?_
          · exact fun γ => ⟨rfl, fun w' _ => rfl⟩
          refine AllOk.cons ?_ ?_
          · exact fun γ => ⟨rfl, fun w' h => ⟨5, #[.int .u64 255], exec_call rfl call5 rfl (by simp only [List.map_toArray, List.map_cons, List.map_nil]; rfl), O255.out w'⟩⟩
          refine AllOk.cons ?_ ?_
          · exact fun γ => ⟨rfl, fun w' h => ⟨14, #[N 255], exec_call rfl call14 rfl (by simp only [List.map_toArray, List.map_cons, List.map_nil]; rfl), CI.out w'⟩⟩
          refine AllOk.cons ?_ ?_
          · (refine fun γ => ⟨rfl, fun w' h => ?_⟩; clear h; go_simp)
          refine AllOk.cons ?_ ?_
          · (refine fun γ => ⟨rfl, fun w' h => ?_⟩; clear h; go_simp)
          refine AllOk.cons ?_ ?_
          · exact fun γ => ⟨rfl, fun w' _ => rfl⟩
          refine AllOk.cons ?_ ?_
          · exact fun γ => ⟨rfl, fun w' h => ⟨5, #[.int .u64 4], exec_call rfl call5 rfl (by simp only [List.map_toArray, List.map_cons, List.map_nil]; rfl), O4.out w'⟩⟩
          refine AllOk.cons ?_ ?_
          · exact fun γ => ⟨rfl, fun w' h => ⟨15, #[N 4, .int .i64 2], exec_call rfl call15 rfl (by simp only [List.map_toArray, List.map_cons, List.map_nil]; rfl), CJ.out w'⟩⟩
          refine AllOk.cons ?_ ?_
          · (refine fun γ => ⟨rfl, fun w' h => ?_⟩; clear h; go_simp)
          refine AllOk.cons ?_ ?_
          · (refine fun γ => ⟨rfl, fun w' h => ?_⟩; clear h; go_simp)
          refine AllOk.cons ?_ ?_
          · exact fun γ => ⟨rfl, fun w' _ => rfl⟩
          refine AllOk.cons ?_ ?_
          · exact fun γ => ⟨rfl, fun w' h => ⟨5, #[.int .u64 4], exec_call rfl call5 rfl (by simp only [List.map_toArray, List.map_cons, List.map_nil]; rfl), O4.out w'⟩⟩
          refine AllOk.cons ?_ ?_
          · exact fun γ => ⟨rfl, fun w' h => ⟨15, #[N 4, .int .i64 400], exec_call rfl call15 rfl (by simp only [List.map_toArray, List.map_cons, List.map_nil]; rfl), CO.out w'⟩⟩
          refine AllOk.cons ?_ ?_
          · (refine fun γ => ⟨rfl, fun w' h => ?_⟩; clear h; go_simp)
          refine AllOk.cons ?_ ?_
          · (refine fun γ => ⟨rfl, fun w' h => ?_⟩; clear h; go_simp)
          refine AllOk.cons ?_ ?_
          · exact fun γ => ⟨rfl, fun w' _ => rfl⟩
          refine AllOk.cons ?_ ?_
          · exact fun γ => ⟨rfl, fun w' _ => rfl⟩
          refine AllOk.cons ?_ ?_
          · (refine fun γ => ⟨rfl, fun w' h => ?_⟩; clear h; go_simp)
          refine AllOk.cons ?_ ?_
          · (refine fun γ => ⟨rfl, fun w' h => ?_⟩; clear h; go_simp)
          refine AllOk.cons ?_ ?_
          · exact fun γ => ⟨rfl, fun w' _ => rfl⟩
          refine AllOk.cons ?_ ?_
          · exact fun γ => ⟨rfl, fun w' h => exec_load6 h (by simp) rfl rfl⟩
          refine AllOk.cons ?_ ?_
          · exact fun γ => ⟨rfl, fun w' h => ⟨5, #[.int .u64 256], exec_call rfl call5 rfl (by simp only [List.map_toArray, List.map_cons, List.map_nil]; rfl), O256.out w'⟩⟩
          refine AllOk.cons ?_ ?_
          · (refine fun γ => ⟨rfl, fun w' h => ?_⟩; clear h; go_simp)
          refine AllOk.cons ?_ ?_
          · (refine fun γ => ⟨rfl, fun w' h => ?_⟩; clear h; go_simp)
          refine AllOk.cons ?_ ?_
          · exact fun γ => ⟨rfl, fun w' _ => rfl⟩
          refine AllOk.cons ?_ ?_
          · exact fun γ => ⟨rfl, fun w' _ => rfl⟩
          refine AllOk.cons ?_ ?_
          · (refine fun γ => ⟨rfl, fun w' h => ?_⟩; clear h; go_simp)
          refine AllOk.cons ?_ ?_
          · (refine fun γ => ⟨rfl, fun w' h => ?_⟩; clear h; go_simp)
          refine AllOk.cons ?_ ?_
          · exact fun γ => ⟨rfl, fun w' _ => rfl⟩
          refine AllOk.cons ?_ ?_
          · exact fun γ => ⟨rfl, fun w' _ => rfl⟩
          refine AllOk.cons ?_ ?_
          · (refine fun γ => ⟨rfl, fun w' h => ?_⟩; clear h; go_simp)
          refine AllOk.cons ?_ ?_
          · (refine fun γ => ⟨rfl, fun w' h => ?_⟩; clear h; go_simp)
          refine AllOk.cons ?_ ?_
          · exact fun γ => ⟨rfl, fun w' _ => rfl⟩
          refine AllOk.cons ?_ ?_
          · exact fun γ => ⟨rfl, fun w' h => exec_load6 h (by simp) rfl rfl⟩
          refine AllOk.cons ?_ ?_
          · (refine fun γ => ⟨rfl, fun w' h => ?_⟩; clear h; go_simp)
          refine AllOk.cons ?_ ?_
          · (refine fun γ => ⟨rfl, fun w' h => ?_⟩; clear h; go_simp)
          refine AllOk.cons ?_ ?_
          · (refine fun γ => ⟨rfl, fun w' h => ?_⟩; clear h; go_simp)
          refine AllOk.cons ?_ ?_
          · exact fun γ => ⟨rfl, fun w' _ => rfl⟩
          refine AllOk.cons ?_ ?_
          · exact fun γ => ⟨rfl, fun w' _ => rfl⟩
          refine AllOk.cons ?_ ?_
          · (refine fun γ => ⟨rfl, fun w' h => ?_⟩; clear h; go_simp)
          refine AllOk.cons ?_ ?_
          · (refine fun γ => ⟨rfl, fun w' h => ?_⟩; clear h; go_simp)
          refine AllOk.cons ?_ ?_
          · exact fun γ => ⟨rfl, fun w' _ => rfl⟩
          exact trivial
        case he =>
          intro γ w25 l hM hl
          have B25 : Below w.heap.size w w25 := H24'.out.2.trans (hM.below.mono H24'.out.2.size)
          clear hM hl l H24'
          go_wp2
          go_ret
          exact ⟨rfl, B25⟩
end Go.Proofs.Ytpcnhknkgiingab
