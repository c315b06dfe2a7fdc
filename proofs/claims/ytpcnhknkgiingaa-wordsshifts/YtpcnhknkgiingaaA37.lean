/- The law WordsShifts, walked. -/
import Derived.Test.YtpcnhknkgiingaaB1
import Derived.Test.YtpcnhknkgiingaaA31
import Derived.BigRegion
namespace Go.Proofs.Ytpcnhknkgiingaa
open Go.RowKit

theorem pow_big (m : Nat) (h : m < 384) : 2 ^ m < big := by
  obtain ⟨n, hn, e⟩ := big_pow
  rw [e]; exact Nat.pow_lt_pow_right (by decide) (by omega)
theorem shift_neg (a m : Nat) (ha : a < big) (h : m < 384) (w : World) :
    Calls Try.prog 19 #[N a, .int .i64 (-(m : Int))] w fun e w' => e = .returned (N (a / 2 ^ m)) ∧ Below w.heap.size w w' := by
  by_cases h0 : m = 0
  · subst h0
    have := shift_up a 0 (by decide) w
    rw [Nat.pow_zero, Nat.mul_one, Nat.mod_eq_of_lt ha] at this
    rw [Nat.pow_zero, Nat.div_one]
    exact this
  · have := shift_down a (-(m : Int)) ha (by omega) (by omega) w
    rw [show (- -(m : Int)).toNat = m by omega] at this
    exact this
theorem bit_up (a m : Nat) (h : m < 384) : bitv (a * 2 ^ m % big) m = bitv a 0 := by
  unfold bitv
  obtain ⟨n, hn, e⟩ := big_pow
  rw [e, show 64 * n = m + (64 * n - m) by omega, Nat.pow_add, Nat.mul_comm a, Nat.mul_mod_mul_left, Nat.mul_div_cancel_left _ (Nat.two_pow_pos _)]
  rw [show 64 * n - m = 64 * n - m - 1 + 1 by omega, Nat.pow_succ, Nat.mod_mul_left_mod, Nat.pow_zero, Nat.div_one]
theorem bl_down (a m : Nat) : bl (a / 2 ^ m) = bl a - m := by
  by_cases h : a / 2 ^ m = 0
  · rw [h, bl_zero]
    have h1 : a < 2 ^ m := by
      rcases Nat.lt_or_ge a (2 ^ m) with h' | h'
      · exact h'
      · have := Nat.div_pos h' (Nat.two_pow_pos m); omega
    have := bl_le_of a m h1
    omega
  · have := bl_high a m (a / 2 ^ m) h rfl
    omega

set_option maxHeartbeats 4000000 in
set_option maxRecDepth 100000 in
theorem shifts_any (a : Nat) (ha : a < big) (n : Int) (h0 : -9223372036854775808 ≤ n) (h1 : n ≤ 9223372036854775807) (w : World) :
    Calls Try.prog 7 #[N a, .int .i64 n] w fun e w' => e = .returned (.bool true) ∧ Below w.heap.size w w' := by
  obtain ⟨m, hm⟩ : ∃ m : Nat, (m : Int) = n % 384 := ⟨(n % 384).toNat, by omega⟩
  have hm1 : m < 384 := by omega
  have cp := fun w => pick_any n h0 h1 w
  rw [← hm] at cp
  have CP : Hid _ := cp
  have CU : Hid _ := fun w => shift_up a m hm1 w
  have CD : Hid _ := fun w => shift_neg a m ha hm1 w
  have CO : Hid _ := fun w => of_any 1 (by decide) w
  have cs := fun w => shift_up 1 m hm1 w
  rw [Nat.one_mul, Nat.mod_eq_of_lt (pow_big m hm1)] at cs
  have CS : Hid _ := cs
  have CM : Hid _ := fun w => mul_any a (2 ^ m) ha (pow_big m hm1) w
  have CV : Hid _ := fun w => divide_some a (2 ^ m) ha (pow_big m hm1) (Nat.pos_iff_ne_zero.1 (Nat.two_pow_pos m)) w
  have hd : a / 2 ^ m < big := Nat.lt_of_le_of_lt (Nat.div_le_self _ _) ha
  have CB : Hid _ := fun w => shift_up (a / 2 ^ m) m hm1 w
  have cl := fun w => len_any (a / 2 ^ m) hd w
  rw [bl_down] at cl
  have CL : Hid _ := cl
  have CK : Hid _ := fun w => len_any a ha w
  have ci := fun w => bit_in (a * 2 ^ m % big) m hm1 w
  rw [bit_up a m hm1] at ci
  have CI : Hid _ := ci
  have CJ : Hid _ := fun w => bit_in a 0 (by decide) w
  have eu := fun w => run_eqN (a * 2 ^ m % big) (a * 2 ^ m % big) (mod_big _) (mod_big _) w
  have ed := fun w => run_eqN (a / 2 ^ m) (a / 2 ^ m) hd hd w
  have ev := fun w => run_eqN (a / 2 ^ m * 2 ^ m % big) (a / 2 ^ m * 2 ^ m % big) (mod_big _) (mod_big _) w
  simp only [decide_true] at eu ed ev
  have ew : IntKind.i64.wrap (-(m : Int)) = -(m : Int) := by simp [IntKind.wrap, IntKind.signed, IntKind.bits]; omega
  have hL : bl a ≤ 384 := by
    obtain ⟨k, hk, e⟩ := big_pow
    rw [e] at ha
    have := bl_le_of a _ ha
    omega
  have el : max (((bl a : Int)) - m) 0 = ((bl a - m : Nat) : Int) := by omega
  generalize bl a - m = L2 at CL el
  generalize bl a = L at CK el hL
  have es : IntKind.i64.wrap ((L : Int) - m) = (L : Int) - m := by simp [IntKind.wrap, IntKind.signed, IntKind.bits]; omega
  generalize bitv a 0 = y at CI CJ
  generalize a / 2 ^ m * 2 ^ m % big = v at CB ev
  generalize a * 2 ^ m % big = u at CU CM CI eu
  generalize a * 2 ^ m / big = h2 at CM
  generalize a % 2 ^ m = r at CV
  generalize a / 2 ^ m = d at CD CV CB CL ed
  generalize 2 ^ m = p at CS CM CV
  have AW : Hid _ := awake_any
  clear cp cs cl ci h0 h1 hm ha hd hL
  go_enter Try.func7, Try.ntmps7
  go_wp2_with fail
  refine (AW.out _).mono ?_
  rintro e w1 ⟨rfl, hb1⟩
  have R1 := ((Rws.nil w).alloc a rfl).below hb1
  have B1 : Below w.heap.size w w1 := ((Below.refl _ _).alloc (Nat.le_refl _) _).trans (hb1.mono (by simp))
  have H1 : Hid (_ ∧ _) := ⟨R1, B1⟩
  clear R1 B1 hb1
  go_wp2_with fail
  refine (CP.out _).mono ?_
  rintro e w2 ⟨rfl, rfl⟩
  go_wp2_with fail
  refine region_law (by kernel_rfl) [.quiet (N a), .quiet (.int .i64 m), .call (N u), .quiet (N a), .quiet (.int .i64 m), .quiet (.int .i64 (-(m : Int))), .call (N d), .made zero6 24, .made zero6 24, .laid 7 zero6 (cells6 u), .laid 8 zero6 (cells6 d)] (fun w' => Rws w' [(w.heap.size, a)]) ?F1 (fun γ => ?hF) (by kernel_rfl) ?hL ?hS ?ho ?he
  case hF =>
    simp only [fill, Kind.val, Act.put, List.setIfInBounds_toArray, List.set_cons_zero, List.set_cons_succ]
    exact rfl
  case hL => exact ⟨⟨_, rfl⟩, ⟨_, rfl⟩, trivial⟩
  case hS => exact fun w' hb => H1.out.1.below hb
  case ho =>
    refine AllOk.cons ?_ ?_
    · exact fun γ => ⟨rfl, fun w' h => exec_load6 h (by simp) rfl rfl⟩
    refine AllOk.cons ?_ ?_
    · exact fun γ => ⟨rfl, fun w' _ => rfl⟩
    refine AllOk.cons ?_ ?_
    · exact fun γ => ⟨rfl, fun w' h => ⟨19, #[N a, .int .i64 m], exec_call rfl call19 rfl (by simp only [List.map_toArray, List.map_cons, List.map_nil]; rfl), CU.out w'⟩⟩
    refine AllOk.cons ?_ ?_
    · exact fun γ => ⟨rfl, fun w' h => exec_load6 h (by simp) rfl rfl⟩
    refine AllOk.cons ?_ ?_
    · exact fun γ => ⟨rfl, fun w' _ => rfl⟩
    refine AllOk.cons ?_ ?_
    · (refine fun γ => ⟨rfl, fun w' h => ?_⟩; clear h; go_simp)
    refine AllOk.cons ?_ ?_
    · exact fun γ => ⟨rfl, fun w' h => ⟨19, #[N a, .int .i64 (-(m : Int))], exec_call rfl call19 rfl (by simp only [List.map_toArray, List.map_cons, List.map_nil]; rfl), CD.out w'⟩⟩
    refine AllOk.cons ?_ ?_
    · exact fun γ => ⟨rfl, fun w' => exec_made6 rfl⟩
    refine AllOk.cons ?_ ?_
    · exact fun γ => ⟨rfl, fun w' => exec_made6 rfl⟩
    refine AllOk.cons ?_ ?_
    · exact fun γ => ⟨rfl, rfl, rfl, fun w' h => exec_laid6 h rfl rfl rfl⟩
    refine AllOk.cons ?_ ?_
    · exact fun γ => ⟨rfl, rfl, rfl, fun w' h => exec_laid6 h rfl rfl rfl⟩
    exact trivial
  case he =>
    intro γ3 w3 l hM hl
    have R3 := ((H1.out.1.below hM.below).cons (hM.full 9 7 _ _ rfl (hl 9 (by decide)))).cons (hM.full 10 8 _ _ rfl (hl 10 (by decide)))
    have B3 : Below w.heap.size w w3 := H1.out.2.trans (hM.below.mono H1.out.2.size)
    have H3 : Hid (_ ∧ _) := ⟨R3, B3⟩
    clear R3 B3 hM hl l H1
    generalize γ3 7 = g7 at H3 ⊢
    generalize γ3 8 = g8 at H3 ⊢
    clear γ3
    go_wp2_with fail
    refine region_law (by kernel_rfl) [.quiet (N a), .call (N 1), .quiet (.int .i64 m), .call (N p), .call (.tuple #[N u, N h2]), .quiet (.tuple #[N u, N h2]), .quiet (N u), .quiet (N h2), .made zero6 24, .made zero6 24, .laid 8 zero6 (cells6 u), .laid 9 zero6 (cells6 h2)] (fun w' => Rws w' [(g8, d), (g7, u), (w.heap.size, a)]) ?F2 (fun γ => ?hF) (by kernel_rfl) ?hL ?hS ?ho ?he
    case hF =>
      simp only [fill, Kind.val, Act.put, List.setIfInBounds_toArray, List.set_cons_zero, List.set_cons_succ]
      exact rfl
    case hL => exact ⟨⟨_, rfl⟩, ⟨_, rfl⟩, trivial⟩
    case hS => exact fun w' hb => H3.out.1.below hb
    case ho =>
      refine AllOk.cons ?_ ?_
      · exact fun γ => ⟨rfl, fun w' h => exec_load6 h (by simp) rfl rfl⟩
      refine AllOk.cons ?_ ?_
      · exact fun γ => ⟨rfl, fun w' h => ⟨25, #[.int .u64 1], exec_call rfl call25 rfl (by simp only [List.map_toArray, List.map_cons, List.map_nil]; rfl), CO.out w'⟩⟩
      refine AllOk.cons ?_ ?_
      · exact fun γ => ⟨rfl, fun w' _ => rfl⟩
      refine AllOk.cons ?_ ?_
      · exact fun γ => ⟨rfl, fun w' h => ⟨19, #[N 1, .int .i64 m], exec_call rfl call19 rfl (by simp only [List.map_toArray, List.map_cons, List.map_nil]; rfl), CS.out w'⟩⟩
      refine AllOk.cons ?_ ?_
      · exact fun γ => ⟨rfl, fun w' h => ⟨15, #[N a, N p], exec_call rfl call15 rfl (by simp only [List.map_toArray, List.map_cons, List.map_nil]; rfl), CM.out w'⟩⟩
      refine AllOk.cons ?_ ?_
      · exact fun γ => ⟨rfl, fun w' _ => rfl⟩
      refine AllOk.cons ?_ ?_
      · (refine fun γ => ⟨rfl, fun w' h => ?_⟩; clear h; go_simp)
      refine AllOk.cons ?_ ?_
      · (refine fun γ => ⟨rfl, fun w' h => ?_⟩; clear h; go_simp)
      refine AllOk.cons ?_ ?_
      · exact fun γ => ⟨rfl, fun w' => exec_made6 rfl⟩
      refine AllOk.cons ?_ ?_
      · exact fun γ => ⟨rfl, fun w' => exec_made6 rfl⟩
      refine AllOk.cons ?_ ?_
      · exact fun γ => ⟨rfl, rfl, rfl, fun w' h => exec_laid6 h rfl rfl rfl⟩
      refine AllOk.cons ?_ ?_
      · exact fun γ => ⟨rfl, rfl, rfl, fun w' h => exec_laid6 h rfl rfl rfl⟩
      exact trivial
    case he =>
      intro γ4 w4 l hM hl
      have R4 := (H3.out.1.below hM.below).cons (hM.full 10 8 _ _ rfl (hl 10 (by decide)))
      have B4 : Below w.heap.size w w4 := H3.out.2.trans (hM.below.mono H3.out.2.size)
      have H4 : Hid (_ ∧ _) := ⟨R4, B4⟩
      clear R4 B4 hM hl l H3
      generalize γ4 8 = g4 at H4 ⊢
      generalize γ4 9 = g5 at H4 ⊢
      clear γ4
      go_wp2_with fail
      refine region_law (by kernel_rfl) [.quiet (N a), .call (N 1), .quiet (.int .i64 m), .call (N p), .call (.tuple #[N d, N r, .int .i64 0]), .quiet (.tuple #[N d, N r, .int .i64 0]), .quiet (N d), .quiet (N r), .quiet (.int .i64 0), .made zero6 24, .made zero6 24, .laid 9 zero6 (cells6 d), .laid 10 zero6 (cells6 r), .quiet (.int .i64 0)] (fun w' => Rws w' [(g4, u), (g8, d), (g7, u), (w.heap.size, a)]) ?F3 (fun γ => ?hF) (by kernel_rfl) ?hL ?hS ?ho ?he
      case hF =>
        simp only [fill, Kind.val, Act.put, List.setIfInBounds_toArray, List.set_cons_zero, List.set_cons_succ]
        exact rfl
      case hL => exact ⟨⟨_, rfl⟩, ⟨_, rfl⟩, trivial⟩
      case hS => exact fun w' hb => H4.out.1.below hb
      case ho =>
        refine AllOk.cons ?_ ?_
        · exact fun γ => ⟨rfl, fun w' h => exec_load6 h (by simp) rfl rfl⟩
        refine AllOk.cons ?_ ?_
        · exact fun γ => ⟨rfl, fun w' h => ⟨25, #[.int .u64 1], exec_call rfl call25 rfl (by simp only [List.map_toArray, List.map_cons, List.map_nil]; rfl), CO.out w'⟩⟩
        refine AllOk.cons ?_ ?_
        · exact fun γ => ⟨rfl, fun w' _ => rfl⟩
        refine AllOk.cons ?_ ?_
        · exact fun γ => ⟨rfl, fun w' h => ⟨19, #[N 1, .int .i64 m], exec_call rfl call19 rfl (by simp only [List.map_toArray, List.map_cons, List.map_nil]; rfl), CS.out w'⟩⟩
        refine AllOk.cons ?_ ?_
        · exact fun γ => ⟨rfl, fun w' h => ⟨17, #[N a, N p], exec_call rfl call17 rfl (by simp only [List.map_toArray, List.map_cons, List.map_nil]; rfl), CV.out w'⟩⟩
        refine AllOk.cons ?_ ?_
        · exact fun γ => ⟨rfl, fun w' _ => rfl⟩
        refine AllOk.cons ?_ ?_
        · (refine fun γ => ⟨rfl, fun w' h => ?_⟩; clear h; go_simp)
        refine AllOk.cons ?_ ?_
        · (refine fun γ => ⟨rfl, fun w' h => ?_⟩; clear h; go_simp)
        refine AllOk.cons ?_ ?_
        · (refine fun γ => ⟨rfl, fun w' h => ?_⟩; clear h; go_simp)
        refine AllOk.cons ?_ ?_
        · exact fun γ => ⟨rfl, fun w' => exec_made6 rfl⟩
        refine AllOk.cons ?_ ?_
        · exact fun γ => ⟨rfl, fun w' => exec_made6 rfl⟩
        refine AllOk.cons ?_ ?_
        · exact fun γ => ⟨rfl, rfl, rfl, fun w' h => exec_laid6 h rfl rfl rfl⟩
        refine AllOk.cons ?_ ?_
        · exact fun γ => ⟨rfl, rfl, rfl, fun w' h => exec_laid6 h rfl rfl rfl⟩
        refine AllOk.cons ?_ ?_
        · exact fun γ => ⟨rfl, fun w' _ => rfl⟩
        exact trivial
      case he =>
        intro γ5 w5 l hM hl
        have R5 := (H4.out.1.below hM.below).cons (hM.full 11 9 _ _ rfl (hl 11 (by decide)))
        have B5 : Below w.heap.size w w5 := H4.out.2.trans (hM.below.mono H4.out.2.size)
        have H5 : Hid (_ ∧ _) := ⟨R5, B5⟩
        clear R5 B5 hM hl l H4
        generalize γ5 9 = g9 at H5 ⊢
        generalize γ5 10 = g10 at H5 ⊢
        clear γ5
        go_wp2_with fail
        refine region_law (by kernel_rfl) [.quiet (.bool true), .quiet (.bool true), .quiet (N u), .quiet (N u), .quiet (.bool true), .quiet (.bool true), .quiet (.bool true), .quiet (.int .i64 0), .quiet (.bool true), .quiet (.bool true), .quiet (.bool true), .quiet (N d), .quiet (N d), .quiet (.bool true), .quiet (.bool true), .quiet (.bool true), .quiet (N d), .quiet (.int .i64 m), .call (N v), .quiet (N a), .quiet (.int .i64 m), .quiet (.int .i64 (-(m : Int))), .call (N d), .quiet (.int .i64 m), .call (N v), .quiet (.bool true), .quiet (.bool true), .quiet (.bool true), .quiet (N d), .call (.int .i64 L2), .quiet (N a), .call (.int .i64 L), .quiet (.int .i64 m), .quiet (.int .i64 ((L : Int) - m)), .quiet (.int .i64 L2), .quiet (.bool true), .quiet (.bool true), .quiet (.bool true), .quiet (N u), .quiet (.int .i64 m), .call (.int .i64 y), .quiet (N a), .call (.int .i64 y), .quiet (.bool true), .quiet (.bool true), .quiet (.bool true)] (fun w' => Rws w' [(g9, d), (g4, u), (g8, d), (g7, u), (w.heap.size, a)]) ?F4 (fun γ => ?hF) (by kernel_rfl) ?hL ?hS ?ho ?he
        case hF =>
          simp only [fill, Kind.val, Act.put, List.setIfInBounds_toArray, List.set_cons_zero, List.set_cons_succ]
          exact rfl
        case hL => exact trivial
        case hS => exact fun w' hb => H5.out.1.below hb
        case ho =>
          refine AllOk.cons ?_ ?_
          · exact fun γ => ⟨rfl, fun w' _ => rfl⟩
          refine AllOk.cons ?_ ?_
          · exact fun γ => ⟨rfl, fun w' _ => rfl⟩
          refine AllOk.cons ?_ ?_
          · exact fun γ => ⟨rfl, fun w' h => exec_load6 h (by simp) rfl rfl⟩
          refine AllOk.cons ?_ ?_
          · exact fun γ => ⟨rfl, fun w' h => exec_load6 h (by simp) rfl rfl⟩
          refine AllOk.cons ?_ ?_
          · (refine fun γ => ⟨rfl, fun w' h => ?_⟩; clear h; go_simp)
          refine AllOk.cons ?_ ?_
          · (refine fun γ => ⟨rfl, fun w' h => ?_⟩; clear h; go_simp)
          refine AllOk.cons ?_ ?_
          · exact fun γ => ⟨rfl, fun w' _ => rfl⟩
          refine AllOk.cons ?_ ?_
          · exact fun γ => ⟨rfl, fun w' _ => rfl⟩
          refine AllOk.cons ?_ ?_
          · (refine fun γ => ⟨rfl, fun w' h => ?_⟩; clear h; go_simp)
          refine AllOk.cons ?_ ?_
          · (refine fun γ => ⟨rfl, fun w' h => ?_⟩; clear h; go_simp)
          refine AllOk.cons ?_ ?_
          · exact fun γ => ⟨rfl, fun w' _ => rfl⟩
          refine AllOk.cons ?_ ?_
          · exact fun γ => ⟨rfl, fun w' h => exec_load6 h (by simp) rfl rfl⟩
          refine AllOk.cons ?_ ?_
          · exact fun γ => ⟨rfl, fun w' h => exec_load6 h (by simp) rfl rfl⟩
          refine AllOk.cons ?_ ?_
          · (refine fun γ => ⟨rfl, fun w' h => ?_⟩; clear h; go_simp)
          refine AllOk.cons ?_ ?_
          · (refine fun γ => ⟨rfl, fun w' h => ?_⟩; clear h; go_simp)
          refine AllOk.cons ?_ ?_
          · exact fun γ => ⟨rfl, fun w' _ => rfl⟩
          refine AllOk.cons ?_ ?_
          · exact fun γ => ⟨rfl, fun w' h => exec_load6 h (by simp) rfl rfl⟩
          refine AllOk.cons ?_ ?_
          · exact fun γ => ⟨rfl, fun w' _ => rfl⟩
          refine AllOk.cons ?_ ?_
          · exact fun γ => ⟨rfl, fun w' h => ⟨19, #[N d, .int .i64 m], exec_call rfl call19 rfl (by simp only [List.map_toArray, List.map_cons, List.map_nil]; rfl), CB.out w'⟩⟩
          refine AllOk.cons ?_ ?_
          · exact fun γ => ⟨rfl, fun w' h => exec_load6 h (by simp) rfl rfl⟩
          refine AllOk.cons ?_ ?_
          · exact fun γ => ⟨rfl, fun w' _ => rfl⟩
          refine AllOk.cons ?_ ?_
          · (refine fun γ => ⟨rfl, fun w' h => ?_⟩; clear h; go_simp)
          refine AllOk.cons ?_ ?_
          · exact fun γ => ⟨rfl, fun w' h => ⟨19, #[N a, .int .i64 (-(m : Int))], exec_call rfl call19 rfl (by simp only [List.map_toArray, List.map_cons, List.map_nil]; rfl), CD.out w'⟩⟩
          refine AllOk.cons ?_ ?_
          · exact fun γ => ⟨rfl, fun w' _ => rfl⟩
          refine AllOk.cons ?_ ?_
          · exact fun γ => ⟨rfl, fun w' h => ⟨19, #[N d, .int .i64 m], exec_call rfl call19 rfl (by simp only [List.map_toArray, List.map_cons, List.map_nil]; rfl), CB.out w'⟩⟩
          refine AllOk.cons ?_ ?_
          · (refine fun γ => ⟨rfl, fun w' h => ?_⟩; clear h; go_simp)
          refine AllOk.cons ?_ ?_
          · (refine fun γ => ⟨rfl, fun w' h => ?_⟩; clear h; go_simp)
          refine AllOk.cons ?_ ?_
          · exact fun γ => ⟨rfl, fun w' _ => rfl⟩
          refine AllOk.cons ?_ ?_
          · exact fun γ => ⟨rfl, fun w' h => exec_load6 h (by simp) rfl rfl⟩
          refine AllOk.cons ?_ ?_
          · exact fun γ => ⟨rfl, fun w' h => ⟨23, #[N d], exec_call rfl call23 rfl (by simp only [List.map_toArray, List.map_cons, List.map_nil]; rfl), CL.out w'⟩⟩
          refine AllOk.cons ?_ ?_
          · exact fun γ => ⟨rfl, fun w' h => exec_load6 h (by simp) rfl rfl⟩
          refine AllOk.cons ?_ ?_
          · exact fun γ => ⟨rfl, fun w' h => ⟨23, #[N a], exec_call rfl call23 rfl (by simp only [List.map_toArray, List.map_cons, List.map_nil]; rfl), CK.out w'⟩⟩
          refine AllOk.cons ?_ ?_
          · exact fun γ => ⟨rfl, fun w' _ => rfl⟩
          refine AllOk.cons ?_ ?_
          · (refine fun γ => ⟨rfl, fun w' h => ?_⟩; clear h; go_simp)
          refine AllOk.cons ?_ ?_
          · (refine fun γ => ⟨rfl, fun w' h => ?_⟩; clear h; go_simp)
          refine AllOk.cons ?_ ?_
          · (refine fun γ => ⟨rfl, fun w' h => ?_⟩; clear h; go_simp)
          refine AllOk.cons ?_ ?_
          · (refine fun γ => ⟨rfl, fun w' h => ?_⟩; clear h; go_simp)
          refine AllOk.cons ?_ ?_
          · exact fun γ => ⟨rfl, fun w' _ => rfl⟩
          refine AllOk.cons ?_ ?_
          · exact fun γ => ⟨rfl, fun w' h => exec_load6 h (by simp) rfl rfl⟩
          refine AllOk.cons ?_ ?_
          · exact fun γ => ⟨rfl, fun w' _ => rfl⟩
          refine AllOk.cons ?_ ?_
          · exact fun γ => ⟨rfl, fun w' h => ⟨21, #[N u, .int .i64 m], exec_call rfl call21 rfl (by simp only [List.map_toArray, List.map_cons, List.map_nil]; rfl), CI.out w'⟩⟩
          refine AllOk.cons ?_ ?_
          · exact fun γ => ⟨rfl, fun w' h => exec_load6 h (by simp) rfl rfl⟩
          refine AllOk.cons ?_ ?_
          · exact fun γ => ⟨rfl, fun w' h => ⟨21, #[N a, .int .i64 0], exec_call rfl call21 rfl (by simp only [List.map_toArray, List.map_cons, List.map_nil]; rfl), CJ.out w'⟩⟩
          refine AllOk.cons ?_ ?_
          · (refine fun γ => ⟨rfl, fun w' h => ?_⟩; clear h; go_simp)
          refine AllOk.cons ?_ ?_
          · (refine fun γ => ⟨rfl, fun w' h => ?_⟩; clear h; go_simp)
          refine AllOk.cons ?_ ?_
          · exact fun γ => ⟨rfl, fun w' _ => rfl⟩
          exact trivial
        case he =>
          intro γ6 w6 l hM hl
          have B6 : Below w.heap.size w w6 := H5.out.2.trans (hM.below.mono H5.out.2.size)
          clear hM hl l H5
          go_wp2
          go_ret
          exact ⟨rfl, B6⟩
end Go.Proofs.Ytpcnhknkgiingaa
