/- Texts of the proof, joined. -/
import Derived.Test.YtbbocdamhkkiiaaDoorP1
import Derived.BigQuiet
import Derived.Deep.DeepCutAuto
import Derived.Deep.CutBlock
import Derived.WalkSmall
import Derived.BigRegion
import Derived.Laws.StructEq
import Derived.Deep.RegionHeld3
section
namespace Go.Proofs.YtbbocdamhkkiiaaDoor
open Go.RowKit
theorem qmul (q Y M : Nat) (h : q * Y ≤ M) (hY : 0 < Y) : q ≤ M / Y := (Nat.le_div_iff_mul_le hY).2 h
/-- The guess is too great: so one less is not too small. -/
theorem half_more (U y1 y0 u q r : Nat) (hq : q * y1 + r = U) (hY : 0 < y1 * 4294967296 + y0) (h : r * 4294967296 + u < q * y0) :
    (U * 4294967296 + u) / (y1 * 4294967296 + y0) + 1 ≤ q := by
  have h1 : U * 4294967296 + u < q * (y1 * 4294967296 + y0) := by
    subst hq
    have e : q * (y1 * 4294967296 + y0) = q * y1 * 4294967296 + q * y0 := by rw [Nat.mul_add, Nat.mul_assoc]
    rw [e]
    clear e
    generalize q * y1 = A
    rw [Nat.add_mul, Nat.add_assoc]
    exact Nat.add_lt_add_left h _
  exact (Nat.div_lt_iff_lt_mul hY).2 h1
theorem half_big (U y1 y0 u q : Nat) (hu : u < 4294967296) (hU : U < y1 * 4294967296 + y0) (h : 4294967296 ≤ q) :
    (U * 4294967296 + u) / (y1 * 4294967296 + y0) + 1 ≤ q := by
  have hY : 0 < y1 * 4294967296 + y0 := by omega
  have h1 : U * 4294967296 + u < 4294967296 * (y1 * 4294967296 + y0) := by omega
  have := (Nat.div_lt_iff_lt_mul hY).2 h1
  omega
theorem half_enough (U y1 y0 u q r : Nat) (hq : q * y1 + r = U) (hY : 0 < y1 * 4294967296 + y0) (h : q * y0 ≤ r * 4294967296 + u) :
    q ≤ (U * 4294967296 + u) / (y1 * 4294967296 + y0) := by
  apply qmul _ _ _ _ hY
  subst hq
  have e : q * (y1 * 4294967296 + y0) = q * y1 * 4294967296 + q * y0 := by rw [Nat.mul_add, Nat.mul_assoc]
  rw [e]
  clear e
  generalize q * y1 = A
  generalize q * y0 = B at h ⊢
  omega
theorem half_start (U y1 y0 : Nat) (hy0 : y0 < 4294967296) (hy1 : 2147483648 ≤ y1) (hU : U < y1 * 4294967296 + y0) : U / y1 ≤ 4294967297 := by
  have h1 : U < 4294967298 * y1 := by omega
  have := (Nat.div_lt_iff_lt_mul (by omega : 0 < y1)).2 h1
  omega
theorem half_ge (U y1 y0 u : Nat) (hu : u < 4294967296) (hy1 : 0 < y1) : (U * 4294967296 + u) / (y1 * 4294967296 + y0) ≤ U / y1 := by
  have h1 : (U * 4294967296 + u) / (y1 * 4294967296 + y0) ≤ (U * 4294967296 + u) / (y1 * 4294967296) := Nat.div_le_div_left (by omega) (by omega)
  have h2 : (U * 4294967296 + u) / (y1 * 4294967296) = U / y1 := by
    rw [Nat.mul_comm y1, ← Nat.div_div_eq_div_mul]
    congr 1
    omega
  omega
/-- Both halves. -/
theorem halves_join (M Y u0 : Nat) (hY : 0 < Y) : M / Y * 4294967296 + (M % Y * 4294967296 + u0) / Y = (M * 4294967296 + u0) / Y := by
  have d := Nat.div_add_mod M Y
  have e : M * 4294967296 + u0 = (M % Y * 4294967296 + u0) + Y * (M / Y * 4294967296) := by
    have e1 : M * 4294967296 = Y * (M / Y * 4294967296) + M % Y * 4294967296 := by rw [← Nat.mul_assoc, ← Nat.add_mul, d]
    rw [e1]
    generalize Y * (M / Y * 4294967296) = Z
    omega
  rw [e, Nat.add_mul_div_left _ _ hY, Nat.add_comm]
theorem norm_div (n y s : Nat) : n * 2 ^ s / (y * 2 ^ s) = n / y := Nat.mul_div_mul_right _ _ (Nat.two_pow_pos s)
end Go.Proofs.YtbbocdamhkkiiaaDoor
end
section
namespace Go.Proofs.YtbbocdamhkkiiaaDoor
open Go.RowKit
/-- What Div64 makes of its arguments first: Y the divisor, shifted; U, u1, u0 the dividend, shifted. -/
theorem norm_parts (hi lo y : Nat) (h1 : hi < y) (hy : y < 18446744073709551616) (hl : lo < 18446744073709551616) :
    ∃ Y U u1 u0 y1 y0 : Nat, Y = y * 2 ^ (64 - bl y) ∧ 9223372036854775808 ≤ Y ∧ Y < 18446744073709551616 ∧ Y = y1 * 4294967296 + y0 ∧ y0 < 4294967296 ∧ 2147483648 ≤ y1 ∧ y1 < 4294967296 ∧ u1 < 4294967296 ∧ u0 < 4294967296 ∧ U < Y ∧
      (hi * 18446744073709551616 + lo) * 2 ^ (64 - bl y) = (U * 4294967296 + u1) * 4294967296 + u0 ∧
      IntKind.u64.wrap ((y : Int) * 2 ^ (64 - bl y)) = Y ∧ bits .or .u64 (IntKind.u64.wrap ((hi : Int) * 2 ^ (64 - bl y))) ((lo : Int) / 2 ^ (64 - (64 - bl y))) = U ∧
      IntKind.u64.wrap ((lo : Int) * 2 ^ (64 - bl y)) / 4294967296 = u1 ∧ bits .and .u64 (IntKind.u64.wrap ((lo : Int) * 2 ^ (64 - bl y))) 4294967295 = u0 ∧ (Y : Int) / 4294967296 = y1 ∧ bits .and .u64 (Y : Int) 4294967295 = y0 := by
  have hb1 : bl y ≤ 64 := bl_le_of y 64 hy
  have hb2 : 1 ≤ bl y := bl_pos y (by omega)
  have hlt := bl_lt y
  have hle := bl_le y (by omega)
  generalize hs : 64 - bl y = s
  have hbs : bl y = 64 - s := by omega
  have hs2 : s < 64 := by omega
  rw [hbs] at hlt hle
  have p64 : (18446744073709551616 : Nat) = 2 ^ 64 := by decide
  have p63 : (9223372036854775808 : Nat) = 2 ^ 63 := by decide
  have hY1 : y * 2 ^ s < 18446744073709551616 := by
    rw [p64, show (64 : Nat) = (64 - s) + s by omega, Nat.pow_add]
    have : 64 - s + s - s = 64 - s := by omega
    exact Nat.mul_lt_mul_of_pos_right hlt (Nat.two_pow_pos s)
  have hY2 : 9223372036854775808 ≤ y * 2 ^ s := by
    have e : (63 : Nat) = (64 - s - 1) + s := by omega
    rw [p63, e, Nat.pow_add]
    exact Nat.mul_le_mul_right _ hle
  -- the dividend
  have hN : hi * 18446744073709551616 + lo < y * 18446744073709551616 := by omega
  generalize hNe : (hi * 18446744073709551616 + lo) * 2 ^ s = M
  have hM : M < y * 2 ^ s * 18446744073709551616 := by
    rw [← hNe, Nat.mul_right_comm]
    exact Nat.mul_lt_mul_of_pos_right hN (Nat.two_pow_pos s)
  have hU : M / 18446744073709551616 < y * 2 ^ s := (Nat.div_lt_iff_lt_mul (by decide)).2 hM
  have hlow : M % 18446744073709551616 = lo * 2 ^ s % 18446744073709551616 := by
    rw [← hNe, Nat.add_mul, Nat.mul_right_comm, Nat.mul_add_mod_self_right]
  have hUo : (hi <<< s % 2 ^ 64) ||| (lo >>> (64 - s)) = M / 18446744073709551616 := by
    have hUlt : M / 18446744073709551616 < 2 ^ 64 := by rw [← p64]; omega
    rw [← Nat.mod_eq_of_lt hUlt, ← hNe, p64, ← Nat.shiftLeft_eq _ s, ← Nat.shiftRight_eq_div_pow]
    apply Nat.eq_of_testBit_eq
    intro i
    have eor : hi * 2 ^ 64 + lo = hi <<< 64 ||| lo := by rw [← Nat.shiftLeft_eq, Nat.shiftLeft_add_eq_or_of_lt (by rw [← p64]; exact hl)]
    rw [eor]
    simp only [Nat.testBit_or, Nat.testBit_mod_two_pow, Nat.testBit_shiftLeft, Nat.testBit_shiftRight]
    by_cases h64 : i < 64
    · by_cases his : s ≤ i
      · have f1 : s ≤ 64 + i := by omega
        have f2 : 64 ≤ 64 + i - s := by omega
        have f3 : 64 + i - s - 64 = i - s := by omega
        have f4 : 64 - s + i = 64 + i - s := by omega
        have f5 : lo.testBit (64 + i - s) = false := Nat.testBit_lt_two_pow (Nat.lt_of_lt_of_le (by rw [← p64]; exact hl) (Nat.pow_le_pow_right (by decide) f2))
        simp [h64, his, f1, f2, f3, f4, f5]
      · have f1 : s ≤ 64 + i := by omega
        have f2 : ¬ 64 ≤ 64 + i - s := by omega
        have f4 : 64 - s + i = 64 + i - s := by omega
        simp [h64, his, f1, f2, f4]
    · have f5 : lo.testBit (64 - s + i) = false := Nat.testBit_lt_two_pow (Nat.lt_of_lt_of_le (by rw [← p64]; exact hl) (Nat.pow_le_pow_right (by decide) (by omega)))
      simp [h64, f5]
  refine ⟨y * 2 ^ s, M / 18446744073709551616, M % 18446744073709551616 / 4294967296, M % 18446744073709551616 % 4294967296, y * 2 ^ s / 4294967296, y * 2 ^ s % 4294967296, rfl, hY2, hY1, by omega, by omega, by omega, by omega, by omega, by omega, hU, by omega, ?_, ?_, ?_, ?_, ?_, ?_⟩
  · rw [wrap_shl, Nat.shiftLeft_eq, ← p64, Nat.mod_eq_of_lt hY1]
  · rw [wrap_shl, div_shr, bits_or_u64_nat _ _ (Nat.mod_lt _ (by decide)) (by rw [Nat.shiftRight_eq_div_pow]; exact Nat.lt_of_le_of_lt (Nat.div_le_self _ _) hl), hUo]
  · rw [wrap_shl, Nat.shiftLeft_eq, ← p64, hlow]; rfl
  · rw [wrap_shl, Nat.shiftLeft_eq, ← p64, hlow, Mul64.maskN _ (Nat.mod_lt _ (by decide))]
  · rfl
  · rw [Mul64.maskN _ hY1]
end Go.Proofs.YtbbocdamhkkiiaaDoor
end
section
namespace Go.Proofs.YtbbocdamhkkiiaaDoor
open Go.RowKit
theorem quo_wrap (U y1 q : Nat) (h : U / y1 = q) (hq : q < 18446744073709551616) : IntKind.u64.wrap ((U : Int) / (y1 : Int)) = q := by
  rw [← Int.natCast_ediv, h]; exact Mul64.wrapN q hq
theorem rem_wrap (U y1 q r : Nat) (h : q * y1 + r = U) (hU : U < 18446744073709551616) : IntKind.u64.wrap ((U : Int) - IntKind.u64.wrap ((q : Int) * (y1 : Int))) = r := by
  have h1 : q * y1 < 18446744073709551616 := by omega
  rw [← Int.natCast_mul, Mul64.wrapN _ h1]
  have : (U : Int) - ((q * y1 : Nat) : Int) = (r : Int) := by omega
  rw [this]; exact Mul64.wrapN r (by omega)
theorem hb_break (U y1 y0 u q r Y Q : Nat) (dy : Y = y1 * 4294967296 + y0) (hQ : Q = (U * 4294967296 + u) / Y) (h : (q + 1) * y1 + r = U) (hle : q + 1 ≤ 4294967297) (b3 : y0 < 4294967296) (b4 : 0 < y1) (c2 : 4294967296 ≤ r + y1) (hge : Q + 1 ≤ q + 1) : q = Q := by
  have h2 : q * y1 + (r + y1) = U := by rw [Nat.add_mul] at h; omega
  have h3 : q * y0 ≤ 4294967296 * 4294967295 := Nat.mul_le_mul (by omega) (by omega)
  have h4 := half_enough U y1 y0 u q (r + y1) h2 (by omega) (by omega)
  rw [← dy, ← hQ] at h4
  omega
theorem hb_exit (U y1 y0 u q r Y Q : Nat) (dy : Y = y1 * 4294967296 + y0) (hQ : Q = (U * 4294967296 + u) / Y) (h : q * y1 + r = U) (b4 : 0 < y1) (c : q * y0 ≤ 4294967296 * r + u) (hge : Q ≤ q) : q = Q := by
  have h4 := half_enough U y1 y0 u q r h (by omega) (by rw [Nat.mul_comm r]; exact c)
  rw [← dy, ← hQ] at h4
  omega
theorem hb_more1 (U y1 y0 u q Y Q : Nat) (dy : Y = y1 * 4294967296 + y0) (hQ : Q = (U * 4294967296 + u) / Y) (hu : u < 4294967296) (hU : U < Y) (h : 4294967296 ≤ q) : Q + 1 ≤ q := by
  have h4 := half_big U y1 y0 u q hu (by rw [← dy]; exact hU) h
  rw [← dy, ← hQ] at h4
  exact h4
theorem hb_more2 (U y1 y0 u q r Y Q : Nat) (dy : Y = y1 * 4294967296 + y0) (hQ : Q = (U * 4294967296 + u) / Y) (h : q * y1 + r = U) (b4 : 0 < y1) (c : 4294967296 * r + u < q * y0) : Q + 1 ≤ q := by
  have h4 := half_more U y1 y0 u q r h (by omega) (by rw [Nat.mul_comm r]; exact c)
  rw [← dy, ← hQ] at h4
  exact h4
theorem hb_step (U y1 q r : Nat) (h : (q + 1) * y1 + r = U) : q * y1 + (r + y1) = U := by rw [Nat.add_mul] at h; omega
theorem mul_small (q y0 : Nat) (hq : q < 4294967296) (h : y0 < 4294967296) : q * y0 < 18446744073709551616 := by
  have h3 : q * y0 ≤ 4294967295 * 4294967295 := Nat.mul_le_mul (by omega) (by omega)
  omega
set_option maxHeartbeats 2000000 in
set_option maxRecDepth 100000 in
theorem div64_hi (hi lo y : Nat) (h1 : hi < y) (hy : y < 18446744073709551616) (hl : lo < 18446744073709551616) (h0 : hi ≠ 0) (w : World) :
    Calls Tryd.prog 56 #[.int .u64 hi, .int .u64 lo, .int .u64 y] w fun e w' => ∃ rr : Int, e = .returned (.tuple #[.int .u64 ((hi * 18446744073709551616 + lo) / y : Nat), .int .u64 rr]) ∧ w' = w := by
  have hc := fun w => lz64_any y w (Int.natCast_nonneg y) (by omega)
  rw [Int.toNat_natCast] at hc
  have HC : Hid _ := hc
  have hb1 : bl y ≤ 64 := bl_le_of y 64 hy
  have hb2 : 1 ≤ bl y := bl_pos y (by omega)
  obtain ⟨Y, U, u1, u0, y1, y0, dY, b1, b2, dy, b3, b4, b5, b6, b7, b8, dM, eY, eU, eu1, eu0, ey1, ey0⟩ := norm_parts hi lo y h1 hy hl
  obtain ⟨Q1, hQ1⟩ : ∃ Q1, Q1 = (U * 4294967296 + u1) / Y := ⟨_, rfl⟩
  obtain ⟨R1, hR1⟩ : ∃ R1, R1 = (U * 4294967296 + u1) % Y := ⟨_, rfl⟩
  obtain ⟨Q0, hQ0⟩ : ∃ Q0, Q0 = (R1 * 4294967296 + u0) / Y := ⟨_, rfl⟩
  have hfin : (hi * 18446744073709551616 + lo) / y = Q1 * 4294967296 + Q0 := by
    rw [hQ0, hR1, hQ1, halves_join _ _ _ (by omega), ← dM, dY, norm_div]
  rw [hfin]
  have HN : Hid _ := And.intro b1 (And.intro b2 (And.intro dy (And.intro b8 (And.intro hQ1 (And.intro hR1 hQ0)))))
  have e1 : ((y : Int) == 0) = false := by simp; omega
  have e2 : ((hi : Int) == 0) = false := by simp; omega
  have e3 : (1 : Int) ≤ y1 := by omega
  clear hc hy hl dY dM hfin b1 b2 dy b8 hQ1 hR1 hQ0
  go_enter Tryd.func56, Tryd.ntmps56
  go_upto_block 0 with (go_at_call 60; refine (HC.out _).mono ?_; rintro e w' ⟨rfl, hw'⟩; rw [hw']; clear hw')
  go_cut [15, 16] (fun qv rv wq => qv = .int .u64 Q1 ∧ (∃ r : Int, rv = .int .u64 r) ∧ wq = w)
  case first =>
    go_wp2
    go_loop [15, 16] (fun qv rv => ∃ q r : Nat, qv = .int .u64 q ∧ rv = .int .u64 r ∧ q * y1 + r = U ∧ Q1 ≤ q ∧ q ≤ 4294967297 ∧ r < 4294967296) (fun q _ => (RowKit.intOf q).toNat)
    case atStart =>
      obtain ⟨b1, b2, dy, b8, hQ1, hR1, hQ0⟩ := HN.out
      have hs := half_start U y1 y0 b3 b4 (by omega)
      have hg := half_ge U y1 y0 u1 b6 (by omega)
      have e1 := quo_wrap U y1 (U / y1) rfl (by omega)
      have dm := Nat.div_add_mod U y1
      have e2 := rem_wrap U y1 (U / y1) (U % y1) (by rw [Nat.mul_comm]; exact dm) (by omega)
      have hm := Nat.mod_lt U (by omega : 0 < y1)
      rw [e1, e2]
      exact ⟨U / y1, U % y1, rfl, rfl, by rw [Nat.mul_comm]; exact dm, by rw [hQ1, dy]; exact hg, hs, by omega⟩
    case round =>
      obtain ⟨q, r, rfl, rfl, hqr, hge, hle, hr⟩ := hrel
      have HQ : Hid _ := hqr
      clear hqr
      by_cases c1 : 4294967296 ≤ q
      · have hmore : Q1 + 1 ≤ q := by
          obtain ⟨b1, b2, dy, b8, hQ1, hR1, hQ0⟩ := HN.out
          exact hb_more1 U y1 y0 u1 q Y Q1 dy hQ1 b6 b8 c1
        obtain ⟨p, rfl⟩ : ∃ p, q = p + 1 := ⟨q - 1, by omega⟩
        have HB : Hid (Q1 + 1 ≤ p + 1 ∧ p + 1 ≤ 4294967297 ∧ r < 4294967296) := ⟨hmore, hle, hr⟩
        have i1 : (4294967296 : Int) ≤ (p : Int) + 1 := by omega
        have i2 : (p : Int) + 1 ≤ 4294967297 := by omega
        have i3 : (r : Int) < 4294967296 := by omega
        have i4 : (y1 : Int) < 4294967296 := by omega
        clear c1 hmore hle hr hge
        rw [show ((p + 1 : Nat) : Int) = (p : Int) + 1 by omega]
        by_cases c2 : (4294967296 : Int) ≤ (r : Int) + (y1 : Int)
        · go_wp2
          go_meet
          case rel =>
            obtain ⟨b1, b2, dy, b8, hQ1, hR1, hQ0⟩ := HN.out
            exact ⟨by rw [hb_break U y1 y0 u1 p r Y Q1 dy hQ1 HQ.out HB.out.2.1 b3 (by omega) (by omega) HB.out.1], ⟨_, rfl⟩, rfl⟩
        · go_wp2
          go_round
          case rel => exact ⟨p, r + y1, rfl, by go_num, hb_step U y1 p r HQ.out, by have := HB.out.1; omega, by have := HB.out.2.1; omega, by omega⟩
          case measure => simp [RowKit.intOf] <;> omega
      · obtain ⟨P, hP⟩ : ∃ P, P = q * y0 := ⟨_, rfl⟩
        have hPb : P < 18446744073709551616 := by rw [hP]; exact mul_small q y0 (by omega) b3
        by_cases c3 : (4294967296 : Int) * (r : Int) + (u1 : Int) < (P : Int)
        · have hq1 : 1 ≤ q := by
            by_cases hq0 : q = 0
            · subst hq0; rw [Nat.zero_mul] at hP; omega
            · omega
          have hmore : Q1 + 1 ≤ q := by
            obtain ⟨b1, b2, dy, b8, hQ1, hR1, hQ0⟩ := HN.out
            exact hb_more2 U y1 y0 u1 q r Y Q1 dy hQ1 HQ.out (by omega) (by rw [← hP]; omega)
          obtain ⟨p, rfl⟩ : ∃ p, q = p + 1 := ⟨q - 1, by omega⟩
          have HB : Hid (Q1 + 1 ≤ p + 1 ∧ p + 1 ≤ 4294967297 ∧ r < 4294967296) := ⟨hmore, hle, hr⟩
          have i1 : (p : Int) + 1 < 4294967296 := by omega
          have i3 : (r : Int) < 4294967296 := by omega
          have i4 : (y1 : Int) < 4294967296 := by omega
          have i5 : (u1 : Int) < 4294967296 := by omega
          have eP : IntKind.u64.wrap (((p : Int) + 1) * (y0 : Int)) = (P : Int) := by
            rw [show ((p : Int) + 1) = ((p + 1 : Nat) : Int) by omega, ← Int.natCast_mul, ← hP]; exact Mul64.wrapN P hPb
          clear c1 hmore hle hr hge hP hPb hq1
          rw [show ((p + 1 : Nat) : Int) = (p : Int) + 1 by omega]
          by_cases c2 : (4294967296 : Int) ≤ (r : Int) + (y1 : Int)
          · go_wp2
            go_meet
            case rel =>
              obtain ⟨b1, b2, dy, b8, hQ1, hR1, hQ0⟩ := HN.out
              exact ⟨by rw [hb_break U y1 y0 u1 p r Y Q1 dy hQ1 HQ.out HB.out.2.1 b3 (by omega) (by omega) HB.out.1], ⟨_, rfl⟩, rfl⟩
          · go_wp2
            go_round
            case rel => exact ⟨p, r + y1, rfl, by go_num, hb_step U y1 p r HQ.out, by have := HB.out.1; omega, by have := HB.out.2.1; omega, by omega⟩
            case measure => simp [RowKit.intOf] <;> omega
        · have HE : Hid (q = Q1) := by
            obtain ⟨b1, b2, dy, b8, hQ1, hR1, hQ0⟩ := HN.out
            exact hb_exit U y1 y0 u1 q r Y Q1 dy hQ1 HQ.out (by omega) (by rw [← hP]; omega) hge
          have eP : IntKind.u64.wrap ((q : Int) * (y0 : Int)) = (P : Int) := by
            rw [← Int.natCast_mul, ← hP]; exact Mul64.wrapN P hPb
          obtain ⟨z, hz⟩ : ∃ z : Int, z = (q : Int) := ⟨_, rfl⟩
          obtain ⟨x, hx⟩ : ∃ x : Int, x = (P : Int) := ⟨_, rfl⟩
          obtain ⟨v, hv⟩ : ∃ v : Int, v = (r : Int) := ⟨_, rfl⟩
          have HZ : Hid (z = (Q1 : Int)) := by rw [hz, HE.out]; rfl
          have i0 : 0 ≤ z := by omega
          have i1 : z < 4294967296 := by omega
          have i2 : 0 ≤ v := by omega
          have i3 : v < 4294967296 := by omega
          have i6 : x ≤ 4294967296 * v + (u1 : Int) := by omega
          rw [← hz, ← hx] at eP
          rw [← hz, ← hv]
          clear c1 c3 hle hr hge hP hPb HE hz hx hv
          go_wp2
          go_meet
          case rel => exact ⟨by rw [HZ.out], ⟨_, rfl⟩, rfl⟩
  case rest =>
    obtain ⟨rfl, ⟨rv, rfl⟩, rfl⟩ := hcut
    have eR : IntKind.u64.wrap (IntKind.u64.wrap (IntKind.u64.wrap ((U : Int) * 4294967296) + (u1 : Int)) - IntKind.u64.wrap ((Q1 : Int) * (Y : Int))) = (R1 : Int) := by
      obtain ⟨b1, b2, dy, b8, hQ1, hR1, hQ0⟩ := HN.out
      have dm := Nat.div_add_mod (U * 4294967296 + u1) Y
      have b9 : R1 < Y := by rw [hR1]; exact Nat.mod_lt _ (by omega)
      rw [← hQ1, ← hR1, Nat.mul_comm] at dm
      rw [IntKind.wrap_u64, IntKind.wrap_u64, IntKind.wrap_u64, IntKind.wrap_u64, ← Int.natCast_mul]
      generalize Q1 * Y = Z at dm ⊢
      omega
    go_upto_block 2 with (fail)
    go_cut [18, 16] (fun qv rv wq => qv = .int .u64 Q0 ∧ (∃ r : Int, rv = .int .u64 r) ∧ wq = wc)
    case first =>
      go_wp2
      go_loop [18, 16] (fun qv rv => ∃ q r : Nat, qv = .int .u64 q ∧ rv = .int .u64 r ∧ q * y1 + r = R1 ∧ Q0 ≤ q ∧ q ≤ 4294967297 ∧ r < 4294967296) (fun q _ => (RowKit.intOf q).toNat)
      case atStart =>
        obtain ⟨b1, b2, dy, b8, hQ1, hR1, hQ0⟩ := HN.out; have b9 : R1 < Y := by rw [hR1]; exact Nat.mod_lt _ (by omega)
        have hs := half_start R1 y1 y0 b3 b4 (by omega)
        have hg := half_ge R1 y1 y0 u0 b7 (by omega)
        have e1 := quo_wrap R1 y1 (R1 / y1) rfl (by omega)
        have dm := Nat.div_add_mod R1 y1
        have e2 := rem_wrap R1 y1 (R1 / y1) (R1 % y1) (by rw [Nat.mul_comm]; exact dm) (by omega)
        have hm := Nat.mod_lt R1 (by omega : 0 < y1)
        rw [e1, e2]
        exact ⟨R1 / y1, R1 % y1, rfl, rfl, by rw [Nat.mul_comm]; exact dm, by rw [hQ0, dy]; exact hg, hs, by omega⟩
      case round =>
        obtain ⟨q, r, rfl, rfl, hqr, hge, hle, hr⟩ := hrel
        have HQ : Hid _ := hqr
        clear hqr
        by_cases c1 : 4294967296 ≤ q
        · have hmore : Q0 + 1 ≤ q := by
            obtain ⟨b1, b2, dy, b8, hQ1, hR1, hQ0⟩ := HN.out; have b9 : R1 < Y := by rw [hR1]; exact Nat.mod_lt _ (by omega)
            exact hb_more1 R1 y1 y0 u0 q Y Q0 dy hQ0 b7 b9 c1
          obtain ⟨p, rfl⟩ : ∃ p, q = p + 1 := ⟨q - 1, by omega⟩
          have HB : Hid (Q0 + 1 ≤ p + 1 ∧ p + 1 ≤ 4294967297 ∧ r < 4294967296) := ⟨hmore, hle, hr⟩
          have i1 : (4294967296 : Int) ≤ (p : Int) + 1 := by omega
          have i2 : (p : Int) + 1 ≤ 4294967297 := by omega
          have i3 : (r : Int) < 4294967296 := by omega
          have i4 : (y1 : Int) < 4294967296 := by omega
          clear c1 hmore hle hr hge
          rw [show ((p + 1 : Nat) : Int) = (p : Int) + 1 by omega]
          by_cases c2 : (4294967296 : Int) ≤ (r : Int) + (y1 : Int)
          · go_wp2
            go_meet
            case rel =>
              obtain ⟨b1, b2, dy, b8, hQ1, hR1, hQ0⟩ := HN.out; have b9 : R1 < Y := by rw [hR1]; exact Nat.mod_lt _ (by omega)
              exact ⟨by rw [hb_break R1 y1 y0 u0 p r Y Q0 dy hQ0 HQ.out HB.out.2.1 b3 (by omega) (by omega) HB.out.1], ⟨_, rfl⟩, rfl⟩
          · go_wp2
            go_round
            case rel => exact ⟨p, r + y1, rfl, by go_num, hb_step R1 y1 p r HQ.out, by have := HB.out.1; omega, by have := HB.out.2.1; omega, by omega⟩
            case measure => simp [RowKit.intOf] <;> omega
        · obtain ⟨P, hP⟩ : ∃ P, P = q * y0 := ⟨_, rfl⟩
          have hPb : P < 18446744073709551616 := by rw [hP]; exact mul_small q y0 (by omega) b3
          by_cases c3 : (4294967296 : Int) * (r : Int) + (u0 : Int) < (P : Int)
          · have hq1 : 1 ≤ q := by
              by_cases hq0 : q = 0
              · subst hq0; rw [Nat.zero_mul] at hP; omega
              · omega
            have hmore : Q0 + 1 ≤ q := by
              obtain ⟨b1, b2, dy, b8, hQ1, hR1, hQ0⟩ := HN.out; have b9 : R1 < Y := by rw [hR1]; exact Nat.mod_lt _ (by omega)
              exact hb_more2 R1 y1 y0 u0 q r Y Q0 dy hQ0 HQ.out (by omega) (by rw [← hP]; omega)
            obtain ⟨p, rfl⟩ : ∃ p, q = p + 1 := ⟨q - 1, by omega⟩
            have HB : Hid (Q0 + 1 ≤ p + 1 ∧ p + 1 ≤ 4294967297 ∧ r < 4294967296) := ⟨hmore, hle, hr⟩
            have i1 : (p : Int) + 1 < 4294967296 := by omega
            have i3 : (r : Int) < 4294967296 := by omega
            have i4 : (y1 : Int) < 4294967296 := by omega
            have i5 : (u0 : Int) < 4294967296 := by omega
            have eP : IntKind.u64.wrap (((p : Int) + 1) * (y0 : Int)) = (P : Int) := by
              rw [show ((p : Int) + 1) = ((p + 1 : Nat) : Int) by omega, ← Int.natCast_mul, ← hP]; exact Mul64.wrapN P hPb
            clear c1 hmore hle hr hge hP hPb hq1
            rw [show ((p + 1 : Nat) : Int) = (p : Int) + 1 by omega]
            by_cases c2 : (4294967296 : Int) ≤ (r : Int) + (y1 : Int)
            · go_wp2
              go_meet
              case rel =>
                obtain ⟨b1, b2, dy, b8, hQ1, hR1, hQ0⟩ := HN.out; have b9 : R1 < Y := by rw [hR1]; exact Nat.mod_lt _ (by omega)
                exact ⟨by rw [hb_break R1 y1 y0 u0 p r Y Q0 dy hQ0 HQ.out HB.out.2.1 b3 (by omega) (by omega) HB.out.1], ⟨_, rfl⟩, rfl⟩
            · go_wp2
              go_round
              case rel => exact ⟨p, r + y1, rfl, by go_num, hb_step R1 y1 p r HQ.out, by have := HB.out.1; omega, by have := HB.out.2.1; omega, by omega⟩
              case measure => simp [RowKit.intOf] <;> omega
          · have HE : Hid (q = Q0) := by
              obtain ⟨b1, b2, dy, b8, hQ1, hR1, hQ0⟩ := HN.out; have b9 : R1 < Y := by rw [hR1]; exact Nat.mod_lt _ (by omega)
              exact hb_exit R1 y1 y0 u0 q r Y Q0 dy hQ0 HQ.out (by omega) (by rw [← hP]; omega) hge
            have eP : IntKind.u64.wrap ((q : Int) * (y0 : Int)) = (P : Int) := by
              rw [← Int.natCast_mul, ← hP]; exact Mul64.wrapN P hPb
            obtain ⟨z, hz⟩ : ∃ z : Int, z = (q : Int) := ⟨_, rfl⟩
            obtain ⟨x, hx⟩ : ∃ x : Int, x = (P : Int) := ⟨_, rfl⟩
            obtain ⟨v, hv⟩ : ∃ v : Int, v = (r : Int) := ⟨_, rfl⟩
            have HZ : Hid (z = (Q0 : Int)) := by rw [hz, HE.out]; rfl
            have i0 : 0 ≤ z := by omega
            have i1 : z < 4294967296 := by omega
            have i2 : 0 ≤ v := by omega
            have i3 : v < 4294967296 := by omega
            have i6 : x ≤ 4294967296 * v + (u0 : Int) := by omega
            rw [← hz, ← hx] at eP
            rw [← hz, ← hv]
            clear c1 c3 hle hr hge hP hPb HE hz hx hv
            go_wp2
            go_meet
            case rel => exact ⟨by rw [HZ.out], ⟨_, rfl⟩, rfl⟩
    case rest =>
      obtain ⟨rfl, ⟨rv2, rfl⟩, rfl⟩ := hcut
      have eQ : IntKind.u64.wrap (IntKind.u64.wrap ((Q1 : Int) * 4294967296) + (Q0 : Int)) = ((Q1 * 4294967296 + Q0 : Nat) : Int) := by
        obtain ⟨b1, b2, dy, b8, hQ1, hR1, hQ0⟩ := HN.out
        have b9 : R1 < Y := by rw [hR1]; exact Nat.mod_lt _ (by omega)
        have q1 : Q1 < 4294967296 := by rw [hQ1]; exact (Nat.div_lt_iff_lt_mul (by omega)).2 (by omega)
        have q0 : Q0 < 4294967296 := by rw [hQ0]; exact (Nat.div_lt_iff_lt_mul (by omega)).2 (by omega)
        rw [IntKind.wrap_u64, IntKind.wrap_u64]
        omega
      go_wp2
      rw [show ((Q1 : Int) * 4294967296 + (Q0 : Int)) = ((Q1 * 4294967296 + Q0 : Nat) : Int) by omega]
      go_ret2
      exact ⟨_, rfl, rfl⟩
end Go.Proofs.YtbbocdamhkkiiaaDoor
end
section
namespace Go.Proofs.YtbbocdamhkkiiaaDoor
open Go.RowKit
set_option maxHeartbeats 400000 in
theorem div64_zero (lo y : Nat) (h1 : 0 < y) (hl : lo < 18446744073709551616) (w : World) :
    Calls Tryd.prog 56 #[.int .u64 0, .int .u64 lo, .int .u64 y] w fun e w' => ∃ rr : Int, e = .returned (.tuple #[.int .u64 (lo / y : Nat), .int .u64 rr]) ∧ ∃ n, w' = w.drewN n := by
  have e1 : ((y : Int) == 0) = false := by simp; omega
  have e3 : (1 : Int) ≤ y := by omega
  have eq : Hid _ := quo_wrap lo y (lo / y) rfl (Nat.lt_of_le_of_lt (Nat.div_le_self _ _) hl)
  clear hl
  go_enter Tryd.func56, Tryd.ntmps56
  go_wp2
  go_quiet (fail)
  go_wp2
  rw [eq.out]
  go_ret2
  exact ⟨_, rfl, _, rfl⟩
theorem div64_any (hi lo y : Nat) (h1 : hi < y) (hy : y < 18446744073709551616) (hl : lo < 18446744073709551616) (w : World) :
    Calls Tryd.prog 56 #[.int .u64 hi, .int .u64 lo, .int .u64 y] w fun e w' => ∃ rr : Int, e = .returned (.tuple #[.int .u64 ((hi * 18446744073709551616 + lo) / y : Nat), .int .u64 rr]) ∧ ∃ n, w' = w.drewN n := by
  by_cases h0 : hi = 0
  · subst h0
    rw [Nat.zero_mul, Nat.zero_add]
    exact div64_zero lo y (by omega) hl w
  · refine (div64_hi hi lo y h1 hy hl h0 w).mono ?_
    rintro e w' ⟨rr, rfl, hw⟩
    exact ⟨rr, rfl, 0, hw⟩
/-- What guess tells. -/
def gs (h l t : Nat) : Nat := if t ≤ h then 18446744073709551615 else (h * 18446744073709551616 + l) / t
set_option maxHeartbeats 400000 in
theorem guess_any (h l t : Nat) (hl : l < 18446744073709551616) (ht : t < 18446744073709551616) (w : World) :
    Calls Tryd.prog 51 #[.int .u64 h, .int .u64 l, .int .u64 t] w fun e w' => e = .returned (.int .u64 (gs h l t : Nat)) ∧ ∃ n, w' = w.drewN n := by
  unfold gs
  by_cases c : t ≤ h
  · rw [if_pos c]
    clear hl ht
    go_enter Tryd.func51, Tryd.ntmps51
    go_wp2
    go_ret
    exact ⟨rfl, 0, rfl⟩
  · rw [if_neg c]
    have hc := fun w => div64_any h l t (by omega) ht hl w
    generalize (h * 18446744073709551616 + l) / t = q at hc ⊢
    have HC : Hid _ := hc
    clear hc hl ht
    go_enter Tryd.func51, Tryd.ntmps51
    go_wp2_with (go_at_call 56; refine (HC.out _).mono ?_; rintro e w' ⟨rr, rfl, hb⟩)
    go_ret
    exact ⟨rfl, hb⟩
theorem gs_lt (h l t : Nat) (hh : h < t) (hl : l < 18446744073709551616) : gs h l t < 18446744073709551616 := by
  unfold gs
  rw [if_neg (by omega)]
  rw [Nat.div_lt_iff_lt_mul (by omega)]
  omega
theorem gs_bd (h l t : Nat) (hl : l < 18446744073709551616) : gs h l t < 18446744073709551616 := by
  by_cases c : t ≤ h
  · unfold gs; rw [if_pos c]; omega
  · exact gs_lt h l t (by omega) hl
end Go.Proofs.YtbbocdamhkkiiaaDoor
end
section
namespace Go.Proofs.YtbbocdamhkkiiaaDoor
open Go.RowKit
theorem Row.store7 {w : World} {g : Nat} {f0 : Nat → Int} (h : Row w g 7 f0) (f : Nat → Int) : Row (((((((w.setCell ⟨g, 0, none⟩ (.int .u64 (f 0))).setCell ⟨g, 1, none⟩ (.int .u64 (f 1))).setCell ⟨g, 2, none⟩ (.int .u64 (f 2))).setCell ⟨g, 3, none⟩ (.int .u64 (f 3))).setCell ⟨g, 4, none⟩ (.int .u64 (f 4))).setCell ⟨g, 5, none⟩ (.int .u64 (f 5))).setCell ⟨g, 6, none⟩ (.int .u64 (f 6))) g 7 f := by
  refine (((((((h.set (k := 0) (f 0)).set (k := 1) (f 1)).set (k := 2) (f 2)).set (k := 3) (f 3)).set (k := 4) (f 4)).set (k := 5) (f 5)).set (k := 6) (f 6)).congr ?_
  intro j hj
  match j, hj with
  | 0, _ | 1, _ | 2, _ | 3, _ | 4, _ | 5, _ | 6, _ => simp [upd]
theorem Row.past7 {w : World} {g g' n : Nat} {f : Nat → Int} (h : Row w g' n f) (hne : g ≠ g') (v0 v1 v2 v3 v4 v5 v6 : Value) : Row (((((((w.setCell ⟨g, 0, none⟩ v0).setCell ⟨g, 1, none⟩ v1).setCell ⟨g, 2, none⟩ v2).setCell ⟨g, 3, none⟩ v3).setCell ⟨g, 4, none⟩ v4).setCell ⟨g, 5, none⟩ v5).setCell ⟨g, 6, none⟩ v6) g' n f :=
  ((((((h.set_other (a := ⟨g, 0, none⟩) _ hne).set_other (a := ⟨g, 1, none⟩) _ hne).set_other (a := ⟨g, 2, none⟩) _ hne).set_other (a := ⟨g, 3, none⟩) _ hne).set_other (a := ⟨g, 4, none⟩) _ hne).set_other (a := ⟨g, 5, none⟩) _ hne).set_other (a := ⟨g, 6, none⟩) _ hne
theorem size7 (w : World) (g : Nat) (v0 v1 v2 v3 v4 v5 v6 : Value) : (((((((w.setCell ⟨g, 0, none⟩ v0).setCell ⟨g, 1, none⟩ v1).setCell ⟨g, 2, none⟩ v2).setCell ⟨g, 3, none⟩ v3).setCell ⟨g, 4, none⟩ v4).setCell ⟨g, 5, none⟩ v5).setCell ⟨g, 6, none⟩ v6).heap.size = w.heap.size := by simp [World.setCell]
/-- The guess is not too small. -/
theorem gs_ge (X d s : Nat) (hd0 : 0 < d) (hd : d < 2 ^ (64 * (s + 1))) (hX : X < d * 18446744073709551616) : X / d ≤ gs (wn X (s + 1)) (wn X s) (wn d s) := by
  unfold gs
  have hq : X / d < 18446744073709551616 := (Nat.div_lt_iff_lt_mul hd0).2 (by rw [Nat.mul_comm]; exact hX)
  by_cases c : wn d s ≤ wn X (s + 1)
  · rw [if_pos c]; omega
  · rw [if_neg c]
    rw [Nat.le_div_iff_mul_le (by omega)]
    have hp := pow_pos' s
    -- the divisor's top word
    have td : wn d s = d / 2 ^ (64 * s) := by
      unfold wn
      rw [Nat.mod_eq_of_lt]
      rw [Nat.div_lt_iff_lt_mul hp, Nat.mul_comm, ← pow_step]; exact hd
    have tX : wn X (s + 1) * 18446744073709551616 + wn X s = X / 2 ^ (64 * s) := by
      unfold wn
      rw [pow_step, ← Nat.div_div_eq_div_mul]
      have hlt : X / 2 ^ (64 * s) / 18446744073709551616 < 18446744073709551616 := by
        rw [Nat.div_div_eq_div_mul, ← pow_step, Nat.div_lt_iff_lt_mul (pow_pos' _)]
        calc X < d * 18446744073709551616 := hX
          _ ≤ 2 ^ (64 * (s + 1)) * 18446744073709551616 := Nat.mul_le_mul_right _ (Nat.le_of_lt hd)
          _ = 18446744073709551616 * 2 ^ (64 * (s + 1)) := Nat.mul_comm _ _
      rw [Nat.mod_eq_of_lt hlt]
      omega
    rw [tX, td, Nat.le_div_iff_mul_le hp]
    calc X / d * (d / 2 ^ (64 * s)) * 2 ^ (64 * s) = X / d * (d / 2 ^ (64 * s) * 2 ^ (64 * s)) := Nat.mul_assoc _ _ _
      _ ≤ X / d * d := Nat.mul_le_mul_left _ (Nat.div_mul_le_self _ _)
      _ ≤ X := Nat.div_mul_le_self _ _
/-- What a step of mending does. -/
theorem mend (X d o M : Nat) (hX : X < (o + 1) * d) (ho : (o + 1) * d ≤ M) :
    (X + M - (o + 1) * d) % M = X + M - (o + 1) * d ∧ (X + M - (o + 1) * d + d) % M = (X + M - o * d) % M ∧ decide (M ≤ X + M - (o + 1) * d + d) = decide (o * d ≤ X) := by
  rw [Nat.add_mul, Nat.one_mul] at hX ho ⊢
  refine ⟨Nat.mod_eq_of_lt (by omega), by congr 1; omega, ?_⟩
  by_cases c : o * d ≤ X
  · rw [decide_eq_true c]; exact decide_eq_true (by omega)
  · rw [decide_eq_false c]; exact decide_eq_false (by omega)
theorem mended (X d o M : Nat) (hd0 : 0 < d) (hle : o * d ≤ X) (hge : X / d ≤ o) (hXM : X < M) : o = X / d ∧ (X + M - o * d) % M = X % d := by
  have h1 : o ≤ X / d := (Nat.le_div_iff_mul_le hd0).2 hle
  have h2 : o = X / d := by omega
  refine ⟨h2, ?_⟩
  have e : X + M - o * d = (X - o * d) + M := by omega
  rw [e, Nat.add_mod_right, Nat.mod_eq_of_lt (by omega)]
  have := Nat.div_add_mod X d
  rw [Nat.mul_comm, ← h2] at this
  omega
end Go.Proofs.YtbbocdamhkkiiaaDoor
end
section
namespace Go.Proofs.YtbbocdamhkkiiaaDoor
open Go.RowKit
abbrev O7 (v : Nat) : Obj := .cells #[.int .u64 (wd v 0), .int .u64 (wd v 1), .int .u64 (wd v 2), .int .u64 (wd v 3), .int .u64 (wd v 4), .int .u64 (wd v 5), .int .u64 (wd v 6)] 61
abbrev Z7 : Obj := .cells #[.int .u64 0, .int .u64 0, .int .u64 0, .int .u64 0, .int .u64 0, .int .u64 0, .int .u64 0] 61
set_option maxHeartbeats 2000000 in
set_option maxRecDepth 100000 in
theorem divideStep_any (r d i s : Nat) (hd0 : 0 < d) (hd : d < 2 ^ (64 * (s + 1))) (hr : r / 2 ^ (64 * i) < d * 18446744073709551616) (his : i + s ≤ 5) (w : World) :
    Calls Tryd.prog 39 #[L7 r, N d, .int .i64 i, .int .i64 ((s : Int) + 1)] w fun e w' =>
      e = .returned (.tuple #[.int .u64 (r / 2 ^ (64 * i) / d : Nat), L7 (glue r i (r / 2 ^ (64 * i) % d))]) ∧ Below w.heap.size w w' := by
  obtain ⟨X, hX⟩ : ∃ X, X = r / 2 ^ (64 * i) := ⟨_, rfl⟩
  obtain ⟨M, hM⟩ : ∃ M, M = 2 ^ (64 * (s + 1 + 1)) := ⟨_, rfl⟩
  have hdM : d * 18446744073709551616 < M := by
    rw [hM, pow_step]
    exact Nat.mul_lt_mul_of_pos_right hd (by decide)
  have hrr : r < 2 ^ (64 * (i + (s + 1 + 1))) := by
    rw [← glue_self r i]
    exact glue_lt r i (s + 1 + 1) _ (by rw [← hM]; omega)
  -- the guess
  obtain ⟨o, ho⟩ : ∃ o, o = gs (wn X (s + 1)) (wn X s) (wn d s) := ⟨_, rfl⟩
  have ho2 : o < 18446744073709551616 := by rw [ho]; exact gs_bd _ _ _ (wn_lt _ _)
  have ho1 : X / d ≤ o := by rw [ho]; exact gs_ge X d s hd0 hd (by rw [hX]; exact hr)
  have hg := fun w => guess_any (wn X (s + 1)) (wn X s) (wn d s) (wn_lt _ _) (wn_lt _ _) w
  rw [← ho, ← wd_wn, ← wd_wn, ← wd_wn, hX, ← wd_off, ← wd_off] at hg
  have HG : Hid _ := hg
  -- taking o times
  have ht := fun w => takeTimes_any r d o i (s + 1) hrr hd ho2 (by omega) (by omega) w
  rw [← hX, ← hM, show (((s + 1 : Nat) : Int)) = (s : Int) + 1 by omega] at ht
  have HT : Hid _ := ht
  have hp := fun (z : Nat) (hz : z < M) w => putBack_any (glue r i z) d i (s + 1) (glue_lt r i (s + 1 + 1) z (by rw [← hM]; exact hz)) hd (by omega) (by omega) w
  rw [← hM, show (((s + 1 : Nat) : Int)) = (s : Int) + 1 by omega] at hp
  have HP : Hid _ := hp
  have HX : Hid (X < d * 18446744073709551616 ∧ 0 < d ∧ d * 18446744073709551616 < M ∧ X / d ≤ o ∧ o < 18446744073709551616) := ⟨by rw [hX]; exact hr, hd0, hdM, ho1, ho2⟩
  rw [← hX]
  clear hX hM hdM hrr ho ho1 ho2 hg ht hp hd0 hd hr
  go_enter Tryd.func39, Tryd.ntmps39
  go_wp2
  have f1 : Row (((w.alloc (O7 r)).alloc (O6 d)).alloc Z7) w.heap.size 7 (wd r) := ((Row.new w _ 61 rfl (seven_lt (f := wd r) rfl)).alloc (by first | omega | (simp <;> omega)) _).alloc (by first | omega | (simp <;> omega)) _
  have f2 : Row (((w.alloc (O7 r)).alloc (O6 d)).alloc Z7) (w.heap.size + 1) 6 (wd d) := (Row.new _ _ 24 (by first | omega | (simp <;> omega)) (six_lt rfl)).alloc (by first | omega | (simp <;> omega)) _
  have f3 : Row (((w.alloc (O7 r)).alloc (O6 d)).alloc Z7) (w.heap.size + 1 + 1) 7 (fun _ => 0) := Row.new _ _ 61 (by first | omega | (simp <;> omega)) (seven_lt (f := fun _ => 0) rfl)
  have f4 : Below w.heap.size w (((w.alloc (O7 r)).alloc (O6 d)).alloc Z7) := (((Below.refl _ _).alloc (Nat.le_refl _) _).alloc (by first | omega | (simp <;> omega)) _).alloc (by first | omega | (simp <;> omega)) _
  have f5 : w.heap.size + 1 + 1 < (((w.alloc (O7 r)).alloc (O6 d)).alloc Z7).heap.size := by simp
  generalize ((w.alloc (O7 r)).alloc (O6 d)).alloc Z7 = wx at f1 f2 f3 f4 f5 ⊢
  have k1 := (f1 (i + (s + 1)) (by omega)).1
  have k2 := (f1 (i + s) (by omega)).1
  have k3 := (f2 s (by omega)).1
  have g1 : (0 : Int) ≤ (i : Int) + ((s : Int) + 1) := by omega
  have g2 : (i : Int) + ((s : Int) + 1) < 7 := by omega
  have e1 : IntKind.i64.wrap ((i : Int) + ((s : Int) + 1)) = (i : Int) + ((s : Int) + 1) := by rw [IntKind.wrap_i64]; omega
  have e2 : IntKind.i64.wrap ((i : Int) + ((s : Int) + 1) - 1) = (i : Int) + (s : Int) := by rw [IntKind.wrap_i64]; omega
  have e3 : IntKind.i64.wrap (s : Int) = (s : Int) := by rw [IntKind.wrap_i64]; omega
  have t1 : ((i : Int) + ((s : Int) + 1)).toNat = i + (s + 1) := by omega
  have t2 : ((i : Int) + (s : Int)).toNat = i + s := by omega
  have g3 : (0 : Int) ≤ (i : Int) + (s : Int) := by omega
  have g4 : (i : Int) + (s : Int) < 7 := by omega
  have g5 : (s : Int) < 6 := by omega
  have HF : Hid (_ ∧ _ ∧ _ ∧ _) := ⟨f1, f2, f3, f4⟩
  obtain ⟨a0, a1, a2, a3, a4, a5, a6⟩ := f1.reads7
  obtain ⟨b0, b1, b2, b3, b4, b5⟩ := f2.reads
  obtain ⟨w0, w1, w2, w3, w4, w5, w6⟩ := f1.writes7
  clear f1 f2 f3 f4
  go_quiet ((go_at_call 51; exact Calls.quiet_of (HG.out _)))
  clear k1 k2 k3 g1 g2 g3 g4 g5 e1 e2 e3 t1 t2
  go_wp2_with fail
  refine (HT.out _).mono ?_
  rintro e wt ⟨rfl, hbt⟩
  have q1 : Row wt w.heap.size 7 (wd r) := Row.below hbt HF.out.1 (show w.heap.size < wx.heap.size by omega)
  have q2 : Row wt (w.heap.size + 1) 6 (wd d) := Row.below hbt HF.out.2.1 (show w.heap.size + 1 < wx.heap.size by omega)
  have q3 : Row wt (w.heap.size + 1 + 1) 7 (fun _ => 0) := Row.below hbt HF.out.2.2.1 (show w.heap.size + 1 + 1 < wx.heap.size by omega)
  have q4 : Below w.heap.size w wt := (below_drewN HF.out.2.2.2 nq).trans (hbt.mono (show w.heap.size ≤ wx.heap.size by omega))
  have q5 : w.heap.size + 1 + 1 < wt.heap.size := Nat.lt_of_lt_of_le f5 hbt.size
  clear hbt a0 a1 a2 a3 a4 a5 a6 b0 b1 b2 b3 b4 b5 w0 w1 w2 w3 w4 w5 w6 f5 HF
  obtain ⟨a0, a1, a2, a3, a4, a5, a6⟩ := q1.reads7
  obtain ⟨w0, w1, w2, w3, w4, w5, w6⟩ := q1.writes7
  have HF : Hid (_ ∧ _ ∧ _ ∧ _ ∧ _) := ⟨q1, q2, q3, q4, q5⟩
  clear q1 q2 q3 q4 q5
  go_wp2
  go_loopw [10, 11] (fun ov bv wr => ∃ o' : Nat, ov = .int .u64 o' ∧ bv = .bool (decide (X < o' * d)) ∧ X / d ≤ o' ∧ o' ≤ o ∧ Row wr w.heap.size 7 (wd (glue r i ((X + M - o' * d) % M))) ∧ Row wr (w.heap.size + 1) 6 (wd d) ∧ Row wr (w.heap.size + 1 + 1) 7 (fun _ => 0) ∧ Below w.heap.size w wr ∧ w.heap.size + 1 + 1 < wr.heap.size) (fun o' _ _ => (RowKit.intOf o').toNat)
  case atStart =>
    obtain ⟨q1, q2, q3, q4, q5⟩ := HF.out
    exact ⟨o, rfl, rfl, HX.out.2.2.2.1, Nat.le_refl _, q1.store7 (wd (glue r i ((X + M - o * d) % M))), q2.past7 (by omega) _ _ _ _ _ _ _, q3.past7 (by omega) _ _ _ _ _ _ _, below7 q4 (by omega) _ _ _ _ _ _ _, by rw [size7]; exact q5⟩
  case round =>
    clear a0 a1 a2 a3 a4 a5 a6 w0 w1 w2 w3 w4 w5 w6 HF
    obtain ⟨o', rfl, rfl, hge, hle, q1, q2, q3, q4, q5⟩ := hrel
    obtain ⟨a0, a1, a2, a3, a4, a5, a6⟩ := q1.reads7
    obtain ⟨b0, b1, b2, b3, b4, b5⟩ := q2.reads
    by_cases c : X < o' * d
    · have hc : decide (X < o' * d) = true := decide_eq_true c
      obtain ⟨p, rfl⟩ : ∃ p, o' = p + 1 := ⟨o' - 1, by
        have : o' ≠ 0 := by intro h; subst h; rw [Nat.zero_mul] at c; omega
        omega⟩
      obtain ⟨h1, h2, h3, h4, h5⟩ := HX.out
      have hoM : (p + 1) * d ≤ M := by
        have : (p + 1) * d ≤ 18446744073709551616 * d := Nat.mul_le_mul_right d (by omega)
        rw [Nat.mul_comm d] at h3
        omega
      obtain ⟨m1, m2, m3⟩ := mend X d p M c hoM
      have hZ : (X + M - (p + 1) * d) % M < M := Nat.mod_lt _ (by omega)
      have hP := fun w => HP.out _ hZ w
      rw [glue_div, glue_glue] at hP
      have hP2 : Hid (∀ (wz : World), Calls Tryd.prog 53 #[L7 (glue r i ((X + M - (p + 1) * d) % M)), N d, .int .i64 i, .int .i64 ((s : Int) + 1)] wz fun e w' => e = .returned (.tuple #[L7 (glue r i ((X + M - p * d) % M)), .bool (decide (p * d ≤ X))]) ∧ Below wz.heap.size wz w') := by
        intro wz
        have := hP wz
        rw [m1] at this ⊢
        rw [m2, m3] at this
        exact this
      have hp1 : Hid (X / d ≤ p) := by
        have : X / d < p + 1 := (Nat.div_lt_iff_lt_mul h2).2 c
        show X / d ≤ p
        omega
      have HB : Hid (p + 1 ≤ o) := hle
      have HF : Hid (_ ∧ _ ∧ _ ∧ _ ∧ _) := ⟨q1, q2, q3, q4, q5⟩
      have hneg : (!decide (p * d ≤ X)) = decide (X < p * d) := by
        by_cases hx : p * d ≤ X
        · rw [decide_eq_true hx, decide_eq_false (by omega)]; rfl
        · rw [decide_eq_false hx, decide_eq_true (by omega)]; rfl
      have HN : Hid _ := hneg
      have p64 : (p : Int) < 18446744073709551615 := by omega
      have ewp : IntKind.u64.wrap (p : Int) = (p : Int) := Mul64.wrapN p (by omega)
      clear h1 h2 h3 h4 h5 hoM m1 m2 m3 hZ hP hge hle q1 q2 q3 q4 q5 hneg p64 c
      rw [show ((p + 1 : Nat) : Int) = (p : Int) + 1 by omega, hc]
      clear hc
      generalize glue r i ((X + M - (p + 1) * d) % M) = R at a0 a1 a2 a3 a4 a5 a6 hP2 HF ⊢
      go_wp2_with fail
      refine (hP2.out _).mono ?_
      rintro e wt2 ⟨rfl, hbt⟩
      obtain ⟨q1, q2, q3, q4, q5⟩ := HF.out
      have r1 := Row.below hbt q1 (by omega)
      have r2 := Row.below hbt q2 (by omega)
      have r3 := Row.below hbt q3 (by omega)
      have r4 := q4.trans (hbt.mono (by omega))
      have r5 : w.heap.size + 1 + 1 < wt2.heap.size := Nat.lt_of_lt_of_le q5 hbt.size
      clear hbt a0 a1 a2 a3 a4 a5 a6 b0 b1 b2 b3 b4 b5 q1 q2 q3 q4 q5 HF
      obtain ⟨a0, a1, a2, a3, a4, a5, a6⟩ := r1.reads7
      obtain ⟨w0, w1, w2, w3, w4, w5, w6⟩ := r1.writes7
      have HF : Hid (_ ∧ _ ∧ _ ∧ _ ∧ _) := ⟨r1, r2, r3, r4, r5⟩
      clear r1 r2 r3 r4 r5
      go_wp2
      go_roundw
      case rel =>
        obtain ⟨r1, r2, r3, r4, r5⟩ := HF.out
        exact ⟨p, rfl, by rw [HN.out], hp1.out, by have := HB.out; omega, r1.store7 (wd (glue r i ((X + M - p * d) % M))), r2.past7 (by omega) _ _ _ _ _ _ _, r3.past7 (by omega) _ _ _ _ _ _ _, below7 r4 (by omega) _ _ _ _ _ _ _, by rw [size7]; exact r5⟩
      case measure => simp [RowKit.intOf] <;> omega
    · have hc : decide (X < o' * d) = false := decide_eq_false c
      obtain ⟨h1, h2, h3, h4, h5⟩ := HX.out
      obtain ⟨m1, m2⟩ := mended X d o' M h2 (by omega) hge (by omega)
      rw [m2] at a0 a1 a2 a3 a4 a5 a6
      rw [hc, m1]
      obtain ⟨z0, z1, z2, z3, z4, z5, z6⟩ := q3.writes7
      obtain ⟨y0, y1, y2, y3, y4, y5, y6⟩ := q3.reads7
      have HW : Hid _ := q4
      clear h1 h2 h3 h4 h5 m1 m2 hge hle q1 q2 q3 q4 q5 c hc
      generalize hQ : X / d = Q
      generalize hR : glue r i (X % d) = R at a0 a1 a2 a3 a4 a5 a6 ⊢
      have HQ : Hid _ := hQ
      have HR : Hid _ := hR
      clear hQ hR
      go_wp2
      go_region
      go_wp2
      refine bodyPost_ret (v := .tuple #[.int .u64 (Q : Nat), L7 R]) ?_ rfl ⟨by rw [HQ.out, HR.out], ?_⟩
      · simp [results, Tryd.results39, go_sem, *]
      · exact (below7 HW.out (by omega) _ _ _ _ _ _ _).drew
end Go.Proofs.YtbbocdamhkkiiaaDoor
end
section
namespace Go.Proofs.YtbbocdamhkkiiaaDoor
open Go.RowKit Go.Lib
set_option maxHeartbeats 400000 in
set_option maxRecDepth 100000 in
theorem add_any (a b : Nat) (ha : a < big) (hb : b < big) (w : World) :
    Calls Tryd.prog 27 #[N a, N b] w fun e w' => e = .returned (.tuple #[N ((a + b) % big), .bool (decide (big ≤ a + b))]) ∧ Below w.heap.size w w' := by
  have hend := cry_end a b ha hb
  have He : Hid ((cry a b 6 != 0) = decide (big ≤ a + b)) := hend
  clear hend ha hb
  go_enter Tryd.func27, Tryd.ntmps27
  go_wp2
  go_loopw [7, 9] (fun c i wr => ∃ k : Nat, k ≤ 6 ∧ i = .int .i64 k ∧ c = .int .u64 (cry a b k) ∧ Row wr w.heap.size 6 (wd a) ∧ Row wr (w.heap.size + 1) 6 (wd b) ∧ Row wr (w.heap.size + 1 + 1) 6 (fun _ => 0) ∧ Row wr (w.heap.size + 1 + 1 + 1) 6 (part (a + b) k) ∧ Below w.heap.size w wr) (fun _ i _ => 6 - (RowKit.intOf i).toNat)
  case atStart =>
    refine ⟨0, by omega, rfl, by simp [cry], ?_, ?_, ?_, ?_, ?_⟩
    · exact (((Row.new w _ 24 rfl (six_lt rfl)).alloc (by simp <;> omega) _).alloc (by simp <;> omega) _).alloc (by simp <;> omega) _
    · exact ((Row.new _ _ 24 (by simp <;> omega) (six_lt rfl)).alloc (by simp <;> omega) _).alloc (by simp <;> omega) _
    · exact (Row.new _ _ 24 (by simp <;> omega) (six_lt (f := fun _ => 0) rfl)).alloc (by simp <;> omega) _
    · exact Row.new _ _ 24 (by simp <;> omega) (six_lt (f := part (a + b) 0) rfl)
    · exact ((((Below.refl _ _).alloc (Nat.le_refl _) _).alloc (by simp <;> omega) _).alloc (by simp <;> omega) _).alloc (by simp <;> omega) _
  case round =>
    obtain ⟨k, hk, rfl, rfl, hA, hB, hZ, hS, hw⟩ := hrel
    by_cases hlt : k < 6
    · obtain ⟨hc0, hc1⟩ := cry_bd a b k
      have ha0 := (wd_bd a k).1
      have hb0 := (wd_bd b k).1
      have hA1 := (hA k hlt).1
      have hB1 := (hB k hlt).1
      obtain ⟨hS1, hS2⟩ := hS k hlt
      have h64 := fun w => add64' (wd a k) (wd b k) (cry a b k) ha0 hb0 hc0 hc1 w
      have r1 : Row wr w.heap.size 6 (wd a) ∧ Row wr (w.heap.size + 1) 6 (wd b) ∧ Row wr (w.heap.size + 1 + 1) 6 (fun _ => 0) ∧ Row wr (w.heap.size + 1 + 1 + 1) 6 (part (a + b) k) ∧ Below w.heap.size w wr := ⟨hA, hB, hZ, hS, hw⟩
      have R1 : Hid _ := r1
      clear hA hB hZ hS hw r1
      go_wp2
      go_region
      go_wp2
      go_roundw
      case rel =>
        obtain ⟨hA, hB, hZ, hS, hw⟩ := R1.out
        exact ⟨k + 1, by omega, by go_num, by rw [add_cry], (hA.set_other _ (by simp <;> omega)).drew, (hB.set_other _ (by simp <;> omega)).drew, (hZ.set_other _ (by simp <;> omega)).drew, ((hS.set _).congr (fun j _ => part_step (add_word a b k) j)).drew, (hw.setCell (by simp <;> omega) _).drew⟩
      case measure => simp [RowKit.intOf]; omega
    · have hk6 : k = 6 := by omega
      subst hk6
      obtain ⟨s0, s1, s2, s3, s4, s5⟩ := (hS.congr (f' := wd ((a + b) % big)) (fun j hj => by rw [part_lt hj, wd_mod _ _ hj])).reads
      obtain ⟨z0, z1, z2, z3, z4, z5⟩ := hZ.writes
      obtain ⟨y0, y1, y2, y3, y4, y5⟩ := hZ.reads
      clear hA hB hZ hS
      go_wp2
      rw [He.out]
      exact bodyPost_ret (v := .tuple #[N ((a + b) % big), .bool (decide (big ≤ a + b))]) (by simp [results, Tryd.results27, go_sem, *]) rfl ⟨rfl, (((((hw.setCell (by simp <;> omega) _).setCell (by simp <;> omega) _).setCell (by simp <;> omega) _).setCell (by simp <;> omega) _).setCell (by simp <;> omega) _).setCell (by simp <;> omega) _⟩
set_option maxHeartbeats 400000 in
set_option maxRecDepth 100000 in
theorem sub_any (a b : Nat) (ha : a < big) (hb : b < big) (w : World) :
    Calls Tryd.prog 29 #[N a, N b] w fun e w' => e = .returned (.tuple #[N ((a + big - b) % big), .bool (decide (a < b))]) ∧ Below w.heap.size w w' := by
  have hend := brw_end a b ha hb
  have He : Hid ((brw a b 6 != 0) = decide (a < b)) := hend
  have HB : Hid (b < big) := hb
  clear hend ha hb
  go_enter Tryd.func29, Tryd.ntmps29
  go_wp2
  go_loopw [7, 9] (fun c i wr => ∃ k : Nat, k ≤ 6 ∧ i = .int .i64 k ∧ c = .int .u64 (brw a b k) ∧ Row wr w.heap.size 6 (wd a) ∧ Row wr (w.heap.size + 1) 6 (wd b) ∧ Row wr (w.heap.size + 1 + 1) 6 (fun _ => 0) ∧ Row wr (w.heap.size + 1 + 1 + 1) 6 (part (a + big - b) k) ∧ Below w.heap.size w wr) (fun _ i _ => 6 - (RowKit.intOf i).toNat)
  case atStart =>
    refine ⟨0, by omega, rfl, by simp [brw, Nat.mod_one], ?_, ?_, ?_, ?_, ?_⟩
    · exact (((Row.new w _ 24 rfl (six_lt rfl)).alloc (by simp <;> omega) _).alloc (by simp <;> omega) _).alloc (by simp <;> omega) _
    · exact ((Row.new _ _ 24 (by simp <;> omega) (six_lt rfl)).alloc (by simp <;> omega) _).alloc (by simp <;> omega) _
    · exact (Row.new _ _ 24 (by simp <;> omega) (six_lt (f := fun _ => 0) rfl)).alloc (by simp <;> omega) _
    · exact Row.new _ _ 24 (by simp <;> omega) (six_lt (f := part (a + big - b) 0) rfl)
    · exact ((((Below.refl _ _).alloc (Nat.le_refl _) _).alloc (by simp <;> omega) _).alloc (by simp <;> omega) _).alloc (by simp <;> omega) _
  case round =>
    obtain ⟨k, hk, rfl, rfl, hA, hB, hZ, hS, hw⟩ := hrel
    by_cases hlt : k < 6
    · obtain ⟨hc0, hc1⟩ := brw_bd a b k
      have ha0 := (wd_bd a k).1
      have hb0 := (wd_bd b k).1
      have hb1 := (wd_bd b k).2
      have hA1 := (hA k hlt).1
      have hB1 := (hB k hlt).1
      obtain ⟨hS1, hS2⟩ := hS k hlt
      have h64 := fun w => sub64' (wd a k) (wd b k) (brw a b k) ha0 hb0 hb1 hc0 hc1 w
      clear hb1
      have r1 : Row wr w.heap.size 6 (wd a) ∧ Row wr (w.heap.size + 1) 6 (wd b) ∧ Row wr (w.heap.size + 1 + 1) 6 (fun _ => 0) ∧ Row wr (w.heap.size + 1 + 1 + 1) 6 (part (a + big - b) k) ∧ Below w.heap.size w wr := ⟨hA, hB, hZ, hS, hw⟩
      have R1 : Hid _ := r1
      clear hA hB hZ hS hw r1
      go_wp2
      go_region
      go_wp2
      go_roundw
      case rel =>
        obtain ⟨hA, hB, hZ, hS, hw⟩ := R1.out
        have hbb := HB.out
        exact ⟨k + 1, by omega, by go_num, by rw [sub_cry], (hA.set_other _ (by simp <;> omega)).drew, (hB.set_other _ (by simp <;> omega)).drew, (hZ.set_other _ (by simp <;> omega)).drew, ((hS.set _).congr (fun j _ => part_step (sub_word a b k hlt hbb) j)).drew, (hw.setCell (by simp <;> omega) _).drew⟩
      case measure => simp [RowKit.intOf]; omega
    · have hk6 : k = 6 := by omega
      subst hk6
      obtain ⟨s0, s1, s2, s3, s4, s5⟩ := (hS.congr (f' := wd ((a + big - b) % big)) (fun j hj => by rw [part_lt hj, wd_mod _ _ hj])).reads
      obtain ⟨z0, z1, z2, z3, z4, z5⟩ := hZ.writes
      obtain ⟨y0, y1, y2, y3, y4, y5⟩ := hZ.reads
      clear hA hB hZ hS
      go_wp2
      rw [He.out]
      exact bodyPost_ret (v := .tuple #[N ((a + big - b) % big), .bool (decide (a < b))]) (by simp [results, Tryd.results29, go_sem, *]) rfl ⟨rfl, (((((hw.setCell (by simp <;> omega) _).setCell (by simp <;> omega) _).setCell (by simp <;> omega) _).setCell (by simp <;> omega) _).setCell (by simp <;> omega) _).setCell (by simp <;> omega) _⟩
end Go.Proofs.YtbbocdamhkkiiaaDoor
end
section
namespace Go.Proofs.YtbbocdamhkkiiaaDoor
open Go.RowKit
theorem run_eq6' (D : Nat) (hin : ∀ (a b : Int) (w : World), (Op.equalIn D 22 (.int .u64 a) (.int .u64 b)).run Tryd.prog w = .ok (a == b) w) (x0 x1 x2 x3 x4 x5 y0 y1 y2 y3 y4 y5 : Int) (w : World) :
    (Op.equalIn (D + 1) 24 (.agg #[.int .u64 x0, .int .u64 x1, .int .u64 x2, .int .u64 x3, .int .u64 x4, .int .u64 x5]) (.agg #[.int .u64 y0, .int .u64 y1, .int .u64 y2, .int .u64 y3, .int .u64 y4, .int .u64 y5])).run Tryd.prog w =
      .ok (x0 == y0 && (x1 == y1 && (x2 == y2 && (x3 == y3 && (x4 == y4 && x5 == y5))))) w := by
  have h24 : Tryd.prog.underlying 24 = some (.array 6 22) := by kernel_rfl
  have hsz : ∀ w, (sizeOf 22).run Tryd.prog w = .ok 1 w := fun w => by kernel_rfl
  have hp : ∀ (a b c d e f : Int) (w : World), (Go.part 22 #[.int .u64 a, .int .u64 b, .int .u64 c, .int .u64 d, .int .u64 e, .int .u64 f] 0).run Tryd.prog w = .ok (.int .u64 a) w ∧ (Go.part 22 #[.int .u64 a, .int .u64 b, .int .u64 c, .int .u64 d, .int .u64 e, .int .u64 f] 1).run Tryd.prog w = .ok (.int .u64 b) w ∧ (Go.part 22 #[.int .u64 a, .int .u64 b, .int .u64 c, .int .u64 d, .int .u64 e, .int .u64 f] 2).run Tryd.prog w = .ok (.int .u64 c) w ∧ (Go.part 22 #[.int .u64 a, .int .u64 b, .int .u64 c, .int .u64 d, .int .u64 e, .int .u64 f] 3).run Tryd.prog w = .ok (.int .u64 d) w ∧ (Go.part 22 #[.int .u64 a, .int .u64 b, .int .u64 c, .int .u64 d, .int .u64 e, .int .u64 f] 4).run Tryd.prog w = .ok (.int .u64 e) w ∧ (Go.part 22 #[.int .u64 a, .int .u64 b, .int .u64 c, .int .u64 d, .int .u64 e, .int .u64 f] 5).run Tryd.prog w = .ok (.int .u64 f) w := fun a b c d e f w => ⟨by kernel_rfl, by kernel_rfl, by kernel_rfl, by kernel_rfl, by kernel_rfl, by kernel_rfl⟩
  simp only [Op.equalIn, Sem.run_bind, run_underlying h24, Result.andThen_ok, hsz]
  simp [Std.Legacy.Range.forIn_eq_forIn_range', List.range', List.forIn_cons, hin, hp]
  repeat' split
  all_goals simp_all
theorem run_eq6 (x0 x1 x2 x3 x4 x5 y0 y1 y2 y3 y4 y5 : Int) (w : World) :
    (Op.equalIn 10000 24 (.agg #[.int .u64 x0, .int .u64 x1, .int .u64 x2, .int .u64 x3, .int .u64 x4, .int .u64 x5]) (.agg #[.int .u64 y0, .int .u64 y1, .int .u64 y2, .int .u64 y3, .int .u64 y4, .int .u64 y5])).run Tryd.prog w =
      .ok (x0 == y0 && (x1 == y1 && (x2 == y2 && (x3 == y3 && (x4 == y4 && x5 == y5))))) w :=
  run_eq6' 9999 (fun a b w => run_equalIn_int w 9998 22 .u64 .u64 a b (by kernel_rfl)) x0 x1 x2 x3 x4 x5 y0 y1 y2 y3 y4 y5 w
theorem num_ext' (a b : Nat) : ∀ m, (∀ j, j < m → wd a j = wd b j) → a % 2 ^ (64 * m) = b % 2 ^ (64 * m) := by
  intro m
  induction m with
  | zero => intro _; rw [Nat.mul_zero, Nat.pow_zero, Nat.mod_one, Nat.mod_one]
  | succ m ih =>
    intro h
    have h2 : wn a m = wn b m := Int.ofNat.inj (h m (by omega))
    rw [mod_step, mod_step, ih (fun j hj => h j (by omega)), h2]
theorem num_ext (a b : Nat) (ha : a < big) (hb : b < big) (h : ∀ j, j < 6 → wd a j = wd b j) : a = b := by
  have h2 := num_ext' a b 6 h
  rw [← big_eq, Nat.mod_eq_of_lt ha, Nat.mod_eq_of_lt hb] at h2
  exact h2
theorem num_eq (a b : Nat) (ha : a < big) (hb : b < big) : (wd a 0 == wd b 0 && (wd a 1 == wd b 1 && (wd a 2 == wd b 2 && (wd a 3 == wd b 3 && (wd a 4 == wd b 4 && wd a 5 == wd b 5))))) = decide (a = b) := by
  by_cases h : a = b
  · subst h; simp
  · rw [decide_eq_false h]
    apply Bool.eq_false_iff.2
    intro hh
    simp only [Bool.and_eq_true, beq_iff_eq] at hh
    obtain ⟨h0, h1, h2, h3, h4, h5⟩ := hh
    apply h
    apply num_ext a b ha hb
    intro j hj
    match j, hj with
    | 0, _ => exact h0
    | 1, _ => exact h1
    | 2, _ => exact h2
    | 3, _ => exact h3
    | 4, _ => exact h4
    | 5, _ => exact h5
theorem run_eqN (a b : Nat) (ha : a < big) (hb : b < big) (w : World) :
    (Op.equalIn 10000 24 (N a) (N b)).run Tryd.prog w = .ok (decide (a = b)) w := by rw [run_eq6, num_eq a b ha hb]
theorem big_pos : 0 < big := by rw [big_eq]; exact pow_pos' 6
theorem run_eqZ (a : Nat) (ha : a < big) (w : World) :
    (Op.equalIn 10000 24 (N a) (.agg #[.int .u64 0, .int .u64 0, .int .u64 0, .int .u64 0, .int .u64 0, .int .u64 0])).run Tryd.prog w = .ok (decide (a = 0)) w := by
  have h := run_eqN a 0 ha big_pos w
  unfold N at h
  simp only [wd_zero] at h
  exact h
theorem wd_small (n j : Nat) (hn : n < 18446744073709551616) : wd n (j + 1) = 0 := wd_top' n 1 (j + 1) (by simpa using hn) (by omega)
theorem wd_small0 (n : Nat) (hn : n < 18446744073709551616) : wd n 0 = n := by unfold wd; rw [Nat.mul_zero, Nat.pow_zero, Nat.div_one, Nat.mod_eq_of_lt hn]
set_option maxHeartbeats 400000 in
theorem of_any (n : Nat) (hn : n < 18446744073709551616) (w : World) :
    Calls Tryd.prog 19 #[.int .u64 n] w fun e w' => e = .returned (N n) ∧ Below w.heap.size w w' := by
  have h1 : wd n 1 = 0 := wd_small n 0 hn
  have h2 : wd n 2 = 0 := wd_small n 1 hn
  have h3 : wd n 3 = 0 := wd_small n 2 hn
  have h4 : wd n 4 = 0 := wd_small n 3 hn
  have h5 : wd n 5 = 0 := wd_small n 4 hn
  have h0 := wd_small0 n hn
  unfold N
  rw [h0, h1, h2, h3, h4, h5]
  clear h0 h1 h2 h3 h4 h5 hn
  go_enter Tryd.func19, Tryd.ntmps19
  go_wp2
  refine bodyPost_ret (v := .agg #[.int .u64 n, .int .u64 0, .int .u64 0, .int .u64 0, .int .u64 0, .int .u64 0]) ?_ rfl ⟨rfl, ?_⟩
  · simp [results, Tryd.results19, go_sem]
  · exact (Below.refl _ _).alloc (Nat.le_refl _) _
/-- What Compare tells. -/
def cmpv (a b : Nat) : Int := if a = b then 0 else if a < b then -1 else 1
set_option maxHeartbeats 400000 in
set_option maxRecDepth 100000 in
theorem compare_any (a b : Nat) (ha : a < big) (hb : b < big) (w : World) :
    Calls Tryd.prog 21 #[N a, N b] w fun e w' => e = .returned (.int .i64 (cmpv a b)) ∧ Below w.heap.size w w' := by
  have he := fun w => run_eqN a b ha hb w
  have hs := fun w => sub_any a b ha hb w
  have HS : Hid _ := hs
  clear hs ha hb
  unfold cmpv
  by_cases c : a = b
  · have hd : decide (a = b) = true := decide_eq_true c
    rw [if_pos c]
    simp only [hd] at he
    clear c hd
    go_enter Tryd.func21, Tryd.ntmps21
    go_wp2
    go_ret
    exact ⟨rfl, ((Below.refl _ _).alloc (Nat.le_refl _) _).alloc (by first | omega | (simp <;> omega)) _⟩
  · have hd : decide (a = b) = false := decide_eq_false c
    rw [if_neg c]
    simp only [hd] at he
    clear c hd
    by_cases c2 : a < b
    · rw [if_pos c2]
      have hd2 : decide (a < b) = true := decide_eq_true c2
      simp only [hd2] at HS
      clear hd2 c2
      go_enter Tryd.func21, Tryd.ntmps21
      go_wp2_with fail
      refine (HS.out _).mono ?_
      rintro e w1 ⟨rfl, hb1⟩
      go_wp2
      go_ret
      refine ⟨rfl, ?_⟩
      exact (((((Below.refl _ _).alloc (Nat.le_refl _) _).alloc (by first | omega | (simp <;> omega)) _).trans (hb1.mono (by simp <;> omega))).alloc (by have := hb1.size; simp at this; omega) _)
    · rw [if_neg c2]
      have hd2 : decide (a < b) = false := decide_eq_false c2
      simp only [hd2] at HS
      clear hd2 c2
      go_enter Tryd.func21, Tryd.ntmps21
      go_wp2_with fail
      refine (HS.out _).mono ?_
      rintro e w1 ⟨rfl, hb1⟩
      go_wp2
      go_ret
      refine ⟨rfl, ?_⟩
      exact (((((Below.refl _ _).alloc (Nat.le_refl _) _).alloc (by first | omega | (simp <;> omega)) _).trans (hb1.mono (by simp <;> omega))).alloc (by have := hb1.size; simp at this; omega) _)
end Go.Proofs.YtbbocdamhkkiiaaDoor
end
section
namespace Go.Proofs.YtbbocdamhkkiiaaDoor
open Go.RowKit
theorem exec_eq6 {ρ : Operand → Value} {o : Oper} {i j : Tmp} {v v' : Nat} {t : Bool} {w : World} (he : ∀ w, (Op.equalIn 10000 24 (N v) (N v')).run Tryd.prog w = .ok t w) (ho : o.op = .binOp .eql 24 (.tmp i) (.tmp j) 24) (hx : ρ (.tmp i) = N v) (hy : ρ (.tmp j) = N v') :
    (execOp ρ o).run Tryd.prog w = .ok (.value (.bool t)) w := by
  simp only [execOp, ho, hx, hy]
  clear hx hy
  go_simp
theorem exec_neq6 {ρ : Operand → Value} {o : Oper} {i j : Tmp} {v v' : Nat} {t : Bool} {w : World} (he : ∀ w, (Op.equalIn 10000 24 (N v) (N v')).run Tryd.prog w = .ok t w) (ho : o.op = .binOp .neq 24 (.tmp i) (.tmp j) 24) (hx : ρ (.tmp i) = N v) (hy : ρ (.tmp j) = N v') :
    (execOp ρ o).run Tryd.prog w = .ok (.value (.bool !t)) w := by
  simp only [execOp, ho, hx, hy]
  clear hx hy
  go_simp
end Go.Proofs.YtbbocdamhkkiiaaDoor
end
section
namespace Go.Proofs.YtbbocdamhkkiiaaDoor
open Go.RowKit
namespace Rg
/-- The blocks of the list are there, apart from each other, and hold these cells. -/
structure Mm (w : World) (l : List (Nat × List Value)) : Prop where
  blk : ∀ p ∈ l, p.1 < w.heap.size ∧ Blk w p.1 p.2
  nd : l.Pairwise (fun a b => a.1 ≠ b.1)
theorem Mm.nil (w : World) : Mm w [] := ⟨fun p h => absurd h (by simp), List.Pairwise.nil⟩
theorem Mm.below {w w1 : World} {l : List (Nat × List Value)} (h : Mm w l) (hb : Below w.heap.size w w1) : Mm w1 l :=
  ⟨fun p hp => ⟨Nat.lt_of_lt_of_le (h.blk p hp).1 hb.size, (h.blk p hp).2.below hb (h.blk p hp).1⟩, h.nd⟩
theorem Mm.drew {w : World} {l : List (Nat × List Value)} (h : Mm w l) : Mm w.drew l := h.below (Below.refl _ _).drew
theorem Mm.cons {w : World} {l : List (Nat × List Value)} (h : Mm w l) {g : Nat} {cs : List Value} (hb : Blk w g cs) (hg : g < w.heap.size) (hn : ∀ p ∈ l, p.1 ≠ g) : Mm w ((g, cs) :: l) :=
  ⟨fun p hp => by
    rcases List.mem_cons.1 hp with e | hp
    · subst e; exact ⟨hg, hb⟩
    · exact h.blk p hp, List.Pairwise.cons (fun p hp => (hn p hp).symm) h.nd⟩
theorem Mm.alloc {w : World} {l : List (Nat × List Value)} (h : Mm w l) (cs : List Value) (t : TypeId) {g : Nat} (hg : g = w.heap.size) : Mm (w.alloc (.cells cs.toArray t)) ((g, cs) :: l) := by
  subst hg
  exact (h.below ((Below.refl _ _).alloc (Nat.le_refl _) _)).cons (Blk.new w cs t) (by simp) (fun p hp => by have := (h.blk p hp).1; omega)
theorem Mm.sub {w : World} {l l' : List (Nat × List Value)} (h : Mm w l) (hs : l'.Sublist l) : Mm w l' := ⟨fun p hp => h.blk p (hs.subset hp), h.nd.sublist hs⟩
theorem Mm.tail {w : World} {p : Nat × List Value} {l : List (Nat × List Value)} (h : Mm w (p :: l)) : Mm w l := h.sub (List.sublist_cons_self _ _)
theorem Mm.cell {w : World} {l : List (Nat × List Value)} (h : Mm w l) {g : Nat} {cs : List Value} (hm : (g, cs) ∈ l) {k : Nat} {v : Value} (hk : cs[k]? = some v) : w.cell? ⟨g, k, none⟩ = some v := ((h.blk _ hm).2 k v hk).1
theorem Mm.free {w : World} {l : List (Nat × List Value)} (h : Mm w l) {g : Nat} {cs : List Value} (hm : (g, cs) ∈ l) {k : Nat} {v : Value} (hk : cs[k]? = some v) : w.frozen? ⟨g, k, none⟩ = false := ((h.blk _ hm).2 k v hk).2
theorem Mm.lt {w : World} {l : List (Nat × List Value)} (h : Mm w l) {g : Nat} {cs : List Value} (hm : (g, cs) ∈ l) : g < w.heap.size := (h.blk _ hm).1
/-! What a region leaves. -/
def laidOn (i : Nat) : List Kind → Option (List Value)
  | [] => none
  | (Sum.inr (Sum.inr (Sum.inr (Sum.inr (Sum.inl (j, _, cs)))))) :: r => if j = i then some cs else laidOn i r
  | _ :: r => laidOn i r
def fin (ks : List Kind) (i : Nat) : List Value := match laidOn i ks with | some cs => cs | none => (fresh ks i).getD []
theorem laidOn_some {i : Nat} {cs : List Value} : ∀ {ks : List Kind}, laidOn i ks = some cs → ∃ (s : Nat) (zs : List Value), ks[s]? = some (.laid i zs cs)
  | [], h => by cases h
  | k :: r, h => by
    cases k using Kind.each with
    | laid j zs cs' =>
      unfold laidOn at h
      split at h
      · rename_i e
        injection h with h
        subst h e
        exact ⟨0, zs, rfl⟩
      · obtain ⟨s, z, hs⟩ := laidOn_some h
        exact ⟨s + 1, z, hs⟩
    | _ =>
      obtain ⟨s, z, hs⟩ := laidOn_some (ks := r) h
      exact ⟨s + 1, z, hs⟩
theorem laidOn_none {i : Nat} : ∀ {ks : List Kind}, laidOn i ks = none → ∀ (s : Nat) (zs cs : List Value), ks[s]? ≠ some (.laid i zs cs)
  | [], _ => fun _ _ _ h => by simp at h
  | k :: r, h => by
    intro s zs cs hs
    have hr : laidOn i r = none := by
      cases k using Kind.each with
      | laid j z c => unfold laidOn at h; split at h <;> first | cases h | exact h
      | _ => exact h
    cases s with
    | zero =>
      simp at hs
      subst hs
      unfold laidOn at h
      rw [if_pos rfl] at h
      cases h
    | succ s => exact laidOn_none hr s zs cs (by simpa using hs)
theorem Mem.fin {ks : List Kind} {w₀ w : World} {l : Array Bool} {γ : Nat → Nat} (h : Mem ks w₀ l γ w) {p : Nat} (hp : ks.length ≤ p) (hl : ∀ i, i < p → l.getD i false = true) {i : Nat} (hi : (fresh ks i).isSome = true) :
    Blk w (γ i) (fin ks i) ∧ w₀.heap.size ≤ γ i ∧ γ i < w.heap.size := by
  obtain ⟨zs, hz⟩ := Option.isSome_iff_exists.1 hi
  have hlt : ∀ (s : Nat) (k : Kind), ks[s]? = some k → l.getD s false = true := fun s k hs => hl s (by have := (List.getElem?_eq_some_iff.1 hs).1; omega)
  have hil : l.getD i false = true := by
    unfold fresh at hz
    cases hk : ks[i]? with
    | none => rw [hk] at hz; cases hz
    | some k => exact hlt i k hk
  refine ⟨?_, h.made i zs hz hil⟩
  unfold Rg.fin
  cases hL : laidOn i ks with
  | some cs =>
    obtain ⟨s, z, hs⟩ := laidOn_some hL
    exact (h.full s i z cs hs (hlt s _ hs)).1
  | none =>
    rw [hz]
    exact h.raw i zs hz hil (fun s z c hs => absurd hs (laidOn_none hL s z c))
/-- The blocks that a region made, beside those that were there. -/
theorem Mm.grow {ks : List Kind} {w₀ w : World} {l : Array Bool} {γ : Nat → Nat} {L : List (Nat × List Value)} (hm : Mm w₀ L) (h : Mem ks w₀ l γ w) {p : Nat} (hp : ks.length ≤ p) (hl : ∀ i, i < p → l.getD i false = true) :
    ∀ (is : List Nat), (is.all fun i => (fresh ks i).isSome) = true → is.Pairwise (· ≠ ·) → Mm w (is.map (fun i => (γ i, fin ks i)) ++ L)
  | [], _, _ => hm.below h.below
  | i :: is, ha, hn => by
    simp only [List.all_cons, Bool.and_eq_true] at ha
    have ih := Mm.grow hm h hp hl is ha.2 (List.Pairwise.of_cons hn)
    obtain ⟨h1, h2, h3⟩ := h.fin hp hl ha.1
    refine ih.cons h1 h3 (fun q hq => ?_)
    rcases List.mem_append.1 hq with hq | hq
    · obtain ⟨j, hj, e⟩ := List.mem_map.1 hq
      subst e
      have hjs := List.all_eq_true.1 ha.2 j hj
      obtain ⟨zi, hzi⟩ := Option.isSome_iff_exists.1 ha.1
      obtain ⟨zj, hzj⟩ := Option.isSome_iff_exists.1 hjs
      have hlist : ∀ {x : Nat} {z : List Value}, fresh ks x = some z → l.getD x false = true := fun {x z} hx => by
        unfold fresh at hx
        cases hk : ks[x]? with
        | none => rw [hk] at hx; cases hx
        | some k => exact hl x (by have := (List.getElem?_eq_some_iff.1 hk).1; omega)
      exact h.apart j i zj zi hzj hzi (hlist hzj) (hlist hzi) (fun e => (List.rel_of_pairwise_cons hn hj) e.symm)
    · have := (hm.blk q hq).1
      omega
/-- A store into a block of the list. -/
def patch (cs : List Value) (off : Nat) (vs : List Value) : List Value := cs.take off ++ vs ++ cs.drop (off + vs.length)
theorem patch_get (cs : List Value) (off : Nat) (vs : List Value) (h : off + vs.length ≤ cs.length) (k : Nat) : (patch cs off vs)[k]? = if off ≤ k ∧ k < off + vs.length then vs[k - off]? else cs[k]? := by
  unfold patch
  by_cases h1 : k < off
  · rw [if_neg (by omega), List.append_assoc, List.getElem?_append_left (by simp; omega), List.getElem?_take, if_pos h1]
  · by_cases h2 : k < off + vs.length
    · rw [if_pos ⟨by omega, h2⟩, List.append_assoc, List.getElem?_append_right (by simp; omega), List.getElem?_append_left (by simp; omega)]
      congr 1
      simp; omega
    · rw [if_neg (by omega), List.getElem?_append_right (by simp; omega), List.getElem?_drop]
      congr 1
      simp; omega
theorem Blk.patch {w : World} {g : Nat} {cs : List Value} (h : Blk w g cs) (off : Nat) (vs : List Value) (hl : off + vs.length ≤ cs.length) : Blk (w.setCells g off vs) g (patch cs off vs) := fun j v hv => by
  rw [patch_get _ _ _ hl] at hv
  split at hv
  · rename_i hj
    have hz : cs[j]? = some (cs[j]'(by omega)) := List.getElem?_eq_getElem _
    refine ⟨?_, by rw [World.frozen?_setCells]; exact (h j _ hz).2⟩
    have := World.cell?_setCells_in g vs off w (fun i hi => by
      have := (h (off + i) _ (List.getElem?_eq_getElem (show off + i < cs.length by omega))).1
      rw [this]; rfl) (j - off) (by omega)
    rw [show off + (j - off) = j by omega] at this
    rw [this]
    obtain ⟨h1, h2⟩ := List.getElem?_eq_some_iff.1 hv
    rw [← h2]
  · rename_i hj
    exact ⟨by rw [World.cell?_setCells_out g vs off w _ (fun _ => by simp; omega)]; exact (h j v hv).1, by rw [World.frozen?_setCells]; exact (h j v hv).2⟩
theorem Blk.apart {w : World} {g g' off : Nat} {cs vs : List Value} (h : Blk w g cs) (hg : g ≠ g') : Blk (w.setCells g' off vs) g cs := fun j v hv =>
  ⟨by rw [World.cell?_setCells_out g' vs off w _ (fun e => absurd e hg)]; exact (h j v hv).1, by rw [World.frozen?_setCells]; exact (h j v hv).2⟩
theorem Mm.put {w : World} {l : List (Nat × List Value)} (h : Mm w l) (k : Nat) {g off : Nat} {cs vs : List Value} (hk : l[k]? = some (g, cs)) (hl : off + vs.length ≤ cs.length) : Mm (w.setCells g off vs) (l.set k (g, patch cs off vs)) := by
  have hkl : k < l.length := (List.getElem?_eq_some_iff.1 hk).1
  have hke : l[k] = (g, cs) := (List.getElem?_eq_some_iff.1 hk).2
  have hpw := List.pairwise_iff_getElem.1 h.nd
  refine ⟨fun p hp => ?_, ?_⟩
  · rw [size_setCells]
    obtain ⟨j, hj, e⟩ := List.getElem_of_mem hp
    rw [List.getElem_set] at e
    have hj' : j < l.length := by simpa using hj
    split at e
    · subst e
      have := h.blk _ (List.mem_of_getElem? hk)
      exact ⟨this.1, Blk.patch this.2 off vs hl⟩
    · rename_i hne
      subst e
      have := h.blk _ (List.getElem_mem hj')
      refine ⟨this.1, Blk.apart this.2 ?_⟩
      rcases Nat.lt_or_ge j k with h' | h'
      · have := hpw j k hj' hkl h'
        rw [hke] at this
        exact this
      · have := hpw k j hkl hj' (by omega)
        rw [hke] at this
        exact this.symm
  · refine List.pairwise_iff_getElem.2 fun i j hi hj hij => ?_
    have hi' : i < l.length := by simpa using hi
    have hj' : j < l.length := by simpa using hj
    have := hpw i j hi' hj' hij
    rw [List.getElem_set, List.getElem_set]
    split
    · rename_i e1
      subst e1
      rw [if_neg (by omega)]
      rw [hke] at this
      exact this
    · split
      · rename_i e2
        subst e2
        rw [hke] at this
        exact this
      · exact this
end Rg
end Go.Proofs.YtbbocdamhkkiiaaDoor
end
section
namespace Go.Proofs.YtbbocdamhkkiiaaDoor
open Go.RowKit
/-- What is carried out of the lowest j words of S + x b. -/
def cc (S x b j : Nat) : Nat := (S % 2 ^ (64 * j) + x * (b % 2 ^ (64 * j))) / 2 ^ (64 * j)
theorem cc_zero (S x b : Nat) : cc S x b 0 = 0 := by simp [cc, Nat.mod_one]
theorem cc_core (S x b Q : Nat) (hQ : 0 < Q) :
    (S % (Q * 18446744073709551616) + x * (b % (Q * 18446744073709551616))) / (Q * 18446744073709551616) = (x * (b / Q % 18446744073709551616) + S / Q % 18446744073709551616 + (S % Q + x * (b % Q)) / Q) / 18446744073709551616 ∧
    (S + x * b) / Q % 18446744073709551616 = (x * (b / Q % 18446744073709551616) + S / Q % 18446744073709551616 + (S % Q + x * (b % Q)) / Q) % 18446744073709551616 := by
  constructor
  · rw [Nat.mod_mul, Nat.mod_mul, ← Nat.div_div_eq_div_mul]
    have e : S % Q + Q * (S / Q % 18446744073709551616) + x * (b % Q + Q * (b / Q % 18446744073709551616)) = (S % Q + x * (b % Q)) + Q * (x * (b / Q % 18446744073709551616) + S / Q % 18446744073709551616) := by
      rw [Nat.mul_add, Nat.mul_add, Nat.mul_left_comm x Q]; omega
    rw [e, Nat.add_mul_div_left _ _ hQ]
    congr 1
    omega
  · have e : S + x * b = (S % Q + x * (b % Q)) + Q * (S / Q + x * (b / Q)) := by
      have h1 := Nat.div_add_mod S Q
      have h2 : x * b = x * (Q * (b / Q)) + x * (b % Q) := by rw [← Nat.mul_add, Nat.div_add_mod]
      rw [Nat.mul_add, Nat.mul_left_comm Q x]; omega
    rw [e, Nat.add_mul_div_left _ _ hQ]
    generalize (S % Q + x * (b % Q)) / Q = c
    have h3 : x * (b / Q) = 18446744073709551616 * (x * (b / Q / 18446744073709551616)) + x * (b / Q % 18446744073709551616) := by
      rw [Nat.mul_left_comm, ← Nat.mul_add, Nat.div_add_mod]
    generalize x * (b / Q) = p at h3 ⊢
    generalize x * (b / Q / 18446744073709551616) = q at h3
    generalize x * (b / Q % 18446744073709551616) = r at h3 ⊢
    omega
theorem cc_lt (S x b j : Nat) (hx : x < 18446744073709551616) : cc S x b j < 18446744073709551616 := by
  unfold cc
  have hq := pow_pos' j
  have h1 := Nat.mod_lt S hq
  have h3 := Nat.mod_lt b hq
  rw [Nat.div_lt_iff_lt_mul hq]
  have h4 : x * (b % 2 ^ (64 * j)) ≤ 18446744073709551615 * 2 ^ (64 * j) := Nat.mul_le_mul (by omega) (by omega)
  generalize 2 ^ (64 * j) = Q at *
  omega
theorem cc_hi (S x b j : Nat) : mulHi (x : Int) (wd b j) (wd S j) (cc S x b j : Nat) = (cc S x b (j + 1) : Nat) := by
  unfold mulHi
  have e := (cc_core S x b _ (pow_pos' j)).1
  unfold cc
  rw [pow_step, e, wd_wn, wd_wn]
  unfold wn
  rw [← Int.natCast_mul, ← Int.natCast_add, ← Int.natCast_add]
  rfl
theorem cc_lo (S x b j : Nat) : mulLo (x : Int) (wd b j) (wd S j) (cc S x b j : Nat) = wd (S + x * b) j := by
  unfold mulLo cc
  have e := (cc_core S x b _ (pow_pos' j)).2
  rw [wd_wn (S + x * b)]
  unfold wn
  rw [e, wd_wn, wd_wn]
  unfold wn
  rw [← Int.natCast_mul, ← Int.natCast_add, ← Int.natCast_add]
  rfl
/-! Congruences. -/
/-- a and b leave the same by n. -/
def Cg (n a b : Nat) : Prop := a % n = b % n
theorem Cg.refl (n a : Nat) : Cg n a a := rfl
theorem Cg.symm {n a b : Nat} (h : Cg n a b) : Cg n b a := Eq.symm h
theorem Cg.trans {n a b c : Nat} (h : Cg n a b) (h' : Cg n b c) : Cg n a c := Eq.trans h h'
theorem Cg.mul {n a b c d : Nat} (h : Cg n a b) (h' : Cg n c d) : Cg n (a * c) (b * d) := by
  unfold Cg at *; rw [Nat.mul_mod, h, h', ← Nat.mul_mod]
theorem Cg.add {n a b c d : Nat} (h : Cg n a b) (h' : Cg n c d) : Cg n (a + c) (b + d) := by
  unfold Cg at *; rw [Nat.add_mod, h, h', ← Nat.add_mod]
theorem Cg.mod (n a : Nat) : Cg n (a % n) a := Nat.mod_mod a n
theorem Cg.mulL {n a b : Nat} (c : Nat) (h : Cg n a b) : Cg n (c * a) (c * b) := (Cg.refl n c).mul h
theorem Cg.mulR {n a b : Nat} (c : Nat) (h : Cg n a b) : Cg n (a * c) (b * c) := h.mul (Cg.refl n c)
theorem Cg.addL {n a b : Nat} (c : Nat) (h : Cg n a b) : Cg n (c + a) (c + b) := (Cg.refl n c).add h
theorem Cg.addR {n a b : Nat} (c : Nat) (h : Cg n a b) : Cg n (a + c) (b + c) := h.add (Cg.refl n c)
theorem Cg.zero (n k : Nat) : Cg n (k * n) 0 := by unfold Cg; rw [Nat.mul_mod_left, Nat.zero_mod]
theorem Cg.pow {n a b : Nat} (h : Cg n a b) (k : Nat) : Cg n (a ^ k) (b ^ k) := by
  induction k with
  | zero => exact Cg.refl _ _
  | succ k ih => rw [Nat.pow_succ, Nat.pow_succ]; exact ih.mul h
theorem Cg.eq_of_lt {n a b : Nat} (h : Cg n a b) (ha : a < n) (hb : b < n) : a = b := by
  unfold Cg at h; rwa [Nat.mod_eq_of_lt ha, Nat.mod_eq_of_lt hb] at h
theorem Cg.eq_mod {n a b : Nat} (h : Cg n a b) (ha : a < n) : a = b % n := by
  unfold Cg at h; rwa [Nat.mod_eq_of_lt ha] at h
/-! A half, by an odd number; what undoes 2^384. -/
def hf (n : Nat) : Nat := (n + 1) / 2
theorem hf_two (n : Nat) (ho : n % 2 = 1) : Cg n (2 * hf n) 1 := by
  have e : 2 * hf n = 1 + n := by unfold hf; omega
  unfold Cg; rw [e, Nat.add_mod_right]
theorem hf_pow (n k : Nat) (ho : n % 2 = 1) : Cg n (2 ^ k * hf n ^ k) 1 := by
  rw [← Nat.mul_pow]
  have := (hf_two n ho).pow k
  rwa [Nat.one_pow] at this
def ri (n : Nat) : Nat := hf n ^ (64 * 6)
theorem ri_big (n : Nat) (ho : n % 2 = 1) : Cg n (big * ri n) 1 := by
  unfold ri; rw [big_eq]
  obtain ⟨k, hk⟩ : ∃ k, k = 64 * 6 := ⟨_, rfl⟩
  rw [← hk]
  exact hf_pow n k ho
/-- What Montgomery's product tells. -/
def mont (n a b : Nat) : Nat := a * b * ri n % n
theorem mont_lt (n a b : Nat) (hn : 0 < n) : mont n a b < n := Nat.mod_lt _ hn
theorem mont_cg (n a b : Nat) : Cg n (mont n a b) (a * b * ri n) := Cg.mod _ _
theorem mont_of (n a b y : Nat) (ho : n % 2 = 1) (h : Cg n (y * big) (a * b)) : Cg n y (mont n a b) := by
  have h1 : Cg n (y * big * ri n) (a * b * ri n) := h.mulR _
  have h2 : Cg n (y * (big * ri n)) (y * 1) := (ri_big n ho).mulL y
  rw [← Nat.mul_assoc, Nat.mul_one] at h2
  exact (h2.symm.trans h1).trans (mont_cg n a b).symm
/-! The rounds. -/
def mt (X wr : Nat) : Nat := X % 18446744073709551616 * wr % 18446744073709551616
theorem mt_lt (X wr : Nat) : mt X wr < 18446744073709551616 := Nat.mod_lt _ (by decide)
def mstep (n wr b S x : Nat) : Nat := (S + x * b + mt (S + x * b) wr * n) / 18446744073709551616
def mrun (n wr a b : Nat) : Nat → Nat
  | 0 => 0
  | i + 1 => mstep n wr b (mrun n wr a b i) (wn a i)
theorem mt_even (n wr X : Nat) (h : wr * n % 18446744073709551616 = 18446744073709551615) : (X + mt X wr * n) % 18446744073709551616 = 0 := by
  have h1 : Cg 18446744073709551616 (mt X wr * n) (X * (wr * n)) := by
    rw [← Nat.mul_assoc]
    exact (((Cg.mod _ _).trans ((Cg.mod _ _).mulR wr))).mulR n
  have h2 : Cg 18446744073709551616 (X * (wr * n)) (X * 18446744073709551615) := Cg.mulL X (by unfold Cg; rw [h])
  have h3 := (h1.trans h2).addL X
  unfold Cg at h3
  rw [h3]
  omega
theorem mstep_mul (n wr b S x : Nat) (h : wr * n % 18446744073709551616 = 18446744073709551615) : mstep n wr b S x * 18446744073709551616 = S + x * b + mt (S + x * b) wr * n := by
  have := mt_even n wr (S + x * b) h
  unfold mstep
  omega
theorem mstep_lt (n wr b S x : Nat) (hS : S < b + n) (hx : x < 18446744073709551616) : mstep n wr b S x < b + n := by
  unfold mstep
  have ht := mt_lt (S + x * b) wr
  rw [Nat.div_lt_iff_lt_mul (by decide)]
  have h1 : x * b ≤ 18446744073709551615 * b := Nat.mul_le_mul_right _ (by omega)
  have h2 : mt (S + x * b) wr * n ≤ 18446744073709551615 * n := Nat.mul_le_mul_right _ (by omega)
  omega
theorem mrun_lt (n wr a b : Nat) (hn : 0 < n) : ∀ i, mrun n wr a b i < b + n
  | 0 => by unfold mrun; omega
  | i + 1 => mstep_lt n wr b _ _ (mrun_lt n wr a b hn i) (wn_lt a i)
theorem mrun_cg (n wr a b : Nat) (h : wr * n % 18446744073709551616 = 18446744073709551615) : ∀ i, Cg n (mrun n wr a b i * 2 ^ (64 * i)) (a % 2 ^ (64 * i) * b)
  | 0 => by
    unfold mrun
    rw [Nat.mul_zero, Nat.pow_zero, Nat.mod_one, Nat.zero_mul, Nat.zero_mul]
    exact Cg.refl _ _
  | i + 1 => by
    have ih := mrun_cg n wr a b h i
    have e : mrun n wr a b (i + 1) * 2 ^ (64 * (i + 1)) = mrun n wr a b i * 2 ^ (64 * i) + wn a i * b * 2 ^ (64 * i) + mt (mrun n wr a b i + wn a i * b) wr * 2 ^ (64 * i) * n := by
      have hm := mstep_mul n wr b (mrun n wr a b i) (wn a i) h
      rw [pow_step, Nat.mul_comm (2 ^ (64 * i)), ← Nat.mul_assoc]
      show mstep n wr b (mrun n wr a b i) (wn a i) * 18446744073709551616 * 2 ^ (64 * i) = _
      rw [hm, Nat.add_mul, Nat.add_mul]
      congr 1
      rw [Nat.mul_assoc, Nat.mul_comm n, ← Nat.mul_assoc]
    rw [e, mod_step, Nat.add_mul]
    have h2 := (ih.addR (wn a i * b * 2 ^ (64 * i))).add (Cg.zero n (mt (mrun n wr a b i + wn a i * b) wr * 2 ^ (64 * i)))
    rw [Nat.add_zero] at h2
    refine h2.trans ?_
    have e3 : wn a i * b * 2 ^ (64 * i) = 2 ^ (64 * i) * wn a i * b := by rw [Nat.mul_comm, ← Nat.mul_assoc]
    rw [e3]
    exact Cg.refl _ _
theorem mrun_end (n wr a b : Nat) (ho : n % 2 = 1) (h : wr * n % 18446744073709551616 = 18446744073709551615) (ha : a < big) : Cg n (mrun n wr a b 6) (mont n a b) := by
  have := mrun_cg n wr a b h 6
  rw [← big_eq, Nat.mod_eq_of_lt ha] at this
  exact mont_of n a b _ ho this
theorem low_cut (n x y : Nat) (h : Cg n x y) (hx : x < n + n) (hy : y < n) : (if x < n then x else x - n) = y := by
  split
  · exact h.eq_of_lt ‹_› hy
  · refine Cg.eq_of_lt (n := n) ?_ (by omega) hy
    refine Cg.trans ?_ h
    unfold Cg
    rw [Nat.mod_eq_sub_mod (a := x) (by omega)]
/-! One round's words. -/
theorem step_word (n wr b S x k : Nat) : wd (mstep n wr b S x) k = wd (S + x * b + mt (S + x * b) wr * n) (k + 1) := by
  unfold mstep wd
  rw [pow_step, Nat.mul_comm (2 ^ (64 * k)), Nat.div_div_eq_div_mul]
theorem big_pos0 : 0 < big := by rw [big_eq]; exact pow_pos' 6
theorem step_top (n wr b S x : Nat) (hS : S < big) (hb : b < big) (hn : n < big) (hr : mstep n wr b S x < big) : (cc S x b 6 + cc (S + x * b) (mt (S + x * b) wr) n 6 : Nat) = wn (mstep n wr b S x) 5 := by
  have e1 : cc S x b 6 = (S + x * b) / big := by unfold cc; rw [← big_eq, Nat.mod_eq_of_lt hS, Nat.mod_eq_of_lt hb]
  have e2 : cc (S + x * b) (mt (S + x * b) wr) n 6 = ((S + x * b) % big + mt (S + x * b) wr * n) / big := by unfold cc; rw [← big_eq, Nat.mod_eq_of_lt hn]
  rw [e1, e2]
  have e3 : mstep n wr b S x = (S + x * b + mt (S + x * b) wr * n) / 18446744073709551616 := rfl
  rw [e3] at hr ⊢
  unfold wn
  obtain ⟨m, hm⟩ : ∃ m, m = 5 := ⟨_, rfl⟩
  have hb' : big = 2 ^ (64 * m) * 18446744073709551616 := by
    rw [big_eq, ← pow_step m]
    have : 6 = m + 1 := by omega
    rw [this]
  rw [← hm]
  generalize mt (S + x * b) wr * n = T at hr ⊢
  generalize S + x * b = X at hr ⊢
  have h1 : (X + T) / 18446744073709551616 / 2 ^ (64 * m) = (X + T) / big := by rw [Nat.div_div_eq_div_mul, hb', Nat.mul_comm]
  have h2 : (X + T) / 18446744073709551616 / 2 ^ (64 * m) < 18446744073709551616 := Nat.div_lt_of_lt_mul (by rw [← hb']; exact hr)
  have h3 : (X + T) / big = X / big + (X % big + T) / big := by
    have h4 := Nat.div_add_mod X big
    have h5 : X + T = (X % big + T) + big * (X / big) := by omega
    rw [h5, Nat.add_mul_div_left _ _ big_pos0]; omega
  rw [Nat.mod_eq_of_lt h2, h1, h3]
end Go.Proofs.YtbbocdamhkkiiaaDoor
end
section
namespace Go.Proofs.YtbbocdamhkkiiaaDoor
open Go.RowKit
namespace Rg
abbrev PT (g off : Nat) : Value := .pointer (some ⟨g, off, none⟩)
theorem six_of {cs : List Value} {off v : Nat} (hc : (cs.drop off).take 6 = cells6 v) : cs[off]? = some (.int .u64 (wd v 0)) ∧ cs[off + 1]? = some (.int .u64 (wd v 1)) ∧ cs[off + 2]? = some (.int .u64 (wd v 2)) ∧ cs[off + 3]? = some (.int .u64 (wd v 3)) ∧ cs[off + 4]? = some (.int .u64 (wd v 4)) ∧ cs[off + 5]? = some (.int .u64 (wd v 5)) := by
  have h : ∀ k, k < 6 → cs[off + k]? = (cells6 v)[k]? := fun k hk => by
    rw [← hc, List.getElem?_take, if_pos hk, List.getElem?_drop]
  exact ⟨h 0 (by decide), h 1 (by decide), h 2 (by decide), h 3 (by decide), h 4 (by decide), h 5 (by decide)⟩
theorem ex_load6 {ρ : Operand → Value} {o : Oper} {x : Operand} {g off v : Nat} {cs : List Value} {w : World} {l : List (Nat × List Value)} (h : Mm w l) (k : Nat) (hk : l[k]? = some (g, cs)) (ho : o.op = .load 24 x) (hx : ρ x = PT g off) (hc : (cs.drop off).take 6 = cells6 v) :
    (execOp ρ o).run Tryd.prog w = .ok (.value (N v)) w := by
  have hm := List.mem_of_getElem? hk
  obtain ⟨k0, k1, k2, k3, k4, k5⟩ := six_of hc
  have c0 := h.cell hm k0
  have c1 := h.cell hm k1
  have c2 := h.cell hm k2
  have c3 := h.cell hm k3
  have c4 := h.cell hm k4
  have c5 := h.cell hm k5
  clear h hk hm hc k0 k1 k2 k3 k4 k5
  simp only [execOp, ho, hx]
  go_simp
theorem ex_load1 {ρ : Operand → Value} {o : Oper} {x : Operand} {g off : Nat} {v : Value} {cs : List Value} {w : World} {l : List (Nat × List Value)} (h : Mm w l) (k : Nat) (hk : l[k]? = some (g, cs)) (ho : o.op = .load 22 x) (hx : ρ x = PT g off) (hc : cs[off]? = some v) :
    (execOp ρ o).run Tryd.prog w = .ok (.value v) w := by
  have c0 := h.cell (List.mem_of_getElem? hk) hc
  clear h hk hc
  simp only [execOp, ho, hx]
  go_simp
theorem ex_box6 {ρ : Operand → Value} {o : Oper} {x : Operand} {v : Nat} {w : World} (ho : o.op = .box 24 x) (hx : ρ x = N v) :
    (execOp ρ o).run Tryd.prog w = .ok (.value (.pointer (some ⟨w.heap.size, 0, none⟩))) (w.alloc (.cells (cells6 v).toArray 24)) := by
  simp only [execOp, ho, hx]
  go_simp
theorem ex_store6 {ρ : Operand → Value} {o : Oper} {x y : Operand} {g off v : Nat} {cs : List Value} {w : World} {l : List (Nat × List Value)} (h : Mm w l) (k : Nat) (hk : l[k]? = some (g, cs)) (ho : o.op = .store 24 x y) (hx : ρ x = PT g off) (hy : ρ y = N v) (hc : off + 6 ≤ cs.length) :
    (execOp ρ o).run Tryd.prog w = .ok .skip (w.setCells g off (cells6 v)) := by
  have hm := List.mem_of_getElem? hk
  have hq : ∀ k, k < 6 → ∃ u, w.cell? ⟨g, off + k, none⟩ = some u ∧ w.frozen? ⟨g, off + k, none⟩ = false := fun k hk => by
    have e : cs[off + k]? = some (cs[off + k]'(by omega)) := List.getElem?_eq_getElem _
    exact ⟨_, h.cell hm e, h.free hm e⟩
  obtain ⟨u0, c0, f0⟩ := hq 0 (by decide)
  obtain ⟨u1, c1, f1⟩ := hq 1 (by decide)
  obtain ⟨u2, c2, f2⟩ := hq 2 (by decide)
  obtain ⟨u3, c3, f3⟩ := hq 3 (by decide)
  obtain ⟨u4, c4, f4⟩ := hq 4 (by decide)
  obtain ⟨u5, c5, f5⟩ := hq 5 (by decide)
  clear h hm hc hk hq
  rw [Nat.add_zero] at c0 f0
  simp only [execOp, ho, hx, hy]
  go_simp
  simp [World.setCells]
theorem ex_storeI {ρ : Operand → Value} {o : Oper} {x y : Operand} {g off : Nat} {ik : IntKind} {v : Int} {t : TypeId} {cs : List Value} {w : World} {l : List (Nat × List Value)} (h : Mm w l) (k : Nat) (hk : l[k]? = some (g, cs)) (ho : o.op = .store t x y) (hs : ∀ w, (sizeOf t).run Tryd.prog w = .ok 1 w) (hx : ρ x = PT g off) (hy : ρ y = .int ik v) (hc : off < cs.length) :
    (execOp ρ o).run Tryd.prog w = .ok .skip (w.setCells g off [.int ik v]) := by
  have hm := List.mem_of_getElem? hk
  have e : cs[off]? = some (cs[off]'hc) := List.getElem?_eq_getElem _
  have c0 := h.cell hm e
  have f0 := h.free hm e
  clear h hm hk
  simp only [execOp, ho, hx, hy]
  go_simp
  simp [World.setCells]
theorem ex_storeB {ρ : Operand → Value} {o : Oper} {x y : Operand} {g off : Nat} {v : Bool} {t : TypeId} {cs : List Value} {w : World} {l : List (Nat × List Value)} (h : Mm w l) (k : Nat) (hk : l[k]? = some (g, cs)) (ho : o.op = .store t x y) (hs : ∀ w, (sizeOf t).run Tryd.prog w = .ok 1 w) (hx : ρ x = PT g off) (hy : ρ y = .bool v) (hc : off < cs.length) :
    (execOp ρ o).run Tryd.prog w = .ok .skip (w.setCells g off [.bool v]) := by
  have hm := List.mem_of_getElem? hk
  have e : cs[off]? = some (cs[off]'hc) := List.getElem?_eq_getElem _
  have c0 := h.cell hm e
  have f0 := h.free hm e
  clear h hm hk
  simp only [execOp, ho, hx, hy]
  go_simp
  simp [World.setCells]
theorem Mm.one {w : World} {l : List (Nat × List Value)} (h : Mm w l) (k : Nat) {p : Nat × List Value} (hk : l[k]? = some p) : Mm w [p] :=
  ⟨fun q hq => by rw [List.mem_singleton.1 hq]; exact h.blk p (List.mem_of_getElem? hk), List.pairwise_singleton _ _⟩
theorem Mm.get {w : World} {l : List (Nat × List Value)} (h : Mm w l) (k : Nat) {g : Nat} {cs : List Value} (hk : l[k]? = some (g, cs)) (j : Nat) {v : Value} (hj : cs[j]? = some v) : w.cell? ⟨g, j, none⟩ = some v := h.cell (List.mem_of_getElem? hk) hj
/-- A call of a function in place of which the model has a law. -/
theorem ex_extern {P : Program} {ρ : Operand → Value} {o : Oper} {f : FuncId} {xs : Array Operand} {ts : Array TypeId} {args : Array Value} {v : Value} {w : World} (ho : o.op = .call { callee := .value (.func f), args := xs, argTypes := ts }) (hc : (callFunc f args).run P w = .ok (.value v) w) (hf : ρ (.func f) = .func (.func f) #[] #[]) (hx : xs.map ρ = args) :
    (execOp ρ o).run P w = .ok (.value v) w := by
  subst hx
  simp only [execOp, ho, resolve, hf]
  simp [go_sem, Deferred.ofValue, invoke, hc]
/-! The laws of regions, as a walk uses them. -/
section
variable {P : Program} {Q : Exit → Act → World → Prop} {full : Array Oper} {a : Act} {w : World}
theorem take_arr (full : Array Oper) (p : Nat) : full.extract 0 p = (full.toList.take p).toArray := by
  apply Array.toList_inj.1
  simp [List.extract_eq_take_drop]
theorem walk_any {id : Nat} (hm : P.follows .mixedOrders = true) (p : Nat) (ks : List Kind) (S : World → Prop) (pre : List Oper) (F : (Nat → Nat) → Act) (hpre : full.toList.take p = pre)
    (hF : ∀ γ, fill γ 0 pre ks a = F γ) (hor : (orderly pre.toArray ks a.tmps.size && guarded pre.toArray p && chained full p && decide (p ≤ full.size)) = true) (hL : LaidOk ks ks) (hS : ∀ w', Below w.heap.size w w' → S w')
    (hops : AllOk P pre.toArray S F pre ks)
    (hend : ∀ γ w' l, Mem ks w l γ w' → (∀ i, i < p → l.getD i false = true) → wpOps P full Q (List.range' p (full.size - p)) (F γ) w') :
    (Code.region id full true).wp P Q a w := by
  subst hpre
  rw [← take_arr] at hor hops
  refine region_any hm p ks S F (fun γ => ?_) hor hL hS ?_ hend
  · rw [take_arr]; exact hF γ
  · have e : (full.extract 0 p).toList = full.toList.take p := by rw [take_arr]
    rw [e]; exact hops
theorem walk_seq {id : Nat} (p : Nat) (ks : List Kind) (S : World → Prop) (pre : List Oper) (F : (Nat → Nat) → Act) (hpre : full.toList.take p = pre)
    (hF : ∀ γ, fill γ 0 pre ks a = F γ) (hor : (orderly pre.toArray ks a.tmps.size && guarded pre.toArray p && decide (p ≤ full.size)) = true) (hL : LaidOk ks ks) (hS : ∀ w', Below w.heap.size w w' → S w')
    (hops : AllOk P pre.toArray S F pre ks)
    (hend : ∀ γ w' l, Mem ks w l γ w' → (∀ i, i < p → l.getD i false = true) → wpOps P full Q (List.range' p (full.size - p)) (F γ) w') :
    (Code.region id full false).wp P Q a w := by
  subst hpre
  rw [← take_arr] at hor hops
  refine region_seq p ks S F (fun γ => ?_) hor hL hS ?_ hend
  · rw [take_arr]; exact hF γ
  · have e : (full.extract 0 p).toList = full.toList.take p := by rw [take_arr]
    rw [e]; exact hops
theorem AllOk.cons {ops : Array Oper} {S : World → Prop} {F : (Nat → Nat) → Act} {o : Oper} {os : List Oper} {k : Kind} {ks : List Kind} (h : KindOk P ops S F o k) (hs : AllOk P ops S F os ks) : AllOk P ops S F (o :: os) (k :: ks) := ⟨h, hs⟩
theorem rest_at {p m : Nat} {l : List Nat} (h : List.range' p m = l) (hw : wpOps P full Q l a w) : wpOps P full Q (List.range' p m) a w := by rw [h]; exact hw
theorem then_normal {K : Act → World → Prop} (h : K a w) : Exit.then K Q .normal a w := h
theorem then_ret {K : Act → World → Prop} (h : Q .ret a w) : Exit.then K Q .ret a w := h
theorem then_exit {K : Act → World → Prop} {id : Nat} (h : Q (.exit id) a w) : Exit.then K Q (.exit id) a w := h
theorem block_ret {id : Nat} (h : Q .ret a w) : Exit.inBlock id Q .ret a w := h
theorem rest_set {i d : Nat} {r : List Nat} {o : Oper} {v : Value} {w' : World} (ho : full[i]? = some o) (hd : o.dst = some d) (hw : Region.wanted o (yielded full a.tmps) = true) (hx : (execOp a.eval o).run P w = .ok (.value v) w') (h : wpOps P full Q r (a.put (some d) v) w') : wpOps P full Q (i :: r) a w :=
  rest_value ho hw hx (by rw [hd]; exact h)
theorem rest_store {i : Nat} {r : List Nat} {o : Oper} {w' : World} (ho : full[i]? = some o) (hd : o.dst = none) (hw : Region.wanted o (yielded full a.tmps) = true) (hx : (execOp a.eval o).run P w = .ok .skip w') (h : wpOps P full Q r a w') : wpOps P full Q (i :: r) a w :=
  rest_skip ho hw hx (by rw [hd]; exact h)
theorem rest_enter {i d : Nat} {r : List Nat} {o : Oper} {f : FuncId} {args : Array Value} {R : Value → World → Prop} (ho : full[i]? = some o) (hd : o.dst = some d) (hw : Region.wanted o (yielded full a.tmps) = true) (hx : (execOp a.eval o).run P w = .ok (.enter f args) w)
    (hc : Calls P f args w (fun e w' => ∃ v, e = .returned v ∧ R v w')) (h : ∀ v w', R v w' → wpOps P full Q r (a.put (some d) v) w') : wpOps P full Q (i :: r) a w :=
  rest_call ho hw hx hc (fun v w' hr => by rw [hd]; exact h v w' hr)
theorem block_exit {id : Nat} (h : Q .normal a w) : Exit.inBlock id Q (.exit id) a w := by simp only [Exit.inBlock, if_true]; exact h
theorem block_normal {id : Nat} (h : Q .normal a w) : Exit.inBlock id Q .normal a w := h
/-- A loop, by what is known at each round's beginning. -/
theorem loop_ghost {α : Type} {c : Code} (I : α → Act → World → Prop) (μ : α → Nat) (x₀ : α) (h₀ : I x₀ a w)
    (round : ∀ x a w, I x a w → c.wp P (Exit.then (fun a' w' => ∃ x', I x' a' w' ∧ μ x' < μ x) Q) a w) : (Code.loop c).wp P Q a w := by
  have least : ∀ (n : Nat) (a : Act) (w : World) (x : α), μ x = n → I x a w → ∃ y, I y a w ∧ ∀ z, I z a w → μ y ≤ μ z := by
    intro n
    induction n using Nat.strongRecOn with
    | _ n ih =>
      intro a w x hn hx
      by_cases h : ∃ z, I z a w ∧ μ z < μ x
      · obtain ⟨z, hz, hlt⟩ := h
        exact ih (μ z) (by omega) a w z rfl hz
      · refine ⟨x, hx, fun z hz => ?_⟩
        rcases Nat.lt_or_ge (μ z) (μ x) with h' | h'
        · exact absurd ⟨z, hz, h'⟩ h
        · exact h'
  have pick : ∀ (a : Act) (w : World), ∃ m : Nat, ∀ x, I x a w → (∃ y, I y a w ∧ μ y = m) ∧ m ≤ μ x := by
    intro a w
    by_cases h : ∃ x, I x a w
    · obtain ⟨x, hx⟩ := h
      obtain ⟨y, hy, hmin⟩ := least _ a w x rfl hx
      exact ⟨μ y, fun z hz => ⟨⟨y, hy, rfl⟩, hmin z hz⟩⟩
    · exact ⟨0, fun x hx => absurd ⟨x, hx⟩ h⟩
  refine wp_loop (fun a w => ∃ x, I x a w) (fun a w => Classical.choose (pick a w)) ⟨x₀, h₀⟩ ?_
  rintro a w ⟨x, hx⟩
  obtain ⟨⟨y, hy, hm⟩, hle⟩ := Classical.choose_spec (pick a w) x hx
  refine Code.wp_mono (fun e a' w' h => ?_) (round y a w hy)
  cases e with
  | normal =>
    obtain ⟨x', hx', hlt⟩ := h
    refine ⟨⟨x', hx'⟩, ?_⟩
    have := (Classical.choose_spec (pick a' w') x' hx').2
    show Classical.choose (pick a' w') < Classical.choose (pick a w)
    omega
  | _ => exact h
end
/-! Shorter words for what stands behind each region. -/
theorem keepB {w₀ w w' : World} {L : List (Nat × List Value)} (H : Hid (Mm w L ∧ Below w₀.heap.size w₀ w)) (hb : Below w.heap.size w w') : Hid (Mm w' L ∧ Below w₀.heap.size w₀ w') :=
  ⟨H.out.1.below hb, H.out.2.trans (hb.mono H.out.2.size)⟩
theorem growB {ks : List Kind} {w₀ w w' : World} {l : Array Bool} {γ : Nat → Nat} {L : List (Nat × List Value)} (H : Hid (Mm w L ∧ Below w₀.heap.size w₀ w)) (h : Mem ks w l γ w') {p : Nat} (hp : ks.length ≤ p) (hl : ∀ i, i < p → l.getD i false = true)
    (is : List Nat) (ha : (is.all fun i => (fresh ks i).isSome) = true) (hn : is.Pairwise (· ≠ ·)) : Hid (Mm w' (is.map (fun i => (γ i, fin ks i)) ++ L) ∧ Below w₀.heap.size w₀ w') :=
  ⟨H.out.1.grow h hp hl is ha hn, H.out.2.trans (h.below.mono H.out.2.size)⟩
theorem ownB {ks : List Kind} {w₀ w w' : World} {l : Array Bool} {γ : Nat → Nat} {L : List (Nat × List Value)} (H : Hid (Mm w L ∧ Below w₀.heap.size w₀ w)) (h : Mem ks w l γ w') {p : Nat} (hp : ks.length ≤ p) (hl : ∀ i, i < p → l.getD i false = true) {i : Nat} (hi : (fresh ks i).isSome = true) : Hid (w₀.heap.size ≤ γ i) :=
  Nat.le_trans H.out.2.size (h.fin hp hl hi).2.1
theorem sB {w : World} {L : List (Nat × List Value)} {R : World → Prop} (H : Hid (Mm w L ∧ R w)) (w' : World) (hb : Below w.heap.size w w') : Mm w' L := H.out.1.below hb
theorem sa {l : List Value} {i : Nat} {x : Value} : l.toArray.setIfInBounds i x = (l.set i x).toArray := List.setIfInBounds_toArray ..
theorem sz {l : List Value} {x y : Value} : (x :: l).set 0 y = y :: l := rfl
theorem ss {l : List Value} {n : Nat} {x y : Value} : (x :: l).set (n + 1) y = x :: l.set n y := rfl
theorem tk {α : Type} {l : List α} {n : Nat} {x : α} : (x :: l).take (n + 1) = x :: l.take n := rfl
theorem tz {α : Type} {l : List α} : l.take 0 = [] := rfl
theorem rest0 {P : Program} {Q : Exit → Act → World → Prop} {full : Array Oper} {a : Act} {w : World} {p m : Nat} (h : List.range' p m = []) (hw : Q .normal a w) : wpOps P full Q (List.range' p m) a w := by rw [h]; exact rest_nil hw
theorem walk_seqB {P : Program} {Q : Exit → Act → World → Prop} {full : Array Oper} {a : Act} {w w₀ : World} {L : List (Nat × List Value)} {id : Nat} (p : Nat) (ks : List Kind) {pre : List Oper} {F : (Nat → Nat) → Act} (H : Hid (Mm w L ∧ Below w₀.heap.size w₀ w))
    (hops : AllOk P pre.toArray (fun w' => Mm w' L) F pre ks)
    (hend : ∀ γ w', Hid (Mm w' L ∧ Below w₀.heap.size w₀ w') → wpOps P full Q (List.range' p (full.size - p)) (F γ) w')
    (hq : full.toList.take p = pre ∧ (∀ γ, fill γ 0 pre ks a = F γ) ∧ (orderly pre.toArray ks a.tmps.size && guarded pre.toArray p && decide (p ≤ full.size)) = true := by
      refine ⟨?_, ?_, ?_⟩
      · simp only [List.append_eq, List.cons_append, List.nil_append, tk, tz]; rfl
      · intro _; simp only [fill, Kind.val, Act.put, sa, sz, ss]; rfl
      · kernel_rfl)
    (hL : LaidOk ks ks := by trivial) :
    (Code.region id full false).wp P Q a w :=
  walk_seq p ks _ pre F hq.1 hq.2.1 hq.2.2 hL (sB H) hops (fun γ w' _ hM _ => hend γ w' (keepB H hM.below))
theorem walk_anyB {P : Program} {Q : Exit → Act → World → Prop} {full : Array Oper} {a : Act} {w w₀ : World} {L : List (Nat × List Value)} {id : Nat} (p : Nat) (ks : List Kind) {pre : List Oper} {F : (Nat → Nat) → Act} (H : Hid (Mm w L ∧ Below w₀.heap.size w₀ w))
    (hops : AllOk P pre.toArray (fun w' => Mm w' L) F pre ks)
    (hend : ∀ γ w', Hid (Mm w' L ∧ Below w₀.heap.size w₀ w') → wpOps P full Q (List.range' p (full.size - p)) (F γ) w')
    (hq : full.toList.take p = pre ∧ (∀ γ, fill γ 0 pre ks a = F γ) ∧ (orderly pre.toArray ks a.tmps.size && guarded pre.toArray p && chained full p && decide (p ≤ full.size)) = true := by
      refine ⟨?_, ?_, ?_⟩
      · simp only [List.append_eq, List.cons_append, List.nil_append, tk, tz]; rfl
      · intro _; simp only [fill, Kind.val, Act.put, sa, sz, ss]; rfl
      · kernel_rfl)
    (hm : P.follows .mixedOrders = true := by kernel_rfl)
    (hL : LaidOk ks ks := by trivial) :
    (Code.region id full true).wp P Q a w :=
  walk_any hm p ks _ pre F hq.1 hq.2.1 hq.2.2 hL (sB H) hops (fun γ w' _ hM _ => hend γ w' (keepB H hM.below))
theorem walk_seqA {P : Program} {Q : Exit → Act → World → Prop} {full : Array Oper} {a : Act} {w : World} {S : World → Prop} {id : Nat} (p : Nat) (ks : List Kind) {pre : List Oper} {F : (Nat → Nat) → Act} (hS : ∀ w', Below w.heap.size w w' → S w')
    (hops : AllOk P pre.toArray S F pre ks)
    (hend : ∀ γ w' l, Mem ks w l γ w' → (∀ i, i < p → l.getD i false = true) → wpOps P full Q (List.range' p (full.size - p)) (F γ) w')
    (hq : full.toList.take p = pre ∧ (∀ γ, fill γ 0 pre ks a = F γ) ∧ (orderly pre.toArray ks a.tmps.size && guarded pre.toArray p && decide (p ≤ full.size)) = true := by
      refine ⟨?_, ?_, ?_⟩
      · simp only [List.append_eq, List.cons_append, List.nil_append, tk, tz]; rfl
      · intro _; simp only [fill, Kind.val, Act.put, sa, sz, ss]; rfl
      · kernel_rfl)
    (hL : LaidOk ks ks := by trivial) :
    (Code.region id full false).wp P Q a w :=
  walk_seq p ks _ pre F hq.1 hq.2.1 hq.2.2 hL hS hops hend
theorem walk_anyA {P : Program} {Q : Exit → Act → World → Prop} {full : Array Oper} {a : Act} {w : World} {S : World → Prop} {id : Nat} (p : Nat) (ks : List Kind) {pre : List Oper} {F : (Nat → Nat) → Act} (hS : ∀ w', Below w.heap.size w w' → S w')
    (hops : AllOk P pre.toArray S F pre ks)
    (hend : ∀ γ w' l, Mem ks w l γ w' → (∀ i, i < p → l.getD i false = true) → wpOps P full Q (List.range' p (full.size - p)) (F γ) w')
    (hq : full.toList.take p = pre ∧ (∀ γ, fill γ 0 pre ks a = F γ) ∧ (orderly pre.toArray ks a.tmps.size && guarded pre.toArray p && chained full p && decide (p ≤ full.size)) = true := by
      refine ⟨?_, ?_, ?_⟩
      · simp only [List.append_eq, List.cons_append, List.nil_append, tk, tz]; rfl
      · intro _; simp only [fill, Kind.val, Act.put, sa, sz, ss]; rfl
      · kernel_rfl)
    (hm : P.follows .mixedOrders = true := by kernel_rfl)
    (hL : LaidOk ks ks := by trivial) :
    (Code.region id full true).wp P Q a w :=
  walk_any hm p ks _ pre F hq.1 hq.2.1 hq.2.2 hL hS hops hend
theorem ak {P : Program} {ops : Array Oper} {S : World → Prop} {F : (Nat → Nat) → Act} {o : Oper} {os : List Oper} {k : Kind} {ks : List Kind} (h : KindOk P ops S F o k) (hs : AllOk P ops S F os ks) : AllOk P ops S F (o :: os) (k :: ks) := ⟨h, hs⟩
theorem mpn {ρ : Operand → Value} {xs : List Operand} {vs : List Value} (h : xs.map ρ = vs) : xs.toArray.map ρ = vs.toArray := by rw [List.map_toArray, h]
end Rg
end Go.Proofs.YtbbocdamhkkiiaaDoor
end
section
namespace Go.Proofs.YtbbocdamhkkiiaaDoor
open Go.RowKit
namespace Rg
section
variable {P : Program} {ops : Array Oper} {ks : List Kind} {a₀ : Act} {w₀ : World} {Q : Exit → Act → World → Prop}
/-- An operation that the store need not wait for: it tells its value in whatever world. -/
def LateOk (P : Program) (ops : Array Oper) (ks : List Kind) (F : (Nat → Nat) → Act) : List Nat → Prop
  | [] => True
  | i :: r => (∃ o v, ops[i]? = some o ∧ ks[i]? = some (.quiet v) ∧ ∀ γ, Region.wanted o (yielded ops (F γ).tmps) = true ∧ ∀ w, (execOp (F γ).eval o).run P w = .ok (.value v) w) ∧ LateOk P ops ks F r
theorem LateOk.at {F : (Nat → Nat) → Act} : ∀ {late : List Nat}, LateOk P ops ks F late → ∀ {i : Nat}, i ∈ late → ∃ o v, ops[i]? = some o ∧ ks[i]? = some (.quiet v) ∧ ∀ γ, Region.wanted o (yielded ops (F γ).tmps) = true ∧ ∀ w, (execOp (F γ).eval o).run P w = .ok (.value v) w
  | [], _, _, h => by cases h
  | j :: r, hl, i, h => by
    rcases List.mem_cons.1 h with e | h
    · subst e; exact hl.1
    · exact hl.2.at h
theorem mem_late {F : (Nat → Nat) → Act} {γ : Nat → Nat} {w : World} : ∀ {late : List Nat} {l : Array Bool}, LateOk P ops ks F late → Mem ks w₀ l γ w → ∃ l', Mem ks w₀ l' γ w ∧ l'.size = l.size ∧ (∀ i, l.getD i false = true → l'.getD i false = true) ∧ ∀ i ∈ late, i < l.size → l'.getD i false = true
  | [], l, _, h => ⟨l, h, rfl, fun _ h => h, fun _ h => by cases h⟩
  | j :: r, l, hl, h => by
    obtain ⟨o, v, _, hk, _⟩ := hl.1
    obtain ⟨l', h1, h2, h3, h4⟩ := mem_late (late := r) hl.2 (h.still (Below.refl _ _) hk rfl (fun _ _ _ h => by cases h))
    refine ⟨l', h1, by rw [h2]; simp, fun i hi => h3 i (getD_true hi), fun i hi hlt => ?_⟩
    rcases List.mem_cons.1 hi with e | hi
    · subst e
      exact h3 i (by simp [hlt])
    · exact h4 i hi (by simpa using hlt)
theorem see_all {full : Array Oper} {l : Array Bool} {γ : Nat → Nat} {a : Act} (h : Agree ops ks a₀ l γ a) {o : Oper} (hn : ∀ cs b, o.op ≠ .select cs b)
    (hlook : ∀ d ∈ o.looksAt full, ∀ j oj, ops[j]? = some oj → oj.dst = some d → l.getD j false = true) :
    execOp a.eval o = execOp (fill γ 0 ops.toList ks a₀).eval o := by
  refine execOp_congr o hn (fun x hx => ?_)
  cases x with
  | tmp t =>
    have := h.slots t (hlook t (List.mem_append_left _ (List.mem_filterMap.2 ⟨.tmp t, by simpa using hx, rfl⟩)))
    simp only [Act.eval, Array.getD_eq_getD_getElem?, this]
  | _ => rfl
/-- The operations that have come up: with each, all that it waits for. -/
def Closed (full : Array Oper) (l : Array Bool) : Prop := ∀ (i : Nat) (o : Oper), full[i]? = some o → l.getD i false = true → ∀ e ∈ o.after, Region.binds .any e = true → l.getD e.on false = true
theorem Closed.none (full : Array Oper) (n : Nat) : Closed full (Array.replicate n false) := fun i o _ h => by rw [none_listed] at h; cases h
theorem Closed.step {full : Array Oper} {l : Array Bool} (h : Closed full l) {i : Nat} {o : Oper} (ho : full[i]? = some o) (hedge : ∀ e ∈ o.after, Region.binds .any e = true → l.getD e.on false = true) : Closed full (l.setIfInBounds i true) := fun j oj hj hl e he hb => by
  by_cases hij : i = j
  · subst hij
    rw [ho] at hj
    injection hj with hj
    subst hj
    exact getD_true (hedge e he hb)
  · rw [getD_set_ne false hij] at hl
    exact getD_true (h j oj hj hl e he hb)
/-- Who waits for operation j, by others or not. -/
def waitsT (full : Array Oper) : Nat → Oper → Nat → Bool
  | 0, o, j => waits o j
  | f + 1, o, j => waits o j || o.after.any fun e => Region.binds .any e && (match full[e.on]? with | some o' => waitsT full f o' j | none => false)
theorem waitsT_spec {full : Array Oper} {l : Array Bool} (h : Closed full l) {j : Nat} : ∀ (f : Nat) (o : Oper), waitsT full f o j = true → (∀ e ∈ o.after, Region.binds .any e = true → l.getD e.on false = true) → l.getD j false = true
  | 0, o, hw, he => waits_spec hw he
  | f + 1, o, hw, he => by
    unfold waitsT at hw
    rw [Bool.or_eq_true] at hw
    rcases hw with hw | hw
    · exact waits_spec hw he
    · obtain ⟨e, hm, hx⟩ := Array.any_eq_true'.1 hw
      rw [Bool.and_eq_true] at hx
      obtain ⟨hb, hx⟩ := hx
      cases ho : full[e.on]? with
      | none => rw [ho] at hx; cases hx
      | some o' =>
        rw [ho] at hx
        exact waitsT_spec h f o' hx (fun e' he' hb' => h e.on o' ho (he e hm hb) e' he' hb')
theorem rest_anyT {full : Array Oper} (p : Nat) (hup : ∀ {i : Nat} {o : Oper}, full[i]? = some o → ∀ e ∈ o.after, Region.binds .any e = true → e.on < i)
    (hwt : ∀ {i : Nat} {o : Oper}, full[i]? = some o → p ≤ i → ∀ j, j < i → waitsT full 4 o j = true) : ∀ (m fuel q : Nat) (l : Array Bool) (a : Act) (w : World), q + m = full.size → p ≤ q → l.size = full.size → m ≤ fuel → Closed full l →
      (∀ i, i < q → l.getD i false = true) → (∀ i, q ≤ i → i < full.size → l.getD i true = false) → wpOps P full Q (List.range' q m) a w → wpAny P .any full Q fuel l a w := by
  intro m
  induction m with
  | zero =>
    intro fuel q l a w hq hpq hsz hfu hcl hl hu h
    have hr : Region.ready .any full l = [] := by
      refine List.eq_nil_iff_forall_not_mem.2 fun i hi => ?_
      obtain ⟨h1, o, ho, _⟩ := mem_ready.1 hi
      have h2 := hl i (by have := (Array.getElem?_eq_some_iff.1 ho).1; omega)
      rw [(getD_same h1).1] at h2
      cases h2
    have hQ : Q .normal a w := h
    cases fuel with
    | zero => exact ⟨hr, hQ⟩
    | succ f => exact ⟨fun _ => hQ, by rw [hr]; simp⟩
  | succ m ih =>
    intro fuel q l a w hq hpq hsz hfu hcl hl hu h
    cases fuel with
    | zero => omega
    | succ f =>
      have hqs : q < full.size := by omega
      have hqr : q ∈ Region.ready .any full l := mem_ready.2 ⟨hu q (Nat.le_refl _) hqs, full[q], Array.getElem?_eq_getElem hqs, fun e he hb => hl _ (hup (Array.getElem?_eq_getElem hqs) e he hb)⟩
      refine ⟨fun hr => absurd hqr (by rw [hr]; simp), fun i hi => ?_⟩
      obtain ⟨hun, o, ho, hedge⟩ := mem_ready.1 hi
      have hilt : i < full.size := (Array.getElem?_eq_some_iff.1 ho).1
      have hiq : i = q := by
        rcases Nat.lt_trichotomy i q with h' | h' | h'
        · have h2 := hl i h'
          rw [(getD_same hun).1] at h2
          cases h2
        · exact h'
        · have h2 := waitsT_spec hcl 4 o (hwt ho (by omega) q h') hedge
          rw [(getD_same (hu q (Nat.le_refl _) hqs)).1] at h2
          cases h2
      subst hiq
      rw [List.range'_succ, wpOps_cons] at h
      refine wpOp_mono (fun a' w' h' => ?_) h
      refine ih f (i + 1) _ a' w' (by omega) (by omega) (by simp [hsz]) (by omega) (hcl.step ho hedge) (fun j hj => ?_) (fun j hj hj2 => ?_) h'
      · rcases Nat.lt_or_ge j i with h2 | h2
        · exact getD_true (hl j h2)
        · have : j = i := by omega
          subst this
          exact (getD_same hun).2
      · rw [getD_set_ne true (by omega)]
        exact hu j (by omega) hj2
theorem tail_count (n : Nat) : ∀ (m : Nat) (l : Array Bool), l.size = n → m ≤ n → (∀ i, n - m ≤ i → i < n → l.getD i true = false) → m ≤ l.toList.count false := by
  intro m
  induction m with
  | zero => intro l _ _ _; omega
  | succ m ih =>
    intro l hs hm hl
    have h4 := count_set (hl (n - (m + 1)) (Nat.le_refl _) (by omega))
    have h5 := ih (l.setIfInBounds (n - (m + 1)) true) (by simp [hs]) (by omega) (fun i hi1 hi2 => by rw [getD_set_ne true (by omega)]; exact hl i (by omega) hi2)
    omega
theorem ready_all {full : Array Oper} (hup : ∀ {i : Nat} {o : Oper}, full[i]? = some o → ∀ e ∈ o.after, Region.binds .any e = true → e.on < i) {l : Array Bool} (hsz : l.size = full.size) (hr : Region.ready .any full l = []) : ∀ i, i < full.size → l.getD i false = true := by
  intro i
  induction i using Nat.strongRecOn with
  | _ i ih2 =>
    intro hi
    have hi' : i < l.size := by omega
    cases hl : l.getD i true with
    | true => simpa [hi'] using hl
    | false =>
      exfalso
      have : i ∈ Region.ready .any full l := mem_ready.2 ⟨hl, full[i], Array.getElem?_eq_getElem hi, fun e he hb => ih2 e.on (hup (Array.getElem?_eq_getElem hi) e he hb) (by have := hup (Array.getElem?_eq_getElem hi) e he hb; omega)⟩
      rw [hr] at this
      cases this
theorem after_put {full : Array Oper} {n p : Nat} (hO : Orderly ops ks n) (hn : n = a₀.tmps.size) (hp : ops.size = p) (hpf : p + 1 ≤ full.size) (hfull : ∀ i, i < p → full[i]? = ops[i]?) (hgd : ∀ {i : Nat} {o : Oper} {g : Nat} {b : Bool}, ops[i]? = some o → o.guard = some (g, b) → g < p)
    (hup : ∀ {i : Nat} {o : Oper}, full[i]? = some o → ∀ e ∈ o.after, Region.binds .any e = true → e.on < i)
    (hwt : ∀ {i : Nat} {o : Oper}, full[i]? = some o → p + 1 ≤ i → ∀ j, j < i → waitsT full 4 o j = true)
    {late : List Nat} (hlate : LateOk P ops ks (fun γ => fill γ 0 ops.toList ks a₀) late) {γ : Nat → Nat} {w : World} (hQ : wpOps P full Q (List.range' (p + 1) (full.size - (p + 1))) (fill γ 0 ops.toList ks a₀) w) :
    ∀ (fuel : Nat) (l : Array Bool) (a : Act), l.size = full.size → l.toList.count false ≤ fuel → Closed full l → (∀ i, i ≤ p → l.getD i true = false → i ∈ late) → (∀ i, p + 1 ≤ i → i < full.size → l.getD i true = false) → Agree ops ks a₀ l γ a → wpAny P .any full Q fuel l a w := by
  intro fuel
  induction fuel with
  | zero =>
    intro l a hsz hc hcl hu ht hA
    have hall : ∀ i, i < full.size → l.getD i false = true := fun i hi => by
      cases hb : l.getD i true with
      | false => have := count_set hb; omega
      | true =>
        have hi' : i < l.size := by omega
        simpa [hi'] using hb
    rw [hA.whole (fun i hi => hall i (by omega))]
    have h0 := tail_count full.size (full.size - (p + 1)) l hsz (by omega) (fun i hi1 hi2 => ht i (by omega) hi2)
    exact rest_anyT (p + 1) hup hwt (full.size - (p + 1)) 0 (p + 1) l _ w (by omega) (Nat.le_refl _) hsz (by omega) hcl (fun i hi => hall i (by omega)) ht hQ
  | succ fuel ih =>
    intro l a hsz hc hcl hu ht hA
    by_cases hall : ∀ i, i < p + 1 → l.getD i false = true
    · rw [hA.whole (fun i hi => hall i (by omega))]
      have h0 := tail_count full.size (full.size - (p + 1)) l hsz (by omega) (fun i hi1 hi2 => ht i (by omega) hi2)
      exact rest_anyT (p + 1) hup hwt (full.size - (p + 1)) (fuel + 1) (p + 1) l _ w (by omega) (Nat.le_refl _) hsz (by omega) hcl hall ht hQ
    · have hex : ∃ x, x < p + 1 ∧ l.getD x false = false := by
        apply Classical.byContradiction
        intro hno
        apply hall
        intro i hi
        cases hb : l.getD i false with
        | true => rfl
        | false => exact absurd ⟨i, hi, hb⟩ hno
      obtain ⟨x, hx, hxf⟩ := hex
      refine ⟨fun hr => ?_, fun i hi => ?_⟩
      · have := ready_all hup hsz hr x (by omega)
        rw [hxf] at this
        cases this
      · obtain ⟨hun, o, ho, hedge⟩ := mem_ready.1 hi
        have hilt : i < full.size := (Array.getElem?_eq_some_iff.1 ho).1
        have hip1 : i < p + 1 := by
          rcases Nat.lt_or_ge i (p + 1) with h' | h'
          · exact h'
          · have := waitsT_spec hcl 4 o (hwt ho h' x (by omega)) hedge
            rw [hxf] at this
            cases this
        obtain ⟨o', v, ho', hk, hxq⟩ := hlate.at (hu i (by omega) hun)
        have hip : i < p := by rw [← hp]; exact (Array.getElem?_eq_some_iff.1 ho').1
        have hof := ho
        rw [hfull i hip, ho'] at ho
        injection ho with ho
        subst ho
        obtain ⟨he, hw0⟩ := hA.sees hO ho' hedge
        have hy : ∀ ts, Region.wanted o' (yielded full ts) = Region.wanted o' (yielded ops ts) := fun ts => by
          unfold Region.wanted
          cases hg : o'.guard with
          | none => rfl
          | some gw =>
            obtain ⟨g, want⟩ := gw
            have : yielded full ts g = yielded ops ts g := by unfold yielded; rw [hfull g (hgd ho' hg)]
            simp only [this]
        have hc' := count_set hun
        refine wpOp_step hof (fun K' hK => ?_)
        rw [hy, hw0, if_pos (hxq γ).1]
        unfold Oper.wp
        rw [he, (hxq γ).2 w]
        refine hK _ _ (ih _ _ (by simp [hsz]) (by omega) (hcl.step hof hedge) (fun j hj hj2 => ?_) (fun j hj hj2 => ?_) (hA.step hO hn ho' hk (fun _ _ => rfl)))
        · by_cases e : i = j
          · subst e
            have hi' : i < l.size := by omega
            simp [hi'] at hj2
          · rw [getD_set_ne true e] at hj2
            exact hu j hj hj2
        · rw [getD_set_ne true (by omega)]
          exact ht j hj hj2
theorem first_put {full : Array Oper} {n p : Nat} {op : Oper} (hO : Orderly ops ks n) (hn : n = a₀.tmps.size) (hL : LaidOk ks ks) {S : World → Prop} (hS : ∀ w, Below w₀.heap.size w₀ w → S w)
    (hp : ops.size = p) (hpf : p + 1 ≤ full.size) (hfull : ∀ i, i < p → full[i]? = ops[i]?) (hgd : ∀ {i : Nat} {o : Oper} {g : Nat} {b : Bool}, ops[i]? = some o → o.guard = some (g, b) → g < p)
    (hup : ∀ {i : Nat} {o : Oper}, full[i]? = some o → ∀ e ∈ o.after, Region.binds .any e = true → e.on < i)
    (hop : full[p]? = some op) (hdst : op.dst = none) (hgu : op.guard = none) (hsel : ∀ cs b, op.op ≠ .select cs b)
    {late : List Nat} (hwp : ∀ j, j < p → waitsT full 4 op j = true ∨ j ∈ late) (hlook : ∀ d ∈ op.looksAt full, ∀ j oj, ops[j]? = some oj → oj.dst = some d → waitsT full 4 op j = true)
    (hwt : ∀ {i : Nat} {o : Oper}, full[i]? = some o → p + 1 ≤ i → ∀ j, j < i → waitsT full 4 o j = true)
    (hlate : LateOk P ops ks (fun γ => fill γ 0 ops.toList ks a₀) late)
    (hops : AllOk P ops S (fun γ => fill γ 0 ops.toList ks a₀) ops.toList ks)
    (hend : ∀ γ w l, Mem ks w₀ l γ w → (∀ i, i < p → l.getD i false = true) → ∃ w', (execOp (fill γ 0 ops.toList ks a₀).eval op).run P w = .ok .skip w' ∧ wpOps P full Q (List.range' (p + 1) (full.size - (p + 1))) (fill γ 0 ops.toList ks a₀) w') :
    ∀ (fuel : Nat) (l : Array Bool) (γ : Nat → Nat) (a : Act) (w : World), l.size = full.size → l.toList.count false ≤ fuel → Closed full l → (∀ i, p ≤ i → i < full.size → l.getD i true = false) → Agree ops ks a₀ l γ a → Mem ks w₀ l γ w → wpAny P .any full Q fuel l a w := by
  intro fuel
  induction fuel with
  | zero =>
    intro l γ a w hsz hc hcl ht hA hM
    have := count_set (ht p (Nat.le_refl _) (by omega))
    omega
  | succ fuel ih =>
    intro l γ a w hsz hc hcl ht hA hM
    have hpu := ht p (Nat.le_refl _) (by omega)
    refine ⟨fun hr => ?_, fun i hi => ?_⟩
    · have := ready_all hup hsz hr p (by omega)
      rw [(getD_same hpu).1] at this
      cases this
    · obtain ⟨hun, o, ho, hedge⟩ := mem_ready.1 hi
      have hilt : i < full.size := (Array.getElem?_eq_some_iff.1 ho).1
      have hc' := count_set hun
      have hip1 : i < p + 1 := by
        rcases Nat.lt_or_ge i (p + 1) with h' | h'
        · exact h'
        · have := waitsT_spec hcl 4 o (hwt ho h' p (by omega)) hedge
          rw [(getD_same hpu).1] at this
          cases this
      by_cases hip : i = p
      · subst hip
        have ho2 := ho
        rw [hop] at ho
        injection ho with ho
        subst ho
        have hbefore : ∀ j, j < i → j ∉ late → l.getD j false = true := fun j hj hnl => by
          rcases hwp j hj with h | h
          · exact waitsT_spec hcl 4 _ h hedge
          · exact absurd h hnl
        obtain ⟨l', hM', hs', hl1, hl2⟩ := mem_late hlate hM
        have hfin : ∀ j, j < i → l'.getD j false = true := fun j hj => by
          by_cases h : j ∈ late
          · exact hl2 j h (by omega)
          · exact hl1 j (hbefore j hj h)
        obtain ⟨w', hx, hQ⟩ := hend γ w l' hM' hfin
        have he := see_all (full := full) hA hsel (fun d hd j oj hj hdj => waitsT_spec hcl 4 _ (hlook d hd j oj hj hdj) hedge)
        refine wpOp_step hop (fun K' hK => ?_)
        have hwn : Region.wanted op (yielded full a.tmps) = true := by unfold Region.wanted; rw [hgu]
        rw [if_pos hwn]
        unfold Oper.wp
        rw [he, hx]
        have hA' : Agree ops ks a₀ (l.setIfInBounds i true) γ (a.put op.dst undef) := by
          rw [hdst]
          refine ⟨hA.defers, hA.size, fun d hd => hA.slots d (fun j oj hj hdj => ?_)⟩
          have h1 := hd j oj hj hdj
          have hj' : j < i := by rw [← hp]; exact (Array.getElem?_eq_some_iff.1 hj).1
          rwa [getD_set_ne false (by omega)] at h1
        refine hK _ _ (after_put hO hn hp hpf hfull hgd hup hwt hlate hQ fuel _ _ (by simp [hsz]) (by omega) (hcl.step ho2 hedge) (fun j hj hj2 => ?_) (fun j hj hj2 => ?_) hA')
        · by_cases e : i = j
          · subst e
            have hi' : i < l.size := by omega
            simp [hi'] at hj2
          · rw [getD_set_ne true e] at hj2
            apply Classical.byContradiction
            intro hnl
            have := hbefore j (by omega) hnl
            rw [(getD_same hj2).1] at this
            cases this
        · rw [getD_set_ne true (by omega)]
          exact ht j (by omega) hj2
      · have hlt : i < p := by omega
        have ho' : ops[i]? = some o := by rw [← hfull i hlt]; exact ho
        refine kind_step hO hn hL hS hfull hgd hops hA hM hlt ho' hun hedge (fun γ' a' w' hA' hM' => ?_)
        exact ih _ γ' a' w' (by simp [hsz]) (by omega) (hcl.step ho hedge) (fun j hj hj2 => by rw [getD_set_ne true (by omega)]; exact ht j hj hj2) hA' hM'
/-- What is to be looked up of the whole region. -/
def putly (full : Array Oper) (p : Nat) (late : List Nat) : Bool :=
  eachOp full (fun i o => o.after.all fun e => !Region.binds .any e || decide (e.on < i)) && decide (p + 1 ≤ full.size) && Region.noSelect full &&
  (match full[p]? with
   | none => false
   | some op => op.dst.isNone && op.guard.isNone && ((List.range p).all fun j => waitsT full 4 op j || late.contains j) && (op.looksAt full).all fun d => eachOp full fun j oj => oj.dst != some d || waitsT full 4 op j || decide (p ≤ j)) &&
  eachOp full (fun i o => decide (i < p + 1) || (List.range i).all fun j => waitsT full 4 o j)
/-- **The law of such a region.** -/
theorem walk_put {full : Array Oper} {a : Act} {w : World} {id : Nat} (hm : P.follows .mixedOrders = true) (p : Nat) (late : List Nat) (ks : List Kind) (S : World → Prop) (pre : List Oper) (F : (Nat → Nat) → Act) (op : Oper) (hpre : full.toList.take p = pre)
    (hF : ∀ γ, fill γ 0 pre ks a = F γ) (hor : (orderly pre.toArray ks a.tmps.size && guarded pre.toArray p && putly full p late) = true) (hop : full[p]? = some op) (hL : LaidOk ks ks) (hS : ∀ w', Below w.heap.size w w' → S w')
    (hops : AllOk P pre.toArray S F pre ks) (hlate : LateOk P pre.toArray ks F late)
    (hend : ∀ γ w' l, Mem ks w l γ w' → (∀ i, i < p → l.getD i false = true) → ∃ w'', (execOp (F γ).eval op).run P w' = .ok .skip w'' ∧ wpOps P full Q (List.range' (p + 1) (full.size - (p + 1))) (F γ) w'') :
    (Code.region id full true).wp P Q a w := by
  subst hpre
  obtain rfl : (fun γ => fill γ 0 (full.toList.take p) ks a) = F := funext hF
  simp only [Bool.and_eq_true] at hor
  obtain ⟨⟨h1, h2⟩, h3⟩ := hor
  unfold putly at h3
  rw [hop] at h3
  simp only [Bool.and_eq_true, decide_eq_true_eq, Option.isNone_iff_eq_none] at h3
  obtain ⟨⟨⟨⟨h5, h6⟩, h7⟩, ⟨⟨h8, h9⟩, h10⟩, h11⟩, h12⟩ := h3
  have hsz : (full.toList.take p).toArray.size = p := by simp; omega
  have hfu : ∀ i, i < p → full[i]? = (full.toList.take p).toArray[i]? := fun i hi => by rw [← take_arr]; exact first_full hi
  refine wp_region_any hm (first_put (ops := (full.toList.take p).toArray) (Orderly.of h1) rfl hL hS hsz h6 hfu (fun ho hg => guarded_spec h2 ho hg) (fun ho e he hb => ?_) hop h8 h9 (fun cs b => Region.noSelect_spec h7 p op cs b hop) (late := late) (fun j hj => ?_) (fun d hd j oj hj hdj => ?_) (fun ho hi j hj => ?_) hlate hops hend full.size _ (fun _ => 0) a w.drew (by simp) (by simp) (Closed.none _ _) (fun i _ hi => none_listed' hi) (start_agree _ _) (start_mem _ _ (Below.refl _ _).drew))
  · have := Array.all_eq_true_iff_forall_mem.1 (eachOp_spec h5 ho) e he
    simpa [hb] using this
  · have := List.all_eq_true.1 h10 j (List.mem_range.2 hj)
    simpa using this
  · have hj' : j < p := by rw [← hsz]; exact (Array.getElem?_eq_some_iff.1 hj).1
    have := eachOp_spec (List.all_eq_true.1 h11 d hd) (by rw [hfu j hj']; exact hj)
    simp only [hdj, bne_self_eq_false, Bool.false_or, Bool.or_eq_true, decide_eq_true_eq] at this
    rcases this with h | h
    · exact h
    · omega
  · have := eachOp_spec h12 ho
    simp only [Bool.or_eq_true, decide_eq_true_eq] at this
    rcases this with h | h
    · omega
    · exact List.all_eq_true.1 h j (List.mem_range.2 hj)
end
end Rg
end Go.Proofs.YtbbocdamhkkiiaaDoor
end
section
namespace Go.Proofs.YtbbocdamhkkiiaaDoor
open Go.RowKit
/-- What Divide makes of its divisor: s + 1 words, shifted by sh. -/
theorem div_parts (b : Nat) (hb : b < big) (h0 : b ≠ 0) : ∃ s sh : Nat, s ≤ 5 ∧ sh < 64 ∧ bl b + sh = 64 * (s + 1) ∧ (bl b + 63) / 64 = s + 1 ∧ 0 < b * 2 ^ sh ∧ b * 2 ^ sh < 2 ^ (64 * (s + 1)) ∧ 2 ^ (64 * (s + 1) - 1) ≤ b * 2 ^ sh := by
  have hlt : bl b ≤ 384 := by
    obtain ⟨n, hn, e⟩ := big_pow
    rw [e] at hb
    have := bl_le_of b _ hb
    omega
  have hp := bl_pos b h0
  have h1 := bl_lt b
  have h2 := bl_le b h0
  refine ⟨(bl b + 63) / 64 - 1, 64 * ((bl b + 63) / 64) - bl b, by omega, by omega, by omega, by omega, Nat.mul_pos (by omega) (Nat.two_pow_pos _), ?_, ?_⟩
  · have e : 64 * ((bl b + 63) / 64 - 1 + 1) = bl b + (64 * ((bl b + 63) / 64) - bl b) := by omega
    rw [e, Nat.pow_add]
    exact Nat.mul_lt_mul_of_pos_right h1 (Nat.two_pow_pos _)
  · have e : 64 * ((bl b + 63) / 64 - 1 + 1) - 1 = (bl b - 1) + (64 * ((bl b + 63) / 64) - bl b) := by omega
    rw [e, Nat.pow_add]
    exact Nat.mul_le_mul_right _ h2
/-- The words of v from place k on, noughts below. -/
def topPart (v k j : Nat) : Int := if k ≤ j then wd v j else 0
theorem topPart_step {v k : Nat} {x : Int} (h : x = wd v k) (j : Nat) : upd (topPart v (k + 1)) k x j = topPart v k j := by
  unfold upd topPart
  by_cases h1 : j = k
  · subst h1; simp [h]
  · rw [if_neg h1]
    by_cases h2 : k ≤ j
    · rw [if_pos h2, if_pos (by omega)]
    · rw [if_neg h2, if_neg (by omega)]
theorem step_quo (A d i : Nat) : A % (d * 2 ^ (64 * (i + 1))) / 2 ^ (64 * i) / d = wn (A / d) i := by
  rw [pow_step, ← Nat.mul_assoc, Nat.div_div_eq_div_mul, Nat.mul_comm (2 ^ (64 * i)) d, Nat.mod_mul_right_div_self]
  unfold wn
  rw [Nat.div_div_eq_div_mul]
theorem step_rest (A d i : Nat) : glue (A % (d * 2 ^ (64 * (i + 1)))) i (A % (d * 2 ^ (64 * (i + 1))) / 2 ^ (64 * i) % d) = A % (d * 2 ^ (64 * i)) := by
  unfold glue
  rw [← Nat.mod_mul, Nat.mul_comm (2 ^ (64 * i)) d, pow_step, ← Nat.mul_assoc, Nat.mod_mul_right_mod]
theorem step_lt (A d i : Nat) (hd : 0 < d) : A % (d * 2 ^ (64 * (i + 1))) / 2 ^ (64 * i) < d * 18446744073709551616 := by
  have hp := pow_pos' i
  rw [Nat.div_lt_iff_lt_mul hp, Nat.mul_assoc, Nat.mul_comm 18446744073709551616, ← pow_step]
  exact Nat.mod_lt _ (Nat.mul_pos hd (pow_pos' _))
theorem start_rest (a d s sh : Nat) (ha : a < big) (hs : s ≤ 5) (hsh : sh < 64) (hd : 2 ^ (64 * (s + 1) - 1) ≤ d) : a * 2 ^ sh < d * 2 ^ (64 * (6 - s)) := by
  have h1 : a * 2 ^ sh < big * 2 ^ sh := Nat.mul_lt_mul_of_pos_right ha (Nat.two_pow_pos sh)
  obtain ⟨n, hn, e⟩ := big_pow
  rw [e, ← Nat.pow_add] at h1
  have h2 : 2 ^ (64 * (s + 1) - 1) * 2 ^ (64 * (6 - s)) ≤ d * 2 ^ (64 * (6 - s)) := Nat.mul_le_mul_right _ hd
  rw [← Nat.pow_add] at h2
  exact Nat.lt_of_lt_of_le h1 (Nat.le_trans (pow_le' _ _ (by omega)) h2)
theorem quo_high (Q A d k j : Nat) (hQ : Q = A / d) (hd : 0 < d) (h : A < d * 2 ^ (64 * k)) (hj : k ≤ j) : wd Q j = 0 :=
  wd_top' Q k j (by rw [hQ, Nat.div_lt_iff_lt_mul hd, Nat.mul_comm]; exact h) hj
theorem shv_back (x sh : Nat) (hx : x < big) (hsh : sh < 64) : shv x (-(sh : Int)) = x / 2 ^ sh := by
  unfold shv
  rw [if_neg (by omega)]
  by_cases h : sh = 0
  · subst h
    rw [if_neg (by omega), Int.natCast_zero, Int.neg_zero, Int.toNat_zero, Nat.pow_zero, Nat.mul_one, Nat.div_one, Nat.mod_eq_of_lt hx]
  · rw [if_pos (by omega), Int.neg_neg, Int.toNat_natCast]
theorem mod_back (a b sh : Nat) : a * 2 ^ sh % (b * 2 ^ sh) / 2 ^ sh = a % b := by
  rw [Nat.mul_mod_mul_right, Nat.mul_div_cancel _ (Nat.two_pow_pos sh)]
end Go.Proofs.YtbbocdamhkkiiaaDoor
end
section
namespace Go.Proofs.YtbbocdamhkkiiaaDoor
open Go.RowKit
/-- What stands in memory while Divide runs: a, b, two results. -/
structure DM (w wr : World) (a b : Nat) : Prop where
  ra : Row wr w.heap.size 6 (wd a)
  rb : Row wr (w.heap.size + 1) 6 (wd b)
  r2 : Row wr (w.heap.size + 1 + 1) 6 (fun _ => 0)
  r3 : Row wr (w.heap.size + 1 + 1 + 1) 6 (fun _ => 0)
  bl : Below w.heap.size w wr
  sz : w.heap.size + 1 + 1 + 1 < wr.heap.size
theorem DM.start (w : World) (a b : Nat) : DM w ((((w.alloc (O6 a)).alloc (O6 b)).alloc Z6).alloc Z6) a b :=
  ⟨(((Row.new w _ 24 rfl (six_lt rfl)).alloc (by first | omega | (simp <;> omega)) _).alloc (by first | omega | (simp <;> omega)) _).alloc (by first | omega | (simp <;> omega)) _,
   ((Row.new _ _ 24 (by first | omega | (simp <;> omega)) (six_lt rfl)).alloc (by first | omega | (simp <;> omega)) _).alloc (by first | omega | (simp <;> omega)) _,
   (Row.new _ _ 24 (by first | omega | (simp <;> omega)) (six_lt (f := fun _ => 0) rfl)).alloc (by first | omega | (simp <;> omega)) _,
   Row.new _ _ 24 (by first | omega | (simp <;> omega)) (six_lt (f := fun _ => 0) rfl),
   ((((Below.refl _ _).alloc (Nat.le_refl _) _).alloc (by first | omega | (simp <;> omega)) _).alloc (by first | omega | (simp <;> omega)) _).alloc (by first | omega | (simp <;> omega)) _,
   by simp⟩
theorem DM.below {w wr w1 : World} {a b : Nat} (h : DM w wr a b) (hb : Below wr.heap.size wr w1) : DM w w1 a b :=
  have := h.sz
  ⟨Row.below hb h.ra (by omega), Row.below hb h.rb (by omega), Row.below hb h.r2 (by omega), Row.below hb h.r3 (by omega), h.bl.trans (hb.mono (by omega)), Nat.lt_of_lt_of_le h.sz hb.size⟩
theorem DM.alloc {w wr : World} {a b : Nat} (h : DM w wr a b) (o : Obj) : DM w (wr.alloc o) a b :=
  have := h.sz
  ⟨h.ra.alloc (by omega) o, h.rb.alloc (by omega) o, h.r2.alloc (by omega) o, h.r3.alloc (by omega) o, h.bl.alloc (by omega) o, by simp; omega⟩
theorem DM.drew {w wr : World} {a b : Nat} (h : DM w wr a b) : DM w wr.drew a b := ⟨h.ra.drew, h.rb.drew, h.r2.drew, h.r3.drew, h.bl.drew, h.sz⟩
theorem DM.set {w wr : World} {a b : Nat} (h : DM w wr a b) {p : Addr} (hp : w.heap.size + 1 + 1 + 1 < p.block) (v : Value) : DM w (wr.setCell p v) a b :=
  ⟨h.ra.set_other _ (by omega), h.rb.set_other _ (by omega), h.r2.set_other _ (by omega), h.r3.set_other _ (by omega), h.bl.setCell (by omega) _, by simpa [World.setCell] using h.sz⟩
theorem DM.past7 {w wr : World} {a b : Nat} (h : DM w wr a b) {g : Nat} (hp : w.heap.size + 1 + 1 + 1 < g) (v0 v1 v2 v3 v4 v5 v6 : Value) : DM w (((((((wr.setCell ⟨g, 0, none⟩ v0).setCell ⟨g, 1, none⟩ v1).setCell ⟨g, 2, none⟩ v2).setCell ⟨g, 3, none⟩ v3).setCell ⟨g, 4, none⟩ v4).setCell ⟨g, 5, none⟩ v5).setCell ⟨g, 6, none⟩ v6) a b :=
  ((((((h.set (p := ⟨g, 0, none⟩) hp _).set (p := ⟨g, 1, none⟩) hp _).set (p := ⟨g, 2, none⟩) hp _).set (p := ⟨g, 3, none⟩) hp _).set (p := ⟨g, 4, none⟩) hp _).set (p := ⟨g, 5, none⟩) hp _).set (p := ⟨g, 6, none⟩) hp _
set_option maxHeartbeats 4000000 in
set_option maxRecDepth 100000 in
theorem divide_some (a b : Nat) (ha : a < big) (hb : b < big) (h0 : b ≠ 0) (w : World) :
    Calls Tryd.prog 22 #[N a, N b] w fun e w' => e = .returned (.tuple #[N (a / b), N (a % b), .int .i64 0]) ∧ Below w.heap.size w w' := by
  obtain ⟨s, sh, hs, hsh, hbl, hbl2, hd0, hd1, hd2⟩ := div_parts b hb h0
  have he := fun w => run_eqZ b hb w
  simp only [decide_eq_false h0] at he
  have cl := fun w => len_any b hb w
  have c1 := fun w => shift_up b sh (by omega) w
  have c2 := fun w => shiftLong_any a sh ha hsh w
  have hdb : b * 2 ^ sh < big := Nat.lt_of_lt_of_le hd1 (by
    obtain ⟨n, hn, e⟩ := big_pow
    rw [e]; exact pow_mono _ _ (by omega))
  rw [Nat.mod_eq_of_lt hdb] at c1
  obtain ⟨d, hd⟩ : ∃ d, d = b * 2 ^ sh := ⟨_, rfl⟩
  obtain ⟨A, hA⟩ : ∃ A, A = a * 2 ^ sh := ⟨_, rfl⟩
  obtain ⟨Q, hQ⟩ : ∃ Q, Q = a / b := ⟨_, rfl⟩
  have hQA : Q = A / d := by rw [hQ, hA, hd, Nat.mul_div_mul_right _ _ (Nat.two_pow_pos sh)]
  have hR : A % d / 2 ^ sh = a % b := by rw [hA, hd, mod_back]
  have hst := start_rest a d s sh ha hs hsh (by rw [hd]; exact hd2)
  rw [← hd] at c1 hd0 hd1 hdb
  rw [← hA] at c2 hst
  rw [← hQ]
  have HCL : Hid _ := cl
  have HC1 : Hid _ := c1
  have HC2 : Hid _ := c2
  have HM : Hid (Q = A / d ∧ A % d / 2 ^ sh = a % b ∧ A < d * 2 ^ (64 * (6 - s)) ∧ 0 < d ∧ d < 2 ^ (64 * (s + 1)) ∧ d < big) := ⟨hQA, hR, hst, hd0, hd1, hdb⟩
  have HL : Hid (bl b + sh = 64 * (s + 1)) := hbl
  have hl1 : (bl b : Int) ≤ 384 := by omega
  have hl2 : ((bl b : Int) + 64 - 1) / 64 = (s : Int) + 1 := by omega
  have hl3 : ((s : Int) + 1) * 64 - (bl b : Int) = (sh : Int) := by omega
  clear cl c1 c2 hdb hd hA hQ hQA hR hst hd0 hd1 hd2 ha hb h0 hbl hbl2
  go_enter Tryd.func22, Tryd.ntmps22
  go_wp2_with fail
  refine (HCL.out _).mono ?_
  rintro e w1 ⟨rfl, hb1⟩
  have d1 := (DM.start w a b).below hb1
  obtain ⟨b0, b1, b2, b3, b4, b5⟩ := d1.rb.reads
  have D1 : Hid _ := d1
  clear d1 hb1
  go_wp2_with fail
  refine (HCL.out _).mono ?_
  rintro e w2 ⟨rfl, hb2⟩
  have d2 := D1.out.below hb2
  clear b0 b1 b2 b3 b4 b5 hb2 D1
  obtain ⟨b0, b1, b2, b3, b4, b5⟩ := d2.rb.reads
  have D2 : Hid _ := d2
  clear d2
  go_wp2_with fail
  refine (HC1.out _).mono ?_
  rintro e w3 ⟨rfl, hb3⟩
  have d3 := D2.out.below hb3
  clear b0 b1 b2 b3 b4 b5 hb3 D2
  obtain ⟨a0, a1, a2, a3, a4, a5⟩ := d3.ra.reads
  have z3 : w.heap.size < w3.heap.size := by have := d3.sz; omega
  have D3 : Hid _ := d3
  clear d3
  go_wp2_with fail
  refine (HC2.out _).mono ?_
  rintro e w4 ⟨rfl, hb4⟩
  have d4 := (D3.out.alloc (O6 d)).below hb4
  have r4 : Row w4 w3.heap.size 6 (wd d) := Row.below hb4 (Row.new w3 _ 24 rfl (six_lt rfl)) (by simp)
  have z4 : w3.heap.size < w4.heap.size := by have := hb4.size; simp at this; omega
  have z5 : w.heap.size + 1 + 1 + 1 < w3.heap.size := D3.out.sz
  have D4 : Hid (_ ∧ _ ∧ _ ∧ _) := ⟨d4, r4, z4, z5⟩
  clear a0 a1 a2 a3 a4 a5 z3 hb4 D3 d4 r4 HCL HC1 HC2 z4 z5
  go_wp2
  go_loopw [12] (fun iv wr => ∃ k : Nat, k + s ≤ 6 ∧ iv = .int .i64 ((k : Int) - 1) ∧ DM w wr a b ∧ Row wr w3.heap.size 6 (wd d) ∧ Row wr w4.heap.size 7 (wd (A % (d * 2 ^ (64 * k)))) ∧ Row wr (w4.heap.size + 1) 6 (topPart Q k) ∧ w4.heap.size + 1 < wr.heap.size) (fun i _ => (RowKit.intOf i + 1).toNat)
  case atStart =>
    obtain ⟨d4, r4, z4, z5⟩ := D4.out
    obtain ⟨m1, m2, m3, m4, m5, m6⟩ := HM.out
    refine ⟨6 - s, by omega, congrArg (Value.int .i64) (by omega), (d4.alloc _).alloc _, (r4.alloc z4 _).alloc (by simp; omega) _, ?_, ?_, by simp⟩
    · rw [Nat.mod_eq_of_lt m3]
      exact (Row.new w4 _ 61 rfl (seven_lt (f := wd A) rfl)).alloc (by simp) _
    · refine (Row.new _ _ 24 (by simp) (six_lt (f := fun _ => 0) rfl)).congr (fun j _ => ?_)
      unfold topPart
      split
      · exact (quo_high Q A d (6 - s) j m1 m4 m3 ‹_›).symm
      · rfl
  case round =>
    obtain ⟨k, hk, rfl, q1, q2, q3, q4, q5⟩ := hrel
    have z4 := D4.out.2.2.1
    have z5 := D4.out.2.2.2
    obtain ⟨b0, b1, b2, b3, b4, b5⟩ := q2.reads
    obtain ⟨a0, a1, a2, a3, a4, a5, a6⟩ := q3.reads7
    by_cases hk0 : 1 ≤ k
    · obtain ⟨i, rfl⟩ : ∃ i, k = i + 1 := ⟨k - 1, by omega⟩
      rw [show (((i + 1 : Nat) : Int) - 1) = (i : Int) by omega]
      have hc : Hid (∀ (wz : World), Calls Tryd.prog 39 #[L7 (A % (d * 2 ^ (64 * (i + 1)))), N d, .int .i64 i, .int .i64 ((s : Int) + 1)] wz fun e w' => e = .returned (.tuple #[.int .u64 (wn Q i : Nat), L7 (A % (d * 2 ^ (64 * i)))]) ∧ Below wz.heap.size wz w') := by
        intro wz
        obtain ⟨m1, m2, m3, m4, m5, m6⟩ := HM.out
        have := divideStep_any (A % (d * 2 ^ (64 * (i + 1)))) d i s m4 m5 (step_lt A d i m4) (by omega) wz
        rw [step_quo, step_rest, ← m1] at this
        exact this
      have HF : Hid (_ ∧ _ ∧ _ ∧ _ ∧ _ ∧ _ ∧ _) := ⟨q1, q2, q3, q4, q5, z4, z5⟩
      clear q1 q2 q3 q4 q5 z4 z5
      generalize hRe : A % (d * 2 ^ (64 * (i + 1))) = R at a0 a1 a2 a3 a4 a5 a6 hc
      generalize hRn : A % (d * 2 ^ (64 * i)) = R2 at hc
      have HRe : Hid _ := hRe
      have HRn : Hid _ := hRn
      clear hRe hRn
      go_wp2_with fail
      refine (hc.out _).mono ?_
      rintro e wt ⟨rfl, hbt⟩
      obtain ⟨q1, q2, q3, q4, q5, z4, z5⟩ := HF.out
      have r1 := q1.below hbt
      have r2 := Row.below hbt q2 (by omega)
      have r3 := Row.below hbt q3 (by omega)
      have r4 := Row.below hbt q4 q5
      have r5 : w4.heap.size + 1 < wt.heap.size := Nat.lt_of_lt_of_le q5 hbt.size
      clear hbt a0 a1 a2 a3 a4 a5 a6 b0 b1 b2 b3 b4 b5 q1 q2 q3 q4 q5 HF
      obtain ⟨a0, a1, a2, a3, a4, a5, a6⟩ := r3.reads7
      obtain ⟨w0, w1', w2', w3', w4', w5, w6⟩ := r3.writes7
      obtain ⟨k1, k2⟩ := r4 i (by omega)
      have HF : Hid (_ ∧ _ ∧ _ ∧ _ ∧ _ ∧ _ ∧ _) := ⟨r1, r2, r3, r4, r5, z4, z5⟩
      clear r1 r2 r3 r4 r5 z4 z5
      go_wp2
      go_roundw
      case rel =>
        obtain ⟨r1, r2, r3, r4, r5, z4, z5⟩ := HF.out
        refine ⟨i, by omega, by go_num, (r1.set (by simp <;> omega) _).past7 (by omega) _ _ _ _ _ _ _, (r2.set_other _ (by simp <;> omega)).past7 (by omega) _ _ _ _ _ _ _, ?_, (((r4.set _).congr (fun j _ => topPart_step (v := Q) (k := i) rfl j)).past7 (by omega) _ _ _ _ _ _ _), by rw [size7]; simpa [World.setCell] using r5⟩
        rw [HRn.out]
        exact (r3.set_other (a := ⟨w4.heap.size + 1, i, none⟩) _ (by simp)).store7 (wd R2)
      case measure => simp [RowKit.intOf] <;> omega
    · have hk00 : k = 0 := by omega
      subst hk00
      rw [show (((0 : Nat) : Int) - 1) = -1 from rfl]
      obtain ⟨m1, m2, m3, m4, m5, m6⟩ := HM.out
      have hRlt : A % d < big := Nat.lt_trans (Nat.mod_lt A m4) m6
      have eR : A % (d * 2 ^ (64 * 0)) = A % d := by rw [Nat.mul_zero, Nat.pow_zero, Nat.mul_one]
      rw [eR] at a0 a1 a2 a3 a4 a5 a6
      have cl := fun w => lower_any (A % d) w
      rw [Nat.mod_eq_of_lt hRlt] at cl
      have cs := fun w => shift_any (A % d) (-(sh : Int)) hRlt w
      rw [shv_back _ _ hRlt hsh, m2] at cs
      have CL : Hid _ := cl
      have CS : Hid _ := cs
      obtain ⟨e0, e1, e2, e3, e4, e5⟩ := q4.reads
      have et : ∀ j, topPart Q 0 j = wd Q j := fun j => if_pos (Nat.zero_le _)
      rw [et] at e0 e1 e2 e3 e4 e5
      have p0_0 : w.heap.size + 1 + 1 < wr.heap.size := by have := q1.sz; omega
      have p0_1 : w.heap.size + 1 + 1 + 1 < wr.heap.size := q1.sz
      have p0_2 : w4.heap.size < wr.heap.size := by omega
      have p0_3 : w4.heap.size + 1 < wr.heap.size := q5
      obtain ⟨x0, x1, x2, x3, x4, x5⟩ := q1.r2.reads
      obtain ⟨t0, t1, t2, t3, t4, t5⟩ := q1.r2.writes
      obtain ⟨y0, y1, y2, y3, y4, y5⟩ := q1.r3.reads
      obtain ⟨u0, u1, u2, u3, u4, u5⟩ := q1.r3.writes
      have ew : IntKind.i64.wrap (-(sh : Int)) = -(sh : Int) := by rw [IntKind.wrap_i64]; omega
      have HW : Hid (Below w.heap.size w wr) := q1.bl
      have n1 : ¬ (w.heap.size + 1 = w4.heap.size) := by omega
      have n2 : ¬ (w.heap.size + 1 + 1 = w4.heap.size) := by omega
      have n3 : ¬ (w.heap.size + 1 + 1 + 1 = w4.heap.size) := by omega
      clear cl cs q1 q2 q3 q4 q5 z4 z5 m1 m2 m3 m4 m5 m6 hRlt eR et D4 HM HL b0 b1 b2 b3 b4 b5
      generalize A % d = R at a0 a1 a2 a3 a4 a5 a6 CL CS
      go_wp2
      go_region_held3 (fun w' => w'.cell? ⟨w4.heap.size, 0, none⟩ = some (.int .u64 (wd R 0)) ∧ w'.cell? ⟨w4.heap.size, 1, none⟩ = some (.int .u64 (wd R 1)) ∧ w'.cell? ⟨w4.heap.size, 2, none⟩ = some (.int .u64 (wd R 2)) ∧ w'.cell? ⟨w4.heap.size, 3, none⟩ = some (.int .u64 (wd R 3)) ∧ w'.cell? ⟨w4.heap.size, 4, none⟩ = some (.int .u64 (wd R 4)) ∧ w'.cell? ⟨w4.heap.size, 5, none⟩ = some (.int .u64 (wd R 5)) ∧ w'.cell? ⟨w4.heap.size, 6, none⟩ = some (.int .u64 (wd R 6)) ∧ w'.cell? ⟨w4.heap.size + 1, 0, none⟩ = some (.int .u64 (wd Q 0)) ∧ w'.cell? ⟨w4.heap.size + 1, 1, none⟩ = some (.int .u64 (wd Q 1)) ∧ w'.cell? ⟨w4.heap.size + 1, 2, none⟩ = some (.int .u64 (wd Q 2)) ∧ w'.cell? ⟨w4.heap.size + 1, 3, none⟩ = some (.int .u64 (wd Q 3)) ∧ w'.cell? ⟨w4.heap.size + 1, 4, none⟩ = some (.int .u64 (wd Q 4)) ∧ w'.cell? ⟨w4.heap.size + 1, 5, none⟩ = some (.int .u64 (wd Q 5))) (simp [go_sem, *])
        (first
          | (go_at_call 40; refine (CL.out _).mono ?_; rintro e v1 ⟨rfl, hb1⟩; obtain ⟨hc1, hf1⟩ := bcell hb1; have c1_0 := fun o => hc1 _ o p0_0; have f1_0 := fun o => hf1 _ o p0_0; have p1_0 := Nat.lt_of_lt_of_le p0_0 hb1.size; have c1_1 := fun o => hc1 _ o p0_1; have f1_1 := fun o => hf1 _ o p0_1; have p1_1 := Nat.lt_of_lt_of_le p0_1 hb1.size; have c1_2 := fun o => hc1 _ o p0_2; have f1_2 := fun o => hf1 _ o p0_2; have p1_2 := Nat.lt_of_lt_of_le p0_2 hb1.size; have c1_3 := fun o => hc1 _ o p0_3; have f1_3 := fun o => hf1 _ o p0_3; have p1_3 := Nat.lt_of_lt_of_le p0_3 hb1.size; clear hc1 hf1)
          | (go_at_call 28; refine (CS.out _).mono ?_; rintro e v2 ⟨rfl, hb2⟩; obtain ⟨hc2, hf2⟩ := bcell hb2; have c2_0 := fun o => hc2 _ o p1_0; have f2_0 := fun o => hf2 _ o p1_0; have p2_0 := Nat.lt_of_lt_of_le p1_0 hb2.size; have c2_1 := fun o => hc2 _ o p1_1; have f2_1 := fun o => hf2 _ o p1_1; have p2_1 := Nat.lt_of_lt_of_le p1_1 hb2.size; have c2_2 := fun o => hc2 _ o p1_2; have f2_2 := fun o => hf2 _ o p1_2; have p2_2 := Nat.lt_of_lt_of_le p1_2 hb2.size; have c2_3 := fun o => hc2 _ o p1_3; have f2_3 := fun o => hf2 _ o p1_3; have p2_3 := Nat.lt_of_lt_of_le p1_3 hb2.size; clear hc2 hf2))
      go_wp2
      have hw2 : Below w.heap.size w v2 := (HW.out.drew.trans (hb1.mono (show w.heap.size ≤ wr.heap.size by omega))).trans (hb2.mono (by omega))
      refine bodyPost_ret (v := .tuple #[N Q, N (a % b), .int .i64 0]) ?_ rfl ⟨rfl, ?_⟩
      · simp [results, Tryd.results22, go_sem, *]
      · exact below6 (below6 hw2 (by omega) _ _ _ _ _ _) (by omega) _ _ _ _ _ _
end Go.Proofs.YtbbocdamhkkiiaaDoor
end
section
namespace Go.Proofs.YtbbocdamhkkiiaaDoor
open Go.RowKit
theorem small_big (n : Nat) (h : n < 18446744073709551616) : n < big := Nat.lt_of_lt_of_le (show n < 2 ^ 64 from h) (by
  obtain ⟨m, hm, e⟩ := big_pow
  rw [e]; exact pow_le' _ _ (by omega))
theorem eq_same (n : Nat) (hn : n < 18446744073709551616) (w : World) : (Op.equalIn 10000 24 (N n) (N n)).run Tryd.prog w = .ok true w := by
  rw [run_eqN n n (small_big n hn) (small_big n hn), decide_eq_true rfl]
end Go.Proofs.YtbbocdamhkkiiaaDoor
end
section
namespace Go.Proofs.YtbbocdamhkkiiaaDoor
open Go.RowKit Go.Lib
theorem twelve_zero {c : Array Value} (h : c = #[.int .u64 0, .int .u64 0, .int .u64 0, .int .u64 0, .int .u64 0, .int .u64 0, .int .u64 0, .int .u64 0, .int .u64 0, .int .u64 0, .int .u64 0, .int .u64 0]) : ∀ j, j < 12 → c[j]? = some (.int .u64 0) := by
  subst h
  intro j hj
  match j, hj with
  | 0, _ | 1, _ | 2, _ | 3, _ | 4, _ | 5, _ | 6, _ | 7, _ | 8, _ | 9, _ | 10, _ | 11, _ => rfl
/-- What stands in memory while Mul runs: a, b, two results, the product. -/
structure MulMem (w wr : World) (a b : Nat) (p : Nat → Int) : Prop where
  ra : Row wr w.heap.size 6 (wd a)
  rb : Row wr (w.heap.size + 1) 6 (wd b)
  rl : Row wr (w.heap.size + 1 + 1) 6 (fun _ => 0)
  rh : Row wr (w.heap.size + 1 + 1 + 1) 6 (fun _ => 0)
  rp : Row wr (w.heap.size + 1 + 1 + 1 + 1) 12 p
  bl : Below w.heap.size w wr
  sz : wr.heap.size = w.heap.size + 1 + 1 + 1 + 1 + 1
theorem MulMem.store {w wr : World} {a b : Nat} {p : Nat → Int} (h : MulMem w wr a b p) (k : Nat) (v : Int) : MulMem w (wr.setCell ⟨w.heap.size + 1 + 1 + 1 + 1, k, none⟩ (.int .u64 v)) a b (upd p k v) :=
  ⟨h.ra.set_other _ (by first | omega | (simp <;> omega)), h.rb.set_other _ (by first | omega | (simp <;> omega)), h.rl.set_other _ (by first | omega | (simp <;> omega)), h.rh.set_other _ (by first | omega | (simp <;> omega)), h.rp.set _, h.bl.setCell (by first | omega | (simp <;> omega)) _, by simp [World.setCell, h.sz]⟩
theorem MulMem.drew {w wr : World} {a b : Nat} {p : Nat → Int} (h : MulMem w wr a b p) : MulMem w wr.drew a b p :=
  ⟨h.ra.drew, h.rb.drew, h.rl.drew, h.rh.drew, h.rp.drew, h.bl.drew, h.sz⟩
theorem MulMem.congr {w wr : World} {a b : Nat} {p p' : Nat → Int} (h : MulMem w wr a b p) (e : ∀ j, j < 12 → p j = p' j) : MulMem w wr a b p' :=
  ⟨h.ra, h.rb, h.rl, h.rh, h.rp.congr e, h.bl, h.sz⟩
set_option maxHeartbeats 3200000 in
set_option maxRecDepth 100000 in
theorem mul_any (a b : Nat) (ha : a < big) (hb : b < big) (w : World) :
    Calls Tryd.prog 20 #[N a, N b] w fun e w' => e = .returned (.tuple #[N (a * b % big), N (a * b / big)]) ∧ Below w.heap.size w w' := by
  have HA : Hid (a < big) := ha
  have HB : Hid (b < big) := hb
  clear ha hb
  go_enter Tryd.func20, Tryd.ntmps20
  go_wp2
  go_loopw [13] (fun i wr => ∃ k : Nat, k ≤ 6 ∧ i = .int .i64 k ∧ MulMem w wr a b (wd ((a % 2 ^ (64 * k)) * b))) (fun i _ => 6 - (RowKit.intOf i).toNat)
  case atStart =>
    refine ⟨0, by omega, rfl, ?_, ?_, ?_, ?_, ?_, ?_, ?_⟩
    · exact ((((Row.new w _ 24 rfl (six_lt rfl)).alloc (by first | omega | (simp <;> omega)) _).alloc (by first | omega | (simp <;> omega)) _).alloc (by first | omega | (simp <;> omega)) _).alloc (by first | omega | (simp <;> omega)) _
    · exact (((Row.new _ _ 24 (by first | omega | (simp <;> omega)) (six_lt rfl)).alloc (by first | omega | (simp <;> omega)) _).alloc (by first | omega | (simp <;> omega)) _).alloc (by first | omega | (simp <;> omega)) _
    · exact ((Row.new _ _ 24 (by first | omega | (simp <;> omega)) (six_lt (f := fun _ => 0) rfl)).alloc (by first | omega | (simp <;> omega)) _).alloc (by first | omega | (simp <;> omega)) _
    · exact (Row.new _ _ 24 (by first | omega | (simp <;> omega)) (six_lt (f := fun _ => 0) rfl)).alloc (by first | omega | (simp <;> omega)) _
    · exact (Row.new _ _ 57 (by first | omega | (simp <;> omega)) (f := fun _ => 0) (twelve_zero rfl)).congr (fun j _ => by simp [wd, Nat.mod_one])
    · exact (((((Below.refl _ _).alloc (Nat.le_refl _) _).alloc (by first | omega | (simp <;> omega)) _).alloc (by first | omega | (simp <;> omega)) _).alloc (by first | omega | (simp <;> omega)) _).alloc (by first | omega | (simp <;> omega)) _
    · simp
  case round =>
    obtain ⟨i, hi, rfl, hM⟩ := hrel
    by_cases hlt : i < 6
    · have HM : Hid _ := hM
      clear hM
      have hd : decide ((i : Int) < 6) = true := by simp; omega
      go_wp2
      go_loopw [8, 16] (fun c jv wq => ∃ j : Nat, j ≤ 6 ∧ jv = .int .i64 j ∧ c = .int .u64 (mc a b i j) ∧ MulMem w wq a b (pm ((a % 2 ^ (64 * i)) * b) (sm a b i j) (i + j))) (fun _ j _ => 6 - (RowKit.intOf j).toNat)
      case atStart => exact ⟨0, by omega, rfl, by rw [mc_zero], HM.out.congr (fun m _ => (pm_start a b i m).symm)⟩
      case round =>
        obtain ⟨j, hj, rfl, rfl, hQ⟩ := hrel
        by_cases hjl : j < 6
        · have hA1 := (hQ.ra i hlt).1
          have hB1 := (hQ.rb j hjl).1
          obtain ⟨hP1, hP2⟩ := hQ.rp (i + j) (by omega)
          have ep : pm ((a % 2 ^ (64 * i)) * b) (sm a b i j) (i + j) (i + j) = wd ((a % 2 ^ (64 * i)) * b) (i + j) := by unfold pm; rw [if_neg (by omega)]
          rw [ep] at hP1
          clear ep
          have HQ : Hid _ := hQ
          clear hQ HM
          have hc := fun w => mulAdd_any (wd a i) (wd b j) (wd ((a % 2 ^ (64 * i)) * b) (i + j)) (mc a b i j) (wd_bd _ _).1 (wd_bd _ _).2 (wd_bd _ _).1 (wd_bd _ _).2 (wd_bd _ _).1 (wd_bd _ _).2 (mc_bd _ _ _ _).1 (mc_bd _ _ _ _).2 w
          have HC : Hid _ := hc
          clear hc
          have et : ((i : Int) + (j : Int)).toNat = i + j := by omega
          have e0 : (0 : Int) ≤ (i : Int) + (j : Int) := by omega
          have e1 : (i : Int) + (j : Int) < 12 := by omega
          have ew : IntKind.i64.wrap ((i : Int) + (j : Int)) = (i : Int) + (j : Int) := by rw [IntKind.wrap_i64]; omega
          go_wp2
          go_region_with (go_at_call 37; refine (HC.out _).mono ?_; rintro e w' ⟨rfl, rfl⟩)
          all_goals
            go_wp2
            go_roundw
            case rel =>
              rw [mul_hi, mul_lo]
              exact ⟨j + 1, by omega, by go_num, rfl, (HQ.out.store (i + j) _).drew.congr (fun m _ => pm_step a b i j m)⟩
            case measure => simp [RowKit.intOf]; omega
        · have hj6 : j = 6 := by omega
          subst hj6
          obtain ⟨hP1, hP2⟩ := hQ.rp (i + 6) (by omega)
          have HQ : Hid _ := hQ
          clear hQ HM
          rw [show ((6 : Nat) : Int) = 6 from rfl]
          go_wp2
          go_roundw
          case rel => exact ⟨i + 1, by omega, by go_num, (HQ.out.store (i + 6) _).congr (fun m _ => pm_end a b i m HB.out)⟩
          case measure => simp [RowKit.intOf]; omega
    · have hi6 : i = 6 := by omega
      subst hi6
      have hM2 : MulMem w wr a b (wd (a * b)) := by
        rw [← big_eq, Nat.mod_eq_of_lt HA.out] at hM
        exact hM
      clear hM
      have hsz := hM2.sz
      have HM : Hid _ := hM2
      clear hM2
      rw [show ((6 : Nat) : Int) = 6 from rfl]
      go_wp2
      go_loopw [45] (fun i wq => ∃ k : Nat, k ≤ 6 ∧ i = .int .i64 k ∧ Row wq (w.heap.size + 1 + 1) 6 (fun _ => 0) ∧ Row wq (w.heap.size + 1 + 1 + 1) 6 (fun _ => 0) ∧ Row wq (w.heap.size + 1 + 1 + 1 + 1) 12 (wd (a * b)) ∧ Row wq (w.heap.size + 1 + 1 + 1 + 1 + 1) 6 (part (a * b) k) ∧ Row wq (w.heap.size + 1 + 1 + 1 + 1 + 1 + 1) 6 (part (a * b / big) k) ∧ Below w.heap.size w wq) (fun i _ => 6 - (RowKit.intOf i).toNat)
      case atStart =>
        have h := HM.out
        refine ⟨0, by omega, rfl, ?_, ?_, ?_, ?_, ?_, ?_⟩
        · exact (h.rl.alloc (by first | omega | (simp <;> omega)) _).alloc (by first | omega | (simp <;> omega)) _
        · exact (h.rh.alloc (by first | omega | (simp <;> omega)) _).alloc (by first | omega | (simp <;> omega)) _
        · exact (h.rp.alloc (by first | omega | (simp <;> omega)) _).alloc (by first | omega | (simp <;> omega)) _
        · exact (Row.new _ _ 24 (by first | omega | (simp <;> omega)) (six_lt (f := part (a * b) 0) rfl)).alloc (by first | omega | (simp <;> omega)) _
        · exact Row.new _ _ 24 (by first | omega | (simp <;> omega)) (six_lt (f := part (a * b / big) 0) rfl)
        · exact (h.bl.alloc (by first | omega | (simp <;> omega)) _).alloc (by first | omega | (simp <;> omega)) _
      case round =>
        clear HM hsz
        obtain ⟨k, hk, rfl, h1, h2, h3, h4, h5, h6⟩ := hrel
        by_cases hlt2 : k < 6
        · obtain ⟨p1, _⟩ := h3 k (by omega)
          obtain ⟨p2, _⟩ := h3 (k + 6) (by omega)
          obtain ⟨q1, q2⟩ := h4 k hlt2
          obtain ⟨q3, q4⟩ := h5 k hlt2
          have HR : Hid (_ ∧ _ ∧ _ ∧ _ ∧ _ ∧ _) := ⟨h1, h2, h3, h4, h5, h6⟩
          clear h1 h2 h3 h4 h5 h6
          go_wp2
          go_region
          go_wp2
          go_roundw
          case rel =>
            obtain ⟨h1, h2, h3, h4, h5, h6⟩ := HR.out
            refine ⟨k + 1, by omega, by go_num, ?_, ?_, ?_, ?_, ?_, ?_⟩
            · exact ((h1.set_other _ (by first | omega | (simp <;> omega))).set_other _ (by first | omega | (simp <;> omega))).drew
            · exact ((h2.set_other _ (by first | omega | (simp <;> omega))).set_other _ (by first | omega | (simp <;> omega))).drew
            · exact ((h3.set_other _ (by first | omega | (simp <;> omega))).set_other _ (by first | omega | (simp <;> omega))).drew
            · exact (((h4.set _).congr (fun j _ => part_step rfl j)).set_other _ (by first | omega | (simp <;> omega))).drew
            · exact (((h5.set_other _ (by first | omega | (simp <;> omega))).set _).congr (fun j _ => part_step (wd_hi _ _) j)).drew
            · exact ((h6.setCell (by first | omega | (simp <;> omega)) _).setCell (by first | omega | (simp <;> omega)) _).drew
          case measure => simp [RowKit.intOf]; omega
        · have hk6 : k = 6 := by omega
          subst hk6
          obtain ⟨s0, s1, s2, s3, s4, s5⟩ := (h4.congr (f' := wd (a * b % big)) (fun j hj => by rw [part_lt hj, wd_mod _ _ hj])).reads
          obtain ⟨t0, t1, t2, t3, t4, t5⟩ := (h5.congr (f' := wd (a * b / big)) (fun j hj => by rw [part_lt hj])).reads
          obtain ⟨z0, z1, z2, z3, z4, z5⟩ := h1.writes
          obtain ⟨y0, y1, y2, y3, y4, y5⟩ := h1.reads
          obtain ⟨v0, v1, v2, v3, v4, v5⟩ := h2.writes
          obtain ⟨x0, x1, x2, x3, x4, x5⟩ := h2.reads
          clear h1 h2 h3 h4 h5
          rw [show ((6 : Nat) : Int) = 6 from rfl]
          go_wp2
          go_region
          go_wp2
          refine bodyPost_ret (v := .tuple #[N (a * b % big), N (a * b / big)]) ?_ rfl ⟨rfl, ?_⟩
          · simp [results, Tryd.results20, go_sem, *]
          · exact (below6 (below6 h6 (by omega) _ _ _ _ _ _) (by omega) _ _ _ _ _ _).drew
end Go.Proofs.YtbbocdamhkkiiaaDoor
end
section
namespace Go.Proofs.YtbbocdamhkkiiaaDoor
open Go.RowKit
/-! The plain law. -/
end Go.Proofs.YtbbocdamhkkiiaaDoor
end
section
namespace Go.Proofs.YtbbocdamhkkiiaaDoor
open Go.RowKit
namespace Rg
/-! The word that makes -1 with an odd word. -/
def newt (x i : Int) : Int := (i * ((2 - x * i % 18446744073709551616) % 18446744073709551616)) % 18446744073709551616
def newts (x : Int) : Nat → Int
  | 0 => x
  | k + 1 => newt x (newts x k)
def wrapZ (x : Int) : Int := (-(newts x 5)) % 18446744073709551616
theorem newt_dvd (x i d e : Int) (h : d ∣ 1 - x * i) (he : e ∣ d * d) (hW : e ∣ 18446744073709551616) : e ∣ 1 - x * newt x i := by
  obtain ⟨q, hq⟩ : ∃ q, newt x i = i * (2 - x * i) + 18446744073709551616 * q := by
    unfold newt
    have h1 := Int.emod_def (x * i) 18446744073709551616
    have h2 := Int.emod_def (2 - x * i % 18446744073709551616) 18446744073709551616
    have h3 := Int.emod_def (i * ((2 - x * i % 18446744073709551616) % 18446744073709551616)) 18446744073709551616
    rw [h3]
    rw [h2, h1]
    generalize x * i / 18446744073709551616 = p
    generalize (2 - (x * i - 18446744073709551616 * p)) / 18446744073709551616 = q
    generalize (i * (2 - (x * i - 18446744073709551616 * p) - 18446744073709551616 * q)) / 18446744073709551616 = r
    refine ⟨i * p - i * q - r, ?_⟩
    generalize hxi : x * i = y
    simp only [Int.mul_sub]
    have e1 : i * (18446744073709551616 * p) = 18446744073709551616 * (i * p) := Int.mul_left_comm ..
    have e2 : i * (18446744073709551616 * q) = 18446744073709551616 * (i * q) := Int.mul_left_comm ..
    rw [e1, e2]
    omega
  have e1 : 1 - x * newt x i = (1 - x * i) * (1 - x * i) - 18446744073709551616 * (x * q) := by
    rw [hq, Int.mul_add, ← Int.mul_assoc]
    have e2 : x * (18446744073709551616 * q) = 18446744073709551616 * (x * q) := Int.mul_left_comm ..
    rw [e2]
    generalize x * i = y
    have e3 : y * (2 - y) = 2 * y - y * y := by rw [Int.mul_sub, Int.mul_comm y 2]
    have e4 : (1 - y) * (1 - y) = 1 - 2 * y + y * y := by rw [Int.mul_sub, Int.sub_mul, Int.sub_mul]; omega
    rw [e3, e4]; omega
  rw [e1]
  refine Int.dvd_sub (Int.dvd_trans he ?_) (Int.dvd_trans hW (Int.dvd_mul_right _ _))
  obtain ⟨m, hm⟩ := h
  rw [hm]
  exact ⟨m * m, by rw [Int.mul_assoc, Int.mul_left_comm m d m, ← Int.mul_assoc]⟩
theorem newts_five (x : Int) (ho : x % 2 = 1) : (18446744073709551616 : Int) ∣ 1 - x * newts x 5 := by
  have h0 : (8 : Int) ∣ 1 - x * newts x 0 := by
    show (8 : Int) ∣ 1 - x * x
    obtain ⟨y, hy⟩ : ∃ y, x = 2 * y + 1 := ⟨x / 2, by omega⟩
    have e2 : 2 * y * (2 * y) = 4 * (y * y) := by rw [Int.mul_assoc, Int.mul_left_comm y 2 y, ← Int.mul_assoc]; rfl
    have e : x * x = 4 * (y * (y + 1)) + 1 := by
      rw [hy, Int.mul_add, Int.mul_add, Int.add_mul, e2]
      omega
    have h2 : y * (y + 1) % 2 = 0 := by
      rcases (by omega : y % 2 = 0 ∨ y % 2 = 1) with h | h
      · rw [Int.mul_emod, h]; simp
      · rw [Int.mul_emod, show (y + 1) % 2 = 0 by omega]; simp
    rw [e]
    omega
  have h1 := newt_dvd x _ 8 64 h0 (by decide) (by decide)
  have h2 := newt_dvd x _ 64 4096 h1 (by decide) (by decide)
  have h3 := newt_dvd x _ 4096 16777216 h2 (by decide) (by decide)
  have h4 := newt_dvd x _ 16777216 281474976710656 h3 (by decide) (by decide)
  exact newt_dvd x _ 281474976710656 18446744073709551616 h4 (by decide) (by decide)
theorem wrapZ_bd (x : Int) : 0 ≤ wrapZ x ∧ wrapZ x < 18446744073709551616 := by unfold wrapZ; omega
theorem wrapZ_spec (x : Int) (ho : x % 2 = 1) : wrapZ x * x % 18446744073709551616 = 18446744073709551615 := by
  obtain ⟨m, hm⟩ := newts_five x ho
  have h := Int.emod_def (-(newts x 5)) 18446744073709551616
  unfold wrapZ
  rw [h]
  generalize -(newts x 5) / 18446744073709551616 = q
  rw [Int.sub_mul, Int.neg_mul, Int.mul_comm (newts x 5) x, Int.mul_assoc]
  generalize x * newts x 5 = y at hm
  generalize q * x = z
  omega
/-- The word of a number's modulus, as a natural number. -/
def wrapN (n : Nat) : Nat := (wrapZ (wd n 0)).toNat
theorem wrapN_cast (n : Nat) : ((wrapN n : Nat) : Int) = wrapZ (wd n 0) := Int.toNat_of_nonneg (wrapZ_bd _).1
theorem wrapN_spec (n : Nat) (ho : n % 2 = 1) : wrapN n * n % 18446744073709551616 = 18446744073709551615 := by
  have h0 : wd n 0 = ((n % 18446744073709551616 : Nat) : Int) := by unfold wd; rw [Nat.mul_zero, Nat.pow_zero, Nat.div_one]
  have h := wrapZ_spec (wd n 0) (by rw [h0]; omega)
  rw [← wrapN_cast, h0, ← Int.natCast_mul] at h
  have h1 : wrapN n * (n % 18446744073709551616) % 18446744073709551616 = 18446744073709551615 := by omega
  rw [Nat.mul_mod, Nat.mod_mod, ← Nat.mul_mod] at h1
  exact h1
/-- What stands in memory of a modulus. -/
abbrev modx (n o s : Nat) : List Value := [.int .u64 (wd n 0), .int .u64 (wd n 1), .int .u64 (wd n 2), .int .u64 (wd n 3), .int .u64 (wd n 4), .int .u64 (wd n 5), .int .u64 (wrapZ (wd n 0)), .int .u64 (wd o 0), .int .u64 (wd o 1), .int .u64 (wd o 2), .int .u64 (wd o 3), .int .u64 (wd o 4), .int .u64 (wd o 5), .int .u64 (wd s 0), .int .u64 (wd s 1), .int .u64 (wd s 2), .int .u64 (wd s 3), .int .u64 (wd s 4), .int .u64 (wd s 5)]
abbrev modc (n : Nat) : List Value := modx n (big % n) (big * big % n)
theorem ex_zero6 {ρ : Operand → Value} {o : Oper} {w : World} (ho : o.op = .build 24 #[]) : (execOp ρ o).run Tryd.prog w = .ok (.value (N 0)) w := by
  simp only [execOp, ho]
  go_simp
  simp [wd_zero]
/-- What a modulus may be. -/
structure Ok (n : Nat) : Prop where
  odd : n % 2 = 1
  three : 3 ≤ n
  top : 4 * n < big
theorem Ok.big {n : Nat} (h : Ok n) : n < big := by have := h.top; omega
theorem Ok.pos {n : Nat} (h : Ok n) : 0 < n := by have := h.three; omega
theorem Ok.word {n : Nat} (h : Ok n) : ¬ wd n 0 = 0 := by
  have h0 : wd n 0 = ((n % 18446744073709551616 : Nat) : Int) := by unfold wd; rw [Nat.mul_zero, Nat.pow_zero, Nat.div_one]
  have := h.odd
  rw [h0]; omega
set_option maxRecDepth 100000 in
theorem made_any (g n o s : Nat) (ok : Ok n) (w : World) (hm : Mm w [(g, modx n o s)]) :
    Calls Tryd.prog 23 #[PT g 0] w fun e w' => e = .returned (.bool true) ∧ Below w.heap.size w w' := by
  have H0 : Hid (_ ∧ _) := ⟨hm, Below.refl w.heap.size w⟩
  clear hm
  have hw0 := ok.word
  go_enter Tryd.func23, Tryd.ntmps23
  refine wp_seq ?_
  refine walk_seqB 1 [.quiet (.bool false)] H0 ?ho1 ?he1
  case ho1 => exact ak (fun _ => ⟨rfl, fun _ _ => rfl⟩) trivial
  intro _ w1 H1
  refine rest0 rfl (then_normal (wp_seq ?_))
  refine walk_seqB 11 [.quiet (PT g 0), .quiet (.bool true), .quiet (.bool true), .quiet (PT g 0), .quiet (PT g 0), .quiet (PT g 0), .quiet (PT g 0), .quiet (.int .u64 (wd n 0)), .quiet (.bool true), .quiet (.bool true), .quiet (.bool true)] H1 ?ho2 ?he2
  case ho2 => exact ak (fun _ => ⟨rfl, fun _ _ => rfl⟩) (ak (by refine fun γ => ⟨rfl, fun w' h => ?_⟩; clear h; go_simp) (ak (fun _ => ⟨rfl, fun _ _ => rfl⟩) (ak (fun _ => ⟨rfl, fun _ _ => rfl⟩) (ak (by refine fun γ => ⟨rfl, fun w' h => ?_⟩; clear h; go_simp) (ak (by refine fun γ => ⟨rfl, fun w' h => ?_⟩; clear h; go_simp) (ak (by refine fun γ => ⟨rfl, fun w' h => ?_⟩; clear h; go_simp) (ak (fun γ => ⟨rfl, fun w' h => ex_load1 h 0 rfl rfl rfl rfl⟩) (ak (by refine fun γ => ⟨rfl, fun w' h => ?_⟩; clear h; go_simp) (ak (by refine fun γ => ⟨rfl, fun w' h => ?_⟩; clear h; go_simp) (ak (fun _ => ⟨rfl, fun _ _ => rfl⟩) trivial))))))))))
  intro _ w2 H2
  clear H1
  refine rest0 rfl (then_normal (wp_ret ?_))
  repeat (first | refine then_ret ?_ | refine block_ret ?_)
  refine bodyPost_ret (v := .bool true) (by simp [results, Tryd.results23, go_sem, *]) rfl ?_
  exact ⟨rfl, H2.out.2⟩
set_option maxRecDepth 100000 in
theorem made_nil  (w : World) :
    Calls Tryd.prog 23 #[.pointer none] w fun e w' => e = .returned (.bool false) ∧ Below w.heap.size w w' := by
  have H0 : Hid (_ ∧ _) := ⟨Mm.nil w, Below.refl w.heap.size w⟩
  go_enter Tryd.func23, Tryd.ntmps23
  refine wp_seq ?_
  refine walk_seqB 1 [.quiet (.bool false)] H0 ?ho1 ?he1
  case ho1 => exact ak (fun _ => ⟨rfl, fun _ _ => rfl⟩) trivial
  intro _ w1 H1
  refine rest0 rfl (then_normal (wp_seq ?_))
  refine walk_seqB 11 [.quiet (.pointer none), .quiet (.bool false), .quiet (.bool false), .gone, .gone, .gone, .gone, .gone, .gone, .quiet (.bool false), .quiet (.bool false)] H1 ?ho2 ?he2
  case ho2 => exact ak (fun _ => ⟨rfl, fun _ _ => rfl⟩) (ak (by refine fun γ => ⟨rfl, fun w' h => ?_⟩; clear h; go_simp) (ak (fun _ => ⟨rfl, fun _ _ => rfl⟩) (ak (fun γ => rfl) (ak (fun γ => rfl) (ak (fun γ => rfl) (ak (fun γ => rfl) (ak (fun γ => rfl) (ak (fun γ => rfl) (ak (by refine fun γ => ⟨rfl, fun w' h => ?_⟩; clear h; go_simp) (ak (fun _ => ⟨rfl, fun _ _ => rfl⟩) trivial))))))))))
  intro _ w2 H2
  clear H1
  refine rest0 rfl (then_normal (wp_ret ?_))
  repeat (first | refine then_ret ?_ | refine block_ret ?_)
  refine bodyPost_ret (v := .bool false) (by simp [results, Tryd.results23, go_sem, *]) rfl ?_
  exact ⟨rfl, H2.out.2⟩
end Rg
end Go.Proofs.YtbbocdamhkkiiaaDoor
end
section
namespace Go.Proofs.YtbbocdamhkkiiaaDoor
open Go.RowKit
namespace Rg
set_option maxHeartbeats 400000 in
theorem mulAddM_any (a b m c : Int) (ha : 0 ≤ a) (ha' : a < 18446744073709551616) (hb : 0 ≤ b) (hb' : b < 18446744073709551616) (hm : 0 ≤ m) (hm' : m < 18446744073709551616) (hc : 0 ≤ c) (hc' : c < 18446744073709551616) (w : World) :
    Calls Tryd.prog 47 #[.int .u64 a, .int .u64 b, .int .u64 m, .int .u64 c] w fun e w' => e = .returned (.tuple #[.int .u64 (mulLo a b m c), .int .u64 (mulHi a b m c)]) ∧ w' = w := by
  obtain ⟨x, rfl⟩ := Int.eq_ofNat_of_zero_le ha
  obtain ⟨y, rfl⟩ := Int.eq_ofNat_of_zero_le hb
  have hx : x < 18446744073709551616 := by omega
  have hy : y < 18446744073709551616 := by omega
  have e1 : Hid _ := mulAdd_hi x y m c hx hy hm hm' hc hc'
  have e2 : Hid _ := mulAdd_lo x y m c
  have h1 := fun w => add64' (pLo x y) m 0 (by unfold pLo; omega) hm (by omega) (by omega) w
  have h2 := fun w => add64' (addLo (pLo x y) m 0) c 0 (by unfold addLo; omega) hc (by omega) (by omega) w
  have h3 := fun w => mul64' x y hx hy w
  have H3 : Hid _ := h3
  clear ha ha' hb hb' hm hm' hc hc' hx hy h3
  go_enter Tryd.func47, Tryd.ntmps47
  go_wp2_with (go_at_call 46; refine (H3.out _).mono ?_; rintro e w' ⟨rfl, rfl⟩)
  rw [e1.out, e2.out]
  go_ret2
  exact ⟨rfl, rfl⟩
set_option maxHeartbeats 1000000 in
set_option maxRecDepth 100000 in
theorem wrapOf_any (x : Int) (w : World) : Calls Tryd.prog 35 #[.int .u64 x] w fun e w' => e = .returned (.int .u64 (wrapZ x)) ∧ w' = w := by
  have hs : ∀ k, IntKind.u64.wrap (newts x k * IntKind.u64.wrap (2 - IntKind.u64.wrap (x * newts x k))) = newts x (k + 1) := fun k => by
    simp only [IntKind.wrap_u64, newts, newt]
  have HS : Hid _ := hs
  have he : IntKind.u64.wrap (-(newts x 5)) = wrapZ x := by rw [IntKind.wrap_u64]; rfl
  have HE : Hid _ := he
  clear hs he
  go_enter Tryd.func35, Tryd.ntmps35
  go_wp2
  go_loopw [3, 4] (fun c i wr => ∃ k : Nat, k ≤ 5 ∧ c = .int .u64 (newts x k) ∧ i = .int .i64 (3 * 2 ^ k) ∧ wr = w) (fun _ i _ => 96 - (RowKit.intOf i).toNat)
  case atStart => exact ⟨0, by omega, rfl, rfl, rfl⟩
  case round =>
    obtain ⟨k, hk, rfl, rfl, rfl⟩ := hrel
    rcases (by omega : k = 0 ∨ k = 1 ∨ k = 2 ∨ k = 3 ∨ k = 4 ∨ k = 5) with rfl | rfl | rfl | rfl | rfl | rfl
    · go_wp2
      go_roundw
      case rel => exact ⟨1, by omega, congrArg (Value.int .u64) (HS.out 0), by simp⟩
      case measure => simp [RowKit.intOf]
    · go_wp2
      go_roundw
      case rel => exact ⟨2, by omega, congrArg (Value.int .u64) (HS.out 1), by simp⟩
      case measure => simp [RowKit.intOf]
    · go_wp2
      go_roundw
      case rel => exact ⟨3, by omega, congrArg (Value.int .u64) (HS.out 2), by simp⟩
      case measure => simp [RowKit.intOf]
    · go_wp2
      go_roundw
      case rel => exact ⟨4, by omega, congrArg (Value.int .u64) (HS.out 3), by simp⟩
      case measure => simp [RowKit.intOf]
    · go_wp2
      go_roundw
      case rel => exact ⟨5, by omega, congrArg (Value.int .u64) (HS.out 4), by simp⟩
      case measure => simp [RowKit.intOf]
    · go_wp2
      rw [HE.out]
      go_ret
      exact ⟨rfl, rfl⟩
theorem call29 : ∀ args w, (callFunc 29 args).run Tryd.prog w = .ok (.enter 29 args) w := by intro args w; go_simp
set_option maxRecDepth 100000 in
theorem below_t (g n o s a r : Nat) (c40 : ∀ w, Calls Tryd.prog 29 #[N a, N n] w fun e w' => e = .returned (.tuple #[N r, .bool true]) ∧ Below w.heap.size w w') (w : World) (hm : Mm w [(g, modx n o s)]) :
    Calls Tryd.prog 48 #[PT g 0, N a] w fun e w' => e = .returned (N a) ∧ Below w.heap.size w w' := by
  have H0 : Hid (_ ∧ _) := ⟨hm, Below.refl w.heap.size w⟩
  clear hm
  have C40 : Hid _ := c40
  clear c40
  go_enter Tryd.func48, Tryd.ntmps48
  refine wp_seq ?_
  refine walk_seqA 2 [.made (cells6 a) 24, .made zero6 24] (sB H0) ?ho1 ?he1
  case ho1 => exact ak (fun γ => ⟨rfl, fun w' => ex_box6 rfl rfl⟩) (ak (fun γ => ⟨rfl, fun w' => exec_made6 rfl⟩) trivial)
  intro γ w1 l hM hl
  have H1 : Hid (Mm w1 [(γ 0, cells6 a), (γ 1, zero6), (g, modx n o s)] ∧ _) := growB H0 hM (Nat.le_refl _) hl [0, 1] rfl (by decide)
  have o1_0 := ownB H0 hM (Nat.le_refl _) hl (i := 0) rfl
  have o1_1 := ownB H0 hM (Nat.le_refl _) hl (i := 1) rfl
  clear hM hl l
  generalize γ 0 = γ1_0 at H1 o1_0 ⊢
  generalize γ 1 = γ1_1 at H1 o1_1 ⊢
  clear γ
  refine rest0 rfl (then_normal (wp_seq ?_))
  refine walk_anyA 12 [.quiet (N a), .quiet (PT g 0), .quiet (PT g 0), .quiet (PT g 0), .quiet (N n), .call (.tuple #[N r, .bool true]), .quiet (.tuple #[N r, .bool true]), .quiet (N r), .quiet (.bool true), .made zero6 24, .laid 9 zero6 (cells6 r), .quiet (.bool true)] (sB H1) ?ho2 ?he2 (hL := ?hL2)
  case hL2 => exact ⟨⟨_, rfl⟩, trivial⟩
  case ho2 => exact ak (fun γ => ⟨rfl, fun w' h => ex_load6 h 0 rfl rfl rfl rfl⟩) (ak (fun _ => ⟨rfl, fun _ _ => rfl⟩) (ak (by refine fun γ => ⟨rfl, fun w' h => ?_⟩; clear h; go_simp) (ak (by refine fun γ => ⟨rfl, fun w' h => ?_⟩; clear h; go_simp) (ak (fun γ => ⟨rfl, fun w' h => ex_load6 h 2 rfl rfl rfl rfl⟩) (ak (fun γ => ⟨rfl, fun w' h => ⟨29, #[N a, N n], exec_call rfl call29 rfl (mpn rfl), C40.out w'⟩⟩) (ak (fun _ => ⟨rfl, fun _ _ => rfl⟩) (ak (by refine fun γ => ⟨rfl, fun w' h => ?_⟩; clear h; go_simp) (ak (by refine fun γ => ⟨rfl, fun w' h => ?_⟩; clear h; go_simp) (ak (fun γ => ⟨rfl, fun w' => exec_made6 rfl⟩) (ak (fun γ => ⟨rfl, rfl, rfl, fun w' h => exec_laid6 h rfl rfl rfl⟩) (ak (fun _ => ⟨rfl, fun _ _ => rfl⟩) trivial)))))))))))
  intro γ w2 l hM hl
  have H2 : Hid (Mm w2 [(γ 9, cells6 r), (γ1_0, cells6 a), (γ1_1, zero6), (g, modx n o s)] ∧ _) := growB H1 hM (Nat.le_refl _) hl [9] rfl (by decide)
  have o2_9 := ownB H1 hM (Nat.le_refl _) hl (i := 9) rfl
  clear hM hl l H1
  generalize γ 9 = γ2_9 at H2 o2_9 ⊢
  clear γ
  refine rest0 rfl (then_normal (wp_seq (wp_seq ?_)))
  refine walk_seqB 1 [.quiet (.bool true)] H2 ?ho3 ?he3
  case ho3 => exact ak (fun _ => ⟨rfl, fun _ _ => rfl⟩) trivial
  intro _ w3 H3
  clear H2
  refine rest0 rfl (then_normal (wp_cond_true rfl (wp_seq ?_)))
  refine walk_seqB 1 [.quiet (N a)] H3 ?ho4 ?he4
  case ho4 => exact ak (fun γ => ⟨rfl, fun w' h => ex_load6 h 1 rfl rfl rfl rfl⟩) trivial
  intro _ w4 H4
  clear H3
  refine rest_at (l := [1]) rfl ?_
  refine rest_store rfl rfl rfl (ex_store6 H4.out.1 2 rfl rfl rfl rfl (Nat.le_of_ble_eq_true rfl)) ?_
  have H5 : Hid (Mm (w4.setCells γ1_1 0 (cells6 a)) [(γ2_9, cells6 r), (γ1_0, cells6 a), (γ1_1, cells6 a), (g, modx n o s)] ∧ Below w.heap.size w (w4.setCells γ1_1 0 (cells6 a))) := ⟨H4.out.1.put 2 (off := 0) (vs := cells6 a) rfl (Nat.le_of_ble_eq_true rfl), below_setCells _ o1_1.out _ _ _ H4.out.2⟩
  clear H4
  generalize hgw : World.setCells _ _ _ _ = w5 at H5 ⊢
  clear hgw
  refine rest_nil (then_normal (wp_ret ?_))
  repeat (first | refine then_ret ?_ | refine block_ret ?_)
  have c0 := H5.out.1.get 2 rfl 0 rfl
  have c1 := H5.out.1.get 2 rfl 1 rfl
  have c2 := H5.out.1.get 2 rfl 2 rfl
  have c3 := H5.out.1.get 2 rfl 3 rfl
  have c4 := H5.out.1.get 2 rfl 4 rfl
  have c5 := H5.out.1.get 2 rfl 5 rfl
  refine bodyPost_ret (v := N a) (by simp [results, Tryd.results48, go_sem, *]) rfl ?_
  exact ⟨rfl, H5.out.2⟩
set_option maxRecDepth 100000 in
theorem below_f (g n o s a r : Nat) (c40 : ∀ w, Calls Tryd.prog 29 #[N a, N n] w fun e w' => e = .returned (.tuple #[N r, .bool false]) ∧ Below w.heap.size w w') (w : World) (hm : Mm w [(g, modx n o s)]) :
    Calls Tryd.prog 48 #[PT g 0, N a] w fun e w' => e = .returned (N r) ∧ Below w.heap.size w w' := by
  have H0 : Hid (_ ∧ _) := ⟨hm, Below.refl w.heap.size w⟩
  clear hm
  have C40 : Hid _ := c40
  clear c40
  go_enter Tryd.func48, Tryd.ntmps48
  refine wp_seq ?_
  refine walk_seqA 2 [.made (cells6 a) 24, .made zero6 24] (sB H0) ?ho1 ?he1
  case ho1 => exact ak (fun γ => ⟨rfl, fun w' => ex_box6 rfl rfl⟩) (ak (fun γ => ⟨rfl, fun w' => exec_made6 rfl⟩) trivial)
  intro γ w1 l hM hl
  have H1 : Hid (Mm w1 [(γ 0, cells6 a), (γ 1, zero6), (g, modx n o s)] ∧ _) := growB H0 hM (Nat.le_refl _) hl [0, 1] rfl (by decide)
  have o1_0 := ownB H0 hM (Nat.le_refl _) hl (i := 0) rfl
  have o1_1 := ownB H0 hM (Nat.le_refl _) hl (i := 1) rfl
  clear hM hl l
  generalize γ 0 = γ1_0 at H1 o1_0 ⊢
  generalize γ 1 = γ1_1 at H1 o1_1 ⊢
  clear γ
  refine rest0 rfl (then_normal (wp_seq ?_))
  refine walk_anyA 12 [.quiet (N a), .quiet (PT g 0), .quiet (PT g 0), .quiet (PT g 0), .quiet (N n), .call (.tuple #[N r, .bool false]), .quiet (.tuple #[N r, .bool false]), .quiet (N r), .quiet (.bool false), .made zero6 24, .laid 9 zero6 (cells6 r), .quiet (.bool false)] (sB H1) ?ho2 ?he2 (hL := ?hL2)
  case hL2 => exact ⟨⟨_, rfl⟩, trivial⟩
  case ho2 => exact ak (fun γ => ⟨rfl, fun w' h => ex_load6 h 0 rfl rfl rfl rfl⟩) (ak (fun _ => ⟨rfl, fun _ _ => rfl⟩) (ak (by refine fun γ => ⟨rfl, fun w' h => ?_⟩; clear h; go_simp) (ak (by refine fun γ => ⟨rfl, fun w' h => ?_⟩; clear h; go_simp) (ak (fun γ => ⟨rfl, fun w' h => ex_load6 h 2 rfl rfl rfl rfl⟩) (ak (fun γ => ⟨rfl, fun w' h => ⟨29, #[N a, N n], exec_call rfl call29 rfl (mpn rfl), C40.out w'⟩⟩) (ak (fun _ => ⟨rfl, fun _ _ => rfl⟩) (ak (by refine fun γ => ⟨rfl, fun w' h => ?_⟩; clear h; go_simp) (ak (by refine fun γ => ⟨rfl, fun w' h => ?_⟩; clear h; go_simp) (ak (fun γ => ⟨rfl, fun w' => exec_made6 rfl⟩) (ak (fun γ => ⟨rfl, rfl, rfl, fun w' h => exec_laid6 h rfl rfl rfl⟩) (ak (fun _ => ⟨rfl, fun _ _ => rfl⟩) trivial)))))))))))
  intro γ w2 l hM hl
  have H2 : Hid (Mm w2 [(γ 9, cells6 r), (γ1_0, cells6 a), (γ1_1, zero6), (g, modx n o s)] ∧ _) := growB H1 hM (Nat.le_refl _) hl [9] rfl (by decide)
  have o2_9 := ownB H1 hM (Nat.le_refl _) hl (i := 9) rfl
  clear hM hl l H1
  generalize γ 9 = γ2_9 at H2 o2_9 ⊢
  clear γ
  refine rest0 rfl (then_normal (wp_seq (wp_seq ?_)))
  refine walk_seqB 1 [.quiet (.bool false)] H2 ?ho3 ?he3
  case ho3 => exact ak (fun _ => ⟨rfl, fun _ _ => rfl⟩) trivial
  intro _ w3 H3
  clear H2
  refine rest0 rfl (then_normal (wp_cond_false rfl ?_))
  refine wp_skip (then_normal (wp_seq ?_))
  refine walk_seqB 1 [.quiet (N r)] H3 ?ho4 ?he4
  case ho4 => exact ak (fun γ => ⟨rfl, fun w' h => ex_load6 h 0 rfl rfl rfl rfl⟩) trivial
  intro _ w4 H4
  clear H3
  refine rest_at (l := [1]) rfl ?_
  refine rest_store rfl rfl rfl (ex_store6 H4.out.1 2 rfl rfl rfl rfl (Nat.le_of_ble_eq_true rfl)) ?_
  have H5 : Hid (Mm (w4.setCells γ1_1 0 (cells6 r)) [(γ2_9, cells6 r), (γ1_0, cells6 a), (γ1_1, cells6 r), (g, modx n o s)] ∧ Below w.heap.size w (w4.setCells γ1_1 0 (cells6 r))) := ⟨H4.out.1.put 2 (off := 0) (vs := cells6 r) rfl (Nat.le_of_ble_eq_true rfl), below_setCells _ o1_1.out _ _ _ H4.out.2⟩
  clear H4
  generalize hgw : World.setCells _ _ _ _ = w5 at H5 ⊢
  clear hgw
  refine rest_nil (then_normal (wp_ret ?_))
  repeat (first | refine then_ret ?_ | refine block_ret ?_)
  have c0 := H5.out.1.get 2 rfl 0 rfl
  have c1 := H5.out.1.get 2 rfl 1 rfl
  have c2 := H5.out.1.get 2 rfl 2 rfl
  have c3 := H5.out.1.get 2 rfl 3 rfl
  have c4 := H5.out.1.get 2 rfl 4 rfl
  have c5 := H5.out.1.get 2 rfl 5 rfl
  refine bodyPost_ret (v := N r) (by simp [results, Tryd.results48, go_sem, *]) rfl ?_
  exact ⟨rfl, H5.out.2⟩
theorem below_any (g n o s a : Nat) (ha : a < big) (hn : n < big) (w : World) (hm : Mm w [(g, modx n o s)]) :
    Calls Tryd.prog 48 #[PT g 0, N a] w fun e w' => e = .returned (N (if a < n then a else a - n)) ∧ Below w.heap.size w w' := by
  have c := fun w => sub_any a n ha hn w
  by_cases h : a < n
  · rw [if_pos h]
    simp only [decide_eq_true h] at c
    exact below_t g n o s a _ c w hm
  · rw [if_neg h]
    simp only [decide_eq_false h] at c
    have e : (a + big - n) % big = a - n := by
      rw [show a + big - n = a - n + big by omega, Nat.add_mod_right, Nat.mod_eq_of_lt (by omega)]
    rw [e] at c
    exact below_f g n o s a _ c w hm
end Rg
end Go.Proofs.YtbbocdamhkkiiaaDoor
end
