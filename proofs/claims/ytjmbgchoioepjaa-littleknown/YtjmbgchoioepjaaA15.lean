/- math/bits.Div64, words.guess -/
import Derived.Test.YtjmbgchoioepjaaA14
import Derived.BigQuiet
import Derived.Deep.DeepCutAuto
import Derived.Deep.CutBlock
namespace Go.Proofs.Ytjmbgchoioepjaa
open Go.RowKit

theorem quo_wrap (U y1 q : Nat) (h : U / y1 = q) (hq : q < 18446744073709551616) : IntKind.u64.wrap ((U : Int) / (y1 : Int)) = q := by
  rw [← Int.natCast_ediv, h]; exact Mul64.wrapN q hq
theorem rem_wrap (U y1 q r : Nat) (h : q * y1 + r = U) (hU : U < 18446744073709551616) : IntKind.u64.wrap ((U : Int) - IntKind.u64.wrap ((q : Int) * (y1 : Int))) = r := by
  have h1 : q * y1 < 18446744073709551616 := by omega
  rw [← Int.natCast_mul, Mul64.wrapN _ h1]
  have : (U : Int) - ((q * y1 : Nat) : Int) = (r : Int) := by omega
  rw [this]; exact Mul64.wrapN r (by omega)

theorem hb_break (U y1 y0 u q r Y Q : Nat) (dy : Y = y1 * 4294967296 + y0) (hQ : Q = (U * 4294967296 + u) / Y) (h : (q + 1) * y1 + r = U) (hle : q + 1 ≤ 4294967297) (b3 : y0 < 4294967296) (b4 : 0 < y1) (c2 : 4294967296 ≤ r + y1) (hge : Q + 1 ≤ q + 1) : q = Q := by
  have h2 : q * y1 + (r + y1) = U := by rw [Nat.add_mul] at h; omega
  have h3 : q * y0 ≤ 4294967296 * 4294967295 := Nat.mul_le_mul (by omega) (by omega)
  have h4 := half_enough U y1 y0 u q (r + y1) h2 (by omega) (by omega)
  rw [← dy, ← hQ] at h4
  omega
theorem hb_exit (U y1 y0 u q r Y Q : Nat) (dy : Y = y1 * 4294967296 + y0) (hQ : Q = (U * 4294967296 + u) / Y) (h : q * y1 + r = U) (b4 : 0 < y1) (c : q * y0 ≤ 4294967296 * r + u) (hge : Q ≤ q) : q = Q := by
  have h4 := half_enough U y1 y0 u q r h (by omega) (by rw [Nat.mul_comm r]; exact c)
  rw [← dy, ← hQ] at h4
  omega
theorem hb_more1 (U y1 y0 u q Y Q : Nat) (dy : Y = y1 * 4294967296 + y0) (hQ : Q = (U * 4294967296 + u) / Y) (hu : u < 4294967296) (hU : U < Y) (h : 4294967296 ≤ q) : Q + 1 ≤ q := by
  have h4 := half_big U y1 y0 u q hu (by rw [← dy]; exact hU) h
  rw [← dy, ← hQ] at h4
  exact h4
theorem hb_more2 (U y1 y0 u q r Y Q : Nat) (dy : Y = y1 * 4294967296 + y0) (hQ : Q = (U * 4294967296 + u) / Y) (h : q * y1 + r = U) (b4 : 0 < y1) (c : 4294967296 * r + u < q * y0) : Q + 1 ≤ q := by
  have h4 := half_more U y1 y0 u q r h (by omega) (by rw [Nat.mul_comm r]; exact c)
  rw [← dy, ← hQ] at h4
  exact h4
theorem hb_step (U y1 q r : Nat) (h : (q + 1) * y1 + r = U) : q * y1 + (r + y1) = U := by rw [Nat.add_mul] at h; omega
theorem mul_small (q y0 : Nat) (hq : q < 4294967296) (h : y0 < 4294967296) : q * y0 < 18446744073709551616 := by
  have h3 : q * y0 ≤ 4294967295 * 4294967295 := Nat.mul_le_mul (by omega) (by omega)
  omega

theorem mod_join (M Y u0 : Nat) : (M % Y * 4294967296 + u0) % Y = (M * 4294967296 + u0) % Y := by
  rw [Nat.add_mod, Nat.mul_mod, Nat.mod_mod, ← Nat.mul_mod, ← Nat.add_mod]
set_option maxHeartbeats 2000000 in
set_option maxRecDepth 100000 in
theorem div64_hi (hi lo y : Nat) (h1 : hi < y) (hy : y < 18446744073709551616) (hl : lo < 18446744073709551616) (h0 : hi ≠ 0) (w : World) :
    Calls Try.prog 83 #[.int .u64 hi, .int .u64 lo, .int .u64 y] w fun e w' => e = .returned (.tuple #[.int .u64 ((hi * 18446744073709551616 + lo) / y : Nat), .int .u64 ((hi * 18446744073709551616 + lo) % y : Nat)]) ∧ w' = w := by
  have hc := fun w => lz64_any y w (Int.natCast_nonneg y) (by omega)
  rw [Int.toNat_natCast] at hc
  have HC : Hid _ := hc
  have hb1 : bl y ≤ 64 := bl_le_of y 64 hy
  have hb2 : 1 ≤ bl y := bl_pos y (by omega)
  obtain ⟨Y, U, u1, u0, y1, y0, dY, b1, b2, dy, b3, b4, b5, b6, b7, b8, dM, eY, eU, eu1, eu0, ey1, ey0⟩ := norm_parts hi lo y h1 hy hl
  obtain ⟨Q1, hQ1⟩ : ∃ Q1, Q1 = (U * 4294967296 + u1) / Y := ⟨_, rfl⟩
  obtain ⟨R1, hR1⟩ : ∃ R1, R1 = (U * 4294967296 + u1) % Y := ⟨_, rfl⟩
  obtain ⟨Q0, hQ0⟩ : ∃ Q0, Q0 = (R1 * 4294967296 + u0) / Y := ⟨_, rfl⟩
  have hfin : (hi * 18446744073709551616 + lo) / y = Q1 * 4294967296 + Q0 := by
    rw [hQ0, hR1, hQ1, halves_join _ _ _ (by omega), ← dM, dY, norm_div]
  obtain ⟨R0, hR0⟩ : ∃ R0, R0 = (R1 * 4294967296 + u0) % Y := ⟨_, rfl⟩
  have hrem : (hi * 18446744073709551616 + lo) % y = R0 / 2 ^ (64 - bl y) := by
    rw [hR0, hR1, mod_join, ← dM, dY, Nat.mul_mod_mul_right, Nat.mul_div_cancel _ (Nat.two_pow_pos _)]
  rw [hfin, hrem]
  have HN : Hid _ := And.intro b1 (And.intro b2 (And.intro dy (And.intro b8 (And.intro hQ1 (And.intro hR1 (And.intro hQ0 hR0))))))
  have e1 : ((y : Int) == 0) = false := by simp; omega
  have e2 : ((hi : Int) == 0) = false := by simp; omega
  have e3 : (1 : Int) ≤ y1 := by omega
  clear hc hy hl dY dM hfin hrem b1 b2 dy b8 hQ1 hR1 hQ0 hR0
  go_enter Try.func83, Try.ntmps83
  go_upto_block 0 with (go_at_call 85; refine (HC.out _).mono ?_; rintro e w' ⟨rfl, hw'⟩; rw [hw']; clear hw')
  go_cut [15, 16] (fun qv rv wq => qv = .int .u64 Q1 ∧ (∃ r : Int, rv = .int .u64 r) ∧ wq = w)
  case first =>
    go_wp2
    go_loop [15, 16] (fun qv rv => ∃ q r : Nat, qv = .int .u64 q ∧ rv = .int .u64 r ∧ q * y1 + r = U ∧ Q1 ≤ q ∧ q ≤ 4294967297 ∧ r < 4294967296) (fun q _ => (intOf q).toNat)
    case atStart =>
      obtain ⟨b1, b2, dy, b8, hQ1, hR1, hQ0, hR0⟩ := HN.out
      have hs := half_start U y1 y0 b3 b4 (by omega)
      have hg := half_ge U y1 y0 u1 b6 (by omega)
      have e1 := quo_wrap U y1 (U / y1) rfl (by omega)
      have dm := Nat.div_add_mod U y1
      have e2 := rem_wrap U y1 (U / y1) (U % y1) (by rw [Nat.mul_comm]; exact dm) (by omega)
      have hm := Nat.mod_lt U (by omega : 0 < y1)
      rw [e1, e2]
      exact ⟨U / y1, U % y1, rfl, rfl, by rw [Nat.mul_comm]; exact dm, by rw [hQ1, dy]; exact hg, hs, by omega⟩
    case round =>
      obtain ⟨q, r, rfl, rfl, hqr, hge, hle, hr⟩ := hrel
      have HQ : Hid _ := hqr
      clear hqr
      by_cases c1 : 4294967296 ≤ q
      · have hmore : Q1 + 1 ≤ q := by
          obtain ⟨b1, b2, dy, b8, hQ1, hR1, hQ0, hR0⟩ := HN.out
          exact hb_more1 U y1 y0 u1 q Y Q1 dy hQ1 b6 b8 c1
        obtain ⟨p, rfl⟩ : ∃ p, q = p + 1 := ⟨q - 1, by omega⟩
        have HB : Hid (Q1 + 1 ≤ p + 1 ∧ p + 1 ≤ 4294967297 ∧ r < 4294967296) := ⟨hmore, hle, hr⟩
        have i1 : (4294967296 : Int) ≤ (p : Int) + 1 := by omega
        have i2 : (p : Int) + 1 ≤ 4294967297 := by omega
        have i3 : (r : Int) < 4294967296 := by omega
        have i4 : (y1 : Int) < 4294967296 := by omega
        clear c1 hmore hle hr hge
        rw [show ((p + 1 : Nat) : Int) = (p : Int) + 1 by omega]
        by_cases c2 : (4294967296 : Int) ≤ (r : Int) + (y1 : Int)
        · go_wp2
          go_meet
          case rel =>
            obtain ⟨b1, b2, dy, b8, hQ1, hR1, hQ0, hR0⟩ := HN.out
            exact ⟨by rw [hb_break U y1 y0 u1 p r Y Q1 dy hQ1 HQ.out HB.out.2.1 b3 (by omega) (by omega) HB.out.1], ⟨_, rfl⟩, rfl⟩
        · go_wp2
          go_round
          case rel => exact ⟨p, r + y1, rfl, by go_num, hb_step U y1 p r HQ.out, by have := HB.out.1; omega, by have := HB.out.2.1; omega, by omega⟩
          case measure => simp [intOf] <;> omega
      · obtain ⟨P, hP⟩ : ∃ P, P = q * y0 := ⟨_, rfl⟩
        have hPb : P < 18446744073709551616 := by rw [hP]; exact mul_small q y0 (by omega) b3
        by_cases c3 : (4294967296 : Int) * (r : Int) + (u1 : Int) < (P : Int)
        · have hq1 : 1 ≤ q := by
            by_cases hq0 : q = 0
            · subst hq0; rw [Nat.zero_mul] at hP; omega
            · omega
          have hmore : Q1 + 1 ≤ q := by
            obtain ⟨b1, b2, dy, b8, hQ1, hR1, hQ0, hR0⟩ := HN.out
            exact hb_more2 U y1 y0 u1 q r Y Q1 dy hQ1 HQ.out (by omega) (by rw [← hP]; omega)
          obtain ⟨p, rfl⟩ : ∃ p, q = p + 1 := ⟨q - 1, by omega⟩
          have HB : Hid (Q1 + 1 ≤ p + 1 ∧ p + 1 ≤ 4294967297 ∧ r < 4294967296) := ⟨hmore, hle, hr⟩
          have i1 : (p : Int) + 1 < 4294967296 := by omega
          have i3 : (r : Int) < 4294967296 := by omega
          have i4 : (y1 : Int) < 4294967296 := by omega
          have i5 : (u1 : Int) < 4294967296 := by omega
          have eP : IntKind.u64.wrap (((p : Int) + 1) * (y0 : Int)) = (P : Int) := by
            rw [show ((p : Int) + 1) = ((p + 1 : Nat) : Int) by omega, ← Int.natCast_mul, ← hP]; exact Mul64.wrapN P hPb
          clear c1 hmore hle hr hge hP hPb hq1
          rw [show ((p + 1 : Nat) : Int) = (p : Int) + 1 by omega]
          by_cases c2 : (4294967296 : Int) ≤ (r : Int) + (y1 : Int)
          · go_wp2
            go_meet
            case rel =>
              obtain ⟨b1, b2, dy, b8, hQ1, hR1, hQ0, hR0⟩ := HN.out
              exact ⟨by rw [hb_break U y1 y0 u1 p r Y Q1 dy hQ1 HQ.out HB.out.2.1 b3 (by omega) (by omega) HB.out.1], ⟨_, rfl⟩, rfl⟩
          · go_wp2
            go_round
            case rel => exact ⟨p, r + y1, rfl, by go_num, hb_step U y1 p r HQ.out, by have := HB.out.1; omega, by have := HB.out.2.1; omega, by omega⟩
            case measure => simp [intOf] <;> omega
        · have HE : Hid (q = Q1) := by
            obtain ⟨b1, b2, dy, b8, hQ1, hR1, hQ0, hR0⟩ := HN.out
            exact hb_exit U y1 y0 u1 q r Y Q1 dy hQ1 HQ.out (by omega) (by rw [← hP]; omega) hge
          have eP : IntKind.u64.wrap ((q : Int) * (y0 : Int)) = (P : Int) := by
            rw [← Int.natCast_mul, ← hP]; exact Mul64.wrapN P hPb
          obtain ⟨z, hz⟩ : ∃ z : Int, z = (q : Int) := ⟨_, rfl⟩
          obtain ⟨x, hx⟩ : ∃ x : Int, x = (P : Int) := ⟨_, rfl⟩
          obtain ⟨v, hv⟩ : ∃ v : Int, v = (r : Int) := ⟨_, rfl⟩
          have HZ : Hid (z = (Q1 : Int)) := by rw [hz, HE.out]; rfl
          have i0 : 0 ≤ z := by omega
          have i1 : z < 4294967296 := by omega
          have i2 : 0 ≤ v := by omega
          have i3 : v < 4294967296 := by omega
          have i6 : x ≤ 4294967296 * v + (u1 : Int) := by omega
          rw [← hz, ← hx] at eP
          rw [← hz, ← hv]
          clear c1 c3 hle hr hge hP hPb HE hz hx hv
          go_wp2
          go_meet
          case rel => exact ⟨by rw [HZ.out], ⟨_, rfl⟩, rfl⟩
  case rest =>
    obtain ⟨rfl, ⟨rv, rfl⟩, rfl⟩ := hcut
    have eR : IntKind.u64.wrap (IntKind.u64.wrap (IntKind.u64.wrap ((U : Int) * 4294967296) + (u1 : Int)) - IntKind.u64.wrap ((Q1 : Int) * (Y : Int))) = (R1 : Int) := by
      obtain ⟨b1, b2, dy, b8, hQ1, hR1, hQ0, hR0⟩ := HN.out
      have dm := Nat.div_add_mod (U * 4294967296 + u1) Y
      have b9 : R1 < Y := by rw [hR1]; exact Nat.mod_lt _ (by omega)
      rw [← hQ1, ← hR1, Nat.mul_comm] at dm
      rw [IntKind.wrap_u64, IntKind.wrap_u64, IntKind.wrap_u64, IntKind.wrap_u64, ← Int.natCast_mul]
      generalize Q1 * Y = Z at dm ⊢
      omega
    go_upto_block 2 with (fail)
    go_cut [18, 16] (fun qv rv wq => qv = .int .u64 Q0 ∧ (∃ r : Int, rv = .int .u64 r) ∧ wq = wc)
    case first =>
      go_wp2
      go_loop [18, 16] (fun qv rv => ∃ q r : Nat, qv = .int .u64 q ∧ rv = .int .u64 r ∧ q * y1 + r = R1 ∧ Q0 ≤ q ∧ q ≤ 4294967297 ∧ r < 4294967296) (fun q _ => (intOf q).toNat)
      case atStart =>
        obtain ⟨b1, b2, dy, b8, hQ1, hR1, hQ0, hR0⟩ := HN.out; have b9 : R1 < Y := by rw [hR1]; exact Nat.mod_lt _ (by omega)
        have hs := half_start R1 y1 y0 b3 b4 (by omega)
        have hg := half_ge R1 y1 y0 u0 b7 (by omega)
        have e1 := quo_wrap R1 y1 (R1 / y1) rfl (by omega)
        have dm := Nat.div_add_mod R1 y1
        have e2 := rem_wrap R1 y1 (R1 / y1) (R1 % y1) (by rw [Nat.mul_comm]; exact dm) (by omega)
        have hm := Nat.mod_lt R1 (by omega : 0 < y1)
        rw [e1, e2]
        exact ⟨R1 / y1, R1 % y1, rfl, rfl, by rw [Nat.mul_comm]; exact dm, by rw [hQ0, dy]; exact hg, hs, by omega⟩
      case round =>
        obtain ⟨q, r, rfl, rfl, hqr, hge, hle, hr⟩ := hrel
        have HQ : Hid _ := hqr
        clear hqr
        by_cases c1 : 4294967296 ≤ q
        · have hmore : Q0 + 1 ≤ q := by
            obtain ⟨b1, b2, dy, b8, hQ1, hR1, hQ0, hR0⟩ := HN.out; have b9 : R1 < Y := by rw [hR1]; exact Nat.mod_lt _ (by omega)
            exact hb_more1 R1 y1 y0 u0 q Y Q0 dy hQ0 b7 b9 c1
          obtain ⟨p, rfl⟩ : ∃ p, q = p + 1 := ⟨q - 1, by omega⟩
          have HB : Hid (Q0 + 1 ≤ p + 1 ∧ p + 1 ≤ 4294967297 ∧ r < 4294967296) := ⟨hmore, hle, hr⟩
          have i1 : (4294967296 : Int) ≤ (p : Int) + 1 := by omega
          have i2 : (p : Int) + 1 ≤ 4294967297 := by omega
          have i3 : (r : Int) < 4294967296 := by omega
          have i4 : (y1 : Int) < 4294967296 := by omega
          clear c1 hmore hle hr hge
          rw [show ((p + 1 : Nat) : Int) = (p : Int) + 1 by omega]
          by_cases c2 : (4294967296 : Int) ≤ (r : Int) + (y1 : Int)
          · go_wp2
            go_meet
            case rel =>
              obtain ⟨b1, b2, dy, b8, hQ1, hR1, hQ0, hR0⟩ := HN.out; have b9 : R1 < Y := by rw [hR1]; exact Nat.mod_lt _ (by omega)
              exact ⟨by rw [hb_break R1 y1 y0 u0 p r Y Q0 dy hQ0 HQ.out HB.out.2.1 b3 (by omega) (by omega) HB.out.1], ⟨_, rfl⟩, rfl⟩
          · go_wp2
            go_round
            case rel => exact ⟨p, r + y1, rfl, by go_num, hb_step R1 y1 p r HQ.out, by have := HB.out.1; omega, by have := HB.out.2.1; omega, by omega⟩
            case measure => simp [intOf] <;> omega
        · obtain ⟨P, hP⟩ : ∃ P, P = q * y0 := ⟨_, rfl⟩
          have hPb : P < 18446744073709551616 := by rw [hP]; exact mul_small q y0 (by omega) b3
          by_cases c3 : (4294967296 : Int) * (r : Int) + (u0 : Int) < (P : Int)
          · have hq1 : 1 ≤ q := by
              by_cases hq0 : q = 0
              · subst hq0; rw [Nat.zero_mul] at hP; omega
              · omega
            have hmore : Q0 + 1 ≤ q := by
              obtain ⟨b1, b2, dy, b8, hQ1, hR1, hQ0, hR0⟩ := HN.out; have b9 : R1 < Y := by rw [hR1]; exact Nat.mod_lt _ (by omega)
              exact hb_more2 R1 y1 y0 u0 q r Y Q0 dy hQ0 HQ.out (by omega) (by rw [← hP]; omega)
            obtain ⟨p, rfl⟩ : ∃ p, q = p + 1 := ⟨q - 1, by omega⟩
            have HB : Hid (Q0 + 1 ≤ p + 1 ∧ p + 1 ≤ 4294967297 ∧ r < 4294967296) := ⟨hmore, hle, hr⟩
            have i1 : (p : Int) + 1 < 4294967296 := by omega
            have i3 : (r : Int) < 4294967296 := by omega
            have i4 : (y1 : Int) < 4294967296 := by omega
            have i5 : (u0 : Int) < 4294967296 := by omega
            have eP : IntKind.u64.wrap (((p : Int) + 1) * (y0 : Int)) = (P : Int) := by
              rw [show ((p : Int) + 1) = ((p + 1 : Nat) : Int) by omega, ← Int.natCast_mul, ← hP]; exact Mul64.wrapN P hPb
            clear c1 hmore hle hr hge hP hPb hq1
            rw [show ((p + 1 : Nat) : Int) = (p : Int) + 1 by omega]
            by_cases c2 : (4294967296 : Int) ≤ (r : Int) + (y1 : Int)
            · go_wp2
              go_meet
              case rel =>
                obtain ⟨b1, b2, dy, b8, hQ1, hR1, hQ0, hR0⟩ := HN.out; have b9 : R1 < Y := by rw [hR1]; exact Nat.mod_lt _ (by omega)
                exact ⟨by rw [hb_break R1 y1 y0 u0 p r Y Q0 dy hQ0 HQ.out HB.out.2.1 b3 (by omega) (by omega) HB.out.1], ⟨_, rfl⟩, rfl⟩
            · go_wp2
              go_round
              case rel => exact ⟨p, r + y1, rfl, by go_num, hb_step R1 y1 p r HQ.out, by have := HB.out.1; omega, by have := HB.out.2.1; omega, by omega⟩
              case measure => simp [intOf] <;> omega
          · have HE : Hid (q = Q0) := by
              obtain ⟨b1, b2, dy, b8, hQ1, hR1, hQ0, hR0⟩ := HN.out; have b9 : R1 < Y := by rw [hR1]; exact Nat.mod_lt _ (by omega)
              exact hb_exit R1 y1 y0 u0 q r Y Q0 dy hQ0 HQ.out (by omega) (by rw [← hP]; omega) hge
            have eP : IntKind.u64.wrap ((q : Int) * (y0 : Int)) = (P : Int) := by
              rw [← Int.natCast_mul, ← hP]; exact Mul64.wrapN P hPb
            obtain ⟨z, hz⟩ : ∃ z : Int, z = (q : Int) := ⟨_, rfl⟩
            obtain ⟨x, hx⟩ : ∃ x : Int, x = (P : Int) := ⟨_, rfl⟩
            obtain ⟨v, hv⟩ : ∃ v : Int, v = (r : Int) := ⟨_, rfl⟩
            have HZ : Hid (z = (Q0 : Int)) := by rw [hz, HE.out]; rfl
            have i0 : 0 ≤ z := by omega
            have i1 : z < 4294967296 := by omega
            have i2 : 0 ≤ v := by omega
            have i3 : v < 4294967296 := by omega
            have i6 : x ≤ 4294967296 * v + (u0 : Int) := by omega
            rw [← hz, ← hx] at eP
            rw [← hz, ← hv]
            clear c1 c3 hle hr hge hP hPb HE hz hx hv
            go_wp2
            go_meet
            case rel => exact ⟨by rw [HZ.out], ⟨_, rfl⟩, rfl⟩
    case rest =>
      obtain ⟨rfl, ⟨rv2, rfl⟩, rfl⟩ := hcut
      have eQ : IntKind.u64.wrap (IntKind.u64.wrap ((Q1 : Int) * 4294967296) + (Q0 : Int)) = ((Q1 * 4294967296 + Q0 : Nat) : Int) := by
        obtain ⟨b1, b2, dy, b8, hQ1, hR1, hQ0, hR0⟩ := HN.out
        have b9 : R1 < Y := by rw [hR1]; exact Nat.mod_lt _ (by omega)
        have q1 : Q1 < 4294967296 := by rw [hQ1]; exact (Nat.div_lt_iff_lt_mul (by omega)).2 (by omega)
        have q0 : Q0 < 4294967296 := by rw [hQ0]; exact (Nat.div_lt_iff_lt_mul (by omega)).2 (by omega)
        rw [IntKind.wrap_u64, IntKind.wrap_u64]
        omega
      have eZ : IntKind.u64.wrap (IntKind.u64.wrap (IntKind.u64.wrap ((R1 : Int) * 4294967296) + (u0 : Int)) - IntKind.u64.wrap ((Q0 : Int) * (Y : Int))) = (R0 : Int) := by
        obtain ⟨b1, b2, dy, b8, hQ1, hR1, hQ0, hR0⟩ := HN.out
        have dm := Nat.div_add_mod (R1 * 4294967296 + u0) Y
        have b9 : R0 < Y := by rw [hR0]; exact Nat.mod_lt _ (by omega)
        rw [← hQ0, ← hR0, Nat.mul_comm] at dm
        rw [IntKind.wrap_u64, IntKind.wrap_u64, IntKind.wrap_u64, IntKind.wrap_u64, ← Int.natCast_mul]
        generalize Q0 * Y = Z at dm ⊢
        omega
      go_wp2
      rw [show ((Q1 : Int) * 4294967296 + (Q0 : Int)) = ((Q1 * 4294967296 + Q0 : Nat) : Int) by omega]
      go_ret2
      exact ⟨rfl, rfl⟩

end Go.Proofs.Ytjmbgchoioepjaa
