/- A8, A13, A14, A15, A16 in one text -/
import Derived.Test.YtoagmdgmbkpghaaPA1
import Derived.Lib.Strings
import Derived.Lib.Slices
import Derived.Lib.Small
import Derived.Lib.Walk
import Derived.Lib.BitFns
import Derived.BigQuiet
import Derived.Deep.DeepCutAuto
import Derived.Deep.CutBlock
import Derived.WalkSmall
/- How many bits: math/bits.Len64, LeadingZeros64, words.Len -/
namespace Go.Proofs.Ytoagmdgmbkpghaa
open Go.RowKit Go.Lib

/-- How many bits a number needs. -/
def bl (v : Nat) : Nat := if v = 0 then 0 else Nat.log2 v + 1
theorem bl_zero : bl 0 = 0 := rfl
theorem bl_lt (v : Nat) : v < 2 ^ bl v := by
  unfold bl
  by_cases h : v = 0
  · rw [if_pos h, h]; decide
  · rw [if_neg h]; exact (Nat.log2_lt h).1 (Nat.lt_succ_self _)
theorem bl_le (v : Nat) (h : v ≠ 0) : 2 ^ (bl v - 1) ≤ v := by
  unfold bl
  rw [if_neg h, Nat.add_sub_cancel]
  exact Nat.log2_self_le h
theorem bl_pos (v : Nat) (h : v ≠ 0) : 1 ≤ bl v := by unfold bl; rw [if_neg h]; omega
theorem bl_unique (v L : Nat) (h1 : 2 ^ L ≤ v) (h2 : v < 2 ^ (L + 1)) : bl v = L + 1 := by
  have hv : v ≠ 0 := by have := Nat.two_pow_pos L; omega
  have a1 := bl_lt v
  have a2 := bl_le v hv
  have a3 := bl_pos v hv
  have c1 : L < bl v := (Nat.pow_lt_pow_iff_right (by decide : 1 < 2)).1 (Nat.lt_of_le_of_lt h1 a1)
  have c2 : bl v - 1 < L + 1 := (Nat.pow_lt_pow_iff_right (by decide : 1 < 2)).1 (Nat.lt_of_le_of_lt a2 h2)
  omega
theorem bl_le_of (v n : Nat) (h : v < 2 ^ n) : bl v ≤ n := by
  by_cases hv : v = 0
  · subst hv; exact Nat.zero_le _
  · have a2 := bl_le v hv
    have : bl v - 1 < n := (Nat.pow_lt_pow_iff_right (by decide : 1 < 2)).1 (Nat.lt_of_le_of_lt a2 h)
    omega
theorem bl_high (v k x : Nat) (hx : x ≠ 0) (hv : v / 2 ^ k = x) : bl v = k + bl x := by
  have a1 := bl_lt x
  have a2 := bl_le x hx
  have a3 := bl_pos x hx
  have hp := Nat.two_pow_pos k
  have e : k + bl x = (k + (bl x - 1)) + 1 := by omega
  rw [e]
  apply bl_unique
  · rw [Nat.pow_add]
    calc 2 ^ k * 2 ^ (bl x - 1) ≤ 2 ^ k * x := Nat.mul_le_mul_left _ a2
      _ ≤ v := by rw [← hv]; exact Nat.mul_div_le v (2 ^ k)
  · have : v < 2 ^ k * (x + 1) := by rw [← hv]; exact Nat.lt_mul_div_succ v hp
    rw [show k + (bl x - 1) + 1 = k + bl x by omega, Nat.pow_add]
    exact Nat.lt_of_lt_of_le this (Nat.mul_le_mul_left _ a1)
theorem bitLen_bl : ∀ (n x : Nat), x ≤ n → x < 2 ^ 64 → Lib.bitLen x = bl x := by
  intro n
  induction n with
  | zero => intro x hx _; have : x = 0 := by omega
            subst this; rfl
  | succ n ih =>
    intro x hx hlt
    by_cases h0 : x = 0
    · subst h0; rfl
    · rw [Lib.bitLen_half x h0 hlt, ih (x / 2) (by omega) (by omega)]
      by_cases h1 : x / 2 = 0
      · have : x = 1 := by omega
        subst this; rfl
      · have := bl_high x 1 (x / 2) h1 rfl
        omega
theorem bitLen_eq (x : Nat) (h : x < 18446744073709551616) : Lib.bitLen x = bl x := bitLen_bl x x (Nat.le_refl _) h

theorem tab_size : len8tab.size = 256 := by decide +kernel
theorem tab_bl : ∀ n : Fin 256, (len8tab[n.val]'(by rw [tab_size]; exact n.isLt)).toNat = bl n.val := by decide +kernel
theorem tab_at (d : Nat) (hd : d < len8tab.size) : (len8tab[d]).toNat = bl d := tab_bl ⟨d, by rw [tab_size] at hd; exact hd⟩
theorem len_way0 (x : Int) (hd : x.toNat < len8tab.size) : wrap64 (wrap64 ((len8tab[x.toNat]).toNat : Int)) = (bl x.toNat : Int) := by
  rw [tab_at _ hd]
  have : bl x.toNat ≤ 8 := bl_le_of _ 8 (by rw [tab_size] at hd; exact hd)
  rw [IntWalk.wrap64_in (bl x.toNat : Int) ⟨by omega, by omega⟩, IntWalk.wrap64_in (bl x.toNat : Int) ⟨by omega, by omega⟩]
theorem len_way (k : Nat) (x d : Int) (hd : d.toNat < len8tab.size) (h0 : d.toNat ≠ 0) (h : x.toNat / 2 ^ k = d.toNat) (hk : k ≤ 56) : wrap64 ((k : Int) + wrap64 ((len8tab[d.toNat]).toNat : Int)) = (bl x.toNat : Int) := by
  rw [tab_at _ hd, bl_high x.toNat k d.toNat h0 h]
  have : bl d.toNat ≤ 8 := bl_le_of _ 8 (by rw [tab_size] at hd; exact hd)
  rw [IntWalk.wrap64_in (bl d.toNat : Int) ⟨by omega, by omega⟩, IntWalk.wrap64_in _ ⟨by omega, by omega⟩]
  rfl

set_option maxHeartbeats 1000000 in
set_option maxRecDepth 100000 in
theorem len64_any (x : Int) (w : World) (h0 : 0 ≤ x) (h1 : x ≤ 18446744073709551615) :
    Calls Try.prog 29 #[.int .u64 x] w fun e w' => e = .returned (.int .i64 (bl x.toNat)) ∧ w' = w := by
  have hsz : len8tab.size = 256 := tab_size
  go_enter Try.func29, Try.ntmps29
  go_wp2
  all_goals (go_ret; refine ⟨congrArg Ending.returned (congrArg (Value.int IntKind.i64) ?_), rfl⟩)
  all_goals first
    | exact len_way0 x (by omega)
    | exact len_way 56 x _ (by omega) (by omega) (by omega) (by omega)
    | exact len_way 48 x _ (by omega) (by omega) (by omega) (by omega)
    | exact len_way 40 x _ (by omega) (by omega) (by omega) (by omega)
    | exact len_way 32 x _ (by omega) (by omega) (by omega) (by omega)
    | exact len_way 24 x _ (by omega) (by omega) (by omega) (by omega)
    | exact len_way 16 x _ (by omega) (by omega) (by omega) (by omega)
    | exact len_way 8 x _ (by omega) (by omega) (by omega) (by omega)

theorem lz64_any (x : Int) (w : World) (h0 : 0 ≤ x) (h1 : x ≤ 18446744073709551615) :
    Calls Try.prog 54 #[.int .u64 x] w fun e w' => e = .returned (.int .i64 (64 - (bl x.toNat : Int))) ∧ w' = w := by
  have hl : bl x.toNat ≤ 64 := bl_le_of _ 64 (by omega)
  go_enter Try.func54, Try.ntmps54
  go_wp2_with (go_at_call 29; refine (len64_any x _ h0 h1).mono ?_; rintro e w' ⟨rfl, rfl⟩)
  go_ret
  exact ⟨rfl, rfl⟩

theorem bl_num (v i : Nat) (hi : i < 6) (hz : ∀ j, i < j → j < 6 → wd v j = 0) (hv : v < big) (hx : wd v i ≠ 0) : bl v = 64 * i + bl (wd v i).toNat := by
  have key : ∀ m, i + m ≤ 6 → 1 ≤ m → v < 2 ^ (64 * (i + m)) → v < 2 ^ (64 * (i + 1)) := by
    intro m
    induction m with
    | zero => intro _ h; omega
    | succ m ih =>
      intro h1 _ h3
      by_cases hm : m = 0
      · subst hm; simpa using h3
      · refine ih (by omega) (by omega) ?_
        have hw := hz (i + m) (by omega) (by omega)
        unfold wd at hw
        have hw2 : v / 2 ^ (64 * (i + m)) % 18446744073709551616 = 0 := Int.ofNat.inj hw
        rw [← Nat.add_assoc, pow_step] at h3
        have hp := pow_pos' (i + m)
        have h4 : v / 2 ^ (64 * (i + m)) < 18446744073709551616 := (Nat.div_lt_iff_lt_mul hp).2 (by rw [Nat.mul_comm]; exact h3)
        have h5 : ∀ d : Nat, d % 18446744073709551616 = 0 → d < 18446744073709551616 → d = 0 := fun d h1 h2 => by omega
        exact (Nat.div_eq_zero_iff_lt hp).1 (h5 _ hw2 h4)
  have h1 : v < 2 ^ (64 * (i + 1)) := by
    obtain ⟨n, hn, e⟩ := big_pow
    rw [e] at hv
    have := key (n - i) (by omega) (by omega)
    rw [show i + (n - i) = n by omega] at this
    exact this hv
  rw [pow_step] at h1
  have h2 : v / 2 ^ (64 * i) < 18446744073709551616 := (Nat.div_lt_iff_lt_mul (pow_pos' i)).2 (by rw [Nat.mul_comm]; exact h1)
  unfold wd at hx ⊢
  rw [Nat.mod_eq_of_lt h2] at hx ⊢
  rw [Int.toNat_natCast]
  exact bl_high v (64 * i) _ (by omega) rfl

set_option maxHeartbeats 400000 in
set_option maxRecDepth 100000 in
theorem len_any (a : Nat) (ha : a < big) (w : World) :
    Calls Try.prog 12 #[N a] w fun e w' => e = .returned (.int .i64 (bl a)) ∧ Below w.heap.size w w' := by
  have HA : Hid (a < big) := ha
  clear ha
  go_enter Try.func12, Try.ntmps12
  go_wp2
  go_loopw [3] (fun i wr => ∃ k : Nat, k ≤ 6 ∧ i = .int .i64 ((k : Int) - 1) ∧ (∀ j, k ≤ j → j < 6 → wd a j = 0) ∧ Row wr w.heap.size 6 (wd a) ∧ Below w.heap.size w wr) (fun i _ => (RowKit.intOf i + 1).toNat)
  case atStart => exact ⟨6, by omega, rfl, fun j h1 h2 => by omega, Row.new w _ 24 rfl (six_lt rfl), (Below.refl _ _).alloc (Nat.le_refl _) _⟩
  case round =>
    obtain ⟨k, hk, rfl, hz, hA, hw⟩ := hrel
    have HZ : Hid _ := hz
    clear hz
    by_cases h0 : 1 ≤ k
    · obtain ⟨i, rfl⟩ : ∃ i, k = i + 1 := ⟨k - 1, by omega⟩
      rw [show (((i + 1 : Nat) : Int) - 1) = (i : Int) by omega]
      have hA1 := (hA i (by omega)).1
      have hwd := wd_bd a i
      have HR : Hid (_ ∧ _) := ⟨hA, hw⟩
      clear hA hw
      by_cases hx : wd a i = 0
      · have hb : (wd a i != 0) = false := by simp [hx]
        clear hx hwd
        go_wp2
        go_roundw
        case rel =>
          obtain ⟨hA, hw⟩ := HR.out
          refine ⟨i, by omega, by go_num, fun j h1 h2 => ?_, hA, hw⟩
          by_cases e : j = i
          · subst e; simpa using hb
          · exact HZ.out j (by omega) h2
        case measure => simp [RowKit.intOf] <;> omega
      · have hb : (wd a i != 0) = true := by simp [hx]
        have hfin : Hid (bl a = 64 * i + bl (wd a i).toNat) := bl_num a i (by omega) (fun j h1 h2 => HZ.out j (by omega) h2) HA.out hx
        have hl64 : bl (wd a i).toNat ≤ 64 := bl_le_of _ 64 (by omega)
        have hc := fun w => len64_any (wd a i) w hwd.1 (by omega)
        have HC : Hid _ := hc
        clear hc hx hwd
        go_wp2_with (go_at_call 29; refine (HC.out _).mono ?_; rintro e w' ⟨rfl, rfl⟩)
        go_ret
        refine ⟨?_, HR.out.2⟩
        rw [hfin.out]
        refine congrArg Ending.returned (congrArg (Value.int IntKind.i64) ?_)
        omega
    · have hk0 : k = 0 := by omega
      subst hk0
      have hfin : Hid (bl a = 0) := by
        have h1 := HZ.out
        have : a = 0 := by
          by_cases ha : a = 0
          · exact ha
          · exfalso
            have hl := bl_le a ha
            have hp := bl_pos a ha
            have hlt : bl a ≤ 384 := by
              obtain ⟨n, hn, e⟩ := big_pow
              have := HA.out
              rw [e] at this
              have := bl_le_of a _ this
              omega
            have hz := h1 ((bl a - 1) / 64) (by omega) (by omega)
            unfold wd at hz
            have hz2 : a / 2 ^ (64 * ((bl a - 1) / 64)) % 18446744073709551616 = 0 := Int.ofNat.inj hz
            have hlt2 := bl_lt a
            have hd : a / 2 ^ (64 * ((bl a - 1) / 64)) < 18446744073709551616 := by
              rw [Nat.div_lt_iff_lt_mul (Nat.two_pow_pos _)]
              have : (18446744073709551616 : Nat) = 2 ^ 64 := by decide
              rw [this, ← Nat.pow_add]
              exact Nat.lt_of_lt_of_le hlt2 (pow_le' _ _ (by omega))
            rw [Nat.mod_eq_of_lt hd, Nat.div_eq_zero_iff_lt (Nat.two_pow_pos _)] at hz2
            have := pow_le' (64 * ((bl a - 1) / 64)) (bl a - 1) (by omega)
            omega
        show bl a = 0
        rw [this]; rfl
      rw [show (((0 : Nat) : Int) - 1) = -1 from rfl]
      go_wp2
      go_ret
      exact ⟨by rw [hfin.out]; rfl, hw⟩
end Go.Proofs.Ytoagmdgmbkpghaa
/- math/bits.Div64: the plain arithmetic. -/
namespace Go.Proofs.Ytoagmdgmbkpghaa
open Go.RowKit

theorem qmul (q Y M : Nat) (h : q * Y ≤ M) (hY : 0 < Y) : q ≤ M / Y := (Nat.le_div_iff_mul_le hY).2 h
/-- The guess is too great: so one less is not too small. -/
theorem half_more (U y1 y0 u q r : Nat) (hq : q * y1 + r = U) (hY : 0 < y1 * 4294967296 + y0) (h : r * 4294967296 + u < q * y0) :
    (U * 4294967296 + u) / (y1 * 4294967296 + y0) + 1 ≤ q := by
  have h1 : U * 4294967296 + u < q * (y1 * 4294967296 + y0) := by
    subst hq
    have e : q * (y1 * 4294967296 + y0) = q * y1 * 4294967296 + q * y0 := by rw [Nat.mul_add, Nat.mul_assoc]
    rw [e]
    clear e
    generalize q * y1 = A
    rw [Nat.add_mul, Nat.add_assoc]
    exact Nat.add_lt_add_left h _
  exact (Nat.div_lt_iff_lt_mul hY).2 h1
theorem half_big (U y1 y0 u q : Nat) (hu : u < 4294967296) (hU : U < y1 * 4294967296 + y0) (h : 4294967296 ≤ q) :
    (U * 4294967296 + u) / (y1 * 4294967296 + y0) + 1 ≤ q := by
  have hY : 0 < y1 * 4294967296 + y0 := by omega
  have h1 : U * 4294967296 + u < 4294967296 * (y1 * 4294967296 + y0) := by omega
  have := (Nat.div_lt_iff_lt_mul hY).2 h1
  omega
theorem half_enough (U y1 y0 u q r : Nat) (hq : q * y1 + r = U) (hY : 0 < y1 * 4294967296 + y0) (h : q * y0 ≤ r * 4294967296 + u) :
    q ≤ (U * 4294967296 + u) / (y1 * 4294967296 + y0) := by
  apply qmul _ _ _ _ hY
  subst hq
  have e : q * (y1 * 4294967296 + y0) = q * y1 * 4294967296 + q * y0 := by rw [Nat.mul_add, Nat.mul_assoc]
  rw [e]
  clear e
  generalize q * y1 = A
  generalize q * y0 = B at h ⊢
  omega
theorem half_start (U y1 y0 : Nat) (hy0 : y0 < 4294967296) (hy1 : 2147483648 ≤ y1) (hU : U < y1 * 4294967296 + y0) : U / y1 ≤ 4294967297 := by
  have h1 : U < 4294967298 * y1 := by omega
  have := (Nat.div_lt_iff_lt_mul (by omega : 0 < y1)).2 h1
  omega
theorem half_ge (U y1 y0 u : Nat) (hu : u < 4294967296) (hy1 : 0 < y1) : (U * 4294967296 + u) / (y1 * 4294967296 + y0) ≤ U / y1 := by
  have h1 : (U * 4294967296 + u) / (y1 * 4294967296 + y0) ≤ (U * 4294967296 + u) / (y1 * 4294967296) := Nat.div_le_div_left (by omega) (by omega)
  have h2 : (U * 4294967296 + u) / (y1 * 4294967296) = U / y1 := by
    rw [Nat.mul_comm y1, ← Nat.div_div_eq_div_mul]
    congr 1
    omega
  omega

/-- Both halves. -/
theorem halves_join (M Y u0 : Nat) (hY : 0 < Y) : M / Y * 4294967296 + (M % Y * 4294967296 + u0) / Y = (M * 4294967296 + u0) / Y := by
  have d := Nat.div_add_mod M Y
  have e : M * 4294967296 + u0 = (M % Y * 4294967296 + u0) + Y * (M / Y * 4294967296) := by
    have e1 : M * 4294967296 = Y * (M / Y * 4294967296) + M % Y * 4294967296 := by rw [← Nat.mul_assoc, ← Nat.add_mul, d]
    rw [e1]
    generalize Y * (M / Y * 4294967296) = Z
    omega
  rw [e, Nat.add_mul_div_left _ _ hY, Nat.add_comm]
theorem norm_div (n y s : Nat) : n * 2 ^ s / (y * 2 ^ s) = n / y := Nat.mul_div_mul_right _ _ (Nat.two_pow_pos s)
end Go.Proofs.Ytoagmdgmbkpghaa
/- math/bits.Div64, words.guess -/
namespace Go.Proofs.Ytoagmdgmbkpghaa
open Go.RowKit

/-- What Div64 makes of its arguments first: Y the divisor, shifted; U, u1, u0 the dividend, shifted. -/
theorem norm_parts (hi lo y : Nat) (h1 : hi < y) (hy : y < 18446744073709551616) (hl : lo < 18446744073709551616) :
    ∃ Y U u1 u0 y1 y0 : Nat, Y = y * 2 ^ (64 - bl y) ∧ 9223372036854775808 ≤ Y ∧ Y < 18446744073709551616 ∧ Y = y1 * 4294967296 + y0 ∧ y0 < 4294967296 ∧ 2147483648 ≤ y1 ∧ y1 < 4294967296 ∧ u1 < 4294967296 ∧ u0 < 4294967296 ∧ U < Y ∧
      (hi * 18446744073709551616 + lo) * 2 ^ (64 - bl y) = (U * 4294967296 + u1) * 4294967296 + u0 ∧
      IntKind.u64.wrap ((y : Int) * 2 ^ (64 - bl y)) = Y ∧ bits .or .u64 (IntKind.u64.wrap ((hi : Int) * 2 ^ (64 - bl y))) ((lo : Int) / 2 ^ (64 - (64 - bl y))) = U ∧
      IntKind.u64.wrap ((lo : Int) * 2 ^ (64 - bl y)) / 4294967296 = u1 ∧ bits .and .u64 (IntKind.u64.wrap ((lo : Int) * 2 ^ (64 - bl y))) 4294967295 = u0 ∧ (Y : Int) / 4294967296 = y1 ∧ bits .and .u64 (Y : Int) 4294967295 = y0 := by
  have hb1 : bl y ≤ 64 := bl_le_of y 64 hy
  have hb2 : 1 ≤ bl y := bl_pos y (by omega)
  have hlt := bl_lt y
  have hle := bl_le y (by omega)
  generalize hs : 64 - bl y = s
  have hbs : bl y = 64 - s := by omega
  have hs2 : s < 64 := by omega
  rw [hbs] at hlt hle
  have p64 : (18446744073709551616 : Nat) = 2 ^ 64 := by decide
  have p63 : (9223372036854775808 : Nat) = 2 ^ 63 := by decide
  have hY1 : y * 2 ^ s < 18446744073709551616 := by
    rw [p64, show (64 : Nat) = (64 - s) + s by omega, Nat.pow_add]
    have : 64 - s + s - s = 64 - s := by omega
    exact Nat.mul_lt_mul_of_pos_right hlt (Nat.two_pow_pos s)
  have hY2 : 9223372036854775808 ≤ y * 2 ^ s := by
    have e : (63 : Nat) = (64 - s - 1) + s := by omega
    rw [p63, e, Nat.pow_add]
    exact Nat.mul_le_mul_right _ hle
  -- the dividend
  have hN : hi * 18446744073709551616 + lo < y * 18446744073709551616 := by omega
  generalize hNe : (hi * 18446744073709551616 + lo) * 2 ^ s = M
  have hM : M < y * 2 ^ s * 18446744073709551616 := by
    rw [← hNe, Nat.mul_right_comm]
    exact Nat.mul_lt_mul_of_pos_right hN (Nat.two_pow_pos s)
  have hU : M / 18446744073709551616 < y * 2 ^ s := (Nat.div_lt_iff_lt_mul (by decide)).2 hM
  have hlow : M % 18446744073709551616 = lo * 2 ^ s % 18446744073709551616 := by
    rw [← hNe, Nat.add_mul, Nat.mul_right_comm, Nat.mul_add_mod_self_right]
  have hUo : (hi <<< s % 2 ^ 64) ||| (lo >>> (64 - s)) = M / 18446744073709551616 := by
    have hUlt : M / 18446744073709551616 < 2 ^ 64 := by rw [← p64]; omega
    rw [← Nat.mod_eq_of_lt hUlt, ← hNe, p64, ← Nat.shiftLeft_eq _ s, ← Nat.shiftRight_eq_div_pow]
    apply Nat.eq_of_testBit_eq
    intro i
    have eor : hi * 2 ^ 64 + lo = hi <<< 64 ||| lo := by rw [← Nat.shiftLeft_eq, Nat.shiftLeft_add_eq_or_of_lt (by rw [← p64]; exact hl)]
    rw [eor]
    simp only [Nat.testBit_or, Nat.testBit_mod_two_pow, Nat.testBit_shiftLeft, Nat.testBit_shiftRight]
    by_cases h64 : i < 64
    · by_cases his : s ≤ i
      · have f1 : s ≤ 64 + i := by omega
        have f2 : 64 ≤ 64 + i - s := by omega
        have f3 : 64 + i - s - 64 = i - s := by omega
        have f4 : 64 - s + i = 64 + i - s := by omega
        have f5 : lo.testBit (64 + i - s) = false := Nat.testBit_lt_two_pow (Nat.lt_of_lt_of_le (by rw [← p64]; exact hl) (Nat.pow_le_pow_right (by decide) f2))
        simp [h64, his, f1, f2, f3, f4, f5]
      · have f1 : s ≤ 64 + i := by omega
        have f2 : ¬ 64 ≤ 64 + i - s := by omega
        have f4 : 64 - s + i = 64 + i - s := by omega
        simp [h64, his, f1, f2, f4]
    · have f5 : lo.testBit (64 - s + i) = false := Nat.testBit_lt_two_pow (Nat.lt_of_lt_of_le (by rw [← p64]; exact hl) (Nat.pow_le_pow_right (by decide) (by omega)))
      simp [h64, f5]
  refine ⟨y * 2 ^ s, M / 18446744073709551616, M % 18446744073709551616 / 4294967296, M % 18446744073709551616 % 4294967296, y * 2 ^ s / 4294967296, y * 2 ^ s % 4294967296, rfl, hY2, hY1, by omega, by omega, by omega, by omega, by omega, by omega, hU, by omega, ?_, ?_, ?_, ?_, ?_, ?_⟩
  · rw [wrap_shl, Nat.shiftLeft_eq, ← p64, Nat.mod_eq_of_lt hY1]
  · rw [wrap_shl, div_shr, bits_or_u64_nat _ _ (Nat.mod_lt _ (by decide)) (by rw [Nat.shiftRight_eq_div_pow]; exact Nat.lt_of_le_of_lt (Nat.div_le_self _ _) hl), hUo]
  · rw [wrap_shl, Nat.shiftLeft_eq, ← p64, hlow]; rfl
  · rw [wrap_shl, Nat.shiftLeft_eq, ← p64, hlow, Mul64.maskN _ (Nat.mod_lt _ (by decide))]
  · rfl
  · rw [Mul64.maskN _ hY1]
end Go.Proofs.Ytoagmdgmbkpghaa
/- math/bits.Div64, words.guess -/
namespace Go.Proofs.Ytoagmdgmbkpghaa
open Go.RowKit

theorem quo_wrap (U y1 q : Nat) (h : U / y1 = q) (hq : q < 18446744073709551616) : IntKind.u64.wrap ((U : Int) / (y1 : Int)) = q := by
  rw [← Int.natCast_ediv, h]; exact Mul64.wrapN q hq
theorem rem_wrap (U y1 q r : Nat) (h : q * y1 + r = U) (hU : U < 18446744073709551616) : IntKind.u64.wrap ((U : Int) - IntKind.u64.wrap ((q : Int) * (y1 : Int))) = r := by
  have h1 : q * y1 < 18446744073709551616 := by omega
  rw [← Int.natCast_mul, Mul64.wrapN _ h1]
  have : (U : Int) - ((q * y1 : Nat) : Int) = (r : Int) := by omega
  rw [this]; exact Mul64.wrapN r (by omega)

theorem hb_break (U y1 y0 u q r Y Q : Nat) (dy : Y = y1 * 4294967296 + y0) (hQ : Q = (U * 4294967296 + u) / Y) (h : (q + 1) * y1 + r = U) (hle : q + 1 ≤ 4294967297) (b3 : y0 < 4294967296) (b4 : 0 < y1) (c2 : 4294967296 ≤ r + y1) (hge : Q + 1 ≤ q + 1) : q = Q := by
  have h2 : q * y1 + (r + y1) = U := by rw [Nat.add_mul] at h; omega
  have h3 : q * y0 ≤ 4294967296 * 4294967295 := Nat.mul_le_mul (by omega) (by omega)
  have h4 := half_enough U y1 y0 u q (r + y1) h2 (by omega) (by omega)
  rw [← dy, ← hQ] at h4
  omega
theorem hb_exit (U y1 y0 u q r Y Q : Nat) (dy : Y = y1 * 4294967296 + y0) (hQ : Q = (U * 4294967296 + u) / Y) (h : q * y1 + r = U) (b4 : 0 < y1) (c : q * y0 ≤ 4294967296 * r + u) (hge : Q ≤ q) : q = Q := by
  have h4 := half_enough U y1 y0 u q r h (by omega) (by rw [Nat.mul_comm r]; exact c)
  rw [← dy, ← hQ] at h4
  omega
theorem hb_more1 (U y1 y0 u q Y Q : Nat) (dy : Y = y1 * 4294967296 + y0) (hQ : Q = (U * 4294967296 + u) / Y) (hu : u < 4294967296) (hU : U < Y) (h : 4294967296 ≤ q) : Q + 1 ≤ q := by
  have h4 := half_big U y1 y0 u q hu (by rw [← dy]; exact hU) h
  rw [← dy, ← hQ] at h4
  exact h4
theorem hb_more2 (U y1 y0 u q r Y Q : Nat) (dy : Y = y1 * 4294967296 + y0) (hQ : Q = (U * 4294967296 + u) / Y) (h : q * y1 + r = U) (b4 : 0 < y1) (c : 4294967296 * r + u < q * y0) : Q + 1 ≤ q := by
  have h4 := half_more U y1 y0 u q r h (by omega) (by rw [Nat.mul_comm r]; exact c)
  rw [← dy, ← hQ] at h4
  exact h4
theorem hb_step (U y1 q r : Nat) (h : (q + 1) * y1 + r = U) : q * y1 + (r + y1) = U := by rw [Nat.add_mul] at h; omega
theorem mul_small (q y0 : Nat) (hq : q < 4294967296) (h : y0 < 4294967296) : q * y0 < 18446744073709551616 := by
  have h3 : q * y0 ≤ 4294967295 * 4294967295 := Nat.mul_le_mul (by omega) (by omega)
  omega

set_option maxHeartbeats 2000000 in
set_option maxRecDepth 100000 in
theorem div64_hi (hi lo y : Nat) (h1 : hi < y) (hy : y < 18446744073709551616) (hl : lo < 18446744073709551616) (h0 : hi ≠ 0) (w : World) :
    Calls Try.prog 53 #[.int .u64 hi, .int .u64 lo, .int .u64 y] w fun e w' => ∃ rr : Int, e = .returned (.tuple #[.int .u64 ((hi * 18446744073709551616 + lo) / y : Nat), .int .u64 rr]) ∧ w' = w := by
  have hc := fun w => lz64_any y w (Int.natCast_nonneg y) (by omega)
  rw [Int.toNat_natCast] at hc
  have HC : Hid _ := hc
  have hb1 : bl y ≤ 64 := bl_le_of y 64 hy
  have hb2 : 1 ≤ bl y := bl_pos y (by omega)
  obtain ⟨Y, U, u1, u0, y1, y0, dY, b1, b2, dy, b3, b4, b5, b6, b7, b8, dM, eY, eU, eu1, eu0, ey1, ey0⟩ := norm_parts hi lo y h1 hy hl
  obtain ⟨Q1, hQ1⟩ : ∃ Q1, Q1 = (U * 4294967296 + u1) / Y := ⟨_, rfl⟩
  obtain ⟨R1, hR1⟩ : ∃ R1, R1 = (U * 4294967296 + u1) % Y := ⟨_, rfl⟩
  obtain ⟨Q0, hQ0⟩ : ∃ Q0, Q0 = (R1 * 4294967296 + u0) / Y := ⟨_, rfl⟩
  have hfin : (hi * 18446744073709551616 + lo) / y = Q1 * 4294967296 + Q0 := by
    rw [hQ0, hR1, hQ1, halves_join _ _ _ (by omega), ← dM, dY, norm_div]
  rw [hfin]
  have HN : Hid _ := And.intro b1 (And.intro b2 (And.intro dy (And.intro b8 (And.intro hQ1 (And.intro hR1 hQ0)))))
  have e1 : ((y : Int) == 0) = false := by simp; omega
  have e2 : ((hi : Int) == 0) = false := by simp; omega
  have e3 : (1 : Int) ≤ y1 := by omega
  clear hc hy hl dY dM hfin b1 b2 dy b8 hQ1 hR1 hQ0
  go_enter Try.func53, Try.ntmps53
  go_upto_block 0 with (go_at_call 54; refine (HC.out _).mono ?_; rintro e w' ⟨rfl, hw'⟩; rw [hw']; clear hw')
  go_cut [15, 16] (fun qv rv wq => qv = .int .u64 Q1 ∧ (∃ r : Int, rv = .int .u64 r) ∧ wq = w)
  case first =>
    go_wp2
    go_loop [15, 16] (fun qv rv => ∃ q r : Nat, qv = .int .u64 q ∧ rv = .int .u64 r ∧ q * y1 + r = U ∧ Q1 ≤ q ∧ q ≤ 4294967297 ∧ r < 4294967296) (fun q _ => (intOf q).toNat)
    case atStart =>
      obtain ⟨b1, b2, dy, b8, hQ1, hR1, hQ0⟩ := HN.out
      have hs := half_start U y1 y0 b3 b4 (by omega)
      have hg := half_ge U y1 y0 u1 b6 (by omega)
      have e1 := quo_wrap U y1 (U / y1) rfl (by omega)
      have dm := Nat.div_add_mod U y1
      have e2 := rem_wrap U y1 (U / y1) (U % y1) (by rw [Nat.mul_comm]; exact dm) (by omega)
      have hm := Nat.mod_lt U (by omega : 0 < y1)
      rw [e1, e2]
      exact ⟨U / y1, U % y1, rfl, rfl, by rw [Nat.mul_comm]; exact dm, by rw [hQ1, dy]; exact hg, hs, by omega⟩
    case round =>
      obtain ⟨q, r, rfl, rfl, hqr, hge, hle, hr⟩ := hrel
      have HQ : Hid _ := hqr
      clear hqr
      by_cases c1 : 4294967296 ≤ q
      · have hmore : Q1 + 1 ≤ q := by
          obtain ⟨b1, b2, dy, b8, hQ1, hR1, hQ0⟩ := HN.out
          exact hb_more1 U y1 y0 u1 q Y Q1 dy hQ1 b6 b8 c1
        obtain ⟨p, rfl⟩ : ∃ p, q = p + 1 := ⟨q - 1, by omega⟩
        have HB : Hid (Q1 + 1 ≤ p + 1 ∧ p + 1 ≤ 4294967297 ∧ r < 4294967296) := ⟨hmore, hle, hr⟩
        have i1 : (4294967296 : Int) ≤ (p : Int) + 1 := by omega
        have i2 : (p : Int) + 1 ≤ 4294967297 := by omega
        have i3 : (r : Int) < 4294967296 := by omega
        have i4 : (y1 : Int) < 4294967296 := by omega
        clear c1 hmore hle hr hge
        rw [show ((p + 1 : Nat) : Int) = (p : Int) + 1 by omega]
        by_cases c2 : (4294967296 : Int) ≤ (r : Int) + (y1 : Int)
        · go_wp2
          go_meet
          case rel =>
            obtain ⟨b1, b2, dy, b8, hQ1, hR1, hQ0⟩ := HN.out
            exact ⟨by rw [hb_break U y1 y0 u1 p r Y Q1 dy hQ1 HQ.out HB.out.2.1 b3 (by omega) (by omega) HB.out.1], ⟨_, rfl⟩, rfl⟩
        · go_wp2
          go_round
          case rel => exact ⟨p, r + y1, rfl, by go_num, hb_step U y1 p r HQ.out, by have := HB.out.1; omega, by have := HB.out.2.1; omega, by omega⟩
          case measure => simp [intOf] <;> omega
      · obtain ⟨P, hP⟩ : ∃ P, P = q * y0 := ⟨_, rfl⟩
        have hPb : P < 18446744073709551616 := by rw [hP]; exact mul_small q y0 (by omega) b3
        by_cases c3 : (4294967296 : Int) * (r : Int) + (u1 : Int) < (P : Int)
        · have hq1 : 1 ≤ q := by
            by_cases hq0 : q = 0
            · subst hq0; rw [Nat.zero_mul] at hP; omega
            · omega
          have hmore : Q1 + 1 ≤ q := by
            obtain ⟨b1, b2, dy, b8, hQ1, hR1, hQ0⟩ := HN.out
            exact hb_more2 U y1 y0 u1 q r Y Q1 dy hQ1 HQ.out (by omega) (by rw [← hP]; omega)
          obtain ⟨p, rfl⟩ : ∃ p, q = p + 1 := ⟨q - 1, by omega⟩
          have HB : Hid (Q1 + 1 ≤ p + 1 ∧ p + 1 ≤ 4294967297 ∧ r < 4294967296) := ⟨hmore, hle, hr⟩
          have i1 : (p : Int) + 1 < 4294967296 := by omega
          have i3 : (r : Int) < 4294967296 := by omega
          have i4 : (y1 : Int) < 4294967296 := by omega
          have i5 : (u1 : Int) < 4294967296 := by omega
          have eP : IntKind.u64.wrap (((p : Int) + 1) * (y0 : Int)) = (P : Int) := by
            rw [show ((p : Int) + 1) = ((p + 1 : Nat) : Int) by omega, ← Int.natCast_mul, ← hP]; exact Mul64.wrapN P hPb
          clear c1 hmore hle hr hge hP hPb hq1
          rw [show ((p + 1 : Nat) : Int) = (p : Int) + 1 by omega]
          by_cases c2 : (4294967296 : Int) ≤ (r : Int) + (y1 : Int)
          · go_wp2
            go_meet
            case rel =>
              obtain ⟨b1, b2, dy, b8, hQ1, hR1, hQ0⟩ := HN.out
              exact ⟨by rw [hb_break U y1 y0 u1 p r Y Q1 dy hQ1 HQ.out HB.out.2.1 b3 (by omega) (by omega) HB.out.1], ⟨_, rfl⟩, rfl⟩
          · go_wp2
            go_round
            case rel => exact ⟨p, r + y1, rfl, by go_num, hb_step U y1 p r HQ.out, by have := HB.out.1; omega, by have := HB.out.2.1; omega, by omega⟩
            case measure => simp [intOf] <;> omega
        · have HE : Hid (q = Q1) := by
            obtain ⟨b1, b2, dy, b8, hQ1, hR1, hQ0⟩ := HN.out
            exact hb_exit U y1 y0 u1 q r Y Q1 dy hQ1 HQ.out (by omega) (by rw [← hP]; omega) hge
          have eP : IntKind.u64.wrap ((q : Int) * (y0 : Int)) = (P : Int) := by
            rw [← Int.natCast_mul, ← hP]; exact Mul64.wrapN P hPb
          obtain ⟨z, hz⟩ : ∃ z : Int, z = (q : Int) := ⟨_, rfl⟩
          obtain ⟨x, hx⟩ : ∃ x : Int, x = (P : Int) := ⟨_, rfl⟩
          obtain ⟨v, hv⟩ : ∃ v : Int, v = (r : Int) := ⟨_, rfl⟩
          have HZ : Hid (z = (Q1 : Int)) := by rw [hz, HE.out]; rfl
          have i0 : 0 ≤ z := by omega
          have i1 : z < 4294967296 := by omega
          have i2 : 0 ≤ v := by omega
          have i3 : v < 4294967296 := by omega
          have i6 : x ≤ 4294967296 * v + (u1 : Int) := by omega
          rw [← hz, ← hx] at eP
          rw [← hz, ← hv]
          clear c1 c3 hle hr hge hP hPb HE hz hx hv
          go_wp2
          go_meet
          case rel => exact ⟨by rw [HZ.out], ⟨_, rfl⟩, rfl⟩
  case rest =>
    obtain ⟨rfl, ⟨rv, rfl⟩, rfl⟩ := hcut
    have eR : IntKind.u64.wrap (IntKind.u64.wrap (IntKind.u64.wrap ((U : Int) * 4294967296) + (u1 : Int)) - IntKind.u64.wrap ((Q1 : Int) * (Y : Int))) = (R1 : Int) := by
      obtain ⟨b1, b2, dy, b8, hQ1, hR1, hQ0⟩ := HN.out
      have dm := Nat.div_add_mod (U * 4294967296 + u1) Y
      have b9 : R1 < Y := by rw [hR1]; exact Nat.mod_lt _ (by omega)
      rw [← hQ1, ← hR1, Nat.mul_comm] at dm
      rw [IntKind.wrap_u64, IntKind.wrap_u64, IntKind.wrap_u64, IntKind.wrap_u64, ← Int.natCast_mul]
      generalize Q1 * Y = Z at dm ⊢
      omega
    go_upto_block 2 with (fail)
    go_cut [18, 16] (fun qv rv wq => qv = .int .u64 Q0 ∧ (∃ r : Int, rv = .int .u64 r) ∧ wq = wc)
    case first =>
      go_wp2
      go_loop [18, 16] (fun qv rv => ∃ q r : Nat, qv = .int .u64 q ∧ rv = .int .u64 r ∧ q * y1 + r = R1 ∧ Q0 ≤ q ∧ q ≤ 4294967297 ∧ r < 4294967296) (fun q _ => (intOf q).toNat)
      case atStart =>
        obtain ⟨b1, b2, dy, b8, hQ1, hR1, hQ0⟩ := HN.out; have b9 : R1 < Y := by rw [hR1]; exact Nat.mod_lt _ (by omega)
        have hs := half_start R1 y1 y0 b3 b4 (by omega)
        have hg := half_ge R1 y1 y0 u0 b7 (by omega)
        have e1 := quo_wrap R1 y1 (R1 / y1) rfl (by omega)
        have dm := Nat.div_add_mod R1 y1
        have e2 := rem_wrap R1 y1 (R1 / y1) (R1 % y1) (by rw [Nat.mul_comm]; exact dm) (by omega)
        have hm := Nat.mod_lt R1 (by omega : 0 < y1)
        rw [e1, e2]
        exact ⟨R1 / y1, R1 % y1, rfl, rfl, by rw [Nat.mul_comm]; exact dm, by rw [hQ0, dy]; exact hg, hs, by omega⟩
      case round =>
        obtain ⟨q, r, rfl, rfl, hqr, hge, hle, hr⟩ := hrel
        have HQ : Hid _ := hqr
        clear hqr
        by_cases c1 : 4294967296 ≤ q
        · have hmore : Q0 + 1 ≤ q := by
            obtain ⟨b1, b2, dy, b8, hQ1, hR1, hQ0⟩ := HN.out; have b9 : R1 < Y := by rw [hR1]; exact Nat.mod_lt _ (by omega)
            exact hb_more1 R1 y1 y0 u0 q Y Q0 dy hQ0 b7 b9 c1
          obtain ⟨p, rfl⟩ : ∃ p, q = p + 1 := ⟨q - 1, by omega⟩
          have HB : Hid (Q0 + 1 ≤ p + 1 ∧ p + 1 ≤ 4294967297 ∧ r < 4294967296) := ⟨hmore, hle, hr⟩
          have i1 : (4294967296 : Int) ≤ (p : Int) + 1 := by omega
          have i2 : (p : Int) + 1 ≤ 4294967297 := by omega
          have i3 : (r : Int) < 4294967296 := by omega
          have i4 : (y1 : Int) < 4294967296 := by omega
          clear c1 hmore hle hr hge
          rw [show ((p + 1 : Nat) : Int) = (p : Int) + 1 by omega]
          by_cases c2 : (4294967296 : Int) ≤ (r : Int) + (y1 : Int)
          · go_wp2
            go_meet
            case rel =>
              obtain ⟨b1, b2, dy, b8, hQ1, hR1, hQ0⟩ := HN.out; have b9 : R1 < Y := by rw [hR1]; exact Nat.mod_lt _ (by omega)
              exact ⟨by rw [hb_break R1 y1 y0 u0 p r Y Q0 dy hQ0 HQ.out HB.out.2.1 b3 (by omega) (by omega) HB.out.1], ⟨_, rfl⟩, rfl⟩
          · go_wp2
            go_round
            case rel => exact ⟨p, r + y1, rfl, by go_num, hb_step R1 y1 p r HQ.out, by have := HB.out.1; omega, by have := HB.out.2.1; omega, by omega⟩
            case measure => simp [intOf] <;> omega
        · obtain ⟨P, hP⟩ : ∃ P, P = q * y0 := ⟨_, rfl⟩
          have hPb : P < 18446744073709551616 := by rw [hP]; exact mul_small q y0 (by omega) b3
          by_cases c3 : (4294967296 : Int) * (r : Int) + (u0 : Int) < (P : Int)
          · have hq1 : 1 ≤ q := by
              by_cases hq0 : q = 0
              · subst hq0; rw [Nat.zero_mul] at hP; omega
              · omega
            have hmore : Q0 + 1 ≤ q := by
              obtain ⟨b1, b2, dy, b8, hQ1, hR1, hQ0⟩ := HN.out; have b9 : R1 < Y := by rw [hR1]; exact Nat.mod_lt _ (by omega)
              exact hb_more2 R1 y1 y0 u0 q r Y Q0 dy hQ0 HQ.out (by omega) (by rw [← hP]; omega)
            obtain ⟨p, rfl⟩ : ∃ p, q = p + 1 := ⟨q - 1, by omega⟩
            have HB : Hid (Q0 + 1 ≤ p + 1 ∧ p + 1 ≤ 4294967297 ∧ r < 4294967296) := ⟨hmore, hle, hr⟩
            have i1 : (p : Int) + 1 < 4294967296 := by omega
            have i3 : (r : Int) < 4294967296 := by omega
            have i4 : (y1 : Int) < 4294967296 := by omega
            have i5 : (u0 : Int) < 4294967296 := by omega
            have eP : IntKind.u64.wrap (((p : Int) + 1) * (y0 : Int)) = (P : Int) := by
              rw [show ((p : Int) + 1) = ((p + 1 : Nat) : Int) by omega, ← Int.natCast_mul, ← hP]; exact Mul64.wrapN P hPb
            clear c1 hmore hle hr hge hP hPb hq1
            rw [show ((p + 1 : Nat) : Int) = (p : Int) + 1 by omega]
            by_cases c2 : (4294967296 : Int) ≤ (r : Int) + (y1 : Int)
            · go_wp2
              go_meet
              case rel =>
                obtain ⟨b1, b2, dy, b8, hQ1, hR1, hQ0⟩ := HN.out; have b9 : R1 < Y := by rw [hR1]; exact Nat.mod_lt _ (by omega)
                exact ⟨by rw [hb_break R1 y1 y0 u0 p r Y Q0 dy hQ0 HQ.out HB.out.2.1 b3 (by omega) (by omega) HB.out.1], ⟨_, rfl⟩, rfl⟩
            · go_wp2
              go_round
              case rel => exact ⟨p, r + y1, rfl, by go_num, hb_step R1 y1 p r HQ.out, by have := HB.out.1; omega, by have := HB.out.2.1; omega, by omega⟩
              case measure => simp [intOf] <;> omega
          · have HE : Hid (q = Q0) := by
              obtain ⟨b1, b2, dy, b8, hQ1, hR1, hQ0⟩ := HN.out; have b9 : R1 < Y := by rw [hR1]; exact Nat.mod_lt _ (by omega)
              exact hb_exit R1 y1 y0 u0 q r Y Q0 dy hQ0 HQ.out (by omega) (by rw [← hP]; omega) hge
            have eP : IntKind.u64.wrap ((q : Int) * (y0 : Int)) = (P : Int) := by
              rw [← Int.natCast_mul, ← hP]; exact Mul64.wrapN P hPb
            obtain ⟨z, hz⟩ : ∃ z : Int, z = (q : Int) := ⟨_, rfl⟩
            obtain ⟨x, hx⟩ : ∃ x : Int, x = (P : Int) := ⟨_, rfl⟩
            obtain ⟨v, hv⟩ : ∃ v : Int, v = (r : Int) := ⟨_, rfl⟩
            have HZ : Hid (z = (Q0 : Int)) := by rw [hz, HE.out]; rfl
            have i0 : 0 ≤ z := by omega
            have i1 : z < 4294967296 := by omega
            have i2 : 0 ≤ v := by omega
            have i3 : v < 4294967296 := by omega
            have i6 : x ≤ 4294967296 * v + (u0 : Int) := by omega
            rw [← hz, ← hx] at eP
            rw [← hz, ← hv]
            clear c1 c3 hle hr hge hP hPb HE hz hx hv
            go_wp2
            go_meet
            case rel => exact ⟨by rw [HZ.out], ⟨_, rfl⟩, rfl⟩
    case rest =>
      obtain ⟨rfl, ⟨rv2, rfl⟩, rfl⟩ := hcut
      have eQ : IntKind.u64.wrap (IntKind.u64.wrap ((Q1 : Int) * 4294967296) + (Q0 : Int)) = ((Q1 * 4294967296 + Q0 : Nat) : Int) := by
        obtain ⟨b1, b2, dy, b8, hQ1, hR1, hQ0⟩ := HN.out
        have b9 : R1 < Y := by rw [hR1]; exact Nat.mod_lt _ (by omega)
        have q1 : Q1 < 4294967296 := by rw [hQ1]; exact (Nat.div_lt_iff_lt_mul (by omega)).2 (by omega)
        have q0 : Q0 < 4294967296 := by rw [hQ0]; exact (Nat.div_lt_iff_lt_mul (by omega)).2 (by omega)
        rw [IntKind.wrap_u64, IntKind.wrap_u64]
        omega
      go_wp2
      rw [show ((Q1 : Int) * 4294967296 + (Q0 : Int)) = ((Q1 * 4294967296 + Q0 : Nat) : Int) by omega]
      go_ret2
      exact ⟨_, rfl, rfl⟩

end Go.Proofs.Ytoagmdgmbkpghaa
/- math/bits.Div64 whole, words.guess -/
namespace Go.Proofs.Ytoagmdgmbkpghaa
open Go.RowKit

set_option maxHeartbeats 400000 in
theorem div64_zero (lo y : Nat) (h1 : 0 < y) (hl : lo < 18446744073709551616) (w : World) :
    Calls Try.prog 53 #[.int .u64 0, .int .u64 lo, .int .u64 y] w fun e w' => ∃ rr : Int, e = .returned (.tuple #[.int .u64 (lo / y : Nat), .int .u64 rr]) ∧ ∃ n, w' = w.drewN n := by
  have e1 : ((y : Int) == 0) = false := by simp; omega
  have e3 : (1 : Int) ≤ y := by omega
  have eq : Hid _ := quo_wrap lo y (lo / y) rfl (Nat.lt_of_le_of_lt (Nat.div_le_self _ _) hl)
  clear hl
  go_enter Try.func53, Try.ntmps53
  go_wp2
  go_quiet (fail)
  go_wp2
  rw [eq.out]
  go_ret2
  exact ⟨_, rfl, _, rfl⟩
theorem div64_any (hi lo y : Nat) (h1 : hi < y) (hy : y < 18446744073709551616) (hl : lo < 18446744073709551616) (w : World) :
    Calls Try.prog 53 #[.int .u64 hi, .int .u64 lo, .int .u64 y] w fun e w' => ∃ rr : Int, e = .returned (.tuple #[.int .u64 ((hi * 18446744073709551616 + lo) / y : Nat), .int .u64 rr]) ∧ ∃ n, w' = w.drewN n := by
  by_cases h0 : hi = 0
  · subst h0
    rw [Nat.zero_mul, Nat.zero_add]
    exact div64_zero lo y (by omega) hl w
  · refine (div64_hi hi lo y h1 hy hl h0 w).mono ?_
    rintro e w' ⟨rr, rfl, hw⟩
    exact ⟨rr, rfl, 0, hw⟩

/-- What guess tells. -/
def gs (h l t : Nat) : Nat := if t ≤ h then 18446744073709551615 else (h * 18446744073709551616 + l) / t
theorem gs_lt (h l t : Nat) (hh : h < t) (hl : l < 18446744073709551616) : gs h l t < 18446744073709551616 := by
  unfold gs
  rw [if_neg (by omega)]
  rw [Nat.div_lt_iff_lt_mul (by omega)]
  omega
theorem gs_bd (h l t : Nat) (hl : l < 18446744073709551616) : gs h l t < 18446744073709551616 := by
  by_cases c : t ≤ h
  · unfold gs; rw [if_pos c]; omega
  · exact gs_lt h l t (by omega) hl
end Go.Proofs.Ytoagmdgmbkpghaa
