/- How many bits: math/bits.Len64, LeadingZeros64, words.Len -/
import Derived.Test.YtjmbgchoioepjaaA1
import Derived.Test.YtjmbgchoioepjaaA6
import Derived.Lib.Strings
import Derived.Lib.Slices
import Derived.Lib.Small
import Derived.Lib.Walk
import Derived.Lib.BitFns
namespace Go.Proofs.Ytjmbgchoioepjaa
open Go.RowKit Go.Lib

/-- How many bits a number needs. -/
def bl (v : Nat) : Nat := if v = 0 then 0 else Nat.log2 v + 1
theorem bl_zero : bl 0 = 0 := rfl
theorem bl_lt (v : Nat) : v < 2 ^ bl v := by
  unfold bl
  by_cases h : v = 0
  · rw [if_pos h, h]; decide
  · rw [if_neg h]; exact (Nat.log2_lt h).1 (Nat.lt_succ_self _)
theorem bl_le (v : Nat) (h : v ≠ 0) : 2 ^ (bl v - 1) ≤ v := by
  unfold bl
  rw [if_neg h, Nat.add_sub_cancel]
  exact Nat.log2_self_le h
theorem bl_pos (v : Nat) (h : v ≠ 0) : 1 ≤ bl v := by unfold bl; rw [if_neg h]; omega
theorem bl_unique (v L : Nat) (h1 : 2 ^ L ≤ v) (h2 : v < 2 ^ (L + 1)) : bl v = L + 1 := by
  have hv : v ≠ 0 := by have := Nat.two_pow_pos L; omega
  have a1 := bl_lt v
  have a2 := bl_le v hv
  have a3 := bl_pos v hv
  have c1 : L < bl v := (Nat.pow_lt_pow_iff_right (by decide : 1 < 2)).1 (Nat.lt_of_le_of_lt h1 a1)
  have c2 : bl v - 1 < L + 1 := (Nat.pow_lt_pow_iff_right (by decide : 1 < 2)).1 (Nat.lt_of_le_of_lt a2 h2)
  omega
theorem bl_le_of (v n : Nat) (h : v < 2 ^ n) : bl v ≤ n := by
  by_cases hv : v = 0
  · subst hv; exact Nat.zero_le _
  · have a2 := bl_le v hv
    have : bl v - 1 < n := (Nat.pow_lt_pow_iff_right (by decide : 1 < 2)).1 (Nat.lt_of_le_of_lt a2 h)
    omega
theorem bl_high (v k x : Nat) (hx : x ≠ 0) (hv : v / 2 ^ k = x) : bl v = k + bl x := by
  have a1 := bl_lt x
  have a2 := bl_le x hx
  have a3 := bl_pos x hx
  have hp := Nat.two_pow_pos k
  have e : k + bl x = (k + (bl x - 1)) + 1 := by omega
  rw [e]
  apply bl_unique
  · rw [Nat.pow_add]
    calc 2 ^ k * 2 ^ (bl x - 1) ≤ 2 ^ k * x := Nat.mul_le_mul_left _ a2
      _ ≤ v := by rw [← hv]; exact Nat.mul_div_le v (2 ^ k)
  · have : v < 2 ^ k * (x + 1) := by rw [← hv]; exact Nat.lt_mul_div_succ v hp
    rw [show k + (bl x - 1) + 1 = k + bl x by omega, Nat.pow_add]
    exact Nat.lt_of_lt_of_le this (Nat.mul_le_mul_left _ a1)
theorem bitLen_bl : ∀ (n x : Nat), x ≤ n → x < 2 ^ 64 → Lib.bitLen x = bl x := by
  intro n
  induction n with
  | zero => intro x hx _; have : x = 0 := by omega
            subst this; rfl
  | succ n ih =>
    intro x hx hlt
    by_cases h0 : x = 0
    · subst h0; rfl
    · rw [Lib.bitLen_half x h0 hlt, ih (x / 2) (by omega) (by omega)]
      by_cases h1 : x / 2 = 0
      · have : x = 1 := by omega
        subst this; rfl
      · have := bl_high x 1 (x / 2) h1 rfl
        omega
theorem bitLen_eq (x : Nat) (h : x < 18446744073709551616) : Lib.bitLen x = bl x := bitLen_bl x x (Nat.le_refl _) h

theorem tab_size : len8tab.size = 256 := by decide +kernel
theorem tab_bl : ∀ n : Fin 256, (len8tab[n.val]'(by rw [tab_size]; exact n.isLt)).toNat = bl n.val := by decide +kernel
theorem tab_at (d : Nat) (hd : d < len8tab.size) : (len8tab[d]).toNat = bl d := tab_bl ⟨d, by rw [tab_size] at hd; exact hd⟩
theorem len_way0 (x : Int) (hd : x.toNat < len8tab.size) : wrap64 (wrap64 ((len8tab[x.toNat]).toNat : Int)) = (bl x.toNat : Int) := by
  rw [tab_at _ hd]
  have : bl x.toNat ≤ 8 := bl_le_of _ 8 (by rw [tab_size] at hd; exact hd)
  rw [IntWalk.wrap64_in (bl x.toNat : Int) ⟨by omega, by omega⟩, IntWalk.wrap64_in (bl x.toNat : Int) ⟨by omega, by omega⟩]
theorem len_way (k : Nat) (x d : Int) (hd : d.toNat < len8tab.size) (h0 : d.toNat ≠ 0) (h : x.toNat / 2 ^ k = d.toNat) (hk : k ≤ 56) : wrap64 ((k : Int) + wrap64 ((len8tab[d.toNat]).toNat : Int)) = (bl x.toNat : Int) := by
  rw [tab_at _ hd, bl_high x.toNat k d.toNat h0 h]
  have : bl d.toNat ≤ 8 := bl_le_of _ 8 (by rw [tab_size] at hd; exact hd)
  rw [IntWalk.wrap64_in (bl d.toNat : Int) ⟨by omega, by omega⟩, IntWalk.wrap64_in _ ⟨by omega, by omega⟩]
  rfl

set_option maxHeartbeats 1000000 in
set_option maxRecDepth 100000 in
theorem len64_any (x : Int) (w : World) (h0 : 0 ≤ x) (h1 : x ≤ 18446744073709551615) :
    Calls Try.prog 57 #[.int .u64 x] w fun e w' => e = .returned (.int .i64 (bl x.toNat)) ∧ w' = w := by
  have hsz : len8tab.size = 256 := tab_size
  go_enter Try.func57, Try.ntmps57
  go_wp2
  all_goals (go_ret; refine ⟨congrArg Ending.returned (congrArg (Value.int IntKind.i64) ?_), rfl⟩)
  all_goals first
    | exact len_way0 x (by omega)
    | exact len_way 56 x _ (by omega) (by omega) (by omega) (by omega)
    | exact len_way 48 x _ (by omega) (by omega) (by omega) (by omega)
    | exact len_way 40 x _ (by omega) (by omega) (by omega) (by omega)
    | exact len_way 32 x _ (by omega) (by omega) (by omega) (by omega)
    | exact len_way 24 x _ (by omega) (by omega) (by omega) (by omega)
    | exact len_way 16 x _ (by omega) (by omega) (by omega) (by omega)
    | exact len_way 8 x _ (by omega) (by omega) (by omega) (by omega)

theorem lz64_any (x : Int) (w : World) (h0 : 0 ≤ x) (h1 : x ≤ 18446744073709551615) :
    Calls Try.prog 85 #[.int .u64 x] w fun e w' => e = .returned (.int .i64 (64 - (bl x.toNat : Int))) ∧ w' = w := by
  have hl : bl x.toNat ≤ 64 := bl_le_of _ 64 (by omega)
  go_enter Try.func85, Try.ntmps85
  go_wp2_with (go_at_call 57; refine (len64_any x _ h0 h1).mono ?_; rintro e w' ⟨rfl, rfl⟩)
  go_ret
  exact ⟨rfl, rfl⟩

theorem bl_num (v i : Nat) (hi : i < 6) (hz : ∀ j, i < j → j < 6 → wd v j = 0) (hv : v < big) (hx : wd v i ≠ 0) : bl v = 64 * i + bl (wd v i).toNat := by
  have key : ∀ m, i + m ≤ 6 → 1 ≤ m → v < 2 ^ (64 * (i + m)) → v < 2 ^ (64 * (i + 1)) := by
    intro m
    induction m with
    | zero => intro _ h; omega
    | succ m ih =>
      intro h1 _ h3
      by_cases hm : m = 0
      · subst hm; simpa using h3
      · refine ih (by omega) (by omega) ?_
        have hw := hz (i + m) (by omega) (by omega)
        unfold wd at hw
        have hw2 : v / 2 ^ (64 * (i + m)) % 18446744073709551616 = 0 := Int.ofNat.inj hw
        rw [← Nat.add_assoc, pow_step] at h3
        have hp := pow_pos' (i + m)
        have h4 : v / 2 ^ (64 * (i + m)) < 18446744073709551616 := (Nat.div_lt_iff_lt_mul hp).2 (by rw [Nat.mul_comm]; exact h3)
        have h5 : ∀ d : Nat, d % 18446744073709551616 = 0 → d < 18446744073709551616 → d = 0 := fun d h1 h2 => by omega
        exact (Nat.div_eq_zero_iff_lt hp).1 (h5 _ hw2 h4)
  have h1 : v < 2 ^ (64 * (i + 1)) := by
    obtain ⟨n, hn, e⟩ := big_pow
    rw [e] at hv
    have := key (n - i) (by omega) (by omega)
    rw [show i + (n - i) = n by omega] at this
    exact this hv
  rw [pow_step] at h1
  have h2 : v / 2 ^ (64 * i) < 18446744073709551616 := (Nat.div_lt_iff_lt_mul (pow_pos' i)).2 (by rw [Nat.mul_comm]; exact h1)
  unfold wd at hx ⊢
  rw [Nat.mod_eq_of_lt h2] at hx ⊢
  rw [Int.toNat_natCast]
  exact bl_high v (64 * i) _ (by omega) rfl

end Go.Proofs.Ytjmbgchoioepjaa
