/- The leading divisor: step and double -/
import Derived.Test.YtoagmdgmbkpghaaL3
namespace Go.Proofs.Ytoagmdgmbkpghaa
open Go.RowKit
namespace Rg

theorem unq {u B k m : Int} (hB : 0 < B) (e : u = B * k + m) (h0 : 0 ≤ m) (h1 : m < B) : u / B = k ∧ u % B = m :=
  (Int.ediv_emod_unique hB).2 ⟨by omega, h0, h1⟩
/-- What is left less d times the divisor. -/
def zst (r b d : Nat) : Int := (r : Int) - (d : Int) * (b : Int)
def zl (r b d : Nat) : Nat := (zst r b d % (big : Int)).toNat
def za (r b d : Nat) : Int := zst r b d / (big : Int) % 18446744073709551616
theorem bigI : (0 : Int) < (big : Int) := by have := big_pos2; omega
theorem zl_cast (r b d : Nat) : ((zl r b d : Nat) : Int) = zst r b d % (big : Int) := Int.toNat_of_nonneg (Int.emod_nonneg _ (by have := bigI; omega))
theorem zl_lt (r b d : Nat) : zl r b d < big := by
  have h := zl_cast r b d
  have h2 := Int.emod_lt_of_pos (zst r b d) bigI
  omega
theorem zst_succ (r b d : Nat) : zst r b d = zst r b (d + 1) + b := by
  unfold zst
  rw [Int.natCast_add, Int.add_mul]
  omega
theorem z_step (r b d : Nat) (hb : b < big) : (if big ≤ zl r b (d + 1) + b then zst r b (d + 1) / (big : Int) + 1 else zst r b (d + 1) / (big : Int)) = zst r b d / (big : Int) ∧ (zl r b (d + 1) + b) % big = zl r b d := by
  have h1 := zl_cast r b (d + 1)
  have h2 := zl_cast r b d
  have h3 := zl_lt r b (d + 1)
  have hm := Int.mul_ediv_add_emod (zst r b (d + 1)) (big : Int)
  rw [← h1] at hm
  have e := zst_succ r b d
  by_cases hc : big ≤ zl r b (d + 1) + b
  · rw [if_pos hc]
    obtain ⟨u1, u2⟩ := unq (u := zst r b d) (k := zst r b (d + 1) / (big : Int) + 1) (m := (zl r b (d + 1) : Int) + b - big) bigI (by rw [e, Int.mul_add, Int.mul_one]; omega) (by omega) (by omega)
    refine ⟨u1.symm, ?_⟩
    rw [u2] at h2
    rw [Nat.mod_eq_sub_mod hc, Nat.mod_eq_of_lt (by omega)]
    omega
  · rw [if_neg hc]
    obtain ⟨u1, u2⟩ := unq (u := zst r b d) (k := zst r b (d + 1) / (big : Int)) (m := (zl r b (d + 1) : Int) + b) bigI (by rw [e]; omega) (by omega) (by omega)
    refine ⟨u1.symm, ?_⟩
    rw [u2] at h2
    rw [Nat.mod_eq_of_lt (by omega)]
    omega
theorem za_zero (r b : Nat) (hr : r < big) : za r b 0 = 0 := by
  unfold za zst
  rw [Int.natCast_zero, Int.zero_mul, Int.sub_zero, Int.ediv_eq_zero_of_lt (by omega) (by omega)]; rfl
theorem zl_zero (r b : Nat) (hr : r < big) : zl r b 0 = r := by
  have h := zl_cast r b 0
  unfold zst at h
  rw [Int.natCast_zero, Int.zero_mul, Int.sub_zero, Int.emod_eq_of_lt (by omega) (by omega)] at h
  omega
theorem za_ne (r b d : Nat) (hr : r < b) (hb : b < big) (hd : d < 18446744073709551616) (h0 : 0 < d) : ¬ za r b d = 0 := by
  unfold za
  have h1 : zst r b d < 0 := by
    unfold zst
    have : (b : Int) ≤ (d : Int) * (b : Int) := by
      have := Nat.mul_le_mul (show 1 ≤ d from h0) (Nat.le_refl b)
      rw [← Int.natCast_mul]; omega
    omega
  have h2 : -(18446744073709551615 * (big : Int)) ≤ zst r b d := by
    unfold zst
    have h3 : d * b ≤ 18446744073709551615 * big := Nat.mul_le_mul (by omega) (by omega)
    rw [← Int.natCast_mul]; omega
  have h3 : zst r b d / (big : Int) < 0 := Int.ediv_neg_of_neg_of_pos h1 bigI
  have h4 : -18446744073709551615 ≤ zst r b d / (big : Int) := by
    rw [Int.le_ediv_iff_mul_le bigI]; omega
  omega
theorem guess_ge (X b : Nat) (hb : b < big) (hX : X < 18446744073709551616 * b) : X / b ≤ gs (X / big) (wn (X % big) 5) (wn b 5) := by
  have hb0 : 0 < b := by
    rcases Nat.eq_zero_or_pos b with h | h
    · rw [h, Nat.mul_zero] at hX; omega
    · exact h
  unfold gs
  by_cases c : wn b 5 ≤ X / big
  · rw [if_pos c]
    have : X / b < 18446744073709551616 := by rw [Nat.div_lt_iff_lt_mul hb0]; exact hX
    omega
  · rw [if_neg c]
    obtain ⟨j, hj⟩ : ∃ j, j = 5 := ⟨5, rfl⟩
    have hbj := big_j j hj
    rw [← hj] at c ⊢
    have e1 : wn b j = b / 2 ^ (64 * j) := by
      have := wd_last b j (by rw [← hbj]; exact hb)
      rw [wd_wn] at this; omega
    have e2 : X / big * 18446744073709551616 + wn (X % big) j = X / 2 ^ (64 * j) := by
      have h1 : wn (X % big) j = X % big / 2 ^ (64 * j) := by
        have := wd_last (X % big) j (by rw [← hbj]; exact Nat.mod_lt _ big_pos2)
        rw [wd_wn] at this; omega
      rw [h1]
      have h2 := Nat.div_add_mod X big
      generalize X % big = m at h2 ⊢
      generalize X / big = k at h2 ⊢
      rw [← h2, hbj, pow_step, Nat.mul_assoc, Nat.mul_add_div (pow_pos' j), Nat.mul_comm k]
    rw [e2, e1]
    have hq : 0 < b / 2 ^ (64 * j) := by rw [← e1]; omega
    rw [Nat.le_div_iff_mul_le hq, Nat.le_div_iff_mul_le (pow_pos' j)]
    have h3 : b / 2 ^ (64 * j) * 2 ^ (64 * j) ≤ b := Nat.div_mul_le_self _ _
    have h4 : X / b * b ≤ X := Nat.div_mul_le_self _ _
    rw [Nat.mul_assoc]
    exact Nat.le_trans (Nat.mul_le_mul (Nat.le_refl _) h3) h4
theorem take_z (X b t : Nat) (ht : X / b ≤ t) : zst (X % b) b (t - X / b) / (big : Int) = ((X / big : Nat) : Int) - ((tkT (X % big) t b : Nat) : Int) ∧ zl (X % b) b (t - X / b) = (X % big + big - t * b % big) % big := by
  have h1 : zst (X % b) b (t - X / b) = (X : Int) - (t : Int) * (b : Int) := by
    unfold zst
    have e := Nat.div_add_mod X b
    have e2 : ((t - X / b : Nat) : Int) = (t : Int) - ((X / b : Nat) : Int) := by omega
    rw [e2, Int.sub_mul]
    have e3 : ((X / b : Nat) : Int) * (b : Int) = ((b * (X / b) : Nat) : Int) := by rw [Int.natCast_mul, Int.mul_comm]
    rw [e3]; omega
  have e4 := Nat.div_add_mod X big
  have e5 := Nat.div_add_mod (t * b) big
  have l1 := Nat.mod_lt X big_pos2
  have l2 := Nat.mod_lt (t * b) big_pos2
  have hzl := zl_cast (X % b) b (t - X / b)
  rw [← Int.natCast_mul] at h1
  unfold tkT
  generalize X % big = m at *
  generalize t * b % big = u at *
  generalize hP : t * b = P at *
  by_cases hc : m < u
  · rw [if_pos hc]
    obtain ⟨u1, u2⟩ := unq (u := zst (X % b) b (t - X / b)) (k := ((X / big : Nat) : Int) - ((P / big + 1 : Nat) : Int)) (m := (m : Int) + big - u) bigI (by
      rw [h1, Int.mul_sub, ← Int.natCast_mul, ← Int.natCast_mul, Nat.mul_add, Nat.mul_one]; omega) (by omega) (by omega)
    refine ⟨u1, ?_⟩
    rw [u2] at hzl
    rw [Nat.mod_eq_of_lt (show m + big - u < big by omega)]; omega
  · rw [if_neg hc]
    obtain ⟨u1, u2⟩ := unq (u := zst (X % b) b (t - X / b)) (k := ((X / big : Nat) : Int) - ((P / big + 0 : Nat) : Int)) (m := (m : Int) - u) bigI (by
      rw [h1, Int.mul_sub, ← Int.natCast_mul, ← Int.natCast_mul, Nat.add_zero]; omega) (by omega) (by omega)
    refine ⟨u1, ?_⟩
    rw [u2] at hzl
    rw [Nat.mod_eq_sub_mod (show big ≤ m + big - u by omega), Nat.mod_eq_of_lt (show m + big - u - big < big by omega)]; omega
theorem stepL_any (g b L i : Nat) (hi : i ≤ 64) (hb : b < big) (hL : L < b) (w : World) (hm : Mm w [(g, lec b (wd L))]) :
    Calls Try.prog 43 #[PT g 0, .int .i64 ((i : Nat) : Int)] w fun e w' => e = .returned (.tuple #[]) ∧ Mm w' [(g, lec b (wd (L * 2 ^ i % b)))] ∧ Kp g w w' := by
  have hLb : L < big := by omega
  have hb0 : 0 < b := by omega
  have hX : L * 2 ^ i < 18446744073709551616 * b := by
    have h1 : 2 ^ i ≤ 18446744073709551616 := by
      have := Nat.pow_le_pow_right (show 0 < 2 by decide) hi
      exact this
    have h2 : L * 2 ^ i ≤ L * 18446744073709551616 := Nat.mul_le_mul (Nat.le_refl _) h1
    omega
  have cs := fun w hm => shiftL_any g b L i hi hLb w hm
  generalize L * 2 ^ i = X at cs hX ⊢
  have hge := guess_ge X b hb hX
  have hlt := gs_bd (X / big) (wn (X % big) 5) (wn b 5) (wn_lt _ _)
  have cg := fun w => guessM_any (X / big) (wn (X % big) 5) (wn b 5) (wn_lt _ _) (wn_lt _ _) w
  generalize gs (X / big) (wn (X % big) 5) (wn b 5) = t at hge hlt cg
  have ct := fun w hm => takeL_any g b (X % big) t (Nat.mod_lt _ big_pos2) hb hlt w hm
  obtain ⟨z1, z2⟩ := take_z X b t hge
  have hr := Nat.mod_lt X hb0
  rw [← z2] at ct
  have h := step_gen g b L (X % big) (X / big) t (tkT (X % big) t b) (t - X / b) ((i : Nat) : Int) (zl (X % b) b) (za (X % b) b) (fun x => decide (big ≤ zl (X % b) b (x + 1) + b))
    (za_zero _ _ (by omega)) (fun x hx => za_ne _ _ _ hr hb (by have := Nat.sub_le t (X / b); omega) (by omega)) (by rw [IntKind.wrap_u64, ← z1]; rfl)
    (fun x hx => by
      have hz := (z_step (X % b) b x hb).1
      rw [if_pos (of_decide_eq_true hx)] at hz
      unfold za
      rw [IntKind.wrap_u64, ← hz]; omega)
    (fun x hx => by
      have hz := (z_step (X % b) b x hb).1
      rw [if_neg (of_decide_eq_false hx)] at hz
      unfold za
      rw [hz])
    cs cg ct (fun x w => by
      have h := add_any (zl (X % b) b (x + 1)) b (zl_lt _ _ _) hb w
      rw [(z_step (X % b) b x hb).2] at h
      exact h) w hm
  rw [zl_zero _ _ (by omega)] at h
  exact h
theorem doubleL_any (g b L n : Nat) (hn : n ≤ 384) (hb : b < big) (hL : L < b) (w : World) (hm : Mm w [(g, lec b (wd L))]) :
    Calls Try.prog 31 #[PT g 0, .int .i64 ((n : Nat) : Int)] w fun e w' => e = .returned (.tuple #[]) ∧ Mm w' [(g, lec b (wd (L * 2 ^ n % b)))] ∧ Kp g w w' := by
  obtain ⟨K, j, hK, hj, hKj, e⟩ : ∃ K j, K < 1000 ∧ j ≤ 64 ∧ (0 < K → 0 < j) ∧ n = 64 * (K - 0) + j := by
    by_cases h0 : n = 0
    · exact ⟨0, 0, by omega, by omega, by omega, by omega⟩
    · exact ⟨(n - 1) / 64, n - 64 * ((n - 1) / 64), by omega, by omega, by omega, by omega⟩
  have hb0 : 0 < b := by omega
  have ef : ∀ k m, L * 2 ^ (64 * k) % b * 2 ^ m % b = L * 2 ^ (64 * k + m) % b := fun k m => by
    rw [Nat.mul_mod, Nat.mod_mod, ← Nat.mul_mod, Nat.mul_assoc, ← Nat.pow_add]
  have cf : ∀ k w, Mm w [(g, lec b (wd (L * 2 ^ (64 * k) % b)))] → Calls Try.prog 43 #[PT g 0, .int .i64 64] w fun e w' => e = .returned (.tuple #[]) ∧ Mm w' [(g, lec b (wd (L * 2 ^ (64 * (k + 1)) % b)))] ∧ Kp g w w' := fun k w hm => by
    have h := stepL_any g b (L * 2 ^ (64 * k) % b) 64 (Nat.le_refl _) hb (Nat.mod_lt _ hb0) w hm
    rw [ef k 64, show 64 * k + 64 = 64 * (k + 1) by omega] at h
    exact h
  have cl : ∀ w, Mm w [(g, lec b (wd (L * 2 ^ (64 * K) % b)))] → Calls Try.prog 43 #[PT g 0, .int .i64 ((64 * (K - K) + j : Nat) : Int)] w fun e w' => e = .returned (.tuple #[]) ∧ Mm w' [(g, lec b (wd (L * 2 ^ n % b)))] ∧ Kp g w w' := fun w hm => by
    have h := stepL_any g b (L * 2 ^ (64 * K) % b) j hj hb (Nat.mod_lt _ hb0) w hm
    rw [ef K j, show 64 * K + j = n by omega] at h
    rw [show 64 * (K - K) + j = j by omega]
    exact h
  have h0 : L * 2 ^ (64 * 0) % b = L := by rw [Nat.mul_zero, Nat.pow_zero, Nat.mul_one, Nat.mod_eq_of_lt hL]
  have h := double_gen g b (L * 2 ^ n % b) K j (fun k => L * 2 ^ (64 * k) % b) hK hj hKj cf cl w (by rw [h0]; exact hm)
  rw [← e] at h
  exact h
end Rg
end Go.Proofs.Ytoagmdgmbkpghaa
