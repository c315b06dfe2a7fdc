/- Digits lead to the number and back: what is told of what is read. -/
import Derived.Test.YtpcnhknkgiingaaA33
import Derived.Test.YtpcnhknkgiingaaA24
namespace Go.Proofs.Ytpcnhknkgiingaa
open Go.RowKit

theorem dg_hc : ∀ d : Nat, d < 16 → dgv (hc d) = (d : Int) ∧ dgk (hc d) = true ∧ ((hc d == 48) = true → d = 0) := by
  intro d hd
  unfold dgv dgk hc
  by_cases h : d < 10
  · rw [if_pos h, if_pos (by omega)]
    refine ⟨by omega, ?_, ?_⟩
    · simp; left; omega
    · intro e; have := eq_of_beq e; omega
  · rw [if_neg h, if_neg (by omega), if_pos (by omega)]
    refine ⟨by omega, ?_, ?_⟩
    · simp; right; omega
    · intro e; have := eq_of_beq e; omega
theorem hc_dg (c : Int) (h : dgk c = true) : hc (dgv c).toNat = c := by
  unfold dgk at h
  simp only [Bool.or_eq_true, decide_eq_true_eq] at h
  unfold hc dgv
  by_cases h1 : 48 ≤ c ∧ c ≤ 57
  · rw [if_pos h1, if_pos (by omega)]; omega
  · have h2 : 97 ≤ c ∧ c ≤ 102 := by omega
    simp only [if_neg h1, if_pos h2]
    rw [if_neg (by omega)]; omega
theorem txt_size (a : Nat) : (txt a).size = ndig a := by
  unfold txt
  rw [strOfNums_size]
  unfold txl
  simp
theorem txt_at (a i : Nat) (h : i < (txt a).size) : (((txt a)[i]).toNat : Int) = hc (hx a (ndig a - 1 - i)) := by
  have hi : i < ndig a := by rw [txt_size] at h; exact h
  have hb := hc_bd (hx a (ndig a - 1 - i)) (hx_lt _ _)
  have e : (txt a)[i] = UInt8.ofNat (hc (hx a (ndig a - 1 - i))).toNat := by
    show (txt a).data[i]'h = _
    simp [txt, strOfNums, txl]
  rw [e, UInt8.toNat_ofNat']
  omega
theorem ch_txt (a k : Nat) (h : k < ndig a) : ch (txt a) k = hc (hx a k) := by
  have hs := txt_size a
  rw [ch_eq (txt a) k (by omega), txt_at a _ (by omega)]
  rw [hs, show ndig a - 1 - (ndig a - 1 - k) = k by omega]
theorem okk_txt (a : Nat) : ∀ k, k ≤ ndig a → okk (txt a) k = true
  | 0, _ => rfl
  | k + 1, h => by
    unfold okk
    rw [okk_txt a k (by omega), ch_txt a k (by omega), (dg_hc _ (hx_lt _ _)).2.1]
    rfl
theorem pvv_txt (a : Nat) : ∀ k, k ≤ ndig a → pvv (txt a) k = a % 2 ^ (4 * k)
  | 0, _ => by simp [pvv, Nat.mod_one]
  | k + 1, h => by
    unfold pvv
    rw [pvv_txt a k (by omega), ch_txt a k (by omega), (dg_hc _ (hx_lt _ _)).1]
    have e : 2 ^ (4 * (k + 1)) = 2 ^ (4 * k) * 16 := by rw [Nat.mul_add, Nat.pow_add]
    rw [e, Nat.mod_mul, Int.toNat_natCast, Nat.mul_comm (hx a k)]
    rfl
theorem ndig_pos (a : Nat) : 1 ≤ ndig a := by unfold ndig; omega
theorem ndig_le (a : Nat) (ha : a < big) : ndig a ≤ 96 := by
  have hl : bl a ≤ 384 := by
    obtain ⟨n, hn, e⟩ := big_pow
    rw [e] at ha
    have := bl_le_of a _ ha
    omega
  unfold ndig; omega
theorem ndig_lt (a : Nat) : a < 2 ^ (4 * ndig a) :=
  Nat.lt_of_lt_of_le (bl_lt a) (Nat.pow_le_pow_right (by decide) (by unfold ndig; omega))
theorem ndig_top (a : Nat) (h : 1 < ndig a) : hx a (ndig a - 1) ≠ 0 := by
  have hb : 1 < (bl a + 3) / 4 := by unfold ndig at h; omega
  have hn : ndig a = (bl a + 3) / 4 := by unfold ndig; omega
  have h0 : a ≠ 0 := by intro e; rw [e, bl_zero] at hb; omega
  have h1 : 2 ^ (4 * (ndig a - 1)) ≤ a := Nat.le_trans (Nat.pow_le_pow_right (by decide) (by omega)) (bl_le a h0)
  have h2 : a / 2 ^ (4 * (ndig a - 1)) < 16 := by
    rw [Nat.div_lt_iff_lt_mul (Nat.two_pow_pos _)]
    have h3 := ndig_lt a
    have e : 2 ^ (4 * ndig a) = 16 * 2 ^ (4 * (ndig a - 1)) := by
      rw [show 4 * ndig a = 4 + 4 * (ndig a - 1) by omega, Nat.pow_add]
    rw [← e]; exact h3
  have h3 : 0 < a / 2 ^ (4 * (ndig a - 1)) := Nat.div_pos h1 (Nat.two_pow_pos _)
  unfold hx
  rw [Nat.mod_eq_of_lt h2]
  omega
theorem psn_txt (a : Nat) (ha : a < big) : psn (txt a) = (a, 0) := by
  have hs := txt_size a
  have hp := ndig_pos a
  have hl := ndig_le a ha
  unfold psn
  rw [if_neg (by omega), dif_pos (by omega), if_neg, if_pos (by rw [hs]; exact okk_txt a _ (Nat.le_refl _)), hs, pvv_txt a _ (Nat.le_refl _), Nat.mod_eq_of_lt (ndig_lt a)]
  rintro ⟨h1, h2⟩
  rw [txt_at a 0 (by omega)] at h1
  exact ndig_top a (by omega) ((dg_hc _ (hx_lt _ _)).2.2 h1)

theorem pvv_dig (s : ByteArray) : ∀ n k, k < n → hx (pvv s n) k = (dgv (ch s k)).toNat
  | 0, _, h => by omega
  | n + 1, k, h => by
    have hd := dgv_bd (ch s n)
    have hlt := pvv_lt s n
    unfold hx
    show (pvv s n + (dgv (ch s n)).toNat * 2 ^ (4 * n)) / 2 ^ (4 * k) % 16 = _
    by_cases e : k = n
    · subst e
      rw [Nat.add_mul_div_right _ _ (Nat.two_pow_pos _), Nat.div_eq_of_lt hlt]
      omega
    · have e2 : (dgv (ch s n)).toNat * 2 ^ (4 * n) = ((dgv (ch s n)).toNat * 2 ^ (4 * (n - k - 1)) * 16) * 2 ^ (4 * k) := by
        rw [show 4 * n = 4 * (n - k - 1) + 4 + 4 * k by omega, Nat.pow_add, Nat.pow_add]
        simp only [Nat.mul_assoc]
      rw [e2, Nat.add_mul_div_right _ _ (Nat.two_pow_pos _), Nat.add_mul_mod_self_right]
      exact pvv_dig s n k (by omega)
theorem okk_dig (s : ByteArray) : ∀ n k, okk s n = true → k < n → dgk (ch s k) = true
  | 0, _, _, h => by omega
  | n + 1, k, ho, h => by
    unfold okk at ho
    simp only [Bool.and_eq_true] at ho
    by_cases e : k = n
    · subst e; exact ho.2
    · exact okk_dig s n k ho.1 (by omega)
theorem ndig_pvv (s : ByteArray) (h1 : 1 ≤ s.size) (ho : okk s s.size = true) (hz : ¬ ((((s[0]'h1).toNat : Int) == 48) = true ∧ 1 < s.size)) : ndig (pvv s s.size) = s.size := by
  have hu := bl_le_of _ _ (pvv_lt s s.size)
  by_cases hs : s.size = 1
  · unfold ndig
    rw [hs] at hu ⊢
    omega
  · have h48 : ¬ (((s[0]'h1).toNat : Int) == 48) = true := fun h => hz ⟨h, by omega⟩
    have hc0 : ch s (s.size - 1) = ((s[0]'h1).toNat : Int) := by
      rw [ch_eq s (s.size - 1) (by omega)]
      simp only [Nat.sub_self]
    have hk := okk_dig s s.size (s.size - 1) ho (by omega)
    have hd : (dgv (ch s (s.size - 1))).toNat ≠ 0 := by
      intro e
      have h5 := hc_dg _ hk
      rw [e, hc0] at h5
      exact h48 (by rw [← h5]; rfl)
    have h6 := pvv_dig s s.size (s.size - 1) (by omega)
    have h7 : 2 ^ (4 * (s.size - 1)) ≤ pvv s s.size := by
      rcases Nat.lt_or_ge (pvv s s.size) (2 ^ (4 * (s.size - 1))) with h | h
      · exfalso
        unfold hx at h6
        rw [Nat.div_eq_of_lt h] at h6
        omega
      · exact h
    have h8 : 4 * (s.size - 1) < bl (pvv s s.size) := by
      rcases Nat.lt_or_ge (4 * (s.size - 1)) (bl (pvv s s.size)) with h | h
      · exact h
      · have := Nat.lt_of_lt_of_le (bl_lt (pvv s s.size)) (Nat.pow_le_pow_right (n := 2) (by decide) h)
        omega
    unfold ndig
    omega
theorem txt_psn (s : ByteArray) (h : (psn s).2 = 0) : txt (psn s).1 = s := by
  unfold psn at h ⊢
  by_cases a : 96 < s.size
  · rw [if_pos a] at h; exact absurd h (by decide)
  · rw [if_neg a] at h ⊢
    by_cases b : 1 ≤ s.size
    · rw [dif_pos b] at h ⊢
      by_cases c : (((s[0]'b).toNat : Int) == 48) = true ∧ 1 < s.size
      · rw [if_pos c] at h; exact absurd h (by decide)
      · rw [if_neg c] at h ⊢
        by_cases d : okk s s.size = true
        · rw [if_pos d]
          show txt (pvv s s.size) = s
          have hn := ndig_pvv s b d c
          refine ByteArray.ext_getElem (by rw [txt_size, hn]) (fun i h1 h2 => ?_)
          have e := txt_at (pvv s s.size) i h1
          rw [hn] at e
          rw [pvv_dig s s.size _ (by omega), hc_dg _ (okk_dig s s.size _ d (by omega)), ch_eq s _ (by omega)] at e
          simp only [show s.size - 1 - (s.size - 1 - i) = i by omega] at e
          exact UInt8.toNat_inj.1 (by omega)
        · rw [if_neg d] at h; exact absurd h (by decide)
    · rw [dif_neg b] at h; exact absurd h (by decide)
theorem psn_bad (s : ByteArray) (h : (psn s).2 ≠ 0) : (psn s).1 = 0 := by
  unfold psn at h ⊢
  split
  · rfl
  · split
    · split
      · rfl
      · split
        · rename_i h1 h2 h3 h4
          exact absurd (by rw [if_neg h1, dif_pos h2, if_neg h3, if_pos h4]) h
        · rfl
    · rfl
end Go.Proofs.Ytpcnhknkgiingaa
