/- The document's own Text. -/
import Derived.Test.YtpcnhknkgiingaaF1
namespace Go.Proofs.Ytpcnhknkgiingaa
open Go.RowKit

def dstr (d : Nat) : ByteArray := strOfNums [hc d]
theorem bl_pos' (v : Nat) (h : v ≠ 0) : 1 ≤ bl v := bl_pos v h
theorem bl_times (v d : Nat) (hv : v ≠ 0) (hd : d < 16) : bl (16 * v + d) = bl v + 4 := by
  have h := bl_high (16 * v + d) 4 v hv (by rw [show (2 : Nat) ^ 4 = 16 from rfl]; omega)
  omega
theorem ndig_times (v d : Nat) (hv : v ≠ 0) (hd : d < 16) : ndig (16 * v + d) = ndig v + 1 := by
  have h1 := bl_times v d hv hd
  have h2 := bl_pos v hv
  unfold ndig
  omega
theorem hx_times (v d k : Nat) (hd : d < 16) : hx (16 * v + d) (k + 1) = hx v k := by
  unfold hx
  rw [show 4 * (k + 1) = 4 + 4 * k by omega, Nat.pow_add, ← Nat.div_div_eq_div_mul, show (2 : Nat) ^ 4 = 16 from rfl, show (16 * v + d) / 16 = v by omega]
theorem hx_low (v d : Nat) (hd : d < 16) : hx (16 * v + d) 0 = d := by
  unfold hx
  rw [Nat.mul_zero, Nat.pow_zero, Nat.div_one]
  omega
theorem txl_times (v d : Nat) (hv : v ≠ 0) (hd : d < 16) : txl (16 * v + d) = txl v ++ [hc d] := by
  unfold txl
  rw [ndig_times v d hv hd, List.range_succ, List.map_append, List.map_cons, List.map_nil]
  congr 1
  · refine List.map_congr_left (fun p hp => ?_)
    have := List.mem_range.1 hp
    rw [show ndig v + 1 - 1 - p = (ndig v - 1 - p) + 1 by omega, hx_times v d _ hd]
  · rw [show ndig v + 1 - 1 - ndig v = 0 by omega, hx_low v d hd]
theorem str_app (xs ys : List Int) : strOfNums (xs ++ ys) = strOfNums xs ++ strOfNums ys := by
  unfold strOfNums
  rw [ByteArray.mk_append_mk, List.map_append]
theorem txt_times (v d : Nat) (hv : v ≠ 0) (hd : d < 16) : txt (16 * v + d) = txt v ++ dstr d := by
  unfold txt dstr
  rw [txl_times v d hv hd, str_app]
theorem txt_one (d : Nat) (hd : d < 16) : txt d = dstr d := by
  have hn : ndig d = 1 := by
    have : bl d ≤ 4 := bl_le_of d 4 (by omega)
    unfold ndig; omega
  unfold txt dstr txl
  rw [hn]
  have : hx d (1 - 1 - 0) = d := by unfold hx; simp; omega
  simp [List.range_succ, this]
/-- The text so far. -/
def tlv (a k : Nat) : ByteArray := if a / 2 ^ (4 * k) = 0 then ⟨#[]⟩ else txt (a / 2 ^ (4 * k))
theorem up_step (a i : Nat) : a / 2 ^ (4 * i) = 16 * (a / 2 ^ (4 * (i + 1))) + hx a i := by
  unfold hx
  rw [show 4 * (i + 1) = 4 * i + 4 by omega, Nat.pow_add, ← Nat.div_div_eq_div_mul, show (2 : Nat) ^ 4 = 16 from rfl]
  omega
theorem txt_some (v : Nat) : (txt v).size ≠ 0 := by rw [txt_size]; have := ndig_pos v; omega
/-- One step: it is told on just if it was begun, or the digit is none 0, or it is the last. -/
theorem tl_step (a i : Nat) : (tlv a (i + 1) ≠ ⟨#[]⟩ ∧ tlv a i = tlv a (i + 1) ++ dstr (hx a i)) ∨ (tlv a (i + 1) = ⟨#[]⟩ ∧ hx a i ≠ 0 ∧ tlv a i = tlv a (i + 1) ++ dstr (hx a i)) ∨ (tlv a (i + 1) = ⟨#[]⟩ ∧ hx a i = 0 ∧ tlv a i = tlv a (i + 1) ∧ (i = 0 → txt a = tlv a (i + 1) ++ dstr (hx a i))) := by
  have hd := hx_lt a i
  have hu := up_step a i
  unfold tlv
  by_cases hv : a / 2 ^ (4 * (i + 1)) = 0
  · rw [if_pos hv]
    rw [hv, Nat.mul_zero, Nat.zero_add] at hu
    rw [hu]
    by_cases h0 : hx a i = 0
    · right; right
      rw [if_pos h0]
      refine ⟨rfl, h0, rfl, fun hi => ?_⟩
      subst hi
      rw [h0, Nat.mul_zero, Nat.pow_zero, Nat.div_one] at hu
      rw [h0, hu, txt_one 0 (by decide)]
      rfl
    · right; left
      rw [if_neg h0]
      refine ⟨rfl, h0, ?_⟩
      rw [txt_one _ hd]
      rfl
  · left
    rw [if_neg hv]
    have h1 : a / 2 ^ (4 * i) ≠ 0 := by omega
    rw [if_neg h1]
    refine ⟨fun h => ?_, ?_⟩
    · have := txt_some (a / 2 ^ (4 * (i + 1)))
      rw [h] at this
      exact this rfl
    · rw [hu, txt_times _ _ hv hd]
theorem tab_fin : ∀ D : Fin 16, (ByteArray.mk #[48, 49, 50, 51, 52, 53, 54, 55, 56, 57, 97, 98, 99, 100, 101, 102]).extract D.val (D.val + 1) = dstr D.val := by decide +kernel
theorem tab_ext (d : Nat) (h : d < 16) : (ByteArray.mk #[48, 49, 50, 51, 52, 53, 54, 55, 56, 57, 97, 98, 99, 100, 101, 102]).extract d (d + 1) = dstr d := tab_fin ⟨d, h⟩
theorem tlv_size (a k : Nat) (ha : a < big) : (tlv a k).size ≤ 96 := by
  unfold tlv
  split
  · exact Nat.zero_le _
  · rw [txt_size]; exact ndig_le _ (Nat.lt_of_le_of_lt (Nat.div_le_self _ _) ha)
theorem tlv_zero (a : Nat) (h : a ≠ 0) : tlv a 0 = txt a := by
  unfold tlv
  rw [Nat.mul_zero, Nat.pow_zero, Nat.div_one, if_neg h]
theorem size_none (t : ByteArray) (h : t = ⟨#[]⟩) : t.size = 0 := by rw [h]; rfl
theorem size_some (t : ByteArray) (h : t ≠ ⟨#[]⟩) : 1 ≤ t.size := by
  rcases Nat.eq_zero_or_pos t.size with h0 | h0
  · exfalso
    apply h
    cases t with
    | mk d =>
      have : d.size = 0 := h0
      rw [Array.eq_empty_of_size_eq_zero this]
  · exact h0
set_option maxHeartbeats 1000000 in
set_option maxRecDepth 100000 in
theorem text_ref (a : Nat) (ha : a < big) (w : World) :
    Calls Try.prog 38 #[N a] w fun e w' => e = .returned (.string (txt a)) ∧ Below w.heap.size w w' := by
  have HS : Hid _ := fun k => tlv_size a k ha
  have HA : Hid (tlv a 96 = ⟨#[]⟩) := by
    show _ = _
    obtain ⟨m, hm⟩ : ∃ m : Nat, m = 96 := ⟨96, rfl⟩
    rw [← hm]
    unfold tlv
    rw [if_pos (Nat.div_eq_of_lt (Nat.lt_of_lt_of_le ha (big_le _ (by omega))))]
  clear ha
  go_enter Try.func38, Try.ntmps38
  go_wp2
  go_loopw [3, 4] (fun s i wr => ∃ k : Nat, k ≤ 96 ∧ i = .int .i64 ((k : Int) - 1) ∧ s = .string (if k = 0 then txt a else tlv a k) ∧ Row wr w.heap.size 6 (wd a) ∧ Below w.heap.size w wr) (fun _ i _ => (RowKit.intOf i + 1).toNat)
  case atStart =>
    refine ⟨96, by omega, rfl, ?_, Row.new w _ 24 rfl (six_lt rfl), (Below.refl _ _).alloc (Nat.le_refl _) _⟩
    rw [if_neg (by decide), HA.out]
  case round =>
    clear HA
    obtain ⟨k, hk, rfl, rfl, hR, hw⟩ := hrel
    by_cases h0 : 1 ≤ k
    · obtain ⟨i, rfl⟩ : ∃ i, k = i + 1 := ⟨k - 1, by omega⟩
      rw [show (((i + 1 : Nat) : Int) - 1) = (i : Int) by omega]
      rw [if_neg (by omega)]
      have r1 := (hR (i / 16) (by omega)).1
      have hxw := hx_word a i
      have hxl := hx_lt a i
      have hst := tl_step a i
      have hsz := HS.out (i + 1)
      have hz0 : i = 0 → tlv a i = (if a = 0 then ⟨#[]⟩ else txt a) := fun h => by subst h; unfold tlv; simp
      have hxa : i = 0 → hx a i ≠ 0 → a ≠ 0 := fun h hh ha => by subst ha; exact hh (by unfold hx; simp)
      have hta : i = 0 → tlv a (i + 1) ≠ ⟨#[]⟩ → a ≠ 0 := fun h hh ha => by subst ha; exact hh (by unfold tlv; simp)
      generalize hx a i = d at hxw hxl hst hxa
      generalize tlv a (i + 1) = t at hst hsz hta
      have hnb : ¬ (9223372036854775807 < t.size + (min (d + 1) 16 - d)) := by omega
      have HM : Hid (_ ∧ _) := ⟨hR, hw⟩
      clear hR hw HS
      rcases hst with ⟨c1, c2⟩ | ⟨c1, c2, c3⟩ | ⟨c1, c2, c3, c4⟩
      · have hb := ba_some t (size_some t c1)
        have HC : Hid _ := c2
        have HT : Hid (i = 0 → txt a = t ++ dstr d) := fun h => by
          have := hz0 h
          rw [if_neg (hta h c1)] at this
          rw [← this, c2]
        clear c1 c2 hz0 hxa hta
        go_wp2
        go_roundw
        case rel =>
          obtain ⟨hR, hw⟩ := HM.out
          refine ⟨i, by omega, by go_num, ?_, hR, hw⟩
          rw [tab_ext d hxl]
          by_cases hi : i = 0
          · subst hi
            rw [if_pos rfl, HT.out rfl]
          · rw [if_neg hi, HC.out]
        case measure => simp [RowKit.intOf] <;> omega
      · have hb := ba_none t (size_none t c1)
        have hd0 : (((d : Nat) : Int) != 0) = true := by simp; omega
        have HC : Hid _ := c3
        have HT : Hid (i = 0 → txt a = t ++ dstr d) := fun h => by
          have := hz0 h
          rw [if_neg (hxa h c2)] at this
          rw [← this, c3]
        clear c1 c2 c3 hz0 hxa hta
        go_wp2
        go_roundw
        case rel =>
          obtain ⟨hR, hw⟩ := HM.out
          refine ⟨i, by omega, by go_num, ?_, hR, hw⟩
          rw [tab_ext d hxl]
          by_cases hi : i = 0
          · subst hi
            rw [if_pos rfl, HT.out rfl]
          · rw [if_neg hi, HC.out]
        case measure => simp [RowKit.intOf] <;> omega
      · have hb := ba_none t (size_none t c1)
        have hd0 : (((d : Nat) : Int) != 0) = false := by simp; omega
        by_cases hi : i = 0
        · have hi0 : (((i : Nat) : Int) == 0) = true := by simp; omega
          have HT : Hid (i = 0 → txt a = t ++ dstr d) := c4
          have HC : Hid _ := c3
          clear c1 c2 c3 c4 hz0 hxa hta hi
          go_wp2
          go_roundw
          case rel =>
            obtain ⟨hR, hw⟩ := HM.out
            refine ⟨i, by omega, by go_num, ?_, hR, hw⟩
            rw [tab_ext d hxl]
            have hi : i = 0 := by simpa using hi0
            rw [if_pos hi, HT.out hi]
          case measure => simp [RowKit.intOf] <;> omega
        · have hi0 : (((i : Nat) : Int) == 0) = false := by simp; omega
          have HC : Hid _ := c3
          have HI : Hid _ := hi
          clear c1 c2 c3 c4 hz0 hxa hta hi
          go_wp2
          go_roundw
          case rel =>
            obtain ⟨hR, hw⟩ := HM.out
            refine ⟨i, by omega, by go_num, ?_, hR, hw⟩
            rw [if_neg HI.out, HC.out]
          case measure => simp [RowKit.intOf] <;> omega
    · have hk0 : k = 0 := by omega
      subst hk0
      rw [show (((0 : Nat) : Int) - 1) = -1 from rfl]
      rw [if_pos rfl]
      clear hR HS
      go_wp2
      go_ret
      exact ⟨rfl, hw⟩
end Go.Proofs.Ytpcnhknkgiingaa
