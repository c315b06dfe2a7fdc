/- words.Text -/
import Derived.Test.YtoagmdgmbkpghabDoorA22
import Derived.Test.YtoagmdgmbkpghabDoorPA2
import Derived.BigRegion
import Derived.Deep.OwnRows
import Derived.Laws.BytesArg
namespace Go.Proofs.YtoagmdgmbkpghabDoor
open Go.RowKit

/-- Digit k of a number, to the base 16. -/
def hx (a k : Nat) : Nat := a / 2 ^ (4 * k) % 16
theorem hx_lt (a k : Nat) : hx a k < 16 := Nat.mod_lt _ (by decide)
theorem hx_bits (a k : Nat) : ((a >>> (64 * (k / 16)) % 2 ^ 64) >>> (4 * (k % 16))) &&& 15 = a >>> (4 * k) % 2 ^ 4 := by
  have e15 : (15 : Nat) = 2 ^ 4 - 1 := by decide
  rw [e15, Nat.and_two_pow_sub_one_eq_mod]
  apply Nat.eq_of_testBit_eq
  intro i
  simp only [Nat.testBit_mod_two_pow, Nat.testBit_shiftRight]
  by_cases hi : i < 4
  · have e1 : 4 * (k % 16) + i < 64 := by omega
    have e2 : 64 * (k / 16) + (4 * (k % 16) + i) = 4 * k + i := by omega
    simp [hi, e1, e2]
  · simp [hi]
theorem hx_word (a k : Nat) : bits .and .u64 (wd a (k / 16) / 2 ^ (4 * (k % 16))) 15 = (hx a k : Int) := by
  unfold hx
  rw [wd_shr, div_shr, ← Nat.shiftRight_eq_div_pow]
  have e := hx_bits a k
  have h := bits_and_u64_nat ((a >>> (64 * (k / 16)) % 2 ^ 64) >>> (4 * (k % 16))) 15 (by rw [Nat.shiftRight_eq_div_pow (n := 4 * (k % 16))]; exact Nat.lt_of_le_of_lt (Nat.div_le_self _ _) (Nat.mod_lt _ (by decide))) (by decide)
  rw [e] at h
  exact h

/-- The sign of a digit. -/
def hc (d : Nat) : Int := if d < 10 then 48 + d else 87 + d
theorem hc_bd (d : Nat) (h : d < 16) : 0 ≤ hc d ∧ hc d < 256 := by unfold hc; split <;> omega
def Row8 (w : World) (g n : Nat) (f : Nat → Int) : Prop := ∀ j, j < n → w.cell? ⟨g, j, none⟩ = some (.int .u8 (f j)) ∧ w.frozen? ⟨g, j, none⟩ = false
theorem Row8.congr {w : World} {g n : Nat} {f f' : Nat → Int} (h : Row8 w g n f) (e : ∀ j, j < n → f j = f' j) : Row8 w g n f' := fun j hj => by rw [← e j hj]; exact h j hj
theorem Row8.set {w : World} {g n : Nat} {f : Nat → Int} (h : Row8 w g n f) {k : Nat} (v : Int) : Row8 (w.setCell ⟨g, k, none⟩ (.int .u8 v)) g n (upd f k v) := by
  intro j hj
  obtain ⟨h1, h2⟩ := h j hj
  refine ⟨?_, by rw [World.frozen?_setCell]; exact h2⟩
  unfold upd
  by_cases e : j = k
  · subst e; rw [if_pos rfl]; exact World.cell?_setCell_same _ _ _ h1
  · rw [if_neg e, World.cell?_setCell_other _ _ _ _ (by intro h; injection h with h1 h2; exact e h2.symm)]; exact h1
theorem Row8.made (w : World) (m t : Nat) : Row8 (w.alloc (.cells (madeCells #[.int .u8 0] m) t)) w.heap.size m (fun _ => 0) := by
  intro j hj
  refine ⟨?_, World.frozen?_alloc_at _ _ _ _ rfl⟩
  rw [World.cell?_alloc_at _ _ _ _ rfl]
  simp [madeCells, hj, Nat.mod_one]
theorem tab16_fin : ∀ D : Fin 16, ((ByteArray.mk #[48, 49, 50, 51, 52, 53, 54, 55, 56, 57, 97, 98, 99, 100, 101, 102])[D.val]'(D.isLt)).toNat = (hc D.val).toNat := by decide +kernel
theorem tab16 (D : Nat) (h : D < (ByteArray.mk #[48, 49, 50, 51, 52, 53, 54, 55, 56, 57, 97, 98, 99, 100, 101, 102]).size) : (((ByteArray.mk #[48, 49, 50, 51, 52, 53, 54, 55, 56, 57, 97, 98, 99, 100, 101, 102])[D]).toNat : Int) = hc D := by
  have h2 := tab16_fin ⟨D, h⟩
  have h3 := hc_bd D h
  show ((_ : Nat) : Int) = _
  rw [h2]
  exact Int.toNat_of_nonneg h3.1
/-- How many digits a number has, and its digits. -/
def ndig (a : Nat) : Nat := max 1 ((bl a + 3) / 4)
def txl (a : Nat) : List Int := (List.range (ndig a)).map fun p => hc (hx a (ndig a - 1 - p))
def txt (a : Nat) : ByteArray := strOfNums (txl a)
def tx (a m k p : Nat) : Int := if m ≤ p + k then hc (hx a (m - 1 - p)) else 0
theorem tx_step (a m k p : Nat) (hk : k < m) (hp : p < m) : upd (tx a m k) (m - 1 - k) (hc (hx a k)) p = tx a m (k + 1) p := by
  unfold upd tx
  by_cases h : p = m - 1 - k
  · rw [if_pos h, if_pos (by omega), show m - 1 - p = k by omega]
  · rw [if_neg h]
    by_cases h2 : m ≤ p + k
    · rw [if_pos h2, if_pos (by omega)]
    · rw [if_neg h2, if_neg (by omega)]

set_option maxHeartbeats 1000000 in
set_option maxRecDepth 100000 in
theorem text_any (a : Nat) (ha : a < big) (w : World) :
    Calls Tryd.prog 18 #[N a] w fun e w' => e = .returned (.string (txt a)) ∧ Below w.heap.size w w' := by
  have hl : bl a ≤ 384 := by
    obtain ⟨n, hn, e⟩ := big_pow
    rw [e] at ha
    have := bl_le_of a _ ha
    omega
  obtain ⟨m, hm⟩ : ∃ m : Nat, m = ndig a := ⟨_, rfl⟩
  have HT : Hid (m = ndig a) := hm
  unfold ndig at hm
  have hm1 : 1 ≤ m := by omega
  have hm2 : m ≤ 96 := by omega
  have hmx : max 1 (((bl a : Int) + 3) / 4) = (m : Int) := by omega
  have hmk := run_make_row' (P := Tryd.prog) 55 5 (.int .u8 0) 1 (by kernel_rfl) (by kernel_rfl) rfl .i64 .i64 m (by omega) (by omega)
  have hc := fun w => len_any a ha w
  have HC : Hid _ := hc
  clear hc ha hm
  go_enter Tryd.func18, Tryd.ntmps18
  go_wp2_with fail
  refine (HC.out _).mono ?_
  rintro e w1 ⟨rfl, hb1⟩
  have q1 : Row w1 w.heap.size 6 (wd a) := Row.below hb1 (Row.new w _ 24 rfl (six_lt rfl)) (by simp)
  have q2 : Below w.heap.size w w1 := ((Below.refl _ _).alloc (Nat.le_refl _) _).trans (hb1.mono (by simp))
  have q3 : w.heap.size < w1.heap.size := by have := hb1.size; simp at this; omega
  have HF : Hid (_ ∧ _ ∧ _) := ⟨q1, q2, q3⟩
  clear q1 q2 q3 hb1 HC
  go_wp2
  clear hmk hmx
  go_loopw [13] (fun i wr => ∃ k : Nat, k ≤ m ∧ i = .int .i64 k ∧ Row wr w.heap.size 6 (wd a) ∧ Row8 wr w1.heap.size m (tx a m k) ∧ Below w.heap.size w wr) (fun i _ => m - (intOf i).toNat)
  case atStart =>
    obtain ⟨q1, q2, q3⟩ := HF.out
    refine ⟨0, by omega, rfl, q1.alloc q3 _, (Row8.made w1 m 5).congr (fun p hp => ?_), q2.alloc (by omega) _⟩
    unfold tx; rw [if_neg (by omega)]
  case round =>
    obtain ⟨k, hk, rfl, hA, hS, hw⟩ := hrel
    have q3 := HF.out.2.2
    by_cases hlt : k < m
    · have hA1 := (hA (k / 16) (by omega)).1
      obtain ⟨k1, k2⟩ := hS (m - 1 - k) (by omega)
      have ed := hx_word a k
      have hd := hx_lt a k
      generalize hD : hx a k = D at ed hd
      have HM : Hid (_ ∧ _ ∧ _ ∧ _ ∧ _) := ⟨hA, hS, hw, q3, hD⟩
      clear hA hS hw q3 hD
      go_wp2
      go_roundw
      case rel =>
        obtain ⟨hA, hS, hw, q3, hD⟩ := HM.out
        refine ⟨k + 1, by omega, by go_num, hA.set_other _ (by simp <;> omega), (hS.set _).congr (fun p hp => ?_), hw.setCell (by simp <;> omega) _⟩
        rw [tab16 D, ← hD]
        exact tx_step a m k p hlt hp
      case measure => simp [intOf] <;> omega
    · have hkm : k = m := by omega
      subst hkm
      have hcv := run_convert_bytes_arg (P := Tryd.prog) wr 55 5 (by kernel_rfl) (by kernel_rfl) w1.heap.size 0 k k (txl a) (by rw [HT.out]; simp [txl]) (fun i hi => by
        rw [Nat.zero_add, (hS i hi).1]
        congr 2
        unfold tx
        rw [if_pos (by omega)]
        have h5 : i < ndig a := by rw [← HT.out]; exact hi
        simp only [txl, List.getD_eq_getElem?_getD, List.getElem?_map, List.getElem?_range h5]
        rw [← HT.out]; rfl) 9 (by kernel_rfl)
      have HW : Hid _ := hw
      clear hA hS hw q3 HF
      go_wp2
      go_ret
      exact ⟨rfl, HW.out⟩
end Go.Proofs.YtoagmdgmbkpghabDoor
