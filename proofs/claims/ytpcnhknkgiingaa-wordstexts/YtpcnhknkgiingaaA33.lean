/- words.Parse of any text. -/
import Derived.Test.YtpcnhknkgiingaaA23
namespace Go.Proofs.Ytpcnhknkgiingaa
open Go.RowKit

theorem ba_some (s : ByteArray) (h1 : 1 ≤ s.size) : s.toList.isEmpty = false := by
  cases hl : s.toList with
  | nil =>
    rw [ByteArray.toList_eq] at hl
    have h0 : s.data.size = 0 := by rw [← Array.length_toList, hl]; rfl
    have : s.size = s.data.size := rfl
    omega
  | cons a l => rfl
theorem ba_none (s : ByteArray) (h1 : s.size = 0) : s.toList.isEmpty = true := by
  rw [ByteArray.toList_eq]
  have h2 : s.data.size = 0 := h1
  have : s.data.toList = [] := List.eq_nil_of_length_eq_zero (by rw [Array.length_toList]; exact h2)
  rw [this]; rfl

set_option maxHeartbeats 1000000 in
set_option maxRecDepth 100000 in
theorem parse_long (s : ByteArray) (h : 96 < s.size) (w : World) :
    Calls Try.prog 31 #[.string s] w fun e w' => e = .returned (.tuple #[N 0, .int .i64 3]) ∧ Below w.heap.size w w' := by
  have hg : decide ((96 : Int) < (s.size : Int)) = true := decide_eq_true (by omega)
  go_enter Try.func31, Try.ntmps31
  go_wp2
  refine bodyPost_ret (v := .tuple #[N 0, .int .i64 3]) ?_ rfl ⟨rfl, (Below.refl _ _).alloc (Nat.le_refl _) _⟩
  simp [results, Try.results31, go_sem, wd_zero]

set_option maxHeartbeats 1000000 in
set_option maxRecDepth 100000 in
theorem parse_none (s : ByteArray) (h : s.size = 0) (w : World) :
    Calls Try.prog 31 #[.string s] w fun e w' => e = .returned (.tuple #[N 0, .int .i64 4]) ∧ Below w.heap.size w w' := by
  have hg : decide ((96 : Int) < (s.size : Int)) = false := decide_eq_false (by omega)
  have he := ba_none s h
  go_enter Try.func31, Try.ntmps31
  go_wp2
  refine bodyPost_ret (v := .tuple #[N 0, .int .i64 4]) ?_ rfl ⟨rfl, (Below.refl _ _).alloc (Nat.le_refl _) _⟩
  simp [results, Try.results31, go_sem, wd_zero]

set_option maxHeartbeats 1000000 in
set_option maxRecDepth 100000 in
theorem parse_lead (s : ByteArray) (h1 : 1 < s.size) (h2 : s.size ≤ 96) (hz : (((s[0]'(by omega)).toNat : Int) == 48) = true) (w : World) :
    Calls Try.prog 31 #[.string s] w fun e w' => e = .returned (.tuple #[N 0, .int .i64 4]) ∧ Below w.heap.size w w' := by
  have hg : decide ((96 : Int) < (s.size : Int)) = false := decide_eq_false (by omega)
  have hl : decide ((1 : Int) < (s.size : Int)) = true := decide_eq_true (by omega)
  have he := ba_some s (by omega)
  have h0 : 0 < s.size := by omega
  go_enter Try.func31, Try.ntmps31
  go_wp2
  refine bodyPost_ret (v := .tuple #[N 0, .int .i64 4]) ?_ rfl ⟨rfl, (Below.refl _ _).alloc (Nat.le_refl _) _⟩
  simp [results, Try.results31, go_sem, wd_zero]

/-- What Parse tells of any text: the number and the error. -/
def psn (s : ByteArray) : Nat × Int :=
  if 96 < s.size then (0, 3)
  else if h : 1 ≤ s.size then
    if (((s[0]'h).toNat : Int) == 48) = true ∧ 1 < s.size then (0, 4)
    else if okk s s.size then (pvv s s.size, 0) else (0, 4)
  else (0, 4)
theorem psn_big (s : ByteArray) : (psn s).1 < big := by
  unfold psn
  split
  · exact big_pos
  · split
    · split
      · exact big_pos
      · split
        · exact pvv_big s (by omega)
        · exact big_pos
    · exact big_pos
theorem parse_any (s : ByteArray) (w : World) :
    Calls Try.prog 31 #[.string s] w fun e w' => e = .returned (.tuple #[N (psn s).1, .int .i64 (psn s).2]) ∧ Below w.heap.size w w' := by
  unfold psn
  by_cases a : 96 < s.size
  · rw [if_pos a]; exact parse_long s a w
  · rw [if_neg a]
    by_cases b : 1 ≤ s.size
    · rw [dif_pos b]
      by_cases c : (((s[0]'b).toNat : Int) == 48) = true ∧ 1 < s.size
      · rw [if_pos c]; exact parse_lead s c.2 (by omega) c.1 w
      · rw [if_neg c]
        have h := parse_loop s b (by omega) (by
          cases hc : (((s[0]'b).toNat : Int) == 48) with
          | true => exact Or.inr (by have : ¬ 1 < s.size := fun h => c ⟨hc, h⟩; omega)
          | false => exact Or.inl rfl) w
        unfold prv at h
        by_cases d : okk s s.size = true
        · rw [if_pos d]; rw [if_pos d] at h; exact h
        · rw [if_neg d]; rw [if_neg d] at h; exact h
    · rw [dif_neg b]; exact parse_none s (by omega) w
end Go.Proofs.Ytpcnhknkgiingaa
