/- For the law WordsTexts: what is read of a list that is lent. -/
import Derived.Test.YtpcnhknkgiingaaF0
import Derived.Test.YtpcnhknkgiingaaF2
import Derived.Test.YtpcnhknkgiingaaF6
import Derived.Test.YtpcnhknkgiingaaA26
namespace Go.Proofs.Ytpcnhknkgiingaa
open Go.RowKit

theorem rdv_congr (f f' : Nat → Int) (n : Nat) (h : ∀ j, j < n → f j = f' j) : ∀ k, k ≤ n → rdv f n k = rdv f' n k
  | 0, _ => rfl
  | k + 1, hk => by
    unfold rdv
    rw [rdv_congr f f' n h k (by omega), h (n - 1 - k) (by omega)]
theorem lent_low (xs : List Int) (j : Nat) (h : j < xs.length) : lent xs j = xs.getD j 0 := by unfold lent; rw [if_pos h]
theorem read_in (xs : List Int) (g : Nat) (hx : ∀ x ∈ xs, 0 ≤ x ∧ x < 256) (hn : xs.length ≤ 1048576) (w : World) (hg : g < w.heap.size) (hr : Row8 w g (xs.length + 3) (lent xs)) :
    Calls Try.prog 29 #[.slice (some ⟨g, 0, none⟩) xs.length (xs.length + 3)] w fun e w' => e = .returned (.tuple #[N (rdn xs).1, .int .i64 (rdn xs).2]) ∧ Below w.heap.size w w' := by
  unfold rdn
  by_cases h : 48 < xs.length
  · rw [if_pos h]
    exact read_long _ _ _ h (by omega) w
  · rw [if_neg h]
    have h1 := read_any g xs.length (xs.length + 3) (lent xs) (by omega) (fun j _ => lent_bd xs hx j) w hg (fun j hj => hr j (by omega))
    rw [rdv_congr (lent xs) (fun j => xs.getD j 0) xs.length (fun j hj => lent_low xs j hj) xs.length (Nat.le_refl _)] at h1
    exact h1
theorem rdn_big (xs : List Int) (hx : ∀ x ∈ xs, 0 ≤ x ∧ x < 256) : (rdn xs).1 < big := by
  unfold rdn
  split
  · exact big_pos
  · have hlt := rdv_lt (fun j => xs.getD j 0) xs.length (fun j hj => by
      have : xs.getD j 0 = xs[j] := by simp [hj]
      simp only [this]
      exact hx _ (List.getElem_mem _)) xs.length (Nat.le_refl _)
    obtain ⟨m, hm, e⟩ := big_pow
    rw [e]
    exact Nat.lt_of_lt_of_le hlt (pow_le' _ _ (by omega))
theorem bys_row (a g : Nat) (w : World) (hg : g < w.heap.size) (hr : Row8 w g 48 (fun p => (bt a (47 - p) : Int))) : BSl w (bys a) 48 (.slice (some ⟨g, 0, none⟩) 48 48) :=
  BSl.row hg (fun j hj => (hr j hj).1) 48 (Nat.le_refl _)
/-- The three lists of the law lie apart. -/
theorem apart_of (w : World) (gl gx gy gi n a : Nat) (xs : List Int) (hn : n = xs.length) (hn2 : n ≤ 200) (hx : ∀ x ∈ xs, 0 ≤ x ∧ x < 256)
    (h0 : gl < w.heap.size) (h1 : gx < w.heap.size) (h2 : gy < w.heap.size) (h3 : gi < w.heap.size) (n1 : gx ≠ gl) (n2 : gy ≠ gl) (n3 : gi ≠ gl) (n4 : gx ≠ gy) (n5 : gx ≠ gi) (n6 : gy ≠ gi)
    (c0 : w.cell? ⟨gl, 0, none⟩ = some (.slice (some ⟨gx, 0, none⟩) 48 48)) (c1 : w.cell? ⟨gl, 1, none⟩ = some (.slice (some ⟨gy, 0, none⟩) 48 48)) (c2 : w.cell? ⟨gl, 2, none⟩ = some (.slice (some ⟨gi, 0, none⟩) n (n + 3)))
    (r0 : Row8 w gx 48 (fun p => (bt a (47 - p) : Int))) (r1 : Row8 w gy 48 (fun p => (bt a (47 - p) : Int))) (r2 : Row8 w gi (n + 3) (lent xs)) :
    ∃ G Ln Cp Fs, Apart3 w gl G Ln Cp Fs := by
  refine ⟨fun k => match k with | 0 => gx | 1 => gy | _ => gi, fun k => match k with | 0 => 48 | 1 => 48 | _ => n, fun k => match k with | 0 => 48 | 1 => 48 | _ => n + 3, fun k => match k with | 0 => fun p => (bt a (47 - p) : Int) | 1 => fun p => (bt a (47 - p) : Int) | _ => lent xs, h0, ?_, ?_, ?_, ?_, ?_, ?_, ?_, ?_⟩
  · intro k hk
    match k, hk with
    | 0, _ => exact c0
    | 1, _ => exact c1
    | 2, _ => exact c2
  · intro k hk
    match k, hk with
    | 0, _ => exact h1
    | 1, _ => exact h2
    | 2, _ => exact h3
  · intro k hk
    match k, hk with
    | 0, _ => exact n1
    | 1, _ => exact n2
    | 2, _ => exact n3
  · intro k j hk hj hne
    match k, j, hk, hj with
    | 0, 0, _, _ => exact absurd rfl hne
    | 0, 1, _, _ => exact n4
    | 0, 2, _, _ => exact n5
    | 1, 0, _, _ => exact n4.symm
    | 1, 1, _, _ => exact absurd rfl hne
    | 1, 2, _, _ => exact n6
    | 2, 0, _, _ => exact n5.symm
    | 2, 1, _, _ => exact n6.symm
    | 2, 2, _, _ => exact absurd rfl hne
  · intro k hk
    match k, hk with
    | 0, _ => exact Nat.le_refl _
    | 1, _ => exact Nat.le_refl _
    | 2, _ => exact Nat.le_add_right _ _
  · intro k hk
    match k, hk with
    | 0, _ => exact ⟨by simp only; omega, by simp only; omega⟩
    | 1, _ => exact ⟨by simp only; omega, by simp only; omega⟩
    | 2, _ => exact ⟨Nat.succ_pos _, by simp only; omega⟩
  · intro k hk
    match k, hk with
    | 0, _ => exact r0
    | 1, _ => exact r1
    | 2, _ => exact r2
  · intro k j hk hj
    match k, hk with
    | 0, _ => exact ⟨by simp only; omega, by have := bt_lt a (47 - j); simp only; omega⟩
    | 1, _ => exact ⟨by simp only; omega, by have := bt_lt a (47 - j); simp only; omega⟩
    | 2, _ => exact lent_bd xs hx j
end Go.Proofs.Ytpcnhknkgiingaa
