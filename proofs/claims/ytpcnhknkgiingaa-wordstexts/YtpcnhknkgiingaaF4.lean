/- reliquarykit.KeptBytes. -/
import Derived.Test.YtpcnhknkgiingaaF3
import Derived.Deep.RegionHeld3
namespace Go.Proofs.Ytpcnhknkgiingaa
open Go.RowKit

def lentl (xs : List Int) : List Int := (List.range (xs.length + 3)).map (lent xs)
theorem lentl_len (xs : List Int) : (lentl xs).length = xs.length + 3 := by simp [lentl]
theorem BSl.row {w : World} {g n : Nat} {f : Nat → Int} (hg : g < w.heap.size) (hr : ∀ j, j < n → w.cell? ⟨g, j, none⟩ = some (.int .u8 (f j))) (c : Nat) (hc : n ≤ c) : BSl w ((List.range n).map f) c (.slice (some ⟨g, 0, none⟩) n c) := by
  have h : BSl w ((List.range n).map f) c (.slice (some ⟨g, 0, none⟩) ((List.range n).map f).length c) := .full g 0 hg (by simpa using hc) (fun i hi => by
    have hi' : i < n := by simpa using hi
    rw [Nat.zero_add, hr i hi']
    simp [hi'])
  simpa using h
set_option maxHeartbeats 1000000 in
set_option maxRecDepth 100000 in
theorem kept_any (xs : List Int) (g c : Nat) (v : Value) (hn : xs.length ≤ 1048576) (w : World) (hg : g < w.heap.size) (hr : Row8 w g (xs.length + 3) (lent xs)) (h : BSl w xs c v) :
    Calls Try.prog 36 #[.slice (some ⟨g, 0, none⟩) xs.length (xs.length + 3), v] w fun e w' => e = .returned (.bool true) ∧ Below w.heap.size w w' := by
  have CL : Hid _ := lent_any xs c v hn w.drew h.drew
  obtain ⟨n, hnx⟩ : ∃ n, n = xs.length := ⟨_, rfl⟩
  have hS1 : BSl w (lentl xs) (n + 3) (.slice (some ⟨g, 0, none⟩) (n + 3) (n + 3)) := by rw [hnx]; exact BSl.row hg (fun j hj => (hr j hj).1) _ (Nat.le_refl _)
  have HS1 : Hid _ := hS1
  obtain ⟨p, hv⟩ : ∃ p, v = .slice p n c := by
    cases h using BSl.each with
    | full g o hg hc hcell => rw [← hnx]; exact ⟨_, rfl⟩
    | void p hx => subst hx; simp at hnx; subst hnx; exact ⟨p, rfl⟩
  subst hv
  have CL2 : Hid (Calls Try.prog 27 #[.slice p n c] w.drew fun e w' => e = .returned (.slice (some ⟨w.heap.size, 0, none⟩) n (n + 3)) ∧ BSl w' (lentl xs) (n + 3) (.slice (some ⟨w.heap.size, 0, none⟩) (n + 3) (n + 3)) ∧ Below w.heap.size w.drew w') := by
    refine Calls.mono CL.out ?_
    rintro e w' ⟨he, h1, h2, h3⟩
    rw [← hnx] at he
    refine ⟨he, ?_, h3⟩
    rw [hnx]
    exact BSl.row h1 (fun j hj => (h2 j hj).1) _ (Nat.le_refl _)
  have ew : IntKind.i64.wrap ((n : Int) + 3) = (n : Int) + 3 := by rw [IntKind.wrap_i64]; omega
  have b1 : (0 : Int) ≤ (n : Int) + 3 := by omega
  have b2 : ((n : Int) + 3).toNat = n + 3 := by omega
  rw [← hnx]
  clear CL hS1 h hr hnx hn
  go_enter Try.func36, Try.ntmps36
  go_wp2
  go_region_held3 (fun _ => True) (trivial)
    (first
      | (go_at_call 27; refine CL2.out.mono ?_; rintro e w1 ⟨rfl, hB1, hb1⟩)
      | (go_at_call 33; refine (same_any _ (HS1.out.drew.below hb1) hB1).mono ?_; rintro e w2 ⟨rfl, rfl⟩))
  go_wp2
  go_ret
  exact ⟨rfl, ((Below.refl _ _).drew).trans hb1⟩
end Go.Proofs.Ytpcnhknkgiingaa
