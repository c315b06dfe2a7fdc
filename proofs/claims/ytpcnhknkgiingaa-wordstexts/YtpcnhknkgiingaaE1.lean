/- reliquarykit.OverBytes: what is written over once is otherwise, what is written over twice is as it was. -/
import Derived.Test.YtpcnhknkgiingaaE0
import Derived.Laws.Bits64b
namespace Go.Proofs.Ytpcnhknkgiingaa
open Go.RowKit

/-- All but block g is as it was, and block g holds as many cells of the same type. -/
structure UpdB (w w' : World) (g : Nat) : Prop where
  os : w'.os = w.os
  tape : w'.tape = w.tape
  output : w'.output = w.output
  size : w'.heap.size = w.heap.size
  rest : ∀ k, k ≠ g → w'.heap[k]? = w.heap[k]?
  here : ∀ c e f, w.heap[g]? = some (.cells c e f) → ∃ c', w'.heap[g]? = some (.cells c' e f) ∧ c'.size = c.size
theorem UpdB.refl (w : World) (g : Nat) : UpdB w w g := ⟨rfl, rfl, rfl, rfl, fun _ _ => rfl, fun c _ _ h => ⟨c, h, rfl⟩⟩
theorem UpdB.trans {w w' w'' : World} {g : Nat} (h : UpdB w w' g) (k : UpdB w' w'' g) : UpdB w w'' g :=
  ⟨k.os.trans h.os, k.tape.trans h.tape, k.output.trans h.output, k.size.trans h.size, fun j hj => (k.rest j hj).trans (h.rest j hj), fun c e f hc => by
    obtain ⟨c1, h1, s1⟩ := h.here c e f hc
    obtain ⟨c2, h2, s2⟩ := k.here c1 e f h1
    exact ⟨c2, h2, s2.trans s1⟩⟩
theorem UpdB.set {w w' : World} {g : Nat} (h : UpdB w w' g) (j : Nat) (v : Value) : UpdB w (w'.setCell ⟨g, j, none⟩ v) g := by
  refine h.trans ⟨rfl, rfl, rfl, by simp, fun k hk => ?_, fun c e f hc => ?_⟩
  · show (w'.heap.modify g _)[k]? = _
    rw [Array.getElem?_modify, if_neg (Ne.symm hk)]
  · refine ⟨c.setIfInBounds j v, ?_, by simp⟩
    show (w'.heap.modify g _)[g]? = _
    rw [Array.getElem?_modify, if_pos rfl, hc]
    rfl
theorem UpdB.drew {w w' : World} {g : Nat} (h : UpdB w w' g) : UpdB w w'.drew g := ⟨h.os, h.tape, h.output, h.size, h.rest, h.here⟩
theorem UpdB.cell {w w' : World} {g : Nat} (h : UpdB w w' g) {p : Addr} (hp : p.block ≠ g) : w'.cell? p = w.cell? p := by
  unfold World.cell?
  rw [h.rest p.block hp]
theorem UpdB.frozen {w w' : World} {g : Nat} (h : UpdB w w' g) {p : Addr} (hp : p.block ≠ g) : w'.frozen? p = w.frozen? p := by
  unfold World.frozen?
  rw [h.rest p.block hp]
/-- Where the cells of block g are back, all is back. -/
theorem UpdB.back {w w' : World} {g : Nat} (h : UpdB w w' g) {v : Value} (h0 : w.cell? ⟨g, 0, none⟩ = some v) (hc : ∀ j, w'.cell? ⟨g, j, none⟩ = w.cell? ⟨g, j, none⟩) (B : Nat) : Below B w w' := by
  refine ⟨h.os, h.tape, h.output, by rw [h.size]; exact Nat.le_refl _, fun k _ => ?_⟩
  by_cases hk : k = g
  · subst hk
    cases hh : w.heap[k]? with
    | none => simp [World.cell?, hh] at h0
    | some o =>
      cases o with
      | cells c e f =>
        obtain ⟨c', h1, h2⟩ := h.here c e f hh
        rw [h1]
        have : c' = c := Array.ext_getElem? fun j => by
          have := hc j
          simpa [World.cell?, hh, h1] using this
        rw [this]
      | _ => simp [World.cell?, hh] at h0
  · exact h.rest k hk

/-- A byte, written over. -/
def xr (b : Int) : Int := bits .xor .u8 b 90
theorem xr_fin : ∀ n : Fin 256, 0 ≤ xr (n.val : Int) ∧ xr (n.val : Int) < 256 ∧ xr (xr (n.val : Int)) = (n.val : Int) := by decide +kernel
theorem xr_bd (b : Int) (h0 : 0 ≤ b) (h1 : b < 256) : 0 ≤ xr b ∧ xr b < 256 ∧ xr (xr b) = b := by
  obtain ⟨n, rfl⟩ := Int.eq_ofNat_of_zero_le h0
  exact xr_fin ⟨n, by omega⟩
def ovr (f : Nat → Int) (k j : Nat) : Int := if j < k then xr (f j) else f j
theorem ovr_step (f : Nat → Int) (k j : Nat) : upd (ovr f k) k (xr (f k)) j = ovr f (k + 1) j := by
  unfold upd ovr
  by_cases h : j = k
  · subst h; rw [if_pos rfl, if_pos (by omega)]
  · rw [if_neg h]
    by_cases h2 : j < k
    · rw [if_pos h2, if_pos (by omega)]
    · rw [if_neg h2, if_neg (by omega)]
set_option maxHeartbeats 1000000 in
set_option maxRecDepth 100000 in
theorem over_any (g n c : Nat) (hn : n ≤ c) (hc : c < 9223372036854775808) (f : Nat → Int) (w : World) (hr : Row8 w g c f) :
    Calls Try.prog 53 #[.slice (some ⟨g, 0, none⟩) n c] w fun e w' => e = .returned (.tuple #[]) ∧ UpdB w w' g ∧ Row8 w' g c (fun j => xr (f j)) ∧ ∀ j, c ≤ j → w'.cell? ⟨g, j, none⟩ = w.cell? ⟨g, j, none⟩ := by
  have HR : Hid _ := hr
  clear hr
  go_enter Try.func53, Try.ntmps53
  go_wp2
  go_loopw [3] (fun i wr => ∃ k : Nat, k ≤ c ∧ i = .int .i64 k ∧ Row8 wr g c (ovr f k) ∧ UpdB w wr g ∧ ∀ j, c ≤ j → wr.cell? ⟨g, j, none⟩ = w.cell? ⟨g, j, none⟩) (fun i _ => c - (intOf i).toNat)
  case atStart => exact ⟨0, by omega, rfl, Row8.congr HR.out (fun j _ => by unfold ovr; rw [if_neg (by omega)]), UpdB.refl _ _, fun _ _ => rfl⟩
  case round =>
    clear HR
    obtain ⟨k, hk, rfl, hR, hU, hF⟩ := hrel
    by_cases hlt : k < c
    · obtain ⟨r1, r2⟩ := hR k hlt
      have eo : ovr f k k = f k := by unfold ovr; rw [if_neg (by omega)]
      rw [eo] at r1
      clear eo
      have HM : Hid (_ ∧ _ ∧ _) := ⟨hR, hU, hF⟩
      clear hR hU hF
      go_wp2
      go_roundw
      case rel =>
        obtain ⟨hR, hU, hF⟩ := HM.out
        refine ⟨k + 1, by omega, by go_num, (hR.set _).congr (fun j _ => ovr_step f k j), hU.set _ _, fun j hj => ?_⟩
        rw [World.cell?_setCell_other _ _ _ _ (by intro h; injection h with h1 h2; omega)]
        exact hF j hj
      case measure => simp [intOf] <;> omega
    · have hk6 : k = c := by omega
      subst hk6
      have HM : Hid (_ ∧ _ ∧ _) := ⟨hU, hR, hF⟩
      clear hU hR hF
      go_wp2
      refine bodyPost_end (v := .tuple #[]) ?_ rfl ⟨rfl, HM.out.1, Row8.congr HM.out.2.1 (fun j hj => by unfold ovr; rw [if_pos hj]), HM.out.2.2⟩
      simp [results, Try.results53]
end Go.Proofs.Ytpcnhknkgiingaa
