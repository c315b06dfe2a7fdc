/- reliquarykit.ApartBytes, of three lists. -/
import Derived.Test.YtpcnhknkgiingaaF4
import Derived.Test.YtpcnhknkgiingaaC1
namespace Go.Proofs.Ytpcnhknkgiingaa
open Go.RowKit

/-- Three lists of bytes that lie apart. -/
structure Apart3 (w : World) (gl : Nat) (G Ln Cp : Nat → Nat) (Fs : Nat → Nat → Int) : Prop where
  gl_lt : gl < w.heap.size
  cells : ∀ k, k < 3 → w.cell? ⟨gl, k, none⟩ = some (.slice (some ⟨G k, 0, none⟩) (Ln k) (Cp k))
  g_lt : ∀ k, k < 3 → G k < w.heap.size
  g_ne : ∀ k, k < 3 → G k ≠ gl
  apart : ∀ k j, k < 3 → j < 3 → k ≠ j → G k ≠ G j
  lens : ∀ k, k < 3 → Ln k ≤ Cp k
  caps : ∀ k, k < 3 → 0 < Cp k ∧ Cp k ≤ 1048600
  rows : ∀ k, k < 3 → Row8 w (G k) (Cp k) (Fs k)
  byte : ∀ k j, k < 3 → j < Cp k → 0 ≤ Fs k j ∧ Fs k j < 256
theorem Apart3.below {w w' : World} {gl : Nat} {G Ln Cp : Nat → Nat} {Fs : Nat → Nat → Int} (h : Apart3 w gl G Ln Cp Fs) (hb : Below w.heap.size w w') : Apart3 w' gl G Ln Cp Fs :=
  ⟨Nat.lt_of_lt_of_le h.gl_lt hb.size, fun k hk => by rw [hb.cell (p := ⟨gl, k, none⟩) h.gl_lt]; exact h.cells k hk, fun k hk => Nat.lt_of_lt_of_le (h.g_lt k hk) hb.size, h.g_ne, h.apart, h.lens, h.caps, fun k hk => (h.rows k hk).below hb (h.g_lt k hk), h.byte⟩
/-- The copies of the first k lists lie in block wb. -/
structure Was (w : World) (B wb k : Nat) (Cp : Nat → Nat) (Fs : Nat → Nat → Int) : Prop where
  lt : B ≤ wb ∧ wb < w.heap.size
  free : ∀ j, j < 3 → (w.cell? ⟨wb, j, none⟩).isSome = true ∧ w.frozen? ⟨wb, j, none⟩ = false
  copy : ∀ j, j < k → ∃ cw cc, B ≤ cw ∧ cw ≠ wb ∧ cw < w.heap.size ∧ w.cell? ⟨wb, j, none⟩ = some (.slice (some ⟨cw, 0, none⟩) (Cp j) cc) ∧ Cp j ≤ cc ∧ ∀ q, q < Cp j → w.cell? ⟨cw, q, none⟩ = some (.int .u8 (Fs j q))
theorem Was.below {w w' : World} {B wb k : Nat} {Cp : Nat → Nat} {Fs : Nat → Nat → Int} (h : Was w B wb k Cp Fs) (hb : Below w.heap.size w w') : Was w' B wb k Cp Fs :=
  ⟨⟨h.lt.1, Nat.lt_of_lt_of_le h.lt.2 hb.size⟩, fun j hj => ⟨by rw [hb.cell (p := ⟨wb, j, none⟩) h.lt.2]; exact (h.free j hj).1, by rw [hb.frozen (p := ⟨wb, j, none⟩) h.lt.2]; exact (h.free j hj).2⟩, fun j hj => by
    obtain ⟨cw, cc, h1, h2, h3, h4, h5, h6⟩ := h.copy j hj
    exact ⟨cw, cc, h1, h2, Nat.lt_of_lt_of_le h3 hb.size, by rw [hb.cell (p := ⟨wb, j, none⟩) h.lt.2]; exact h4, h5, fun q hq => by rw [hb.cell (p := ⟨cw, q, none⟩) h3]; exact h6 q hq⟩⟩
theorem Was.upd {w w' : World} {B wb k g : Nat} {Cp : Nat → Nat} {Fs : Nat → Nat → Int} (h : Was w B wb k Cp Fs) (hu : UpdB w w' g) (hg : g < B) : Was w' B wb k Cp Fs :=
  have h0 := h.lt
  ⟨⟨h.lt.1, by rw [hu.size]; exact h.lt.2⟩, fun j hj => ⟨by rw [hu.cell (p := ⟨wb, j, none⟩) (by simp; omega)]; exact (h.free j hj).1, by rw [hu.frozen (p := ⟨wb, j, none⟩) (by simp; omega)]; exact (h.free j hj).2⟩, fun j hj => by
    obtain ⟨cw, cc, h1, h2, h3, h4, h5, h6⟩ := h.copy j hj
    exact ⟨cw, cc, h1, h2, by rw [hu.size]; exact h3, by rw [hu.cell (p := ⟨wb, j, none⟩) (by simp; omega)]; exact h4, h5, fun q hq => by rw [hu.cell (p := ⟨cw, q, none⟩) (by simp; omega)]; exact h6 q hq⟩⟩
theorem Was.store {w : World} {B wb k cw cc : Nat} {Cp : Nat → Nat} {Fs : Nat → Nat → Int} (h : Was w B wb k Cp Fs) (hk : k < 3) (h1 : B ≤ cw) (h2 : cw ≠ wb) (h3 : cw < w.heap.size) (h5 : Cp k ≤ cc) (h6 : ∀ q, q < Cp k → w.cell? ⟨cw, q, none⟩ = some (.int .u8 (Fs k q))) :
    Was (w.setCell ⟨wb, k, none⟩ (.slice (some ⟨cw, 0, none⟩) (Cp k) cc)) B wb (k + 1) Cp Fs := by
  refine ⟨⟨h.lt.1, by simpa using h.lt.2⟩, fun j hj => ⟨?_, by rw [World.frozen?_setCell]; exact (h.free j hj).2⟩, fun j hj => ?_⟩
  · by_cases e : j = k
    · subst e
      obtain ⟨u, hu⟩ := Option.isSome_iff_exists.1 (h.free j hj).1
      rw [World.cell?_setCell_same _ _ _ hu]; rfl
    · rw [World.cell?_setCell_other _ _ _ _ (by intro h; injection h with h1 h2; exact e h2.symm)]; exact (h.free j hj).1
  · by_cases e : j = k
    · subst e
      obtain ⟨u, hu⟩ := Option.isSome_iff_exists.1 (h.free j hk).1
      exact ⟨cw, cc, h1, h2, by simpa using h3, World.cell?_setCell_same _ _ _ hu, h5, fun q hq => by rw [World.cell?_setCell_other _ _ _ _ (by intro h; injection h with h1 _; exact h2 h1.symm)]; exact h6 q hq⟩
    · obtain ⟨cw', cc', g1, g2, g3, g4, g5, g6⟩ := h.copy j (by omega)
      exact ⟨cw', cc', g1, g2, by simpa using g3, by rw [World.cell?_setCell_other _ _ _ _ (by intro h; injection h with h1 h2; exact e h2.symm)]; exact g4, g5, fun q hq => by rw [World.cell?_setCell_other _ _ _ _ (by intro h; injection h with h1 _; exact g2 h1.symm)]; exact g6 q hq⟩
/-- What stands while list i is written over. -/
structure Over3 (w1 w : World) (g c : Nat) (f : Nat → Int) : Prop where
  upd : UpdB w1 w g
  row : Row8 w g c (fun j => xr (f j))
  far : ∀ j, c ≤ j → w.cell? ⟨g, j, none⟩ = w1.cell? ⟨g, j, none⟩
theorem Over3.drew {w1 w : World} {g c : Nat} {f : Nat → Int} (h : Over3 w1 w g c f) : Over3 w1 w.drew g c f := ⟨h.upd.drew, h.row.drew, h.far⟩
theorem Over3.back {w1 w w' : World} {g c : Nat} {f : Nat → Int} (h : Over3 w1 w g c f) (h0 : 0 < c) (hf : ∀ j, j < c → 0 ≤ f j ∧ f j < 256) (hr : Row8 w1 g c f) (hu : UpdB w w' g) (hr' : Row8 w' g c (fun j => xr (xr (f j)))) (hfar : ∀ j, c ≤ j → w'.cell? ⟨g, j, none⟩ = w.cell? ⟨g, j, none⟩) (B : Nat) : Below B w1 w' :=
  (h.upd.trans hu).back (hr 0 h0).1 (fun j => by
    rcases Nat.lt_or_ge j c with hj | hj
    · rw [(hr' j hj).1, (hr j hj).1]
      simp only [(xr_bd (f j) (hf j hj).1 (hf j hj).2).2.2]
    · rw [hfar j hj, h.far j hj]) B
end Go.Proofs.Ytpcnhknkgiingaa
