/- words.Divide -/
import Derived.Test.YtoagmdgmbkpghabDoorA20
import Derived.Deep.RegionHeld3
import Derived.Deep.DeepCutAuto
namespace Go.Proofs.YtoagmdgmbkpghabDoor
open Go.RowKit

/-- What stands in memory while Divide runs: a, b, two results. -/
structure DM (w wr : World) (a b : Nat) : Prop where
  ra : Row wr w.heap.size 6 (wd a)
  rb : Row wr (w.heap.size + 1) 6 (wd b)
  r2 : Row wr (w.heap.size + 1 + 1) 6 (fun _ => 0)
  r3 : Row wr (w.heap.size + 1 + 1 + 1) 6 (fun _ => 0)
  bl : Below w.heap.size w wr
  sz : w.heap.size + 1 + 1 + 1 < wr.heap.size
theorem DM.start (w : World) (a b : Nat) : DM w ((((w.alloc (O6 a)).alloc (O6 b)).alloc Z6).alloc Z6) a b :=
  ⟨(((Row.new w _ 24 rfl (six_lt rfl)).alloc (by first | omega | (simp <;> omega)) _).alloc (by first | omega | (simp <;> omega)) _).alloc (by first | omega | (simp <;> omega)) _,
   ((Row.new _ _ 24 (by first | omega | (simp <;> omega)) (six_lt rfl)).alloc (by first | omega | (simp <;> omega)) _).alloc (by first | omega | (simp <;> omega)) _,
   (Row.new _ _ 24 (by first | omega | (simp <;> omega)) (six_lt (f := fun _ => 0) rfl)).alloc (by first | omega | (simp <;> omega)) _,
   Row.new _ _ 24 (by first | omega | (simp <;> omega)) (six_lt (f := fun _ => 0) rfl),
   ((((Below.refl _ _).alloc (Nat.le_refl _) _).alloc (by first | omega | (simp <;> omega)) _).alloc (by first | omega | (simp <;> omega)) _).alloc (by first | omega | (simp <;> omega)) _,
   by simp⟩
theorem DM.below {w wr w1 : World} {a b : Nat} (h : DM w wr a b) (hb : Below wr.heap.size wr w1) : DM w w1 a b :=
  have := h.sz
  ⟨Row.below hb h.ra (by omega), Row.below hb h.rb (by omega), Row.below hb h.r2 (by omega), Row.below hb h.r3 (by omega), h.bl.trans (hb.mono (by omega)), Nat.lt_of_lt_of_le h.sz hb.size⟩
theorem DM.alloc {w wr : World} {a b : Nat} (h : DM w wr a b) (o : Obj) : DM w (wr.alloc o) a b :=
  have := h.sz
  ⟨h.ra.alloc (by omega) o, h.rb.alloc (by omega) o, h.r2.alloc (by omega) o, h.r3.alloc (by omega) o, h.bl.alloc (by omega) o, by simp; omega⟩
theorem DM.drew {w wr : World} {a b : Nat} (h : DM w wr a b) : DM w wr.drew a b := ⟨h.ra.drew, h.rb.drew, h.r2.drew, h.r3.drew, h.bl.drew, h.sz⟩
theorem DM.set {w wr : World} {a b : Nat} (h : DM w wr a b) {p : Addr} (hp : w.heap.size + 1 + 1 + 1 < p.block) (v : Value) : DM w (wr.setCell p v) a b :=
  ⟨h.ra.set_other _ (by omega), h.rb.set_other _ (by omega), h.r2.set_other _ (by omega), h.r3.set_other _ (by omega), h.bl.setCell (by omega) _, by simpa [World.setCell] using h.sz⟩
theorem DM.past7 {w wr : World} {a b : Nat} (h : DM w wr a b) {g : Nat} (hp : w.heap.size + 1 + 1 + 1 < g) (v0 v1 v2 v3 v4 v5 v6 : Value) : DM w (((((((wr.setCell ⟨g, 0, none⟩ v0).setCell ⟨g, 1, none⟩ v1).setCell ⟨g, 2, none⟩ v2).setCell ⟨g, 3, none⟩ v3).setCell ⟨g, 4, none⟩ v4).setCell ⟨g, 5, none⟩ v5).setCell ⟨g, 6, none⟩ v6) a b :=
  ((((((h.set (p := ⟨g, 0, none⟩) hp _).set (p := ⟨g, 1, none⟩) hp _).set (p := ⟨g, 2, none⟩) hp _).set (p := ⟨g, 3, none⟩) hp _).set (p := ⟨g, 4, none⟩) hp _).set (p := ⟨g, 5, none⟩) hp _).set (p := ⟨g, 6, none⟩) hp _

end Go.Proofs.YtoagmdgmbkpghabDoor
