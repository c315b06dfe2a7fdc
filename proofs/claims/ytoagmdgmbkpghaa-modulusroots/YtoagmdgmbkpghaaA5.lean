/- words.Mul -/
import Derived.Test.YtoagmdgmbkpghaaPA1
import Derived.Deep.RegionHeld3
namespace Go.Proofs.Ytoagmdgmbkpghaa
open Go.RowKit Go.Lib

theorem twelve_zero {c : Array Value} (h : c = #[.int .u64 0, .int .u64 0, .int .u64 0, .int .u64 0, .int .u64 0, .int .u64 0, .int .u64 0, .int .u64 0, .int .u64 0, .int .u64 0, .int .u64 0, .int .u64 0]) : ∀ j, j < 12 → c[j]? = some (.int .u64 0) := by
  subst h
  intro j hj
  match j, hj with
  | 0, _ | 1, _ | 2, _ | 3, _ | 4, _ | 5, _ | 6, _ | 7, _ | 8, _ | 9, _ | 10, _ | 11, _ => rfl

/-- What stands in memory while Mul runs: a, b, two results, the product. -/
structure MulMem (w wr : World) (a b : Nat) (p : Nat → Int) : Prop where
  ra : Row wr w.heap.size 6 (wd a)
  rb : Row wr (w.heap.size + 1) 6 (wd b)
  rl : Row wr (w.heap.size + 1 + 1) 6 (fun _ => 0)
  rh : Row wr (w.heap.size + 1 + 1 + 1) 6 (fun _ => 0)
  rp : Row wr (w.heap.size + 1 + 1 + 1 + 1) 12 p
  bl : Below w.heap.size w wr
  sz : wr.heap.size = w.heap.size + 1 + 1 + 1 + 1 + 1

theorem MulMem.store {w wr : World} {a b : Nat} {p : Nat → Int} (h : MulMem w wr a b p) (k : Nat) (v : Int) : MulMem w (wr.setCell ⟨w.heap.size + 1 + 1 + 1 + 1, k, none⟩ (.int .u64 v)) a b (upd p k v) :=
  ⟨h.ra.set_other _ (by first | omega | (simp <;> omega)), h.rb.set_other _ (by first | omega | (simp <;> omega)), h.rl.set_other _ (by first | omega | (simp <;> omega)), h.rh.set_other _ (by first | omega | (simp <;> omega)), h.rp.set _, h.bl.setCell (by first | omega | (simp <;> omega)) _, by simp [World.setCell, h.sz]⟩
theorem MulMem.drew {w wr : World} {a b : Nat} {p : Nat → Int} (h : MulMem w wr a b p) : MulMem w wr.drew a b p :=
  ⟨h.ra.drew, h.rb.drew, h.rl.drew, h.rh.drew, h.rp.drew, h.bl.drew, h.sz⟩
theorem MulMem.congr {w wr : World} {a b : Nat} {p p' : Nat → Int} (h : MulMem w wr a b p) (e : ∀ j, j < 12 → p j = p' j) : MulMem w wr a b p' :=
  ⟨h.ra, h.rb, h.rl, h.rh, h.rp.congr e, h.bl, h.sz⟩

end Go.Proofs.Ytoagmdgmbkpghaa
