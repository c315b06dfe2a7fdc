/- Structs: what a suite is, points, triples, numbers of two parts -/
import Derived.Test.YtjmbgchoioepjaaU0
namespace Go.Proofs.Ytjmbgchoioepjaa
open Go.RowKit
namespace Rg
abbrev kd (p r c x y : Nat) : List Value := [U p, U r, U c, U x, U y, .bool false]
abbrev pt (x y : Nat) (z : Bool) : List Value := [U x, U y, .bool z]
abbrev tr (x y z : Nat) : List Value := [U x, U y, U z]
abbrev l2 (a b : Nat) : List Value := [U a, U b]
theorem ex_loadT {ρ : Operand → Value} {o : Oper} {x : Operand} {g off n : Nat} {t : TypeId} {cs ms : List Value} {w : World} {l : List (Nat × List Value)} (h : Mm w l) (q : Nat) (hk : l[q]? = some (g, cs)) (ho : o.op = .load t x) (hx : ρ x = PT g off) (ha : ∀ w, (isAgg t).run Try.prog w = .ok true w) (hs : ∀ w, (sizeOf t).run Try.prog w = .ok n w) (hc : (cs.drop off).take n = ms) (hl : ms.length = n) :
    (execOp ρ o).run Try.prog w = .ok (.value (.agg ms.toArray)) w := by
  have hm := List.mem_of_getElem? hk
  have hcell := run_loadCells_list (P := Try.prog) (w := w) ⟨g, off, none⟩ ms (fun j v hv => by
    have e : cs[off + j]? = some v := by
      rw [← List.getElem?_drop]
      rw [← hc, List.getElem?_take] at hv
      split at hv
      · exact hv
      · cases hv
    have e2 := h.cell hm e
    rw [show (⟨g, off, none⟩ : Addr).add j = ⟨g, off + j, none⟩ from by unfold Addr.add; split <;> simp_all]
    exact e2)
  rw [hl] at hcell
  have hf : (loadCellsFrom ⟨g, off, none⟩ 0 n #[]).run Try.prog w = .ok ms.toArray w := hcell
  clear hcell hc hk hm h
  simp only [execOp, ho, hx]
  go_simp
theorem ex_loadC {ρ : Operand → Value} {o : Oper} {x : Operand} {g off : Nat} {t : TypeId} {v : Value} {cs : List Value} {w : World} {l : List (Nat × List Value)} (h : Mm w l) (k : Nat) (hk : l[k]? = some (g, cs)) (ho : o.op = .load t x) (hx : ρ x = PT g off) (ha : ∀ w, (isAgg t).run Try.prog w = .ok false w) (hc : cs[off]? = some v) :
    (execOp ρ o).run Try.prog w = .ok (.value v) w := by
  have c0 := h.cell (List.mem_of_getElem? hk) hc
  clear h hk hc
  simp only [execOp, ho, hx]
  go_simp
theorem ex_boxT {ρ : Operand → Value} {o : Oper} {x : Operand} {t : TypeId} {cs : List Value} {w : World} (ho : o.op = .box t x) (hx : ρ x = .agg cs.toArray) :
    (execOp ρ o).run Try.prog w = .ok (.value (.pointer (some ⟨w.heap.size, 0, none⟩))) (w.alloc (.cells cs.toArray t)) := by
  simp only [execOp, ho, hx]
  go_simp
theorem ex_storeT {ρ : Operand → Value} {o : Oper} {x y : Operand} {g off : Nat} {t : TypeId} {cs vs : List Value} {w : World} {l : List (Nat × List Value)} (h : Mm w l) (q : Nat) (hk : l[q]? = some (g, cs)) (ho : o.op = .store t x y) (hx : ρ x = PT g off) (hy : ρ y = .agg vs.toArray) (hs : ∀ w, (sizeOf t).run Try.prog w = .ok vs.length w) (h1 : vs.all Value.oneCell' = true) (hb : off + vs.length ≤ cs.length) :
    (execOp ρ o).run Try.prog w = .ok .skip (w.setCells g off vs) := by
  have hm := List.mem_of_getElem? hk
  have hq : ∀ j, j < vs.length → ∃ u, cs[off + j]? = some u := fun j hj => ⟨_, List.getElem?_eq_getElem (by omega)⟩
  have hst := run_storeCells_cells (P := Try.prog) g off vs 0 w (fun j hj => by
    obtain ⟨u, hu⟩ := hq j hj
    rw [show off + 0 + j = off + j by omega, h.cell hm hu]; rfl) (fun j hj => by
    obtain ⟨u, hu⟩ := hq j hj
    rw [show off + 0 + j = off + j by omega]; exact h.free hm hu) (List.all_eq_true.1 h1)
  clear h hm hq hb hk
  simp only [execOp, ho, hx, hy]
  go_simp
theorem var_T {g n : Nat} {t : TypeId} {cs : List Value} {w : World} {l : List (Nat × List Value)} (h : Mm w l) (q : Nat) (hk : l[q]? = some (g, cs)) (ha : ∀ w, (isAgg t).run Try.prog w = .ok true w) (hs : ∀ w, (sizeOf t).run Try.prog w = .ok n w) (hn : cs.length = n) : (loadVar t ⟨g, 0, none⟩).run Try.prog w = .ok (.agg cs.toArray) w := by
  have hm := List.mem_of_getElem? hk
  have hcell := run_loadCells_list (P := Try.prog) (w := w) ⟨g, 0, none⟩ cs (fun j v hv => by
    have e2 := h.cell hm hv
    rw [show (⟨g, 0, none⟩ : Addr).add j = ⟨g, j, none⟩ from by unfold Addr.add; split <;> simp_all]
    exact e2)
  rw [hn] at hcell
  have hf : (loadCellsFrom ⟨g, 0, none⟩ 0 n #[]).run Try.prog w = .ok cs.toArray w := hcell
  clear hcell h hk hm
  simp only [loadVar]
  go_simp
theorem ex_laidT {ρ : Operand → Value} {o : Oper} {x y : Operand} {g : Nat} {t : TypeId} {zs cs : List Value} {w : World} (hb : Blk w g zs) (hl : zs.length = cs.length) (h1 : cs.all Value.oneCell' = true) (hs : ∀ w, (sizeOf t).run Try.prog w = .ok cs.length w) (ho : o.op = .store t x y) (hx : ρ x = .pointer (some ⟨g, 0, none⟩)) (hy : ρ y = .agg cs.toArray) :
    (execOp ρ o).run Try.prog w = .ok .skip (w.setCells g 0 cs) := by
  have hk : ∀ k, k < cs.length → ∃ u, zs[k]? = some u := fun k hk => ⟨_, List.getElem?_eq_getElem (by omega)⟩
  have hst := run_storeCells_cells (P := Try.prog) g 0 cs 0 w (fun k hkl => by
    obtain ⟨u, hu⟩ := hk k hkl
    rw [show 0 + 0 + k = k by omega, (hb k u hu).1]; rfl) (fun k hkl => by
    obtain ⟨u, hu⟩ := hk k hkl
    rw [show 0 + 0 + k = k by omega]; exact (hb k u hu).2) (List.all_eq_true.1 h1)
  clear hb hk h1 hl
  simp only [execOp, ho, hx, hy]
  go_simp
theorem ex_made72 {ρ : Operand → Value} {o : Oper} {w : World} (ho : o.op = .alloc 72) :
    (execOp ρ o).run Try.prog w = .ok (.value (.pointer (some ⟨w.heap.size, 0, none⟩))) (w.alloc (.cells (kd 0 0 0 0 0).toArray 72)) := by
  simp only [execOp, ho]
  go_simp
  rfl
theorem ex_made27 {ρ : Operand → Value} {o : Oper} {w : World} (ho : o.op = .alloc 27) :
    (execOp ρ o).run Try.prog w = .ok (.value (.pointer (some ⟨w.heap.size, 0, none⟩))) (w.alloc (.cells (kd 0 0 0 0 0).toArray 27)) := by
  simp only [execOp, ho]
  go_simp
  rfl
theorem ex_made25 {ρ : Operand → Value} {o : Oper} {w : World} (ho : o.op = .alloc 25) :
    (execOp ρ o).run Try.prog w = .ok (.value (.pointer (some ⟨w.heap.size, 0, none⟩))) (w.alloc (.cells (pt 0 0 false).toArray 25)) := by
  simp only [execOp, ho]
  go_simp
  rfl
theorem ex_made77 {ρ : Operand → Value} {o : Oper} {w : World} (ho : o.op = .alloc 77) :
    (execOp ρ o).run Try.prog w = .ok (.value (.pointer (some ⟨w.heap.size, 0, none⟩))) (w.alloc (.cells (tr 0 0 0).toArray 77)) := by
  simp only [execOp, ho]
  go_simp
  rfl
theorem ex_made49 {ρ : Operand → Value} {o : Oper} {w : World} (ho : o.op = .alloc 49) :
    (execOp ρ o).run Try.prog w = .ok (.value (.pointer (some ⟨w.heap.size, 0, none⟩))) (w.alloc (.cells (l2 0 0).toArray 49)) := by
  simp only [execOp, ho]
  go_simp
  rfl
theorem ex_build25_ {ρ : Operand → Value} {o : Oper}  {w : World} (ho : o.op = .build 25 #[]) : (execOp ρ o).run Try.prog w = .ok (.value (.agg (pt 0 0 false).toArray)) w := by
  simp only [execOp, ho]
  go_simp
theorem ex_build25_2 {ρ : Operand → Value} {o : Oper} {x2 : Operand} {b2 : Bool} {w : World} (ho : o.op = .build 25 #[(2, x2)]) (h2 : ρ x2 = .bool b2) : (execOp ρ o).run Try.prog w = .ok (.value (.agg (pt 0 0 b2).toArray)) w := by
  simp only [execOp, ho]
  go_simp
theorem ex_build25_01 {ρ : Operand → Value} {o : Oper} {x0 x1 : Operand} {a0 : Nat} {a1 : Nat} {w : World} (ho : o.op = .build 25 #[(0, x0), (1, x1)]) (h0 : ρ x0 = U a0) (h1 : ρ x1 = U a1) : (execOp ρ o).run Try.prog w = .ok (.value (.agg (pt a0 a1 false).toArray)) w := by
  simp only [execOp, ho]
  go_simp
theorem ex_build25_012 {ρ : Operand → Value} {o : Oper} {x0 x1 x2 : Operand} {a0 : Nat} {a1 : Nat} {b2 : Bool} {w : World} (ho : o.op = .build 25 #[(0, x0), (1, x1), (2, x2)]) (h0 : ρ x0 = U a0) (h1 : ρ x1 = U a1) (h2 : ρ x2 = .bool b2) : (execOp ρ o).run Try.prog w = .ok (.value (.agg (pt a0 a1 b2).toArray)) w := by
  simp only [execOp, ho]
  go_simp
theorem ex_build77_ {ρ : Operand → Value} {o : Oper}  {w : World} (ho : o.op = .build 77 #[]) : (execOp ρ o).run Try.prog w = .ok (.value (.agg (tr 0 0 0).toArray)) w := by
  simp only [execOp, ho]
  go_simp
theorem ex_build77_012 {ρ : Operand → Value} {o : Oper} {x0 x1 x2 : Operand} {a0 : Nat} {a1 : Nat} {a2 : Nat} {w : World} (ho : o.op = .build 77 #[(0, x0), (1, x1), (2, x2)]) (h0 : ρ x0 = U a0) (h1 : ρ x1 = U a1) (h2 : ρ x2 = U a2) : (execOp ρ o).run Try.prog w = .ok (.value (.agg (tr a0 a1 a2).toArray)) w := by
  simp only [execOp, ho]
  go_simp
theorem ex_build49_ {ρ : Operand → Value} {o : Oper}  {w : World} (ho : o.op = .build 49 #[]) : (execOp ρ o).run Try.prog w = .ok (.value (.agg (l2 0 0).toArray)) w := by
  simp only [execOp, ho]
  go_simp
theorem ex_build49_0 {ρ : Operand → Value} {o : Oper} {x0 : Operand} {a0 : Nat} {w : World} (ho : o.op = .build 49 #[(0, x0)]) (h0 : ρ x0 = U a0) : (execOp ρ o).run Try.prog w = .ok (.value (.agg (l2 a0 0).toArray)) w := by
  simp only [execOp, ho]
  go_simp
theorem ex_build49_01 {ρ : Operand → Value} {o : Oper} {x0 x1 : Operand} {a0 : Nat} {a1 : Nat} {w : World} (ho : o.op = .build 49 #[(0, x0), (1, x1)]) (h0 : ρ x0 = U a0) (h1 : ρ x1 = U a1) : (execOp ρ o).run Try.prog w = .ok (.value (.agg (l2 a0 a1).toArray)) w := by
  simp only [execOp, ho]
  go_simp
theorem ex_build72_ {ρ : Operand → Value} {o : Oper}  {w : World} (ho : o.op = .build 72 #[]) : (execOp ρ o).run Try.prog w = .ok (.value (.agg (kd 0 0 0 0 0).toArray)) w := by
  simp only [execOp, ho]
  go_simp
theorem ex_build72_0123 {ρ : Operand → Value} {o : Oper} {x0 x1 x2 x3 : Operand} {a0 : Nat} {a1 : Nat} {a2 : Nat} {gx gy : Nat} {w : World} (ho : o.op = .build 72 #[(0, x0), (1, x1), (2, x2), (3, x3)]) (h0 : ρ x0 = U a0) (h1 : ρ x1 = U a1) (h2 : ρ x2 = U a2) (h3 : ρ x3 = V (pt gx gy false)) : (execOp ρ o).run Try.prog w = .ok (.value (.agg (kd a0 a1 a2 gx gy).toArray)) w := by
  simp only [execOp, ho]
  go_simp
theorem ex_build27_ {ρ : Operand → Value} {o : Oper}  {w : World} (ho : o.op = .build 27 #[]) : (execOp ρ o).run Try.prog w = .ok (.value (.agg (kd 0 0 0 0 0).toArray)) w := by
  simp only [execOp, ho]
  go_simp
theorem ex_build27_0123 {ρ : Operand → Value} {o : Oper} {x0 x1 x2 x3 : Operand} {a0 : Nat} {a1 : Nat} {a2 : Nat} {gx gy : Nat} {w : World} (ho : o.op = .build 27 #[(0, x0), (1, x1), (2, x2), (3, x3)]) (h0 : ρ x0 = U a0) (h1 : ρ x1 = U a1) (h2 : ρ x2 = U a2) (h3 : ρ x3 = V (pt gx gy false)) : (execOp ρ o).run Try.prog w = .ok (.value (.agg (kd a0 a1 a2 gx gy).toArray)) w := by
  simp only [execOp, ho]
  go_simp
theorem ex_field77_0 {ρ : Operand → Value} {o : Oper} {x : Operand} {a b c : Nat} {w : World} (ho : o.op = .field 77 x 0) (hx : ρ x = V (tr a b c)) (_h : (0 : Nat) = 0) : (execOp ρ o).run Try.prog w = .ok (.value (U a)) w := by
  simp only [execOp, ho, hx]
  kernel_rfl
theorem ex_field77_1 {ρ : Operand → Value} {o : Oper} {x : Operand} {a b c : Nat} {w : World} (ho : o.op = .field 77 x 1) (hx : ρ x = V (tr a b c)) (_h : (0 : Nat) = 0) : (execOp ρ o).run Try.prog w = .ok (.value (U b)) w := by
  simp only [execOp, ho, hx]
  kernel_rfl
theorem ex_field77_2 {ρ : Operand → Value} {o : Oper} {x : Operand} {a b c : Nat} {w : World} (ho : o.op = .field 77 x 2) (hx : ρ x = V (tr a b c)) (_h : (0 : Nat) = 0) : (execOp ρ o).run Try.prog w = .ok (.value (U c)) w := by
  simp only [execOp, ho, hx]
  kernel_rfl
theorem ex_field25_0 {ρ : Operand → Value} {o : Oper} {x : Operand} {a b : Nat} {z : Bool} {w : World} (ho : o.op = .field 25 x 0) (hx : ρ x = V (pt a b z)) (_h : (0 : Nat) = 0) : (execOp ρ o).run Try.prog w = .ok (.value (U a)) w := by
  simp only [execOp, ho, hx]
  kernel_rfl
theorem ex_field25_1 {ρ : Operand → Value} {o : Oper} {x : Operand} {a b : Nat} {z : Bool} {w : World} (ho : o.op = .field 25 x 1) (hx : ρ x = V (pt a b z)) (_h : (0 : Nat) = 0) : (execOp ρ o).run Try.prog w = .ok (.value (U b)) w := by
  simp only [execOp, ho, hx]
  kernel_rfl
theorem ex_field25_2 {ρ : Operand → Value} {o : Oper} {x : Operand} {a b : Nat} {z : Bool} {w : World} (ho : o.op = .field 25 x 2) (hx : ρ x = V (pt a b z)) (_h : (0 : Nat) = 0) : (execOp ρ o).run Try.prog w = .ok (.value (.bool z)) w := by
  simp only [execOp, ho, hx]
  kernel_rfl
theorem ex_field72_0 {ρ : Operand → Value} {o : Oper} {x : Operand} {a b c d e : Nat} {w : World} (ho : o.op = .field 72 x 0) (hx : ρ x = V (kd a b c d e)) (_h : (0 : Nat) = 0) : (execOp ρ o).run Try.prog w = .ok (.value (U a)) w := by
  simp only [execOp, ho, hx]
  kernel_rfl
theorem ex_field72_1 {ρ : Operand → Value} {o : Oper} {x : Operand} {a b c d e : Nat} {w : World} (ho : o.op = .field 72 x 1) (hx : ρ x = V (kd a b c d e)) (_h : (0 : Nat) = 0) : (execOp ρ o).run Try.prog w = .ok (.value (U b)) w := by
  simp only [execOp, ho, hx]
  kernel_rfl
theorem ex_field72_2 {ρ : Operand → Value} {o : Oper} {x : Operand} {a b c d e : Nat} {w : World} (ho : o.op = .field 72 x 2) (hx : ρ x = V (kd a b c d e)) (_h : (0 : Nat) = 0) : (execOp ρ o).run Try.prog w = .ok (.value (U c)) w := by
  simp only [execOp, ho, hx]
  kernel_rfl
theorem ex_field72_3 {ρ : Operand → Value} {o : Oper} {x : Operand} {a b c d e : Nat} {w : World} (ho : o.op = .field 72 x 3) (hx : ρ x = V (kd a b c d e)) (_h : (0 : Nat) = 0) : (execOp ρ o).run Try.prog w = .ok (.value (V (pt d e false))) w := by
  simp only [execOp, ho, hx]
  kernel_rfl
theorem ex_field27_0 {ρ : Operand → Value} {o : Oper} {x : Operand} {a b c d e : Nat} {w : World} (ho : o.op = .field 27 x 0) (hx : ρ x = V (kd a b c d e)) (_h : (0 : Nat) = 0) : (execOp ρ o).run Try.prog w = .ok (.value (U a)) w := by
  simp only [execOp, ho, hx]
  kernel_rfl
theorem ex_field27_1 {ρ : Operand → Value} {o : Oper} {x : Operand} {a b c d e : Nat} {w : World} (ho : o.op = .field 27 x 1) (hx : ρ x = V (kd a b c d e)) (_h : (0 : Nat) = 0) : (execOp ρ o).run Try.prog w = .ok (.value (U b)) w := by
  simp only [execOp, ho, hx]
  kernel_rfl
theorem ex_field27_2 {ρ : Operand → Value} {o : Oper} {x : Operand} {a b c d e : Nat} {w : World} (ho : o.op = .field 27 x 2) (hx : ρ x = V (kd a b c d e)) (_h : (0 : Nat) = 0) : (execOp ρ o).run Try.prog w = .ok (.value (U c)) w := by
  simp only [execOp, ho, hx]
  kernel_rfl
theorem ex_field27_3 {ρ : Operand → Value} {o : Oper} {x : Operand} {a b c d e : Nat} {w : World} (ho : o.op = .field 27 x 3) (hx : ρ x = V (kd a b c d e)) (_h : (0 : Nat) = 0) : (execOp ρ o).run Try.prog w = .ok (.value (V (pt d e false))) w := by
  simp only [execOp, ho, hx]
  kernel_rfl
theorem run_eqB (D : Nat) (a b : Bool) (w : World) : (Op.equalIn (D + 1) 4 (.bool a) (.bool b)).run Try.prog w = .ok (a == b) w := by
  simp only [Op.equalIn, Sem.run_bind, run_underlying (show Try.prog.underlying 4 = some .bool by kernel_rfl), Result.andThen_ok]
  rfl
theorem run_eqU (D a b : Nat) (w : World) : (Op.equalIn (D + 1) 23 (U a) (U b)).run Try.prog w = .ok (decide (a = b)) w := by
  rw [run_equalIn_int w D 23 .u64 .u64 a b (by kernel_rfl)]
  by_cases h : a = b <;> simp [h] <;> omega
set_option maxRecDepth 100000 in
theorem run_eqP' (D a b a' b' : Nat) (z z' p0 p1 p2 : Bool) (hi0 : ∀ w, (Op.equalIn D 23 (U a) (U a')).run Try.prog w = .ok p0 w) (hi1 : ∀ w, (Op.equalIn D 23 (U b) (U b')).run Try.prog w = .ok p1 w) (hi2 : ∀ w, (Op.equalIn D 4 (.bool z) (.bool z')).run Try.prog w = .ok p2 w) (w : World) :
    (Op.equalIn (D + 1) 25 (V (pt a b z)) (V (pt a' b' z'))).run Try.prog w = .ok (p0 && (p1 && p2)) w := by
  have hst : Try.prog.stoodInHeld 25 = false := by kernel_rfl
  have hp : ∀ (a b : Nat) (z : Bool) (w : World), (Go.part 23 (pt a b z).toArray 0).run Try.prog w = .ok (U a) w ∧ (Go.part 23 (pt a b z).toArray 1).run Try.prog w = .ok (U b) w ∧ (Go.part 4 (pt a b z).toArray 2).run Try.prog w = .ok (.bool z) w := fun a b z w => ⟨by kernel_rfl, by kernel_rfl, by kernel_rfl⟩
  have q1 := hp a b z
  have q2 := hp a' b' z'
  clear hp
  unfold V
  generalize (pt a b z).toArray = xs at *
  generalize (pt a' b' z').toArray = ys at *
  simp only [Op.equalIn, Sem.run_bind, run_underlying Try.underlying25, Result.andThen_ok]
  simp [hst, hi0, hi1, hi2, q1, q2]
  cases p0 <;> cases p1 <;> cases p2 <;> simp
theorem run_eqP (a b a' b' : Nat) (z z' : Bool) (w : World) : (Op.equalIn 10000 25 (V (pt a b z)) (V (pt a' b' z'))).run Try.prog w = .ok (decide (a = a') && (decide (b = b') && (z == z'))) w :=
  run_eqP' 9999 a b a' b' z z' _ _ _ (fun w => run_eqU 9998 a a' w) (fun w => run_eqU 9998 b b' w) (fun w => run_eqB 9998 z z' w) w
theorem exec_eqT25 {ρ : Operand → Value} {o : Oper} {x y : Operand} {v v' : Array Value} {t : Bool} {w : World} (he : ∀ w, (Op.equalIn 10000 25 (.agg v) (.agg v')).run Try.prog w = .ok t w) (ho : o.op = .binOp .eql 25 x y 25) (hx : ρ x = .agg v) (hy : ρ y = .agg v') :
    (execOp ρ o).run Try.prog w = .ok (.value (.bool t)) w := by
  simp only [execOp, ho, hx, hy]
  clear hx hy
  go_simp
theorem exec_neqT25 {ρ : Operand → Value} {o : Oper} {x y : Operand} {v v' : Array Value} {t : Bool} {w : World} (he : ∀ w, (Op.equalIn 10000 25 (.agg v) (.agg v')).run Try.prog w = .ok t w) (ho : o.op = .binOp .neq 25 x y 25) (hx : ρ x = .agg v) (hy : ρ y = .agg v') :
    (execOp ρ o).run Try.prog w = .ok (.value (.bool !t)) w := by
  simp only [execOp, ho, hx, hy]
  clear hx hy
  go_simp
end Rg
end Go.Proofs.Ytjmbgchoioepjaa
