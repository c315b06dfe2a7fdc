/- Rows; one round of Montgomery's product -/
import Derived.Test.YtoagmdgmbkpghaaM2
namespace Go.Proofs.Ytoagmdgmbkpghaa
open Go.RowKit
namespace Rg

/-- Slots of a frame, by a list. -/
def slotfn (l : List Value) (d : Nat) : Value := l.getD d undef

/-! Rows of six words. -/
abbrev rowc (f : Nat → Int) : List Value := [.int .u64 (f 0), .int .u64 (f 1), .int .u64 (f 2), .int .u64 (f 3), .int .u64 (f 4), .int .u64 (f 5)]
theorem row_at {f : Nat → Int} {j : Nat} (hj : j < 6) : (rowc f)[0 + j]? = some (.int .u64 (f j)) := by
  match j, hj with
  | 0, _ => rfl
  | 1, _ => rfl
  | 2, _ => rfl
  | 3, _ => rfl
  | 4, _ => rfl
  | 5, _ => rfl
theorem modn_at {n o s j : Nat} (hj : j < 6) : (modx n o s)[0 + j]? = some (.int .u64 (wd n j)) := by
  match j, hj with
  | 0, _ => rfl
  | 1, _ => rfl
  | 2, _ => rfl
  | 3, _ => rfl
  | 4, _ => rfl
  | 5, _ => rfl
theorem patch_row {f : Nat → Int} {j : Nat} {v : Int} (hj : j < 6) : patch (rowc f) (0 + j) [.int .u64 v] = rowc (upd f j v) := by
  match j, hj with
  | 0, _ => rfl
  | 1, _ => rfl
  | 2, _ => rfl
  | 3, _ => rfl
  | 4, _ => rfl
  | 5, _ => rfl
theorem row_bd {f : Nat → Int} {j : Nat} (hj : j < 6) : 0 + j < (rowc f).length := by
  show 0 + j < 6
  omega
theorem row_congr {f g : Nat → Int} (h : ∀ j, j < 6 → f j = g j) : rowc f = rowc g := by
  unfold rowc
  rw [h 0 (by decide), h 1 (by decide), h 2 (by decide), h 3 (by decide), h 4 (by decide), h 5 (by decide)]
theorem ex_indexAddr6 {ρ : Operand → Value} {o : Oper} {x y : Operand} {g off j : Nat} {w : World} (ho : o.op = .indexAddr 24 x y) (hx : ρ x = PT g off) (hy : ρ y = .int .i64 ((j : Nat) : Int)) (hj : j < 6) :
    (execOp ρ o).run Try.prog w = .ok (.value (PT g (off + j))) w := by
  have h1 : (j : Int) < 6 := by omega
  simp only [execOp, ho, hx, hy]
  clear ho hx hy
  go_simp
theorem ex_index6 {ρ : Operand → Value} {o : Oper} {x y : Operand} {a j : Nat} {w : World} (ho : o.op = .index 24 x y) (hx : ρ x = N a) (hy : ρ y = .int .i64 ((j : Nat) : Int)) (hj : j < 6) :
    (execOp ρ o).run Try.prog w = .ok (.value (.int .u64 (wd a j))) w := by
  simp only [execOp, ho, hx, hy]
  clear ho hx hy
  rcases (by omega : j = 0 ∨ j = 1 ∨ j = 2 ∨ j = 3 ∨ j = 4 ∨ j = 5) with rfl | rfl | rfl | rfl | rfl | rfl <;> kernel_rfl

theorem cells_zero : cells6 0 = zero6 := by simp [cells6, zero6, wd_zero]
theorem cells_start (n wr a b : Nat) : zero6 = cells6 (mrun n wr a b 0) := by show zero6 = cells6 0; exact cells_zero.symm
theorem Mm.at0 {w : World} {g : Nat} {cs cs' : List Value} {l : List (Nat × List Value)} (h : Mm w ((g, cs) :: l)) (e : cs = cs') : Mm w ((g, cs') :: l) := e ▸ h
/-! One round's row. -/
def inn (S Y j m : Nat) : Int := if m + 1 < j then wd Y (m + 1) else wd S m
theorem inn_at {S Y m : Nat} (hj : m + 1 < 6) : (rowc (inn S Y (m + 1)))[0 + (m + 1)]? = some (.int .u64 (wd S (m + 1))) := by
  rw [row_at hj]
  unfold inn
  rw [if_neg (by omega)]
theorem inn_step {S Y m : Nat} {v : Int} (h : v = wd Y (m + 1)) : rowc (upd (inn S Y (m + 1)) m v) = rowc (inn S Y (m + 1 + 1)) := row_congr fun j _ => by
  unfold upd inn
  by_cases h1 : j = m
  · subst h1; rw [if_pos rfl, if_pos (by omega), h]
  · rw [if_neg h1]
    by_cases h2 : j + 1 < m + 1
    · rw [if_pos h2, if_pos (by omega)]
    · rw [if_neg h2, if_neg (by omega)]
theorem patch_row5 {f : Nat → Int} {v : Int} : patch (rowc f) 5 [.int .u64 v] = rowc (upd f 5 v) := rfl
theorem inn_end {S Y Z : Nat} {v : Int} (hv : v = wd Z 5) (h : ∀ k, k < 5 → wd Z k = wd Y (k + 1)) : rowc (upd (inn S Y 6) 5 v) = cells6 Z := by
  show _ = rowc (wd Z)
  refine row_congr fun j hj => ?_
  unfold upd inn
  by_cases h1 : j = 5
  · subst h1; rw [if_pos rfl, hv]
  · rw [if_neg h1, if_pos (by omega), h j (by omega)]
theorem first_lo (x y : Nat) (m : Int) : addLo (pLo x y) m 0 = mulLo x y m 0 := by
  unfold addLo pLo mulLo
  rw [← Int.natCast_mul]
  generalize x * y = p
  omega
theorem first_hi (x y : Nat) (m : Int) (hx : x < 18446744073709551616) (hy : y < 18446744073709551616) (hm : 0 ≤ m) (hm' : m < 18446744073709551616) :
    IntKind.u64.wrap (pHi x y + addHi (pLo x y) m 0) = mulHi x y m 0 := by
  have h := prod_le x y hx hy
  rw [IntKind.wrap_u64]
  unfold addHi pLo pHi mulHi
  rw [← Int.natCast_mul]
  generalize x * y = p at h ⊢
  omega
theorem call46 : ∀ args w, (callFunc 46 args).run Try.prog w = .ok (.enter 46 args) w := by intro args w; go_simp
theorem call44 : ∀ args w, (callFunc 44 args).run Try.prog w = .ok (.enter 44 args) w := by intro args w; go_simp
theorem call45 : ∀ args w, (callFunc 45 args).run Try.prog w = .ok (.enter 45 args) w := by intro args w; go_simp
end Rg
end Go.Proofs.Ytoagmdgmbkpghaa
