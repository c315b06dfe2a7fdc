/- Numbers of 64 bits, as operations of a region. -/
import Derived.Test.YtjmbgchoioepjaaR2
import Derived.Test.YtjmbgchoioepjaaA16
namespace Go.Proofs.Ytjmbgchoioepjaa
open Go.RowKit
namespace Rg
abbrev U (n : Nat) : Value := .int .u64 (n : Int)
/-- A struct or an array, cell by cell. -/
abbrev V (l : List Value) : Value := .agg l.toArray
section
variable {ρ : Operand → Value} {o : Oper} {x y : Operand} {a b : Nat} {w : World}
theorem ex_addU (h : a + b < 18446744073709551616) (ho : o.op = .binOp .add 23 x y 23) (hx : ρ x = U a) (hy : ρ y = U b) : (execOp ρ o).run Try.prog w = .ok (.value (U (a + b))) w := by
  simp only [execOp, ho, hx, hy]
  clear ho hx hy
  go_simp
  rw [IntKind.wrap_u64]
  omega
theorem ex_subU (h : b ≤ a) (ha : a < 18446744073709551616) (ho : o.op = .binOp .sub 23 x y 23) (hx : ρ x = U a) (hy : ρ y = U b) : (execOp ρ o).run Try.prog w = .ok (.value (U (a - b))) w := by
  simp only [execOp, ho, hx, hy]
  clear ho hx hy
  go_simp
  rw [IntKind.wrap_u64]
  omega
theorem ex_mulU (h : a * b < 18446744073709551616) (ho : o.op = .binOp .mul 23 x y 23) (hx : ρ x = U a) (hy : ρ y = U b) : (execOp ρ o).run Try.prog w = .ok (.value (U (a * b))) w := by
  simp only [execOp, ho, hx, hy]
  clear ho hx hy
  go_simp
  rw [IntKind.wrap_u64, ← Int.natCast_mul]
  omega
theorem ex_remU (h : b ≠ 0) (ho : o.op = .binOp .rem 23 x y 23) (hx : ρ x = U a) (hy : ρ y = U b) : (execOp ρ o).run Try.prog w = .ok (.value (U (a % b))) w := by
  simp only [execOp, ho, hx, hy]
  clear ho hx hy
  go_simp
  rw [Int.tmod_eq_emod_of_nonneg (by omega)]
theorem ex_quoU (h : b ≠ 0) (ha : a < 18446744073709551616) (ho : o.op = .binOp .quo 23 x y 23) (hx : ρ x = U a) (hy : ρ y = U b) : (execOp ρ o).run Try.prog w = .ok (.value (U (a / b))) w := by
  simp only [execOp, ho, hx, hy]
  clear ho hx hy
  go_simp
  exact quo_wrap a b (a / b) rfl (Nat.lt_of_le_of_lt (Nat.div_le_self _ _) ha)
theorem ex_ltU (ho : o.op = .binOp .lss 23 x y 23) (hx : ρ x = U a) (hy : ρ y = U b) {t : Bool} (ht : decide (a < b) = t) : (execOp ρ o).run Try.prog w = .ok (.value (.bool t)) w := by
  subst ht
  simp only [execOp, ho, hx, hy]
  clear ho hx hy
  go_simp
theorem ex_gtU (ho : o.op = .binOp .gtr 23 x y 23) (hx : ρ x = U a) (hy : ρ y = U b) {t : Bool} (ht : decide (b < a) = t) : (execOp ρ o).run Try.prog w = .ok (.value (.bool t)) w := by
  subst ht
  simp only [execOp, ho, hx, hy]
  clear ho hx hy
  go_simp
theorem ex_geU (ho : o.op = .binOp .geq 23 x y 23) (hx : ρ x = U a) (hy : ρ y = U b) {t : Bool} (ht : decide (b ≤ a) = t) : (execOp ρ o).run Try.prog w = .ok (.value (.bool t)) w := by
  subst ht
  simp only [execOp, ho, hx, hy]
  clear ho hx hy
  go_simp
theorem ex_leU (ho : o.op = .binOp .leq 23 x y 23) (hx : ρ x = U a) (hy : ρ y = U b) {t : Bool} (ht : decide (a ≤ b) = t) : (execOp ρ o).run Try.prog w = .ok (.value (.bool t)) w := by
  subst ht
  simp only [execOp, ho, hx, hy]
  clear ho hx hy
  go_simp
theorem ex_eqU (ho : o.op = .binOp .eql 23 x y 23) (hx : ρ x = U a) (hy : ρ y = U b) {t : Bool} (ht : decide (a = b) = t) : (execOp ρ o).run Try.prog w = .ok (.value (.bool t)) w := by
  subst ht
  simp only [execOp, ho, hx, hy]
  clear ho hx hy
  go_simp
  by_cases h : a = b <;> simp [h] <;> omega
theorem ex_neU (ho : o.op = .binOp .neq 23 x y 23) (hx : ρ x = U a) (hy : ρ y = U b) {t : Bool} (ht : decide (a ≠ b) = t) : (execOp ρ o).run Try.prog w = .ok (.value (.bool t)) w := by
  subst ht
  simp only [execOp, ho, hx, hy]
  clear ho hx hy
  go_simp
  by_cases h : a = b <;> simp [h] <;> omega
theorem ex_shrU {k : Nat} (hk : k < 64) (ho : o.op = .binOp .shr 23 x y 3) (hx : ρ x = U a) (hy : ρ y = .int .i64 (k : Int)) : (execOp ρ o).run Try.prog w = .ok (.value (U (a / 2 ^ k))) w := by
  simp only [execOp, ho, hx, hy]
  clear ho hx hy
  have hs := shift_shr_any .u64 .i64 (a : Int) (k : Int) (by omega)
  have e : min ((k : Int).toNat) IntKind.u64.bits = k := by rw [Int.toNat_natCast]; show min k 64 = k; omega
  rw [e] at hs
  go_simp
theorem ex_shr1 {ik : IntKind} {t : TypeId} (ho : o.op = .binOp .shr 23 x y t) (hx : ρ x = U a) (hy : ρ y = .int ik 1) : (execOp ρ o).run Try.prog w = .ok (.value (U (a / 2))) w := by
  simp only [execOp, ho, hx, hy]
  clear ho hx hy
  cases ik <;> go_simp
theorem ex_and1 (ho : o.op = .binOp .and 23 x y 23) (ha : a < 18446744073709551616) (hx : ρ x = U a) (hy : ρ y = U 1) : (execOp ρ o).run Try.prog w = .ok (.value (U (a % 2))) w := by
  simp only [execOp, ho, hx, hy]
  clear ho hx hy
  have e := bits_and_u64_nat a 1 ha (by decide)
  rw [show a &&& 1 = a % 2 from Nat.and_one_is_mod a] at e
  go_simp
  exact e
end
end Rg
end Go.Proofs.Ytjmbgchoioepjaa
