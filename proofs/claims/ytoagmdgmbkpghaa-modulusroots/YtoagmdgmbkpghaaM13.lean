/- Inv -/
import Derived.Test.YtoagmdgmbkpghaaM12
namespace Go.Proofs.Ytoagmdgmbkpghaa
open Go.RowKit
namespace Rg
theorem call21 : ∀ args w, (callFunc 21 args).run Try.prog w = .ok (.enter 21 args) w := by intro args w; go_simp
abbrev zero26 : List Value := [.int .u64 0, .int .u64 0, .int .u64 0, .int .u64 0, .int .u64 0, .int .u64 0, .int .u64 0, .int .u64 0, .int .u64 0, .int .u64 0, .int .u64 0, .int .u64 0, .int .u64 0, .int .u64 0, .int .u64 0, .int .u64 0, .int .u64 0, .int .u64 0, .int .u64 0, .int .u64 0, .int .u64 0, .int .u64 0, .int .u64 0, .int .u64 0, .int .i64 0, .bool false]
abbrev wkv (o r u v : Nat) (h : Int) (t : Bool) : Value := .agg (wkc o r u v h t).toArray

theorem ex_laidT {ρ : Operand → Value} {o : Oper} {x y : Operand} {g : Nat} {t : TypeId} {zs cs : List Value} {w : World} (hb : Blk w g zs) (hl : zs.length = cs.length) (h1 : cs.all Value.oneCell' = true) (hs : ∀ w, (sizeOf t).run Try.prog w = .ok cs.length w) (ho : o.op = .store t x y) (hx : ρ x = .pointer (some ⟨g, 0, none⟩)) (hy : ρ y = .agg cs.toArray) :
    (execOp ρ o).run Try.prog w = .ok .skip (w.setCells g 0 cs) := by
  have hk : ∀ k, k < cs.length → ∃ u, zs[k]? = some u := fun k hk => ⟨_, List.getElem?_eq_getElem (by omega)⟩
  have hst := run_storeCells_cells (P := Try.prog) g 0 cs 0 w (fun k hkl => by
    obtain ⟨u, hu⟩ := hk k hkl
    rw [show 0 + 0 + k = k by omega, (hb k u hu).1]; rfl) (fun k hkl => by
    obtain ⟨u, hu⟩ := hk k hkl
    rw [show 0 + 0 + k = k by omega]; exact (hb k u hu).2) (List.all_eq_true.1 h1)
  clear hb hk h1 hl
  simp only [execOp, ho, hx, hy]
  go_simp
theorem shift_neg' (a m : Nat) (ha : a < big) (h : m < 384) (w : World) :
    Calls Try.prog 18 #[N a, .int .i64 (-((m : Nat) : Int))] w fun e w' => e = .returned (N (a / 2 ^ m)) ∧ Below w.heap.size w w' := by
  by_cases h0 : m = 0
  · subst h0
    have := shift_up a 0 (by decide) w
    rw [Nat.pow_zero, Nat.mul_one, Nat.mod_eq_of_lt ha] at this
    rw [Nat.pow_zero, Nat.div_one]
    exact this
  · have := shift_down a (-(m : Int)) ha (by omega) (by omega) w
    rw [show (- -(m : Int)).toNat = m by omega] at this
    exact this
end Rg
end Go.Proofs.Ytoagmdgmbkpghaa
