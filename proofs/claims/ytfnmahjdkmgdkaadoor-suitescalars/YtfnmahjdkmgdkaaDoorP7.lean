/- Texts of the proof, joined. -/
import Derived.Test.YtfnmahjdkmgdkaaDoorP6
import Derived.Laws.BytesArg
import Derived.Laws.Bits64b
import Derived.Laws.Shifts
import Derived.Laws.Unary
import Derived.RowKit
import Derived.Laws.Externs
import Derived.Laws.BitsAll
import Derived.WalkKit
import Derived.WalkSpells
import Derived.Laws.Build
import Derived.Laws.Pointers
section
namespace Go.Proofs.YtfnmahjdkmgdkaaDoor
open Go.RowKit
namespace Rg
namespace Lt
/-- Two points' cells. -/
abbrev p2 (a b : Nat) (z : Bool) (a' b' : Nat) (z' : Bool) : List Value := [U a, U b, .bool z, U a', U b', .bool z']
theorem rounds_in {P : Program} {c : Code} {Q : Exit → Act → World → Prop} {n : Nat} {a : Act} {w : World} (h : c.wp P (Exit.then (Code.rounds P c Q n) Q) a w) : Code.rounds P c Q (n + 1) a w := h
/-- What a suite is. -/
structure Kd (s : Int) (p r c gx gy : Nat) : Prop where
  pr : Pr p
  rb : r < 18446744073709551616
  cb : c < 18446744073709551616
  kind : ∀ w, Calls Tryd.prog 82 #[.int .i64 s] w fun e w' => e = .returned (.tuple #[V (kd p r c gx gy), .int .i64 0]) ∧ Below w.heap.size w w'
theorem kd_1 : Kd 1 786251 65521 12 9723 164643 := ⟨⟨by decide, by decide⟩, by decide, by decide, kindOf_1⟩
theorem kd_2 : Kd 2 1152921504606846223 72057594037927889 16 613740293506734924 666621259561003659 := ⟨⟨by decide, by decide⟩, by decide, by decide, kindOf_2⟩
theorem call82 : ∀ args w, (callFunc 82 args).run Tryd.prog w = .ok (.enter 82 args) w := by intro args w; go_simp
section
variable {s : Int} {p r c gx gy : Nat}
set_option maxRecDepth 100000 in
theorem Order_ok (k : Kd s p r c gx gy) (w : World) :
    Calls Tryd.prog 53 #[.int .i64 s] w fun e w' => e = .returned (.tuple #[U r, .int .i64 0]) ∧ Below w.heap.size w w' := by
  have H0 : Hid (_ ∧ _) := ⟨Mm.nil w, Below.refl w.heap.size w⟩
  go_enter Tryd.func53, Tryd.ntmps53
  refine wp_seq ?_
  refine walk_seqB 2 [.quiet (U 0), .quiet (.int .i64 0)] H0 ?ho1 ?he1
  case ho1 => exact ak (fun _ => ⟨rfl, fun _ _ => rfl⟩) (ak (fun _ => ⟨rfl, fun _ _ => rfl⟩) trivial)
  intro _ w1 H1
  refine rest0 rfl (then_normal (wp_seq ?_))
  refine walk_seqA 8 [.quiet (.int .i64 s), .call (.tuple #[.agg (kd p r c gx gy).toArray, .int .i64 0]), .quiet (.tuple #[.agg (kd p r c gx gy).toArray, .int .i64 0]), .quiet (.agg (kd p r c gx gy).toArray), .quiet (.int .i64 0), .made (kd 0 0 0 0 0) 105, .laid 5 (kd 0 0 0 0 0) (kd p r c gx gy), .quiet (.int .i64 0)] (sB H1) ?ho2 ?he2 (hL := ?hL2)
  case hL2 => exact ⟨⟨_, rfl⟩, trivial⟩
  case ho2 => exact ak (fun _ => ⟨rfl, fun _ _ => rfl⟩) (ak (fun γ => ⟨rfl, fun w' h => ⟨82, #[.int .i64 s], exec_call rfl call82 rfl (mpn rfl), k.kind w'⟩⟩) (ak (fun _ => ⟨rfl, fun _ _ => rfl⟩) (ak (by refine fun γ => ⟨rfl, fun w' h => ?_⟩; clear h; go_simp) (ak (by refine fun γ => ⟨rfl, fun w' h => ?_⟩; clear h; go_simp) (ak (fun γ => ⟨rfl, fun w' => ex_made72 rfl⟩) (ak (fun γ => ⟨rfl, rfl, rfl, fun w' h => ex_laidT h rfl rfl Tryd.sizeOf105 rfl rfl rfl⟩) (ak (fun _ => ⟨rfl, fun _ _ => rfl⟩) trivial)))))))
  intro γ w2 l hM hl
  have H2 : Hid (Mm w2 [(γ 5, kd p r c gx gy)] ∧ _) := growB H1 hM (Nat.le_refl _) hl [5] rfl (by decide)
  have o2_5 := ownB H1 hM (Nat.le_refl _) hl (i := 5) rfl
  clear hM hl l H1
  generalize γ 5 = γ2_5 at H2 o2_5 ⊢
  clear γ
  refine rest0 rfl (then_normal (wp_seq ?_))
  refine walk_seqB 5 [.quiet (PT γ2_5 1), .quiet (U r), .quiet (.int .i64 0), .quiet (U r), .quiet (.int .i64 0)] H2 ?ho3 ?he3
  case ho3 => exact ak (by refine fun γ => ⟨rfl, fun w' h => ?_⟩; clear h; go_simp) (ak (fun γ => ⟨rfl, fun w' h => ex_loadC h 0 rfl rfl rfl Tryd.isAgg22 rfl⟩) (ak (fun _ => ⟨rfl, fun _ _ => rfl⟩) (ak (fun _ => ⟨rfl, fun _ _ => rfl⟩) (ak (fun _ => ⟨rfl, fun _ _ => rfl⟩) trivial))))
  intro _ w3 H3
  clear H2
  refine rest0 rfl (then_normal (wp_ret ?_))
  repeat (first | refine then_ret ?_ | refine block_ret ?_)
  refine bodyPost_ret (v := .tuple #[U r, .int .i64 0]) (by simp [results, Tryd.results53, go_sem, *]) rfl ?_
  exact ⟨rfl, H3.out.2⟩
set_option maxRecDepth 100000 in
theorem Order_no (s : Int) (h1 : s ≠ 1) (h2 : s ≠ 2) (w : World) :
    Calls Tryd.prog 53 #[.int .i64 s] w fun e w' => e = .returned (.tuple #[U 0, .int .i64 2]) ∧ Below w.heap.size w w' := by
  have H0 : Hid (_ ∧ _) := ⟨Mm.nil w, Below.refl w.heap.size w⟩
  go_enter Tryd.func53, Tryd.ntmps53
  refine wp_seq ?_
  refine walk_seqB 2 [.quiet (U 0), .quiet (.int .i64 0)] H0 ?ho1 ?he1
  case ho1 => exact ak (fun _ => ⟨rfl, fun _ _ => rfl⟩) (ak (fun _ => ⟨rfl, fun _ _ => rfl⟩) trivial)
  intro _ w1 H1
  refine rest0 rfl (then_normal (wp_seq ?_))
  refine walk_seqA 8 [.quiet (.int .i64 s), .call (.tuple #[.agg (kd 0 0 0 0 0).toArray, .int .i64 2]), .quiet (.tuple #[.agg (kd 0 0 0 0 0).toArray, .int .i64 2]), .quiet (.agg (kd 0 0 0 0 0).toArray), .quiet (.int .i64 2), .made (kd 0 0 0 0 0) 105, .laid 5 (kd 0 0 0 0 0) (kd 0 0 0 0 0), .quiet (.int .i64 2)] (sB H1) ?ho2 ?he2 (hL := ?hL2)
  case hL2 => exact ⟨⟨_, rfl⟩, trivial⟩
  case ho2 => exact ak (fun _ => ⟨rfl, fun _ _ => rfl⟩) (ak (fun γ => ⟨rfl, fun w' h => ⟨82, #[.int .i64 s], exec_call rfl call82 rfl (mpn rfl), kindOf_no s h1 h2 w'⟩⟩) (ak (fun _ => ⟨rfl, fun _ _ => rfl⟩) (ak (by refine fun γ => ⟨rfl, fun w' h => ?_⟩; clear h; go_simp) (ak (by refine fun γ => ⟨rfl, fun w' h => ?_⟩; clear h; go_simp) (ak (fun γ => ⟨rfl, fun w' => ex_made72 rfl⟩) (ak (fun γ => ⟨rfl, rfl, rfl, fun w' h => ex_laidT h rfl rfl Tryd.sizeOf105 rfl rfl rfl⟩) (ak (fun _ => ⟨rfl, fun _ _ => rfl⟩) trivial)))))))
  intro γ w2 l hM hl
  have H2 : Hid (Mm w2 [(γ 5, kd 0 0 0 0 0)] ∧ _) := growB H1 hM (Nat.le_refl _) hl [5] rfl (by decide)
  have o2_5 := ownB H1 hM (Nat.le_refl _) hl (i := 5) rfl
  clear hM hl l H1
  generalize γ 5 = γ2_5 at H2 o2_5 ⊢
  clear γ
  refine rest0 rfl (then_normal (wp_seq ?_))
  refine walk_seqB 5 [.quiet (PT γ2_5 1), .quiet (U 0), .quiet (.int .i64 2), .quiet (U 0), .quiet (.int .i64 2)] H2 ?ho3 ?he3
  case ho3 => exact ak (by refine fun γ => ⟨rfl, fun w' h => ?_⟩; clear h; go_simp) (ak (fun γ => ⟨rfl, fun w' h => ex_loadC h 0 rfl rfl rfl Tryd.isAgg22 rfl⟩) (ak (fun _ => ⟨rfl, fun _ _ => rfl⟩) (ak (fun _ => ⟨rfl, fun _ _ => rfl⟩) (ak (fun _ => ⟨rfl, fun _ _ => rfl⟩) trivial))))
  intro _ w3 H3
  clear H2
  refine rest0 rfl (then_normal (wp_ret ?_))
  repeat (first | refine then_ret ?_ | refine block_ret ?_)
  refine bodyPost_ret (v := .tuple #[U 0, .int .i64 2]) (by simp [results, Tryd.results53, go_sem, *]) rfl ?_
  exact ⟨rfl, H3.out.2⟩
end
end Lt
end Rg
end Go.Proofs.YtfnmahjdkmgdkaaDoor
end
section
namespace Go.Proofs.YtfnmahjdkmgdkaaDoor
open Go.RowKit
namespace NT
theorem prm_65521 : Prm 65521 := prm_trial 65521 256 (by decide) (by decide) (by decide +kernel)
theorem prm_2192917 : Prm 2192917 := prm_trial 2192917 1481 (by decide) (by decide) (by decide +kernel)
theorem prm_6868571 : Prm 6868571 := prm_trial 6868571 2621 (by decide) (by decide) (by decide +kernel)
theorem fac_72057594037927889 : ∀ d, Prm d → d ∣ 72057594037927889 → 15062206111607 ∣ d - 1 := by
  intro d hd hdN
  refine pockp (N := 72057594037927889) (M := 72057594037927888) (F := 15062206111607) (a := 2) [2192917, 6868571] (by decide) (by decide +kernel) hd hdN (by decide +kernel) ?_ ?_
  · intro t h
    have e : 15062206111607 = (2192917 * 6868571) := by decide
    rw [e]
    exact Nat.Coprime.mul_left ((h 2192917 (by decide))) ((h 6868571 (by decide)))
  · intro q hq
    simp only [List.mem_cons, List.not_mem_nil, or_false] at hq
    rcases hq with rfl | rfl
    · exact ⟨prm_2192917, by decide +kernel, by decide +kernel⟩
    · exact ⟨prm_6868571, by decide +kernel, by decide +kernel⟩
theorem prm_72057594037927889 : Prm 72057594037927889 := prm_of (by decide) (by decide) fac_72057594037927889
end NT
end Go.Proofs.YtfnmahjdkmgdkaaDoor
end
section
namespace Go.Proofs.YtfnmahjdkmgdkaaDoor
open Go.RowKit
namespace Rg
theorem inv_ex {n a : Nat} (ok : Ok n) (hg : Nat.gcd n a = 1) : ∃ x, x < n ∧ x * a % n = 1 := by
  have key : ∀ (m : Nat) (z : WS), z.o + z.r = m → WI n a z → ∃ x, x < n ∧ x * a % n = 1 := by
    intro m
    induction m using Nat.strongRecOn with
    | _ m ih =>
      intro z hz I
      obtain ⟨o, r, u, v, h, t⟩ := z
      simp only at hz
      by_cases hr : r = 0
      · subst hr
        have ho : o = 1 := by
          have h1 : Nat.gcd o 0 = Nat.gcd n a := I.gcd
          rw [Nat.gcd_zero_right] at h1
          rw [h1]; exact hg
        cases t with
        | true => exact ⟨_, Nat.mod_lt _ ok.pos, end_true ok I ho⟩
        | false => exact ⟨_, Nat.mod_lt _ ok.pos, end_false ok I ho⟩
      · have hrb : r < big := by have h1 : r ≤ n := I.rn; have := ok.big; omega
        obtain ⟨k, r1, hk, er, hr1, _⟩ := trailing_any hrb hr
        obtain ⟨p1, p2, _⟩ := I.facts hr er
        obtain ⟨i1, i2⟩ := I.next hr er hr1
        have hle : r1 ≤ r := by rw [er]; exact Nat.le_mul_of_pos_right _ (Nat.two_pow_pos k)
        by_cases hl : r1 < o
        · exact ih (r1 + (o - r1)) (by omega) _ rfl (i1 hl)
        · exact ih (o + (r1 - o)) (by omega) _ rfl (i2 hl)
  exact key _ ⟨n, a % n, 0, 1, 0, false⟩ rfl (WI.start ok)
theorem invm_spec {n a : Nat} (ok : Ok n) (hg : Nat.gcd n a = 1) : invm n a < n ∧ invm n a * a % n = 1 := by
  obtain ⟨x, hx, h1⟩ := inv_ex ok hg
  rw [invm_eq hx h1]
  exact ⟨hx, h1⟩
end Rg
end Go.Proofs.YtfnmahjdkmgdkaaDoor
end
section
namespace Go.Proofs.YtfnmahjdkmgdkaaDoor
open Go.RowKit
namespace Rg
set_option maxRecDepth 100000
open NT in
theorem prm_cop {r a : Nat} (hp : Prm r) (ha : a < r) (h0 : a ≠ 0) : Nat.gcd r a = 1 := hp.cop (fun d => absurd (Nat.le_of_dvd (by omega) d) (by omega))
theorem eq_refl24 {v : Nat} (h : v < big) (w : World) : (Op.equalIn 10000 24 (N v) (N v)).run Tryd.prog w = .ok true w := by
  rw [run_eqN v v h h, decide_eq_true rfl]
theorem su_great : Su 0 rB := ⟨fun w => order_great rB base_rB w, rB_ok⟩
theorem su_little : Su 1 65521 := ⟨fun w => order_little 1 0 65521 65521 (by decide) (Lt.Order_ok Lt.kd_1) (fun w => of_any 65521 (by decide) w) w, ⟨by decide, by decide, small_big (4 * 65521) (by decide)⟩⟩
theorem su_middle : Su 2 72057594037927889 := ⟨fun w => order_little 2 0 72057594037927889 72057594037927889 (by decide) (Lt.Order_ok Lt.kd_2) (fun w => of_any 72057594037927889 (by decide) w) w, ⟨by decide, by decide, small_big (4 * 72057594037927889) (by decide)⟩⟩
theorem su_none {s : Int} (h0 : s ≠ 0) (h1 : s ≠ 1) (h2 : s ≠ 2) : Sn s := fun w => order_little s 2 0 0 h0 (Lt.Order_no s h1 h2) (fun w => of_any 0 (by decide) w) w
end Rg
end Go.Proofs.YtfnmahjdkmgdkaaDoor
end
section
namespace Go.Proofs.YtfnmahjdkmgdkaaDoor
open Go.RowKit
namespace Rg
namespace Fs
abbrev U (n : Nat) : Value := .int .u64 (n : Int)
abbrev V (l : List Value) : Value := .agg l.toArray
theorem ex_loadT {ρ : Operand → Value} {o : Oper} {x : Operand} {g off n : Nat} {t : TypeId} {cs ms : List Value} {w : World} {l : List (Nat × List Value)} (h : Mm w l) (q : Nat) (hk : l[q]? = some (g, cs)) (ho : o.op = .load t x) (hx : ρ x = PT g off) (ha : ∀ w, (isAgg t).run Tryd.prog w = .ok true w) (hs : ∀ w, (sizeOf t).run Tryd.prog w = .ok n w) (hc : (cs.drop off).take n = ms) (hl : ms.length = n) :
    (execOp ρ o).run Tryd.prog w = .ok (.value (.agg ms.toArray)) w := by
  have hm := List.mem_of_getElem? hk
  have hcell := run_loadCells_list (P := Tryd.prog) (w := w) ⟨g, off, none⟩ ms (fun j v hv => by
    have e : cs[off + j]? = some v := by
      rw [← List.getElem?_drop]
      rw [← hc, List.getElem?_take] at hv
      split at hv
      · exact hv
      · cases hv
    have e2 := h.cell hm e
    rw [show (⟨g, off, none⟩ : Addr).add j = ⟨g, off + j, none⟩ from by unfold Addr.add; split <;> simp_all]
    exact e2)
  rw [hl] at hcell
  have hf : (loadCellsFrom ⟨g, off, none⟩ 0 n #[]).run Tryd.prog w = .ok ms.toArray w := hcell
  clear hcell hc hk hm h
  simp only [execOp, ho, hx]
  go_simp
theorem ex_loadC {ρ : Operand → Value} {o : Oper} {x : Operand} {g off : Nat} {t : TypeId} {v : Value} {cs : List Value} {w : World} {l : List (Nat × List Value)} (h : Mm w l) (k : Nat) (hk : l[k]? = some (g, cs)) (ho : o.op = .load t x) (hx : ρ x = PT g off) (ha : ∀ w, (isAgg t).run Tryd.prog w = .ok false w) (hc : cs[off]? = some v) :
    (execOp ρ o).run Tryd.prog w = .ok (.value v) w := by
  have c0 := h.cell (List.mem_of_getElem? hk) hc
  clear h hk hc
  simp only [execOp, ho, hx]
  go_simp
theorem ex_boxT {ρ : Operand → Value} {o : Oper} {x : Operand} {t : TypeId} {cs : List Value} {w : World} (ho : o.op = .box t x) (hx : ρ x = .agg cs.toArray) :
    (execOp ρ o).run Tryd.prog w = .ok (.value (.pointer (some ⟨w.heap.size, 0, none⟩))) (w.alloc (.cells cs.toArray t)) := by
  simp only [execOp, ho, hx]
  go_simp
theorem ex_storeT {ρ : Operand → Value} {o : Oper} {x y : Operand} {g off : Nat} {t : TypeId} {cs vs : List Value} {w : World} {l : List (Nat × List Value)} (h : Mm w l) (q : Nat) (hk : l[q]? = some (g, cs)) (ho : o.op = .store t x y) (hx : ρ x = PT g off) (hy : ρ y = .agg vs.toArray) (hs : ∀ w, (sizeOf t).run Tryd.prog w = .ok vs.length w) (h1 : vs.all Value.oneCell' = true) (hb : off + vs.length ≤ cs.length) :
    (execOp ρ o).run Tryd.prog w = .ok .skip (w.setCells g off vs) := by
  have hm := List.mem_of_getElem? hk
  have hq : ∀ j, j < vs.length → ∃ u, cs[off + j]? = some u := fun j hj => ⟨_, List.getElem?_eq_getElem (by omega)⟩
  have hst := run_storeCells_cells (P := Tryd.prog) g off vs 0 w (fun j hj => by
    obtain ⟨u, hu⟩ := hq j hj
    rw [show off + 0 + j = off + j by omega, h.cell hm hu]; rfl) (fun j hj => by
    obtain ⟨u, hu⟩ := hq j hj
    rw [show off + 0 + j = off + j by omega]; exact h.free hm hu) (List.all_eq_true.1 h1)
  clear h hm hq hb hk
  simp only [execOp, ho, hx, hy]
  go_simp
theorem var_T {g n : Nat} {t : TypeId} {cs : List Value} {w : World} {l : List (Nat × List Value)} (h : Mm w l) (q : Nat) (hk : l[q]? = some (g, cs)) (ha : ∀ w, (isAgg t).run Tryd.prog w = .ok true w) (hs : ∀ w, (sizeOf t).run Tryd.prog w = .ok n w) (hn : cs.length = n) : (loadVar t ⟨g, 0, none⟩).run Tryd.prog w = .ok (.agg cs.toArray) w := by
  have hm := List.mem_of_getElem? hk
  have hcell := run_loadCells_list (P := Tryd.prog) (w := w) ⟨g, 0, none⟩ cs (fun j v hv => by
    have e2 := h.cell hm hv
    rw [show (⟨g, 0, none⟩ : Addr).add j = ⟨g, j, none⟩ from by unfold Addr.add; split <;> simp_all]
    exact e2)
  rw [hn] at hcell
  have hf : (loadCellsFrom ⟨g, 0, none⟩ 0 n #[]).run Tryd.prog w = .ok cs.toArray w := hcell
  clear hcell h hk hm
  simp only [loadVar]
  go_simp
theorem ex_laidT {ρ : Operand → Value} {o : Oper} {x y : Operand} {g : Nat} {t : TypeId} {zs cs : List Value} {w : World} (hb : Blk w g zs) (hl : zs.length = cs.length) (h1 : cs.all Value.oneCell' = true) (hs : ∀ w, (sizeOf t).run Tryd.prog w = .ok cs.length w) (ho : o.op = .store t x y) (hx : ρ x = .pointer (some ⟨g, 0, none⟩)) (hy : ρ y = .agg cs.toArray) :
    (execOp ρ o).run Tryd.prog w = .ok .skip (w.setCells g 0 cs) := by
  have hk : ∀ k, k < cs.length → ∃ u, zs[k]? = some u := fun k hk => ⟨_, List.getElem?_eq_getElem (by omega)⟩
  have hst := run_storeCells_cells (P := Tryd.prog) g 0 cs 0 w (fun k hkl => by
    obtain ⟨u, hu⟩ := hk k hkl
    rw [show 0 + 0 + k = k by omega, (hb k u hu).1]; rfl) (fun k hkl => by
    obtain ⟨u, hu⟩ := hk k hkl
    rw [show 0 + 0 + k = k by omega]; exact (hb k u hu).2) (List.all_eq_true.1 h1)
  clear hb hk h1 hl
  simp only [execOp, ho, hx, hy]
  go_simp
def slotfn (l : List Value) (d : Nat) : Value := l.getD d undef
def an (a b : Nat) : Nat := (a &&& b) % 4294967296
def c64 (a : Nat) : Nat := a % 18446744073709551616
section
variable {ρ : Operand → Value} {o : Oper} {x y : Operand} {a b k : Nat} {w : World}
theorem ex_add64 (ho : o.op = .binOp .add 22 x y 22) (hx : ρ x = U a) (hy : ρ y = U b) : (execOp ρ o).run Tryd.prog w = .ok (.value (U (c64 (a + b)))) w := by
  simp only [execOp, ho, hx, hy]
  clear ho hx hy
  go_simp
  rw [IntKind.wrap_u64]
  unfold c64
  omega
theorem ex_mul64 (ho : o.op = .binOp .mul 22 x y 22) (hx : ρ x = U a) (hy : ρ y = U b) : (execOp ρ o).run Tryd.prog w = .ok (.value (U (c64 (a * b)))) w := by
  simp only [execOp, ho, hx, hy]
  clear ho hx hy
  go_simp
  rw [IntKind.wrap_u64, ← Int.natCast_mul]
  unfold c64
  omega
end
/-- A row of numbers of one kind. -/
def ints (ik : IntKind) (f : Nat → Nat) (n : Nat) : List Value := (List.range n).map fun j => .int ik (f j : Int)
theorem ints_len (ik : IntKind) (f : Nat → Nat) (n : Nat) : (ints ik f n).length = n := by simp [ints]
theorem ints_get (ik : IntKind) (f : Nat → Nat) {n j : Nat} (h : j < n) : (ints ik f n)[j]? = some (.int ik (f j : Int)) := by
  unfold ints
  rw [List.getElem?_map, List.getElem?_eq_getElem (by simpa using h), List.getElem_range]
  rfl
theorem ints_none (ik : IntKind) (f : Nat → Nat) {n j : Nat} (h : n ≤ j) : (ints ik f n)[j]? = none := List.getElem?_eq_none (by rw [ints_len]; exact h)
theorem ints_all (ik : IntKind) (f : Nat → Nat) (n : Nat) : (ints ik f n).all Value.oneCell' = true := by
  rw [List.all_eq_true]
  intro v hv
  obtain ⟨j, _, rfl⟩ := List.mem_map.1 hv
  rfl
theorem ints_congr {ik : IntKind} {f f' : Nat → Nat} {n : Nat} (h : ∀ j, j < n → f j = f' j) : ints ik f n = ints ik f' n := by
  unfold ints
  exact List.map_congr_left fun j hj => by rw [h j (by simpa using hj)]
def up (f : Nat → Nat) (k v : Nat) : Nat → Nat := fun j => if j = k then v else f j
theorem ints_patch (ik : IntKind) (f : Nat → Nat) {n : Nat} (j v : Nat) (h : j < n) : patch (ints ik f n) j [.int ik (v : Int)] = ints ik (up f j v) n := by
  apply List.ext_getElem?
  intro k
  rw [patch_get _ _ _ (by rw [ints_len]; simp; omega)]
  by_cases hk : k < n
  · rw [ints_get _ _ hk, ints_get _ _ hk]
    unfold up
    by_cases e : k = j
    · rw [if_pos (by simp; omega), if_pos e, e]
      simp
    · rw [if_neg (by simp; omega), if_neg e]
  · rw [if_neg (by simp; omega), ints_none _ _ (by omega), ints_none _ _ (by omega)]
theorem ints_whole (ik : IntKind) (f : Nat → Nat) (n : Nat) : ((ints ik f n).drop 0).take n = ints ik f n := by
  rw [List.drop_zero, List.take_of_length_le (by rw [ints_len]; omega)]
theorem ints_patch0 (ik : IntKind) (f f' : Nat → Nat) (n : Nat) : patch (ints ik f n) 0 (ints ik f' n) = ints ik f' n := by
  apply List.ext_getElem?
  intro k
  rw [patch_get _ _ _ (by rw [ints_len, ints_len]; omega)]
  by_cases hk : k < n
  · rw [if_pos (by rw [ints_len]; omega), Nat.sub_zero]
  · rw [if_neg (by rw [ints_len]; omega), ints_none _ _ (by omega), ints_none _ _ (by omega)]
end Fs
end Rg
end Go.Proofs.YtfnmahjdkmgdkaaDoor
end
section
namespace Go.Proofs.YtfnmahjdkmgdkaaDoor
open Go.RowKit
namespace Rg
section
variable {P : Program} {ops : Array Oper} {ks : List Kind} {a₀ : Act} {w₀ : World} {Q : Exit → Act → World → Prop}
end
end Rg
end Go.Proofs.YtfnmahjdkmgdkaaDoor
end
section
namespace Go.Proofs.YtfnmahjdkmgdkaaDoor
open Go.RowKit
namespace Rg
section
variable {P : Program} {ops : Array Oper} {a₀ : Act} {Q : Exit → Act → World → Prop}
/-- Others than the first one do not hang on what it will answer. -/
theorem Agree.other {n : Nat} {v v' : Value} {qs : List Kind} (hO : Orderly ops (.call v :: qs) n) (hO' : Orderly ops (.call v' :: qs) n) (hn : n = a₀.tmps.size) {l : Array Bool} {γ : Nat → Nat} {a : Act} (h : Agree ops (.call v :: qs) a₀ l γ a) (h0 : l.getD 0 false = false) : Agree ops (.call v' :: qs) a₀ l γ a := by
  refine ⟨h.defers, h.size, fun d hd => ?_⟩
  rw [h.slots d hd]
  by_cases hw : ∃ (j : Nat) (oj : Oper), ops[j]? = some oj ∧ oj.dst = some d
  · obtain ⟨j, oj, hj, hdj⟩ := hw
    have hl := hd j oj hj hdj
    cases j with
    | zero => rw [h0] at hl; cases hl
    | succ j =>
      obtain ⟨kj, hkj⟩ := kind_at hO hj
      have hkj' : (Kind.call v' :: qs)[j + 1]? = some kj := by simpa using hkj
      rw [fill_one hO hn γ hj hkj hdj, fill_one hO' hn γ hj hkj' hdj]
  · have hno : ∀ o' ∈ ops.toList, o'.dst ≠ some d := fun o' ho' hd' => by
      obtain ⟨j, hj, ej⟩ := List.getElem_of_mem ho'
      exact hw ⟨j, o', by rw [← Array.getElem?_toList, List.getElem?_eq_getElem hj, ej], hd'⟩
    rw [fill_other γ d 0 _ _ _ hno, fill_other γ d 0 _ _ _ hno]
end
end Rg
end Go.Proofs.YtfnmahjdkmgdkaaDoor
end
section
namespace Go.Proofs.YtfnmahjdkmgdkaaDoor
namespace Rg
namespace Fs
set_option maxRecDepth 100000
theorem mg_low {a b t c : Nat} : (((a * b) % 18446744073709551616 + t) % 18446744073709551616 + c) % 18446744073709551616 = (a * b + t + c) % 18446744073709551616 := by
  generalize a * b = m
  omega
theorem mg_high {a b t c : Nat} (ha : a < 18446744073709551616) (hb : b < 18446744073709551616) (ht : t < 18446744073709551616) (hc : c < 18446744073709551616) : (((a * b) / 18446744073709551616 + ((a * b) % 18446744073709551616 + t) / 18446744073709551616) % 18446744073709551616 + (((a * b) % 18446744073709551616 + t) % 18446744073709551616 + c) / 18446744073709551616) % 18446744073709551616 = (a * b + t + c) / 18446744073709551616 := by
  have h : a * b ≤ 18446744073709551615 * 18446744073709551615 := Nat.mul_le_mul (by omega) (by omega)
  generalize a * b = m at h ⊢
  omega
theorem mg_top {a b t c : Nat} (ha : a < 18446744073709551616) (hb : b < 18446744073709551616) (ht : t < 18446744073709551616) (hc : c < 18446744073709551616) : (a * b + t + c) / 18446744073709551616 < 18446744073709551616 := by
  have h : a * b ≤ 18446744073709551615 * 18446744073709551615 := Nat.mul_le_mul (by omega) (by omega)
  generalize a * b = m at h ⊢
  omega
/-- The number of n words. -/
def gv (f : Nat → Nat) : Nat → Nat
  | 0 => 0
  | n + 1 => gv f n + f n * 18446744073709551616 ^ n
theorem gv_cg {f g : Nat → Nat} : ∀ n, (∀ i, i < n → f i = g i) → gv f n = gv g n
  | 0, _ => rfl
  | n + 1, h => by
    unfold gv
    rw [gv_cg n (fun i hi => h i (by omega)), h n (by omega)]
theorem gv_tail (f : Nat → Nat) : ∀ n, gv f (n + 1) = f 0 + 18446744073709551616 * gv (fun i => f (i + 1)) n
  | 0 => by
    show 0 + f 0 * 18446744073709551616 ^ 0 = f 0 + 18446744073709551616 * 0
    rw [Nat.pow_zero]
    omega
  | n + 1 => by
    rw [show gv f (n + 1 + 1) = gv f (n + 1) + f (n + 1) * 18446744073709551616 ^ (n + 1) from rfl, gv_tail f n, show gv (fun i => f (i + 1)) (n + 1) = gv (fun i => f (i + 1)) n + f (n + 1) * 18446744073709551616 ^ n from rfl, Nat.mul_add, Nat.pow_succ, Nat.add_assoc]
    congr 2
    rw [← Nat.mul_assoc, Nat.mul_comm]
theorem gv_lt {f : Nat → Nat} : ∀ n, (∀ i, i < n → f i < 18446744073709551616) → gv f n < 18446744073709551616 ^ n
  | 0, _ => by show 0 < 1; decide
  | n + 1, h => by
    have h1 := gv_lt n (fun i hi => h i (by omega))
    have h2 := h n (by omega)
    unfold gv
    rw [Nat.pow_succ]
    have h3 : (f n + 1) * 18446744073709551616 ^ n ≤ 18446744073709551616 * 18446744073709551616 ^ n := Nat.mul_le_mul_right _ (by omega)
    rw [Nat.add_mul, Nat.one_mul] at h3
    rw [Nat.mul_comm (18446744073709551616 ^ n)]
    omega
/-- A row's carry. -/
def rwc (a : Nat) (b t : Nat → Nat) : Nat → Nat
  | 0 => 0
  | i + 1 => (a * b i + t i + rwc a b t i) / 18446744073709551616
def rwl (a : Nat) (b t : Nat → Nat) (i : Nat) : Nat := (a * b i + t i + rwc a b t i) % 18446744073709551616
theorem rwc_lt {a : Nat} {b t : Nat → Nat} (ha : a < 18446744073709551616) : ∀ n, (∀ i, i < n → b i < 18446744073709551616) → (∀ i, i < n → t i < 18446744073709551616) → rwc a b t n < 18446744073709551616
  | 0, _, _ => by show 0 < 18446744073709551616; decide
  | n + 1, hb, ht => mg_top ha (hb n (by omega)) (ht n (by omega)) (rwc_lt ha n (fun i hi => hb i (by omega)) (fun i hi => ht i (by omega)))
theorem rwl_val (a : Nat) (b t : Nat → Nat) : ∀ n, gv (rwl a b t) n + rwc a b t n * 18446744073709551616 ^ n = a * gv b n + gv t n
  | 0 => by show 0 + 0 * 18446744073709551616 ^ 0 = a * 0 + 0; omega
  | n + 1 => by
    have h := rwl_val a b t n
    have e : rwl a b t n + 18446744073709551616 * rwc a b t (n + 1) = a * b n + t n + rwc a b t n := by
      show (a * b n + t n + rwc a b t n) % 18446744073709551616 + 18446744073709551616 * ((a * b n + t n + rwc a b t n) / 18446744073709551616) = _
      exact Nat.mod_add_div _ _
    have e2 : rwl a b t n * 18446744073709551616 ^ n + rwc a b t (n + 1) * 18446744073709551616 ^ (n + 1) = (a * b n) * 18446744073709551616 ^ n + t n * 18446744073709551616 ^ n + rwc a b t n * 18446744073709551616 ^ n := by
      rw [← Nat.add_mul, ← Nat.add_mul, ← e, Nat.add_mul, Nat.pow_succ]
      congr 1
      rw [Nat.mul_comm (18446744073709551616 ^ n) 18446744073709551616, ← Nat.mul_assoc]
      congr 1
      exact Nat.mul_comm _ _
    have e3 : a * gv b (n + 1) = a * gv b n + (a * b n) * 18446744073709551616 ^ n := by
      rw [show gv b (n + 1) = gv b n + b n * 18446744073709551616 ^ n from rfl, Nat.mul_add, Nat.mul_assoc]
    have e4 : gv t (n + 1) = gv t n + t n * 18446744073709551616 ^ n := rfl
    have e5 : gv (rwl a b t) (n + 1) = gv (rwl a b t) n + rwl a b t n * 18446744073709551616 ^ n := rfl
    rw [e3, e4, e5]
    omega
/-- The row behind t + a b: eight words. -/
def rw8 (a : Nat) (b t : Nat → Nat) (i : Nat) : Nat := if i < 6 then rwl a b t i else if i = 6 then (t 6 + rwc a b t 6) % 18446744073709551616 else (t 7 + (t 6 + rwc a b t 6) / 18446744073709551616) % 18446744073709551616
theorem rw8_lt {a : Nat} {b t : Nat → Nat} (i : Nat) : rw8 a b t i < 18446744073709551616 := by
  unfold rw8 rwl
  split
  · exact Nat.mod_lt _ (by decide)
  · split
    · exact Nat.mod_lt _ (by decide)
    · exact Nat.mod_lt _ (by decide)
theorem rw8_val {a : Nat} {b t : Nat → Nat} (ha : a < 18446744073709551616) (hb : ∀ i, i < 6 → b i < 18446744073709551616) (ht : ∀ i, i < 7 → t i < 18446744073709551616) (h7 : t 7 < 18446744073709551615) : gv (rw8 a b t) 8 = a * gv b 6 + gv t 8 := by
  have h := rwl_val a b t 6
  have hc := rwc_lt ha 6 hb (fun i hi => ht i (by omega))
  have h6 := ht 6 (by omega)
  have e : gv (rw8 a b t) 6 = gv (rwl a b t) 6 := gv_cg 6 (fun i hi => if_pos hi)
  have e6 : rw8 a b t 6 = (t 6 + rwc a b t 6) % 18446744073709551616 := rfl
  have e7 : rw8 a b t 7 = t 7 + (t 6 + rwc a b t 6) / 18446744073709551616 := by
    show (t 7 + (t 6 + rwc a b t 6) / 18446744073709551616) % 18446744073709551616 = _
    omega
  have d1 : gv (rw8 a b t) 8 = gv (rw8 a b t) 6 + rw8 a b t 6 * 18446744073709551616 ^ 6 + rw8 a b t 7 * 18446744073709551616 ^ 7 := rfl
  have d2 : gv t 8 = gv t 6 + t 6 * 18446744073709551616 ^ 6 + t 7 * 18446744073709551616 ^ 7 := rfl
  rw [d1, d2, e, e6, e7]
  generalize gv (rwl a b t) 6 = x at h ⊢
  generalize rwc a b t 6 = c at h hc ⊢
  generalize a * gv b 6 = y at h ⊢
  generalize gv t 6 = z at h ⊢
  generalize t 6 = u at h6 ⊢
  generalize t 7 = v at h7 ⊢
  rw [show 18446744073709551616 ^ 7 = 18446744073709551616 ^ 6 * 18446744073709551616 from rfl]
  generalize (18446744073709551616 ^ 6 : Nat) = R at h ⊢
  have e3 := Nat.mod_add_div (u + c) 18446744073709551616
  generalize (u + c) % 18446744073709551616 = p at e3 ⊢
  generalize (u + c) / 18446744073709551616 = q at e3 ⊢
  have e4 : p * R + (v + q) * (R * 18446744073709551616) = (p + 18446744073709551616 * q) * R + v * (R * 18446744073709551616) := by
    rw [Nat.add_mul, Nat.add_mul]
    have : q * (R * 18446744073709551616) = 18446744073709551616 * q * R := by rw [Nat.mul_comm R, ← Nat.mul_assoc, Nat.mul_comm q]
    omega
  have e5 : (u + c) * R = u * R + c * R := Nat.add_mul _ _ _
  rw [Nat.add_assoc, e4, e3, e5]
  omega
/-- What is done for one word: a row of a word times b, a row that makes the lowest word 0, a word down. -/
def mgm (less : Nat) (r : Nat → Nat) : Nat := r 0 * less % 18446744073709551616
def mgs (less : Nat) (N b t : Nat → Nat) (a : Nat) (i : Nat) : Nat := if i = 7 then 0 else if i < 7 then rw8 (mgm less (rw8 a b t)) N (rw8 a b t) (i + 1) else rw8 (mgm less (rw8 a b t)) N (rw8 a b t) i
theorem mgs_lt {less : Nat} {N b t : Nat → Nat} {a : Nat} (i : Nat) : mgs less N b t a i < 18446744073709551616 := by
  unfold mgs
  split
  · decide
  · split
    · exact rw8_lt _
    · exact rw8_lt _
theorem mg_zero {n less x : Nat} (h : (n * less + 1) % 18446744073709551616 = 0) : (x * less % 18446744073709551616 * n + x) % 18446744073709551616 = 0 := by
  have e : (x * less % 18446744073709551616 * n + x) % 18446744073709551616 = (x * (n * less + 1)) % 18446744073709551616 := by
    rw [Nat.add_mod, Nat.mod_mul_mod, ← Nat.add_mod, Nat.mul_add, Nat.mul_one, Nat.mul_assoc, Nat.mul_comm less]
  rw [e, Nat.mul_mod, h]
  rfl
/-- One word: T' 2^64 = T + a b + m n; it stays below 2 n. -/
theorem mgs_val {less : Nat} {N b t : Nat → Nat} {a : Nat} (ha : a < 18446744073709551616) (hb : ∀ i, i < 6 → b i < 18446744073709551616) (hN : ∀ i, i < 6 → N i < 18446744073709551616) (ht : ∀ i, i < 7 → t i < 18446744073709551616) (h7 : t 7 = 0) (hl : (N 0 * less + 1) % 18446744073709551616 = 0) (hbN : gv b 6 < gv N 6) (hT : gv t 8 < 2 * gv N 6) :
    gv (mgs less N b t a) 8 * 18446744073709551616 = gv t 8 + a * gv b 6 + mgm less (rw8 a b t) * gv N 6 ∧ gv (mgs less N b t a) 8 < 2 * gv N 6 := by
  have v1 := rw8_val (a := a) (b := b) (t := t) ha hb ht (by omega)
  have hm : mgm less (rw8 a b t) < 18446744073709551616 := Nat.mod_lt _ (by decide)
  have ab : a * gv b 6 ≤ 18446744073709551615 * gv N 6 := Nat.mul_le_mul (by omega) (by omega)
  have NB := gv_lt 6 hN
  have h71 : rw8 a b t 7 < 18446744073709551615 := by
    show (t 7 + (t 6 + rwc a b t 6) / 18446744073709551616) % 18446744073709551616 < _
    have h6 := ht 6 (by omega)
    have hc := rwc_lt ha 6 hb (fun i hi => ht i (by omega))
    omega
  have v2 := rw8_val (a := mgm less (rw8 a b t)) (b := N) (t := rw8 a b t) hm hN (fun i _ => rw8_lt i) h71
  have z : rw8 (mgm less (rw8 a b t)) N (rw8 a b t) 0 = 0 := by
    show (mgm less (rw8 a b t) * N 0 + rw8 a b t 0 + 0) % 18446744073709551616 = 0
    rw [Nat.add_zero]
    exact mg_zero hl
  have v3 := gv_tail (rw8 (mgm less (rw8 a b t)) N (rw8 a b t)) 7
  rw [z, Nat.zero_add] at v3
  have v4 : gv (mgs less N b t a) 8 = gv (fun i => rw8 (mgm less (rw8 a b t)) N (rw8 a b t) (i + 1)) 7 := by
    show gv (mgs less N b t a) 7 + 0 * 18446744073709551616 ^ 7 = _
    rw [Nat.zero_mul, Nat.add_zero]
    exact gv_cg 7 (fun i hi => (if_neg (by omega)).trans (if_pos hi))
  have v5 : gv (mgs less N b t a) 8 * 18446744073709551616 = gv t 8 + a * gv b 6 + mgm less (rw8 a b t) * gv N 6 := by
    rw [v4, Nat.mul_comm, ← v3, v2, v1]
    omega
  refine ⟨v5, ?_⟩
  have mN : mgm less (rw8 a b t) * gv N 6 ≤ 18446744073709551615 * gv N 6 := Nat.mul_le_mul_right _ (by omega)
  have ab2 : a * gv b 6 ≤ 18446744073709551615 * (gv N 6 - 1) := Nat.mul_le_mul (by omega) (by omega)
  generalize gv (mgs less N b t a) 8 = x at v5 ⊢
  generalize a * gv b 6 = p at v5 ab ab2
  generalize mgm less (rw8 a b t) * gv N 6 = q at v5 mN
  omega
/-- After k words. -/
def mgt (less : Nat) (N a b : Nat → Nat) : Nat → Nat → Nat
  | 0 => fun _ => 0
  | k + 1 => mgs less N b (mgt less N a b k) (a k)
theorem mgt_lt {less : Nat} {N a b : Nat → Nat} (k i : Nat) : mgt less N a b k i < 18446744073709551616 := by
  cases k with
  | zero => show 0 < 18446744073709551616; decide
  | succ k => exact mgs_lt i
theorem mgt_7 (less : Nat) (N a b : Nat → Nat) (k : Nat) : mgt less N a b k 7 = 0 := by
  cases k with
  | zero => rfl
  | succ k => rfl
theorem gv_zero : ∀ n, gv (fun _ => 0) n = 0
  | 0 => rfl
  | n + 1 => by
    show gv (fun _ => 0) n + 0 * 18446744073709551616 ^ n = 0
    rw [gv_zero n, Nat.zero_mul]
theorem mgt_val {less : Nat} {N a b : Nat → Nat} (hb : ∀ i, i < 6 → b i < 18446744073709551616) (hN : ∀ i, i < 6 → N i < 18446744073709551616) (hl : (N 0 * less + 1) % 18446744073709551616 = 0) (hbN : gv b 6 < gv N 6) : ∀ k, (∀ i, i < k → a i < 18446744073709551616) → gv (mgt less N a b k) 8 < 2 * gv N 6 ∧ ∃ m, gv (mgt less N a b k) 8 * 18446744073709551616 ^ k = gv a k * gv b 6 + m * gv N 6
  | 0, _ => by
    refine ⟨by show gv (fun _ => 0) 8 < _; rw [gv_zero]; omega, 0, ?_⟩
    show gv (fun _ => 0) 8 * 18446744073709551616 ^ 0 = 0 * gv b 6 + 0 * gv N 6
    rw [gv_zero]
    omega
  | k + 1, ha => by
    obtain ⟨h1, m, h2⟩ := mgt_val hb hN hl hbN k (fun i hi => ha i (by omega))
    have h3 := mgs_val (less := less) (N := N) (b := b) (t := mgt less N a b k) (a := a k) (ha k (by omega)) hb hN (fun i _ => mgt_lt k i) (mgt_7 _ _ _ _ k) hl hbN h1
    refine ⟨h3.2, m + mgm less (rw8 (a k) b (mgt less N a b k)) * 18446744073709551616 ^ k, ?_⟩
    have h4 := h3.1
    show gv (mgs less N b (mgt less N a b k) (a k)) 8 * 18446744073709551616 ^ (k + 1) = (gv a k + a k * 18446744073709551616 ^ k) * gv b 6 + _
    rw [Nat.pow_succ, Nat.mul_comm (18446744073709551616 ^ k) 18446744073709551616, ← Nat.mul_assoc, h4]
    generalize gv (mgt less N a b k) 8 = x at h2 ⊢
    generalize mgm less (rw8 (a k) b (mgt less N a b k)) = y
    generalize (18446744073709551616 ^ k : Nat) = R at h2 ⊢
    rw [Nat.add_mul, Nat.add_mul, Nat.add_mul, Nat.add_mul, h2]
    have e1 : a k * gv b 6 * R = a k * R * gv b 6 := by rw [Nat.mul_assoc, Nat.mul_comm (gv b 6), ← Nat.mul_assoc]
    have e2 : y * gv N 6 * R = y * R * gv N 6 := by rw [Nat.mul_assoc, Nat.mul_comm (gv N 6), ← Nat.mul_assoc]
    omega
/-- Montgomery's product: below n, and times 2^384 it leaves what a b leaves. -/
theorem mont_val {less : Nat} {N a b : Nat → Nat} (ha : ∀ i, i < 6 → a i < 18446744073709551616) (hb : ∀ i, i < 6 → b i < 18446744073709551616) (hN : ∀ i, i < 6 → N i < 18446744073709551616) (hl : (N 0 * less + 1) % 18446744073709551616 = 0) (hbN : gv b 6 < gv N 6) :
    gv (mgt less N a b 6) 8 % gv N 6 * 18446744073709551616 ^ 6 % gv N 6 = gv a 6 * gv b 6 % gv N 6 := by
  obtain ⟨_, m, h⟩ := mgt_val hb hN hl hbN 6 ha
  rw [Nat.mod_mul_mod, h, Nat.add_mul_mod_self_right]
/-- Two such products, the second with what 2^768 leaves: the product. -/
theorem mont_two {n x y p s R Ri : Nat} (h1 : x * R % n = p % n) (h2 : y * R % n = x * s % n) (hs : s % n = R * R % n) (hR : R * Ri % n = 1 % n) : y % n = p % n := by
  have e1 : y * R % n = p * R % n := by
    rw [h2, Nat.mul_mod, hs, ← Nat.mul_mod, ← Nat.mul_assoc, Nat.mul_mod, h1, ← Nat.mul_mod]
  have e2 : ∀ z : Nat, z * R * Ri % n = z % n := fun z => by
    rw [Nat.mul_assoc, Nat.mul_mod, hR, ← Nat.mul_mod, Nat.mul_one]
  rw [← e2 y, Nat.mul_mod, e1, ← Nat.mul_mod, e2]
end Fs
end Rg
end Go.Proofs.YtfnmahjdkmgdkaaDoor
end
section
namespace Go.Proofs.YtfnmahjdkmgdkaaDoor
open Go.RowKit
namespace Rg
namespace Fs
set_option maxRecDepth 100000
section
variable {ρ : Operand → Value} {o : Oper} {x y : Operand} {g off j n : Nat} {w : World}
theorem ex_mk25 (ho : o.op = .alloc 24) : (execOp ρ o).run Tryd.prog w = .ok (.value (.pointer (some ⟨w.heap.size, 0, none⟩))) (w.alloc (.cells (ints .u64 (fun _ => 0) 6).toArray 24)) := by
  simp only [execOp, ho]
  go_simp
  rfl
theorem ex_ix_25 (ho : o.op = .indexAddr 24 x y) (hx : ρ x = PT g off) (hy : ρ y = .int .i64 ((j : Nat) : Int)) (hj : j < 6) : (execOp ρ o).run Tryd.prog w = .ok (.value (PT g (off + j))) w := by
  have h1 : (j : Int) < 6 := by omega
  simp only [execOp, ho, hx, hy]
  clear ho hx hy
  go_simp
theorem ex_ix0_25 (ho : o.op = .indexAddr 24 x y) (hx : ρ x = PT g 0) (hy : ρ y = .int .i64 ((j : Nat) : Int)) (hj : j < 6) : (execOp ρ o).run Tryd.prog w = .ok (.value (PT g j)) w := by
  have h := ex_ix_25 (w := w) ho hx hy hj
  rw [Nat.zero_add] at h
  exact h
theorem ex_mk63 (ho : o.op = .alloc 133) : (execOp ρ o).run Tryd.prog w = .ok (.value (.pointer (some ⟨w.heap.size, 0, none⟩))) (w.alloc (.cells (ints .u64 (fun _ => 0) 8).toArray 133)) := by
  simp only [execOp, ho]
  go_simp
  rfl
theorem ex_ix_63 (ho : o.op = .indexAddr 133 x y) (hx : ρ x = PT g off) (hy : ρ y = .int .i64 ((j : Nat) : Int)) (hj : j < 8) : (execOp ρ o).run Tryd.prog w = .ok (.value (PT g (off + j))) w := by
  have h1 : (j : Int) < 8 := by omega
  simp only [execOp, ho, hx, hy]
  clear ho hx hy
  go_simp
theorem ex_ix0_63 (ho : o.op = .indexAddr 133 x y) (hx : ρ x = PT g 0) (hy : ρ y = .int .i64 ((j : Nat) : Int)) (hj : j < 8) : (execOp ρ o).run Tryd.prog w = .ok (.value (PT g j)) w := by
  have h := ex_ix_63 (w := w) ho hx hy hj
  rw [Nat.zero_add] at h
  exact h
end
def plo (x y c : Nat) : Nat := (x + y + c) % 18446744073709551616
def phi (x y c : Nat) : Nat := (x + y + c) / 18446744073709551616
theorem add64N (x y c : Nat) (hc : c ≤ 1) (w : World) : (callFunc 64 #[U x, U y, U c]).run Tryd.prog w = .ok (.value (.tuple #[U (plo x y c), U (phi x y c)])) w := by
  have h := run_callFunc_extern Tryd.func64 (by kernel_rfl) (by kernel_rfl) (by kernel_rfl) (e := add64Entry) (by kernel_rfl) #[.int .u64 x, .int .u64 y, .int .u64 c] w
  rw [run_add64 x y c (by omega) (by omega) (by omega) (by omega)] at h
  rw [h]
  unfold plo phi
  have e1 : ((x : Int) + y + c) % 18446744073709551616 = (((x + y + c) % 18446744073709551616 : Nat) : Int) := by omega
  have e2 : ((x : Int) + y + c) / 18446744073709551616 = (((x + y + c) / 18446744073709551616 : Nat) : Int) := by omega
  rw [e1, e2]
  rfl
theorem mul64N (x y : Nat) (hx : x < 18446744073709551616) (hy : y < 18446744073709551616) (w : World) :
    Calls Tryd.prog 68 #[U x, U y] w fun e w' => e = .returned (.tuple #[U (x * y / 18446744073709551616), U (x * y % 18446744073709551616)]) ∧ Below w.heap.size w w' :=
  Calls.mono (Any.bits_Mul64 Tryd.lays264 x y hx hy w) (fun _ _ h => ⟨h.1, by rw [h.2]; exact Below.refl _ _⟩)
theorem ex_add64E {ρ : Operand → Value} {o : Oper} {x y : Operand} {a b v : Nat} {w : World} (h : c64 (a + b) = v) (ho : o.op = .binOp .add 22 x y 22) (hx : ρ x = U a) (hy : ρ y = U b) : (execOp ρ o).run Tryd.prog w = .ok (.value (U v)) w := by
  rw [← h]
  exact ex_add64 ho hx hy
/-- A row on its way. -/
def rwt (a : Nat) (b t : Nat → Nat) (i j : Nat) : Nat := if j < i then rwl a b t j else t j
theorem rwt_at (a : Nat) (b t : Nat → Nat) (i : Nat) : rwt a b t i i = t i := if_neg (Nat.lt_irrefl _)
theorem row_lo (a x t c : Nat) : plo (plo (a * x % 18446744073709551616) t 0) c 0 = (a * x + t + c) % 18446744073709551616 := by
  unfold plo
  rw [Nat.add_zero, Nat.add_zero]
  exact mg_low
theorem row_hi {a x t c : Nat} (ha : a < 18446744073709551616) (hx : x < 18446744073709551616) (ht : t < 18446744073709551616) (hc : c < 18446744073709551616) : c64 (c64 (a * x / 18446744073709551616 + phi (a * x % 18446744073709551616) t 0) + phi (plo (a * x % 18446744073709551616) t 0) c 0) = (a * x + t + c) / 18446744073709551616 := by
  unfold plo phi c64
  rw [Nat.add_zero, Nat.add_zero]
  exact mg_high ha hx ht hc
theorem rwt_succ (a : Nat) (b t : Nat → Nat) (i : Nat) : up (rwt a b t i) i (plo (plo (a * b i % 18446744073709551616) (rwt a b t i i) 0) (rwc a b t i) 0) = rwt a b t (i + 1) := by
  funext j
  rw [row_lo, rwt_at]
  unfold up rwt
  by_cases h : j = i
  · subst h
    rw [if_pos rfl, if_pos (Nat.lt_succ_self _)]
    rfl
  · rw [if_neg h]
    by_cases h2 : j < i
    · rw [if_pos h2, if_pos (by omega)]
    · rw [if_neg h2, if_neg (by omega)]
theorem rwc_succ {a : Nat} {b t : Nat → Nat} {i : Nat} (hi : i < 6) (ha : a < 18446744073709551616) (hb : ∀ i, i < 6 → b i < 18446744073709551616) (ht : ∀ i, i < 7 → t i < 18446744073709551616) : c64 (c64 (a * b i / 18446744073709551616 + phi (a * b i % 18446744073709551616) (rwt a b t i i) 0) + phi (plo (a * b i % 18446744073709551616) (rwt a b t i i) 0) (rwc a b t i) 0) = rwc a b t (i + 1) := by
  rw [rwt_at, row_hi ha (hb i hi) (ht i (by omega)) (rwc_lt ha i (fun j hj => hb j (by omega)) (fun j hj => ht j (by omega)))]
  rfl
theorem row_end (a : Nat) (b t : Nat → Nat) (j : Nat) (hj : j < 8) : up (up (rwt a b t 6) 6 (plo (rwt a b t 6 6) (rwc a b t 6) 0)) 7 (c64 (up (rwt a b t 6) 6 (plo (rwt a b t 6 6) (rwc a b t 6) 0) 7 + phi (rwt a b t 6 6) (rwc a b t 6) 0)) j = rw8 a b t j := by
  have e7 : up (rwt a b t 6) 6 (plo (rwt a b t 6 6) (rwc a b t 6) 0) 7 = t 7 := rfl
  rw [e7, rwt_at]
  unfold rw8 up plo phi c64
  by_cases h : j = 7
  · subst h
    rfl
  · rw [if_neg h]
    by_cases h2 : j = 6
    · subst h2
      rfl
    · rw [if_neg h2, if_pos (by omega)]
      exact if_pos (by omega)
set_option maxHeartbeats 2000000 in
set_option maxRecDepth 100000 in
theorem row_any (F b t : Nat → Nat) (g a : Nat) (ha : a < 18446744073709551616) (hb : ∀ i, i < 6 → b i < 18446744073709551616) (ht : ∀ i, i < 7 → t i < 18446744073709551616) (w : World) (hm : Mm w [(g, ints .u64 t 8)]) :
    Calls Tryd.prog 106 #[.agg (ints .u64 F 13).toArray, PT g 0, U a, .agg (ints .u64 b 6).toArray] w fun e w' => e = .returned (.tuple #[]) ∧ Mm w' [(g, ints .u64 (rw8 a b t) 8)] ∧ Kp g w w' := by
  have H0 : Hid (_ ∧ _) := ⟨hm, Kp.refl g w⟩
  clear hm
  go_enter Tryd.func106, Tryd.ntmps106
  refine wp_seq ?_
  refine walk_seqA 2 [.made (ints .u64 F 13) 81, .made (ints .u64 b 6) 24] (sB H0) ?ho1 ?he1
  case ho1 => exact ak (fun γ => ⟨rfl, fun w' => ex_boxT rfl rfl⟩) (ak (fun γ => ⟨rfl, fun w' => ex_boxT rfl rfl⟩) trivial)
  intro γ w1 l hM hl
  have H1 : Hid (Mm w1 [(γ 0, ints .u64 F 13), (γ 1, ints .u64 b 6), (g, ints .u64 t 8)] ∧ _) := growK H0 hM (Nat.le_refl _) hl [0, 1] rfl (by decide)
  have o1_0 := ownK H0 hM (Nat.le_refl _) hl (i := 0) rfl
  have o1_1 := ownK H0 hM (Nat.le_refl _) hl (i := 1) rfl
  clear hM hl l
  generalize γ 0 = γ1_0 at H1 o1_0 ⊢
  generalize γ 1 = γ1_1 at H1 o1_1 ⊢
  clear γ
  refine rest0 rfl (then_normal (wp_seq ?_))
  refine walk_seqA 1 [.quiet (U 0)] (sB H1) ?ho2 ?he2
  case ho2 => exact ak (fun _ => ⟨rfl, fun _ _ => rfl⟩) trivial
  intro γ w2 l hM hl
  have H2 := keepK H1 hM.below
  clear hM hl l H1 γ
  refine rest0 rfl (then_normal (wp_seq (wp_seq ?_)))
  refine walk_seqA 1 [.quiet (.int .i64 0)] (sB H2) ?ho3 ?he3
  case ho3 => exact ak (fun _ => ⟨rfl, fun _ _ => rfl⟩) trivial
  intro γ w3 l hM hl
  have H3 := keepK H2 hM.below
  clear hM hl l H2 γ
  refine rest0 rfl (then_normal (wp_block ?_))
  refine loop_ghost (α := Nat) (fun i0 a' w' => ∃ s0 : Nat → Value, a' = ⟨#[.agg (ints .u64 F 13).toArray, PT g 0, U a, .agg (ints .u64 b 6).toArray, PT γ1_0 0, undef, undef, PT γ1_1 0, U (rwc a b t i0), .int .i64 ((i0 : Nat) : Int), s0 10, s0 11, s0 12, undef, undef, s0 15, s0 16, s0 17, s0 18, s0 19, s0 20, s0 21, s0 22, s0 23, s0 24, s0 25, s0 26, s0 27, s0 28, s0 29, s0 30, s0 31, s0 32, s0 33, s0 34, s0 35, s0 36, s0 37, s0 38, s0 39, s0 40, s0 41, s0 42, s0 43, s0 44, s0 45, s0 46, s0 47, s0 48, s0 49, s0 50, s0 51, s0 52, s0 53, undef, undef, undef, undef, undef, undef, undef, undef, undef, undef, undef, undef, undef, undef, undef, undef, undef, undef, undef, undef, undef, undef], []⟩ ∧ (Mm w' [(γ1_0, ints .u64 F 13), (γ1_1, ints .u64 b 6), (g, ints .u64 (rwt a b t i0) 8)] ∧ Kp g w w') ∧ i0 ≤ 6) (fun i0 => 6 - i0) 0 ?st0 ?rd0
  case st0 => exact ⟨(slotfn [undef, undef, undef, undef, undef, undef, undef, undef, undef, undef, undef, undef, undef, undef, undef, undef, undef, undef, undef, undef, undef, undef, undef, undef, undef, undef, undef, undef, undef, undef, undef, undef, undef, undef, undef, undef, undef, undef, undef, undef, undef, undef, undef, undef, undef, undef, undef, undef, undef, undef, undef, undef, undef, undef]), rfl, ⟨H3.out.1, H3.out.2⟩, by omega⟩
  intro i0 a' w4 hI
  obtain ⟨s0, rfl, hMB, hk0⟩ := hI
  have H4 : Hid (_ ∧ _) := hMB
  clear hMB H3
  by_cases hlti0 : i0 < 6
  · have hrd : True := trivial
    clear hrd
    refine wp_seq (wp_seq ?_)
    refine walk_seqA 2 [.quiet (.int .i64 ((i0 : Nat) : Int)), .quiet (.bool true)] (sB H4) ?ho4 ?he4
    case ho4 => exact ak (fun _ => ⟨rfl, fun _ _ => rfl⟩) (ak (by refine fun γ => ⟨rfl, fun w' h => ?_⟩; clear h; go_simp <;> omega) trivial)
    intro γ w5 l hM hl
    have H5 := keepK H4 hM.below
    clear hM hl l H4 γ
    refine rest0 rfl (then_normal (wp_cond_true rfl ?_))
    refine wp_skip (then_normal ?_)
    refine wp_seq (wp_block (wp_seq ?_))
    refine walk_seqA 10 [.quiet (U a), .quiet (.int .i64 ((i0 : Nat) : Int)), .quiet (PT γ1_1 i0), .quiet (U (b i0)), .call (.tuple #[U (a * (b i0) / 18446744073709551616), U (a * (b i0) % 18446744073709551616)]), .quiet (.tuple #[U (a * (b i0) / 18446744073709551616), U (a * (b i0) % 18446744073709551616)]), .quiet (U (a * (b i0) / 18446744073709551616)), .quiet (U (a * (b i0) % 18446744073709551616)), .quiet (U (a * (b i0) / 18446744073709551616)), .quiet (U (a * (b i0) % 18446744073709551616))] (sB H5) ?ho5 ?he5
    case ho5 => exact ak (fun _ => ⟨rfl, fun _ _ => rfl⟩) (ak (fun _ => ⟨rfl, fun _ _ => rfl⟩) (ak (fun γ => ⟨rfl, fun w' _ => ex_ix0_25 (j := i0) rfl rfl rfl (by omega)⟩) (ak (fun γ => ⟨rfl, fun w' h => ex_loadC h 1 rfl rfl rfl Tryd.isAgg22 (ints_get _ _ (by omega))⟩) (ak (fun γ => ⟨rfl, fun w' h => ⟨68, #[U a, U (b i0)], exec_call rfl call68 rfl (mpn rfl), mul64N a (b i0) ha (hb i0 (by omega)) w'⟩⟩) (ak (fun _ => ⟨rfl, fun _ _ => rfl⟩) (ak (by refine fun γ => ⟨rfl, fun w' h => ?_⟩; clear h; go_simp) (ak (by refine fun γ => ⟨rfl, fun w' h => ?_⟩; clear h; go_simp) (ak (fun _ => ⟨rfl, fun _ _ => rfl⟩) (ak (fun _ => ⟨rfl, fun _ _ => rfl⟩) trivial)))))))))
    intro γ w6 l hM hl
    have H6 := keepK H5 hM.below
    clear hM hl l H5 γ
    refine rest0 rfl (then_normal (wp_seq ?_))
    refine walk_seqA 10 [.quiet (U (a * (b i0) % 18446744073709551616)), .quiet (PT g 0), .quiet (.int .i64 ((i0 : Nat) : Int)), .quiet (PT g 0), .quiet (PT g i0), .quiet (U ((rwt a b t i0) i0)), .quiet (.tuple #[U (plo (a * (b i0) % 18446744073709551616) ((rwt a b t i0) i0) 0), U (phi (a * (b i0) % 18446744073709551616) ((rwt a b t i0) i0) 0)]), .quiet (.tuple #[U (plo (a * (b i0) % 18446744073709551616) ((rwt a b t i0) i0) 0), U (phi (a * (b i0) % 18446744073709551616) ((rwt a b t i0) i0) 0)]), .quiet (U (plo (a * (b i0) % 18446744073709551616) ((rwt a b t i0) i0) 0)), .quiet (U (phi (a * (b i0) % 18446744073709551616) ((rwt a b t i0) i0) 0))] (sB H6) ?ho6 ?he6
    case ho6 => exact ak (fun _ => ⟨rfl, fun _ _ => rfl⟩) (ak (fun _ => ⟨rfl, fun _ _ => rfl⟩) (ak (fun _ => ⟨rfl, fun _ _ => rfl⟩) (ak (by refine fun γ => ⟨rfl, fun w' h => ?_⟩; clear h; go_simp) (ak (fun γ => ⟨rfl, fun w' _ => ex_ix0_63 (j := i0) rfl rfl rfl (by omega)⟩) (ak (fun γ => ⟨rfl, fun w' h => ex_loadC h 2 rfl rfl rfl Tryd.isAgg22 (ints_get _ _ (by omega))⟩) (ak (fun γ => ⟨rfl, fun w' h => ex_extern rfl (add64N (a * (b i0) % 18446744073709551616) ((rwt a b t i0) i0) 0 (by decide) w') rfl (mpn rfl)⟩) (ak (fun _ => ⟨rfl, fun _ _ => rfl⟩) (ak (by refine fun γ => ⟨rfl, fun w' h => ?_⟩; clear h; go_simp) (ak (by refine fun γ => ⟨rfl, fun w' h => ?_⟩; clear h; go_simp) trivial)))))))))
    intro γ w7 l hM hl
    have H7 := keepK H6 hM.below
    clear hM hl l H6 γ
    refine rest_at (l := [10, 11]) rfl ?_
    refine rest_set (d := 11) rfl rfl rfl rfl ?_
    simp only [Act.put, sa, sz, ss]
    refine rest_set (d := 12) rfl rfl rfl rfl ?_
    simp only [Act.put, sa, sz, ss]
    refine rest_nil (then_normal (wp_seq ?_))
    refine walk_seqA 3 [.quiet (U (a * (b i0) / 18446744073709551616)), .quiet (U (phi (a * (b i0) % 18446744073709551616) ((rwt a b t i0) i0) 0)), .quiet (U (c64 (a * (b i0) / 18446744073709551616 + phi (a * (b i0) % 18446744073709551616) ((rwt a b t i0) i0) 0)))] (sB H7) ?ho7 ?he7
    case ho7 => exact ak (fun _ => ⟨rfl, fun _ _ => rfl⟩) (ak (fun _ => ⟨rfl, fun _ _ => rfl⟩) (ak (fun γ => ⟨rfl, fun w' _ => ex_add64 rfl rfl rfl⟩) trivial))
    intro γ w8 l hM hl
    have H8 := keepK H7 hM.below
    clear hM hl l H7 γ
    refine rest_at (l := [3]) rfl ?_
    refine rest_set (d := 10) rfl rfl rfl rfl ?_
    simp only [Act.put, sa, sz, ss]
    refine rest_nil (then_normal (wp_seq ?_))
    refine walk_seqA 6 [.quiet (U (plo (a * (b i0) % 18446744073709551616) ((rwt a b t i0) i0) 0)), .quiet (U (rwc a b t i0)), .quiet (.tuple #[U (plo (plo (a * (b i0) % 18446744073709551616) ((rwt a b t i0) i0) 0) (rwc a b t i0) 0), U (phi (plo (a * (b i0) % 18446744073709551616) ((rwt a b t i0) i0) 0) (rwc a b t i0) 0)]), .quiet (.tuple #[U (plo (plo (a * (b i0) % 18446744073709551616) ((rwt a b t i0) i0) 0) (rwc a b t i0) 0), U (phi (plo (a * (b i0) % 18446744073709551616) ((rwt a b t i0) i0) 0) (rwc a b t i0) 0)]), .quiet (U (plo (plo (a * (b i0) % 18446744073709551616) ((rwt a b t i0) i0) 0) (rwc a b t i0) 0)), .quiet (U (phi (plo (a * (b i0) % 18446744073709551616) ((rwt a b t i0) i0) 0) (rwc a b t i0) 0))] (sB H8) ?ho8 ?he8
    case ho8 => exact ak (fun _ => ⟨rfl, fun _ _ => rfl⟩) (ak (fun _ => ⟨rfl, fun _ _ => rfl⟩) (ak (fun γ => ⟨rfl, fun w' h => ex_extern rfl (add64N (plo (a * (b i0) % 18446744073709551616) ((rwt a b t i0) i0) 0) (rwc a b t i0) 0 (by decide) w') rfl (mpn rfl)⟩) (ak (fun _ => ⟨rfl, fun _ _ => rfl⟩) (ak (by refine fun γ => ⟨rfl, fun w' h => ?_⟩; clear h; go_simp) (ak (by refine fun γ => ⟨rfl, fun w' h => ?_⟩; clear h; go_simp) trivial)))))
    intro γ w9 l hM hl
    have H9 := keepK H8 hM.below
    clear hM hl l H8 γ
    refine rest_at (l := [6, 7]) rfl ?_
    refine rest_set (d := 11) rfl rfl rfl rfl ?_
    simp only [Act.put, sa, sz, ss]
    refine rest_set (d := 12) rfl rfl rfl rfl ?_
    simp only [Act.put, sa, sz, ss]
    refine rest_nil (then_normal (wp_seq ?_))
    refine walk_seqA 4 [.quiet (U (c64 (a * (b i0) / 18446744073709551616 + phi (a * (b i0) % 18446744073709551616) ((rwt a b t i0) i0) 0))), .quiet (U (phi (plo (a * (b i0) % 18446744073709551616) ((rwt a b t i0) i0) 0) (rwc a b t i0) 0)), .quiet (U (rwc a b t (i0 + 1))), .quiet (U (rwc a b t (i0 + 1)))] (sB H9) ?ho9 ?he9
    case ho9 => exact ak (fun _ => ⟨rfl, fun _ _ => rfl⟩) (ak (fun _ => ⟨rfl, fun _ _ => rfl⟩) (ak (fun γ => ⟨rfl, fun w' _ => ex_add64E (rwc_succ (by omega) ha hb ht) rfl rfl rfl⟩) (ak (fun _ => ⟨rfl, fun _ _ => rfl⟩) trivial)))
    intro γ w10 l hM hl
    have H10 := keepK H9 hM.below
    clear hM hl l H9 γ
    refine rest0 rfl (then_normal ?_)
    refine walk_seqA 5 [.quiet (PT g 0), .quiet (.int .i64 ((i0 : Nat) : Int)), .quiet (U (plo (plo (a * (b i0) % 18446744073709551616) ((rwt a b t i0) i0) 0) (rwc a b t i0) 0)), .quiet (PT g 0), .quiet (PT g i0)] (sB H10) ?ho10 ?he10
    case ho10 => exact ak (fun _ => ⟨rfl, fun _ _ => rfl⟩) (ak (fun _ => ⟨rfl, fun _ _ => rfl⟩) (ak (fun _ => ⟨rfl, fun _ _ => rfl⟩) (ak (by refine fun γ => ⟨rfl, fun w' h => ?_⟩; clear h; go_simp) (ak (fun γ => ⟨rfl, fun w' _ => ex_ix0_63 (j := i0) rfl rfl rfl (by omega)⟩) trivial))))
    intro γ w11 l hM hl
    have H11 := keepK H10 hM.below
    clear hM hl l H10 γ
    refine rest_at (l := [5]) rfl ?_
    refine rest_store rfl rfl rfl (ex_storeI H11.out.1 2 rfl rfl Tryd.sizeOf22 rfl rfl (by rw [ints_len]; omega)) ?_
    have H12 : Hid (Mm (w11.setCells g i0 ([U (plo (plo (a * (b i0) % 18446744073709551616) ((rwt a b t i0) i0) 0) (rwc a b t i0) 0)])) [(γ1_0, ints .u64 F 13), (γ1_1, ints .u64 b 6), (g, ints .u64 (rwt a b t (i0 + 1)) 8)] ∧ Kp g w (w11.setCells g i0 ([U (plo (plo (a * (b i0) % 18446744073709551616) ((rwt a b t i0) i0) 0) (rwc a b t i0) 0)]))) := ⟨by
      have h := H11.out.1.put 2 (off := i0) (vs := [U (plo (plo (a * (b i0) % 18446744073709551616) ((rwt a b t i0) i0) 0) (rwc a b t i0) 0)]) rfl (by rw [ints_len]; simp only [List.length_cons, List.length_nil]; omega)
      rw [ints_patch _ _ _ _ (by omega), show ints .u64 (up (rwt a b t i0) i0 (plo (plo (a * (b i0) % 18446744073709551616) ((rwt a b t i0) i0) 0) (rwc a b t i0) 0)) 8 = ints .u64 (rwt a b t (i0 + 1)) 8 by rw [show (up (rwt a b t i0) i0 (plo (plo (a * (b i0) % 18446744073709551616) ((rwt a b t i0) i0) 0) (rwc a b t i0) 0)) = rwt a b t (i0 + 1) from rwt_succ a b t i0]] at h
      exact h, H11.out.2.put (Or.inl rfl)⟩
    clear H11
    generalize hgw : World.setCells _ _ _ _ = w12 at H12 ⊢
    clear hgw
    refine rest_nil (block_normal (then_normal ?_))
    refine walk_seqA 2 [.quiet (.int .i64 ((i0 : Nat) : Int)), .quiet (.int .i64 ((i0 + 1 : Nat) : Int))] (sB H12) ?ho11 ?he11
    case ho11 => exact ak (fun _ => ⟨rfl, fun _ _ => rfl⟩) (ak (by refine fun γ => ⟨rfl, fun w' h => ?_⟩; clear h; go_simp; rw [IntKind.wrap_i64]; omega) trivial)
    intro γ w13 l hM hl
    have H13 := keepK H12 hM.below
    clear hM hl l H12 γ
    refine rest_at (l := [2]) rfl ?_
    refine rest_set (d := 9) rfl rfl rfl rfl ?_
    simp only [Act.put, sa, sz, ss]
    refine rest_nil (then_normal ?_)
    exact ⟨i0 + 1, ⟨(slotfn [undef, undef, undef, undef, undef, undef, undef, undef, undef, undef, U (c64 (a * (b i0) / 18446744073709551616 + phi (a * (b i0) % 18446744073709551616) ((rwt a b t i0) i0) 0)), U (plo (plo (a * (b i0) % 18446744073709551616) ((rwt a b t i0) i0) 0) (rwc a b t i0) 0), U (phi (plo (a * (b i0) % 18446744073709551616) ((rwt a b t i0) i0) 0) (rwc a b t i0) 0), undef, undef, .int .i64 ((i0 : Nat) : Int), .bool true, .int .i64 ((i0 : Nat) : Int), .int .i64 ((i0 + 1 : Nat) : Int), .tuple #[U (a * (b i0) / 18446744073709551616), U (a * (b i0) % 18446744073709551616)], U a, .int .i64 ((i0 : Nat) : Int), PT γ1_1 i0, U (b i0), .tuple #[U (a * (b i0) / 18446744073709551616), U (a * (b i0) % 18446744073709551616)], U (a * (b i0) / 18446744073709551616), U (a * (b i0) % 18446744073709551616), .tuple #[U (plo (a * (b i0) % 18446744073709551616) ((rwt a b t i0) i0) 0), U (phi (a * (b i0) % 18446744073709551616) ((rwt a b t i0) i0) 0)], U (a * (b i0) % 18446744073709551616), PT g 0, .int .i64 ((i0 : Nat) : Int), PT g 0, PT g i0, U ((rwt a b t i0) i0), .tuple #[U (plo (a * (b i0) % 18446744073709551616) ((rwt a b t i0) i0) 0), U (phi (a * (b i0) % 18446744073709551616) ((rwt a b t i0) i0) 0)], U (plo (a * (b i0) % 18446744073709551616) ((rwt a b t i0) i0) 0), U (phi (a * (b i0) % 18446744073709551616) ((rwt a b t i0) i0) 0), U (a * (b i0) / 18446744073709551616), U (phi (a * (b i0) % 18446744073709551616) ((rwt a b t i0) i0) 0), U (c64 (a * (b i0) / 18446744073709551616 + phi (a * (b i0) % 18446744073709551616) ((rwt a b t i0) i0) 0)), .tuple #[U (plo (plo (a * (b i0) % 18446744073709551616) ((rwt a b t i0) i0) 0) (rwc a b t i0) 0), U (phi (plo (a * (b i0) % 18446744073709551616) ((rwt a b t i0) i0) 0) (rwc a b t i0) 0)], U (plo (a * (b i0) % 18446744073709551616) ((rwt a b t i0) i0) 0), U (rwc a b t i0), .tuple #[U (plo (plo (a * (b i0) % 18446744073709551616) ((rwt a b t i0) i0) 0) (rwc a b t i0) 0), U (phi (plo (a * (b i0) % 18446744073709551616) ((rwt a b t i0) i0) 0) (rwc a b t i0) 0)], U (plo (plo (a * (b i0) % 18446744073709551616) ((rwt a b t i0) i0) 0) (rwc a b t i0) 0), U (phi (plo (a * (b i0) % 18446744073709551616) ((rwt a b t i0) i0) 0) (rwc a b t i0) 0), U (c64 (a * (b i0) / 18446744073709551616 + phi (a * (b i0) % 18446744073709551616) ((rwt a b t i0) i0) 0)), U (phi (plo (a * (b i0) % 18446744073709551616) ((rwt a b t i0) i0) 0) (rwc a b t i0) 0), U (rwc a b t (i0 + 1)), PT g 0, .int .i64 ((i0 : Nat) : Int), U (plo (plo (a * (b i0) % 18446744073709551616) ((rwt a b t i0) i0) 0) (rwc a b t i0) 0), PT g 0, PT g i0]), rfl, ⟨H13.out.1, H13.out.2⟩, by omega⟩, by omega⟩
  have hi0N : i0 = 6 := by omega
  subst hi0N
  refine wp_seq (wp_seq ?_)
  refine walk_seqA 2 [.quiet (.int .i64 ((6 : Nat) : Int)), .quiet (.bool false)] (sB H4) ?ho12 ?he12
  case ho12 => exact ak (fun _ => ⟨rfl, fun _ _ => rfl⟩) (ak (by refine fun γ => ⟨rfl, fun w' h => ?_⟩; clear h; go_simp <;> omega) trivial)
  intro γ w14 l hM hl
  have H14 := keepK H4 hM.below
  clear hM hl l H4 γ
  refine rest0 rfl (then_normal (wp_cond_false rfl ?_))
  refine wp_exit ?_
  repeat refine then_exit ?_
  refine block_exit ?_
  refine then_normal (wp_seq ?_)
  refine walk_seqA 11 [.quiet (PT g 0), .quiet (PT g 0), .quiet (PT g 6), .quiet (U ((rwt a b t 6) 6)), .quiet (U (rwc a b t 6)), .quiet (.tuple #[U (plo ((rwt a b t 6) 6) (rwc a b t 6) 0), U (phi ((rwt a b t 6) 6) (rwc a b t 6) 0)]), .quiet (.tuple #[U (plo ((rwt a b t 6) 6) (rwc a b t 6) 0), U (phi ((rwt a b t 6) 6) (rwc a b t 6) 0)]), .quiet (U (plo ((rwt a b t 6) 6) (rwc a b t 6) 0)), .quiet (U (phi ((rwt a b t 6) 6) (rwc a b t 6) 0)), .quiet (U (plo ((rwt a b t 6) 6) (rwc a b t 6) 0)), .quiet (U (phi ((rwt a b t 6) 6) (rwc a b t 6) 0))] (sB H14) ?ho13 ?he13
  case ho13 => exact ak (fun _ => ⟨rfl, fun _ _ => rfl⟩) (ak (by refine fun γ => ⟨rfl, fun w' h => ?_⟩; clear h; go_simp) (ak (fun γ => ⟨rfl, fun w' _ => ex_ix0_63 (j := 6) rfl rfl rfl (by decide)⟩) (ak (fun γ => ⟨rfl, fun w' h => ex_loadC h 2 rfl rfl rfl Tryd.isAgg22 (ints_get _ _ (by decide))⟩) (ak (fun _ => ⟨rfl, fun _ _ => rfl⟩) (ak (fun γ => ⟨rfl, fun w' h => ex_extern rfl (add64N ((rwt a b t 6) 6) (rwc a b t 6) 0 (by decide) w') rfl (mpn rfl)⟩) (ak (fun _ => ⟨rfl, fun _ _ => rfl⟩) (ak (by refine fun γ => ⟨rfl, fun w' h => ?_⟩; clear h; go_simp) (ak (by refine fun γ => ⟨rfl, fun w' h => ?_⟩; clear h; go_simp) (ak (fun _ => ⟨rfl, fun _ _ => rfl⟩) (ak (fun _ => ⟨rfl, fun _ _ => rfl⟩) trivial))))))))))
  intro γ w15 l hM hl
  have H15 := keepK H14 hM.below
  clear hM hl l H14 γ
  refine rest0 rfl (then_normal (wp_seq ?_))
  refine walk_seqA 4 [.quiet (PT g 0), .quiet (U (plo ((rwt a b t 6) 6) (rwc a b t 6) 0)), .quiet (PT g 0), .quiet (PT g 6)] (sB H15) ?ho14 ?he14
  case ho14 => exact ak (fun _ => ⟨rfl, fun _ _ => rfl⟩) (ak (fun _ => ⟨rfl, fun _ _ => rfl⟩) (ak (by refine fun γ => ⟨rfl, fun w' h => ?_⟩; clear h; go_simp) (ak (fun γ => ⟨rfl, fun w' _ => ex_ix0_63 (j := 6) rfl rfl rfl (by decide)⟩) trivial)))
  intro γ w16 l hM hl
  have H16 := keepK H15 hM.below
  clear hM hl l H15 γ
  refine rest_at (l := [4]) rfl ?_
  refine rest_store rfl rfl rfl (ex_storeI H16.out.1 2 rfl rfl Tryd.sizeOf22 rfl rfl (by rw [ints_len]; decide)) ?_
  have H17 : Hid (Mm (w16.setCells g 6 ([U (plo ((rwt a b t 6) 6) (rwc a b t 6) 0)])) [(γ1_0, ints .u64 F 13), (γ1_1, ints .u64 b 6), (g, ints .u64 (up (rwt a b t 6) 6 (plo ((rwt a b t 6) 6) (rwc a b t 6) 0)) 8)] ∧ Kp g w (w16.setCells g 6 ([U (plo ((rwt a b t 6) 6) (rwc a b t 6) 0)]))) := ⟨by
    have h := H16.out.1.put 2 (off := 6) (vs := [U (plo ((rwt a b t 6) 6) (rwc a b t 6) 0)]) rfl (by rw [ints_len]; simp only [List.length_cons, List.length_nil]; decide)
    rw [ints_patch _ _ _ _ (by decide)] at h
    exact h, H16.out.2.put (Or.inl rfl)⟩
  clear H16
  generalize hgw : World.setCells _ _ _ _ = w17 at H17 ⊢
  clear hgw
  refine rest_nil (then_normal ?_)
  refine walk_anyA 9 [.quiet (PT g 0), .quiet (PT g 0), .quiet (PT g 0), .quiet (PT g 7), .quiet (U ((up (rwt a b t 6) 6 (plo ((rwt a b t 6) 6) (rwc a b t 6) 0)) 7)), .quiet (U (phi ((rwt a b t 6) 6) (rwc a b t 6) 0)), .quiet (U (c64 ((up (rwt a b t 6) 6 (plo ((rwt a b t 6) 6) (rwc a b t 6) 0)) 7 + phi ((rwt a b t 6) 6) (rwc a b t 6) 0))), .quiet (PT g 0), .quiet (PT g 7)] (sB H17) ?ho15 ?he15
  case ho15 => exact ak (fun _ => ⟨rfl, fun _ _ => rfl⟩) (ak (fun _ => ⟨rfl, fun _ _ => rfl⟩) (ak (by refine fun γ => ⟨rfl, fun w' h => ?_⟩; clear h; go_simp) (ak (fun γ => ⟨rfl, fun w' _ => ex_ix0_63 (j := 7) rfl rfl rfl (by decide)⟩) (ak (fun γ => ⟨rfl, fun w' h => ex_loadC h 2 rfl rfl rfl Tryd.isAgg22 (ints_get _ _ (by decide))⟩) (ak (fun _ => ⟨rfl, fun _ _ => rfl⟩) (ak (fun γ => ⟨rfl, fun w' _ => ex_add64 rfl rfl rfl⟩) (ak (by refine fun γ => ⟨rfl, fun w' h => ?_⟩; clear h; go_simp) (ak (fun γ => ⟨rfl, fun w' _ => ex_ix0_63 (j := 7) rfl rfl rfl (by decide)⟩) trivial))))))))
  intro γ w18 l hM hl
  have H18 := keepK H17 hM.below
  clear hM hl l H17 γ
  refine rest_at (l := [9]) rfl ?_
  refine rest_store rfl rfl rfl (ex_storeI H18.out.1 2 rfl rfl Tryd.sizeOf22 rfl rfl (by rw [ints_len]; decide)) ?_
  have H19 : Hid (Mm (w18.setCells g 7 ([U (c64 ((up (rwt a b t 6) 6 (plo ((rwt a b t 6) 6) (rwc a b t 6) 0)) 7 + phi ((rwt a b t 6) 6) (rwc a b t 6) 0))])) [(γ1_0, ints .u64 F 13), (γ1_1, ints .u64 b 6), (g, ints .u64 (up (up (rwt a b t 6) 6 (plo ((rwt a b t 6) 6) (rwc a b t 6) 0)) 7 (c64 ((up (rwt a b t 6) 6 (plo ((rwt a b t 6) 6) (rwc a b t 6) 0)) 7 + phi ((rwt a b t 6) 6) (rwc a b t 6) 0))) 8)] ∧ Kp g w (w18.setCells g 7 ([U (c64 ((up (rwt a b t 6) 6 (plo ((rwt a b t 6) 6) (rwc a b t 6) 0)) 7 + phi ((rwt a b t 6) 6) (rwc a b t 6) 0))]))) := ⟨by
    have h := H18.out.1.put 2 (off := 7) (vs := [U (c64 ((up (rwt a b t 6) 6 (plo ((rwt a b t 6) 6) (rwc a b t 6) 0)) 7 + phi ((rwt a b t 6) 6) (rwc a b t 6) 0))]) rfl (by rw [ints_len]; simp only [List.length_cons, List.length_nil]; decide)
    rw [ints_patch _ _ _ _ (by decide)] at h
    exact h, H18.out.2.put (Or.inl rfl)⟩
  clear H18
  generalize hgw : World.setCells _ _ _ _ = w19 at H19 ⊢
  clear hgw
  refine rest_nil ?_
  refine bodyPost_end (v := .tuple #[]) (by simp [results, Tryd.results106, go_sem]) rfl ?_
  have hM := H19.out.1.one 2 rfl
  rw [ints_congr (row_end a b t)] at hM
  exact ⟨rfl, hM, H19.out.2⟩
end Fs
end Rg
end Go.Proofs.YtfnmahjdkmgdkaaDoor
end
section
namespace Go.Proofs.YtfnmahjdkmgdkaaDoor
open Go.RowKit
namespace Rg
namespace Fs
set_option maxRecDepth 100000
theorem pre13 (F : Nat → Nat) : ((ints .u64 F 13).drop 0).take 6 = ints .u64 F 6 := rfl
theorem ex_laidI {ρ : Operand → Value} {o : Oper} {x y : Operand} {g n : Nat} {w : World} {ik : IntKind} {f f' : Nat → Nat} {t : TypeId} (hb : Blk w g (ints ik f n)) (hs : ∀ w, (sizeOf t).run Tryd.prog w = .ok n w) (ho : o.op = .store t x y) (hx : ρ x = .pointer (some ⟨g, 0, none⟩)) (hy : ρ y = .agg (ints ik f' n).toArray) : (execOp ρ o).run Tryd.prog w = .ok .skip (w.setCells g 0 (ints ik f' n)) :=
  ex_laidT hb (by rw [ints_len, ints_len]) (ints_all _ _ _) (by rw [ints_len]; exact hs) ho hx hy
theorem ex_ne64 {ρ : Operand → Value} {o : Oper} {x y : Operand} {a : Nat} {w : World} {t : Bool} (h : (!decide (a = 0)) = t) (ho : o.op = .binOp .neq 22 x y 22) (hx : ρ x = U a) (hy : ρ y = .int .u64 0) : (execOp ρ o).run Tryd.prog w = .ok (.value (.bool t)) w := by
  rw [← h]
  simp only [execOp, ho, hx, hy]
  clear ho hx hy h
  go_simp
  by_cases h : a = 0 <;> simp [h]
theorem ex_ge3 {ρ : Operand → Value} {o : Oper} {x y : Operand} {z : Int} {w : World} {t : Bool} (h : decide (0 ≤ z) = t) (ho : o.op = .binOp .geq 3 x y 3) (hx : ρ x = .int .i64 z) (hy : ρ y = .int .i64 0) : (execOp ρ o).run Tryd.prog w = .ok (.value (.bool t)) w := by
  rw [← h]
  simp only [execOp, ho, hx, hy]
  clear ho hx hy h
  go_simp
/-- Words that are shifted down, on the way. -/
def shr (r : Nat → Nat) (k j : Nat) : Nat := if j < k then r (j + 1) else r j
theorem shr_succ (r : Nat → Nat) (k : Nat) : up (shr r k) k (shr r k (k + 1)) = shr r (k + 1) := by
  funext j
  have e : shr r k (k + 1) = r (k + 1) := if_neg (by omega)
  rw [e]
  unfold up shr
  by_cases h : j = k
  · subst h
    rw [if_pos rfl, if_pos (Nat.lt_succ_self _)]
  · rw [if_neg h]
    by_cases h2 : j < k
    · rw [if_pos h2, if_pos (by omega)]
    · rw [if_neg h2, if_neg (by omega)]
/-- Words that are copied, on the way. -/
def cpy (r : Nat → Nat) (k j : Nat) : Nat := if j < k then r j else 0
theorem cpy_succ (r : Nat → Nat) (k : Nat) : up (cpy r k) k (r k) = cpy r (k + 1) := by
  funext j
  unfold up cpy
  by_cases h : j = k
  · subst h
    rw [if_pos rfl, if_pos (Nat.lt_succ_self _)]
  · rw [if_neg h]
    by_cases h2 : j < k
    · rw [if_pos h2, if_pos (by omega)]
    · rw [if_neg h2, if_neg (by omega)]
set_option maxHeartbeats 2000000 in
set_option maxRecDepth 100000 in
theorem mont_a (F a b D : Nat → Nat) (z : Int) (bb : Bool) (hA : ∀ i, i < 6 → a i < 18446744073709551616) (hB : ∀ i, i < 6 → b i < 18446744073709551616) (hN : ∀ i, i < 6 → F i < 18446744073709551616) (hC0 : ∀ w, Calls Tryd.prog 54 #[.agg (ints .u64 (cpy (mgt (F 6) F a b 6) 6) 6).toArray, .agg (ints .u64 F 6).toArray] w fun e w' => e = .returned (.int .i64 z) ∧ Below w.heap.size w w') (hS0 : ∀ w, Calls Tryd.prog 57 #[.agg (ints .u64 (cpy (mgt (F 6) F a b 6) 6) 6).toArray, .agg (ints .u64 F 6).toArray] w fun e w' => e = .returned (.tuple #[.agg (ints .u64 D 6).toArray, .bool bb]) ∧ Below w.heap.size w w') (h6 : (mgt (F 6) F a b 6) 6 ≠ 0) (w : World) :
    Calls Tryd.prog 88 #[.agg (ints .u64 F 13).toArray, .agg (ints .u64 a 6).toArray, .agg (ints .u64 b 6).toArray] w fun e w' => e = .returned (.agg (ints .u64 D 6).toArray) ∧ Below w.heap.size w w' := by
  have H0 : Hid (_ ∧ _) := ⟨Mm.nil w, Below.refl w.heap.size w⟩
  have HC : Hid _ := hC0
  have HS : Hid _ := hS0
  clear hC0 hS0
  go_enter Tryd.func88, Tryd.ntmps88
  refine wp_seq ?_
  refine walk_seqA 4 [.made (ints .u64 F 13) 81, .made (ints .u64 a 6) 24, .made (ints .u64 b 6) 24, .made (ints .u64 (fun _ => 0) 6) 24] (sB H0) ?ho1 ?he1
  case ho1 => exact ak (fun γ => ⟨rfl, fun w' => ex_boxT rfl rfl⟩) (ak (fun γ => ⟨rfl, fun w' => ex_boxT rfl rfl⟩) (ak (fun γ => ⟨rfl, fun w' => ex_boxT rfl rfl⟩) (ak (fun γ => ⟨rfl, fun w' => ex_mk25 rfl⟩) trivial)))
  intro γ w1 l hM hl
  have H1 : Hid (Mm w1 [(γ 0, ints .u64 F 13), (γ 1, ints .u64 a 6), (γ 2, ints .u64 b 6), (γ 3, ints .u64 (fun _ => 0) 6)] ∧ _) := growB H0 hM (Nat.le_refl _) hl [0, 1, 2, 3] rfl (by decide)
  have o1_0 := ownB H0 hM (Nat.le_refl _) hl (i := 0) rfl
  have o1_1 := ownB H0 hM (Nat.le_refl _) hl (i := 1) rfl
  have o1_2 := ownB H0 hM (Nat.le_refl _) hl (i := 2) rfl
  have o1_3 := ownB H0 hM (Nat.le_refl _) hl (i := 3) rfl
  clear hM hl l
  generalize γ 0 = γ1_0 at H1 o1_0 ⊢
  generalize γ 1 = γ1_1 at H1 o1_1 ⊢
  generalize γ 2 = γ1_2 at H1 o1_2 ⊢
  generalize γ 3 = γ1_3 at H1 o1_3 ⊢
  clear γ
  refine rest0 rfl (then_normal (wp_seq ?_))
  refine walk_seqA 1 [.made (ints .u64 (fun _ => 0) 8) 133] (sB H1) ?ho2 ?he2
  case ho2 => exact ak (fun γ => ⟨rfl, fun w' => ex_mk63 rfl⟩) trivial
  intro γ w2 l hM hl
  have H2 : Hid (Mm w2 [(γ 0, ints .u64 (fun _ => 0) 8), (γ1_0, ints .u64 F 13), (γ1_1, ints .u64 a 6), (γ1_2, ints .u64 b 6), (γ1_3, ints .u64 (fun _ => 0) 6)] ∧ _) := growB H1 hM (Nat.le_refl _) hl [0] rfl (by decide)
  have o2_0 := ownB H1 hM (Nat.le_refl _) hl (i := 0) rfl
  clear hM hl l H1
  generalize γ 0 = γ2_0 at H2 o2_0 ⊢
  clear γ
  refine rest0 rfl (then_normal (wp_seq (wp_seq ?_)))
  refine walk_seqB 1 [.quiet (.int .i64 0)] H2 ?ho3 ?he3
  case ho3 => exact ak (fun _ => ⟨rfl, fun _ _ => rfl⟩) trivial
  intro _ w3 H3
  clear H2
  refine rest0 rfl (then_normal (wp_block ?_))
  refine loop_ghost (α := Nat) (fun i0 a' w' => ∃ s0 : Nat → Value, a' = ⟨#[.agg (ints .u64 F 13).toArray, .agg (ints .u64 a 6).toArray, .agg (ints .u64 b 6).toArray, PT γ1_0 0, PT γ1_1 0, PT γ1_2 0, PT γ1_3 0, PT γ2_0 0, .int .i64 ((i0 : Nat) : Int), s0 9, undef, undef, s0 12, s0 13, s0 14, s0 15, s0 16, s0 17, s0 18, s0 19, s0 20, s0 21, s0 22, s0 23, s0 24, s0 25, s0 26, s0 27, s0 28, s0 29, s0 30, s0 31, s0 32, s0 33, s0 34, s0 35, s0 36, s0 37, s0 38, s0 39, s0 40, s0 41, undef, undef, undef, undef, undef, undef, undef, undef, undef, undef, undef, undef, undef, undef, undef, undef, undef, undef, undef, undef, undef, undef, undef, undef, undef, undef, undef], []⟩ ∧ (Mm w' [(γ2_0, ints .u64 (mgt (F 6) F a b i0) 8), (γ1_0, ints .u64 F 13), (γ1_1, ints .u64 a 6), (γ1_2, ints .u64 b 6), (γ1_3, ints .u64 (fun _ => 0) 6)] ∧ Below w.heap.size w w') ∧ i0 ≤ 6) (fun i0 => 6 - i0) 0 ?st0 ?rd0
  case st0 => exact ⟨(slotfn [undef, undef, undef, undef, undef, undef, undef, undef, undef, undef, undef, undef, undef, undef, undef, undef, undef, undef, undef, undef, undef, undef, undef, undef, undef, undef, undef, undef, undef, undef, undef, undef, undef, undef, undef, undef, undef, undef, undef, undef, undef, undef]), rfl, ⟨H3.out.1, H3.out.2⟩, by omega⟩
  intro i0 a' w4 hI
  obtain ⟨s0, rfl, hMB, hk0⟩ := hI
  have H4 : Hid (_ ∧ _) := hMB
  clear hMB H3
  by_cases hlti0 : i0 < 6
  · have hrd : True := trivial
    clear hrd
    refine wp_seq (wp_seq ?_)
    refine walk_seqB 2 [.quiet (.int .i64 ((i0 : Nat) : Int)), .quiet (.bool true)] H4 ?ho4 ?he4
    case ho4 => exact ak (fun _ => ⟨rfl, fun _ _ => rfl⟩) (ak (by refine fun γ => ⟨rfl, fun w' h => ?_⟩; clear h; go_simp <;> omega) trivial)
    intro _ w5 H5
    clear H4
    refine rest0 rfl (then_normal (wp_cond_true rfl ?_))
    refine wp_skip (then_normal ?_)
    refine wp_seq (wp_block (wp_seq ?_))
    refine walk_anyB 5 [.quiet (.agg (ints .u64 F 13).toArray), .quiet (.int .i64 ((i0 : Nat) : Int)), .quiet (PT γ1_1 i0), .quiet (U (a i0)), .quiet (.agg (ints .u64 b 6).toArray)] H5 ?ho5 ?he5
    case ho5 => exact ak (fun γ => ⟨rfl, fun w' h => ex_loadT h 1 rfl rfl rfl Tryd.isAgg81 Tryd.sizeOf81 (ints_whole _ _ _) (ints_len _ _ _)⟩) (ak (fun _ => ⟨rfl, fun _ _ => rfl⟩) (ak (fun γ => ⟨rfl, fun w' _ => ex_ix0_25 (j := i0) rfl rfl rfl (by omega)⟩) (ak (fun γ => ⟨rfl, fun w' h => ex_loadC h 2 rfl rfl rfl Tryd.isAgg22 (ints_get _ _ (by omega))⟩) (ak (fun γ => ⟨rfl, fun w' h => ex_loadT h 3 rfl rfl rfl Tryd.isAgg24 Tryd.sizeOf24 (ints_whole _ _ _) (ints_len _ _ _)⟩) trivial))))
    intro _ w6 H6
    clear H5
    refine rest_at (l := [5]) rfl ?_
    refine rest_enter (d := 21) (R := fun vv w' => vv = .tuple #[] ∧ Mm w' [(γ2_0, ints .u64 (rw8 (a i0) b (mgt (F 6) F a b i0)) 8)] ∧ Kp γ2_0 w6 w') rfl rfl rfl (exec_call (args := #[.agg (ints .u64 F 13).toArray, PT γ2_0 0, U (a i0), .agg (ints .u64 b 6).toArray]) rfl call106 rfl (mpn rfl)) (Calls.mono (row_any F b (mgt (F 6) F a b i0) γ2_0 (a i0) (hA i0 (by omega)) hB (fun i _ => mgt_lt i0 i) w6 (H6.out.1.one 0 rfl)) (fun e w2 hh => ⟨_, hh.1, rfl, hh.2⟩)) ?_
    rintro _ w7 ⟨rfl, hn, hp⟩
    have H7 : Hid (Mm w7 [(γ2_0, ints .u64 (rw8 (a i0) b (mgt (F 6) F a b i0)) 8), (γ1_0, ints .u64 F 13), (γ1_1, ints .u64 a 6), (γ1_2, ints .u64 b 6), (γ1_3, ints .u64 (fun _ => 0) 6)] ∧ Below w.heap.size w w7) := ⟨H6.out.1.change 0 rfl hp hn, Below.kp H6.out.2 hp o2_0.out H6.out.2.size⟩
    clear hn hp H6
    simp only [Act.put, sa, sz, ss]
    refine rest_nil (then_normal (wp_seq ?_))
    refine walk_seqB 8 [.quiet (.agg (ints .u64 F 13).toArray), .quiet (PT γ2_0 0), .quiet (U ((rw8 (a i0) b (mgt (F 6) F a b i0)) 0)), .quiet (PT γ1_0 6), .quiet (U (F 6)), .quiet (U (mgm (F 6) (rw8 (a i0) b (mgt (F 6) F a b i0)))), .quiet (PT γ1_0 0), .quiet (.agg (ints .u64 F 6).toArray)] H7 ?ho6 ?he6
    case ho6 => exact ak (fun γ => ⟨rfl, fun w' h => ex_loadT h 1 rfl rfl rfl Tryd.isAgg81 Tryd.sizeOf81 (ints_whole _ _ _) (ints_len _ _ _)⟩) (ak (fun γ => ⟨rfl, fun w' _ => ex_ix0_63 (j := 0) rfl rfl rfl (by decide)⟩) (ak (fun γ => ⟨rfl, fun w' h => ex_loadC h 0 rfl rfl rfl Tryd.isAgg22 (ints_get _ _ (by decide))⟩) (ak (by refine fun γ => ⟨rfl, fun w' h => ?_⟩; clear h; go_simp) (ak (fun γ => ⟨rfl, fun w' h => ex_loadC h 1 rfl rfl rfl Tryd.isAgg22 (ints_get _ _ (by decide))⟩) (ak (fun γ => ⟨rfl, fun w' _ => ex_mul64 rfl rfl rfl⟩) (ak (by refine fun γ => ⟨rfl, fun w' h => ?_⟩; clear h; go_simp) (ak (fun γ => ⟨rfl, fun w' h => ex_loadT h 1 rfl rfl rfl Tryd.isAgg24 Tryd.sizeOf24 (pre13 F) (ints_len _ _ _)⟩) trivial)))))))
    intro _ w8 H8
    clear H7
    refine rest_at (l := [8]) rfl ?_
    refine rest_enter (d := 30) (R := fun vv w' => vv = .tuple #[] ∧ Mm w' [(γ2_0, ints .u64 (rw8 (mgm (F 6) (rw8 (a i0) b (mgt (F 6) F a b i0))) F (rw8 (a i0) b (mgt (F 6) F a b i0))) 8)] ∧ Kp γ2_0 w8 w') rfl rfl rfl (exec_call (args := #[.agg (ints .u64 F 13).toArray, PT γ2_0 0, U (mgm (F 6) (rw8 (a i0) b (mgt (F 6) F a b i0))), .agg (ints .u64 F 6).toArray]) rfl call106 rfl (mpn rfl)) (Calls.mono (row_any F F (rw8 (a i0) b (mgt (F 6) F a b i0)) γ2_0 (mgm (F 6) (rw8 (a i0) b (mgt (F 6) F a b i0))) (Nat.mod_lt _ (by decide)) hN (fun i _ => rw8_lt i) w8 (H8.out.1.one 0 rfl)) (fun e w2 hh => ⟨_, hh.1, rfl, hh.2⟩)) ?_
    rintro _ w9 ⟨rfl, hn, hp⟩
    have H9 : Hid (Mm w9 [(γ2_0, ints .u64 (rw8 (mgm (F 6) (rw8 (a i0) b (mgt (F 6) F a b i0))) F (rw8 (a i0) b (mgt (F 6) F a b i0))) 8), (γ1_0, ints .u64 F 13), (γ1_1, ints .u64 a 6), (γ1_2, ints .u64 b 6), (γ1_3, ints .u64 (fun _ => 0) 6)] ∧ Below w.heap.size w w9) := ⟨H8.out.1.change 0 rfl hp hn, Below.kp H8.out.2 hp o2_0.out H8.out.2.size⟩
    clear hn hp H8
    simp only [Act.put, sa, sz, ss]
    refine rest_nil (then_normal ?_)
    refine wp_seq (wp_seq ?_)
    refine walk_seqB 1 [.quiet (.int .i64 0)] H9 ?ho7 ?he7
    case ho7 => exact ak (fun _ => ⟨rfl, fun _ _ => rfl⟩) trivial
    intro _ w10 H10
    clear H9
    refine rest0 rfl (then_normal (wp_block ?_))
    refine loop_ghost (α := Nat) (fun i1 a' w' => ∃ s2 : Nat → Value, a' = ⟨#[.agg (ints .u64 F 13).toArray, .agg (ints .u64 a 6).toArray, .agg (ints .u64 b 6).toArray, PT γ1_0 0, PT γ1_1 0, PT γ1_2 0, PT γ1_3 0, PT γ2_0 0, .int .i64 ((i0 : Nat) : Int), .int .i64 ((i1 : Nat) : Int), undef, undef, .int .i64 ((i0 : Nat) : Int), .bool true, s0 14, s0 15, .agg (ints .u64 F 13).toArray, .int .i64 ((i0 : Nat) : Int), PT γ1_1 i0, U (a i0), .agg (ints .u64 b 6).toArray, .tuple #[], .agg (ints .u64 F 13).toArray, PT γ2_0 0, U ((rw8 (a i0) b (mgt (F 6) F a b i0)) 0), PT γ1_0 6, U (F 6), U (mgm (F 6) (rw8 (a i0) b (mgt (F 6) F a b i0))), PT γ1_0 0, .agg (ints .u64 F 6).toArray, .tuple #[], s2 31, s2 32, s2 33, s2 34, s2 35, s2 36, s2 37, s2 38, s2 39, s2 40, s0 41, undef, undef, undef, undef, undef, undef, undef, undef, undef, undef, undef, undef, undef, undef, undef, undef, undef, undef, undef, undef, undef, undef, undef, undef, undef, undef, undef], []⟩ ∧ (Mm w' [(γ2_0, ints .u64 (shr (rw8 (mgm (F 6) (rw8 (a i0) b (mgt (F 6) F a b i0))) F (rw8 (a i0) b (mgt (F 6) F a b i0))) i1) 8), (γ1_0, ints .u64 F 13), (γ1_1, ints .u64 a 6), (γ1_2, ints .u64 b 6), (γ1_3, ints .u64 (fun _ => 0) 6)] ∧ Below w.heap.size w w') ∧ i1 ≤ 7) (fun i1 => 7 - i1) 0 ?st2 ?rd2
    case st2 => exact ⟨(slotfn [undef, undef, undef, undef, undef, undef, undef, undef, undef, undef, undef, undef, undef, undef, undef, undef, undef, undef, undef, undef, undef, undef, undef, undef, undef, undef, undef, undef, undef, undef, undef, s0 31, s0 32, s0 33, s0 34, s0 35, s0 36, s0 37, s0 38, s0 39, s0 40]), rfl, ⟨H10.out.1, H10.out.2⟩, by omega⟩
    intro i1 a' w11 hI
    obtain ⟨s2, rfl, hMB, hk2⟩ := hI
    have H11 : Hid (_ ∧ _) := hMB
    clear hMB H10
    by_cases hlti1 : i1 < 7
    · have hrd : True := trivial
      clear hrd
      refine wp_seq (wp_seq ?_)
      refine walk_seqB 2 [.quiet (.int .i64 ((i1 : Nat) : Int)), .quiet (.bool true)] H11 ?ho8 ?he8
      case ho8 => exact ak (fun _ => ⟨rfl, fun _ _ => rfl⟩) (ak (by refine fun γ => ⟨rfl, fun w' h => ?_⟩; clear h; go_simp <;> omega) trivial)
      intro _ w12 H12
      clear H11
      refine rest0 rfl (then_normal (wp_cond_true rfl ?_))
      refine wp_skip (then_normal ?_)
      refine wp_seq (wp_block ?_)
      refine walk_seqB 6 [.quiet (.int .i64 ((i1 : Nat) : Int)), .quiet (.int .i64 ((i1 : Nat) : Int)), .quiet (.int .i64 ((i1 + 1 : Nat) : Int)), .quiet (PT γ2_0 (i1 + 1)), .quiet (U ((shr (rw8 (mgm (F 6) (rw8 (a i0) b (mgt (F 6) F a b i0))) F (rw8 (a i0) b (mgt (F 6) F a b i0))) i1) (i1 + 1))), .quiet (PT γ2_0 i1)] H12 ?ho9 ?he9
      case ho9 => exact ak (fun _ => ⟨rfl, fun _ _ => rfl⟩) (ak (fun _ => ⟨rfl, fun _ _ => rfl⟩) (ak (by refine fun γ => ⟨rfl, fun w' h => ?_⟩; clear h; go_simp; rw [IntKind.wrap_i64]; omega) (ak (fun γ => ⟨rfl, fun w' _ => ex_ix0_63 (j := i1 + 1) rfl rfl rfl (by omega)⟩) (ak (fun γ => ⟨rfl, fun w' h => ex_loadC h 0 rfl rfl rfl Tryd.isAgg22 (ints_get _ _ (by omega))⟩) (ak (fun γ => ⟨rfl, fun w' _ => ex_ix0_63 (j := i1) rfl rfl rfl (by omega)⟩) trivial)))))
      intro _ w13 H13
      clear H12
      refine rest_at (l := [6]) rfl ?_
      refine rest_store rfl rfl rfl (ex_storeI H13.out.1 0 rfl rfl Tryd.sizeOf22 rfl rfl (by rw [ints_len]; omega)) ?_
      have H14 : Hid (Mm (w13.setCells γ2_0 i1 ([U ((shr (rw8 (mgm (F 6) (rw8 (a i0) b (mgt (F 6) F a b i0))) F (rw8 (a i0) b (mgt (F 6) F a b i0))) i1) (i1 + 1))])) [(γ2_0, ints .u64 (shr (rw8 (mgm (F 6) (rw8 (a i0) b (mgt (F 6) F a b i0))) F (rw8 (a i0) b (mgt (F 6) F a b i0))) (i1 + 1)) 8), (γ1_0, ints .u64 F 13), (γ1_1, ints .u64 a 6), (γ1_2, ints .u64 b 6), (γ1_3, ints .u64 (fun _ => 0) 6)] ∧ Below w.heap.size w (w13.setCells γ2_0 i1 ([U ((shr (rw8 (mgm (F 6) (rw8 (a i0) b (mgt (F 6) F a b i0))) F (rw8 (a i0) b (mgt (F 6) F a b i0))) i1) (i1 + 1))]))) := ⟨by
        have h := H13.out.1.put 0 (off := i1) (vs := [U ((shr (rw8 (mgm (F 6) (rw8 (a i0) b (mgt (F 6) F a b i0))) F (rw8 (a i0) b (mgt (F 6) F a b i0))) i1) (i1 + 1))]) rfl (by rw [ints_len]; simp only [List.length_cons, List.length_nil]; omega)
        rw [ints_patch _ _ _ _ (by omega), show ints .u64 (up (shr (rw8 (mgm (F 6) (rw8 (a i0) b (mgt (F 6) F a b i0))) F (rw8 (a i0) b (mgt (F 6) F a b i0))) i1) i1 ((shr (rw8 (mgm (F 6) (rw8 (a i0) b (mgt (F 6) F a b i0))) F (rw8 (a i0) b (mgt (F 6) F a b i0))) i1) (i1 + 1))) 8 = ints .u64 (shr (rw8 (mgm (F 6) (rw8 (a i0) b (mgt (F 6) F a b i0))) F (rw8 (a i0) b (mgt (F 6) F a b i0))) (i1 + 1)) 8 by rw [show (up (shr (rw8 (mgm (F 6) (rw8 (a i0) b (mgt (F 6) F a b i0))) F (rw8 (a i0) b (mgt (F 6) F a b i0))) i1) i1 ((shr (rw8 (mgm (F 6) (rw8 (a i0) b (mgt (F 6) F a b i0))) F (rw8 (a i0) b (mgt (F 6) F a b i0))) i1) (i1 + 1))) = (shr (rw8 (mgm (F 6) (rw8 (a i0) b (mgt (F 6) F a b i0))) F (rw8 (a i0) b (mgt (F 6) F a b i0))) (i1 + 1)) from shr_succ _ _]] at h
        exact h, below_setCells _ o2_0.out _ _ _ H13.out.2⟩
      clear H13
      generalize hgw : World.setCells _ _ _ _ = w14 at H14 ⊢
      clear hgw
      refine rest_nil (block_normal (then_normal ?_))
      refine walk_seqB 2 [.quiet (.int .i64 ((i1 : Nat) : Int)), .quiet (.int .i64 ((i1 + 1 : Nat) : Int))] H14 ?ho10 ?he10
      case ho10 => exact ak (fun _ => ⟨rfl, fun _ _ => rfl⟩) (ak (by refine fun γ => ⟨rfl, fun w' h => ?_⟩; clear h; go_simp; rw [IntKind.wrap_i64]; omega) trivial)
      intro _ w15 H15
      clear H14
      refine rest_at (l := [2]) rfl ?_
      refine rest_set (d := 9) rfl rfl rfl rfl ?_
      simp only [Act.put, sa, sz, ss]
      refine rest_nil (then_normal ?_)
      exact ⟨i1 + 1, ⟨(slotfn [undef, undef, undef, undef, undef, undef, undef, undef, undef, undef, undef, undef, undef, undef, undef, undef, undef, undef, undef, undef, undef, undef, undef, undef, undef, undef, undef, undef, undef, undef, undef, .int .i64 ((i1 : Nat) : Int), .bool true, .int .i64 ((i1 : Nat) : Int), .int .i64 ((i1 + 1 : Nat) : Int), .int .i64 ((i1 : Nat) : Int), .int .i64 ((i1 : Nat) : Int), .int .i64 ((i1 + 1 : Nat) : Int), PT γ2_0 (i1 + 1), U ((shr (rw8 (mgm (F 6) (rw8 (a i0) b (mgt (F 6) F a b i0))) F (rw8 (a i0) b (mgt (F 6) F a b i0))) i1) (i1 + 1)), PT γ2_0 i1]), rfl, ⟨H15.out.1, H15.out.2⟩, by omega⟩, by omega⟩
    have hi1N : i1 = 7 := by omega
    subst hi1N
    refine wp_seq (wp_seq ?_)
    refine walk_seqB 2 [.quiet (.int .i64 ((7 : Nat) : Int)), .quiet (.bool false)] H11 ?ho11 ?he11
    case ho11 => exact ak (fun _ => ⟨rfl, fun _ _ => rfl⟩) (ak (by refine fun γ => ⟨rfl, fun w' h => ?_⟩; clear h; go_simp <;> omega) trivial)
    intro _ w16 H16
    clear H11
    refine rest0 rfl (then_normal (wp_cond_false rfl ?_))
    refine wp_exit ?_
    repeat refine then_exit ?_
    refine block_exit ?_
    refine then_normal ?_
    refine walk_seqB 1 [.quiet (PT γ2_0 7)] H16 ?ho12 ?he12
    case ho12 => exact ak (fun γ => ⟨rfl, fun w' _ => ex_ix0_63 (j := 7) rfl rfl rfl (by decide)⟩) trivial
    intro _ w17 H17
    clear H16
    refine rest_at (l := [1]) rfl ?_
    refine rest_store rfl rfl rfl (ex_storeI H17.out.1 0 rfl rfl Tryd.sizeOf22 rfl rfl (by rw [ints_len]; decide)) ?_
    have H18 : Hid (Mm (w17.setCells γ2_0 7 ([U 0])) [(γ2_0, ints .u64 (mgt (F 6) F a b (i0 + 1)) 8), (γ1_0, ints .u64 F 13), (γ1_1, ints .u64 a 6), (γ1_2, ints .u64 b 6), (γ1_3, ints .u64 (fun _ => 0) 6)] ∧ Below w.heap.size w (w17.setCells γ2_0 7 ([U 0]))) := ⟨by
      have h := H17.out.1.put 0 (off := 7) (vs := [U 0]) rfl (by rw [ints_len]; simp only [List.length_cons, List.length_nil]; decide)
      rw [ints_patch _ _ _ _ (by decide), show ints .u64 (up (shr (rw8 (mgm (F 6) (rw8 (a i0) b (mgt (F 6) F a b i0))) F (rw8 (a i0) b (mgt (F 6) F a b i0))) 7) 7 0) 8 = ints .u64 (mgt (F 6) F a b (i0 + 1)) 8 by rw [show (up (shr (rw8 (mgm (F 6) (rw8 (a i0) b (mgt (F 6) F a b i0))) F (rw8 (a i0) b (mgt (F 6) F a b i0))) 7) 7 0) = (mgt (F 6) F a b (i0 + 1)) from rfl]] at h
      exact h, below_setCells _ o2_0.out _ _ _ H17.out.2⟩
    clear H17
    generalize hgw : World.setCells _ _ _ _ = w18 at H18 ⊢
    clear hgw
    refine rest_nil (block_normal (then_normal ?_))
    refine walk_seqB 2 [.quiet (.int .i64 ((i0 : Nat) : Int)), .quiet (.int .i64 ((i0 + 1 : Nat) : Int))] H18 ?ho13 ?he13
    case ho13 => exact ak (fun _ => ⟨rfl, fun _ _ => rfl⟩) (ak (by refine fun γ => ⟨rfl, fun w' h => ?_⟩; clear h; go_simp; rw [IntKind.wrap_i64]; omega) trivial)
    intro _ w19 H19
    clear H18
    refine rest_at (l := [2]) rfl ?_
    refine rest_set (d := 8) rfl rfl rfl rfl ?_
    simp only [Act.put, sa, sz, ss]
    refine rest_nil (then_normal ?_)
    exact ⟨i0 + 1, ⟨(slotfn [undef, undef, undef, undef, undef, undef, undef, undef, undef, .int .i64 ((7 : Nat) : Int), undef, undef, .int .i64 ((i0 : Nat) : Int), .bool true, .int .i64 ((i0 : Nat) : Int), .int .i64 ((i0 + 1 : Nat) : Int), .agg (ints .u64 F 13).toArray, .int .i64 ((i0 : Nat) : Int), PT γ1_1 i0, U (a i0), .agg (ints .u64 b 6).toArray, .tuple #[], .agg (ints .u64 F 13).toArray, PT γ2_0 0, U ((rw8 (a i0) b (mgt (F 6) F a b i0)) 0), PT γ1_0 6, U (F 6), U (mgm (F 6) (rw8 (a i0) b (mgt (F 6) F a b i0))), PT γ1_0 0, .agg (ints .u64 F 6).toArray, .tuple #[], .int .i64 ((7 : Nat) : Int), .bool false, s2 33, s2 34, s2 35, s2 36, s2 37, s2 38, s2 39, s2 40, PT γ2_0 7]), rfl, ⟨H19.out.1, H19.out.2⟩, by omega⟩, by omega⟩
  have hi0N : i0 = 6 := by omega
  subst hi0N
  refine wp_seq (wp_seq ?_)
  refine walk_seqB 2 [.quiet (.int .i64 ((6 : Nat) : Int)), .quiet (.bool false)] H4 ?ho14 ?he14
  case ho14 => exact ak (fun _ => ⟨rfl, fun _ _ => rfl⟩) (ak (by refine fun γ => ⟨rfl, fun w' h => ?_⟩; clear h; go_simp <;> omega) trivial)
  intro _ w20 H20
  clear H4
  refine rest0 rfl (then_normal (wp_cond_false rfl ?_))
  refine wp_exit ?_
  repeat refine then_exit ?_
  refine block_exit ?_
  refine then_normal (wp_seq ?_)
  refine walk_seqA 1 [.made (ints .u64 (fun _ => 0) 6) 24] (sB H20) ?ho15 ?he15
  case ho15 => exact ak (fun γ => ⟨rfl, fun w' => ex_mk25 rfl⟩) trivial
  intro γ w21 l hM hl
  have H21 : Hid (Mm w21 [(γ 0, ints .u64 (fun _ => 0) 6), (γ2_0, ints .u64 (mgt (F 6) F a b 6) 8), (γ1_0, ints .u64 F 13), (γ1_1, ints .u64 a 6), (γ1_2, ints .u64 b 6), (γ1_3, ints .u64 (fun _ => 0) 6)] ∧ _) := growB H20 hM (Nat.le_refl _) hl [0] rfl (by decide)
  have o15_0 := ownB H20 hM (Nat.le_refl _) hl (i := 0) rfl
  clear hM hl l H20
  generalize γ 0 = γ15_0 at H21 o15_0 ⊢
  clear γ
  refine rest0 rfl (then_normal (wp_seq (wp_seq ?_)))
  refine walk_seqB 1 [.quiet (.int .i64 0)] H21 ?ho16 ?he16
  case ho16 => exact ak (fun _ => ⟨rfl, fun _ _ => rfl⟩) trivial
  intro _ w22 H22
  clear H21
  refine rest0 rfl (then_normal (wp_block ?_))
  refine loop_ghost (α := Nat) (fun i2 a' w' => ∃ s4 : Nat → Value, a' = ⟨#[.agg (ints .u64 F 13).toArray, .agg (ints .u64 a 6).toArray, .agg (ints .u64 b 6).toArray, PT γ1_0 0, PT γ1_1 0, PT γ1_2 0, PT γ1_3 0, PT γ2_0 0, .int .i64 ((6 : Nat) : Int), s0 9, PT γ15_0 0, .int .i64 ((i2 : Nat) : Int), .int .i64 ((6 : Nat) : Int), .bool false, s0 14, s0 15, s0 16, s0 17, s0 18, s0 19, s0 20, s0 21, s0 22, s0 23, s0 24, s0 25, s0 26, s0 27, s0 28, s0 29, s0 30, s0 31, s0 32, s0 33, s0 34, s0 35, s0 36, s0 37, s0 38, s0 39, s0 40, s0 41, s4 42, s4 43, s4 44, s4 45, s4 46, s4 47, s4 48, s4 49, s4 50, undef, undef, undef, undef, undef, undef, undef, undef, undef, undef, undef, undef, undef, undef, undef, undef, undef, undef], []⟩ ∧ (Mm w' [(γ15_0, ints .u64 (cpy (mgt (F 6) F a b 6) i2) 6), (γ2_0, ints .u64 (mgt (F 6) F a b 6) 8), (γ1_0, ints .u64 F 13), (γ1_1, ints .u64 a 6), (γ1_2, ints .u64 b 6), (γ1_3, ints .u64 (fun _ => 0) 6)] ∧ Below w.heap.size w w') ∧ i2 ≤ 6) (fun i2 => 6 - i2) 0 ?st4 ?rd4
  case st4 => exact ⟨(slotfn [undef, undef, undef, undef, undef, undef, undef, undef, undef, undef, undef, undef, undef, undef, undef, undef, undef, undef, undef, undef, undef, undef, undef, undef, undef, undef, undef, undef, undef, undef, undef, undef, undef, undef, undef, undef, undef, undef, undef, undef, undef, undef, undef, undef, undef, undef, undef, undef, undef, undef, undef]), rfl, ⟨H22.out.1, H22.out.2⟩, by omega⟩
  intro i2 a' w23 hI
  obtain ⟨s4, rfl, hMB, hk4⟩ := hI
  have H23 : Hid (_ ∧ _) := hMB
  clear hMB H22
  by_cases hlti2 : i2 < 6
  · have hrd : True := trivial
    clear hrd
    refine wp_seq (wp_seq ?_)
    refine walk_seqB 2 [.quiet (.int .i64 ((i2 : Nat) : Int)), .quiet (.bool true)] H23 ?ho17 ?he17
    case ho17 => exact ak (fun _ => ⟨rfl, fun _ _ => rfl⟩) (ak (by refine fun γ => ⟨rfl, fun w' h => ?_⟩; clear h; go_simp <;> omega) trivial)
    intro _ w24 H24
    clear H23
    refine rest0 rfl (then_normal (wp_cond_true rfl ?_))
    refine wp_skip (then_normal ?_)
    refine wp_seq (wp_block ?_)
    refine walk_seqB 5 [.quiet (.int .i64 ((i2 : Nat) : Int)), .quiet (.int .i64 ((i2 : Nat) : Int)), .quiet (PT γ2_0 i2), .quiet (U ((mgt (F 6) F a b 6) i2)), .quiet (PT γ15_0 i2)] H24 ?ho18 ?he18
    case ho18 => exact ak (fun _ => ⟨rfl, fun _ _ => rfl⟩) (ak (fun _ => ⟨rfl, fun _ _ => rfl⟩) (ak (fun γ => ⟨rfl, fun w' _ => ex_ix0_63 (j := i2) rfl rfl rfl (by omega)⟩) (ak (fun γ => ⟨rfl, fun w' h => ex_loadC h 1 rfl rfl rfl Tryd.isAgg22 (ints_get _ _ (by omega))⟩) (ak (fun γ => ⟨rfl, fun w' _ => ex_ix0_25 (j := i2) rfl rfl rfl (by omega)⟩) trivial))))
    intro _ w25 H25
    clear H24
    refine rest_at (l := [5]) rfl ?_
    refine rest_store rfl rfl rfl (ex_storeI H25.out.1 0 rfl rfl Tryd.sizeOf22 rfl rfl (by rw [ints_len]; omega)) ?_
    have H26 : Hid (Mm (w25.setCells γ15_0 i2 ([U ((mgt (F 6) F a b 6) i2)])) [(γ15_0, ints .u64 (cpy (mgt (F 6) F a b 6) (i2 + 1)) 6), (γ2_0, ints .u64 (mgt (F 6) F a b 6) 8), (γ1_0, ints .u64 F 13), (γ1_1, ints .u64 a 6), (γ1_2, ints .u64 b 6), (γ1_3, ints .u64 (fun _ => 0) 6)] ∧ Below w.heap.size w (w25.setCells γ15_0 i2 ([U ((mgt (F 6) F a b 6) i2)]))) := ⟨by
      have h := H25.out.1.put 0 (off := i2) (vs := [U ((mgt (F 6) F a b 6) i2)]) rfl (by rw [ints_len]; simp only [List.length_cons, List.length_nil]; omega)
      rw [ints_patch _ _ _ _ (by omega), show ints .u64 (up (cpy (mgt (F 6) F a b 6) i2) i2 ((mgt (F 6) F a b 6) i2)) 6 = ints .u64 (cpy (mgt (F 6) F a b 6) (i2 + 1)) 6 by rw [show (up (cpy (mgt (F 6) F a b 6) i2) i2 ((mgt (F 6) F a b 6) i2)) = (cpy (mgt (F 6) F a b 6) (i2 + 1)) from cpy_succ _ _]] at h
      exact h, below_setCells _ o15_0.out _ _ _ H25.out.2⟩
    clear H25
    generalize hgw : World.setCells _ _ _ _ = w26 at H26 ⊢
    clear hgw
    refine rest_nil (block_normal (then_normal ?_))
    refine walk_seqB 2 [.quiet (.int .i64 ((i2 : Nat) : Int)), .quiet (.int .i64 ((i2 + 1 : Nat) : Int))] H26 ?ho19 ?he19
    case ho19 => exact ak (fun _ => ⟨rfl, fun _ _ => rfl⟩) (ak (by refine fun γ => ⟨rfl, fun w' h => ?_⟩; clear h; go_simp; rw [IntKind.wrap_i64]; omega) trivial)
    intro _ w27 H27
    clear H26
    refine rest_at (l := [2]) rfl ?_
    refine rest_set (d := 11) rfl rfl rfl rfl ?_
    simp only [Act.put, sa, sz, ss]
    refine rest_nil (then_normal ?_)
    exact ⟨i2 + 1, ⟨(slotfn [undef, undef, undef, undef, undef, undef, undef, undef, undef, undef, undef, undef, undef, undef, undef, undef, undef, undef, undef, undef, undef, undef, undef, undef, undef, undef, undef, undef, undef, undef, undef, undef, undef, undef, undef, undef, undef, undef, undef, undef, undef, undef, .int .i64 ((i2 : Nat) : Int), .bool true, .int .i64 ((i2 : Nat) : Int), .int .i64 ((i2 + 1 : Nat) : Int), .int .i64 ((i2 : Nat) : Int), .int .i64 ((i2 : Nat) : Int), PT γ2_0 i2, U ((mgt (F 6) F a b 6) i2), PT γ15_0 i2]), rfl, ⟨H27.out.1, H27.out.2⟩, by omega⟩, by omega⟩
  have hi2N : i2 = 6 := by omega
  subst hi2N
  refine wp_seq (wp_seq ?_)
  refine walk_seqB 2 [.quiet (.int .i64 ((6 : Nat) : Int)), .quiet (.bool false)] H23 ?ho20 ?he20
  case ho20 => exact ak (fun _ => ⟨rfl, fun _ _ => rfl⟩) (ak (by refine fun γ => ⟨rfl, fun w' h => ?_⟩; clear h; go_simp <;> omega) trivial)
  intro _ w28 H28
  clear H23
  refine rest0 rfl (then_normal (wp_cond_false rfl ?_))
  refine wp_exit ?_
  repeat refine then_exit ?_
  refine block_exit ?_
  refine then_normal (wp_seq (wp_seq ?_))
  refine walk_seqB 10 [.quiet (PT γ2_0 6), .quiet (U ((mgt (F 6) F a b 6) 6)), .quiet (.bool true), .quiet (.bool true), .gone, .gone, .gone, .gone, .gone, .quiet (.bool true)] H28 ?ho21 ?he21
  case ho21 => exact ak (fun γ => ⟨rfl, fun w' _ => ex_ix0_63 (j := 6) rfl rfl rfl (by decide)⟩) (ak (fun γ => ⟨rfl, fun w' h => ex_loadC h 1 rfl rfl rfl Tryd.isAgg22 (ints_get _ _ (by decide))⟩) (ak (fun γ => ⟨rfl, fun w' _ => ex_ne64 (a := (mgt (F 6) F a b 6) 6) (by rw [decide_eq_false h6]; rfl) rfl rfl rfl⟩) (ak (fun _ => ⟨rfl, fun _ _ => rfl⟩) (ak (fun γ => rfl) (ak (fun γ => rfl) (ak (fun γ => rfl) (ak (fun γ => rfl) (ak (fun γ => rfl) (ak (by refine fun γ => ⟨rfl, fun w' h => ?_⟩; clear h; go_simp) trivial)))))))))
  intro _ w29 H29
  clear H28
  refine rest0 rfl (then_normal (wp_cond_true rfl ?_))
  refine walk_seqB 7 [.quiet (.agg (ints .u64 (cpy (mgt (F 6) F a b 6) 6) 6).toArray), .quiet (PT γ1_0 0), .quiet (.agg (ints .u64 F 6).toArray), .call (.tuple #[.agg (ints .u64 D 6).toArray, .bool bb]), .quiet (.tuple #[.agg (ints .u64 D 6).toArray, .bool bb]), .quiet (.agg (ints .u64 D 6).toArray), .quiet (.bool bb)] H29 ?ho22 ?he22
  case ho22 => exact ak (fun γ => ⟨rfl, fun w' h => ex_loadT h 0 rfl rfl rfl Tryd.isAgg24 Tryd.sizeOf24 (ints_whole _ _ _) (ints_len _ _ _)⟩) (ak (by refine fun γ => ⟨rfl, fun w' h => ?_⟩; clear h; go_simp) (ak (fun γ => ⟨rfl, fun w' h => ex_loadT h 2 rfl rfl rfl Tryd.isAgg24 Tryd.sizeOf24 (pre13 F) (ints_len _ _ _)⟩) (ak (fun γ => ⟨rfl, fun w' h => ⟨57, #[.agg (ints .u64 (cpy (mgt (F 6) F a b 6) 6) 6).toArray, .agg (ints .u64 F 6).toArray], exec_call rfl call57 rfl (mpn rfl), HS.out w'⟩⟩) (ak (fun _ => ⟨rfl, fun _ _ => rfl⟩) (ak (by refine fun γ => ⟨rfl, fun w' h => ?_⟩; clear h; go_simp) (ak (by refine fun γ => ⟨rfl, fun w' h => ?_⟩; clear h; go_simp) trivial))))))
  intro _ w30 H30
  clear H29
  refine rest_at (l := [7]) rfl ?_
  refine rest_store rfl rfl rfl (ex_storeT (vs := ints .u64 D 6) H30.out.1 0 rfl rfl rfl rfl (by rw [ints_len]; exact Tryd.sizeOf24) (ints_all _ _ _) (by simp [ints_len])) ?_
  have H31 : Hid (Mm (w30.setCells γ15_0 0 (ints .u64 D 6)) [(γ15_0, ints .u64 D 6), (γ2_0, ints .u64 (mgt (F 6) F a b 6) 8), (γ1_0, ints .u64 F 13), (γ1_1, ints .u64 a 6), (γ1_2, ints .u64 b 6), (γ1_3, ints .u64 (fun _ => 0) 6)] ∧ Below w.heap.size w (w30.setCells γ15_0 0 (ints .u64 D 6))) := ⟨by
    have h := H30.out.1.put 0 (off := 0) (vs := ints .u64 D 6) rfl (by simp [ints_len])
    rw [ints_patch0 _ _ _ _] at h
    exact h, below_setCells _ o15_0.out _ _ _ H30.out.2⟩
  clear H30
  generalize hgw : World.setCells _ _ _ _ = w31 at H31 ⊢
  clear hgw
  refine rest_nil (then_normal (wp_seq ?_))
  refine walk_seqB 1 [.quiet (.agg (ints .u64 D 6).toArray)] H31 ?ho23 ?he23
  case ho23 => exact ak (fun γ => ⟨rfl, fun w' h => ex_loadT h 0 rfl rfl rfl Tryd.isAgg24 Tryd.sizeOf24 (ints_whole _ _ _) (ints_len _ _ _)⟩) trivial
  intro _ w32 H32
  clear H31
  refine rest_at (l := [1]) rfl ?_
  refine rest_store rfl rfl rfl (ex_storeT (vs := ints .u64 D 6) H32.out.1 5 rfl rfl rfl rfl (by rw [ints_len]; exact Tryd.sizeOf24) (ints_all _ _ _) (by simp [ints_len])) ?_
  have H33 : Hid (Mm (w32.setCells γ1_3 0 (ints .u64 D 6)) [(γ15_0, ints .u64 D 6), (γ2_0, ints .u64 (mgt (F 6) F a b 6) 8), (γ1_0, ints .u64 F 13), (γ1_1, ints .u64 a 6), (γ1_2, ints .u64 b 6), (γ1_3, ints .u64 D 6)] ∧ Below w.heap.size w (w32.setCells γ1_3 0 (ints .u64 D 6))) := ⟨by
    have h := H32.out.1.put 5 (off := 0) (vs := ints .u64 D 6) rfl (by simp [ints_len])
    rw [ints_patch0 _ _ _ _] at h
    exact h, below_setCells _ o1_3.out _ _ _ H32.out.2⟩
  clear H32
  generalize hgw : World.setCells _ _ _ _ = w33 at H33 ⊢
  clear hgw
  refine rest_nil (then_normal (wp_ret ?_))
  repeat (first | refine then_ret ?_ | refine block_ret ?_)
  have hf0 := var_T H33.out.1 5 rfl Tryd.isAgg24 Tryd.sizeOf24 (ints_len _ _ _)
  refine bodyPost_ret (v := .agg (ints .u64 D 6).toArray) (by simp [results, Tryd.results88, asAddr, hf0]) rfl ?_
  exact ⟨rfl, H33.out.2⟩
set_option maxHeartbeats 2000000 in
set_option maxRecDepth 100000 in
theorem mont_b (F a b D : Nat → Nat) (z : Int) (bb : Bool) (hA : ∀ i, i < 6 → a i < 18446744073709551616) (hB : ∀ i, i < 6 → b i < 18446744073709551616) (hN : ∀ i, i < 6 → F i < 18446744073709551616) (hC0 : ∀ w, Calls Tryd.prog 54 #[.agg (ints .u64 (cpy (mgt (F 6) F a b 6) 6) 6).toArray, .agg (ints .u64 F 6).toArray] w fun e w' => e = .returned (.int .i64 z) ∧ Below w.heap.size w w') (hS0 : ∀ w, Calls Tryd.prog 57 #[.agg (ints .u64 (cpy (mgt (F 6) F a b 6) 6) 6).toArray, .agg (ints .u64 F 6).toArray] w fun e w' => e = .returned (.tuple #[.agg (ints .u64 D 6).toArray, .bool bb]) ∧ Below w.heap.size w w') (h6 : (mgt (F 6) F a b 6) 6 = 0) (hz : 0 ≤ z) (w : World) :
    Calls Tryd.prog 88 #[.agg (ints .u64 F 13).toArray, .agg (ints .u64 a 6).toArray, .agg (ints .u64 b 6).toArray] w fun e w' => e = .returned (.agg (ints .u64 D 6).toArray) ∧ Below w.heap.size w w' := by
  have H0 : Hid (_ ∧ _) := ⟨Mm.nil w, Below.refl w.heap.size w⟩
  have HC : Hid _ := hC0
  have HS : Hid _ := hS0
  clear hC0 hS0
  go_enter Tryd.func88, Tryd.ntmps88
  refine wp_seq ?_
  refine walk_seqA 4 [.made (ints .u64 F 13) 81, .made (ints .u64 a 6) 24, .made (ints .u64 b 6) 24, .made (ints .u64 (fun _ => 0) 6) 24] (sB H0) ?ho1 ?he1
  case ho1 => exact ak (fun γ => ⟨rfl, fun w' => ex_boxT rfl rfl⟩) (ak (fun γ => ⟨rfl, fun w' => ex_boxT rfl rfl⟩) (ak (fun γ => ⟨rfl, fun w' => ex_boxT rfl rfl⟩) (ak (fun γ => ⟨rfl, fun w' => ex_mk25 rfl⟩) trivial)))
  intro γ w1 l hM hl
  have H1 : Hid (Mm w1 [(γ 0, ints .u64 F 13), (γ 1, ints .u64 a 6), (γ 2, ints .u64 b 6), (γ 3, ints .u64 (fun _ => 0) 6)] ∧ _) := growB H0 hM (Nat.le_refl _) hl [0, 1, 2, 3] rfl (by decide)
  have o1_0 := ownB H0 hM (Nat.le_refl _) hl (i := 0) rfl
  have o1_1 := ownB H0 hM (Nat.le_refl _) hl (i := 1) rfl
  have o1_2 := ownB H0 hM (Nat.le_refl _) hl (i := 2) rfl
  have o1_3 := ownB H0 hM (Nat.le_refl _) hl (i := 3) rfl
  clear hM hl l
  generalize γ 0 = γ1_0 at H1 o1_0 ⊢
  generalize γ 1 = γ1_1 at H1 o1_1 ⊢
  generalize γ 2 = γ1_2 at H1 o1_2 ⊢
  generalize γ 3 = γ1_3 at H1 o1_3 ⊢
  clear γ
  refine rest0 rfl (then_normal (wp_seq ?_))
  refine walk_seqA 1 [.made (ints .u64 (fun _ => 0) 8) 133] (sB H1) ?ho2 ?he2
  case ho2 => exact ak (fun γ => ⟨rfl, fun w' => ex_mk63 rfl⟩) trivial
  intro γ w2 l hM hl
  have H2 : Hid (Mm w2 [(γ 0, ints .u64 (fun _ => 0) 8), (γ1_0, ints .u64 F 13), (γ1_1, ints .u64 a 6), (γ1_2, ints .u64 b 6), (γ1_3, ints .u64 (fun _ => 0) 6)] ∧ _) := growB H1 hM (Nat.le_refl _) hl [0] rfl (by decide)
  have o2_0 := ownB H1 hM (Nat.le_refl _) hl (i := 0) rfl
  clear hM hl l H1
  generalize γ 0 = γ2_0 at H2 o2_0 ⊢
  clear γ
  refine rest0 rfl (then_normal (wp_seq (wp_seq ?_)))
  refine walk_seqB 1 [.quiet (.int .i64 0)] H2 ?ho3 ?he3
  case ho3 => exact ak (fun _ => ⟨rfl, fun _ _ => rfl⟩) trivial
  intro _ w3 H3
  clear H2
  refine rest0 rfl (then_normal (wp_block ?_))
  refine loop_ghost (α := Nat) (fun i0 a' w' => ∃ s0 : Nat → Value, a' = ⟨#[.agg (ints .u64 F 13).toArray, .agg (ints .u64 a 6).toArray, .agg (ints .u64 b 6).toArray, PT γ1_0 0, PT γ1_1 0, PT γ1_2 0, PT γ1_3 0, PT γ2_0 0, .int .i64 ((i0 : Nat) : Int), s0 9, undef, undef, s0 12, s0 13, s0 14, s0 15, s0 16, s0 17, s0 18, s0 19, s0 20, s0 21, s0 22, s0 23, s0 24, s0 25, s0 26, s0 27, s0 28, s0 29, s0 30, s0 31, s0 32, s0 33, s0 34, s0 35, s0 36, s0 37, s0 38, s0 39, s0 40, s0 41, undef, undef, undef, undef, undef, undef, undef, undef, undef, undef, undef, undef, undef, undef, undef, undef, undef, undef, undef, undef, undef, undef, undef, undef, undef, undef, undef], []⟩ ∧ (Mm w' [(γ2_0, ints .u64 (mgt (F 6) F a b i0) 8), (γ1_0, ints .u64 F 13), (γ1_1, ints .u64 a 6), (γ1_2, ints .u64 b 6), (γ1_3, ints .u64 (fun _ => 0) 6)] ∧ Below w.heap.size w w') ∧ i0 ≤ 6) (fun i0 => 6 - i0) 0 ?st0 ?rd0
  case st0 => exact ⟨(slotfn [undef, undef, undef, undef, undef, undef, undef, undef, undef, undef, undef, undef, undef, undef, undef, undef, undef, undef, undef, undef, undef, undef, undef, undef, undef, undef, undef, undef, undef, undef, undef, undef, undef, undef, undef, undef, undef, undef, undef, undef, undef, undef]), rfl, ⟨H3.out.1, H3.out.2⟩, by omega⟩
  intro i0 a' w4 hI
  obtain ⟨s0, rfl, hMB, hk0⟩ := hI
  have H4 : Hid (_ ∧ _) := hMB
  clear hMB H3
  by_cases hlti0 : i0 < 6
  · have hrd : True := trivial
    clear hrd
    refine wp_seq (wp_seq ?_)
    refine walk_seqB 2 [.quiet (.int .i64 ((i0 : Nat) : Int)), .quiet (.bool true)] H4 ?ho4 ?he4
    case ho4 => exact ak (fun _ => ⟨rfl, fun _ _ => rfl⟩) (ak (by refine fun γ => ⟨rfl, fun w' h => ?_⟩; clear h; go_simp <;> omega) trivial)
    intro _ w5 H5
    clear H4
    refine rest0 rfl (then_normal (wp_cond_true rfl ?_))
    refine wp_skip (then_normal ?_)
    refine wp_seq (wp_block (wp_seq ?_))
    refine walk_anyB 5 [.quiet (.agg (ints .u64 F 13).toArray), .quiet (.int .i64 ((i0 : Nat) : Int)), .quiet (PT γ1_1 i0), .quiet (U (a i0)), .quiet (.agg (ints .u64 b 6).toArray)] H5 ?ho5 ?he5
    case ho5 => exact ak (fun γ => ⟨rfl, fun w' h => ex_loadT h 1 rfl rfl rfl Tryd.isAgg81 Tryd.sizeOf81 (ints_whole _ _ _) (ints_len _ _ _)⟩) (ak (fun _ => ⟨rfl, fun _ _ => rfl⟩) (ak (fun γ => ⟨rfl, fun w' _ => ex_ix0_25 (j := i0) rfl rfl rfl (by omega)⟩) (ak (fun γ => ⟨rfl, fun w' h => ex_loadC h 2 rfl rfl rfl Tryd.isAgg22 (ints_get _ _ (by omega))⟩) (ak (fun γ => ⟨rfl, fun w' h => ex_loadT h 3 rfl rfl rfl Tryd.isAgg24 Tryd.sizeOf24 (ints_whole _ _ _) (ints_len _ _ _)⟩) trivial))))
    intro _ w6 H6
    clear H5
    refine rest_at (l := [5]) rfl ?_
    refine rest_enter (d := 21) (R := fun vv w' => vv = .tuple #[] ∧ Mm w' [(γ2_0, ints .u64 (rw8 (a i0) b (mgt (F 6) F a b i0)) 8)] ∧ Kp γ2_0 w6 w') rfl rfl rfl (exec_call (args := #[.agg (ints .u64 F 13).toArray, PT γ2_0 0, U (a i0), .agg (ints .u64 b 6).toArray]) rfl call106 rfl (mpn rfl)) (Calls.mono (row_any F b (mgt (F 6) F a b i0) γ2_0 (a i0) (hA i0 (by omega)) hB (fun i _ => mgt_lt i0 i) w6 (H6.out.1.one 0 rfl)) (fun e w2 hh => ⟨_, hh.1, rfl, hh.2⟩)) ?_
    rintro _ w7 ⟨rfl, hn, hp⟩
    have H7 : Hid (Mm w7 [(γ2_0, ints .u64 (rw8 (a i0) b (mgt (F 6) F a b i0)) 8), (γ1_0, ints .u64 F 13), (γ1_1, ints .u64 a 6), (γ1_2, ints .u64 b 6), (γ1_3, ints .u64 (fun _ => 0) 6)] ∧ Below w.heap.size w w7) := ⟨H6.out.1.change 0 rfl hp hn, Below.kp H6.out.2 hp o2_0.out H6.out.2.size⟩
    clear hn hp H6
    simp only [Act.put, sa, sz, ss]
    refine rest_nil (then_normal (wp_seq ?_))
    refine walk_seqB 8 [.quiet (.agg (ints .u64 F 13).toArray), .quiet (PT γ2_0 0), .quiet (U ((rw8 (a i0) b (mgt (F 6) F a b i0)) 0)), .quiet (PT γ1_0 6), .quiet (U (F 6)), .quiet (U (mgm (F 6) (rw8 (a i0) b (mgt (F 6) F a b i0)))), .quiet (PT γ1_0 0), .quiet (.agg (ints .u64 F 6).toArray)] H7 ?ho6 ?he6
    case ho6 => exact ak (fun γ => ⟨rfl, fun w' h => ex_loadT h 1 rfl rfl rfl Tryd.isAgg81 Tryd.sizeOf81 (ints_whole _ _ _) (ints_len _ _ _)⟩) (ak (fun γ => ⟨rfl, fun w' _ => ex_ix0_63 (j := 0) rfl rfl rfl (by decide)⟩) (ak (fun γ => ⟨rfl, fun w' h => ex_loadC h 0 rfl rfl rfl Tryd.isAgg22 (ints_get _ _ (by decide))⟩) (ak (by refine fun γ => ⟨rfl, fun w' h => ?_⟩; clear h; go_simp) (ak (fun γ => ⟨rfl, fun w' h => ex_loadC h 1 rfl rfl rfl Tryd.isAgg22 (ints_get _ _ (by decide))⟩) (ak (fun γ => ⟨rfl, fun w' _ => ex_mul64 rfl rfl rfl⟩) (ak (by refine fun γ => ⟨rfl, fun w' h => ?_⟩; clear h; go_simp) (ak (fun γ => ⟨rfl, fun w' h => ex_loadT h 1 rfl rfl rfl Tryd.isAgg24 Tryd.sizeOf24 (pre13 F) (ints_len _ _ _)⟩) trivial)))))))
    intro _ w8 H8
    clear H7
    refine rest_at (l := [8]) rfl ?_
    refine rest_enter (d := 30) (R := fun vv w' => vv = .tuple #[] ∧ Mm w' [(γ2_0, ints .u64 (rw8 (mgm (F 6) (rw8 (a i0) b (mgt (F 6) F a b i0))) F (rw8 (a i0) b (mgt (F 6) F a b i0))) 8)] ∧ Kp γ2_0 w8 w') rfl rfl rfl (exec_call (args := #[.agg (ints .u64 F 13).toArray, PT γ2_0 0, U (mgm (F 6) (rw8 (a i0) b (mgt (F 6) F a b i0))), .agg (ints .u64 F 6).toArray]) rfl call106 rfl (mpn rfl)) (Calls.mono (row_any F F (rw8 (a i0) b (mgt (F 6) F a b i0)) γ2_0 (mgm (F 6) (rw8 (a i0) b (mgt (F 6) F a b i0))) (Nat.mod_lt _ (by decide)) hN (fun i _ => rw8_lt i) w8 (H8.out.1.one 0 rfl)) (fun e w2 hh => ⟨_, hh.1, rfl, hh.2⟩)) ?_
    rintro _ w9 ⟨rfl, hn, hp⟩
    have H9 : Hid (Mm w9 [(γ2_0, ints .u64 (rw8 (mgm (F 6) (rw8 (a i0) b (mgt (F 6) F a b i0))) F (rw8 (a i0) b (mgt (F 6) F a b i0))) 8), (γ1_0, ints .u64 F 13), (γ1_1, ints .u64 a 6), (γ1_2, ints .u64 b 6), (γ1_3, ints .u64 (fun _ => 0) 6)] ∧ Below w.heap.size w w9) := ⟨H8.out.1.change 0 rfl hp hn, Below.kp H8.out.2 hp o2_0.out H8.out.2.size⟩
    clear hn hp H8
    simp only [Act.put, sa, sz, ss]
    refine rest_nil (then_normal ?_)
    refine wp_seq (wp_seq ?_)
    refine walk_seqB 1 [.quiet (.int .i64 0)] H9 ?ho7 ?he7
    case ho7 => exact ak (fun _ => ⟨rfl, fun _ _ => rfl⟩) trivial
    intro _ w10 H10
    clear H9
    refine rest0 rfl (then_normal (wp_block ?_))
    refine loop_ghost (α := Nat) (fun i1 a' w' => ∃ s2 : Nat → Value, a' = ⟨#[.agg (ints .u64 F 13).toArray, .agg (ints .u64 a 6).toArray, .agg (ints .u64 b 6).toArray, PT γ1_0 0, PT γ1_1 0, PT γ1_2 0, PT γ1_3 0, PT γ2_0 0, .int .i64 ((i0 : Nat) : Int), .int .i64 ((i1 : Nat) : Int), undef, undef, .int .i64 ((i0 : Nat) : Int), .bool true, s0 14, s0 15, .agg (ints .u64 F 13).toArray, .int .i64 ((i0 : Nat) : Int), PT γ1_1 i0, U (a i0), .agg (ints .u64 b 6).toArray, .tuple #[], .agg (ints .u64 F 13).toArray, PT γ2_0 0, U ((rw8 (a i0) b (mgt (F 6) F a b i0)) 0), PT γ1_0 6, U (F 6), U (mgm (F 6) (rw8 (a i0) b (mgt (F 6) F a b i0))), PT γ1_0 0, .agg (ints .u64 F 6).toArray, .tuple #[], s2 31, s2 32, s2 33, s2 34, s2 35, s2 36, s2 37, s2 38, s2 39, s2 40, s0 41, undef, undef, undef, undef, undef, undef, undef, undef, undef, undef, undef, undef, undef, undef, undef, undef, undef, undef, undef, undef, undef, undef, undef, undef, undef, undef, undef], []⟩ ∧ (Mm w' [(γ2_0, ints .u64 (shr (rw8 (mgm (F 6) (rw8 (a i0) b (mgt (F 6) F a b i0))) F (rw8 (a i0) b (mgt (F 6) F a b i0))) i1) 8), (γ1_0, ints .u64 F 13), (γ1_1, ints .u64 a 6), (γ1_2, ints .u64 b 6), (γ1_3, ints .u64 (fun _ => 0) 6)] ∧ Below w.heap.size w w') ∧ i1 ≤ 7) (fun i1 => 7 - i1) 0 ?st2 ?rd2
    case st2 => exact ⟨(slotfn [undef, undef, undef, undef, undef, undef, undef, undef, undef, undef, undef, undef, undef, undef, undef, undef, undef, undef, undef, undef, undef, undef, undef, undef, undef, undef, undef, undef, undef, undef, undef, s0 31, s0 32, s0 33, s0 34, s0 35, s0 36, s0 37, s0 38, s0 39, s0 40]), rfl, ⟨H10.out.1, H10.out.2⟩, by omega⟩
    intro i1 a' w11 hI
    obtain ⟨s2, rfl, hMB, hk2⟩ := hI
    have H11 : Hid (_ ∧ _) := hMB
    clear hMB H10
    by_cases hlti1 : i1 < 7
    · have hrd : True := trivial
      clear hrd
      refine wp_seq (wp_seq ?_)
      refine walk_seqB 2 [.quiet (.int .i64 ((i1 : Nat) : Int)), .quiet (.bool true)] H11 ?ho8 ?he8
      case ho8 => exact ak (fun _ => ⟨rfl, fun _ _ => rfl⟩) (ak (by refine fun γ => ⟨rfl, fun w' h => ?_⟩; clear h; go_simp <;> omega) trivial)
      intro _ w12 H12
      clear H11
      refine rest0 rfl (then_normal (wp_cond_true rfl ?_))
      refine wp_skip (then_normal ?_)
      refine wp_seq (wp_block ?_)
      refine walk_seqB 6 [.quiet (.int .i64 ((i1 : Nat) : Int)), .quiet (.int .i64 ((i1 : Nat) : Int)), .quiet (.int .i64 ((i1 + 1 : Nat) : Int)), .quiet (PT γ2_0 (i1 + 1)), .quiet (U ((shr (rw8 (mgm (F 6) (rw8 (a i0) b (mgt (F 6) F a b i0))) F (rw8 (a i0) b (mgt (F 6) F a b i0))) i1) (i1 + 1))), .quiet (PT γ2_0 i1)] H12 ?ho9 ?he9
      case ho9 => exact ak (fun _ => ⟨rfl, fun _ _ => rfl⟩) (ak (fun _ => ⟨rfl, fun _ _ => rfl⟩) (ak (by refine fun γ => ⟨rfl, fun w' h => ?_⟩; clear h; go_simp; rw [IntKind.wrap_i64]; omega) (ak (fun γ => ⟨rfl, fun w' _ => ex_ix0_63 (j := i1 + 1) rfl rfl rfl (by omega)⟩) (ak (fun γ => ⟨rfl, fun w' h => ex_loadC h 0 rfl rfl rfl Tryd.isAgg22 (ints_get _ _ (by omega))⟩) (ak (fun γ => ⟨rfl, fun w' _ => ex_ix0_63 (j := i1) rfl rfl rfl (by omega)⟩) trivial)))))
      intro _ w13 H13
      clear H12
      refine rest_at (l := [6]) rfl ?_
      refine rest_store rfl rfl rfl (ex_storeI H13.out.1 0 rfl rfl Tryd.sizeOf22 rfl rfl (by rw [ints_len]; omega)) ?_
      have H14 : Hid (Mm (w13.setCells γ2_0 i1 ([U ((shr (rw8 (mgm (F 6) (rw8 (a i0) b (mgt (F 6) F a b i0))) F (rw8 (a i0) b (mgt (F 6) F a b i0))) i1) (i1 + 1))])) [(γ2_0, ints .u64 (shr (rw8 (mgm (F 6) (rw8 (a i0) b (mgt (F 6) F a b i0))) F (rw8 (a i0) b (mgt (F 6) F a b i0))) (i1 + 1)) 8), (γ1_0, ints .u64 F 13), (γ1_1, ints .u64 a 6), (γ1_2, ints .u64 b 6), (γ1_3, ints .u64 (fun _ => 0) 6)] ∧ Below w.heap.size w (w13.setCells γ2_0 i1 ([U ((shr (rw8 (mgm (F 6) (rw8 (a i0) b (mgt (F 6) F a b i0))) F (rw8 (a i0) b (mgt (F 6) F a b i0))) i1) (i1 + 1))]))) := ⟨by
        have h := H13.out.1.put 0 (off := i1) (vs := [U ((shr (rw8 (mgm (F 6) (rw8 (a i0) b (mgt (F 6) F a b i0))) F (rw8 (a i0) b (mgt (F 6) F a b i0))) i1) (i1 + 1))]) rfl (by rw [ints_len]; simp only [List.length_cons, List.length_nil]; omega)
        rw [ints_patch _ _ _ _ (by omega), show ints .u64 (up (shr (rw8 (mgm (F 6) (rw8 (a i0) b (mgt (F 6) F a b i0))) F (rw8 (a i0) b (mgt (F 6) F a b i0))) i1) i1 ((shr (rw8 (mgm (F 6) (rw8 (a i0) b (mgt (F 6) F a b i0))) F (rw8 (a i0) b (mgt (F 6) F a b i0))) i1) (i1 + 1))) 8 = ints .u64 (shr (rw8 (mgm (F 6) (rw8 (a i0) b (mgt (F 6) F a b i0))) F (rw8 (a i0) b (mgt (F 6) F a b i0))) (i1 + 1)) 8 by rw [show (up (shr (rw8 (mgm (F 6) (rw8 (a i0) b (mgt (F 6) F a b i0))) F (rw8 (a i0) b (mgt (F 6) F a b i0))) i1) i1 ((shr (rw8 (mgm (F 6) (rw8 (a i0) b (mgt (F 6) F a b i0))) F (rw8 (a i0) b (mgt (F 6) F a b i0))) i1) (i1 + 1))) = (shr (rw8 (mgm (F 6) (rw8 (a i0) b (mgt (F 6) F a b i0))) F (rw8 (a i0) b (mgt (F 6) F a b i0))) (i1 + 1)) from shr_succ _ _]] at h
        exact h, below_setCells _ o2_0.out _ _ _ H13.out.2⟩
      clear H13
      generalize hgw : World.setCells _ _ _ _ = w14 at H14 ⊢
      clear hgw
      refine rest_nil (block_normal (then_normal ?_))
      refine walk_seqB 2 [.quiet (.int .i64 ((i1 : Nat) : Int)), .quiet (.int .i64 ((i1 + 1 : Nat) : Int))] H14 ?ho10 ?he10
      case ho10 => exact ak (fun _ => ⟨rfl, fun _ _ => rfl⟩) (ak (by refine fun γ => ⟨rfl, fun w' h => ?_⟩; clear h; go_simp; rw [IntKind.wrap_i64]; omega) trivial)
      intro _ w15 H15
      clear H14
      refine rest_at (l := [2]) rfl ?_
      refine rest_set (d := 9) rfl rfl rfl rfl ?_
      simp only [Act.put, sa, sz, ss]
      refine rest_nil (then_normal ?_)
      exact ⟨i1 + 1, ⟨(slotfn [undef, undef, undef, undef, undef, undef, undef, undef, undef, undef, undef, undef, undef, undef, undef, undef, undef, undef, undef, undef, undef, undef, undef, undef, undef, undef, undef, undef, undef, undef, undef, .int .i64 ((i1 : Nat) : Int), .bool true, .int .i64 ((i1 : Nat) : Int), .int .i64 ((i1 + 1 : Nat) : Int), .int .i64 ((i1 : Nat) : Int), .int .i64 ((i1 : Nat) : Int), .int .i64 ((i1 + 1 : Nat) : Int), PT γ2_0 (i1 + 1), U ((shr (rw8 (mgm (F 6) (rw8 (a i0) b (mgt (F 6) F a b i0))) F (rw8 (a i0) b (mgt (F 6) F a b i0))) i1) (i1 + 1)), PT γ2_0 i1]), rfl, ⟨H15.out.1, H15.out.2⟩, by omega⟩, by omega⟩
    have hi1N : i1 = 7 := by omega
    subst hi1N
    refine wp_seq (wp_seq ?_)
    refine walk_seqB 2 [.quiet (.int .i64 ((7 : Nat) : Int)), .quiet (.bool false)] H11 ?ho11 ?he11
    case ho11 => exact ak (fun _ => ⟨rfl, fun _ _ => rfl⟩) (ak (by refine fun γ => ⟨rfl, fun w' h => ?_⟩; clear h; go_simp <;> omega) trivial)
    intro _ w16 H16
    clear H11
    refine rest0 rfl (then_normal (wp_cond_false rfl ?_))
    refine wp_exit ?_
    repeat refine then_exit ?_
    refine block_exit ?_
    refine then_normal ?_
    refine walk_seqB 1 [.quiet (PT γ2_0 7)] H16 ?ho12 ?he12
    case ho12 => exact ak (fun γ => ⟨rfl, fun w' _ => ex_ix0_63 (j := 7) rfl rfl rfl (by decide)⟩) trivial
    intro _ w17 H17
    clear H16
    refine rest_at (l := [1]) rfl ?_
    refine rest_store rfl rfl rfl (ex_storeI H17.out.1 0 rfl rfl Tryd.sizeOf22 rfl rfl (by rw [ints_len]; decide)) ?_
    have H18 : Hid (Mm (w17.setCells γ2_0 7 ([U 0])) [(γ2_0, ints .u64 (mgt (F 6) F a b (i0 + 1)) 8), (γ1_0, ints .u64 F 13), (γ1_1, ints .u64 a 6), (γ1_2, ints .u64 b 6), (γ1_3, ints .u64 (fun _ => 0) 6)] ∧ Below w.heap.size w (w17.setCells γ2_0 7 ([U 0]))) := ⟨by
      have h := H17.out.1.put 0 (off := 7) (vs := [U 0]) rfl (by rw [ints_len]; simp only [List.length_cons, List.length_nil]; decide)
      rw [ints_patch _ _ _ _ (by decide), show ints .u64 (up (shr (rw8 (mgm (F 6) (rw8 (a i0) b (mgt (F 6) F a b i0))) F (rw8 (a i0) b (mgt (F 6) F a b i0))) 7) 7 0) 8 = ints .u64 (mgt (F 6) F a b (i0 + 1)) 8 by rw [show (up (shr (rw8 (mgm (F 6) (rw8 (a i0) b (mgt (F 6) F a b i0))) F (rw8 (a i0) b (mgt (F 6) F a b i0))) 7) 7 0) = (mgt (F 6) F a b (i0 + 1)) from rfl]] at h
      exact h, below_setCells _ o2_0.out _ _ _ H17.out.2⟩
    clear H17
    generalize hgw : World.setCells _ _ _ _ = w18 at H18 ⊢
    clear hgw
    refine rest_nil (block_normal (then_normal ?_))
    refine walk_seqB 2 [.quiet (.int .i64 ((i0 : Nat) : Int)), .quiet (.int .i64 ((i0 + 1 : Nat) : Int))] H18 ?ho13 ?he13
    case ho13 => exact ak (fun _ => ⟨rfl, fun _ _ => rfl⟩) (ak (by refine fun γ => ⟨rfl, fun w' h => ?_⟩; clear h; go_simp; rw [IntKind.wrap_i64]; omega) trivial)
    intro _ w19 H19
    clear H18
    refine rest_at (l := [2]) rfl ?_
    refine rest_set (d := 8) rfl rfl rfl rfl ?_
    simp only [Act.put, sa, sz, ss]
    refine rest_nil (then_normal ?_)
    exact ⟨i0 + 1, ⟨(slotfn [undef, undef, undef, undef, undef, undef, undef, undef, undef, .int .i64 ((7 : Nat) : Int), undef, undef, .int .i64 ((i0 : Nat) : Int), .bool true, .int .i64 ((i0 : Nat) : Int), .int .i64 ((i0 + 1 : Nat) : Int), .agg (ints .u64 F 13).toArray, .int .i64 ((i0 : Nat) : Int), PT γ1_1 i0, U (a i0), .agg (ints .u64 b 6).toArray, .tuple #[], .agg (ints .u64 F 13).toArray, PT γ2_0 0, U ((rw8 (a i0) b (mgt (F 6) F a b i0)) 0), PT γ1_0 6, U (F 6), U (mgm (F 6) (rw8 (a i0) b (mgt (F 6) F a b i0))), PT γ1_0 0, .agg (ints .u64 F 6).toArray, .tuple #[], .int .i64 ((7 : Nat) : Int), .bool false, s2 33, s2 34, s2 35, s2 36, s2 37, s2 38, s2 39, s2 40, PT γ2_0 7]), rfl, ⟨H19.out.1, H19.out.2⟩, by omega⟩, by omega⟩
  have hi0N : i0 = 6 := by omega
  subst hi0N
  refine wp_seq (wp_seq ?_)
  refine walk_seqB 2 [.quiet (.int .i64 ((6 : Nat) : Int)), .quiet (.bool false)] H4 ?ho14 ?he14
  case ho14 => exact ak (fun _ => ⟨rfl, fun _ _ => rfl⟩) (ak (by refine fun γ => ⟨rfl, fun w' h => ?_⟩; clear h; go_simp <;> omega) trivial)
  intro _ w20 H20
  clear H4
  refine rest0 rfl (then_normal (wp_cond_false rfl ?_))
  refine wp_exit ?_
  repeat refine then_exit ?_
  refine block_exit ?_
  refine then_normal (wp_seq ?_)
  refine walk_seqA 1 [.made (ints .u64 (fun _ => 0) 6) 24] (sB H20) ?ho15 ?he15
  case ho15 => exact ak (fun γ => ⟨rfl, fun w' => ex_mk25 rfl⟩) trivial
  intro γ w21 l hM hl
  have H21 : Hid (Mm w21 [(γ 0, ints .u64 (fun _ => 0) 6), (γ2_0, ints .u64 (mgt (F 6) F a b 6) 8), (γ1_0, ints .u64 F 13), (γ1_1, ints .u64 a 6), (γ1_2, ints .u64 b 6), (γ1_3, ints .u64 (fun _ => 0) 6)] ∧ _) := growB H20 hM (Nat.le_refl _) hl [0] rfl (by decide)
  have o15_0 := ownB H20 hM (Nat.le_refl _) hl (i := 0) rfl
  clear hM hl l H20
  generalize γ 0 = γ15_0 at H21 o15_0 ⊢
  clear γ
  refine rest0 rfl (then_normal (wp_seq (wp_seq ?_)))
  refine walk_seqB 1 [.quiet (.int .i64 0)] H21 ?ho16 ?he16
  case ho16 => exact ak (fun _ => ⟨rfl, fun _ _ => rfl⟩) trivial
  intro _ w22 H22
  clear H21
  refine rest0 rfl (then_normal (wp_block ?_))
  refine loop_ghost (α := Nat) (fun i2 a' w' => ∃ s4 : Nat → Value, a' = ⟨#[.agg (ints .u64 F 13).toArray, .agg (ints .u64 a 6).toArray, .agg (ints .u64 b 6).toArray, PT γ1_0 0, PT γ1_1 0, PT γ1_2 0, PT γ1_3 0, PT γ2_0 0, .int .i64 ((6 : Nat) : Int), s0 9, PT γ15_0 0, .int .i64 ((i2 : Nat) : Int), .int .i64 ((6 : Nat) : Int), .bool false, s0 14, s0 15, s0 16, s0 17, s0 18, s0 19, s0 20, s0 21, s0 22, s0 23, s0 24, s0 25, s0 26, s0 27, s0 28, s0 29, s0 30, s0 31, s0 32, s0 33, s0 34, s0 35, s0 36, s0 37, s0 38, s0 39, s0 40, s0 41, s4 42, s4 43, s4 44, s4 45, s4 46, s4 47, s4 48, s4 49, s4 50, undef, undef, undef, undef, undef, undef, undef, undef, undef, undef, undef, undef, undef, undef, undef, undef, undef, undef], []⟩ ∧ (Mm w' [(γ15_0, ints .u64 (cpy (mgt (F 6) F a b 6) i2) 6), (γ2_0, ints .u64 (mgt (F 6) F a b 6) 8), (γ1_0, ints .u64 F 13), (γ1_1, ints .u64 a 6), (γ1_2, ints .u64 b 6), (γ1_3, ints .u64 (fun _ => 0) 6)] ∧ Below w.heap.size w w') ∧ i2 ≤ 6) (fun i2 => 6 - i2) 0 ?st4 ?rd4
  case st4 => exact ⟨(slotfn [undef, undef, undef, undef, undef, undef, undef, undef, undef, undef, undef, undef, undef, undef, undef, undef, undef, undef, undef, undef, undef, undef, undef, undef, undef, undef, undef, undef, undef, undef, undef, undef, undef, undef, undef, undef, undef, undef, undef, undef, undef, undef, undef, undef, undef, undef, undef, undef, undef, undef, undef]), rfl, ⟨H22.out.1, H22.out.2⟩, by omega⟩
  intro i2 a' w23 hI
  obtain ⟨s4, rfl, hMB, hk4⟩ := hI
  have H23 : Hid (_ ∧ _) := hMB
  clear hMB H22
  by_cases hlti2 : i2 < 6
  · have hrd : True := trivial
    clear hrd
    refine wp_seq (wp_seq ?_)
    refine walk_seqB 2 [.quiet (.int .i64 ((i2 : Nat) : Int)), .quiet (.bool true)] H23 ?ho17 ?he17
    case ho17 => exact ak (fun _ => ⟨rfl, fun _ _ => rfl⟩) (ak (by refine fun γ => ⟨rfl, fun w' h => ?_⟩; clear h; go_simp <;> omega) trivial)
    intro _ w24 H24
    clear H23
    refine rest0 rfl (then_normal (wp_cond_true rfl ?_))
    refine wp_skip (then_normal ?_)
    refine wp_seq (wp_block ?_)
    refine walk_seqB 5 [.quiet (.int .i64 ((i2 : Nat) : Int)), .quiet (.int .i64 ((i2 : Nat) : Int)), .quiet (PT γ2_0 i2), .quiet (U ((mgt (F 6) F a b 6) i2)), .quiet (PT γ15_0 i2)] H24 ?ho18 ?he18
    case ho18 => exact ak (fun _ => ⟨rfl, fun _ _ => rfl⟩) (ak (fun _ => ⟨rfl, fun _ _ => rfl⟩) (ak (fun γ => ⟨rfl, fun w' _ => ex_ix0_63 (j := i2) rfl rfl rfl (by omega)⟩) (ak (fun γ => ⟨rfl, fun w' h => ex_loadC h 1 rfl rfl rfl Tryd.isAgg22 (ints_get _ _ (by omega))⟩) (ak (fun γ => ⟨rfl, fun w' _ => ex_ix0_25 (j := i2) rfl rfl rfl (by omega)⟩) trivial))))
    intro _ w25 H25
    clear H24
    refine rest_at (l := [5]) rfl ?_
    refine rest_store rfl rfl rfl (ex_storeI H25.out.1 0 rfl rfl Tryd.sizeOf22 rfl rfl (by rw [ints_len]; omega)) ?_
    have H26 : Hid (Mm (w25.setCells γ15_0 i2 ([U ((mgt (F 6) F a b 6) i2)])) [(γ15_0, ints .u64 (cpy (mgt (F 6) F a b 6) (i2 + 1)) 6), (γ2_0, ints .u64 (mgt (F 6) F a b 6) 8), (γ1_0, ints .u64 F 13), (γ1_1, ints .u64 a 6), (γ1_2, ints .u64 b 6), (γ1_3, ints .u64 (fun _ => 0) 6)] ∧ Below w.heap.size w (w25.setCells γ15_0 i2 ([U ((mgt (F 6) F a b 6) i2)]))) := ⟨by
      have h := H25.out.1.put 0 (off := i2) (vs := [U ((mgt (F 6) F a b 6) i2)]) rfl (by rw [ints_len]; simp only [List.length_cons, List.length_nil]; omega)
      rw [ints_patch _ _ _ _ (by omega), show ints .u64 (up (cpy (mgt (F 6) F a b 6) i2) i2 ((mgt (F 6) F a b 6) i2)) 6 = ints .u64 (cpy (mgt (F 6) F a b 6) (i2 + 1)) 6 by rw [show (up (cpy (mgt (F 6) F a b 6) i2) i2 ((mgt (F 6) F a b 6) i2)) = (cpy (mgt (F 6) F a b 6) (i2 + 1)) from cpy_succ _ _]] at h
      exact h, below_setCells _ o15_0.out _ _ _ H25.out.2⟩
    clear H25
    generalize hgw : World.setCells _ _ _ _ = w26 at H26 ⊢
    clear hgw
    refine rest_nil (block_normal (then_normal ?_))
    refine walk_seqB 2 [.quiet (.int .i64 ((i2 : Nat) : Int)), .quiet (.int .i64 ((i2 + 1 : Nat) : Int))] H26 ?ho19 ?he19
    case ho19 => exact ak (fun _ => ⟨rfl, fun _ _ => rfl⟩) (ak (by refine fun γ => ⟨rfl, fun w' h => ?_⟩; clear h; go_simp; rw [IntKind.wrap_i64]; omega) trivial)
    intro _ w27 H27
    clear H26
    refine rest_at (l := [2]) rfl ?_
    refine rest_set (d := 11) rfl rfl rfl rfl ?_
    simp only [Act.put, sa, sz, ss]
    refine rest_nil (then_normal ?_)
    exact ⟨i2 + 1, ⟨(slotfn [undef, undef, undef, undef, undef, undef, undef, undef, undef, undef, undef, undef, undef, undef, undef, undef, undef, undef, undef, undef, undef, undef, undef, undef, undef, undef, undef, undef, undef, undef, undef, undef, undef, undef, undef, undef, undef, undef, undef, undef, undef, undef, .int .i64 ((i2 : Nat) : Int), .bool true, .int .i64 ((i2 : Nat) : Int), .int .i64 ((i2 + 1 : Nat) : Int), .int .i64 ((i2 : Nat) : Int), .int .i64 ((i2 : Nat) : Int), PT γ2_0 i2, U ((mgt (F 6) F a b 6) i2), PT γ15_0 i2]), rfl, ⟨H27.out.1, H27.out.2⟩, by omega⟩, by omega⟩
  have hi2N : i2 = 6 := by omega
  subst hi2N
  refine wp_seq (wp_seq ?_)
  refine walk_seqB 2 [.quiet (.int .i64 ((6 : Nat) : Int)), .quiet (.bool false)] H23 ?ho20 ?he20
  case ho20 => exact ak (fun _ => ⟨rfl, fun _ _ => rfl⟩) (ak (by refine fun γ => ⟨rfl, fun w' h => ?_⟩; clear h; go_simp <;> omega) trivial)
  intro _ w28 H28
  clear H23
  refine rest0 rfl (then_normal (wp_cond_false rfl ?_))
  refine wp_exit ?_
  repeat refine then_exit ?_
  refine block_exit ?_
  refine then_normal (wp_seq (wp_seq ?_))
  refine walk_seqB 10 [.quiet (PT γ2_0 6), .quiet (U ((mgt (F 6) F a b 6) 6)), .quiet (.bool false), .quiet (.bool false), .quiet (.agg (ints .u64 (cpy (mgt (F 6) F a b 6) 6) 6).toArray), .quiet (PT γ1_0 0), .quiet (.agg (ints .u64 F 6).toArray), .call (.int .i64 z), .quiet (.bool true), .quiet (.bool true)] H28 ?ho21 ?he21
  case ho21 => exact ak (fun γ => ⟨rfl, fun w' _ => ex_ix0_63 (j := 6) rfl rfl rfl (by decide)⟩) (ak (fun γ => ⟨rfl, fun w' h => ex_loadC h 1 rfl rfl rfl Tryd.isAgg22 (ints_get _ _ (by decide))⟩) (ak (fun γ => ⟨rfl, fun w' _ => ex_ne64 (a := (mgt (F 6) F a b 6) 6) (by rw [decide_eq_true h6]; rfl) rfl rfl rfl⟩) (ak (fun _ => ⟨rfl, fun _ _ => rfl⟩) (ak (fun γ => ⟨rfl, fun w' h => ex_loadT h 0 rfl rfl rfl Tryd.isAgg24 Tryd.sizeOf24 (ints_whole _ _ _) (ints_len _ _ _)⟩) (ak (by refine fun γ => ⟨rfl, fun w' h => ?_⟩; clear h; go_simp) (ak (fun γ => ⟨rfl, fun w' h => ex_loadT h 2 rfl rfl rfl Tryd.isAgg24 Tryd.sizeOf24 (pre13 F) (ints_len _ _ _)⟩) (ak (fun γ => ⟨rfl, fun w' h => ⟨54, #[.agg (ints .u64 (cpy (mgt (F 6) F a b 6) 6) 6).toArray, .agg (ints .u64 F 6).toArray], exec_call rfl call54 rfl (mpn rfl), HC.out w'⟩⟩) (ak (fun γ => ⟨rfl, fun w' _ => ex_ge3 (z := z) (decide_eq_true hz) rfl rfl rfl⟩) (ak (by refine fun γ => ⟨rfl, fun w' h => ?_⟩; clear h; go_simp) trivial)))))))))
  intro _ w29 H29
  clear H28
  refine rest0 rfl (then_normal (wp_cond_true rfl ?_))
  refine walk_seqB 7 [.quiet (.agg (ints .u64 (cpy (mgt (F 6) F a b 6) 6) 6).toArray), .quiet (PT γ1_0 0), .quiet (.agg (ints .u64 F 6).toArray), .call (.tuple #[.agg (ints .u64 D 6).toArray, .bool bb]), .quiet (.tuple #[.agg (ints .u64 D 6).toArray, .bool bb]), .quiet (.agg (ints .u64 D 6).toArray), .quiet (.bool bb)] H29 ?ho22 ?he22
  case ho22 => exact ak (fun γ => ⟨rfl, fun w' h => ex_loadT h 0 rfl rfl rfl Tryd.isAgg24 Tryd.sizeOf24 (ints_whole _ _ _) (ints_len _ _ _)⟩) (ak (by refine fun γ => ⟨rfl, fun w' h => ?_⟩; clear h; go_simp) (ak (fun γ => ⟨rfl, fun w' h => ex_loadT h 2 rfl rfl rfl Tryd.isAgg24 Tryd.sizeOf24 (pre13 F) (ints_len _ _ _)⟩) (ak (fun γ => ⟨rfl, fun w' h => ⟨57, #[.agg (ints .u64 (cpy (mgt (F 6) F a b 6) 6) 6).toArray, .agg (ints .u64 F 6).toArray], exec_call rfl call57 rfl (mpn rfl), HS.out w'⟩⟩) (ak (fun _ => ⟨rfl, fun _ _ => rfl⟩) (ak (by refine fun γ => ⟨rfl, fun w' h => ?_⟩; clear h; go_simp) (ak (by refine fun γ => ⟨rfl, fun w' h => ?_⟩; clear h; go_simp) trivial))))))
  intro _ w30 H30
  clear H29
  refine rest_at (l := [7]) rfl ?_
  refine rest_store rfl rfl rfl (ex_storeT (vs := ints .u64 D 6) H30.out.1 0 rfl rfl rfl rfl (by rw [ints_len]; exact Tryd.sizeOf24) (ints_all _ _ _) (by simp [ints_len])) ?_
  have H31 : Hid (Mm (w30.setCells γ15_0 0 (ints .u64 D 6)) [(γ15_0, ints .u64 D 6), (γ2_0, ints .u64 (mgt (F 6) F a b 6) 8), (γ1_0, ints .u64 F 13), (γ1_1, ints .u64 a 6), (γ1_2, ints .u64 b 6), (γ1_3, ints .u64 (fun _ => 0) 6)] ∧ Below w.heap.size w (w30.setCells γ15_0 0 (ints .u64 D 6))) := ⟨by
    have h := H30.out.1.put 0 (off := 0) (vs := ints .u64 D 6) rfl (by simp [ints_len])
    rw [ints_patch0 _ _ _ _] at h
    exact h, below_setCells _ o15_0.out _ _ _ H30.out.2⟩
  clear H30
  generalize hgw : World.setCells _ _ _ _ = w31 at H31 ⊢
  clear hgw
  refine rest_nil (then_normal (wp_seq ?_))
  refine walk_seqB 1 [.quiet (.agg (ints .u64 D 6).toArray)] H31 ?ho23 ?he23
  case ho23 => exact ak (fun γ => ⟨rfl, fun w' h => ex_loadT h 0 rfl rfl rfl Tryd.isAgg24 Tryd.sizeOf24 (ints_whole _ _ _) (ints_len _ _ _)⟩) trivial
  intro _ w32 H32
  clear H31
  refine rest_at (l := [1]) rfl ?_
  refine rest_store rfl rfl rfl (ex_storeT (vs := ints .u64 D 6) H32.out.1 5 rfl rfl rfl rfl (by rw [ints_len]; exact Tryd.sizeOf24) (ints_all _ _ _) (by simp [ints_len])) ?_
  have H33 : Hid (Mm (w32.setCells γ1_3 0 (ints .u64 D 6)) [(γ15_0, ints .u64 D 6), (γ2_0, ints .u64 (mgt (F 6) F a b 6) 8), (γ1_0, ints .u64 F 13), (γ1_1, ints .u64 a 6), (γ1_2, ints .u64 b 6), (γ1_3, ints .u64 D 6)] ∧ Below w.heap.size w (w32.setCells γ1_3 0 (ints .u64 D 6))) := ⟨by
    have h := H32.out.1.put 5 (off := 0) (vs := ints .u64 D 6) rfl (by simp [ints_len])
    rw [ints_patch0 _ _ _ _] at h
    exact h, below_setCells _ o1_3.out _ _ _ H32.out.2⟩
  clear H32
  generalize hgw : World.setCells _ _ _ _ = w33 at H33 ⊢
  clear hgw
  refine rest_nil (then_normal (wp_ret ?_))
  repeat (first | refine then_ret ?_ | refine block_ret ?_)
  have hf0 := var_T H33.out.1 5 rfl Tryd.isAgg24 Tryd.sizeOf24 (ints_len _ _ _)
  refine bodyPost_ret (v := .agg (ints .u64 D 6).toArray) (by simp [results, Tryd.results88, asAddr, hf0]) rfl ?_
  exact ⟨rfl, H33.out.2⟩
set_option maxHeartbeats 2000000 in
set_option maxRecDepth 100000 in
theorem mont_c (F a b D : Nat → Nat) (z : Int) (bb : Bool) (hA : ∀ i, i < 6 → a i < 18446744073709551616) (hB : ∀ i, i < 6 → b i < 18446744073709551616) (hN : ∀ i, i < 6 → F i < 18446744073709551616) (hC0 : ∀ w, Calls Tryd.prog 54 #[.agg (ints .u64 (cpy (mgt (F 6) F a b 6) 6) 6).toArray, .agg (ints .u64 F 6).toArray] w fun e w' => e = .returned (.int .i64 z) ∧ Below w.heap.size w w') (hS0 : ∀ w, Calls Tryd.prog 57 #[.agg (ints .u64 (cpy (mgt (F 6) F a b 6) 6) 6).toArray, .agg (ints .u64 F 6).toArray] w fun e w' => e = .returned (.tuple #[.agg (ints .u64 D 6).toArray, .bool bb]) ∧ Below w.heap.size w w') (h6 : (mgt (F 6) F a b 6) 6 = 0) (hz : z < 0) (w : World) :
    Calls Tryd.prog 88 #[.agg (ints .u64 F 13).toArray, .agg (ints .u64 a 6).toArray, .agg (ints .u64 b 6).toArray] w fun e w' => e = .returned (.agg (ints .u64 (cpy (mgt (F 6) F a b 6) 6) 6).toArray) ∧ Below w.heap.size w w' := by
  have H0 : Hid (_ ∧ _) := ⟨Mm.nil w, Below.refl w.heap.size w⟩
  have HC : Hid _ := hC0
  have HS : Hid _ := hS0
  clear hC0 hS0
  go_enter Tryd.func88, Tryd.ntmps88
  refine wp_seq ?_
  refine walk_seqA 4 [.made (ints .u64 F 13) 81, .made (ints .u64 a 6) 24, .made (ints .u64 b 6) 24, .made (ints .u64 (fun _ => 0) 6) 24] (sB H0) ?ho1 ?he1
  case ho1 => exact ak (fun γ => ⟨rfl, fun w' => ex_boxT rfl rfl⟩) (ak (fun γ => ⟨rfl, fun w' => ex_boxT rfl rfl⟩) (ak (fun γ => ⟨rfl, fun w' => ex_boxT rfl rfl⟩) (ak (fun γ => ⟨rfl, fun w' => ex_mk25 rfl⟩) trivial)))
  intro γ w1 l hM hl
  have H1 : Hid (Mm w1 [(γ 0, ints .u64 F 13), (γ 1, ints .u64 a 6), (γ 2, ints .u64 b 6), (γ 3, ints .u64 (fun _ => 0) 6)] ∧ _) := growB H0 hM (Nat.le_refl _) hl [0, 1, 2, 3] rfl (by decide)
  have o1_0 := ownB H0 hM (Nat.le_refl _) hl (i := 0) rfl
  have o1_1 := ownB H0 hM (Nat.le_refl _) hl (i := 1) rfl
  have o1_2 := ownB H0 hM (Nat.le_refl _) hl (i := 2) rfl
  have o1_3 := ownB H0 hM (Nat.le_refl _) hl (i := 3) rfl
  clear hM hl l
  generalize γ 0 = γ1_0 at H1 o1_0 ⊢
  generalize γ 1 = γ1_1 at H1 o1_1 ⊢
  generalize γ 2 = γ1_2 at H1 o1_2 ⊢
  generalize γ 3 = γ1_3 at H1 o1_3 ⊢
  clear γ
  refine rest0 rfl (then_normal (wp_seq ?_))
  refine walk_seqA 1 [.made (ints .u64 (fun _ => 0) 8) 133] (sB H1) ?ho2 ?he2
  case ho2 => exact ak (fun γ => ⟨rfl, fun w' => ex_mk63 rfl⟩) trivial
  intro γ w2 l hM hl
  have H2 : Hid (Mm w2 [(γ 0, ints .u64 (fun _ => 0) 8), (γ1_0, ints .u64 F 13), (γ1_1, ints .u64 a 6), (γ1_2, ints .u64 b 6), (γ1_3, ints .u64 (fun _ => 0) 6)] ∧ _) := growB H1 hM (Nat.le_refl _) hl [0] rfl (by decide)
  have o2_0 := ownB H1 hM (Nat.le_refl _) hl (i := 0) rfl
  clear hM hl l H1
  generalize γ 0 = γ2_0 at H2 o2_0 ⊢
  clear γ
  refine rest0 rfl (then_normal (wp_seq (wp_seq ?_)))
  refine walk_seqB 1 [.quiet (.int .i64 0)] H2 ?ho3 ?he3
  case ho3 => exact ak (fun _ => ⟨rfl, fun _ _ => rfl⟩) trivial
  intro _ w3 H3
  clear H2
  refine rest0 rfl (then_normal (wp_block ?_))
  refine loop_ghost (α := Nat) (fun i0 a' w' => ∃ s0 : Nat → Value, a' = ⟨#[.agg (ints .u64 F 13).toArray, .agg (ints .u64 a 6).toArray, .agg (ints .u64 b 6).toArray, PT γ1_0 0, PT γ1_1 0, PT γ1_2 0, PT γ1_3 0, PT γ2_0 0, .int .i64 ((i0 : Nat) : Int), s0 9, undef, undef, s0 12, s0 13, s0 14, s0 15, s0 16, s0 17, s0 18, s0 19, s0 20, s0 21, s0 22, s0 23, s0 24, s0 25, s0 26, s0 27, s0 28, s0 29, s0 30, s0 31, s0 32, s0 33, s0 34, s0 35, s0 36, s0 37, s0 38, s0 39, s0 40, s0 41, undef, undef, undef, undef, undef, undef, undef, undef, undef, undef, undef, undef, undef, undef, undef, undef, undef, undef, undef, undef, undef, undef, undef, undef, undef, undef, undef], []⟩ ∧ (Mm w' [(γ2_0, ints .u64 (mgt (F 6) F a b i0) 8), (γ1_0, ints .u64 F 13), (γ1_1, ints .u64 a 6), (γ1_2, ints .u64 b 6), (γ1_3, ints .u64 (fun _ => 0) 6)] ∧ Below w.heap.size w w') ∧ i0 ≤ 6) (fun i0 => 6 - i0) 0 ?st0 ?rd0
  case st0 => exact ⟨(slotfn [undef, undef, undef, undef, undef, undef, undef, undef, undef, undef, undef, undef, undef, undef, undef, undef, undef, undef, undef, undef, undef, undef, undef, undef, undef, undef, undef, undef, undef, undef, undef, undef, undef, undef, undef, undef, undef, undef, undef, undef, undef, undef]), rfl, ⟨H3.out.1, H3.out.2⟩, by omega⟩
  intro i0 a' w4 hI
  obtain ⟨s0, rfl, hMB, hk0⟩ := hI
  have H4 : Hid (_ ∧ _) := hMB
  clear hMB H3
  by_cases hlti0 : i0 < 6
  · have hrd : True := trivial
    clear hrd
    refine wp_seq (wp_seq ?_)
    refine walk_seqB 2 [.quiet (.int .i64 ((i0 : Nat) : Int)), .quiet (.bool true)] H4 ?ho4 ?he4
    case ho4 => exact ak (fun _ => ⟨rfl, fun _ _ => rfl⟩) (ak (by refine fun γ => ⟨rfl, fun w' h => ?_⟩; clear h; go_simp <;> omega) trivial)
    intro _ w5 H5
    clear H4
    refine rest0 rfl (then_normal (wp_cond_true rfl ?_))
    refine wp_skip (then_normal ?_)
    refine wp_seq (wp_block (wp_seq ?_))
    refine walk_anyB 5 [.quiet (.agg (ints .u64 F 13).toArray), .quiet (.int .i64 ((i0 : Nat) : Int)), .quiet (PT γ1_1 i0), .quiet (U (a i0)), .quiet (.agg (ints .u64 b 6).toArray)] H5 ?ho5 ?he5
    case ho5 => exact ak (fun γ => ⟨rfl, fun w' h => ex_loadT h 1 rfl rfl rfl Tryd.isAgg81 Tryd.sizeOf81 (ints_whole _ _ _) (ints_len _ _ _)⟩) (ak (fun _ => ⟨rfl, fun _ _ => rfl⟩) (ak (fun γ => ⟨rfl, fun w' _ => ex_ix0_25 (j := i0) rfl rfl rfl (by omega)⟩) (ak (fun γ => ⟨rfl, fun w' h => ex_loadC h 2 rfl rfl rfl Tryd.isAgg22 (ints_get _ _ (by omega))⟩) (ak (fun γ => ⟨rfl, fun w' h => ex_loadT h 3 rfl rfl rfl Tryd.isAgg24 Tryd.sizeOf24 (ints_whole _ _ _) (ints_len _ _ _)⟩) trivial))))
    intro _ w6 H6
    clear H5
    refine rest_at (l := [5]) rfl ?_
    refine rest_enter (d := 21) (R := fun vv w' => vv = .tuple #[] ∧ Mm w' [(γ2_0, ints .u64 (rw8 (a i0) b (mgt (F 6) F a b i0)) 8)] ∧ Kp γ2_0 w6 w') rfl rfl rfl (exec_call (args := #[.agg (ints .u64 F 13).toArray, PT γ2_0 0, U (a i0), .agg (ints .u64 b 6).toArray]) rfl call106 rfl (mpn rfl)) (Calls.mono (row_any F b (mgt (F 6) F a b i0) γ2_0 (a i0) (hA i0 (by omega)) hB (fun i _ => mgt_lt i0 i) w6 (H6.out.1.one 0 rfl)) (fun e w2 hh => ⟨_, hh.1, rfl, hh.2⟩)) ?_
    rintro _ w7 ⟨rfl, hn, hp⟩
    have H7 : Hid (Mm w7 [(γ2_0, ints .u64 (rw8 (a i0) b (mgt (F 6) F a b i0)) 8), (γ1_0, ints .u64 F 13), (γ1_1, ints .u64 a 6), (γ1_2, ints .u64 b 6), (γ1_3, ints .u64 (fun _ => 0) 6)] ∧ Below w.heap.size w w7) := ⟨H6.out.1.change 0 rfl hp hn, Below.kp H6.out.2 hp o2_0.out H6.out.2.size⟩
    clear hn hp H6
    simp only [Act.put, sa, sz, ss]
    refine rest_nil (then_normal (wp_seq ?_))
    refine walk_seqB 8 [.quiet (.agg (ints .u64 F 13).toArray), .quiet (PT γ2_0 0), .quiet (U ((rw8 (a i0) b (mgt (F 6) F a b i0)) 0)), .quiet (PT γ1_0 6), .quiet (U (F 6)), .quiet (U (mgm (F 6) (rw8 (a i0) b (mgt (F 6) F a b i0)))), .quiet (PT γ1_0 0), .quiet (.agg (ints .u64 F 6).toArray)] H7 ?ho6 ?he6
    case ho6 => exact ak (fun γ => ⟨rfl, fun w' h => ex_loadT h 1 rfl rfl rfl Tryd.isAgg81 Tryd.sizeOf81 (ints_whole _ _ _) (ints_len _ _ _)⟩) (ak (fun γ => ⟨rfl, fun w' _ => ex_ix0_63 (j := 0) rfl rfl rfl (by decide)⟩) (ak (fun γ => ⟨rfl, fun w' h => ex_loadC h 0 rfl rfl rfl Tryd.isAgg22 (ints_get _ _ (by decide))⟩) (ak (by refine fun γ => ⟨rfl, fun w' h => ?_⟩; clear h; go_simp) (ak (fun γ => ⟨rfl, fun w' h => ex_loadC h 1 rfl rfl rfl Tryd.isAgg22 (ints_get _ _ (by decide))⟩) (ak (fun γ => ⟨rfl, fun w' _ => ex_mul64 rfl rfl rfl⟩) (ak (by refine fun γ => ⟨rfl, fun w' h => ?_⟩; clear h; go_simp) (ak (fun γ => ⟨rfl, fun w' h => ex_loadT h 1 rfl rfl rfl Tryd.isAgg24 Tryd.sizeOf24 (pre13 F) (ints_len _ _ _)⟩) trivial)))))))
    intro _ w8 H8
    clear H7
    refine rest_at (l := [8]) rfl ?_
    refine rest_enter (d := 30) (R := fun vv w' => vv = .tuple #[] ∧ Mm w' [(γ2_0, ints .u64 (rw8 (mgm (F 6) (rw8 (a i0) b (mgt (F 6) F a b i0))) F (rw8 (a i0) b (mgt (F 6) F a b i0))) 8)] ∧ Kp γ2_0 w8 w') rfl rfl rfl (exec_call (args := #[.agg (ints .u64 F 13).toArray, PT γ2_0 0, U (mgm (F 6) (rw8 (a i0) b (mgt (F 6) F a b i0))), .agg (ints .u64 F 6).toArray]) rfl call106 rfl (mpn rfl)) (Calls.mono (row_any F F (rw8 (a i0) b (mgt (F 6) F a b i0)) γ2_0 (mgm (F 6) (rw8 (a i0) b (mgt (F 6) F a b i0))) (Nat.mod_lt _ (by decide)) hN (fun i _ => rw8_lt i) w8 (H8.out.1.one 0 rfl)) (fun e w2 hh => ⟨_, hh.1, rfl, hh.2⟩)) ?_
    rintro _ w9 ⟨rfl, hn, hp⟩
    have H9 : Hid (Mm w9 [(γ2_0, ints .u64 (rw8 (mgm (F 6) (rw8 (a i0) b (mgt (F 6) F a b i0))) F (rw8 (a i0) b (mgt (F 6) F a b i0))) 8), (γ1_0, ints .u64 F 13), (γ1_1, ints .u64 a 6), (γ1_2, ints .u64 b 6), (γ1_3, ints .u64 (fun _ => 0) 6)] ∧ Below w.heap.size w w9) := ⟨H8.out.1.change 0 rfl hp hn, Below.kp H8.out.2 hp o2_0.out H8.out.2.size⟩
    clear hn hp H8
    simp only [Act.put, sa, sz, ss]
    refine rest_nil (then_normal ?_)
    refine wp_seq (wp_seq ?_)
    refine walk_seqB 1 [.quiet (.int .i64 0)] H9 ?ho7 ?he7
    case ho7 => exact ak (fun _ => ⟨rfl, fun _ _ => rfl⟩) trivial
    intro _ w10 H10
    clear H9
    refine rest0 rfl (then_normal (wp_block ?_))
    refine loop_ghost (α := Nat) (fun i1 a' w' => ∃ s2 : Nat → Value, a' = ⟨#[.agg (ints .u64 F 13).toArray, .agg (ints .u64 a 6).toArray, .agg (ints .u64 b 6).toArray, PT γ1_0 0, PT γ1_1 0, PT γ1_2 0, PT γ1_3 0, PT γ2_0 0, .int .i64 ((i0 : Nat) : Int), .int .i64 ((i1 : Nat) : Int), undef, undef, .int .i64 ((i0 : Nat) : Int), .bool true, s0 14, s0 15, .agg (ints .u64 F 13).toArray, .int .i64 ((i0 : Nat) : Int), PT γ1_1 i0, U (a i0), .agg (ints .u64 b 6).toArray, .tuple #[], .agg (ints .u64 F 13).toArray, PT γ2_0 0, U ((rw8 (a i0) b (mgt (F 6) F a b i0)) 0), PT γ1_0 6, U (F 6), U (mgm (F 6) (rw8 (a i0) b (mgt (F 6) F a b i0))), PT γ1_0 0, .agg (ints .u64 F 6).toArray, .tuple #[], s2 31, s2 32, s2 33, s2 34, s2 35, s2 36, s2 37, s2 38, s2 39, s2 40, s0 41, undef, undef, undef, undef, undef, undef, undef, undef, undef, undef, undef, undef, undef, undef, undef, undef, undef, undef, undef, undef, undef, undef, undef, undef, undef, undef, undef], []⟩ ∧ (Mm w' [(γ2_0, ints .u64 (shr (rw8 (mgm (F 6) (rw8 (a i0) b (mgt (F 6) F a b i0))) F (rw8 (a i0) b (mgt (F 6) F a b i0))) i1) 8), (γ1_0, ints .u64 F 13), (γ1_1, ints .u64 a 6), (γ1_2, ints .u64 b 6), (γ1_3, ints .u64 (fun _ => 0) 6)] ∧ Below w.heap.size w w') ∧ i1 ≤ 7) (fun i1 => 7 - i1) 0 ?st2 ?rd2
    case st2 => exact ⟨(slotfn [undef, undef, undef, undef, undef, undef, undef, undef, undef, undef, undef, undef, undef, undef, undef, undef, undef, undef, undef, undef, undef, undef, undef, undef, undef, undef, undef, undef, undef, undef, undef, s0 31, s0 32, s0 33, s0 34, s0 35, s0 36, s0 37, s0 38, s0 39, s0 40]), rfl, ⟨H10.out.1, H10.out.2⟩, by omega⟩
    intro i1 a' w11 hI
    obtain ⟨s2, rfl, hMB, hk2⟩ := hI
    have H11 : Hid (_ ∧ _) := hMB
    clear hMB H10
    by_cases hlti1 : i1 < 7
    · have hrd : True := trivial
      clear hrd
      refine wp_seq (wp_seq ?_)
      refine walk_seqB 2 [.quiet (.int .i64 ((i1 : Nat) : Int)), .quiet (.bool true)] H11 ?ho8 ?he8
      case ho8 => exact ak (fun _ => ⟨rfl, fun _ _ => rfl⟩) (ak (by refine fun γ => ⟨rfl, fun w' h => ?_⟩; clear h; go_simp <;> omega) trivial)
      intro _ w12 H12
      clear H11
      refine rest0 rfl (then_normal (wp_cond_true rfl ?_))
      refine wp_skip (then_normal ?_)
      refine wp_seq (wp_block ?_)
      refine walk_seqB 6 [.quiet (.int .i64 ((i1 : Nat) : Int)), .quiet (.int .i64 ((i1 : Nat) : Int)), .quiet (.int .i64 ((i1 + 1 : Nat) : Int)), .quiet (PT γ2_0 (i1 + 1)), .quiet (U ((shr (rw8 (mgm (F 6) (rw8 (a i0) b (mgt (F 6) F a b i0))) F (rw8 (a i0) b (mgt (F 6) F a b i0))) i1) (i1 + 1))), .quiet (PT γ2_0 i1)] H12 ?ho9 ?he9
      case ho9 => exact ak (fun _ => ⟨rfl, fun _ _ => rfl⟩) (ak (fun _ => ⟨rfl, fun _ _ => rfl⟩) (ak (by refine fun γ => ⟨rfl, fun w' h => ?_⟩; clear h; go_simp; rw [IntKind.wrap_i64]; omega) (ak (fun γ => ⟨rfl, fun w' _ => ex_ix0_63 (j := i1 + 1) rfl rfl rfl (by omega)⟩) (ak (fun γ => ⟨rfl, fun w' h => ex_loadC h 0 rfl rfl rfl Tryd.isAgg22 (ints_get _ _ (by omega))⟩) (ak (fun γ => ⟨rfl, fun w' _ => ex_ix0_63 (j := i1) rfl rfl rfl (by omega)⟩) trivial)))))
      intro _ w13 H13
      clear H12
      refine rest_at (l := [6]) rfl ?_
      refine rest_store rfl rfl rfl (ex_storeI H13.out.1 0 rfl rfl Tryd.sizeOf22 rfl rfl (by rw [ints_len]; omega)) ?_
      have H14 : Hid (Mm (w13.setCells γ2_0 i1 ([U ((shr (rw8 (mgm (F 6) (rw8 (a i0) b (mgt (F 6) F a b i0))) F (rw8 (a i0) b (mgt (F 6) F a b i0))) i1) (i1 + 1))])) [(γ2_0, ints .u64 (shr (rw8 (mgm (F 6) (rw8 (a i0) b (mgt (F 6) F a b i0))) F (rw8 (a i0) b (mgt (F 6) F a b i0))) (i1 + 1)) 8), (γ1_0, ints .u64 F 13), (γ1_1, ints .u64 a 6), (γ1_2, ints .u64 b 6), (γ1_3, ints .u64 (fun _ => 0) 6)] ∧ Below w.heap.size w (w13.setCells γ2_0 i1 ([U ((shr (rw8 (mgm (F 6) (rw8 (a i0) b (mgt (F 6) F a b i0))) F (rw8 (a i0) b (mgt (F 6) F a b i0))) i1) (i1 + 1))]))) := ⟨by
        have h := H13.out.1.put 0 (off := i1) (vs := [U ((shr (rw8 (mgm (F 6) (rw8 (a i0) b (mgt (F 6) F a b i0))) F (rw8 (a i0) b (mgt (F 6) F a b i0))) i1) (i1 + 1))]) rfl (by rw [ints_len]; simp only [List.length_cons, List.length_nil]; omega)
        rw [ints_patch _ _ _ _ (by omega), show ints .u64 (up (shr (rw8 (mgm (F 6) (rw8 (a i0) b (mgt (F 6) F a b i0))) F (rw8 (a i0) b (mgt (F 6) F a b i0))) i1) i1 ((shr (rw8 (mgm (F 6) (rw8 (a i0) b (mgt (F 6) F a b i0))) F (rw8 (a i0) b (mgt (F 6) F a b i0))) i1) (i1 + 1))) 8 = ints .u64 (shr (rw8 (mgm (F 6) (rw8 (a i0) b (mgt (F 6) F a b i0))) F (rw8 (a i0) b (mgt (F 6) F a b i0))) (i1 + 1)) 8 by rw [show (up (shr (rw8 (mgm (F 6) (rw8 (a i0) b (mgt (F 6) F a b i0))) F (rw8 (a i0) b (mgt (F 6) F a b i0))) i1) i1 ((shr (rw8 (mgm (F 6) (rw8 (a i0) b (mgt (F 6) F a b i0))) F (rw8 (a i0) b (mgt (F 6) F a b i0))) i1) (i1 + 1))) = (shr (rw8 (mgm (F 6) (rw8 (a i0) b (mgt (F 6) F a b i0))) F (rw8 (a i0) b (mgt (F 6) F a b i0))) (i1 + 1)) from shr_succ _ _]] at h
        exact h, below_setCells _ o2_0.out _ _ _ H13.out.2⟩
      clear H13
      generalize hgw : World.setCells _ _ _ _ = w14 at H14 ⊢
      clear hgw
      refine rest_nil (block_normal (then_normal ?_))
      refine walk_seqB 2 [.quiet (.int .i64 ((i1 : Nat) : Int)), .quiet (.int .i64 ((i1 + 1 : Nat) : Int))] H14 ?ho10 ?he10
      case ho10 => exact ak (fun _ => ⟨rfl, fun _ _ => rfl⟩) (ak (by refine fun γ => ⟨rfl, fun w' h => ?_⟩; clear h; go_simp; rw [IntKind.wrap_i64]; omega) trivial)
      intro _ w15 H15
      clear H14
      refine rest_at (l := [2]) rfl ?_
      refine rest_set (d := 9) rfl rfl rfl rfl ?_
      simp only [Act.put, sa, sz, ss]
      refine rest_nil (then_normal ?_)
      exact ⟨i1 + 1, ⟨(slotfn [undef, undef, undef, undef, undef, undef, undef, undef, undef, undef, undef, undef, undef, undef, undef, undef, undef, undef, undef, undef, undef, undef, undef, undef, undef, undef, undef, undef, undef, undef, undef, .int .i64 ((i1 : Nat) : Int), .bool true, .int .i64 ((i1 : Nat) : Int), .int .i64 ((i1 + 1 : Nat) : Int), .int .i64 ((i1 : Nat) : Int), .int .i64 ((i1 : Nat) : Int), .int .i64 ((i1 + 1 : Nat) : Int), PT γ2_0 (i1 + 1), U ((shr (rw8 (mgm (F 6) (rw8 (a i0) b (mgt (F 6) F a b i0))) F (rw8 (a i0) b (mgt (F 6) F a b i0))) i1) (i1 + 1)), PT γ2_0 i1]), rfl, ⟨H15.out.1, H15.out.2⟩, by omega⟩, by omega⟩
    have hi1N : i1 = 7 := by omega
    subst hi1N
    refine wp_seq (wp_seq ?_)
    refine walk_seqB 2 [.quiet (.int .i64 ((7 : Nat) : Int)), .quiet (.bool false)] H11 ?ho11 ?he11
    case ho11 => exact ak (fun _ => ⟨rfl, fun _ _ => rfl⟩) (ak (by refine fun γ => ⟨rfl, fun w' h => ?_⟩; clear h; go_simp <;> omega) trivial)
    intro _ w16 H16
    clear H11
    refine rest0 rfl (then_normal (wp_cond_false rfl ?_))
    refine wp_exit ?_
    repeat refine then_exit ?_
    refine block_exit ?_
    refine then_normal ?_
    refine walk_seqB 1 [.quiet (PT γ2_0 7)] H16 ?ho12 ?he12
    case ho12 => exact ak (fun γ => ⟨rfl, fun w' _ => ex_ix0_63 (j := 7) rfl rfl rfl (by decide)⟩) trivial
    intro _ w17 H17
    clear H16
    refine rest_at (l := [1]) rfl ?_
    refine rest_store rfl rfl rfl (ex_storeI H17.out.1 0 rfl rfl Tryd.sizeOf22 rfl rfl (by rw [ints_len]; decide)) ?_
    have H18 : Hid (Mm (w17.setCells γ2_0 7 ([U 0])) [(γ2_0, ints .u64 (mgt (F 6) F a b (i0 + 1)) 8), (γ1_0, ints .u64 F 13), (γ1_1, ints .u64 a 6), (γ1_2, ints .u64 b 6), (γ1_3, ints .u64 (fun _ => 0) 6)] ∧ Below w.heap.size w (w17.setCells γ2_0 7 ([U 0]))) := ⟨by
      have h := H17.out.1.put 0 (off := 7) (vs := [U 0]) rfl (by rw [ints_len]; simp only [List.length_cons, List.length_nil]; decide)
      rw [ints_patch _ _ _ _ (by decide), show ints .u64 (up (shr (rw8 (mgm (F 6) (rw8 (a i0) b (mgt (F 6) F a b i0))) F (rw8 (a i0) b (mgt (F 6) F a b i0))) 7) 7 0) 8 = ints .u64 (mgt (F 6) F a b (i0 + 1)) 8 by rw [show (up (shr (rw8 (mgm (F 6) (rw8 (a i0) b (mgt (F 6) F a b i0))) F (rw8 (a i0) b (mgt (F 6) F a b i0))) 7) 7 0) = (mgt (F 6) F a b (i0 + 1)) from rfl]] at h
      exact h, below_setCells _ o2_0.out _ _ _ H17.out.2⟩
    clear H17
    generalize hgw : World.setCells _ _ _ _ = w18 at H18 ⊢
    clear hgw
    refine rest_nil (block_normal (then_normal ?_))
    refine walk_seqB 2 [.quiet (.int .i64 ((i0 : Nat) : Int)), .quiet (.int .i64 ((i0 + 1 : Nat) : Int))] H18 ?ho13 ?he13
    case ho13 => exact ak (fun _ => ⟨rfl, fun _ _ => rfl⟩) (ak (by refine fun γ => ⟨rfl, fun w' h => ?_⟩; clear h; go_simp; rw [IntKind.wrap_i64]; omega) trivial)
    intro _ w19 H19
    clear H18
    refine rest_at (l := [2]) rfl ?_
    refine rest_set (d := 8) rfl rfl rfl rfl ?_
    simp only [Act.put, sa, sz, ss]
    refine rest_nil (then_normal ?_)
    exact ⟨i0 + 1, ⟨(slotfn [undef, undef, undef, undef, undef, undef, undef, undef, undef, .int .i64 ((7 : Nat) : Int), undef, undef, .int .i64 ((i0 : Nat) : Int), .bool true, .int .i64 ((i0 : Nat) : Int), .int .i64 ((i0 + 1 : Nat) : Int), .agg (ints .u64 F 13).toArray, .int .i64 ((i0 : Nat) : Int), PT γ1_1 i0, U (a i0), .agg (ints .u64 b 6).toArray, .tuple #[], .agg (ints .u64 F 13).toArray, PT γ2_0 0, U ((rw8 (a i0) b (mgt (F 6) F a b i0)) 0), PT γ1_0 6, U (F 6), U (mgm (F 6) (rw8 (a i0) b (mgt (F 6) F a b i0))), PT γ1_0 0, .agg (ints .u64 F 6).toArray, .tuple #[], .int .i64 ((7 : Nat) : Int), .bool false, s2 33, s2 34, s2 35, s2 36, s2 37, s2 38, s2 39, s2 40, PT γ2_0 7]), rfl, ⟨H19.out.1, H19.out.2⟩, by omega⟩, by omega⟩
  have hi0N : i0 = 6 := by omega
  subst hi0N
  refine wp_seq (wp_seq ?_)
  refine walk_seqB 2 [.quiet (.int .i64 ((6 : Nat) : Int)), .quiet (.bool false)] H4 ?ho14 ?he14
  case ho14 => exact ak (fun _ => ⟨rfl, fun _ _ => rfl⟩) (ak (by refine fun γ => ⟨rfl, fun w' h => ?_⟩; clear h; go_simp <;> omega) trivial)
  intro _ w20 H20
  clear H4
  refine rest0 rfl (then_normal (wp_cond_false rfl ?_))
  refine wp_exit ?_
  repeat refine then_exit ?_
  refine block_exit ?_
  refine then_normal (wp_seq ?_)
  refine walk_seqA 1 [.made (ints .u64 (fun _ => 0) 6) 24] (sB H20) ?ho15 ?he15
  case ho15 => exact ak (fun γ => ⟨rfl, fun w' => ex_mk25 rfl⟩) trivial
  intro γ w21 l hM hl
  have H21 : Hid (Mm w21 [(γ 0, ints .u64 (fun _ => 0) 6), (γ2_0, ints .u64 (mgt (F 6) F a b 6) 8), (γ1_0, ints .u64 F 13), (γ1_1, ints .u64 a 6), (γ1_2, ints .u64 b 6), (γ1_3, ints .u64 (fun _ => 0) 6)] ∧ _) := growB H20 hM (Nat.le_refl _) hl [0] rfl (by decide)
  have o15_0 := ownB H20 hM (Nat.le_refl _) hl (i := 0) rfl
  clear hM hl l H20
  generalize γ 0 = γ15_0 at H21 o15_0 ⊢
  clear γ
  refine rest0 rfl (then_normal (wp_seq (wp_seq ?_)))
  refine walk_seqB 1 [.quiet (.int .i64 0)] H21 ?ho16 ?he16
  case ho16 => exact ak (fun _ => ⟨rfl, fun _ _ => rfl⟩) trivial
  intro _ w22 H22
  clear H21
  refine rest0 rfl (then_normal (wp_block ?_))
  refine loop_ghost (α := Nat) (fun i2 a' w' => ∃ s4 : Nat → Value, a' = ⟨#[.agg (ints .u64 F 13).toArray, .agg (ints .u64 a 6).toArray, .agg (ints .u64 b 6).toArray, PT γ1_0 0, PT γ1_1 0, PT γ1_2 0, PT γ1_3 0, PT γ2_0 0, .int .i64 ((6 : Nat) : Int), s0 9, PT γ15_0 0, .int .i64 ((i2 : Nat) : Int), .int .i64 ((6 : Nat) : Int), .bool false, s0 14, s0 15, s0 16, s0 17, s0 18, s0 19, s0 20, s0 21, s0 22, s0 23, s0 24, s0 25, s0 26, s0 27, s0 28, s0 29, s0 30, s0 31, s0 32, s0 33, s0 34, s0 35, s0 36, s0 37, s0 38, s0 39, s0 40, s0 41, s4 42, s4 43, s4 44, s4 45, s4 46, s4 47, s4 48, s4 49, s4 50, undef, undef, undef, undef, undef, undef, undef, undef, undef, undef, undef, undef, undef, undef, undef, undef, undef, undef], []⟩ ∧ (Mm w' [(γ15_0, ints .u64 (cpy (mgt (F 6) F a b 6) i2) 6), (γ2_0, ints .u64 (mgt (F 6) F a b 6) 8), (γ1_0, ints .u64 F 13), (γ1_1, ints .u64 a 6), (γ1_2, ints .u64 b 6), (γ1_3, ints .u64 (fun _ => 0) 6)] ∧ Below w.heap.size w w') ∧ i2 ≤ 6) (fun i2 => 6 - i2) 0 ?st4 ?rd4
  case st4 => exact ⟨(slotfn [undef, undef, undef, undef, undef, undef, undef, undef, undef, undef, undef, undef, undef, undef, undef, undef, undef, undef, undef, undef, undef, undef, undef, undef, undef, undef, undef, undef, undef, undef, undef, undef, undef, undef, undef, undef, undef, undef, undef, undef, undef, undef, undef, undef, undef, undef, undef, undef, undef, undef, undef]), rfl, ⟨H22.out.1, H22.out.2⟩, by omega⟩
  intro i2 a' w23 hI
  obtain ⟨s4, rfl, hMB, hk4⟩ := hI
  have H23 : Hid (_ ∧ _) := hMB
  clear hMB H22
  by_cases hlti2 : i2 < 6
  · have hrd : True := trivial
    clear hrd
    refine wp_seq (wp_seq ?_)
    refine walk_seqB 2 [.quiet (.int .i64 ((i2 : Nat) : Int)), .quiet (.bool true)] H23 ?ho17 ?he17
    case ho17 => exact ak (fun _ => ⟨rfl, fun _ _ => rfl⟩) (ak (by refine fun γ => ⟨rfl, fun w' h => ?_⟩; clear h; go_simp <;> omega) trivial)
    intro _ w24 H24
    clear H23
    refine rest0 rfl (then_normal (wp_cond_true rfl ?_))
    refine wp_skip (then_normal ?_)
    refine wp_seq (wp_block ?_)
    refine walk_seqB 5 [.quiet (.int .i64 ((i2 : Nat) : Int)), .quiet (.int .i64 ((i2 : Nat) : Int)), .quiet (PT γ2_0 i2), .quiet (U ((mgt (F 6) F a b 6) i2)), .quiet (PT γ15_0 i2)] H24 ?ho18 ?he18
    case ho18 => exact ak (fun _ => ⟨rfl, fun _ _ => rfl⟩) (ak (fun _ => ⟨rfl, fun _ _ => rfl⟩) (ak (fun γ => ⟨rfl, fun w' _ => ex_ix0_63 (j := i2) rfl rfl rfl (by omega)⟩) (ak (fun γ => ⟨rfl, fun w' h => ex_loadC h 1 rfl rfl rfl Tryd.isAgg22 (ints_get _ _ (by omega))⟩) (ak (fun γ => ⟨rfl, fun w' _ => ex_ix0_25 (j := i2) rfl rfl rfl (by omega)⟩) trivial))))
    intro _ w25 H25
    clear H24
    refine rest_at (l := [5]) rfl ?_
    refine rest_store rfl rfl rfl (ex_storeI H25.out.1 0 rfl rfl Tryd.sizeOf22 rfl rfl (by rw [ints_len]; omega)) ?_
    have H26 : Hid (Mm (w25.setCells γ15_0 i2 ([U ((mgt (F 6) F a b 6) i2)])) [(γ15_0, ints .u64 (cpy (mgt (F 6) F a b 6) (i2 + 1)) 6), (γ2_0, ints .u64 (mgt (F 6) F a b 6) 8), (γ1_0, ints .u64 F 13), (γ1_1, ints .u64 a 6), (γ1_2, ints .u64 b 6), (γ1_3, ints .u64 (fun _ => 0) 6)] ∧ Below w.heap.size w (w25.setCells γ15_0 i2 ([U ((mgt (F 6) F a b 6) i2)]))) := ⟨by
      have h := H25.out.1.put 0 (off := i2) (vs := [U ((mgt (F 6) F a b 6) i2)]) rfl (by rw [ints_len]; simp only [List.length_cons, List.length_nil]; omega)
      rw [ints_patch _ _ _ _ (by omega), show ints .u64 (up (cpy (mgt (F 6) F a b 6) i2) i2 ((mgt (F 6) F a b 6) i2)) 6 = ints .u64 (cpy (mgt (F 6) F a b 6) (i2 + 1)) 6 by rw [show (up (cpy (mgt (F 6) F a b 6) i2) i2 ((mgt (F 6) F a b 6) i2)) = (cpy (mgt (F 6) F a b 6) (i2 + 1)) from cpy_succ _ _]] at h
      exact h, below_setCells _ o15_0.out _ _ _ H25.out.2⟩
    clear H25
    generalize hgw : World.setCells _ _ _ _ = w26 at H26 ⊢
    clear hgw
    refine rest_nil (block_normal (then_normal ?_))
    refine walk_seqB 2 [.quiet (.int .i64 ((i2 : Nat) : Int)), .quiet (.int .i64 ((i2 + 1 : Nat) : Int))] H26 ?ho19 ?he19
    case ho19 => exact ak (fun _ => ⟨rfl, fun _ _ => rfl⟩) (ak (by refine fun γ => ⟨rfl, fun w' h => ?_⟩; clear h; go_simp; rw [IntKind.wrap_i64]; omega) trivial)
    intro _ w27 H27
    clear H26
    refine rest_at (l := [2]) rfl ?_
    refine rest_set (d := 11) rfl rfl rfl rfl ?_
    simp only [Act.put, sa, sz, ss]
    refine rest_nil (then_normal ?_)
    exact ⟨i2 + 1, ⟨(slotfn [undef, undef, undef, undef, undef, undef, undef, undef, undef, undef, undef, undef, undef, undef, undef, undef, undef, undef, undef, undef, undef, undef, undef, undef, undef, undef, undef, undef, undef, undef, undef, undef, undef, undef, undef, undef, undef, undef, undef, undef, undef, undef, .int .i64 ((i2 : Nat) : Int), .bool true, .int .i64 ((i2 : Nat) : Int), .int .i64 ((i2 + 1 : Nat) : Int), .int .i64 ((i2 : Nat) : Int), .int .i64 ((i2 : Nat) : Int), PT γ2_0 i2, U ((mgt (F 6) F a b 6) i2), PT γ15_0 i2]), rfl, ⟨H27.out.1, H27.out.2⟩, by omega⟩, by omega⟩
  have hi2N : i2 = 6 := by omega
  subst hi2N
  refine wp_seq (wp_seq ?_)
  refine walk_seqB 2 [.quiet (.int .i64 ((6 : Nat) : Int)), .quiet (.bool false)] H23 ?ho20 ?he20
  case ho20 => exact ak (fun _ => ⟨rfl, fun _ _ => rfl⟩) (ak (by refine fun γ => ⟨rfl, fun w' h => ?_⟩; clear h; go_simp <;> omega) trivial)
  intro _ w28 H28
  clear H23
  refine rest0 rfl (then_normal (wp_cond_false rfl ?_))
  refine wp_exit ?_
  repeat refine then_exit ?_
  refine block_exit ?_
  refine then_normal (wp_seq (wp_seq ?_))
  refine walk_seqB 10 [.quiet (PT γ2_0 6), .quiet (U ((mgt (F 6) F a b 6) 6)), .quiet (.bool false), .quiet (.bool false), .quiet (.agg (ints .u64 (cpy (mgt (F 6) F a b 6) 6) 6).toArray), .quiet (PT γ1_0 0), .quiet (.agg (ints .u64 F 6).toArray), .call (.int .i64 z), .quiet (.bool false), .quiet (.bool false)] H28 ?ho21 ?he21
  case ho21 => exact ak (fun γ => ⟨rfl, fun w' _ => ex_ix0_63 (j := 6) rfl rfl rfl (by decide)⟩) (ak (fun γ => ⟨rfl, fun w' h => ex_loadC h 1 rfl rfl rfl Tryd.isAgg22 (ints_get _ _ (by decide))⟩) (ak (fun γ => ⟨rfl, fun w' _ => ex_ne64 (a := (mgt (F 6) F a b 6) 6) (by rw [decide_eq_true h6]; rfl) rfl rfl rfl⟩) (ak (fun _ => ⟨rfl, fun _ _ => rfl⟩) (ak (fun γ => ⟨rfl, fun w' h => ex_loadT h 0 rfl rfl rfl Tryd.isAgg24 Tryd.sizeOf24 (ints_whole _ _ _) (ints_len _ _ _)⟩) (ak (by refine fun γ => ⟨rfl, fun w' h => ?_⟩; clear h; go_simp) (ak (fun γ => ⟨rfl, fun w' h => ex_loadT h 2 rfl rfl rfl Tryd.isAgg24 Tryd.sizeOf24 (pre13 F) (ints_len _ _ _)⟩) (ak (fun γ => ⟨rfl, fun w' h => ⟨54, #[.agg (ints .u64 (cpy (mgt (F 6) F a b 6) 6) 6).toArray, .agg (ints .u64 F 6).toArray], exec_call rfl call54 rfl (mpn rfl), HC.out w'⟩⟩) (ak (fun γ => ⟨rfl, fun w' _ => ex_ge3 (z := z) (decide_eq_false (by omega)) rfl rfl rfl⟩) (ak (by refine fun γ => ⟨rfl, fun w' h => ?_⟩; clear h; go_simp) trivial)))))))))
  intro _ w29 H29
  clear H28
  refine rest0 rfl (then_normal (wp_cond_false rfl ?_))
  refine wp_skip (then_normal (wp_seq ?_))
  refine walk_seqB 1 [.quiet (.agg (ints .u64 (cpy (mgt (F 6) F a b 6) 6) 6).toArray)] H29 ?ho22 ?he22
  case ho22 => exact ak (fun γ => ⟨rfl, fun w' h => ex_loadT h 0 rfl rfl rfl Tryd.isAgg24 Tryd.sizeOf24 (ints_whole _ _ _) (ints_len _ _ _)⟩) trivial
  intro _ w30 H30
  clear H29
  refine rest_at (l := [1]) rfl ?_
  refine rest_store rfl rfl rfl (ex_storeT (vs := ints .u64 (cpy (mgt (F 6) F a b 6) 6) 6) H30.out.1 5 rfl rfl rfl rfl (by rw [ints_len]; exact Tryd.sizeOf24) (ints_all _ _ _) (by simp [ints_len])) ?_
  have H31 : Hid (Mm (w30.setCells γ1_3 0 (ints .u64 (cpy (mgt (F 6) F a b 6) 6) 6)) [(γ15_0, ints .u64 (cpy (mgt (F 6) F a b 6) 6) 6), (γ2_0, ints .u64 (mgt (F 6) F a b 6) 8), (γ1_0, ints .u64 F 13), (γ1_1, ints .u64 a 6), (γ1_2, ints .u64 b 6), (γ1_3, ints .u64 (cpy (mgt (F 6) F a b 6) 6) 6)] ∧ Below w.heap.size w (w30.setCells γ1_3 0 (ints .u64 (cpy (mgt (F 6) F a b 6) 6) 6))) := ⟨by
    have h := H30.out.1.put 5 (off := 0) (vs := ints .u64 (cpy (mgt (F 6) F a b 6) 6) 6) rfl (by simp [ints_len])
    rw [ints_patch0 _ _ _ _] at h
    exact h, below_setCells _ o1_3.out _ _ _ H30.out.2⟩
  clear H30
  generalize hgw : World.setCells _ _ _ _ = w31 at H31 ⊢
  clear hgw
  refine rest_nil (then_normal (wp_ret ?_))
  repeat (first | refine then_ret ?_ | refine block_ret ?_)
  have hf0 := var_T H31.out.1 5 rfl Tryd.isAgg24 Tryd.sizeOf24 (ints_len _ _ _)
  refine bodyPost_ret (v := .agg (ints .u64 (cpy (mgt (F 6) F a b 6) 6) 6).toArray) (by simp [results, Tryd.results88, asAddr, hf0]) rfl ?_
  exact ⟨rfl, H31.out.2⟩
end Fs
end Rg
end Go.Proofs.YtfnmahjdkmgdkaaDoor
end
section
namespace Go.Proofs.YtfnmahjdkmgdkaaDoor
open Go.RowKit
namespace Rg
namespace Fs
set_option maxRecDepth 100000
theorem mont_end {T N x x6 D R : Nat} (hT : T = x + x6 * R) (h2 : T < 2 * N) (_hx : x < R) (hN : N < R) (hD : D = (x + R - N) % R) (hc : x6 ≠ 0 ∨ N ≤ x) : D = T % N := by
  have h6 : x6 ≤ 1 := by
    rcases Nat.lt_or_ge 1 x6 with h | h
    · have := Nat.mul_le_mul_right R h
      omega
    · exact h
  have hTN : T % N = T - N := by
    rw [Nat.mod_eq_sub_mod (by rcases (by omega : x6 = 0 ∨ x6 = 1) with e | e <;> subst e <;> omega), Nat.mod_eq_of_lt (by omega)]
  rw [hTN, hD]
  rcases (by omega : x6 = 0 ∨ x6 = 1) with e | e
  · subst e
    rw [show x + R - N = (x - N) + R by omega, Nat.add_mod_right, Nat.mod_eq_of_lt (by omega)]
    omega
  · subst e
    rw [Nat.mod_eq_of_lt (by omega)]
    omega
theorem gv_cpy (X : Nat → Nat) : gv (cpy X 6) 6 = gv X 6 := gv_cg 6 (fun _i hi => if_pos hi)
/-- Montgomery's product, for any numbers below the modulus. -/
theorem mont_any (F a b : Nat → Nat) (hA : ∀ i, i < 6 → a i < 18446744073709551616) (hB : ∀ i, i < 6 → b i < 18446744073709551616) (hN : ∀ i, i < 6 → F i < 18446744073709551616) (hl : (F 0 * F 6 + 1) % 18446744073709551616 = 0) (hbN : gv b 6 < gv F 6)
    (HC : ∀ x : Nat → Nat, (∀ i, i < 6 → x i < 18446744073709551616) → ∃ z : Int, (0 ≤ z ↔ gv F 6 ≤ gv x 6) ∧ ∀ w, Calls Tryd.prog 54 #[.agg (ints .u64 x 6).toArray, .agg (ints .u64 F 6).toArray] w fun e w' => e = .returned (.int .i64 z) ∧ Below w.heap.size w w')
    (HS : ∀ x : Nat → Nat, (∀ i, i < 6 → x i < 18446744073709551616) → ∃ (D : Nat → Nat) (bb : Bool), (∀ i, i < 6 → D i < 18446744073709551616) ∧ gv D 6 = (gv x 6 + 18446744073709551616 ^ 6 - gv F 6) % 18446744073709551616 ^ 6 ∧ ∀ w, Calls Tryd.prog 57 #[.agg (ints .u64 x 6).toArray, .agg (ints .u64 F 6).toArray] w fun e w' => e = .returned (.tuple #[.agg (ints .u64 D 6).toArray, .bool bb]) ∧ Below w.heap.size w w') :
    ∃ D : Nat → Nat, (∀ i, i < 6 → D i < 18446744073709551616) ∧ gv D 6 = gv (mgt (F 6) F a b 6) 8 % gv F 6 ∧ ∀ w, Calls Tryd.prog 88 #[.agg (ints .u64 F 13).toArray, .agg (ints .u64 a 6).toArray, .agg (ints .u64 b 6).toArray] w fun e w' => e = .returned (.agg (ints .u64 D 6).toArray) ∧ Below w.heap.size w w' := by
  obtain ⟨hT2, _⟩ := mgt_val (less := F 6) (N := F) (a := a) (b := b) hB hN hl hbN 6 hA
  have hX : ∀ i, i < 6 → cpy (mgt (F 6) F a b 6) 6 i < 18446744073709551616 := fun i hi => by
    unfold cpy
    rw [if_pos hi]
    exact mgt_lt 6 i
  have hN6 := gv_lt 6 hN
  have hx6 := gv_lt 6 hX
  have hv : gv (mgt (F 6) F a b 6) 8 = gv (cpy (mgt (F 6) F a b 6) 6) 6 + (mgt (F 6) F a b 6) 6 * 18446744073709551616 ^ 6 := by
    rw [gv_cpy]
    show gv (mgt (F 6) F a b 6) 6 + (mgt (F 6) F a b 6) 6 * 18446744073709551616 ^ 6 + (mgt (F 6) F a b 6) 7 * 18446744073709551616 ^ 7 = _
    rw [mgt_7, Nat.zero_mul, Nat.add_zero]
  obtain ⟨z, hz, hC⟩ := HC (cpy (mgt (F 6) F a b 6) 6) hX
  obtain ⟨D, bb, hD1, hD2, hS⟩ := HS (cpy (mgt (F 6) F a b 6) 6) hX
  by_cases h6 : (mgt (F 6) F a b 6) 6 = 0
  · by_cases h0 : 0 ≤ z
    · exact ⟨D, hD1, mont_end hv hT2 hx6 hN6 hD2 (.inr (hz.1 h0)), fun w => mont_b F a b D z bb hA hB hN hC hS h6 h0 w⟩
    · refine ⟨cpy (mgt (F 6) F a b 6) 6, hX, ?_, fun w => mont_c F a b D z bb hA hB hN hC hS h6 (by omega) w⟩
      have h1 : ¬ gv F 6 ≤ gv (cpy (mgt (F 6) F a b 6) 6) 6 := fun h => h0 (hz.2 h)
      rw [hv, h6, Nat.zero_mul, Nat.add_zero, Nat.mod_eq_of_lt (by omega)]
  · exact ⟨D, hD1, mont_end hv hT2 hx6 hN6 hD2 (.inl h6), fun w => mont_a F a b D z bb hA hB hN hC hS h6 w⟩
theorem mont_spec (F a b : Nat → Nat) (hA : ∀ i, i < 6 → a i < 18446744073709551616) (hB : ∀ i, i < 6 → b i < 18446744073709551616) (hN : ∀ i, i < 6 → F i < 18446744073709551616) (hl : (F 0 * F 6 + 1) % 18446744073709551616 = 0) (hbN : gv b 6 < gv F 6)
    (HC : ∀ x : Nat → Nat, (∀ i, i < 6 → x i < 18446744073709551616) → ∃ z : Int, (0 ≤ z ↔ gv F 6 ≤ gv x 6) ∧ ∀ w, Calls Tryd.prog 54 #[.agg (ints .u64 x 6).toArray, .agg (ints .u64 F 6).toArray] w fun e w' => e = .returned (.int .i64 z) ∧ Below w.heap.size w w')
    (HS : ∀ x : Nat → Nat, (∀ i, i < 6 → x i < 18446744073709551616) → ∃ (D : Nat → Nat) (bb : Bool), (∀ i, i < 6 → D i < 18446744073709551616) ∧ gv D 6 = (gv x 6 + 18446744073709551616 ^ 6 - gv F 6) % 18446744073709551616 ^ 6 ∧ ∀ w, Calls Tryd.prog 57 #[.agg (ints .u64 x 6).toArray, .agg (ints .u64 F 6).toArray] w fun e w' => e = .returned (.tuple #[.agg (ints .u64 D 6).toArray, .bool bb]) ∧ Below w.heap.size w w') :
    ∃ D : Nat → Nat, (∀ i, i < 6 → D i < 18446744073709551616) ∧ gv D 6 < gv F 6 ∧ gv D 6 * 18446744073709551616 ^ 6 % gv F 6 = gv a 6 * gv b 6 % gv F 6 ∧ ∀ w, Calls Tryd.prog 88 #[.agg (ints .u64 F 13).toArray, .agg (ints .u64 a 6).toArray, .agg (ints .u64 b 6).toArray] w fun e w' => e = .returned (.agg (ints .u64 D 6).toArray) ∧ Below w.heap.size w w' := by
  obtain ⟨D, h1, h2, h3⟩ := mont_any F a b hA hB hN hl hbN HC HS
  refine ⟨D, h1, by rw [h2]; exact Nat.mod_lt _ (by omega), ?_, h3⟩
  rw [h2]
  exact mont_val hA hB hN hl hbN
end Fs
end Rg
end Go.Proofs.YtfnmahjdkmgdkaaDoor
end
