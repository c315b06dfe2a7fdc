/- Texts of the proof, joined. -/
import Derived.Test.YtkkloakcphigeaaDoorP5
import Derived.BigQuiet
import Derived.Deep.DeepCutAuto
import Derived.Deep.CutBlock
import Derived.WalkSmall
import Derived.Laws.MakeOwn
import Derived.Laws.AppendOwn
import Derived.Laws.OwnMore
section
namespace Go.Proofs.YtkkloakcphigeaaDoor
open Go.RowKit
namespace Rg
namespace Sh
set_option maxRecDepth 100000
/-- Numbers in a row. -/
structure Ns (w : World) (p : Option Addr) (m g o : Nat) (F : Nat → Nat) : Prop where
  p : 0 < m → p = some ⟨g, o, none⟩ ∧ g < w.heap.size
  c : ∀ i, i < m → ∀ j, j < 6 → w.cell? ⟨g, o + i * 6 + j, none⟩ = some (.int .u64 (wd (F i) j))
  b : ∀ i, i < m → F i < big
theorem Ns.below {w u : World} {p : Option Addr} {m g o : Nat} {F : Nat → Nat} (h : Ns w p m g o F) (hb : Below w.heap.size w u) : Ns u p m g o F :=
  ⟨fun e => ⟨(h.p e).1, Nat.lt_of_lt_of_le (h.p e).2 hb.size⟩, fun i hi j hj => (hb.cell (p := ⟨g, o + i * 6 + j, none⟩) (h.p (by omega)).2).trans (h.c i hi j hj), h.b⟩
/-- A polynomial's value, worked out from its last coefficient on. -/
def hT (r : Nat) (cs : Nat → Nat) (x m : Nat) : Nat → Nat
  | 0 => 0
  | k + 1 => (hT r cs x m k * x % r + cs (m - 1 - k)) % r
theorem hT_lt {r : Nat} (ok : Ok r) (cs : Nat → Nat) (x m : Nat) : ∀ k, hT r cs x m k < r
  | 0 => ok.pos
  | _ + 1 => Nat.mod_lt _ ok.pos
theorem lt_big {r a : Nat} (ok : Ok r) (h : a < r) : a < big := Nat.lt_trans h ok.big
set_option maxHeartbeats 4000000 in
theorem value_any {g r : Nat} (ok : Ok r) {p : Option Addr} {m c sg so : Nat} {cs : Nat → Nat} (x : Nat) (hx : x < big) (hx2 : x < 9223372036854775808) (hml : m ≤ 9223372036854775807) (w : World) (hm : Mm w [(g, modc r)]) (hcs : Ns w p m sg so cs) :
    Calls Tryd.prog 23 #[.agg #[PT g 0], .slice p m c, .int .i64 (x : Int)] w fun e w' => e = .returned (N (hT r cs x m m)) ∧ Below w.heap.size w w' := by
  have HCS : Hid _ := hcs
  clear hcs
  have hM0 : Mm w [(g, modc r)] := hm
  have hB0 : Below w.heap.size w w := Below.refl _ _
  obtain ⟨w1, e1⟩ : ∃ w1, (w.alloc (.cells #[PT g 0] 53)) = w1 := ⟨_, rfl⟩
  have hM1 : Mm w1 [(w.heap.size, [PT g 0]), (g, modc r)] := mm_new hM0 [PT g 0] 53 e1 rfl
  have hB1 : Below w.heap.size w w1 := bl_new hB0 hB0.size e1
  obtain ⟨w2, e2⟩ : ∃ w2, (w1.alloc (.cells #[.int .u64 0, .int .u64 0, .int .u64 0, .int .u64 0, .int .u64 0, .int .u64 0] 33)) = w2 := ⟨_, rfl⟩
  have hM2 : Mm w2 [(w1.heap.size, [.int .u64 0, .int .u64 0, .int .u64 0, .int .u64 0, .int .u64 0, .int .u64 0]), (w.heap.size, [PT g 0]), (g, modc r)] := mm_new hM1 [.int .u64 0, .int .u64 0, .int .u64 0, .int .u64 0, .int .u64 0, .int .u64 0] 33 e2 rfl
  have hB2 : Below w.heap.size w w2 := bl_new hB1 hB1.size e2
  obtain ⟨w3, e3⟩ : ∃ w3, (w2.alloc (.cells #[.int .u64 0, .int .u64 0, .int .u64 0, .int .u64 0, .int .u64 0, .int .u64 0] 33)) = w3 := ⟨_, rfl⟩
  have hM3 : Mm w3 [(w2.heap.size, [.int .u64 0, .int .u64 0, .int .u64 0, .int .u64 0, .int .u64 0, .int .u64 0]), (w1.heap.size, [.int .u64 0, .int .u64 0, .int .u64 0, .int .u64 0, .int .u64 0, .int .u64 0]), (w.heap.size, [PT g 0]), (g, modc r)] := mm_new hM2 [.int .u64 0, .int .u64 0, .int .u64 0, .int .u64 0, .int .u64 0, .int .u64 0] 33 e3 rfl
  have hB3 : Below w.heap.size w w3 := bl_new hB2 hB2.size e3
  have HM : Hid (Mm w3 [(w2.heap.size, [.int .u64 0, .int .u64 0, .int .u64 0, .int .u64 0, .int .u64 0, .int .u64 0]), (w1.heap.size, [.int .u64 0, .int .u64 0, .int .u64 0, .int .u64 0, .int .u64 0, .int .u64 0]), (w.heap.size, [PT g 0]), (g, modc r)]) := hM3
  have HB : Hid (Below w.heap.size w w3) := hB3
  clear hM0 hB0 hM1 hB1 hM2 hB2 hM3 hB3 hm
  have hlo1 : w.heap.size ≤ w1.heap.size := by rw [sz_new e1]; omega
  have hlo2 : w.heap.size ≤ w2.heap.size := by rw [sz_new e2]; omega
  go_enter Tryd.func23, Tryd.ntmps23
  go_wp2
  go_loopw [8] (fun v wr => ∃ k : Nat, k ≤ m ∧ v = .int .i64 ((m : Int) - 1 - (k : Int)) ∧ Hid (Mm wr [(w2.heap.size, cells6 (hT r cs x m k)), (w1.heap.size, [.int .u64 0, .int .u64 0, .int .u64 0, .int .u64 0, .int .u64 0, .int .u64 0]), (w.heap.size, [PT g 0]), (g, modc r)] ∧ Below w.heap.size w wr))
    (fun v _ => ((RowKit.intOf v) + 1).toNat)
  case atStart => exact ⟨0, Nat.zero_le _, by simp, by have := HM.out; rwa [show cells6 (hT r cs x m 0) = [.int .u64 0, .int .u64 0, .int .u64 0, .int .u64 0, .int .u64 0, .int .u64 0] from cells_zero], HB.out⟩
  case round =>
    obtain ⟨k, hk, rfl, hC⟩ := hrel
    obtain ⟨W, rfl⟩ : ∃ W, W = wr := ⟨wr, rfl⟩
    obtain ⟨S, hS⟩ : ∃ S, hT r cs x m k = S := ⟨_, rfl⟩
    have hSb : S < big := by rw [← hS]; exact lt_big ok (hT_lt ok _ _ _ _)
    rw [hS] at hC
    have HS : Hid _ := hS
    clear hS
    have HMR : Hid (Mm W [(w2.heap.size, cells6 (S)), (w1.heap.size, [.int .u64 0, .int .u64 0, .int .u64 0, .int .u64 0, .int .u64 0, .int .u64 0]), (w.heap.size, [PT g 0]), (g, modc r)]) := hC.out.1
    have HBR : Hid (Below w.heap.size w W) := hC.out.2
    clear hC
    by_cases hlt : k < m
    · obtain ⟨i, hi⟩ : ∃ i, m - 1 - k = i := ⟨_, rfl⟩
      have him : i < m := by omega
      rw [show (m : Int) - 1 - (k : Int) = (i : Int) by omega]
      obtain ⟨rfl, hsg⟩ := HCS.out.p (by omega)
      have hcb := HCS.out.b i him
      have HCC : Hid (∀ u, Below W.heap.size W u → ∀ j, j < 6 → u.cell? ⟨sg, so + i * 6 + j, none⟩ = some (.int .u64 (wd (cs i) j))) := fun u hu j hj => ((HBR.out.trans (hu.mono HBR.out.size)).cell (p := ⟨sg, so + i * 6 + j, none⟩) hsg).trans (HCS.out.c i him j hj)
      go_wp2
      refine walk_det (by kernel_rfl) 13 [PT w.heap.size 0, PT g 0, PT w.heap.size 0, PT g 0, N S, .int .i64 (x : Int), N x, N (S * x % r), .slice (some ⟨sg, so, none⟩) m c, .int .i64 (i : Int), PT sg (so + i * 6), N (cs i), N ((S * x % r + cs i) % r)] [none, none, none, none, none, none, some 0, some 1, none, none, none, none, some 2] [6, 7, 12]
        (fun _ u => Below W.heap.size W u) ?prez ?Fz ?hprez ?hFz (by kernel_rfl) ?hWz (bdr W) ?hopz ?hez
      case hprez => simp only [tk, tz]; rfl
      case hFz => simp only [List.map_cons, List.map_nil, fill, Kind.val, Act.put, sa, sz, ss]; rfl
      case hWz => kernel_rfl
      case hopz =>
        refine ⟨fun c _ u hu => ?_, fun c _ u hu => ?_, fun c _ u hu => ?_, fun c _ u hu => ?_, fun c _ u hu => ?_, fun c _ u hu => ?_, fun u hu => .inr ⟨44, #[.int .i64 (x : Int)], exec_call rfl (fun _ _ => rfl) rfl (by simp only [List.map_toArray, List.map_cons, List.map_nil]; rfl), ?_⟩, fun u hu => .inr ⟨30, #[PT g 0, N S, N x], exec_call rfl (fun _ _ => rfl) rfl (by simp only [List.map_toArray, List.map_cons, List.map_nil]; rfl), ?_⟩, fun c _ u hu => ?_, fun c _ u hu => ?_, fun c _ u hu => ?_, fun c _ u hu => ?_, fun u hu => .inr ⟨43, #[PT g 0, N (S * x % r), N (cs i)], exec_call rfl (fun _ _ => rfl) rfl (by simp only [List.map_toArray, List.map_cons, List.map_nil]; rfl), ?_⟩, trivial⟩
        · clear hu; go_simp
        · have c2_0 := (HMR.out.below hu).get 2 rfl 0 rfl; clear hu; go_simp
        · clear hu; go_simp
        · have c2_0 := (HMR.out.below hu).get 2 rfl 0 rfl; clear hu; go_simp
        · have c0_0 := (HMR.out.below hu).get 0 rfl 0 rfl; have c0_1 := (HMR.out.below hu).get 0 rfl 1 rfl; have c0_2 := (HMR.out.below hu).get 0 rfl 2 rfl; have c0_3 := (HMR.out.below hu).get 0 rfl 3 rfl; have c0_4 := (HMR.out.below hu).get 0 rfl 4 rfl; have c0_5 := (HMR.out.below hu).get 0 rfl 5 rfl; clear hu; go_simp
        · clear hu; go_simp
        · exact Calls.mono (number_any x hx2 u) fun e u2 ⟨he, h2⟩ => ⟨he, hu.trans (h2.mono hu.size)⟩
        · exact Calls.mono (mulm_any ok hSb hx u ((HMR.out.below hu).tail.tail.tail)) fun e u2 ⟨he, h2⟩ => ⟨he, hu.trans (h2.mono hu.size)⟩
        · clear hu; go_simp
        · clear hu; go_simp
        · clear hu; go_simp
        · have d0 : u.cell? ⟨sg, so + i * 6, none⟩ = _ := HCC.out u hu 0 (by decide); have d1 : u.cell? ⟨sg, so + i * 6 + 1, none⟩ = _ := HCC.out u hu 1 (by decide); have d2 : u.cell? ⟨sg, so + i * 6 + 2, none⟩ = _ := HCC.out u hu 2 (by decide); have d3 : u.cell? ⟨sg, so + i * 6 + 3, none⟩ = _ := HCC.out u hu 3 (by decide); have d4 : u.cell? ⟨sg, so + i * 6 + 4, none⟩ = _ := HCC.out u hu 4 (by decide); have d5 : u.cell? ⟨sg, so + i * 6 + 5, none⟩ = _ := HCC.out u hu 5 (by decide); clear hu; go_simp
        · exact Calls.mono (addm_any ok (lt_big ok (Nat.mod_lt _ ok.pos)) hcb u ((HMR.out.below hu).tail.tail.tail)) fun e u2 ⟨he, h2⟩ => ⟨he, hu.trans (h2.mono hu.size)⟩
      intro u hu
      have HU : Hid _ := HMR.out.below hu
      have HBU : Hid (Below w.heap.size w u) := HBR.out.trans (hu.mono HBR.out.size)
      clear hu
      refine rest_store rfl rfl rfl (ex_store6 HU.out 0 rfl rfl rfl rfl (Nat.le_of_ble_eq_true rfl)) ?_
      have HE : Hid _ := HU.out.put 0 (off := 0) (vs := cells6 ((S * x % r + cs i) % r)) rfl (Nat.le_of_ble_eq_true rfl)
      have HBE : Hid (Below w.heap.size w (u.setCells w2.heap.size 0 (cells6 ((S * x % r + cs i) % r)))) := bl_put HBU.out hlo2
      clear HU HBU
      generalize hgw : World.setCells _ _ _ _ = w6 at HE HBE ⊢
      clear hgw
      refine rest_nil ?_
      go_wp2
      go_roundw
      case rel =>
        refine ⟨k + 1, by omega, by simp; omega, ?_, HBE.out⟩
        show Mm w6 [(w2.heap.size, cells6 ((hT r cs x m k * x % r + cs (m - 1 - k)) % r)), (w1.heap.size, [.int .u64 0, .int .u64 0, .int .u64 0, .int .u64 0, .int .u64 0, .int .u64 0]), (w.heap.size, [PT g 0]), (g, modc r)]
        rw [HS.out, hi]
        exact HE.out
      case measure => simp [RowKit.intOf]
    · obtain rfl : k = m := by omega
      rw [show (k : Int) - 1 - (k : Int) = -1 by omega]
      have c0_0 := HMR.out.get 0 rfl 0 rfl
      have c0_1 := HMR.out.get 0 rfl 1 rfl
      have c0_2 := HMR.out.get 0 rfl 2 rfl
      have c0_3 := HMR.out.get 0 rfl 3 rfl
      have c0_4 := HMR.out.get 0 rfl 4 rfl
      have c0_5 := HMR.out.get 0 rfl 5 rfl
      have z0 := HMR.out.free (g := w1.heap.size) (cs := [.int .u64 0, .int .u64 0, .int .u64 0, .int .u64 0, .int .u64 0, .int .u64 0]) (by simp) (k := 0) rfl
      have z1 := HMR.out.free (g := w1.heap.size) (cs := [.int .u64 0, .int .u64 0, .int .u64 0, .int .u64 0, .int .u64 0, .int .u64 0]) (by simp) (k := 1) rfl
      have z2 := HMR.out.free (g := w1.heap.size) (cs := [.int .u64 0, .int .u64 0, .int .u64 0, .int .u64 0, .int .u64 0, .int .u64 0]) (by simp) (k := 2) rfl
      have z3 := HMR.out.free (g := w1.heap.size) (cs := [.int .u64 0, .int .u64 0, .int .u64 0, .int .u64 0, .int .u64 0, .int .u64 0]) (by simp) (k := 3) rfl
      have z4 := HMR.out.free (g := w1.heap.size) (cs := [.int .u64 0, .int .u64 0, .int .u64 0, .int .u64 0, .int .u64 0, .int .u64 0]) (by simp) (k := 4) rfl
      have z5 := HMR.out.free (g := w1.heap.size) (cs := [.int .u64 0, .int .u64 0, .int .u64 0, .int .u64 0, .int .u64 0, .int .u64 0]) (by simp) (k := 5) rfl
      have f1_0 := HMR.out.get 1 rfl 0 rfl
      have f1_1 := HMR.out.get 1 rfl 1 rfl
      have f1_2 := HMR.out.get 1 rfl 2 rfl
      have f1_3 := HMR.out.get 1 rfl 3 rfl
      have f1_4 := HMR.out.get 1 rfl 4 rfl
      have f1_5 := HMR.out.get 1 rfl 5 rfl
      go_wp2
      rw [HS.out]
      change bodyPost _ _ _ _ _ (World.setCells W (w1.heap.size) 0 (cells6 (S)))
      have HE : Hid _ := HMR.out.put 1 (off := 0) (vs := cells6 (S)) rfl (Nat.le_of_ble_eq_true rfl)
      have HBE : Hid (Below w.heap.size w (World.setCells W (w1.heap.size) 0 (cells6 (S)))) := bl_put HBR.out hlo1
      generalize hgw : World.setCells _ _ _ _ = wz at HE HBE ⊢
      clear hgw
      have c0 := HE.out.get 1 rfl 0 rfl
      have c1 := HE.out.get 1 rfl 1 rfl
      have c2 := HE.out.get 1 rfl 2 rfl
      have c3 := HE.out.get 1 rfl 3 rfl
      have c4 := HE.out.get 1 rfl 4 rfl
      have c5 := HE.out.get 1 rfl 5 rfl
      refine bodyPost_ret (v := N S) (by simp [results, Tryd.results23, go_sem, *]) rfl ⟨rfl, HBE.out⟩
end Sh
end Rg
end Go.Proofs.YtkkloakcphigeaaDoor
end
section
namespace Go.Proofs.YtkkloakcphigeaaDoor
open Go.RowKit
namespace Rg
set_option maxRecDepth 100000
end Rg
end Go.Proofs.YtkkloakcphigeaaDoor
end
section
namespace Go.Proofs.YtkkloakcphigeaaDoor
open Go.RowKit
namespace Rg
set_option maxRecDepth 100000
end Rg
end Go.Proofs.YtkkloakcphigeaaDoor
end
section
namespace Go.Proofs.YtkkloakcphigeaaDoor
open Go.RowKit
namespace Rg
set_option maxRecDepth 100000
theorem ex_loadC {ρ : Operand → Value} {o : Oper} {x : Operand} {g off : Nat} {t : TypeId} {v : Value} {cs : List Value} {w : World} {l : List (Nat × List Value)} (h : Mm w l) (k : Nat) (hk : l[k]? = some (g, cs)) (ho : o.op = .load t x) (hx : ρ x = PT g off) (ha : ∀ w, (isAgg t).run Tryd.prog w = .ok false w) (hc : cs[off]? = some v) :
    (execOp ρ o).run Tryd.prog w = .ok (.value v) w := by
  have c0 := h.cell (List.mem_of_getElem? hk) hc
  clear h hk hc
  simp only [execOp, ho, hx]
  go_simp
theorem ex_storeT {ρ : Operand → Value} {o : Oper} {x y : Operand} {g off : Nat} {t : TypeId} {cs vs : List Value} {w : World} {l : List (Nat × List Value)} (h : Mm w l) (q : Nat) (hk : l[q]? = some (g, cs)) (ho : o.op = .store t x y) (hx : ρ x = PT g off) (hy : ρ y = .agg vs.toArray) (hs : ∀ w, (sizeOf t).run Tryd.prog w = .ok vs.length w) (h1 : vs.all Value.oneCell' = true) (hb : off + vs.length ≤ cs.length) :
    (execOp ρ o).run Tryd.prog w = .ok .skip (w.setCells g off vs) := by
  have hm := List.mem_of_getElem? hk
  have hq : ∀ j, j < vs.length → ∃ u, cs[off + j]? = some u := fun j hj => ⟨_, List.getElem?_eq_getElem (by omega)⟩
  have hst := run_storeCells_cells (P := Tryd.prog) g off vs 0 w (fun j hj => by
    obtain ⟨u, hu⟩ := hq j hj
    rw [show off + 0 + j = off + j by omega, h.cell hm hu]; rfl) (fun j hj => by
    obtain ⟨u, hu⟩ := hq j hj
    rw [show off + 0 + j = off + j by omega]; exact h.free hm hu) (List.all_eq_true.1 h1)
  clear h hm hq hb hk
  simp only [execOp, ho, hx, hy]
  go_simp
theorem var_T {g n : Nat} {t : TypeId} {cs : List Value} {w : World} {l : List (Nat × List Value)} (h : Mm w l) (q : Nat) (hk : l[q]? = some (g, cs)) (ha : ∀ w, (isAgg t).run Tryd.prog w = .ok true w) (hs : ∀ w, (sizeOf t).run Tryd.prog w = .ok n w) (hn : cs.length = n) : (loadVar t ⟨g, 0, none⟩).run Tryd.prog w = .ok (.agg cs.toArray) w := by
  have hm := List.mem_of_getElem? hk
  have hcell := run_loadCells_list (P := Tryd.prog) (w := w) ⟨g, 0, none⟩ cs (fun j v hv => by
    have e2 := h.cell hm hv
    rw [show (⟨g, 0, none⟩ : Addr).add j = ⟨g, j, none⟩ from by unfold Addr.add; split <;> simp_all]
    exact e2)
  rw [hn] at hcell
  have hf : (loadCellsFrom ⟨g, 0, none⟩ 0 n #[]).run Tryd.prog w = .ok cs.toArray w := hcell
  clear hcell h hk hm
  simp only [loadVar]
  go_simp
end Rg
end Go.Proofs.YtkkloakcphigeaaDoor
end
section
namespace Go.Proofs.YtkkloakcphigeaaDoor
open Go.RowKit
namespace Rg
namespace Lt
theorem quo_wrap (U y1 q : Nat) (h : U / y1 = q) (hq : q < 18446744073709551616) : IntKind.u64.wrap ((U : Int) / (y1 : Int)) = q := by
  rw [← Int.natCast_ediv, h]; exact Mul64.wrapN q hq
theorem rem_wrap (U y1 q r : Nat) (h : q * y1 + r = U) (hU : U < 18446744073709551616) : IntKind.u64.wrap ((U : Int) - IntKind.u64.wrap ((q : Int) * (y1 : Int))) = r := by
  have h1 : q * y1 < 18446744073709551616 := by omega
  rw [← Int.natCast_mul, Mul64.wrapN _ h1]
  have : (U : Int) - ((q * y1 : Nat) : Int) = (r : Int) := by omega
  rw [this]; exact Mul64.wrapN r (by omega)
theorem hb_break (U y1 y0 u q r Y Q : Nat) (dy : Y = y1 * 4294967296 + y0) (hQ : Q = (U * 4294967296 + u) / Y) (h : (q + 1) * y1 + r = U) (hle : q + 1 ≤ 4294967297) (b3 : y0 < 4294967296) (b4 : 0 < y1) (c2 : 4294967296 ≤ r + y1) (hge : Q + 1 ≤ q + 1) : q = Q := by
  have h2 : q * y1 + (r + y1) = U := by rw [Nat.add_mul] at h; omega
  have h3 : q * y0 ≤ 4294967296 * 4294967295 := Nat.mul_le_mul (by omega) (by omega)
  have h4 := half_enough U y1 y0 u q (r + y1) h2 (by omega) (by omega)
  rw [← dy, ← hQ] at h4
  omega
theorem hb_exit (U y1 y0 u q r Y Q : Nat) (dy : Y = y1 * 4294967296 + y0) (hQ : Q = (U * 4294967296 + u) / Y) (h : q * y1 + r = U) (b4 : 0 < y1) (c : q * y0 ≤ 4294967296 * r + u) (hge : Q ≤ q) : q = Q := by
  have h4 := half_enough U y1 y0 u q r h (by omega) (by rw [Nat.mul_comm r]; exact c)
  rw [← dy, ← hQ] at h4
  omega
theorem hb_more1 (U y1 y0 u q Y Q : Nat) (dy : Y = y1 * 4294967296 + y0) (hQ : Q = (U * 4294967296 + u) / Y) (hu : u < 4294967296) (hU : U < Y) (h : 4294967296 ≤ q) : Q + 1 ≤ q := by
  have h4 := half_big U y1 y0 u q hu (by rw [← dy]; exact hU) h
  rw [← dy, ← hQ] at h4
  exact h4
theorem hb_more2 (U y1 y0 u q r Y Q : Nat) (dy : Y = y1 * 4294967296 + y0) (hQ : Q = (U * 4294967296 + u) / Y) (h : q * y1 + r = U) (b4 : 0 < y1) (c : 4294967296 * r + u < q * y0) : Q + 1 ≤ q := by
  have h4 := half_more U y1 y0 u q r h (by omega) (by rw [Nat.mul_comm r]; exact c)
  rw [← dy, ← hQ] at h4
  exact h4
theorem hb_step (U y1 q r : Nat) (h : (q + 1) * y1 + r = U) : q * y1 + (r + y1) = U := by rw [Nat.add_mul] at h; omega
theorem mul_small (q y0 : Nat) (hq : q < 4294967296) (h : y0 < 4294967296) : q * y0 < 18446744073709551616 := by
  have h3 : q * y0 ≤ 4294967295 * 4294967295 := Nat.mul_le_mul (by omega) (by omega)
  omega
theorem mod_join (M Y u0 : Nat) : (M % Y * 4294967296 + u0) % Y = (M * 4294967296 + u0) % Y := by
  rw [Nat.add_mod, Nat.mul_mod, Nat.mod_mod, ← Nat.mul_mod, ← Nat.add_mod]
set_option maxHeartbeats 2000000 in
set_option maxRecDepth 100000 in
theorem div64_hi (hi lo y : Nat) (h1 : hi < y) (hy : y < 18446744073709551616) (hl : lo < 18446744073709551616) (h0 : hi ≠ 0) (w : World) :
    Calls Tryd.prog 76 #[.int .u64 hi, .int .u64 lo, .int .u64 y] w fun e w' => e = .returned (.tuple #[.int .u64 ((hi * 18446744073709551616 + lo) / y : Nat), .int .u64 ((hi * 18446744073709551616 + lo) % y : Nat)]) ∧ w' = w := by
  have hc := fun w => lz64_any y w (Int.natCast_nonneg y) (by omega)
  rw [Int.toNat_natCast] at hc
  have HC : Hid _ := hc
  have hb1 : bl y ≤ 64 := bl_le_of y 64 hy
  have hb2 : 1 ≤ bl y := bl_pos y (by omega)
  obtain ⟨Y, U, u1, u0, y1, y0, dY, b1, b2, dy, b3, b4, b5, b6, b7, b8, dM, eY, eU, eu1, eu0, ey1, ey0⟩ := norm_parts hi lo y h1 hy hl
  obtain ⟨Q1, hQ1⟩ : ∃ Q1, Q1 = (U * 4294967296 + u1) / Y := ⟨_, rfl⟩
  obtain ⟨R1, hR1⟩ : ∃ R1, R1 = (U * 4294967296 + u1) % Y := ⟨_, rfl⟩
  obtain ⟨Q0, hQ0⟩ : ∃ Q0, Q0 = (R1 * 4294967296 + u0) / Y := ⟨_, rfl⟩
  have hfin : (hi * 18446744073709551616 + lo) / y = Q1 * 4294967296 + Q0 := by
    rw [hQ0, hR1, hQ1, halves_join _ _ _ (by omega), ← dM, dY, norm_div]
  obtain ⟨R0, hR0⟩ : ∃ R0, R0 = (R1 * 4294967296 + u0) % Y := ⟨_, rfl⟩
  have hrem : (hi * 18446744073709551616 + lo) % y = R0 / 2 ^ (64 - bl y) := by
    rw [hR0, hR1, mod_join, ← dM, dY, Nat.mul_mod_mul_right, Nat.mul_div_cancel _ (Nat.two_pow_pos _)]
  rw [hfin, hrem]
  have HN : Hid _ := And.intro b1 (And.intro b2 (And.intro dy (And.intro b8 (And.intro hQ1 (And.intro hR1 (And.intro hQ0 hR0))))))
  have e1 : ((y : Int) == 0) = false := by simp; omega
  have e2 : ((hi : Int) == 0) = false := by simp; omega
  have e3 : (1 : Int) ≤ y1 := by omega
  clear hc hy hl dY dM hfin hrem b1 b2 dy b8 hQ1 hR1 hQ0 hR0
  go_enter Tryd.func76, Tryd.ntmps76
  go_upto_block 0 with (go_at_call 80; refine (HC.out _).mono ?_; rintro e w' ⟨rfl, hw'⟩; rw [hw']; clear hw')
  go_cut [15, 16] (fun qv rv wq => qv = .int .u64 Q1 ∧ (∃ r : Int, rv = .int .u64 r) ∧ wq = w)
  case first =>
    go_wp2
    go_loop [15, 16] (fun qv rv => ∃ q r : Nat, qv = .int .u64 q ∧ rv = .int .u64 r ∧ q * y1 + r = U ∧ Q1 ≤ q ∧ q ≤ 4294967297 ∧ r < 4294967296) (fun q _ => (RowKit.intOf q).toNat)
    case atStart =>
      obtain ⟨b1, b2, dy, b8, hQ1, hR1, hQ0, hR0⟩ := HN.out
      have hs := half_start U y1 y0 b3 b4 (by omega)
      have hg := half_ge U y1 y0 u1 b6 (by omega)
      have e1 := quo_wrap U y1 (U / y1) rfl (by omega)
      have dm := Nat.div_add_mod U y1
      have e2 := rem_wrap U y1 (U / y1) (U % y1) (by rw [Nat.mul_comm]; exact dm) (by omega)
      have hm := Nat.mod_lt U (by omega : 0 < y1)
      rw [e1, e2]
      exact ⟨U / y1, U % y1, rfl, rfl, by rw [Nat.mul_comm]; exact dm, by rw [hQ1, dy]; exact hg, hs, by omega⟩
    case round =>
      obtain ⟨q, r, rfl, rfl, hqr, hge, hle, hr⟩ := hrel
      have HQ : Hid _ := hqr
      clear hqr
      by_cases c1 : 4294967296 ≤ q
      · have hmore : Q1 + 1 ≤ q := by
          obtain ⟨b1, b2, dy, b8, hQ1, hR1, hQ0, hR0⟩ := HN.out
          exact hb_more1 U y1 y0 u1 q Y Q1 dy hQ1 b6 b8 c1
        obtain ⟨p, rfl⟩ : ∃ p, q = p + 1 := ⟨q - 1, by omega⟩
        have HB : Hid (Q1 + 1 ≤ p + 1 ∧ p + 1 ≤ 4294967297 ∧ r < 4294967296) := ⟨hmore, hle, hr⟩
        have i1 : (4294967296 : Int) ≤ (p : Int) + 1 := by omega
        have i2 : (p : Int) + 1 ≤ 4294967297 := by omega
        have i3 : (r : Int) < 4294967296 := by omega
        have i4 : (y1 : Int) < 4294967296 := by omega
        clear c1 hmore hle hr hge
        rw [show ((p + 1 : Nat) : Int) = (p : Int) + 1 by omega]
        by_cases c2 : (4294967296 : Int) ≤ (r : Int) + (y1 : Int)
        · go_wp2
          go_meet
          case rel =>
            obtain ⟨b1, b2, dy, b8, hQ1, hR1, hQ0, hR0⟩ := HN.out
            exact ⟨by rw [hb_break U y1 y0 u1 p r Y Q1 dy hQ1 HQ.out HB.out.2.1 b3 (by omega) (by omega) HB.out.1], ⟨_, rfl⟩, rfl⟩
        · go_wp2
          go_round
          case rel => exact ⟨p, r + y1, rfl, by go_num, hb_step U y1 p r HQ.out, by have := HB.out.1; omega, by have := HB.out.2.1; omega, by omega⟩
          case measure => simp [RowKit.intOf] <;> omega
      · obtain ⟨P, hP⟩ : ∃ P, P = q * y0 := ⟨_, rfl⟩
        have hPb : P < 18446744073709551616 := by rw [hP]; exact mul_small q y0 (by omega) b3
        by_cases c3 : (4294967296 : Int) * (r : Int) + (u1 : Int) < (P : Int)
        · have hq1 : 1 ≤ q := by
            by_cases hq0 : q = 0
            · subst hq0; rw [Nat.zero_mul] at hP; omega
            · omega
          have hmore : Q1 + 1 ≤ q := by
            obtain ⟨b1, b2, dy, b8, hQ1, hR1, hQ0, hR0⟩ := HN.out
            exact hb_more2 U y1 y0 u1 q r Y Q1 dy hQ1 HQ.out (by omega) (by rw [← hP]; omega)
          obtain ⟨p, rfl⟩ : ∃ p, q = p + 1 := ⟨q - 1, by omega⟩
          have HB : Hid (Q1 + 1 ≤ p + 1 ∧ p + 1 ≤ 4294967297 ∧ r < 4294967296) := ⟨hmore, hle, hr⟩
          have i1 : (p : Int) + 1 < 4294967296 := by omega
          have i3 : (r : Int) < 4294967296 := by omega
          have i4 : (y1 : Int) < 4294967296 := by omega
          have i5 : (u1 : Int) < 4294967296 := by omega
          have eP : IntKind.u64.wrap (((p : Int) + 1) * (y0 : Int)) = (P : Int) := by
            rw [show ((p : Int) + 1) = ((p + 1 : Nat) : Int) by omega, ← Int.natCast_mul, ← hP]; exact Mul64.wrapN P hPb
          clear c1 hmore hle hr hge hP hPb hq1
          rw [show ((p + 1 : Nat) : Int) = (p : Int) + 1 by omega]
          by_cases c2 : (4294967296 : Int) ≤ (r : Int) + (y1 : Int)
          · go_wp2
            go_meet
            case rel =>
              obtain ⟨b1, b2, dy, b8, hQ1, hR1, hQ0, hR0⟩ := HN.out
              exact ⟨by rw [hb_break U y1 y0 u1 p r Y Q1 dy hQ1 HQ.out HB.out.2.1 b3 (by omega) (by omega) HB.out.1], ⟨_, rfl⟩, rfl⟩
          · go_wp2
            go_round
            case rel => exact ⟨p, r + y1, rfl, by go_num, hb_step U y1 p r HQ.out, by have := HB.out.1; omega, by have := HB.out.2.1; omega, by omega⟩
            case measure => simp [RowKit.intOf] <;> omega
        · have HE : Hid (q = Q1) := by
            obtain ⟨b1, b2, dy, b8, hQ1, hR1, hQ0, hR0⟩ := HN.out
            exact hb_exit U y1 y0 u1 q r Y Q1 dy hQ1 HQ.out (by omega) (by rw [← hP]; omega) hge
          have eP : IntKind.u64.wrap ((q : Int) * (y0 : Int)) = (P : Int) := by
            rw [← Int.natCast_mul, ← hP]; exact Mul64.wrapN P hPb
          obtain ⟨z, hz⟩ : ∃ z : Int, z = (q : Int) := ⟨_, rfl⟩
          obtain ⟨x, hx⟩ : ∃ x : Int, x = (P : Int) := ⟨_, rfl⟩
          obtain ⟨v, hv⟩ : ∃ v : Int, v = (r : Int) := ⟨_, rfl⟩
          have HZ : Hid (z = (Q1 : Int)) := by rw [hz, HE.out]; rfl
          have i0 : 0 ≤ z := by omega
          have i1 : z < 4294967296 := by omega
          have i2 : 0 ≤ v := by omega
          have i3 : v < 4294967296 := by omega
          have i6 : x ≤ 4294967296 * v + (u1 : Int) := by omega
          rw [← hz, ← hx] at eP
          rw [← hz, ← hv]
          clear c1 c3 hle hr hge hP hPb HE hz hx hv
          go_wp2
          go_meet
          case rel => exact ⟨by rw [HZ.out], ⟨_, rfl⟩, rfl⟩
  case rest =>
    obtain ⟨rfl, ⟨rv, rfl⟩, rfl⟩ := hcut
    have eR : IntKind.u64.wrap (IntKind.u64.wrap (IntKind.u64.wrap ((U : Int) * 4294967296) + (u1 : Int)) - IntKind.u64.wrap ((Q1 : Int) * (Y : Int))) = (R1 : Int) := by
      obtain ⟨b1, b2, dy, b8, hQ1, hR1, hQ0, hR0⟩ := HN.out
      have dm := Nat.div_add_mod (U * 4294967296 + u1) Y
      have b9 : R1 < Y := by rw [hR1]; exact Nat.mod_lt _ (by omega)
      rw [← hQ1, ← hR1, Nat.mul_comm] at dm
      rw [IntKind.wrap_u64, IntKind.wrap_u64, IntKind.wrap_u64, IntKind.wrap_u64, ← Int.natCast_mul]
      generalize Q1 * Y = Z at dm ⊢
      omega
    go_upto_block 2 with (fail)
    go_cut [18, 16] (fun qv rv wq => qv = .int .u64 Q0 ∧ (∃ r : Int, rv = .int .u64 r) ∧ wq = wc)
    case first =>
      go_wp2
      go_loop [18, 16] (fun qv rv => ∃ q r : Nat, qv = .int .u64 q ∧ rv = .int .u64 r ∧ q * y1 + r = R1 ∧ Q0 ≤ q ∧ q ≤ 4294967297 ∧ r < 4294967296) (fun q _ => (RowKit.intOf q).toNat)
      case atStart =>
        obtain ⟨b1, b2, dy, b8, hQ1, hR1, hQ0, hR0⟩ := HN.out; have b9 : R1 < Y := by rw [hR1]; exact Nat.mod_lt _ (by omega)
        have hs := half_start R1 y1 y0 b3 b4 (by omega)
        have hg := half_ge R1 y1 y0 u0 b7 (by omega)
        have e1 := quo_wrap R1 y1 (R1 / y1) rfl (by omega)
        have dm := Nat.div_add_mod R1 y1
        have e2 := rem_wrap R1 y1 (R1 / y1) (R1 % y1) (by rw [Nat.mul_comm]; exact dm) (by omega)
        have hm := Nat.mod_lt R1 (by omega : 0 < y1)
        rw [e1, e2]
        exact ⟨R1 / y1, R1 % y1, rfl, rfl, by rw [Nat.mul_comm]; exact dm, by rw [hQ0, dy]; exact hg, hs, by omega⟩
      case round =>
        obtain ⟨q, r, rfl, rfl, hqr, hge, hle, hr⟩ := hrel
        have HQ : Hid _ := hqr
        clear hqr
        by_cases c1 : 4294967296 ≤ q
        · have hmore : Q0 + 1 ≤ q := by
            obtain ⟨b1, b2, dy, b8, hQ1, hR1, hQ0, hR0⟩ := HN.out; have b9 : R1 < Y := by rw [hR1]; exact Nat.mod_lt _ (by omega)
            exact hb_more1 R1 y1 y0 u0 q Y Q0 dy hQ0 b7 b9 c1
          obtain ⟨p, rfl⟩ : ∃ p, q = p + 1 := ⟨q - 1, by omega⟩
          have HB : Hid (Q0 + 1 ≤ p + 1 ∧ p + 1 ≤ 4294967297 ∧ r < 4294967296) := ⟨hmore, hle, hr⟩
          have i1 : (4294967296 : Int) ≤ (p : Int) + 1 := by omega
          have i2 : (p : Int) + 1 ≤ 4294967297 := by omega
          have i3 : (r : Int) < 4294967296 := by omega
          have i4 : (y1 : Int) < 4294967296 := by omega
          clear c1 hmore hle hr hge
          rw [show ((p + 1 : Nat) : Int) = (p : Int) + 1 by omega]
          by_cases c2 : (4294967296 : Int) ≤ (r : Int) + (y1 : Int)
          · go_wp2
            go_meet
            case rel =>
              obtain ⟨b1, b2, dy, b8, hQ1, hR1, hQ0, hR0⟩ := HN.out; have b9 : R1 < Y := by rw [hR1]; exact Nat.mod_lt _ (by omega)
              exact ⟨by rw [hb_break R1 y1 y0 u0 p r Y Q0 dy hQ0 HQ.out HB.out.2.1 b3 (by omega) (by omega) HB.out.1], ⟨_, rfl⟩, rfl⟩
          · go_wp2
            go_round
            case rel => exact ⟨p, r + y1, rfl, by go_num, hb_step R1 y1 p r HQ.out, by have := HB.out.1; omega, by have := HB.out.2.1; omega, by omega⟩
            case measure => simp [RowKit.intOf] <;> omega
        · obtain ⟨P, hP⟩ : ∃ P, P = q * y0 := ⟨_, rfl⟩
          have hPb : P < 18446744073709551616 := by rw [hP]; exact mul_small q y0 (by omega) b3
          by_cases c3 : (4294967296 : Int) * (r : Int) + (u0 : Int) < (P : Int)
          · have hq1 : 1 ≤ q := by
              by_cases hq0 : q = 0
              · subst hq0; rw [Nat.zero_mul] at hP; omega
              · omega
            have hmore : Q0 + 1 ≤ q := by
              obtain ⟨b1, b2, dy, b8, hQ1, hR1, hQ0, hR0⟩ := HN.out; have b9 : R1 < Y := by rw [hR1]; exact Nat.mod_lt _ (by omega)
              exact hb_more2 R1 y1 y0 u0 q r Y Q0 dy hQ0 HQ.out (by omega) (by rw [← hP]; omega)
            obtain ⟨p, rfl⟩ : ∃ p, q = p + 1 := ⟨q - 1, by omega⟩
            have HB : Hid (Q0 + 1 ≤ p + 1 ∧ p + 1 ≤ 4294967297 ∧ r < 4294967296) := ⟨hmore, hle, hr⟩
            have i1 : (p : Int) + 1 < 4294967296 := by omega
            have i3 : (r : Int) < 4294967296 := by omega
            have i4 : (y1 : Int) < 4294967296 := by omega
            have i5 : (u0 : Int) < 4294967296 := by omega
            have eP : IntKind.u64.wrap (((p : Int) + 1) * (y0 : Int)) = (P : Int) := by
              rw [show ((p : Int) + 1) = ((p + 1 : Nat) : Int) by omega, ← Int.natCast_mul, ← hP]; exact Mul64.wrapN P hPb
            clear c1 hmore hle hr hge hP hPb hq1
            rw [show ((p + 1 : Nat) : Int) = (p : Int) + 1 by omega]
            by_cases c2 : (4294967296 : Int) ≤ (r : Int) + (y1 : Int)
            · go_wp2
              go_meet
              case rel =>
                obtain ⟨b1, b2, dy, b8, hQ1, hR1, hQ0, hR0⟩ := HN.out; have b9 : R1 < Y := by rw [hR1]; exact Nat.mod_lt _ (by omega)
                exact ⟨by rw [hb_break R1 y1 y0 u0 p r Y Q0 dy hQ0 HQ.out HB.out.2.1 b3 (by omega) (by omega) HB.out.1], ⟨_, rfl⟩, rfl⟩
            · go_wp2
              go_round
              case rel => exact ⟨p, r + y1, rfl, by go_num, hb_step R1 y1 p r HQ.out, by have := HB.out.1; omega, by have := HB.out.2.1; omega, by omega⟩
              case measure => simp [RowKit.intOf] <;> omega
          · have HE : Hid (q = Q0) := by
              obtain ⟨b1, b2, dy, b8, hQ1, hR1, hQ0, hR0⟩ := HN.out; have b9 : R1 < Y := by rw [hR1]; exact Nat.mod_lt _ (by omega)
              exact hb_exit R1 y1 y0 u0 q r Y Q0 dy hQ0 HQ.out (by omega) (by rw [← hP]; omega) hge
            have eP : IntKind.u64.wrap ((q : Int) * (y0 : Int)) = (P : Int) := by
              rw [← Int.natCast_mul, ← hP]; exact Mul64.wrapN P hPb
            obtain ⟨z, hz⟩ : ∃ z : Int, z = (q : Int) := ⟨_, rfl⟩
            obtain ⟨x, hx⟩ : ∃ x : Int, x = (P : Int) := ⟨_, rfl⟩
            obtain ⟨v, hv⟩ : ∃ v : Int, v = (r : Int) := ⟨_, rfl⟩
            have HZ : Hid (z = (Q0 : Int)) := by rw [hz, HE.out]; rfl
            have i0 : 0 ≤ z := by omega
            have i1 : z < 4294967296 := by omega
            have i2 : 0 ≤ v := by omega
            have i3 : v < 4294967296 := by omega
            have i6 : x ≤ 4294967296 * v + (u0 : Int) := by omega
            rw [← hz, ← hx] at eP
            rw [← hz, ← hv]
            clear c1 c3 hle hr hge hP hPb HE hz hx hv
            go_wp2
            go_meet
            case rel => exact ⟨by rw [HZ.out], ⟨_, rfl⟩, rfl⟩
    case rest =>
      obtain ⟨rfl, ⟨rv2, rfl⟩, rfl⟩ := hcut
      have eQ : IntKind.u64.wrap (IntKind.u64.wrap ((Q1 : Int) * 4294967296) + (Q0 : Int)) = ((Q1 * 4294967296 + Q0 : Nat) : Int) := by
        obtain ⟨b1, b2, dy, b8, hQ1, hR1, hQ0, hR0⟩ := HN.out
        have b9 : R1 < Y := by rw [hR1]; exact Nat.mod_lt _ (by omega)
        have q1 : Q1 < 4294967296 := by rw [hQ1]; exact (Nat.div_lt_iff_lt_mul (by omega)).2 (by omega)
        have q0 : Q0 < 4294967296 := by rw [hQ0]; exact (Nat.div_lt_iff_lt_mul (by omega)).2 (by omega)
        rw [IntKind.wrap_u64, IntKind.wrap_u64]
        omega
      have eZ : IntKind.u64.wrap (IntKind.u64.wrap (IntKind.u64.wrap ((R1 : Int) * 4294967296) + (u0 : Int)) - IntKind.u64.wrap ((Q0 : Int) * (Y : Int))) = (R0 : Int) := by
        obtain ⟨b1, b2, dy, b8, hQ1, hR1, hQ0, hR0⟩ := HN.out
        have dm := Nat.div_add_mod (R1 * 4294967296 + u0) Y
        have b9 : R0 < Y := by rw [hR0]; exact Nat.mod_lt _ (by omega)
        rw [← hQ0, ← hR0, Nat.mul_comm] at dm
        rw [IntKind.wrap_u64, IntKind.wrap_u64, IntKind.wrap_u64, IntKind.wrap_u64, ← Int.natCast_mul]
        generalize Q0 * Y = Z at dm ⊢
        omega
      go_wp2
      rw [show ((Q1 : Int) * 4294967296 + (Q0 : Int)) = ((Q1 * 4294967296 + Q0 : Nat) : Int) by omega]
      go_ret2
      exact ⟨rfl, rfl⟩
end Lt
end Rg
end Go.Proofs.YtkkloakcphigeaaDoor
end
section
namespace Go.Proofs.YtkkloakcphigeaaDoor
open Go.RowKit
namespace Rg
namespace Lt
set_option maxHeartbeats 400000 in
theorem div64_zero (lo y : Nat) (h1 : 0 < y) (hl : lo < 18446744073709551616) (w : World) :
    Calls Tryd.prog 76 #[.int .u64 0, .int .u64 lo, .int .u64 y] w fun e w' => e = .returned (.tuple #[.int .u64 (lo / y : Nat), .int .u64 (lo % y : Nat)]) ∧ ∃ n, w' = w.drewN n := by
  have e1 : ((y : Int) == 0) = false := by simp; omega
  have e3 : (1 : Int) ≤ y := by omega
  have eq : Hid _ := quo_wrap lo y (lo / y) rfl (Nat.lt_of_le_of_lt (Nat.div_le_self _ _) hl)
  clear hl
  go_enter Tryd.func76, Tryd.ntmps76
  go_wp2
  go_quiet (fail)
  go_wp2
  rw [eq.out]
  go_ret2
  exact ⟨rfl, _, rfl⟩
theorem div64_any (hi lo y : Nat) (h1 : hi < y) (hy : y < 18446744073709551616) (hl : lo < 18446744073709551616) (w : World) :
    Calls Tryd.prog 76 #[.int .u64 hi, .int .u64 lo, .int .u64 y] w fun e w' => e = .returned (.tuple #[.int .u64 ((hi * 18446744073709551616 + lo) / y : Nat), .int .u64 ((hi * 18446744073709551616 + lo) % y : Nat)]) ∧ ∃ n, w' = w.drewN n := by
  by_cases h0 : hi = 0
  · subst h0
    rw [Nat.zero_mul, Nat.zero_add]
    exact div64_zero lo y (by omega) hl w
  · refine (div64_hi hi lo y h1 hy hl h0 w).mono ?_
    rintro e w' ⟨rfl, hw⟩
    exact ⟨rfl, 0, hw⟩
end Lt
end Rg
end Go.Proofs.YtkkloakcphigeaaDoor
end
section
namespace Go.Proofs.YtkkloakcphigeaaDoor
open Go.RowKit
namespace Rg
namespace Lt
abbrev U (n : Nat) : Value := .int .u64 (n : Int)
/-- A struct or an array, cell by cell. -/
abbrev V (l : List Value) : Value := .agg l.toArray
section
variable {ρ : Operand → Value} {o : Oper} {x y : Operand} {a b : Nat} {w : World}
end
end Lt
end Rg
end Go.Proofs.YtkkloakcphigeaaDoor
end
section
namespace Go.Proofs.YtkkloakcphigeaaDoor
open Go.RowKit
namespace Rg
namespace Lt
abbrev kd (p r c x y : Nat) : List Value := [U p, U r, U c, U x, U y, .bool false]
abbrev pt (x y : Nat) (z : Bool) : List Value := [U x, U y, .bool z]
abbrev tr (x y z : Nat) : List Value := [U x, U y, U z]
abbrev l2 (a b : Nat) : List Value := [U a, U b]
theorem ex_loadC {ρ : Operand → Value} {o : Oper} {x : Operand} {g off : Nat} {t : TypeId} {v : Value} {cs : List Value} {w : World} {l : List (Nat × List Value)} (h : Mm w l) (k : Nat) (hk : l[k]? = some (g, cs)) (ho : o.op = .load t x) (hx : ρ x = PT g off) (ha : ∀ w, (isAgg t).run Tryd.prog w = .ok false w) (hc : cs[off]? = some v) :
    (execOp ρ o).run Tryd.prog w = .ok (.value v) w := by
  have c0 := h.cell (List.mem_of_getElem? hk) hc
  clear h hk hc
  simp only [execOp, ho, hx]
  go_simp
theorem ex_storeT {ρ : Operand → Value} {o : Oper} {x y : Operand} {g off : Nat} {t : TypeId} {cs vs : List Value} {w : World} {l : List (Nat × List Value)} (h : Mm w l) (q : Nat) (hk : l[q]? = some (g, cs)) (ho : o.op = .store t x y) (hx : ρ x = PT g off) (hy : ρ y = .agg vs.toArray) (hs : ∀ w, (sizeOf t).run Tryd.prog w = .ok vs.length w) (h1 : vs.all Value.oneCell' = true) (hb : off + vs.length ≤ cs.length) :
    (execOp ρ o).run Tryd.prog w = .ok .skip (w.setCells g off vs) := by
  have hm := List.mem_of_getElem? hk
  have hq : ∀ j, j < vs.length → ∃ u, cs[off + j]? = some u := fun j hj => ⟨_, List.getElem?_eq_getElem (by omega)⟩
  have hst := run_storeCells_cells (P := Tryd.prog) g off vs 0 w (fun j hj => by
    obtain ⟨u, hu⟩ := hq j hj
    rw [show off + 0 + j = off + j by omega, h.cell hm hu]; rfl) (fun j hj => by
    obtain ⟨u, hu⟩ := hq j hj
    rw [show off + 0 + j = off + j by omega]; exact h.free hm hu) (List.all_eq_true.1 h1)
  clear h hm hq hb hk
  simp only [execOp, ho, hx, hy]
  go_simp
theorem var_T {g n : Nat} {t : TypeId} {cs : List Value} {w : World} {l : List (Nat × List Value)} (h : Mm w l) (q : Nat) (hk : l[q]? = some (g, cs)) (ha : ∀ w, (isAgg t).run Tryd.prog w = .ok true w) (hs : ∀ w, (sizeOf t).run Tryd.prog w = .ok n w) (hn : cs.length = n) : (loadVar t ⟨g, 0, none⟩).run Tryd.prog w = .ok (.agg cs.toArray) w := by
  have hm := List.mem_of_getElem? hk
  have hcell := run_loadCells_list (P := Tryd.prog) (w := w) ⟨g, 0, none⟩ cs (fun j v hv => by
    have e2 := h.cell hm hv
    rw [show (⟨g, 0, none⟩ : Addr).add j = ⟨g, j, none⟩ from by unfold Addr.add; split <;> simp_all]
    exact e2)
  rw [hn] at hcell
  have hf : (loadCellsFrom ⟨g, 0, none⟩ 0 n #[]).run Tryd.prog w = .ok cs.toArray w := hcell
  clear hcell h hk hm
  simp only [loadVar]
  go_simp
theorem ex_laidT {ρ : Operand → Value} {o : Oper} {x y : Operand} {g : Nat} {t : TypeId} {zs cs : List Value} {w : World} (hb : Blk w g zs) (hl : zs.length = cs.length) (h1 : cs.all Value.oneCell' = true) (hs : ∀ w, (sizeOf t).run Tryd.prog w = .ok cs.length w) (ho : o.op = .store t x y) (hx : ρ x = .pointer (some ⟨g, 0, none⟩)) (hy : ρ y = .agg cs.toArray) :
    (execOp ρ o).run Tryd.prog w = .ok .skip (w.setCells g 0 cs) := by
  have hk : ∀ k, k < cs.length → ∃ u, zs[k]? = some u := fun k hk => ⟨_, List.getElem?_eq_getElem (by omega)⟩
  have hst := run_storeCells_cells (P := Tryd.prog) g 0 cs 0 w (fun k hkl => by
    obtain ⟨u, hu⟩ := hk k hkl
    rw [show 0 + 0 + k = k by omega, (hb k u hu).1]; rfl) (fun k hkl => by
    obtain ⟨u, hu⟩ := hk k hkl
    rw [show 0 + 0 + k = k by omega]; exact (hb k u hu).2) (List.all_eq_true.1 h1)
  clear hb hk h1 hl
  simp only [execOp, ho, hx, hy]
  go_simp
theorem ex_made72 {ρ : Operand → Value} {o : Oper} {w : World} (ho : o.op = .alloc 96) :
    (execOp ρ o).run Tryd.prog w = .ok (.value (.pointer (some ⟨w.heap.size, 0, none⟩))) (w.alloc (.cells (kd 0 0 0 0 0).toArray 96)) := by
  simp only [execOp, ho]
  go_simp
  rfl
theorem ex_build25_01 {ρ : Operand → Value} {o : Oper} {x0 x1 : Operand} {a0 : Nat} {a1 : Nat} {w : World} (ho : o.op = .build 94 #[(0, x0), (1, x1)]) (h0 : ρ x0 = U a0) (h1 : ρ x1 = U a1) : (execOp ρ o).run Tryd.prog w = .ok (.value (.agg (pt a0 a1 false).toArray)) w := by
  simp only [execOp, ho]
  go_simp
theorem ex_build72_0123 {ρ : Operand → Value} {o : Oper} {x0 x1 x2 x3 : Operand} {a0 : Nat} {a1 : Nat} {a2 : Nat} {gx gy : Nat} {w : World} (ho : o.op = .build 96 #[(0, x0), (1, x1), (2, x2), (3, x3)]) (h0 : ρ x0 = U a0) (h1 : ρ x1 = U a1) (h2 : ρ x2 = U a2) (h3 : ρ x3 = V (pt gx gy false)) : (execOp ρ o).run Tryd.prog w = .ok (.value (.agg (kd a0 a1 a2 gx gy).toArray)) w := by
  simp only [execOp, ho]
  go_simp
end Lt
end Rg
end Go.Proofs.YtkkloakcphigeaaDoor
end
section
namespace Go.Proofs.YtkkloakcphigeaaDoor
open Go.RowKit
namespace Rg
namespace Lt
/-- What is known of a prime here. -/
structure Pr (p : Nat) : Prop where
  lo : 8 < p
  hi : p < 1152921504606846976
def tm (p a b : Nat) : Nat := a * b % p
def pl (p a b : Nat) : Nat := (a + b) % p
def mi (p a b : Nat) : Nat := (a + p - b) % p
theorem tm_lt {p a b : Nat} (hp : Pr p) : tm p a b < p := Nat.mod_lt _ (by have := hp.lo; omega)
theorem mi_lt {p a b : Nat} (hp : Pr p) : mi p a b < p := Nat.mod_lt _ (by have := hp.lo; omega)
theorem zero_lt {p : Nat} (hp : Pr p) : 0 < p := by have := hp.lo; omega
theorem one_lt {p : Nat} (hp : Pr p) : 1 < p := by have := hp.lo; omega
section
variable {p r c gx gy : Nat}
/-- X X X + X -/
def cb (p x : Nat) : Nat := tm p x (pl p (tm p x x) 1)
end
end Lt
end Rg
end Go.Proofs.YtkkloakcphigeaaDoor
end
section
namespace Go.Proofs.YtkkloakcphigeaaDoor
open Go.RowKit
namespace Rg
namespace Lt
def slotfn (l : List Value) (d : Nat) : Value := l.getD d undef
/-- A number's power, by p. -/
def pw (p a n : Nat) : Nat := a ^ n % p
def rb (p a : Nat) : Nat := pw p a ((p + 1) / 4)
section
variable {p r c gx gy : Nat}
end
end Lt
end Rg
end Go.Proofs.YtkkloakcphigeaaDoor
end
section
namespace Go.Proofs.YtkkloakcphigeaaDoor
open Go.RowKit
namespace Rg
namespace Lt
/-- Three numbers: a point (x / z z, y / z z z), of z 0 the zero. -/
abbrev T3 : Type := Nat × Nat × Nat
structure Lt3 (p : Nat) (t : T3) : Prop where
  x : t.1 < p
  y : t.2.1 < p
  z : t.2.2 < p
/-- A triple's cells. -/
abbrev tc (t : T3) : List Value := tr t.1 t.2.1 t.2.2
/-- The slope of a point and itself. -/
def tR (p x z : Nat) : Nat := pl p (tm p 3 (tm p x x)) (tm p (tm p z z) (tm p z z))
def tM (p x y : Nat) : Nat := tm p 4 (tm p x (tm p y y))
def tX (p x y z : Nat) : Nat := mi p (tm p (tR p x z) (tR p x z)) (pl p (tM p x y) (tM p x y))
def tY (p x y z : Nat) : Nat := mi p (tm p (tR p x z) (mi p (tM p x y) (tX p x y z))) (tm p 8 (tm p (tm p y y) (tm p y y)))
def twT (p : Nat) (t : T3) : T3 := (tX p t.1 t.2.1 t.2.2, tY p t.1 t.2.1 t.2.2, tm p 2 (tm p t.2.1 t.2.2))
/-- A point and a triple. -/
def jU (p x z X : Nat) : Nat := mi p (tm p X (tm p z z)) x
def jS (p y z Y : Nat) : Nat := mi p (tm p Y (tm p z (tm p z z))) y
def jC (p u : Nat) : Nat := tm p (tm p u u) u
def jM (p x u : Nat) : Nat := tm p x (tm p u u)
def jX (p x u s : Nat) : Nat := mi p (mi p (tm p s s) (jC p u)) (pl p (jM p x u) (jM p x u))
def jY (p x y u s : Nat) : Nat := mi p (tm p s (mi p (jM p x u) (jX p x u s))) (tm p y (jC p u))
def jnT (p : Nat) (t : T3) (X Y : Nat) (Z : Bool) : T3 :=
  if Z = true then t else if t.2.2 = 0 then (X, Y, 1) else if jU p t.1 t.2.2 X = 0 ∧ jS p t.2.1 t.2.2 Y = 0 then twT p t
  else (jX p t.1 (jU p t.1 t.2.2 X) (jS p t.2.1 t.2.2 Y), jY p t.1 t.2.1 (jU p t.1 t.2.2 X) (jS p t.2.1 t.2.2 Y), tm p t.2.2 (jU p t.1 t.2.2 X))
section
variable {p : Nat} {t : T3} {X Y : Nat}
end
theorem tw_lt {p : Nat} (hp : Pr p) (t : T3) : Lt3 p (twT p t) := ⟨mi_lt hp, mi_lt hp, tm_lt hp⟩
theorem jn_lt {p : Nat} (hp : Pr p) {t : T3} (ht : Lt3 p t) {X Y : Nat} {Z : Bool} (hX : X < p) (hY : Y < p) : Lt3 p (jnT p t X Y Z) := by
  unfold jnT
  split
  · exact ht
  · split
    · exact ⟨hX, hY, one_lt hp⟩
    · split
      · exact tw_lt hp t
      · exact ⟨mi_lt hp, mi_lt hp, tm_lt hp⟩
/-- A point multiplied. -/
def mtf (p X Y : Nat) (Z : Bool) : Nat → Nat → T3
  | 0, _ => (0, 0, 0)
  | f + 1, n => if n = 0 then (0, 0, 0) else if n % 2 = 1 then jnT p (twT p (mtf p X Y Z f (n / 2))) X Y Z else twT p (mtf p X Y Z f (n / 2))
def mt (p X Y : Nat) (Z : Bool) (n : Nat) : T3 := mtf p X Y Z 64 n
theorem mtf_lt {p : Nat} (hp : Pr p) {X Y : Nat} {Z : Bool} (hX : X < p) (hY : Y < p) : ∀ (f n : Nat), Lt3 p (mtf p X Y Z f n)
  | 0, _ => ⟨zero_lt hp, zero_lt hp, zero_lt hp⟩
  | f + 1, n => by
    rw [mtf]
    split
    · exact ⟨zero_lt hp, zero_lt hp, zero_lt hp⟩
    · split
      · exact jn_lt hp (tw_lt hp _) hX hY
      · exact tw_lt hp _
theorem mt_lt {p : Nat} (hp : Pr p) {X Y : Nat} {Z : Bool} (hX : X < p) (hY : Y < p) (n : Nat) : Lt3 p (mt p X Y Z n) := mtf_lt hp hX hY 64 n
/-- Whether it is a point of the curve, of the group. -/
def oc (p X Y : Nat) (Z : Bool) : Bool := if Z = true then decide (X = 0) && decide (Y = 0) else decide (X < p) && (decide (Y < p) && decide (tm p Y Y = cb p X))
def ig (p r X Y : Nat) (Z : Bool) : Bool := oc p X Y Z && decide ((mt p X Y Z r).2.2 = 0)
section
variable {p r c gx gy : Nat}
set_option maxRecDepth 100000 in
theorem kindOf_1  (w : World) :
    Calls Tryd.prog 60 #[.int .i64 1] w fun e w' => e = .returned (.tuple #[V (kd 786251 65521 12 9723 164643), .int .i64 0]) ∧ Below w.heap.size w w' := by
  have H0 : Hid (_ ∧ _) := ⟨Mm.nil w, Below.refl w.heap.size w⟩
  go_enter Tryd.func60, Tryd.ntmps60
  refine wp_seq ?_
  refine walk_seqA 2 [.made (kd 0 0 0 0 0) 96, .quiet (.int .i64 0)] (sB H0) ?ho1 ?he1
  case ho1 => exact ak (fun γ => ⟨rfl, fun w' => ex_made72 rfl⟩) (ak (fun _ => ⟨rfl, fun _ _ => rfl⟩) trivial)
  intro γ w1 l hM hl
  have H1 : Hid (Mm w1 [(γ 0, kd 0 0 0 0 0)] ∧ _) := growB H0 hM (Nat.le_refl _) hl [0] rfl (by decide)
  have o1_0 := ownB H0 hM (Nat.le_refl _) hl (i := 0) rfl
  clear hM hl l
  generalize γ 0 = γ1_0 at H1 o1_0 ⊢
  clear γ
  refine rest0 rfl (then_normal (wp_seq (wp_seq ?_)))
  refine walk_seqB 1 [.quiet (.int .i64 1)] H1 ?ho2 ?he2
  case ho2 => exact ak (fun _ => ⟨rfl, fun _ _ => rfl⟩) trivial
  intro _ w2 H2
  clear H1
  refine rest0 rfl (then_normal (wp_block (wp_seq ?_)))
  refine walk_seqB 2 [.quiet (.bool true), .quiet (.bool true)] H2 ?ho3 ?he3
  case ho3 => exact ak (by refine fun γ => ⟨rfl, fun w' h => ?_⟩; clear h; go_simp) (ak (fun _ => ⟨rfl, fun _ _ => rfl⟩) trivial)
  intro _ w3 H3
  clear H2
  refine rest0 rfl (then_normal (wp_cond_true rfl (wp_seq ?_)))
  refine walk_seqB 2 [.quiet (.agg (pt 9723 164643 false).toArray), .quiet (.agg (kd 786251 65521 12 9723 164643).toArray)] H3 ?ho4 ?he4
  case ho4 => exact ak (fun γ => ⟨rfl, fun w' _ => ex_build25_01 rfl rfl rfl⟩) (ak (fun γ => ⟨rfl, fun w' _ => ex_build72_0123 rfl rfl rfl rfl rfl⟩) trivial)
  intro _ w4 H4
  clear H3
  refine rest_at (l := [2, 3]) rfl ?_
  refine rest_store rfl rfl rfl (ex_storeT (vs := kd 786251 65521 12 9723 164643) H4.out.1 0 rfl rfl rfl rfl Tryd.sizeOf96 rfl (Nat.le_of_ble_eq_true rfl)) ?_
  have H5 : Hid (Mm (w4.setCells γ1_0 0 (kd 786251 65521 12 9723 164643)) [(γ1_0, kd 786251 65521 12 9723 164643)] ∧ Below w.heap.size w (w4.setCells γ1_0 0 (kd 786251 65521 12 9723 164643))) := ⟨H4.out.1.put 0 (off := 0) (vs := kd 786251 65521 12 9723 164643) rfl (Nat.le_of_ble_eq_true rfl), below_setCells _ o1_0.out _ _ _ H4.out.2⟩
  clear H4
  generalize hgw : World.setCells _ _ _ _ = w5 at H5 ⊢
  clear hgw
  refine rest_set (d := 3) rfl rfl rfl rfl ?_
  simp only [Act.put, sa, sz, ss]
  refine rest_nil (then_normal (wp_ret ?_))
  repeat (first | refine then_ret ?_ | refine block_ret ?_)
  have hf0 := var_T H5.out.1 0 rfl Tryd.isAgg96 Tryd.sizeOf96 rfl
  refine bodyPost_ret (v := .tuple #[.agg (kd 786251 65521 12 9723 164643).toArray, .int .i64 0]) (by simp [results, Tryd.results60, asAddr, Act.eval, hf0]) rfl ?_
  exact ⟨rfl, H5.out.2⟩
set_option maxRecDepth 100000 in
theorem kindOf_2  (w : World) :
    Calls Tryd.prog 60 #[.int .i64 2] w fun e w' => e = .returned (.tuple #[V (kd 1152921504606846223 72057594037927889 16 613740293506734924 666621259561003659), .int .i64 0]) ∧ Below w.heap.size w w' := by
  have H0 : Hid (_ ∧ _) := ⟨Mm.nil w, Below.refl w.heap.size w⟩
  go_enter Tryd.func60, Tryd.ntmps60
  refine wp_seq ?_
  refine walk_seqA 2 [.made (kd 0 0 0 0 0) 96, .quiet (.int .i64 0)] (sB H0) ?ho1 ?he1
  case ho1 => exact ak (fun γ => ⟨rfl, fun w' => ex_made72 rfl⟩) (ak (fun _ => ⟨rfl, fun _ _ => rfl⟩) trivial)
  intro γ w1 l hM hl
  have H1 : Hid (Mm w1 [(γ 0, kd 0 0 0 0 0)] ∧ _) := growB H0 hM (Nat.le_refl _) hl [0] rfl (by decide)
  have o1_0 := ownB H0 hM (Nat.le_refl _) hl (i := 0) rfl
  clear hM hl l
  generalize γ 0 = γ1_0 at H1 o1_0 ⊢
  clear γ
  refine rest0 rfl (then_normal (wp_seq (wp_seq ?_)))
  refine walk_seqB 1 [.quiet (.int .i64 2)] H1 ?ho2 ?he2
  case ho2 => exact ak (fun _ => ⟨rfl, fun _ _ => rfl⟩) trivial
  intro _ w2 H2
  clear H1
  refine rest0 rfl (then_normal (wp_block (wp_seq ?_)))
  refine walk_seqB 2 [.quiet (.bool false), .quiet (.bool false)] H2 ?ho3 ?he3
  case ho3 => exact ak (by refine fun γ => ⟨rfl, fun w' h => ?_⟩; clear h; go_simp) (ak (fun _ => ⟨rfl, fun _ _ => rfl⟩) trivial)
  intro _ w3 H3
  clear H2
  refine rest0 rfl (then_normal (wp_cond_false rfl (wp_seq ?_)))
  refine walk_seqB 2 [.quiet (.bool true), .quiet (.bool true)] H3 ?ho4 ?he4
  case ho4 => exact ak (by refine fun γ => ⟨rfl, fun w' h => ?_⟩; clear h; go_simp) (ak (fun _ => ⟨rfl, fun _ _ => rfl⟩) trivial)
  intro _ w4 H4
  clear H3
  refine rest0 rfl (then_normal (wp_cond_true rfl (wp_seq ?_)))
  refine walk_seqB 2 [.quiet (.agg (pt 613740293506734924 666621259561003659 false).toArray), .quiet (.agg (kd 1152921504606846223 72057594037927889 16 613740293506734924 666621259561003659).toArray)] H4 ?ho5 ?he5
  case ho5 => exact ak (fun γ => ⟨rfl, fun w' _ => ex_build25_01 rfl rfl rfl⟩) (ak (fun γ => ⟨rfl, fun w' _ => ex_build72_0123 rfl rfl rfl rfl rfl⟩) trivial)
  intro _ w5 H5
  clear H4
  refine rest_at (l := [2, 3]) rfl ?_
  refine rest_store rfl rfl rfl (ex_storeT (vs := kd 1152921504606846223 72057594037927889 16 613740293506734924 666621259561003659) H5.out.1 0 rfl rfl rfl rfl Tryd.sizeOf96 rfl (Nat.le_of_ble_eq_true rfl)) ?_
  have H6 : Hid (Mm (w5.setCells γ1_0 0 (kd 1152921504606846223 72057594037927889 16 613740293506734924 666621259561003659)) [(γ1_0, kd 1152921504606846223 72057594037927889 16 613740293506734924 666621259561003659)] ∧ Below w.heap.size w (w5.setCells γ1_0 0 (kd 1152921504606846223 72057594037927889 16 613740293506734924 666621259561003659))) := ⟨H5.out.1.put 0 (off := 0) (vs := kd 1152921504606846223 72057594037927889 16 613740293506734924 666621259561003659) rfl (Nat.le_of_ble_eq_true rfl), below_setCells _ o1_0.out _ _ _ H5.out.2⟩
  clear H5
  generalize hgw : World.setCells _ _ _ _ = w6 at H6 ⊢
  clear hgw
  refine rest_set (d := 3) rfl rfl rfl rfl ?_
  simp only [Act.put, sa, sz, ss]
  refine rest_nil (then_normal (wp_ret ?_))
  repeat (first | refine then_ret ?_ | refine block_ret ?_)
  have hf0 := var_T H6.out.1 0 rfl Tryd.isAgg96 Tryd.sizeOf96 rfl
  refine bodyPost_ret (v := .tuple #[.agg (kd 1152921504606846223 72057594037927889 16 613740293506734924 666621259561003659).toArray, .int .i64 0]) (by simp [results, Tryd.results60, asAddr, Act.eval, hf0]) rfl ?_
  exact ⟨rfl, H6.out.2⟩
end
end Lt
end Rg
end Go.Proofs.YtkkloakcphigeaaDoor
end
section
namespace Go.Proofs.YtkkloakcphigeaaDoor
open Go.RowKit
namespace Rg
namespace Lt
section
variable {p r c gx gy : Nat}
end
end Lt
end Rg
end Go.Proofs.YtkkloakcphigeaaDoor
end
section
namespace Go.Proofs.YtkkloakcphigeaaDoor
open Go.RowKit
namespace Rg
namespace Lt
/-- Two points' cells. -/
abbrev p2 (a b : Nat) (z : Bool) (a' b' : Nat) (z' : Bool) : List Value := [U a, U b, .bool z, U a', U b', .bool z']
/-- What a suite is. -/
structure Kd (s : Int) (p r c gx gy : Nat) : Prop where
  pr : Pr p
  rb : r < 18446744073709551616
  cb : c < 18446744073709551616
  kind : ∀ w, Calls Tryd.prog 60 #[.int .i64 s] w fun e w' => e = .returned (.tuple #[V (kd p r c gx gy), .int .i64 0]) ∧ Below w.heap.size w w'
theorem kd_1 : Kd 1 786251 65521 12 9723 164643 := ⟨⟨by decide, by decide⟩, by decide, by decide, kindOf_1⟩
theorem kd_2 : Kd 2 1152921504606846223 72057594037927889 16 613740293506734924 666621259561003659 := ⟨⟨by decide, by decide⟩, by decide, by decide, kindOf_2⟩
theorem call60 : ∀ args w, (callFunc 60 args).run Tryd.prog w = .ok (.enter 60 args) w := by intro args w; go_simp
section
variable {s : Int} {p r c gx gy : Nat}
set_option maxRecDepth 100000 in
theorem Order_ok (k : Kd s p r c gx gy) (w : World) :
    Calls Tryd.prog 34 #[.int .i64 s] w fun e w' => e = .returned (.tuple #[U r, .int .i64 0]) ∧ Below w.heap.size w w' := by
  have H0 : Hid (_ ∧ _) := ⟨Mm.nil w, Below.refl w.heap.size w⟩
  go_enter Tryd.func34, Tryd.ntmps34
  refine wp_seq ?_
  refine walk_seqB 2 [.quiet (U 0), .quiet (.int .i64 0)] H0 ?ho1 ?he1
  case ho1 => exact ak (fun _ => ⟨rfl, fun _ _ => rfl⟩) (ak (fun _ => ⟨rfl, fun _ _ => rfl⟩) trivial)
  intro _ w1 H1
  refine rest0 rfl (then_normal (wp_seq ?_))
  refine walk_seqA 8 [.quiet (.int .i64 s), .call (.tuple #[.agg (kd p r c gx gy).toArray, .int .i64 0]), .quiet (.tuple #[.agg (kd p r c gx gy).toArray, .int .i64 0]), .quiet (.agg (kd p r c gx gy).toArray), .quiet (.int .i64 0), .made (kd 0 0 0 0 0) 96, .laid 5 (kd 0 0 0 0 0) (kd p r c gx gy), .quiet (.int .i64 0)] (sB H1) ?ho2 ?he2 (hL := ?hL2)
  case hL2 => exact ⟨⟨_, rfl⟩, trivial⟩
  case ho2 => exact ak (fun _ => ⟨rfl, fun _ _ => rfl⟩) (ak (fun γ => ⟨rfl, fun w' h => ⟨60, #[.int .i64 s], exec_call rfl call60 rfl (mpn rfl), k.kind w'⟩⟩) (ak (fun _ => ⟨rfl, fun _ _ => rfl⟩) (ak (by refine fun γ => ⟨rfl, fun w' h => ?_⟩; clear h; go_simp) (ak (by refine fun γ => ⟨rfl, fun w' h => ?_⟩; clear h; go_simp) (ak (fun γ => ⟨rfl, fun w' => ex_made72 rfl⟩) (ak (fun γ => ⟨rfl, rfl, rfl, fun w' h => ex_laidT h rfl rfl Tryd.sizeOf96 rfl rfl rfl⟩) (ak (fun _ => ⟨rfl, fun _ _ => rfl⟩) trivial)))))))
  intro γ w2 l hM hl
  have H2 : Hid (Mm w2 [(γ 5, kd p r c gx gy)] ∧ _) := growB H1 hM (Nat.le_refl _) hl [5] rfl (by decide)
  have o2_5 := ownB H1 hM (Nat.le_refl _) hl (i := 5) rfl
  clear hM hl l H1
  generalize γ 5 = γ2_5 at H2 o2_5 ⊢
  clear γ
  refine rest0 rfl (then_normal (wp_seq ?_))
  refine walk_seqB 5 [.quiet (PT γ2_5 1), .quiet (U r), .quiet (.int .i64 0), .quiet (U r), .quiet (.int .i64 0)] H2 ?ho3 ?he3
  case ho3 => exact ak (by refine fun γ => ⟨rfl, fun w' h => ?_⟩; clear h; go_simp) (ak (fun γ => ⟨rfl, fun w' h => ex_loadC h 0 rfl rfl rfl Tryd.isAgg31 rfl⟩) (ak (fun _ => ⟨rfl, fun _ _ => rfl⟩) (ak (fun _ => ⟨rfl, fun _ _ => rfl⟩) (ak (fun _ => ⟨rfl, fun _ _ => rfl⟩) trivial))))
  intro _ w3 H3
  clear H2
  refine rest0 rfl (then_normal (wp_ret ?_))
  repeat (first | refine then_ret ?_ | refine block_ret ?_)
  refine bodyPost_ret (v := .tuple #[U r, .int .i64 0]) (by simp [results, Tryd.results34, go_sem, *]) rfl ?_
  exact ⟨rfl, H3.out.2⟩
end
end Lt
end Rg
end Go.Proofs.YtkkloakcphigeaaDoor
end
section
namespace Go.Proofs.YtkkloakcphigeaaDoor
open Go.RowKit
namespace NT
theorem prm_65521 : Prm 65521 := prm_trial 65521 256 (by decide) (by decide) (by decide +kernel)
theorem prm_2192917 : Prm 2192917 := prm_trial 2192917 1481 (by decide) (by decide) (by decide +kernel)
theorem prm_6868571 : Prm 6868571 := prm_trial 6868571 2621 (by decide) (by decide) (by decide +kernel)
theorem fac_72057594037927889 : ∀ d, Prm d → d ∣ 72057594037927889 → 15062206111607 ∣ d - 1 := by
  intro d hd hdN
  refine pockp (N := 72057594037927889) (M := 72057594037927888) (F := 15062206111607) (a := 2) [2192917, 6868571] (by decide) (by decide +kernel) hd hdN (by decide +kernel) ?_ ?_
  · intro t h
    have e : 15062206111607 = (2192917 * 6868571) := by decide
    rw [e]
    exact Nat.Coprime.mul_left ((h 2192917 (by decide))) ((h 6868571 (by decide)))
  · intro q hq
    simp only [List.mem_cons, List.not_mem_nil, or_false] at hq
    rcases hq with rfl | rfl
    · exact ⟨prm_2192917, by decide +kernel, by decide +kernel⟩
    · exact ⟨prm_6868571, by decide +kernel, by decide +kernel⟩
theorem prm_72057594037927889 : Prm 72057594037927889 := prm_of (by decide) (by decide) fac_72057594037927889
end NT
end Go.Proofs.YtkkloakcphigeaaDoor
end
section
namespace Go.Proofs.YtkkloakcphigeaaDoor
open Go.RowKit
namespace Rg
set_option maxRecDepth 100000
open NT in
theorem prm_cop {r a : Nat} (hp : Prm r) (ha : a < r) (h0 : a ≠ 0) : Nat.gcd r a = 1 := hp.cop (fun d => absurd (Nat.le_of_dvd (by omega) d) (by omega))
theorem eq_refl24 {v : Nat} (h : v < big) (w : World) : (Op.equalIn 10000 33 (N v) (N v)).run Tryd.prog w = .ok true w := by
  rw [run_eqN v v h h, decide_eq_true rfl]
theorem su_great : Su 0 rB := ⟨fun w => order_great rB base_rB w, rB_ok⟩
theorem su_little : Su 1 65521 := ⟨fun w => order_little 1 0 65521 65521 (by decide) (Lt.Order_ok Lt.kd_1) (fun w => of_any 65521 (by decide) w) w, ⟨by decide, by decide, small_big (4 * 65521) (by decide)⟩⟩
theorem su_middle : Su 2 72057594037927889 := ⟨fun w => order_little 2 0 72057594037927889 72057594037927889 (by decide) (Lt.Order_ok Lt.kd_2) (fun w => of_any 72057594037927889 (by decide) w) w, ⟨by decide, by decide, small_big (4 * 72057594037927889) (by decide)⟩⟩
end Rg
end Go.Proofs.YtkkloakcphigeaaDoor
end
section
namespace Go.Proofs.YtkkloakcphigeaaDoor
open Go.RowKit
namespace Rg
namespace Sh
set_option maxRecDepth 100000
theorem neq_same {ρ : Operand → Value} {o : Oper} {i j : Tmp} {v : Nat} {w : World} (hv : v < big) (ho : o.op = .binOp .neq 33 (.tmp i) (.tmp j) 33) (hx : ρ (.tmp i) = N v) (hy : ρ (.tmp j) = N v) : (execOp ρ o).run Tryd.prog w = .ok (.value (.bool false)) w :=
  exec_neq6 (t := true) (fun w => eq_refl24 hv w) ho hx hy
theorem reduce_same {g r a : Nat} (ok : Ok r) (ha : a < big) (hr : a < r) (w : World) (hm : Mm w [(g, modc r)]) : Calls Tryd.prog 54 #[PT g 0, N a] w fun e w' => e = .returned (N a) ∧ Below w.heap.size w w' := by
  have h := reduce_any (g := g) ok ha w hm
  rwa [Nat.mod_eq_of_lt hr] at h
set_option maxHeartbeats 4000000 in
/-- All are scalars. -/
theorem has_ok {g r : Nat} (ok : Ok r) {p : Option Addr} {m c sg so : Nat} {cs : Nat → Nat} (hml : m ≤ 9223372036854775807) (hr : ∀ i, i < m → cs i < r) (w : World) (hm : Mm w [(g, modc r)]) (hcs : Ns w p m sg so cs) :
    Calls Tryd.prog 42 #[.agg #[PT g 0], .slice p m c] w fun e w' => e = .returned (.bool true) ∧ Below w.heap.size w w' := by
  have HCS : Hid _ := hcs
  clear hcs
  have hM0 : Mm w [(g, modc r)] := hm
  have hB0 : Below w.heap.size w w := Below.refl _ _
  obtain ⟨w1, e1⟩ : ∃ w1, (w.alloc (.cells #[PT g 0] 53)) = w1 := ⟨_, rfl⟩
  have hM1 : Mm w1 [(w.heap.size, [PT g 0]), (g, modc r)] := mm_new hM0 [PT g 0] 53 e1 rfl
  have hB1 : Below w.heap.size w w1 := bl_new hB0 hB0.size e1
  have HM : Hid (Mm w1 [(w.heap.size, [PT g 0]), (g, modc r)]) := hM1
  have HB : Hid (Below w.heap.size w w1) := hB1
  clear hM0 hB0 hM1 hB1 hm
  go_enter Tryd.func42, Tryd.ntmps42
  go_wp2
  go_loopw [9] (fun v wr => ∃ i : Nat, i ≤ m ∧ v = .int .i64 (i : Int) ∧ Hid (Mm wr [(w.heap.size, [PT g 0]), (g, modc r)] ∧ Below w.heap.size w wr))
    (fun v _ => m - (RowKit.intOf v).toNat)
  case atStart => exact ⟨0, Nat.zero_le _, rfl, HM.out, HB.out⟩
  case round =>
    obtain ⟨i, hi, rfl, hC⟩ := hrel
    obtain ⟨W, rfl⟩ : ∃ W, W = wr := ⟨wr, rfl⟩
    have HMR : Hid (Mm W [(w.heap.size, [PT g 0]), (g, modc r)]) := hC.out.1
    have HBR : Hid (Below w.heap.size w W) := hC.out.2
    clear hC
    by_cases hlt : i < m
    · obtain ⟨rfl, hsg⟩ := HCS.out.p (by omega)
      have hcb := HCS.out.b i hlt
      have hcr := hr i hlt
      have HCC : Hid (∀ u, Below W.heap.size W u → ∀ j, j < 6 → u.cell? ⟨sg, so + i * 6 + j, none⟩ = some (.int .u64 (wd (cs i) j))) := fun u hu j hj => ((HBR.out.trans (hu.mono HBR.out.size)).cell (p := ⟨sg, so + i * 6 + j, none⟩) hsg).trans (HCS.out.c i hlt j hj)
      obtain ⟨a, ha⟩ : ∃ a, cs i = a := ⟨_, rfl⟩
      rw [ha] at HCC hcb hcr
      have d0 : W.cell? ⟨sg, so + i * 6, none⟩ = _ := HCC.out W (Below.refl _ _) 0 (by decide)
      have d1 : W.cell? ⟨sg, so + i * 6 + 1, none⟩ = _ := HCC.out W (Below.refl _ _) 1 (by decide)
      have d2 : W.cell? ⟨sg, so + i * 6 + 2, none⟩ = _ := HCC.out W (Below.refl _ _) 2 (by decide)
      have d3 : W.cell? ⟨sg, so + i * 6 + 3, none⟩ = _ := HCC.out W (Below.refl _ _) 3 (by decide)
      have d4 : W.cell? ⟨sg, so + i * 6 + 4, none⟩ = _ := HCC.out W (Below.refl _ _) 4 (by decide)
      have d5 : W.cell? ⟨sg, so + i * 6 + 5, none⟩ = _ := HCC.out W (Below.refl _ _) 5 (by decide)
      obtain ⟨V, eV⟩ : ∃ V, (W.alloc (.cells #[.int .u64 (wd a 0), .int .u64 (wd a 1), .int .u64 (wd a 2), .int .u64 (wd a 3), .int .u64 (wd a 4), .int .u64 (wd a 5)] 33)) = V := ⟨_, rfl⟩
      have HMV : Hid _ := mm_new HMR.out [.int .u64 (wd a 0), .int .u64 (wd a 1), .int .u64 (wd a 2), .int .u64 (wd a 3), .int .u64 (wd a 4), .int .u64 (wd a 5)] 33 eV rfl
      have HBV : Hid _ := bl_new HBR.out HBR.out.size eV
      clear HCC ha
      go_wp2
      refine walk_det (by kernel_rfl) 6 [PT w.heap.size 0, PT g 0, N a, N a, N a, .bool false] [none, none, none, some 0, none, none] [3]
        (fun _ u => Below V.heap.size V u) ?prez ?Fz ?hprez ?hFz (by kernel_rfl) ?hWz (bdr V) ?hopz ?hez
      case hprez => simp only [tk, tz]; rfl
      case hFz => simp only [List.map_cons, List.map_nil, fill, Kind.val, Act.put, sa, sz, ss]; rfl
      case hWz => kernel_rfl
      case hopz =>
        refine ⟨fun c _ u hu => ?_, fun c _ u hu => ?_, fun c _ u hu => ?_, fun u hu => .inr ⟨54, #[PT g 0, N a], exec_call rfl (fun _ _ => rfl) rfl (by simp only [List.map_toArray, List.map_cons, List.map_nil]; rfl), ?_⟩, fun c _ u hu => ?_, fun c _ u hu => ?_, trivial⟩
        · clear hu; go_simp
        · have c1_0 := (HMV.out.below hu).get 1 rfl 0 rfl; clear hu; go_simp
        · have c0_0 := (HMV.out.below hu).get 0 rfl 0 rfl; have c0_1 := (HMV.out.below hu).get 0 rfl 1 rfl; have c0_2 := (HMV.out.below hu).get 0 rfl 2 rfl; have c0_3 := (HMV.out.below hu).get 0 rfl 3 rfl; have c0_4 := (HMV.out.below hu).get 0 rfl 4 rfl; have c0_5 := (HMV.out.below hu).get 0 rfl 5 rfl; clear hu; go_simp
        · exact Calls.mono (reduce_same ok hcb hcr u (HMV.out.below hu).tail.tail) fun e u2 ⟨he, h2⟩ => ⟨he, hu.trans (h2.mono hu.size)⟩
        · have c0_0 := (HMV.out.below hu).get 0 rfl 0 rfl; have c0_1 := (HMV.out.below hu).get 0 rfl 1 rfl; have c0_2 := (HMV.out.below hu).get 0 rfl 2 rfl; have c0_3 := (HMV.out.below hu).get 0 rfl 3 rfl; have c0_4 := (HMV.out.below hu).get 0 rfl 4 rfl; have c0_5 := (HMV.out.below hu).get 0 rfl 5 rfl; clear hu; go_simp
        · exact neq_same hcb rfl rfl rfl
      intro u hu
      have HU : Hid _ := (HMV.out.below hu).tail
      have HBU : Hid (Below w.heap.size w u) := HBV.out.trans (hu.mono HBV.out.size)
      clear hu
      refine rest_nil ?_
      go_wp2
      go_roundw
      case rel => exact ⟨i + 1, by omega, by simp, HU.out, HBU.out⟩
      case measure => simp [RowKit.intOf]; omega
    · obtain rfl : i = m := by omega
      go_wp2
      go_ret
      exact ⟨rfl, HBR.out⟩
end Sh
end Rg
end Go.Proofs.YtkkloakcphigeaaDoor
end
section
namespace Go.Proofs.YtkkloakcphigeaaDoor
open Go.RowKit
namespace Rg
namespace Sh
set_option maxRecDepth 100000
set_option maxHeartbeats 4000000 in
/-- The field of a suite, of ids and scalars that may be. -/
theorem field_ok {s : Int} {r : Nat} (hS : Su s r) {pi : Option Addr} {k ci : Nat} {p : Option Addr} {m c sg so : Nat} {cs : Nat → Nat} (hk : k ≤ 64) (hml : m ≤ 64) (hr : ∀ i, i < m → cs i < r) (w : World) (hcs : Ns w p m sg so cs) :
    Calls Tryd.prog 22 #[.int .i64 s, .slice pi k ci, .slice p m c] w fun e w' => ∃ g, e = .returned (.tuple #[.agg #[PT g 0], .int .i64 0]) ∧ Below w.heap.size w w' ∧ w.heap.size ≤ g ∧ Mm w' [(g, modc r)] := by
  have HCS : Hid _ := hcs
  have HSU : Hid _ := hS
  clear hcs
  obtain ⟨w1, e1⟩ : ∃ w1, (w.alloc (.cells #[.pointer none] 53)) = w1 := ⟨_, rfl⟩
  have HM1 : Hid _ := mm_new (Mm.nil w) [.pointer none] 53 e1 rfl
  have HB1 : Hid _ := bl_new (Below.refl w.heap.size w) (Nat.le_refl _) e1
  go_enter Tryd.func22, Tryd.ntmps22
  go_wp2_with (first
    | (go_at_call 20
       refine Calls.mono (HSU.out.ord w1) ?_
       rintro e w2 ⟨rfl, h2⟩
       obtain ⟨w3, e3⟩ : ∃ w3, (w2.alloc (.cells #[.int .u64 (wd r 0), .int .u64 (wd r 1), .int .u64 (wd r 2), .int .u64 (wd r 3), .int .u64 (wd r 4), .int .u64 (wd r 5)] 33)) = w3 := ⟨_, rfl⟩
       have HM3 : Hid _ := mm_new (HM1.out.below h2) [.int .u64 (wd r 0), .int .u64 (wd r 1), .int .u64 (wd r 2), .int .u64 (wd r 3), .int .u64 (wd r 4), .int .u64 (wd r 5)] 33 e3 rfl
       have HB3 : Hid _ := bl_new (HB1.out.trans (h2.mono HB1.out.size)) (Nat.le_trans HB1.out.size h2.size) e3
       clear h2)
    | (go_at_call 40
       refine Calls.mono (toomany_ok k hk w3) ?_
       rintro e w4 ⟨rfl, h4⟩
       have H4 : Hid _ := h4
       clear h4)
    | (go_at_call 40
       refine Calls.mono (toomany_ok m hml w4) ?_
       rintro e w5 ⟨rfl, h5⟩
       have HM5 : Hid _ := (HM3.out.below H4.out).below h5
       have HB5 : Hid _ := (HB3.out.trans (H4.out.mono HB3.out.size)).trans (h5.mono (Nat.le_trans HB3.out.size H4.out.size))
       clear h5
       have c0_0 := HM5.out.get 0 rfl 0 rfl
       have c0_1 := HM5.out.get 0 rfl 1 rfl
       have c0_2 := HM5.out.get 0 rfl 2 rfl
       have c0_3 := HM5.out.get 0 rfl 3 rfl
       have c0_4 := HM5.out.get 0 rfl 4 rfl
       have c0_5 := HM5.out.get 0 rfl 5 rfl)
    | (go_at_call 41
       refine Calls.mono (new_ok HSU.out.ok w5) ?_
       rintro e w6 ⟨h6, g, rfl, g1, g2, g3⟩
       obtain ⟨w7, e7⟩ : ∃ w7, (w6.alloc (.cells #[PT g 0] 53)) = w7 := ⟨_, rfl⟩
       have hm6 : Mm w6 ((g, modc r) :: _) := (HM5.out.below h6).cons g3 g2 fun q hq => by have := (HM5.out.blk q hq).1; omega
       have HM7 : Hid _ := mm_new hm6 [PT g 0] 53 e7 rfl
       have HB7 : Hid _ := bl_new (HB5.out.trans (h6.mono HB5.out.size)) (Nat.le_trans HB5.out.size h6.size) e7
       have HG : Hid _ := Nat.le_trans HB5.out.size g1
       clear h6 hm6 g1 g2 g3
       have q0 := HM7.out.get 0 rfl 0 rfl)
    | (go_at_call 42
       refine Calls.mono (has_ok HSU.out.ok (by omega) hr w7 (HM7.out.tail.sub (by simp)) (HCS.out.below HB7.out)) ?_
       rintro e w8 ⟨rfl, h8⟩
       have HM8 : Hid _ := HM7.out.below h8
       have HB8 : Hid _ := HB7.out.trans (h8.mono HB7.out.size)
       clear h8
       have q1 := HM8.out.get 0 rfl 0 rfl
       have q2 := HM8.out.get 3 rfl 0 rfl
       have q3 := HM8.out.free (g := w.heap.size) (cs := [.pointer none]) (by simp) (k := 0) rfl)
    | fail)
  change bodyPost _ _ _ _ _ (World.setCells w8 w.heap.size 0 [PT g 0])
  have HE : Hid _ := HM8.out.put 3 (off := 0) (vs := [PT g 0]) rfl (Nat.le_of_ble_eq_true rfl)
  have HBE : Hid (Below w.heap.size w (World.setCells w8 w.heap.size 0 [PT g 0])) := bl_put HB8.out (Nat.le_refl _)
  generalize hgw : World.setCells _ _ _ _ = wz at HE HBE ⊢
  clear hgw
  have c0 := HE.out.get 3 rfl 0 rfl
  refine bodyPost_ret (v := .tuple #[.agg #[PT g 0], .int .i64 0]) (by simp [results, Tryd.results22, go_sem, *]) rfl ⟨g, rfl, HBE.out, HG.out, HE.out.tail.sub (by simp)⟩
end Sh
end Rg
end Go.Proofs.YtkkloakcphigeaaDoor
end
section
namespace Go.Proofs.YtkkloakcphigeaaDoor
open Go.RowKit
namespace Rg
namespace Sh
set_option maxRecDepth 100000
theorem info_num : ∃ i, Tryd.prog.info? 33 = some i ∧ i.zero = some (.agg #[.int .u64 0, .int .u64 0, .int .u64 0, .int .u64 0, .int .u64 0, .int .u64 0]) ∧ i.size = 6 ∧ i.bytes = 48 := by
  have h : (Tryd.prog.info? 33).map (fun i => (i.zero, i.size, i.bytes)) = some (some (.agg #[.int .u64 0, .int .u64 0, .int .u64 0, .int .u64 0, .int .u64 0, .int .u64 0]), 6, 48) := by kernel_rfl
  cases hi : Tryd.prog.info? 33 with
  | none => rw [hi] at h; simp at h
  | some i =>
    rw [hi] at h
    simp at h
    exact ⟨i, rfl, h.1, h.2.1, h.2.2⟩
theorem made_nums (n : Nat) : madeCells #[Value.int .u64 0, .int .u64 0, .int .u64 0, .int .u64 0, .int .u64 0, .int .u64 0] (n * 6) = (cel (List.replicate n 0)).toArray := by
  apply Array.ext'
  rw [cel_zero, Nat.mul_comm 6 n]
  apply List.ext_getElem?
  intro j
  unfold madeCells
  simp only [List.getElem?_replicate, Array.toList_map, List.getElem?_map, Array.toList_range]
  by_cases h : j < n * 6
  · rw [List.getElem?_range h, if_pos h]
    have hm : j % 6 < 6 := Nat.mod_lt _ (by decide)
    have h6 : j % 6 = 0 ∨ j % 6 = 1 ∨ j % 6 = 2 ∨ j % 6 = 3 ∨ j % 6 = 4 ∨ j % 6 = 5 := by omega
    simp only [Option.map_some]
    show some ((#[Value.int .u64 0, .int .u64 0, .int .u64 0, .int .u64 0, .int .u64 0, .int .u64 0] : Array Value)[j % 6]!) = _
    rcases h6 with e | e | e | e | e | e <;> rw [e] <;> rfl
  · rw [if_neg h, List.getElem?_eq_none (by rw [List.length_range]; omega)]
    rfl
theorem make_nums (n : Nat) (hn : n ≤ 1000) (w : World) : (Instr.makeSlice 23 (.int .i64 (n : Int)) (.int .i64 (n : Int))).run Tryd.prog w = .ok (.slice (some ⟨w.heap.size, 0, none⟩) n n) (w.alloc (.cells (cel (List.replicate n 0)).toArray 33)) := by
  obtain ⟨i0, hi, hz0, hz1, hz2⟩ := info_num
  have h := run_make (P := Tryd.prog) w 23 33 i0 _ Tryd.underlying23 hi hz0 .i64 .i64 (n : Int) (n : Int) (by omega) (by omega) (by rw [hz2]; omega) (by omega)
  rw [hz1, Int.toNat_natCast] at h
  rw [← made_nums]
  exact h
/-- A row of n numbers, of which the first i are written. -/
def Lz (F : Nat → Nat) (n i : Nat) : List Nat := (List.range n).map fun j => if j < i then F j else 0
theorem Lz_len (F : Nat → Nat) (n i : Nat) : (Lz F n i).length = n := by simp [Lz]
theorem Lz_zero (F : Nat → Nat) (n : Nat) : Lz F n 0 = List.replicate n 0 := by
  apply List.ext_getElem?
  intro j
  unfold Lz
  rw [List.getElem?_map, List.getElem?_replicate]
  by_cases h : j < n
  · rw [List.getElem?_range h, if_pos h]; simp
  · rw [List.getElem?_eq_none (by rw [List.length_range]; omega), if_neg h]; rfl
theorem Lz_get {F : Nat → Nat} {n i j : Nat} (h : j < n) : (Lz F n i)[j]? = some (if j < i then F j else 0) := by
  unfold Lz
  rw [List.getElem?_map, List.getElem?_range h]
  rfl
theorem Lz_set {F : Nat → Nat} {n i : Nat} (h : i < n) : (Lz F n i).set i (F i) = Lz F n (i + 1) := by
  apply List.ext_getElem?
  intro j
  by_cases hj : j < n
  · rw [Lz_get hj]
    by_cases e : j = i
    · subst e
      rw [List.getElem?_set_self (by rw [Lz_len]; exact hj), if_pos (Nat.lt_succ_self _)]
    · rw [List.getElem?_set_ne (fun x => e x.symm), Lz_get hj]
      by_cases c : j < i
      · rw [if_pos c, if_pos (by omega)]
      · rw [if_neg c, if_neg (by omega)]
  · rw [List.getElem?_eq_none (by rw [List.length_set, Lz_len]; omega), List.getElem?_eq_none (by rw [Lz_len]; omega)]
theorem cel_set {ns : List Nat} {i v : Nat} (hi : i < ns.length) : patch (cel ns) (i * 6) (cells6 v) = cel (ns.set i v) := by
  rw [Nat.mul_comm, show cells6 v = cel [v] from rfl, cel_patch]
  congr 1
  rw [List.set_eq_take_append_cons_drop, if_pos hi]
  simp
theorem mm_row {W : World} {L : List (Nat × List Value)} {g : Nat} {ns : List Nat} (h : Mm W L) (k : Nat) (hk : L[k]? = some (g, cel ns)) (i v : Nat) (hi : i < ns.length) : Mm (W.setCells g (i * 6) (cells6 v)) (L.set k (g, cel (ns.set i v))) := by
  rw [← cel_set hi]
  exact h.put k hk (by rw [cel_len]; show i * 6 + 6 ≤ _; omega)
theorem row_at {W : World} {L : List (Nat × List Value)} {g : Nat} {ns : List Nat} (h : Mm W L) (k : Nat) (hk : L[k]? = some (g, cel ns)) {i v : Nat} (hi : ns[i]? = some v) : ∀ j, j < 6 → W.cell? ⟨g, i * 6 + j, none⟩ = some (.int .u64 (wd v j)) := fun j hj => by
  refine h.get k hk (i * 6 + j) ?_
  rw [Nat.mul_comm]
  exact cel_word hi j hj
theorem row_fr {W : World} {L : List (Nat × List Value)} {g : Nat} {ns : List Nat} (h : Mm W L) (k : Nat) (hk : L[k]? = some (g, cel ns)) {i : Nat} (hi : i < ns.length) : ∀ j, j < 6 → W.frozen? ⟨g, i * 6 + j, none⟩ = false := fun j hj => by
  refine h.free (List.mem_of_getElem? hk) (v := .int .u64 (wd ns[i] j)) ?_
  rw [Nat.mul_comm]
  exact cel_word (List.getElem?_eq_getElem hi) j hj
theorem Ns.of {W : World} {L : List (Nat × List Value)} {g n : Nat} {F : Nat → Nat} (h : Mm W L) (k : Nat) (hk : L[k]? = some (g, cel (Lz F n n))) (hb : ∀ i, i < n → F i < big) : Ns W (some ⟨g, 0, none⟩) n g 0 F :=
  ⟨fun _ => ⟨rfl, h.lt (List.mem_of_getElem? hk)⟩, fun i hi j hj => by
    rw [Nat.zero_add]
    refine row_at h k hk ?_ j hj
    rw [Lz_get hi, if_pos hi], hb⟩
end Sh
end Rg
end Go.Proofs.YtkkloakcphigeaaDoor
end
section
namespace Go.Proofs.YtkkloakcphigeaaDoor
open Go.RowKit
namespace Rg
namespace Sh
set_option maxRecDepth 100000
theorem sm_big {n : Nat} (h : n ≤ 9223372036854775807) : n < big := small_big n (by omega)
set_option maxHeartbeats 4000000 in
/-- A polynomial's value at a place. -/
theorem Value_ok {s : Int} {r : Nat} (hS : Su s r) {p : Option Addr} {m c sg so : Nat} {cs : Nat → Nat} (x : Nat) (hx : x ≤ 1000) (hml : m ≤ 64) (hr : ∀ i, i < m → cs i < r) (w : World) (hcs : Ns w p m sg so cs) :
    Calls Tryd.prog 11 #[.int .i64 s, .slice p m c, .int .i64 (x : Int)] w fun e w' => e = .returned (.tuple #[N (hT r cs x m m), .int .i64 0]) ∧ Below w.heap.size w w' := by
  have HCS : Hid _ := hcs
  have HSU : Hid _ := hS
  clear hcs
  have hM0 : Mm w [] := Mm.nil w
  have hB0 : Below w.heap.size w w := Below.refl _ _
  obtain ⟨w1, e1⟩ : ∃ w1, (w.alloc (.cells #[.int .u64 0, .int .u64 0, .int .u64 0, .int .u64 0, .int .u64 0, .int .u64 0] 33)) = w1 := ⟨_, rfl⟩
  have hM1 : Mm w1 [(w.heap.size, [.int .u64 0, .int .u64 0, .int .u64 0, .int .u64 0, .int .u64 0, .int .u64 0])] := mm_new hM0 [.int .u64 0, .int .u64 0, .int .u64 0, .int .u64 0, .int .u64 0, .int .u64 0] 33 e1 rfl
  have hB1 : Below w.heap.size w w1 := bl_new hB0 hB0.size e1
  have HM : Hid (Mm w1 [(w.heap.size, [.int .u64 0, .int .u64 0, .int .u64 0, .int .u64 0, .int .u64 0, .int .u64 0])]) := hM1
  have HB : Hid (Below w.heap.size w w1) := hB1
  clear hM0 hB0 hM1 hB1
  go_enter Tryd.func11, Tryd.ntmps11
  go_wp2_with (first
    | go_loud (
       go_at_call 22
       refine Calls.mono (field_ok (k := 0) (ci := 0) (c := c) HSU.out (by decide) hml hr w1 (HCS.out.below HB.out)) ?_
       rintro e w2 ⟨g, rfl, h2, h2g, h2m⟩
       obtain ⟨w3, e3⟩ : ∃ w3, (w2.alloc (.cells #[PT g 0] 53)) = w3 := ⟨_, rfl⟩
       have hm2 : Mm w2 ((g, modc r) :: _) := (HM.out.below h2).cons (h2m.blk _ (List.mem_singleton.2 rfl)).2 (h2m.lt (List.mem_singleton.2 rfl)) fun q hq => by have := (HM.out.blk q hq).1; have := h2g; omega
       have HM3 : Hid _ := mm_new hm2 [PT g 0] 53 e3 rfl
       have HB3 : Hid _ := bl_new (HB.out.trans (h2.mono HB.out.size)) (Nat.le_trans HB.out.size h2.size) e3
       clear h2 h2g h2m hm2)
    | go_loud (
       go_at_call 26
       refine Calls.mono (isplace_ok x hx w3) ?_
       rintro e w4 ⟨rfl, h4⟩
       have HM4 : Hid _ := HM3.out.below h4
       have HB4 : Hid _ := HB3.out.trans (h4.mono HB3.out.size)
       clear h4
       have q0 := HM4.out.get 0 rfl 0 rfl)
    | go_loud (
       go_at_call 23
       refine Calls.mono (value_any HSU.out.ok x (sm_big (by omega)) (by omega) (by omega) w4 (HM4.out.tail.sub (by simp)) (HCS.out.below HB4.out)) ?_
       rintro e w5 ⟨rfl, h5⟩
       obtain ⟨S, hS2⟩ : ∃ S, hT r cs x m m = S := ⟨_, rfl⟩
       rw [hS2]
       have HM5 : Hid _ := HM4.out.below h5
       have HB5 : Hid _ := HB4.out.trans (h5.mono HB4.out.size)
       have HS2 : Hid _ := hS2
       clear h5 hS2
       have c2_0 := HM5.out.get 2 rfl 0 rfl
       have c2_1 := HM5.out.get 2 rfl 1 rfl
       have c2_2 := HM5.out.get 2 rfl 2 rfl
       have c2_3 := HM5.out.get 2 rfl 3 rfl
       have c2_4 := HM5.out.get 2 rfl 4 rfl
       have c2_5 := HM5.out.get 2 rfl 5 rfl
       have z0 := HM5.out.free (g := w.heap.size) (cs := [.int .u64 0, .int .u64 0, .int .u64 0, .int .u64 0, .int .u64 0, .int .u64 0]) (by simp) (k := 0) rfl
       have z1 := HM5.out.free (g := w.heap.size) (cs := [.int .u64 0, .int .u64 0, .int .u64 0, .int .u64 0, .int .u64 0, .int .u64 0]) (by simp) (k := 1) rfl
       have z2 := HM5.out.free (g := w.heap.size) (cs := [.int .u64 0, .int .u64 0, .int .u64 0, .int .u64 0, .int .u64 0, .int .u64 0]) (by simp) (k := 2) rfl
       have z3 := HM5.out.free (g := w.heap.size) (cs := [.int .u64 0, .int .u64 0, .int .u64 0, .int .u64 0, .int .u64 0, .int .u64 0]) (by simp) (k := 3) rfl
       have z4 := HM5.out.free (g := w.heap.size) (cs := [.int .u64 0, .int .u64 0, .int .u64 0, .int .u64 0, .int .u64 0, .int .u64 0]) (by simp) (k := 4) rfl
       have z5 := HM5.out.free (g := w.heap.size) (cs := [.int .u64 0, .int .u64 0, .int .u64 0, .int .u64 0, .int .u64 0, .int .u64 0]) (by simp) (k := 5) rfl)
    | fail)
  rw [HS2.out]
  change bodyPost _ _ _ _ _ (World.setCells w5 (w.heap.size) 0 (cells6 (S)))
  have HE : Hid _ := HM5.out.put 2 (off := 0) (vs := cells6 (S)) rfl (Nat.le_of_ble_eq_true rfl)
  have HBE : Hid (Below w.heap.size w (World.setCells w5 (w.heap.size) 0 (cells6 (S)))) := bl_put HB5.out (Nat.le_refl _)
  generalize hgw : World.setCells _ _ _ _ = wz at HE HBE ⊢
  clear hgw
  have c0 := HE.out.get 2 rfl 0 rfl
  have c1 := HE.out.get 2 rfl 1 rfl
  have c2 := HE.out.get 2 rfl 2 rfl
  have c3 := HE.out.get 2 rfl 3 rfl
  have c4 := HE.out.get 2 rfl 4 rfl
  have c5 := HE.out.get 2 rfl 5 rfl
  refine bodyPost_ret (v := .tuple #[N S, .int .i64 0]) (by simp [results, Tryd.results11, go_sem, *]) rfl ⟨rfl, HBE.out⟩
end Sh
end Rg
end Go.Proofs.YtkkloakcphigeaaDoor
end
section
namespace Go.Proofs.YtkkloakcphigeaaDoor
open Go.RowKit
namespace Rg
namespace Sh
set_option maxRecDepth 100000
set_option maxHeartbeats 4000000 in
/-- The shares of n nodes. -/
theorem Split_ok {s : Int} {r : Nat} (hS : Su s r) {p : Option Addr} {m c sg so : Nat} {cs : Nat → Nat} (n : Nat) (hn0 : 1 ≤ n) (hn : n ≤ 64) (hml : m ≤ 64) (hr : ∀ i, i < m → cs i < r) (w : World) (hcs : Ns w p m sg so cs) :
    Calls Tryd.prog 7 #[.int .i64 s, .slice p m c, .int .i64 (n : Int)] w fun e w' => ∃ v, e = .returned (.tuple #[.slice (some ⟨v, 0, none⟩) n n, .int .i64 0]) ∧ Below w.heap.size w w' ∧ w.heap.size ≤ v ∧ Ns w' (some ⟨v, 0, none⟩) n v 0 (fun i => hT r cs (i + 1) m m) := by
  have HCS : Hid _ := hcs
  have HSU : Hid _ := hS
  have HM : Hid (Mm w []) := Mm.nil w
  have HB : Hid (Below w.heap.size w w) := Below.refl _ _
  obtain ⟨F, hF⟩ : ∃ F : Nat → Nat, (fun i => hT r cs (i + 1) m m) = F := ⟨_, rfl⟩
  have hFb : ∀ i, i < n → F i < big := fun i _ => by rw [← hF]; exact lt_big hS.ok (hT_lt hS.ok _ _ _ _)
  have HF : Hid (∀ i, hT r cs (i + 1) m m = F i) := fun i => by rw [← hF]
  rw [hF]
  clear hcs hF
  have d1 : ¬ (n : Int) < 1 := by omega
  have d2 : ¬ (64 : Int) < (n : Int) := by omega
  go_enter Tryd.func7, Tryd.ntmps7
  go_wp2_with (first
    | (go_at_call 22
       refine Calls.mono (field_ok (k := 0) (ci := 0) (c := c) HSU.out (by decide) hml hr w HCS.out) ?_
       rintro e w2 ⟨g, rfl, h2, h2g, h2m⟩
       obtain ⟨w3, e3⟩ : ∃ w3, (w2.alloc (.cells #[PT g 0] 53)) = w3 := ⟨_, rfl⟩
       have hm2 : Mm w2 ((g, modc r) :: _) := (HM.out.below h2).cons (h2m.blk _ (List.mem_singleton.2 rfl)).2 (h2m.lt (List.mem_singleton.2 rfl)) fun q hq => by have := (HM.out.blk q hq).1; have := h2g; omega
       have HM3 : Hid _ := mm_new hm2 [PT g 0] 53 e3 rfl
       have HB3 : Hid _ := bl_new (HB.out.trans (h2.mono HB.out.size)) (Nat.le_trans HB.out.size h2.size) e3
       have hmk := make_nums n (by omega) w3
       obtain ⟨w4, e4⟩ : ∃ w4, (w3.alloc (.cells (cel (List.replicate n 0)).toArray 33)) = w4 := ⟨_, rfl⟩
       have HM4 : Hid _ := mm_new HM3.out (cel (List.replicate n 0)) 33 e4 rfl
       have HB4 : Hid _ := bl_new HB3.out HB3.out.size e4
       have HLO : Hid (w.heap.size ≤ w3.heap.size) := HB3.out.size
       clear h2 h2g h2m hm2)
    | fail)
  go_loopw [33] (fun v wr => ∃ i : Nat, i ≤ n ∧ v = .int .i64 (i : Int) ∧ Hid (Mm wr [(w3.heap.size, cel (Lz F n (i))), (w2.heap.size, [PT g 0]), (g, modc r)] ∧ Below w.heap.size w wr))
    (fun v _ => n - (RowKit.intOf v).toNat)
  case atStart => exact ⟨0, Nat.zero_le _, rfl, by rw [Lz_zero]; exact HM4.out.sub (by simp), HB4.out⟩
  case round =>
    obtain ⟨i, hi, rfl, hC⟩ := hrel
    obtain ⟨W, rfl⟩ : ∃ W, W = wr := ⟨wr, rfl⟩
    have HMR : Hid (Mm W [(w3.heap.size, cel (Lz F n (i))), (w2.heap.size, [PT g 0]), (g, modc r)]) := hC.out.1
    have HBR : Hid (Below w.heap.size w W) := hC.out.2
    clear hC
    by_cases hlt : i < n
    · have q0 := HMR.out.get 1 rfl 0 rfl
      have hv := value_any (c := c) HSU.out.ok (i + 1) (sm_big (by omega)) (by omega) (by omega) W (HMR.out.tail.tail) (HCS.out.below HBR.out)
      rw [HF.out i, show ((i + 1 : Nat) : Int) = (i : Int) + 1 by omega] at hv
      have HV : Hid _ := hv
      clear hv
      go_wp2_with (first
        | (go_at_call 23
           refine Calls.mono HV.out ?_
           rintro e w5 ⟨rfl, h5⟩
           have HM5 : Hid _ := HMR.out.below h5
           have HB5 : Hid _ := HBR.out.trans (h5.mono HBR.out.size)
           clear h5
           have f0 : w5.cell? ⟨w3.heap.size, i * 6, none⟩ = some (.int .u64 (wd (if i < i then F i else 0) 0)) := row_at HM5.out 0 rfl (Lz_get hlt) 0 (by decide)
           have z0 : w5.frozen? ⟨w3.heap.size, i * 6, none⟩ = false := row_fr HM5.out 0 rfl (i := i) (by rw [Lz_len]; exact hlt) 0 (by decide)
           have f1 : w5.cell? ⟨w3.heap.size, i * 6 + 1, none⟩ = some (.int .u64 (wd (if i < i then F i else 0) 1)) := row_at HM5.out 0 rfl (Lz_get hlt) 1 (by decide)
           have z1 : w5.frozen? ⟨w3.heap.size, i * 6 + 1, none⟩ = false := row_fr HM5.out 0 rfl (i := i) (by rw [Lz_len]; exact hlt) 1 (by decide)
           have f2 : w5.cell? ⟨w3.heap.size, i * 6 + 2, none⟩ = some (.int .u64 (wd (if i < i then F i else 0) 2)) := row_at HM5.out 0 rfl (Lz_get hlt) 2 (by decide)
           have z2 : w5.frozen? ⟨w3.heap.size, i * 6 + 2, none⟩ = false := row_fr HM5.out 0 rfl (i := i) (by rw [Lz_len]; exact hlt) 2 (by decide)
           have f3 : w5.cell? ⟨w3.heap.size, i * 6 + 3, none⟩ = some (.int .u64 (wd (if i < i then F i else 0) 3)) := row_at HM5.out 0 rfl (Lz_get hlt) 3 (by decide)
           have z3 : w5.frozen? ⟨w3.heap.size, i * 6 + 3, none⟩ = false := row_fr HM5.out 0 rfl (i := i) (by rw [Lz_len]; exact hlt) 3 (by decide)
           have f4 : w5.cell? ⟨w3.heap.size, i * 6 + 4, none⟩ = some (.int .u64 (wd (if i < i then F i else 0) 4)) := row_at HM5.out 0 rfl (Lz_get hlt) 4 (by decide)
           have z4 : w5.frozen? ⟨w3.heap.size, i * 6 + 4, none⟩ = false := row_fr HM5.out 0 rfl (i := i) (by rw [Lz_len]; exact hlt) 4 (by decide)
           have f5 : w5.cell? ⟨w3.heap.size, i * 6 + 5, none⟩ = some (.int .u64 (wd (if i < i then F i else 0) 5)) := row_at HM5.out 0 rfl (Lz_get hlt) 5 (by decide)
           have z5 : w5.frozen? ⟨w3.heap.size, i * 6 + 5, none⟩ = false := row_fr HM5.out 0 rfl (i := i) (by rw [Lz_len]; exact hlt) 5 (by decide))
        | fail)
      have HE : Mm (World.setCells w5 w3.heap.size (i * 6) (cells6 (F i))) [(w3.heap.size, cel (Lz F n (i + 1))), (w2.heap.size, [PT g 0]), (g, modc r)] := by
        have h := mm_row HM5.out 0 rfl i (F i) (by rw [Lz_len]; exact hlt)
        rw [Lz_set hlt] at h
        exact h
      have HBE : Below w.heap.size w (World.setCells w5 w3.heap.size (i * 6) (cells6 (F i))) := bl_put HB5.out HLO.out
      exact ⟨⟨i + 1, by omega, by simp, HE, HBE⟩, by simp [RowKit.intOf]; omega⟩
    · obtain rfl : i = n := by omega
      go_wp2
      go_ret2
      exact ⟨w3.heap.size, rfl, HBR.out, HLO.out, Ns.of HMR.out 0 rfl hFb⟩
end Sh
end Rg
end Go.Proofs.YtkkloakcphigeaaDoor
end
section
namespace Go.Proofs.YtkkloakcphigeaaDoor
open Go.RowKit
namespace Rg
namespace Sh
set_option maxRecDepth 100000
/-- The product over all ids but one, as the program works it out. -/
def uN (r : Nat) (X : Nat → Nat) (i x : Nat) : Nat → Nat
  | 0 => 1
  | m + 1 => if m = i then uN r X i x m else uN r X i x m * subm r x (X m) % r
theorem one_lt {r : Nat} (ok : Ok r) : 1 < r := by
  have h1 := ok.odd
  have h2 := ok.pos
  have h3 := ok.three
  omega
theorem uN_lt {r : Nat} (ok : Ok r) (X : Nat → Nat) (i x : Nat) : ∀ m, uN r X i x m < r
  | 0 => one_lt ok
  | m + 1 => by
    unfold uN
    split
    · exact uN_lt ok X i x m
    · exact Nat.mod_lt _ ok.pos
set_option maxHeartbeats 4000000 in
theorem lagOf_any {g r : Nat} (ok : Ok r) {p : Option Addr} {k c ig io : Nat} {X : Nat → Nat} (q at_ : Nat) (hq : q < k) (ha : at_ ≤ 1000) (hk : k ≤ 1000) (hX : ∀ i, i < k → X i ≤ 1000) (hg : Nat.gcd r (uN r X q (X q) k) = 1) (w : World) (hm : Mm w [(g, modc r), (2, dtab)]) (hi : Is w p k ig io X) :
    Calls Tryd.prog 49 #[.agg #[PT g 0], .int .i64 (q : Int), .slice p k c, .int .i64 (at_ : Int)] w fun e w' => e = .returned (N (uN r X q at_ k * invm r (uN r X q (X q) k) % r)) ∧ Below w.heap.size w w' := by
  have HI : Hid _ := hi
  clear hi
  have hM0 : Mm w [(g, modc r), (2, dtab)] := hm
  have hB0 : Below w.heap.size w w := Below.refl _ _
  obtain ⟨w1, e1⟩ : ∃ w1, (w.alloc (.cells #[PT g 0] 53)) = w1 := ⟨_, rfl⟩
  have hM1 : Mm w1 [(w.heap.size, [PT g 0]), (g, modc r), (2, dtab)] := mm_new hM0 [PT g 0] 53 e1 rfl
  have hB1 : Below w.heap.size w w1 := bl_new hB0 hB0.size e1
  obtain ⟨w2, e2⟩ : ∃ w2, (w1.alloc (.cells #[.int .u64 0, .int .u64 0, .int .u64 0, .int .u64 0, .int .u64 0, .int .u64 0] 33)) = w2 := ⟨_, rfl⟩
  have hM2 : Mm w2 [(w1.heap.size, [.int .u64 0, .int .u64 0, .int .u64 0, .int .u64 0, .int .u64 0, .int .u64 0]), (w.heap.size, [PT g 0]), (g, modc r), (2, dtab)] := mm_new hM1 [.int .u64 0, .int .u64 0, .int .u64 0, .int .u64 0, .int .u64 0, .int .u64 0] 33 e2 rfl
  have hB2 : Below w.heap.size w w2 := bl_new hB1 hB1.size e2
  have HM : Hid (Mm w2 [(w1.heap.size, [.int .u64 0, .int .u64 0, .int .u64 0, .int .u64 0, .int .u64 0, .int .u64 0]), (w.heap.size, [PT g 0]), (g, modc r), (2, dtab)]) := hM2
  have HB : Hid (Below w.heap.size w w2) := hB2
  clear hM0 hB0 hM1 hB1 hM2 hB2 hm
  have hlo1 : w.heap.size ≤ w1.heap.size := by rw [sz_new e1]; omega
  go_enter Tryd.func49, Tryd.ntmps49
  go_wp2_with (first
    | (go_at_call 44; refine Calls.mono (number_any 1 (by decide) w2) ?_; rintro e w3 ⟨rfl, h3⟩; have H3 : Hid _ := h3; clear h3)
    | (go_at_call 44
       refine Calls.mono (number_any 1 (by decide) w3) ?_
       rintro e w4 ⟨rfl, h4⟩
       obtain ⟨w5, e5⟩ : ∃ w5, (w4.alloc (.cells #[.int .u64 (wd 1 0), .int .u64 (wd 1 1), .int .u64 (wd 1 2), .int .u64 (wd 1 3), .int .u64 (wd 1 4), .int .u64 (wd 1 5)] 33)) = w5 := ⟨_, rfl⟩
       obtain ⟨w6, e6⟩ : ∃ w6, (w5.alloc (.cells #[.int .u64 (wd 1 0), .int .u64 (wd 1 1), .int .u64 (wd 1 2), .int .u64 (wd 1 3), .int .u64 (wd 1 4), .int .u64 (wd 1 5)] 33)) = w6 := ⟨_, rfl⟩
       have HM4 : Hid _ := (HM.out.below H3.out).below h4
       have HB4 : Hid _ := (HB.out.trans (H3.out.mono HB.out.size)).trans (h4.mono (Nat.le_trans HB.out.size H3.out.size))
       have HM5 : Hid _ := mm_new HM4.out [.int .u64 (wd 1 0), .int .u64 (wd 1 1), .int .u64 (wd 1 2), .int .u64 (wd 1 3), .int .u64 (wd 1 4), .int .u64 (wd 1 5)] 33 e5 rfl
       have HB5 : Hid _ := bl_new HB4.out HB4.out.size e5
       have HM6 : Hid _ := mm_new HM5.out [.int .u64 (wd 1 0), .int .u64 (wd 1 1), .int .u64 (wd 1 2), .int .u64 (wd 1 3), .int .u64 (wd 1 4), .int .u64 (wd 1 5)] 33 e6 rfl
       have HB6 : Hid _ := bl_new HB5.out HB5.out.size e6
       have es5 : w5.heap.size = w4.heap.size + 1 := sz_new e5
       have hm6 := HM6.out
       rw [es5] at hm6
       have HM7 : Hid _ := hm6
       have HLO : Hid (w.heap.size ≤ w4.heap.size) := HB4.out.size
       clear h4 hm6)
    | fail)
  go_loopw [17] (fun v wr => ∃ i : Nat, i ≤ k ∧ v = .int .i64 (i : Int) ∧ Hid (Mm wr [(w4.heap.size + 1, cells6 (uN r X q (X q) i)), (w4.heap.size, cells6 (uN r X q at_ i)), (w1.heap.size, [.int .u64 0, .int .u64 0, .int .u64 0, .int .u64 0, .int .u64 0, .int .u64 0]), (w.heap.size, [PT g 0]), (g, modc r), (2, dtab)] ∧ Below w.heap.size w wr))
    (fun v _ => k - (RowKit.intOf v).toNat)
  case atStart => exact ⟨0, Nat.zero_le _, rfl, HM7.out, HB6.out⟩
  case round =>
    obtain ⟨i, hi, rfl, hC⟩ := hrel
    obtain ⟨W, rfl⟩ : ∃ W, W = wr := ⟨wr, rfl⟩
    obtain ⟨U, hU⟩ : ∃ U, uN r X q at_ i = U := ⟨_, rfl⟩
    obtain ⟨D, hD⟩ : ∃ D, uN r X q (X q) i = D := ⟨_, rfl⟩
    have hUb : U < big := by rw [← hU]; exact lt_big ok (uN_lt ok _ _ _ _)
    have hDb : D < big := by rw [← hD]; exact lt_big ok (uN_lt ok _ _ _ _)
    rw [hU, hD] at hC
    have HU0 : Hid _ := hU
    have HD0 : Hid _ := hD
    clear hU hD
    have HMR : Hid (Mm W [(w4.heap.size + 1, cells6 (D)), (w4.heap.size, cells6 (U)), (w1.heap.size, [.int .u64 0, .int .u64 0, .int .u64 0, .int .u64 0, .int .u64 0, .int .u64 0]), (w.heap.size, [PT g 0]), (g, modc r), (2, dtab)]) := hC.out.1
    have HBR : Hid (Below w.heap.size w W) := hC.out.2
    clear hC
    by_cases hlt : i < k
    · obtain ⟨rfl, hsg⟩ := HI.out.p (by omega)
      have c0 : W.cell? ⟨ig, io + i, none⟩ = some (.int .i64 (X i : Int)) := (HBR.out.cell (p := ⟨ig, io + i, none⟩) hsg).trans (HI.out.c i hlt)
      obtain ⟨x, hx⟩ : ∃ x, X i = x := ⟨_, rfl⟩
      obtain ⟨y, hy⟩ : ∃ y, X q = y := ⟨_, rfl⟩
      have hxl : x ≤ 1000 := by rw [← hx]; exact hX i hlt
      have hyl : y ≤ 1000 := by rw [← hy]; exact hX q hq
      have HXX : Hid _ := hx
      have HYY : Hid _ := hy
      rw [hx] at c0
      by_cases heq : i = q
      · subst heq
        go_wp2
        go_roundw
        case rel =>
          refine ⟨i + 1, by omega, by simp, ?_, HBR.out⟩
          rw [show uN r X i (X i) (i + 1) = D from (if_pos rfl).trans HD0.out, show uN r X i at_ (i + 1) = U from (if_pos rfl).trans HU0.out]
          exact HMR.out
        case measure => simp [RowKit.intOf]; omega
      · have d1 : ¬((i : Int) = (q : Int)) := by omega
        have HCQ : Hid (∀ u, Below w.heap.size w u → u.cell? ⟨ig, io + q, none⟩ = some (.int .i64 (y : Int))) := fun u hu => (hu.cell (p := ⟨ig, io + q, none⟩) hsg).trans (by rw [← hy]; exact HI.out.c q hq)
        clear hx hy
        go_wp2
        refine walk_det (by kernel_rfl) 8 [PT w.heap.size 0, PT g 0, N U, .agg #[PT g 0], .int .i64 (x : Int), .int .i64 (at_ : Int), N (subm r at_ x), N (U * subm r at_ x % r)] [none, none, none, none, none, none, some 0, some 1] [6, 7]
          (fun _ u => Below W.heap.size W u) ?preza ?Fza ?hpreza ?hFza (by kernel_rfl) ?hWza (bdr W) ?hopza ?heza
        case hpreza => simp only [tk, tz]; rfl
        case hFza => simp only [List.map_cons, List.map_nil, fill, Kind.val, Act.put, sa, sz, ss]; rfl
        case hWza => kernel_rfl
        case hopza =>
          refine ⟨fun c _ u hu => ?_, fun c _ u hu => ?_, fun c _ u hu => ?_, fun c _ u hu => ?_, fun c _ u hu => ?_, fun c _ u hu => ?_, fun u hu => .inr ⟨48, #[.agg #[PT g 0], .int .i64 (x : Int), .int .i64 (at_ : Int)], exec_call rfl (fun _ _ => rfl) rfl (by simp only [List.map_toArray, List.map_cons, List.map_nil]; rfl), ?_⟩, fun u hu => .inr ⟨30, #[PT g 0, N U, N (subm r at_ x)], exec_call rfl (fun _ _ => rfl) rfl (by simp only [List.map_toArray, List.map_cons, List.map_nil]; rfl), ?_⟩, trivial⟩
          · clear hu; go_simp
          · have c3_0 := (HMR.out.below hu).get 3 rfl 0 rfl; clear hu; go_simp
          · have c1_0 := (HMR.out.below hu).get 1 rfl 0 rfl; have c1_1 := (HMR.out.below hu).get 1 rfl 1 rfl; have c1_2 := (HMR.out.below hu).get 1 rfl 2 rfl; have c1_3 := (HMR.out.below hu).get 1 rfl 3 rfl; have c1_4 := (HMR.out.below hu).get 1 rfl 4 rfl; have c1_5 := (HMR.out.below hu).get 1 rfl 5 rfl; clear hu; go_simp
          · have c3_0 := (HMR.out.below hu).get 3 rfl 0 rfl; clear hu; go_simp
          · clear hu; go_simp
          · clear hu; go_simp
          · exact Calls.mono (between_any ok x at_ (sm_big (by omega)) (sm_big (by omega)) (by omega) (by omega) u ((HMR.out.below hu).tail.tail.tail.tail.sub (by simp))) fun e u2 ⟨he, h2⟩ => ⟨he, hu.trans (h2.mono hu.size)⟩
          · exact Calls.mono (mulm_any ok hUb (lt_big ok (subm_lt_n ok.pos _ _)) u ((HMR.out.below hu).tail.tail.tail.tail.sub (by simp))) fun e u2 ⟨he, h2⟩ => ⟨he, hu.trans (h2.mono hu.size)⟩
        intro u hu
        have HUa : Hid _ := HMR.out.below hu
        have HBUa : Hid (Below w.heap.size w u) := HBR.out.trans (hu.mono HBR.out.size)
        clear hu
        refine rest_store rfl rfl rfl (ex_store6 HUa.out 1 rfl rfl rfl rfl (Nat.le_of_ble_eq_true rfl)) ?_
        have HEa : Hid (Mm (u.setCells w4.heap.size 0 (cells6 (U * subm r at_ x % r))) [(w4.heap.size + 1, cells6 (D)), (w4.heap.size, cells6 (U * subm r at_ x % r)), (w1.heap.size, [.int .u64 0, .int .u64 0, .int .u64 0, .int .u64 0, .int .u64 0, .int .u64 0]), (w.heap.size, [PT g 0]), (g, modc r), (2, dtab)]) := HUa.out.put 1 (off := 0) (vs := cells6 (U * subm r at_ x % r)) rfl (Nat.le_of_ble_eq_true rfl)
        have HBEa : Hid (Below w.heap.size w (u.setCells w4.heap.size 0 (cells6 (U * subm r at_ x % r)))) := bl_put HBUa.out HLO.out
        clear HUa HBUa
        generalize hgwa : World.setCells _ _ _ _ = wa at HEa HBEa ⊢
        clear hgwa
        clear u
        refine rest_nil ?_
        go_wp2
        refine walk_det (by kernel_rfl) 11 [PT w.heap.size 0, PT g 0, N D, .agg #[PT g 0], .int .i64 (x : Int), .slice (some ⟨ig, io, none⟩) k c, .int .i64 (q : Int), PT ig (io + q), .int .i64 (y : Int), N (subm r y x), N (D * subm r y x % r)] [none, none, none, none, none, none, none, none, none, some 0, some 1] [9, 10]
          (fun _ u => Below wa.heap.size wa u) ?prezb ?Fzb ?hprezb ?hFzb (by kernel_rfl) ?hWzb (bdr wa) ?hopzb ?hezb
        case hprezb => simp only [tk, tz]; rfl
        case hFzb => simp only [List.map_cons, List.map_nil, fill, Kind.val, Act.put, sa, sz, ss]; rfl
        case hWzb => kernel_rfl
        case hopzb =>
          refine ⟨fun c _ u hu => ?_, fun c _ u hu => ?_, fun c _ u hu => ?_, fun c _ u hu => ?_, fun c _ u hu => ?_, fun c _ u hu => ?_, fun c _ u hu => ?_, fun c _ u hu => ?_, fun c _ u hu => ?_, fun u hu => .inr ⟨48, #[.agg #[PT g 0], .int .i64 (x : Int), .int .i64 (y : Int)], exec_call rfl (fun _ _ => rfl) rfl (by simp only [List.map_toArray, List.map_cons, List.map_nil]; rfl), ?_⟩, fun u hu => .inr ⟨30, #[PT g 0, N D, N (subm r y x)], exec_call rfl (fun _ _ => rfl) rfl (by simp only [List.map_toArray, List.map_cons, List.map_nil]; rfl), ?_⟩, trivial⟩
          · clear hu; go_simp
          · have c3_0 := (HEa.out.below hu).get 3 rfl 0 rfl; clear hu; go_simp
          · have c0_0 := (HEa.out.below hu).get 0 rfl 0 rfl; have c0_1 := (HEa.out.below hu).get 0 rfl 1 rfl; have c0_2 := (HEa.out.below hu).get 0 rfl 2 rfl; have c0_3 := (HEa.out.below hu).get 0 rfl 3 rfl; have c0_4 := (HEa.out.below hu).get 0 rfl 4 rfl; have c0_5 := (HEa.out.below hu).get 0 rfl 5 rfl; clear hu; go_simp
          · have c3_0 := (HEa.out.below hu).get 3 rfl 0 rfl; clear hu; go_simp
          · clear hu; go_simp
          · clear hu; go_simp
          · clear hu; go_simp
          · clear hu; go_simp
          · have cq := HCQ.out u (HBEa.out.trans (hu.mono HBEa.out.size)); clear hu; go_simp
          · exact Calls.mono (between_any ok x y (sm_big (by omega)) (sm_big (by omega)) (by omega) (by omega) u ((HEa.out.below hu).tail.tail.tail.tail.sub (by simp))) fun e u2 ⟨he, h2⟩ => ⟨he, hu.trans (h2.mono hu.size)⟩
          · exact Calls.mono (mulm_any ok hDb (lt_big ok (subm_lt_n ok.pos _ _)) u ((HEa.out.below hu).tail.tail.tail.tail.sub (by simp))) fun e u2 ⟨he, h2⟩ => ⟨he, hu.trans (h2.mono hu.size)⟩
        intro u hu
        have HUb : Hid _ := HEa.out.below hu
        have HBUb : Hid (Below w.heap.size w u) := HBEa.out.trans (hu.mono HBEa.out.size)
        clear hu
        refine rest_store rfl rfl rfl (ex_store6 HUb.out 0 rfl rfl rfl rfl (Nat.le_of_ble_eq_true rfl)) ?_
        have HEb : Hid (Mm (u.setCells (w4.heap.size + 1) 0 (cells6 (D * subm r y x % r))) [(w4.heap.size + 1, cells6 (D * subm r y x % r)), (w4.heap.size, cells6 (U * subm r at_ x % r)), (w1.heap.size, [.int .u64 0, .int .u64 0, .int .u64 0, .int .u64 0, .int .u64 0, .int .u64 0]), (w.heap.size, [PT g 0]), (g, modc r), (2, dtab)]) := HUb.out.put 0 (off := 0) (vs := cells6 (D * subm r y x % r)) rfl (Nat.le_of_ble_eq_true rfl)
        have HBEb : Hid (Below w.heap.size w (u.setCells (w4.heap.size + 1) 0 (cells6 (D * subm r y x % r)))) := bl_put HBUb.out (Nat.le_succ_of_le HLO.out)
        clear HUb HBUb
        generalize hgwb : World.setCells _ _ _ _ = wb at HEb HBEb ⊢
        clear hgwb
        clear u
        refine rest_nil ?_
        go_wp2
        go_roundw
        case rel =>
          refine ⟨i + 1, by omega, by simp, ?_, HBEb.out⟩
          rw [show uN r X q (X q) (i + 1) = D * subm r y x % r by { show (if i = q then _ else uN r X q (X q) i * subm r (X q) (X i) % r) = _; rw [if_neg heq, HD0.out, HXX.out, HYY.out] }, show uN r X q at_ (i + 1) = U * subm r at_ x % r by { show (if i = q then _ else uN r X q at_ i * subm r at_ (X i) % r) = _; rw [if_neg heq, HU0.out, HXX.out] }]
          exact HEb.out
        case measure => simp [RowKit.intOf]; omega
    · obtain rfl : i = k := by omega
      have c0_0 := HMR.out.get 0 rfl 0 rfl
      have c0_1 := HMR.out.get 0 rfl 1 rfl
      have c0_2 := HMR.out.get 0 rfl 2 rfl
      have c0_3 := HMR.out.get 0 rfl 3 rfl
      have c0_4 := HMR.out.get 0 rfl 4 rfl
      have c0_5 := HMR.out.get 0 rfl 5 rfl
      have c1_0 := HMR.out.get 1 rfl 0 rfl
      have c1_1 := HMR.out.get 1 rfl 1 rfl
      have c1_2 := HMR.out.get 1 rfl 2 rfl
      have c1_3 := HMR.out.get 1 rfl 3 rfl
      have c1_4 := HMR.out.get 1 rfl 4 rfl
      have c1_5 := HMR.out.get 1 rfl 5 rfl
      have c3_0 := HMR.out.get 3 rfl 0 rfl
      rw [HD0.out] at hg
      go_wp2_with (first
        | (go_at_call 47
           refine Calls.mono (over_any ok U D hUb hDb hg W HMR.out.tail.tail.tail.tail) ?_
           rintro e w8 ⟨rfl, h8⟩
           have HM8 : Hid _ := HMR.out.below h8
           have HB8 : Hid _ := HBR.out.trans (h8.mono HBR.out.size)
           clear h8
           have f0 := HM8.out.get 2 rfl 0 rfl
           have z0 := HM8.out.free (g := w1.heap.size) (cs := [.int .u64 0, .int .u64 0, .int .u64 0, .int .u64 0, .int .u64 0, .int .u64 0]) (by simp) (k := 0) rfl
           have f1 := HM8.out.get 2 rfl 1 rfl
           have z1 := HM8.out.free (g := w1.heap.size) (cs := [.int .u64 0, .int .u64 0, .int .u64 0, .int .u64 0, .int .u64 0, .int .u64 0]) (by simp) (k := 1) rfl
           have f2 := HM8.out.get 2 rfl 2 rfl
           have z2 := HM8.out.free (g := w1.heap.size) (cs := [.int .u64 0, .int .u64 0, .int .u64 0, .int .u64 0, .int .u64 0, .int .u64 0]) (by simp) (k := 2) rfl
           have f3 := HM8.out.get 2 rfl 3 rfl
           have z3 := HM8.out.free (g := w1.heap.size) (cs := [.int .u64 0, .int .u64 0, .int .u64 0, .int .u64 0, .int .u64 0, .int .u64 0]) (by simp) (k := 3) rfl
           have f4 := HM8.out.get 2 rfl 4 rfl
           have z4 := HM8.out.free (g := w1.heap.size) (cs := [.int .u64 0, .int .u64 0, .int .u64 0, .int .u64 0, .int .u64 0, .int .u64 0]) (by simp) (k := 4) rfl
           have f5 := HM8.out.get 2 rfl 5 rfl
           have z5 := HM8.out.free (g := w1.heap.size) (cs := [.int .u64 0, .int .u64 0, .int .u64 0, .int .u64 0, .int .u64 0, .int .u64 0]) (by simp) (k := 5) rfl)
        | fail)
      rw [HU0.out, HD0.out]
      change bodyPost _ _ _ _ _ (World.setCells w8 (w1.heap.size) 0 (cells6 (U * invm r D % r)))
      have HE : Hid _ := HM8.out.put 2 (off := 0) (vs := cells6 (U * invm r D % r)) rfl (Nat.le_of_ble_eq_true rfl)
      have HBE : Hid (Below w.heap.size w (World.setCells w8 (w1.heap.size) 0 (cells6 (U * invm r D % r)))) := bl_put HB8.out hlo1
      generalize hgw : World.setCells _ _ _ _ = wz at HE HBE ⊢
      clear hgw
      have c0 := HE.out.get 2 rfl 0 rfl
      have c1 := HE.out.get 2 rfl 1 rfl
      have c2 := HE.out.get 2 rfl 2 rfl
      have c3 := HE.out.get 2 rfl 3 rfl
      have c4 := HE.out.get 2 rfl 4 rfl
      have c5 := HE.out.get 2 rfl 5 rfl
      refine bodyPost_ret (v := N (U * invm r D % r)) (by simp [results, Tryd.results49, go_sem, *]) rfl ⟨rfl, HBE.out⟩
end Sh
end Rg
end Go.Proofs.YtkkloakcphigeaaDoor
end
section
namespace Go.Proofs.YtkkloakcphigeaaDoor
open Go.RowKit
namespace Rg
namespace Sh
set_option maxRecDepth 100000
/-- The Lagrange number of the id at an index. -/
def lgN (r : Nat) (X : Nat → Nat) (k x q : Nat) : Nat := uN r X q x k * invm r (uN r X q (X q) k) % r
set_option maxHeartbeats 4000000 in
theorem lagr_any {g r : Nat} (ok : Ok r) {p : Option Addr} {k c ig io : Nat} {X : Nat → Nat} (at_ : Nat) (ha : at_ ≤ 1000) (hk : k ≤ 64) (hX : ∀ i, i < k → X i ≤ 1000) (hg : ∀ q, q < k → Nat.gcd r (uN r X q (X q) k) = 1) (w : World) (hm : Mm w [(g, modc r), (2, dtab)]) (hi : Is w p k ig io X) :
    Calls Tryd.prog 28 #[.agg #[PT g 0], .slice p k c, .int .i64 (at_ : Int)] w fun e w' => ∃ v, e = .returned (.slice (some ⟨v, 0, none⟩) k k) ∧ Below w.heap.size w w' ∧ w.heap.size ≤ v ∧ Ns w' (some ⟨v, 0, none⟩) k v 0 (lgN r X k at_) := by
  have HI : Hid _ := hi
  obtain ⟨F, hF⟩ : ∃ F : Nat → Nat, lgN r X k at_ = F := ⟨_, rfl⟩
  have hFb : ∀ i, i < k → F i < big := fun i _ => by rw [← hF]; exact lt_big ok (Nat.mod_lt _ ok.pos)
  have HF : Hid (∀ q, uN r X q at_ k * invm r (uN r X q (X q) k) % r = F q) := fun q => by rw [← hF]; rfl
  rw [hF]
  clear hi hF
  have hM0 : Mm w [(g, modc r), (2, dtab)] := hm
  have hB0 : Below w.heap.size w w := Below.refl _ _
  obtain ⟨w1, e1⟩ : ∃ w1, (w.alloc (.cells #[PT g 0] 53)) = w1 := ⟨_, rfl⟩
  have hM1 : Mm w1 [(w.heap.size, [PT g 0]), (g, modc r), (2, dtab)] := mm_new hM0 [PT g 0] 53 e1 rfl
  have hB1 : Below w.heap.size w w1 := bl_new hB0 hB0.size e1
  have HM : Hid (Mm w1 [(w.heap.size, [PT g 0]), (g, modc r), (2, dtab)]) := hM1
  have HB : Hid (Below w.heap.size w w1) := hB1
  clear hM0 hB0 hM1 hB1 hm
  have hmk := make_nums k (by omega) w1
  obtain ⟨w2, e2⟩ : ∃ w2, (w1.alloc (.cells (cel (List.replicate k 0)).toArray 33)) = w2 := ⟨_, rfl⟩
  have HM2 : Hid _ := mm_new HM.out (cel (List.replicate k 0)) 33 e2 rfl
  have HB2 : Hid _ := bl_new HB.out HB.out.size e2
  have HLO : Hid (w.heap.size ≤ w1.heap.size) := HB.out.size
  go_enter Tryd.func28, Tryd.ntmps28
  go_wp2
  go_loopw [14] (fun v wr => ∃ i : Nat, i ≤ k ∧ v = .int .i64 (i : Int) ∧ Hid (Mm wr [(w1.heap.size, cel (Lz F k (i))), (w.heap.size, [PT g 0]), (g, modc r), (2, dtab)] ∧ Below w.heap.size w wr))
    (fun v _ => k - (RowKit.intOf v).toNat)
  case atStart => exact ⟨0, Nat.zero_le _, rfl, by rw [Lz_zero]; exact HM2.out, HB2.out⟩
  case round =>
    obtain ⟨i, hi, rfl, hC⟩ := hrel
    obtain ⟨W, rfl⟩ : ∃ W, W = wr := ⟨wr, rfl⟩
    have HMR : Hid (Mm W [(w1.heap.size, cel (Lz F k (i))), (w.heap.size, [PT g 0]), (g, modc r), (2, dtab)]) := hC.out.1
    have HBR : Hid (Below w.heap.size w W) := hC.out.2
    clear hC
    by_cases hlt : i < k
    · have q0 := HMR.out.get 1 rfl 0 rfl
      have hv := lagOf_any (c := c) ok i at_ hlt ha (by omega) hX (hg i hlt) W HMR.out.tail.tail (HI.out.below HBR.out)
      rw [HF.out i] at hv
      have HV : Hid _ := hv
      clear hv
      go_wp2_with (first
        | (go_at_call 49
           refine Calls.mono HV.out ?_
           rintro e w5 ⟨rfl, h5⟩
           have HM5 : Hid _ := HMR.out.below h5
           have HB5 : Hid _ := HBR.out.trans (h5.mono HBR.out.size)
           clear h5
           have f0 : w5.cell? ⟨w1.heap.size, i * 6, none⟩ = some (.int .u64 (wd (if i < i then F i else 0) 0)) := row_at HM5.out 0 rfl (Lz_get hlt) 0 (by decide)
           have z0 : w5.frozen? ⟨w1.heap.size, i * 6, none⟩ = false := row_fr HM5.out 0 rfl (i := i) (by rw [Lz_len]; exact hlt) 0 (by decide)
           have f1 : w5.cell? ⟨w1.heap.size, i * 6 + 1, none⟩ = some (.int .u64 (wd (if i < i then F i else 0) 1)) := row_at HM5.out 0 rfl (Lz_get hlt) 1 (by decide)
           have z1 : w5.frozen? ⟨w1.heap.size, i * 6 + 1, none⟩ = false := row_fr HM5.out 0 rfl (i := i) (by rw [Lz_len]; exact hlt) 1 (by decide)
           have f2 : w5.cell? ⟨w1.heap.size, i * 6 + 2, none⟩ = some (.int .u64 (wd (if i < i then F i else 0) 2)) := row_at HM5.out 0 rfl (Lz_get hlt) 2 (by decide)
           have z2 : w5.frozen? ⟨w1.heap.size, i * 6 + 2, none⟩ = false := row_fr HM5.out 0 rfl (i := i) (by rw [Lz_len]; exact hlt) 2 (by decide)
           have f3 : w5.cell? ⟨w1.heap.size, i * 6 + 3, none⟩ = some (.int .u64 (wd (if i < i then F i else 0) 3)) := row_at HM5.out 0 rfl (Lz_get hlt) 3 (by decide)
           have z3 : w5.frozen? ⟨w1.heap.size, i * 6 + 3, none⟩ = false := row_fr HM5.out 0 rfl (i := i) (by rw [Lz_len]; exact hlt) 3 (by decide)
           have f4 : w5.cell? ⟨w1.heap.size, i * 6 + 4, none⟩ = some (.int .u64 (wd (if i < i then F i else 0) 4)) := row_at HM5.out 0 rfl (Lz_get hlt) 4 (by decide)
           have z4 : w5.frozen? ⟨w1.heap.size, i * 6 + 4, none⟩ = false := row_fr HM5.out 0 rfl (i := i) (by rw [Lz_len]; exact hlt) 4 (by decide)
           have f5 : w5.cell? ⟨w1.heap.size, i * 6 + 5, none⟩ = some (.int .u64 (wd (if i < i then F i else 0) 5)) := row_at HM5.out 0 rfl (Lz_get hlt) 5 (by decide)
           have z5 : w5.frozen? ⟨w1.heap.size, i * 6 + 5, none⟩ = false := row_fr HM5.out 0 rfl (i := i) (by rw [Lz_len]; exact hlt) 5 (by decide))
        | fail)
      have HE : Mm (World.setCells w5 w1.heap.size (i * 6) (cells6 (F i))) [(w1.heap.size, cel (Lz F k (i + 1))), (w.heap.size, [PT g 0]), (g, modc r), (2, dtab)] := by
        have h := mm_row HM5.out 0 rfl i (F i) (by rw [Lz_len]; exact hlt)
        rw [Lz_set hlt] at h
        exact h
      have HBE : Below w.heap.size w (World.setCells w5 w1.heap.size (i * 6) (cells6 (F i))) := bl_put HB5.out HLO.out
      exact ⟨⟨i + 1, by omega, by simp, HE, HBE⟩, by simp [RowKit.intOf]; omega⟩
    · obtain rfl : i = k := by omega
      go_wp2
      go_ret
      exact ⟨w1.heap.size, rfl, HBR.out, HLO.out, Ns.of HMR.out 0 rfl hFb⟩
end Sh
end Rg
end Go.Proofs.YtkkloakcphigeaaDoor
end
section
namespace Go.Proofs.YtkkloakcphigeaaDoor
open Go.RowKit
namespace Rg
namespace Sh
set_option maxRecDepth 100000
theorem Ns.put {w : World} {p : Option Addr} {m g o b off : Nat} {F : Nat → Nat} {cs : List Value} (h : Ns w p m g o F) (hb : 0 < m → g ≠ b) : Ns (w.setCells b off cs) p m g o F :=
  ⟨fun e => ⟨(h.p e).1, by rw [size_setCells]; exact (h.p e).2⟩, fun i hi j hj => by
    rw [World.cell?_setCells_out b cs off w _ (fun e => absurd e (hb (by omega)))]
    exact h.c i hi j hj, h.b⟩
/-- The sum of shares, each times its factor. -/
def smN (r : Nat) (f y : Nat → Nat) : Nat → Nat
  | 0 => 0
  | m + 1 => (smN r f y m + f m * y m % r) % r
theorem smN_lt {r : Nat} (ok : Ok r) (f y : Nat → Nat) : ∀ m, smN r f y m < r
  | 0 => ok.pos
  | _ + 1 => Nat.mod_lt _ ok.pos
set_option maxHeartbeats 4000000 in
theorem join_any {g r : Nat} (ok : Ok r) {p : Option Addr} {k c ig io : Nat} {X : Nat → Nat} {ps : Option Addr} {cs sg so : Nat} {Y : Nat → Nat} (at_ : Nat) (ha : at_ ≤ 1000) (hk : k ≤ 64) (hX : ∀ i, i < k → X i ≤ 1000) (hg : ∀ q, q < k → Nat.gcd r (uN r X q (X q) k) = 1) (w : World) (hm : Mm w [(g, modc r), (2, dtab)]) (hi : Is w p k ig io X) (hs : Ns w ps k sg so Y) :
    Calls Tryd.prog 25 #[.agg #[PT g 0], .slice p k c, .slice ps k cs, .int .i64 (at_ : Int)] w fun e w' => e = .returned (N (smN r (lgN r X k at_) Y k)) ∧ Below w.heap.size w w' := by
  have HI : Hid _ := hi
  have HS0 : Hid _ := hs
  obtain ⟨F, hF⟩ : ∃ F : Nat → Nat, lgN r X k at_ = F := ⟨_, rfl⟩
  have hL := fun w hm hi => lagr_any (g := g) (p := p) (c := c) (ig := ig) (io := io) ok at_ ha hk hX hg w hm hi
  rw [hF] at hL ⊢
  have HL : Hid _ := hL
  clear hi hs hF hL
  have hM0 : Mm w [(g, modc r), (2, dtab)] := hm
  have hB0 : Below w.heap.size w w := Below.refl _ _
  obtain ⟨w1, e1⟩ : ∃ w1, (w.alloc (.cells #[PT g 0] 53)) = w1 := ⟨_, rfl⟩
  have hM1 : Mm w1 [(w.heap.size, [PT g 0]), (g, modc r), (2, dtab)] := mm_new hM0 [PT g 0] 53 e1 rfl
  have hB1 : Below w.heap.size w w1 := bl_new hB0 hB0.size e1
  obtain ⟨w2, e2⟩ : ∃ w2, (w1.alloc (.cells #[.int .u64 0, .int .u64 0, .int .u64 0, .int .u64 0, .int .u64 0, .int .u64 0] 33)) = w2 := ⟨_, rfl⟩
  have hM2 : Mm w2 [(w1.heap.size, [.int .u64 0, .int .u64 0, .int .u64 0, .int .u64 0, .int .u64 0, .int .u64 0]), (w.heap.size, [PT g 0]), (g, modc r), (2, dtab)] := mm_new hM1 [.int .u64 0, .int .u64 0, .int .u64 0, .int .u64 0, .int .u64 0, .int .u64 0] 33 e2 rfl
  have hB2 : Below w.heap.size w w2 := bl_new hB1 hB1.size e2
  obtain ⟨w3, e3⟩ : ∃ w3, (w2.alloc (.cells #[.int .u64 0, .int .u64 0, .int .u64 0, .int .u64 0, .int .u64 0, .int .u64 0] 33)) = w3 := ⟨_, rfl⟩
  have hM3 : Mm w3 [(w2.heap.size, [.int .u64 0, .int .u64 0, .int .u64 0, .int .u64 0, .int .u64 0, .int .u64 0]), (w1.heap.size, [.int .u64 0, .int .u64 0, .int .u64 0, .int .u64 0, .int .u64 0, .int .u64 0]), (w.heap.size, [PT g 0]), (g, modc r), (2, dtab)] := mm_new hM2 [.int .u64 0, .int .u64 0, .int .u64 0, .int .u64 0, .int .u64 0, .int .u64 0] 33 e3 rfl
  have hB3 : Below w.heap.size w w3 := bl_new hB2 hB2.size e3
  have HM : Hid (Mm w3 [(w2.heap.size, [.int .u64 0, .int .u64 0, .int .u64 0, .int .u64 0, .int .u64 0, .int .u64 0]), (w1.heap.size, [.int .u64 0, .int .u64 0, .int .u64 0, .int .u64 0, .int .u64 0, .int .u64 0]), (w.heap.size, [PT g 0]), (g, modc r), (2, dtab)]) := hM3
  have HB : Hid (Below w.heap.size w w3) := hB3
  clear hM0 hB0 hM1 hB1 hM2 hB2 hM3 hB3 hm
  have hlo1 : w.heap.size ≤ w1.heap.size := by rw [sz_new e1]; omega
  have hlo2 : w.heap.size ≤ w2.heap.size := by rw [sz_new e2]; omega
  have h23 : w2.heap.size < w3.heap.size := by rw [sz_new e3]; omega
  have q0 := HM.out.get 2 rfl 0 rfl
  go_enter Tryd.func25, Tryd.ntmps25
  go_wp2_with (first
    | (go_at_call 28
       refine Calls.mono (HL.out w3 HM.out.tail.tail.tail (HI.out.below HB.out)) ?_
       rintro e w4 ⟨v, rfl, h4, h4v, h4n⟩
       have HM4 : Hid _ := HM.out.below h4
       have HB4 : Hid _ := HB.out.trans (h4.mono HB.out.size)
       have HN4 : Hid _ := h4n
       have HV : Hid (w2.heap.size < v) := Nat.lt_of_lt_of_le h23 h4v
       clear h4 h4v h4n)
    | fail)
  go_loopw [17] (fun v2 wr => ∃ i : Nat, i ≤ k ∧ v2 = .int .i64 (i : Int) ∧ Hid (Mm wr [(w2.heap.size, cells6 (smN r F Y i)), (w1.heap.size, [.int .u64 0, .int .u64 0, .int .u64 0, .int .u64 0, .int .u64 0, .int .u64 0]), (w.heap.size, [PT g 0]), (g, modc r), (2, dtab)] ∧ Below w.heap.size w wr ∧ Ns wr (some ⟨v, 0, none⟩) k v 0 F))
    (fun v2 _ => k - (RowKit.intOf v2).toNat)
  case atStart => exact ⟨0, Nat.zero_le _, rfl, by have := HM4.out; rwa [show cells6 (smN r F Y 0) = [.int .u64 0, .int .u64 0, .int .u64 0, .int .u64 0, .int .u64 0, .int .u64 0] from cells_zero], HB4.out, HN4.out⟩
  case round =>
    obtain ⟨i, hi, rfl, hC⟩ := hrel
    obtain ⟨W, rfl⟩ : ∃ W, W = wr := ⟨wr, rfl⟩
    obtain ⟨S, hS⟩ : ∃ S, smN r F Y i = S := ⟨_, rfl⟩
    have hSb : S < big := by rw [← hS]; exact lt_big ok (smN_lt ok _ _ _)
    rw [hS] at hC
    have HS : Hid _ := hS
    clear hS
    have HMR : Hid (Mm W [(w2.heap.size, cells6 (S)), (w1.heap.size, [.int .u64 0, .int .u64 0, .int .u64 0, .int .u64 0, .int .u64 0, .int .u64 0]), (w.heap.size, [PT g 0]), (g, modc r), (2, dtab)]) := hC.out.1
    have HBR : Hid (Below w.heap.size w W) := hC.out.2.1
    have HNR : Hid (Ns W (some ⟨v, 0, none⟩) k v 0 F) := hC.out.2.2
    clear hC
    by_cases hlt : i < k
    · obtain ⟨rfl, hsg⟩ := HS0.out.p (by omega)
      obtain ⟨f, hf⟩ : ∃ f, F i = f := ⟨_, rfl⟩
      obtain ⟨y, hy⟩ : ∃ y, Y i = y := ⟨_, rfl⟩
      have hfb : f < big := by rw [← hf]; exact HNR.out.b i hlt
      have hyb : y < big := by rw [← hy]; exact HS0.out.b i hlt
      have HFF : Hid _ := hf
      have HYY : Hid _ := hy
      have hn := HNR.out.c i hlt
      rw [hf, Nat.zero_add] at hn
      have HCC : Hid (∀ u, Below W.heap.size W u → ∀ j, j < 6 → u.cell? ⟨sg, so + i * 6 + j, none⟩ = some (.int .u64 (wd y j))) := fun u hu j hj => ((HBR.out.trans (hu.mono HBR.out.size)).cell (p := ⟨sg, so + i * 6 + j, none⟩) hsg).trans (by rw [← hy]; exact HS0.out.c i hlt j hj)
      have d0 : W.cell? ⟨v, i * 6, none⟩ = _ := hn 0 (by decide)
      have d1 : W.cell? ⟨v, i * 6 + 1, none⟩ = _ := hn 1 (by decide)
      have d2 : W.cell? ⟨v, i * 6 + 2, none⟩ = _ := hn 2 (by decide)
      have d3 : W.cell? ⟨v, i * 6 + 3, none⟩ = _ := hn 3 (by decide)
      have d4 : W.cell? ⟨v, i * 6 + 4, none⟩ = _ := hn 4 (by decide)
      have d5 : W.cell? ⟨v, i * 6 + 5, none⟩ = _ := hn 5 (by decide)
      obtain ⟨V, eV⟩ : ∃ V, (W.alloc (.cells #[.int .u64 (wd f 0), .int .u64 (wd f 1), .int .u64 (wd f 2), .int .u64 (wd f 3), .int .u64 (wd f 4), .int .u64 (wd f 5)] 33)) = V := ⟨_, rfl⟩
      have HMV : Hid _ := mm_new HMR.out [.int .u64 (wd f 0), .int .u64 (wd f 1), .int .u64 (wd f 2), .int .u64 (wd f 3), .int .u64 (wd f 4), .int .u64 (wd f 5)] 33 eV rfl
      have HBV : Hid _ := bl_new HBR.out HBR.out.size eV
      have HWV : Hid (Below W.heap.size W V) := bl_new (Below.refl _ _) (Nat.le_refl _) eV
      clear hn hf hy
      go_wp2
      refine walk_det (by kernel_rfl) 12 [PT w.heap.size 0, PT g 0, N S, PT w.heap.size 0, PT g 0, N f, .slice (some ⟨sg, so, none⟩) k cs, .int .i64 (i : Int), PT sg (so + i * 6), N y, N (f * y % r), N ((S + f * y % r) % r)] [none, none, none, none, none, none, none, none, none, none, some 0, some 1] [10, 11]
        (fun _ u => Below V.heap.size V u) ?prez ?Fz ?hprez ?hFz (by kernel_rfl) ?hWz (bdr V) ?hopz ?hez
      case hprez => simp only [tk, tz]; rfl
      case hFz => simp only [List.map_cons, List.map_nil, fill, Kind.val, Act.put, sa, sz, ss]; rfl
      case hWz => kernel_rfl
      case hopz =>
        refine ⟨fun c _ u hu => ?_, fun c _ u hu => ?_, fun c _ u hu => ?_, fun c _ u hu => ?_, fun c _ u hu => ?_, fun c _ u hu => ?_, fun c _ u hu => ?_, fun c _ u hu => ?_, fun c _ u hu => ?_, fun c _ u hu => ?_, fun u hu => .inr ⟨30, #[PT g 0, N f, N y], exec_call rfl (fun _ _ => rfl) rfl (by simp only [List.map_toArray, List.map_cons, List.map_nil]; rfl), ?_⟩, fun u hu => .inr ⟨43, #[PT g 0, N S, N (f * y % r)], exec_call rfl (fun _ _ => rfl) rfl (by simp only [List.map_toArray, List.map_cons, List.map_nil]; rfl), ?_⟩, trivial⟩
        · clear hu; go_simp
        · have c3_0 := (HMV.out.below hu).get 3 rfl 0 rfl; clear hu; go_simp
        · have c1_0 := (HMV.out.below hu).get 1 rfl 0 rfl; have c1_1 := (HMV.out.below hu).get 1 rfl 1 rfl; have c1_2 := (HMV.out.below hu).get 1 rfl 2 rfl; have c1_3 := (HMV.out.below hu).get 1 rfl 3 rfl; have c1_4 := (HMV.out.below hu).get 1 rfl 4 rfl; have c1_5 := (HMV.out.below hu).get 1 rfl 5 rfl; clear hu; go_simp
        · clear hu; go_simp
        · have c3_0 := (HMV.out.below hu).get 3 rfl 0 rfl; clear hu; go_simp
        · have c0_0 := (HMV.out.below hu).get 0 rfl 0 rfl; have c0_1 := (HMV.out.below hu).get 0 rfl 1 rfl; have c0_2 := (HMV.out.below hu).get 0 rfl 2 rfl; have c0_3 := (HMV.out.below hu).get 0 rfl 3 rfl; have c0_4 := (HMV.out.below hu).get 0 rfl 4 rfl; have c0_5 := (HMV.out.below hu).get 0 rfl 5 rfl; clear hu; go_simp
        · clear hu; go_simp
        · clear hu; go_simp
        · clear hu; go_simp
        · have d0 : u.cell? ⟨sg, so + i * 6, none⟩ = _ := HCC.out u (HWV.out.trans (hu.mono HWV.out.size)) 0 (by decide); have d1 : u.cell? ⟨sg, so + i * 6 + 1, none⟩ = _ := HCC.out u (HWV.out.trans (hu.mono HWV.out.size)) 1 (by decide); have d2 : u.cell? ⟨sg, so + i * 6 + 2, none⟩ = _ := HCC.out u (HWV.out.trans (hu.mono HWV.out.size)) 2 (by decide); have d3 : u.cell? ⟨sg, so + i * 6 + 3, none⟩ = _ := HCC.out u (HWV.out.trans (hu.mono HWV.out.size)) 3 (by decide); have d4 : u.cell? ⟨sg, so + i * 6 + 4, none⟩ = _ := HCC.out u (HWV.out.trans (hu.mono HWV.out.size)) 4 (by decide); have d5 : u.cell? ⟨sg, so + i * 6 + 5, none⟩ = _ := HCC.out u (HWV.out.trans (hu.mono HWV.out.size)) 5 (by decide); clear hu; go_simp
        · exact Calls.mono (mulm_any ok hfb hyb u ((HMV.out.below hu).tail.tail.tail.tail.sub (by simp))) fun e u2 ⟨he, h2⟩ => ⟨he, hu.trans (h2.mono hu.size)⟩
        · exact Calls.mono (addm_any ok hSb (lt_big ok (Nat.mod_lt _ ok.pos)) u ((HMV.out.below hu).tail.tail.tail.tail.sub (by simp))) fun e u2 ⟨he, h2⟩ => ⟨he, hu.trans (h2.mono hu.size)⟩
      intro u hu
      have HU : Hid _ := (HMV.out.below hu).tail
      have HBU : Hid (Below w.heap.size w u) := HBV.out.trans (hu.mono HBV.out.size)
      have HNU : Hid (Ns u (some ⟨v, 0, none⟩) k v 0 F) := HNR.out.below (HWV.out.trans (hu.mono HWV.out.size))
      clear hu
      refine rest_store rfl rfl rfl (ex_store6 HU.out 0 rfl rfl rfl rfl (Nat.le_of_ble_eq_true rfl)) ?_
      have HE : Hid (Mm (u.setCells w2.heap.size 0 (cells6 ((S + f * y % r) % r))) [(w2.heap.size, cells6 ((S + f * y % r) % r)), (w1.heap.size, [.int .u64 0, .int .u64 0, .int .u64 0, .int .u64 0, .int .u64 0, .int .u64 0]), (w.heap.size, [PT g 0]), (g, modc r), (2, dtab)]) := HU.out.put 0 (off := 0) (vs := cells6 ((S + f * y % r) % r)) rfl (Nat.le_of_ble_eq_true rfl)
      have HBE : Hid (Below w.heap.size w (u.setCells w2.heap.size 0 (cells6 ((S + f * y % r) % r)))) := bl_put HBU.out hlo2
      have HNE : Hid (Ns (u.setCells w2.heap.size 0 (cells6 ((S + f * y % r) % r))) (some ⟨v, 0, none⟩) k v 0 F) := HNU.out.put fun _ => by have := HV.out; omega
      clear HU HBU HNU
      generalize hgw : World.setCells _ _ _ _ = w6 at HE HBE HNE ⊢
      clear hgw
      refine rest_nil ?_
      go_wp2
      go_roundw
      case rel =>
        refine ⟨i + 1, by omega, by simp, ?_, HBE.out, HNE.out⟩
        rw [show smN r F Y (i + 1) = (S + f * y % r) % r by { show (smN r F Y i + F i * Y i % r) % r = _; rw [HS.out, HFF.out, HYY.out] }]
        exact HE.out
      case measure => simp [RowKit.intOf]; omega
    · obtain rfl : i = k := by omega
      have c0_0 := HMR.out.get 0 rfl 0 rfl
      have c0_1 := HMR.out.get 0 rfl 1 rfl
      have c0_2 := HMR.out.get 0 rfl 2 rfl
      have c0_3 := HMR.out.get 0 rfl 3 rfl
      have c0_4 := HMR.out.get 0 rfl 4 rfl
      have c0_5 := HMR.out.get 0 rfl 5 rfl
      have z0 := HMR.out.free (g := w1.heap.size) (cs := [.int .u64 0, .int .u64 0, .int .u64 0, .int .u64 0, .int .u64 0, .int .u64 0]) (by simp) (k := 0) rfl
      have z1 := HMR.out.free (g := w1.heap.size) (cs := [.int .u64 0, .int .u64 0, .int .u64 0, .int .u64 0, .int .u64 0, .int .u64 0]) (by simp) (k := 1) rfl
      have z2 := HMR.out.free (g := w1.heap.size) (cs := [.int .u64 0, .int .u64 0, .int .u64 0, .int .u64 0, .int .u64 0, .int .u64 0]) (by simp) (k := 2) rfl
      have z3 := HMR.out.free (g := w1.heap.size) (cs := [.int .u64 0, .int .u64 0, .int .u64 0, .int .u64 0, .int .u64 0, .int .u64 0]) (by simp) (k := 3) rfl
      have z4 := HMR.out.free (g := w1.heap.size) (cs := [.int .u64 0, .int .u64 0, .int .u64 0, .int .u64 0, .int .u64 0, .int .u64 0]) (by simp) (k := 4) rfl
      have z5 := HMR.out.free (g := w1.heap.size) (cs := [.int .u64 0, .int .u64 0, .int .u64 0, .int .u64 0, .int .u64 0, .int .u64 0]) (by simp) (k := 5) rfl
      have f1_0 := HMR.out.get 1 rfl 0 rfl
      have f1_1 := HMR.out.get 1 rfl 1 rfl
      have f1_2 := HMR.out.get 1 rfl 2 rfl
      have f1_3 := HMR.out.get 1 rfl 3 rfl
      have f1_4 := HMR.out.get 1 rfl 4 rfl
      have f1_5 := HMR.out.get 1 rfl 5 rfl
      go_wp2
      rw [HS.out]
      change bodyPost _ _ _ _ _ (World.setCells W (w1.heap.size) 0 (cells6 (S)))
      have HE : Hid _ := HMR.out.put 1 (off := 0) (vs := cells6 (S)) rfl (Nat.le_of_ble_eq_true rfl)
      have HBE : Hid (Below w.heap.size w (World.setCells W (w1.heap.size) 0 (cells6 (S)))) := bl_put HBR.out hlo1
      generalize hgw : World.setCells _ _ _ _ = wz at HE HBE ⊢
      clear hgw
      have c0 := HE.out.get 1 rfl 0 rfl
      have c1 := HE.out.get 1 rfl 1 rfl
      have c2 := HE.out.get 1 rfl 2 rfl
      have c3 := HE.out.get 1 rfl 3 rfl
      have c4 := HE.out.get 1 rfl 4 rfl
      have c5 := HE.out.get 1 rfl 5 rfl
      refine bodyPost_ret (v := N S) (by simp [results, Tryd.results25, go_sem, *]) rfl ⟨rfl, HBE.out⟩
end Sh
end Rg
end Go.Proofs.YtkkloakcphigeaaDoor
end
section
namespace Go.Proofs.YtkkloakcphigeaaDoor
open Go.RowKit
namespace Rg
namespace Sh
set_option maxRecDepth 100000
set_option maxHeartbeats 4000000 in
/-- The value at a place of shares. -/
theorem Join_ok {s : Int} {r : Nat} (hS : Su s r) {p : Option Addr} {k c ig io : Nat} {X : Nat → Nat} {ps : Option Addr} {cs sg so : Nat} {Y : Nat → Nat} (at_ : Nat) (ha : at_ ≤ 1000) (hk : k ≤ 64) (hX : ∀ i, i < k → 1 ≤ X i ∧ X i ≤ 1000) (hne : ∀ i j, i < k → j < k → i ≠ j → X i ≠ X j) (hr : ∀ i, i < k → Y i < r) (hg : ∀ q, q < k → Nat.gcd r (uN r X q (X q) k) = 1) (w : World) (hm : Mm w [(2, dtab)]) (hi : Is w p k ig io X) (hs : Ns w ps k sg so Y) :
    Calls Tryd.prog 10 #[.int .i64 s, .slice p k c, .slice ps k cs, .int .i64 (at_ : Int)] w fun e w' => e = .returned (.tuple #[N (smN r (lgN r X k at_) Y k), .int .i64 0]) ∧ Below w.heap.size w w' := by
  have HI : Hid _ := hi
  have HS0 : Hid _ := hs
  have HSU : Hid _ := hS
  clear hi hs
  have hM0 : Mm w [(2, dtab)] := hm
  have hB0 : Below w.heap.size w w := Below.refl _ _
  obtain ⟨w1, e1⟩ : ∃ w1, (w.alloc (.cells #[.int .u64 0, .int .u64 0, .int .u64 0, .int .u64 0, .int .u64 0, .int .u64 0] 33)) = w1 := ⟨_, rfl⟩
  have hM1 : Mm w1 [(w.heap.size, [.int .u64 0, .int .u64 0, .int .u64 0, .int .u64 0, .int .u64 0, .int .u64 0]), (2, dtab)] := mm_new hM0 [.int .u64 0, .int .u64 0, .int .u64 0, .int .u64 0, .int .u64 0, .int .u64 0] 33 e1 rfl
  have hB1 : Below w.heap.size w w1 := bl_new hB0 hB0.size e1
  have HM : Hid (Mm w1 [(w.heap.size, [.int .u64 0, .int .u64 0, .int .u64 0, .int .u64 0, .int .u64 0, .int .u64 0]), (2, dtab)]) := hM1
  have HB : Hid (Below w.heap.size w w1) := hB1
  clear hM0 hB0 hM1 hB1 hm
  go_enter Tryd.func10, Tryd.ntmps10
  go_wp2_with (first
    | (go_at_call 22
       refine Calls.mono (field_ok (k := k) (ci := c) (c := cs) HSU.out hk hk hr w1 (HS0.out.below HB.out)) ?_
       rintro e w2 ⟨g, rfl, h2, h2g, h2m⟩
       obtain ⟨w3, e3⟩ : ∃ w3, (w2.alloc (.cells #[PT g 0] 53)) = w3 := ⟨_, rfl⟩
       have hm2 : Mm w2 ((g, modc r) :: _) := (HM.out.below h2).cons (h2m.blk _ (List.mem_singleton.2 rfl)).2 (h2m.lt (List.mem_singleton.2 rfl)) fun q hq => by have := (HM.out.blk q hq).1; have := h2g; omega
       have HM3 : Hid _ := mm_new hm2 [PT g 0] 53 e3 rfl
       have HB3 : Hid _ := bl_new (HB.out.trans (h2.mono HB.out.size)) (Nat.le_trans HB.out.size h2.size) e3
       clear h2 h2g h2m hm2)
    | (go_at_call 24
       refine Calls.mono (check_ok at_ ha (by omega) hX hne w3 (HI.out.below HB3.out)) ?_
       rintro e w4 ⟨rfl, h4⟩
       have HM4 : Hid _ := HM3.out.below h4
       have HB4 : Hid _ := HB3.out.trans (h4.mono HB3.out.size)
       clear h4
       have q0 := HM4.out.get 0 rfl 0 rfl)
    | (go_at_call 25
       refine Calls.mono (join_any HSU.out.ok at_ ha hk (fun i hi => (hX i hi).2) hg w4 (HM4.out.tail.sub (.cons_cons _ (.cons _ (.refl _)))) (HI.out.below HB4.out) (HS0.out.below HB4.out)) ?_
       rintro e w5 ⟨rfl, h5⟩
       obtain ⟨S, hS2⟩ : ∃ S, smN r (lgN r X k at_) Y k = S := ⟨_, rfl⟩
       rw [hS2]
       have HM5 : Hid _ := HM4.out.below h5
       have HB5 : Hid _ := HB4.out.trans (h5.mono HB4.out.size)
       have HS2 : Hid _ := hS2
       clear h5 hS2
       have c2_0 := HM5.out.get 2 rfl 0 rfl
       have c2_1 := HM5.out.get 2 rfl 1 rfl
       have c2_2 := HM5.out.get 2 rfl 2 rfl
       have c2_3 := HM5.out.get 2 rfl 3 rfl
       have c2_4 := HM5.out.get 2 rfl 4 rfl
       have c2_5 := HM5.out.get 2 rfl 5 rfl
       have z0 := HM5.out.free (g := w.heap.size) (cs := [.int .u64 0, .int .u64 0, .int .u64 0, .int .u64 0, .int .u64 0, .int .u64 0]) (by simp) (k := 0) rfl
       have z1 := HM5.out.free (g := w.heap.size) (cs := [.int .u64 0, .int .u64 0, .int .u64 0, .int .u64 0, .int .u64 0, .int .u64 0]) (by simp) (k := 1) rfl
       have z2 := HM5.out.free (g := w.heap.size) (cs := [.int .u64 0, .int .u64 0, .int .u64 0, .int .u64 0, .int .u64 0, .int .u64 0]) (by simp) (k := 2) rfl
       have z3 := HM5.out.free (g := w.heap.size) (cs := [.int .u64 0, .int .u64 0, .int .u64 0, .int .u64 0, .int .u64 0, .int .u64 0]) (by simp) (k := 3) rfl
       have z4 := HM5.out.free (g := w.heap.size) (cs := [.int .u64 0, .int .u64 0, .int .u64 0, .int .u64 0, .int .u64 0, .int .u64 0]) (by simp) (k := 4) rfl
       have z5 := HM5.out.free (g := w.heap.size) (cs := [.int .u64 0, .int .u64 0, .int .u64 0, .int .u64 0, .int .u64 0, .int .u64 0]) (by simp) (k := 5) rfl)
    | fail)
  rw [HS2.out]
  change bodyPost _ _ _ _ _ (World.setCells w5 (w.heap.size) 0 (cells6 (S)))
  have HE : Hid _ := HM5.out.put 2 (off := 0) (vs := cells6 (S)) rfl (Nat.le_of_ble_eq_true rfl)
  have HBE : Hid (Below w.heap.size w (World.setCells w5 (w.heap.size) 0 (cells6 (S)))) := bl_put HB5.out (Nat.le_refl _)
  generalize hgw : World.setCells _ _ _ _ = wz at HE HBE ⊢
  clear hgw
  have c0 := HE.out.get 2 rfl 0 rfl
  have c1 := HE.out.get 2 rfl 1 rfl
  have c2 := HE.out.get 2 rfl 2 rfl
  have c3 := HE.out.get 2 rfl 3 rfl
  have c4 := HE.out.get 2 rfl 4 rfl
  have c5 := HE.out.get 2 rfl 5 rfl
  refine bodyPost_ret (v := .tuple #[N S, .int .i64 0]) (by simp [results, Tryd.results10, go_sem, *]) rfl ⟨rfl, HBE.out⟩
end Sh
end Rg
end Go.Proofs.YtkkloakcphigeaaDoor
end
section
namespace Go.Proofs.YtkkloakcphigeaaDoor
open Go.RowKit
namespace Rg
set_option maxRecDepth 100000
def upd {α : Type} (f : Nat → α) (i : Nat) (x : α) : Nat → α := fun k => if k = i then x else f k
theorem upd_same {α : Type} (f : Nat → α) (i : Nat) (x : α) : upd f i x i = x := if_pos rfl
theorem upd_ne {α : Type} (f : Nat → α) {i k : Nat} (x : α) (h : k ≠ i) : upd f i x k = f k := if_neg h
/-- Operations that tell what is known ahead, and others that change the memory: what these tell is kept in ε, and what holds then in J. -/
structure Mix (P : Program) (full ops : Array Oper) (F : (Nat → Value) → Act) (p : Nat) (eff : Nat → Bool) (val : Nat → Value) (J : (Nat → Bool) → (Nat → Value) → World → Prop) : Prop where
  guard : ∀ (i : Nat) (o : Oper), ops[i]? = some o → ∀ d ε w, J d ε w → Region.wanted o (yielded ops (F ε).tmps) = true
  gp : ∀ (i : Nat) (o : Oper) (g : Nat) (b : Bool), ops[i]? = some o → o.guard = some (g, b) → g < p
  quiet : ∀ (i : Nat) (o : Oper), ops[i]? = some o → eff i = false → ∀ d ε w, J d ε w → (execOp (F ε).eval o).run P w = .ok (.value (val i)) w
  efft : ∀ (i : Nat) (o : Oper), ops[i]? = some o → eff i = true → ∀ d ε w, d i = false → (∀ j, eff j = true → waitsQ full 6 o j = true → d j = true) → J d ε w →
    (∃ v w1, (execOp (F ε).eval o).run P w = .ok (.value v) w1 ∧ J (upd d i true) (upd ε i v) w1) ∨
    ∃ f args, (execOp (F ε).eval o).run P w = .ok (.enter f args) w ∧ Calls P f args w fun x w1 => ∃ v, x = .returned v ∧ J (upd d i true) (upd ε i v) w1
section
variable {P : Program} {ops : Array Oper} {a₀ : Act} {Q : Exit → Act → World → Prop}
theorem agree_upd {n p : Nat} {ks : (Nat → Value) → List Kind} {eff : Nat → Bool} {val : Nat → Value} (hO : ∀ ε, Orderly ops (ks ε) n) (hn : n = a₀.tmps.size) (hp : ops.size = p) (hk : ∀ ε i, i < p → (ks ε)[i]? = some (.quiet (if eff i = true then ε i else val i))) {l : Array Bool} {a : Act} {ε : Nat → Value} {i : Nat} (hi : i < p) (hun : l.getD i false = false) (v : Value) (h : Agree ops (ks ε) a₀ l (fun _ => 0) a) : Agree ops (ks (upd ε i v)) a₀ l (fun _ => 0) a := by
  refine ⟨h.defers, h.size, fun d hd => (h.slots d hd).trans ?_⟩
  by_cases hw : ∃ (j : Nat) (oj : Oper), ops[j]? = some oj ∧ oj.dst = some d
  · obtain ⟨j, oj, hj, hdj⟩ := hw
    have hjp : j < p := by rw [← hp]; exact (Array.getElem?_eq_some_iff.1 hj).1
    have hne : j ≠ i := fun e => by
      subst e
      have := hd j oj hj hdj
      rw [hun] at this
      cases this
    rw [fill_one (hO ε) hn _ hj (hk ε j hjp) hdj, fill_one (hO _) hn _ hj (hk _ j hjp) hdj]
    show some _ = some _
    rw [upd_ne _ _ hne]
  · have hno : ∀ o' ∈ ops.toList, o'.dst ≠ some d := fun o' ho' hd' => by
      obtain ⟨j, hj, ej⟩ := List.getElem_of_mem ho'
      exact hw ⟨j, o', by rw [← Array.getElem?_toList, List.getElem?_eq_getElem hj, ej], hd'⟩
    rw [fill_other _ d 0 _ _ _ hno, fill_other _ d 0 _ _ _ hno]
/-- The flags of the operations that change the memory. -/
def efl (eff : Nat → Bool) (l : Array Bool) : Nat → Bool := fun k => eff k && l.getD k false
theorem efl_quiet {eff : Nat → Bool} {l : Array Bool} {i : Nat} (h : eff i = false) : efl eff (l.setIfInBounds i true) = efl eff l := by
  funext k
  unfold efl
  by_cases e : i = k
  · subst e; rw [h]; rfl
  · rw [getD_set_ne false e]
theorem efl_eff {eff : Nat → Bool} {l : Array Bool} {i : Nat} (h : eff i = true) (hun : l.getD i true = false) : efl eff (l.setIfInBounds i true) = upd (efl eff l) i true := by
  funext k
  unfold efl upd
  by_cases e : i = k
  · subst e; rw [if_pos rfl, h, (getD_same hun).2]; rfl
  · rw [getD_set_ne false e, if_neg (Ne.symm e)]
theorem first_mix {full : Array Oper} {n p : Nat} {ks : (Nat → Value) → List Kind} {eff : Nat → Bool} {val : Nat → Value} {J : (Nat → Bool) → (Nat → Value) → World → Prop} (hO : ∀ ε, Orderly ops (ks ε) n) (hn : n = a₀.tmps.size)
    (hp : ops.size = p) (hpf : p ≤ full.size) (hfull : ∀ i, i < p → full[i]? = ops[i]?)
    (hup : ∀ {i : Nat} {o : Oper}, full[i]? = some o → ∀ e ∈ o.after, Region.binds .any e = true → e.on < i)
    (hwt : ∀ {i : Nat} {o : Oper}, full[i]? = some o → p ≤ i → ∀ j, j < i → waitsQ full 6 o j = true)
    (hk : ∀ ε i, i < p → (ks ε)[i]? = some (.quiet (if eff i = true then ε i else val i)))
    (hD : Mix P full ops (fun ε => fill (fun _ => 0) 0 ops.toList (ks ε) a₀) p eff val J)
    (hend : ∀ d ε w, (∀ i, i < p → eff i = true → d i = true) → J d ε w → wpOps P full Q (List.range' p (full.size - p)) (fill (fun _ => 0) 0 ops.toList (ks ε) a₀) w) :
    ∀ (fuel : Nat) (l : Array Bool) (a : Act) (w : World), l.size = full.size → l.toList.count false ≤ fuel → full.size - p ≤ fuel → (∀ i, p ≤ i → i < full.size → l.getD i true = false) → Down full l → (∃ ε, Agree ops (ks ε) a₀ l (fun _ => 0) a ∧ J (efl eff l) ε w) → wpAny P .any full Q fuel l a w := by
  intro fuel
  induction fuel with
  | zero =>
    rintro l a w hsz hc hpl hu hdn ⟨ε, hA, hC⟩
    have hall : ∀ i, i < p → l.getD i false = true := fun i hi => by
      cases hb : l.getD i true with
      | false => have := count_set hb; omega
      | true =>
        have hi' : i < l.size := by omega
        simpa [hi'] using hb
    rw [whole_of hp hA hall]
    exact rest_any p hup hwt (full.size - p) 0 p l _ _ (by omega) (Nat.le_refl _) hsz (by omega) hall hu (hend _ ε _ (fun i hi he => by unfold efl; rw [he, hall i hi]; rfl) hC)
  | succ fuel ih =>
    rintro l a w hsz hc hpl hu hdn ⟨ε, hA, hC⟩
    by_cases hall : ∀ i, i < p → l.getD i false = true
    · rw [whole_of hp hA hall]
      exact rest_any p hup hwt (full.size - p) (fuel + 1) p l _ _ (by omega) (Nat.le_refl _) hsz (by omega) hall hu (hend _ ε _ (fun i hi he => by unfold efl; rw [he, hall i hi]; rfl) hC)
    · have hex : ∃ x, x < p ∧ l.getD x false = false := by
        apply Classical.byContradiction
        intro hno
        apply hall
        intro i hi
        cases hb : l.getD i false with
        | true => rfl
        | false => exact absurd ⟨i, hi, hb⟩ hno
      obtain ⟨x, hx, hxf⟩ := hex
      have hlow : ∀ i ∈ Region.ready .any full l, i < p := fun i hi => by
        obtain ⟨hun, o, ho, hedge⟩ := mem_ready.1 hi
        rcases Nat.lt_or_ge i p with h' | h'
        · exact h'
        · have := waitsQ_spec hdn 6 (hwt ho h' x (by omega)) hedge
          rw [hxf] at this
          cases this
      have hcnt : full.size - p + 1 ≤ l.toList.count false := by
        have h1 : l.getD x true = false := by
          have hx' : x < l.size := by omega
          simpa [hx'] using hxf
        have h2 := count_set h1
        have h3 : ∀ (m : Nat) (l : Array Bool), l.size = full.size → m ≤ full.size - p → (∀ i, full.size - m ≤ i → i < full.size → l.getD i true = false) → m ≤ l.toList.count false := by
          intro m
          induction m with
          | zero => intro l _ _ _; omega
          | succ m ih =>
            intro l hs hm hl
            have h4 := count_set (hl (full.size - (m + 1)) (Nat.le_refl _) (by omega))
            have h5 := ih (l.setIfInBounds (full.size - (m + 1)) true) (by simp [hs]) (by omega) (fun i hi1 hi2 => by rw [getD_set_ne true (by omega)]; exact hl i (by omega) hi2)
            omega
        have h6 := h3 (full.size - p) (l.setIfInBounds x true) (by simp [hsz]) (Nat.le_refl _) (fun i hi1 hi2 => by rw [getD_set_ne true (by omega)]; exact hu i (by omega) hi2)
        omega
      refine ⟨fun hr => ?_, fun i hi => ?_⟩
      · exfalso
        have : ∀ i, i < full.size → l.getD i false = true := by
          intro i
          induction i using Nat.strongRecOn with
          | _ i ih2 =>
            intro hi
            have hi' : i < l.size := by omega
            cases hl : l.getD i true with
            | true => simpa [hi'] using hl
            | false =>
              exfalso
              have : i ∈ Region.ready .any full l := mem_ready.2 ⟨hl, full[i], Array.getElem?_eq_getElem hi, fun e he hb => by
                have h1 := hup (Array.getElem?_eq_getElem hi) e he hb
                exact ih2 e.on h1 (by omega)⟩
              rw [hr] at this
              cases this
        rw [this x (by omega)] at hxf
        cases hxf
      · have hip := hlow i hi
        obtain ⟨hun, o, ho, hedge⟩ := mem_ready.1 hi
        have ho' : ops[i]? = some o := by rw [← hfull i hip]; exact ho
        have hc' := count_set hun
        have hun' : l.getD i false = false := (getD_same hun).1
        have hsee := hA.sees (hO ε) ho' hedge
        have hwn : Region.wanted o (yielded full a.tmps) = true := by
          have h6 : Region.wanted o (yielded full a.tmps) = Region.wanted o (yielded ops a.tmps) := by
            unfold Region.wanted
            cases hg : o.guard with
            | none => rfl
            | some gw =>
              obtain ⟨g, want⟩ := gw
              have hy : yielded full a.tmps g = yielded ops a.tmps g := by
                unfold yielded
                rw [hfull g (hD.gp i o g want ho' hg)]
              simp only [hy]
          rw [h6, hsee.2]
          exact hD.guard i o ho' _ ε w hC
        have fin : ∀ (K' : Act → World → Prop), (∀ a' w', wpAny P .any full Q fuel (l.setIfInBounds i true) a' w' → K' a' w') → ∀ v w1, (∃ ε', Agree ops (ks ε') a₀ (l.setIfInBounds i true) (fun _ => 0) (a.put o.dst v) ∧ J (efl eff (l.setIfInBounds i true)) ε' w1) → K' (a.put o.dst v) w1 := fun K' hK v w1 hx =>
          hK _ _ (ih _ _ _ (by simp [hsz]) (by omega) (by omega) (fun j hj hj2 => by rw [getD_set_ne true (by omega)]; exact hu j hj hj2) (down_set hdn ho hedge) hx)
        refine wpOp_step ho (fun K' hK => ?_)
        rw [if_pos hwn]
        unfold Oper.wp
        rw [hsee.1]
        cases hE : eff i with
        | false =>
          have hki := hk ε i hip
          rw [hE, if_neg (by decide)] at hki
          rw [hD.quiet i o ho' hE _ ε w hC]
          exact fin K' hK _ _ ⟨ε, hA.step (γ' := fun _ => 0) (hO ε) hn ho' hki (fun _ _ _ _ => rfl), by rw [efl_quiet hE]; exact hC⟩
        | true =>
          have hst : ∀ v w1, J (upd (efl eff l) i true) (upd ε i v) w1 → ∃ ε', Agree ops (ks ε') a₀ (l.setIfInBounds i true) (fun _ => 0) (a.put o.dst v) ∧ J (efl eff (l.setIfInBounds i true)) ε' w1 := fun v w1 hJ => by
            have hki := hk (upd ε i v) i hip
            rw [hE, if_pos rfl, upd_same] at hki
            exact ⟨_, (agree_upd hO hn hp hk hip hun' v hA).step (γ' := fun _ => 0) (hO _) hn ho' hki (fun _ _ _ _ => rfl), by rw [efl_eff hE hun]; exact hJ⟩
          rcases hD.efft i o ho' hE _ ε w (by unfold efl; rw [hun', Bool.and_false]) (fun j hj hwj => by unfold efl; rw [hj, waitsQ_spec hdn 6 hwj hedge]; rfl) hC with ⟨v, w1, hx, hJ⟩ | ⟨f, args, hx, hcall⟩
          · rw [hx]
            exact fin K' hK v w1 (hst v w1 hJ)
          · rw [hx]
            refine Calls.mono hcall ?_
            rintro _ w1 ⟨v, rfl, hJ⟩
            exact fin K' hK v w1 (hst v w1 hJ)
end
/-- What the operations tell, ε what those tell that change the memory. -/
def vsOf (eff : Nat → Bool) (vl : List Value) (p : Nat) (ε : Nat → Value) : List Value := (List.range p).map fun i => if eff i = true then ε i else vl.getD i undef
def QOk (P : Program) (F : (Nat → Value) → Act) (eff : Nat → Bool) (J : (Nat → Bool) → (Nat → Value) → World → Prop) : Nat → List Oper → List Value → Prop
  | i, o :: os, v :: vs => (eff i = false → ∀ d ε w, J d ε w → (execOp (F ε).eval o).run P w = .ok (.value v) w) ∧ QOk P F eff J (i + 1) os vs
  | _, _, _ => True
theorem QOk.at {P : Program} {F : (Nat → Value) → Act} {eff : Nat → Bool} {J : (Nat → Bool) → (Nat → Value) → World → Prop} : ∀ {os : List Oper} {vs : List Value} {k : Nat}, QOk P F eff J k os vs → ∀ {i : Nat} {o : Oper} {v : Value}, os[i]? = some o → vs[i]? = some v → eff (k + i) = false → ∀ d ε w, J d ε w → (execOp (F ε).eval o).run P w = .ok (.value v) w
  | [], _, _, _, _, _, _, h, _ => by simp at h
  | _ :: _, [], _, _, _, _, _, _, h => by simp at h
  | _ :: _, _ :: _, _, hD, 0, _, _, ho, hv => by
    simp at ho hv
    subst ho hv
    exact hD.1
  | _ :: os, _ :: vs, k, hD, i + 1, _, _, ho, hv => by
    rw [show k + (i + 1) = k + 1 + i by omega]
    exact QOk.at (os := os) (vs := vs) hD.2 (by simpa using ho) (by simpa using hv)
theorem walk_mixg {P : Program} {Q : Exit → Act → World → Prop} {full : Array Oper} {a : Act} {w : World} {id : Nat} (hm : P.follows .mixedOrders = true) (p : Nat) (vl : List Value) (eff : Nat → Bool) (J : (Nat → Bool) → (Nat → Value) → World → Prop) (pre : List Oper) (F : (Nat → Value) → Act) (hpre : full.toList.take p = pre)
    (hF : ∀ ε, fill (fun _ => 0) 0 pre ((vsOf eff vl p ε).map Kind.quiet) a = F ε) (hlen : vl.length = p) (hor : ∀ ε, (orderly pre.toArray ((vsOf eff vl p ε).map Kind.quiet) a.tmps.size && chained full p && decide (p ≤ full.size) && guarded pre.toArray p) = true)
    (hW : ∀ d ε w, J d ε w → (pre.all fun o => Region.wanted o (yielded pre.toArray (F ε).tmps)) = true) (h0 : ∃ ε, J (fun _ => false) ε w.drew) (hq : QOk P F eff J 0 pre vl)
    (he : ∀ (i : Nat) (o : Oper), pre[i]? = some o → eff i = true → ∀ d ε w, d i = false → (∀ j, eff j = true → waitsQ full 6 o j = true → d j = true) → J d ε w →
      (∃ v w1, (execOp (F ε).eval o).run P w = .ok (.value v) w1 ∧ J (upd d i true) (upd ε i v) w1) ∨
      ∃ f args, (execOp (F ε).eval o).run P w = .ok (.enter f args) w ∧ Calls P f args w fun x w1 => ∃ v, x = .returned v ∧ J (upd d i true) (upd ε i v) w1)
    (hend : ∀ d ε w', (∀ i, i < p → eff i = true → d i = true) → J d ε w' → wpOps P full Q (List.range' p (full.size - p)) (F ε) w') :
    (Code.region id full true).wp P Q a w := by
  subst hpre
  obtain rfl : (fun ε => fill (fun _ => 0) 0 (full.toList.take p) ((vsOf eff vl p ε).map Kind.quiet) a) = F := funext hF
  have hor' := hor
  have h1 : ∀ ε, Orderly (full.toList.take p).toArray ((vsOf eff vl p ε).map Kind.quiet) a.tmps.size := fun ε => by
    have := hor ε
    simp only [Bool.and_eq_true] at this
    exact Orderly.of this.1.1.1
  have h2 := hor (fun _ => undef)
  simp only [Bool.and_eq_true, decide_eq_true_eq] at h2
  obtain ⟨⟨⟨_, h3⟩, h4⟩, h5⟩ := h2
  unfold chained at h3
  simp only [Bool.and_eq_true] at h3
  obtain ⟨h6, h7⟩ := h3
  have hat : ∀ (i : Nat) (o : Oper), (full.toList.take p).toArray[i]? = some o → i < p ∧ (full.toList.take p)[i]? = some o := fun i o ho => by
    have h8 : (full.toList.take p)[i]? = some o := by simpa using ho
    have h9 := (List.getElem?_eq_some_iff.1 h8).1
    rw [List.length_take] at h9
    exact ⟨by omega, h8⟩
  have hsz : (full.toList.take p).toArray.size = p := by simp; omega
  obtain ⟨ε0, h0⟩ := h0
  have hz : efl eff (Array.replicate full.size false) = fun _ => false := by
    funext k
    unfold efl
    rw [none_listed, Bool.and_false]
  refine wp_region_any hm (first_mix (ops := (full.toList.take p).toArray) (ks := fun ε => (vsOf eff vl p ε).map Kind.quiet) (p := p) (eff := eff) (val := fun i => vl.getD i undef) (J := J) h1 rfl hsz h4 (fun i hi => ?_) (fun ho e he hb => ?_) (fun ho hi j hj => ?_) (fun ε i hi => ?_) ⟨fun i o ho d ε w hJ => ?_, fun i o g b ho hg => guarded_spec h5 ho hg, fun i o ho hE d ε w hJ => ?_, fun i o ho hE d ε w hd hdep hJ => he i o (hat i o ho).2 hE d ε w hd hdep hJ⟩ hend full.size _ a w.drew (by simp) (by simp) (by omega) (fun i _ hi => none_listed' hi) (fun _ hl _ _ _ => by rw [none_listed] at hl; cases hl) ⟨ε0, start_agree _ _, by rw [hz]; exact h0⟩)
  · rw [show (full.toList.take p).toArray[i]? = (full.toList.take p)[i]? by simp, List.getElem?_take, if_pos hi]
    simp
  · have := Array.all_eq_true_iff_forall_mem.1 (eachOp_spec h6 ho) e he
    simpa [hb] using this
  · have := eachOp_spec h7 ho
    simp only [Bool.or_eq_true, decide_eq_true_eq] at this
    rcases this with h8 | h8
    · omega
    · exact List.all_eq_true.1 h8 j (List.mem_range.2 hj)
  · rw [List.getElem?_map]
    unfold vsOf
    rw [List.getElem?_map, List.getElem?_range hi]
    rfl
  · exact List.all_eq_true.1 (hW d ε w hJ) o (List.mem_of_getElem? (hat i o ho).2)
  · obtain ⟨hi, ho1⟩ := hat i o ho
    have hv : vl[i]? = some (vl.getD i undef) := by rw [List.getD_eq_getElem?_getD, List.getElem?_eq_getElem (by omega)]; rfl
    exact hq.at ho1 hv (by rw [Nat.zero_add]; exact hE) d ε w hJ
theorem walk_mix {P : Program} {Q : Exit → Act → World → Prop} {full : Array Oper} {a : Act} {w : World} {id : Nat} (hm : P.follows .mixedOrders = true) (p : Nat) (vl : List Value) (eff : Nat → Bool) (J : (Nat → Bool) → (Nat → Value) → World → Prop) (pre : List Oper) (F : (Nat → Value) → Act) (hpre : full.toList.take p = pre)
    (hF : ∀ ε, fill (fun _ => 0) 0 pre ((vsOf eff vl p ε).map Kind.quiet) a = F ε) (hlen : vl.length = p) (hor : ∀ ε, (orderly pre.toArray ((vsOf eff vl p ε).map Kind.quiet) a.tmps.size && chained full p && decide (p ≤ full.size) && guarded pre.toArray p) = true)
    (hW : ∀ ε, (pre.all fun o => Region.wanted o (yielded pre.toArray (F ε).tmps)) = true) (h0 : ∃ ε, J (fun _ => false) ε w.drew) (hq : QOk P F eff J 0 pre vl)
    (he : ∀ (i : Nat) (o : Oper), pre[i]? = some o → eff i = true → ∀ d ε w, d i = false → (∀ j, eff j = true → waitsQ full 6 o j = true → d j = true) → J d ε w →
      (∃ v w1, (execOp (F ε).eval o).run P w = .ok (.value v) w1 ∧ J (upd d i true) (upd ε i v) w1) ∨
      ∃ f args, (execOp (F ε).eval o).run P w = .ok (.enter f args) w ∧ Calls P f args w fun x w1 => ∃ v, x = .returned v ∧ J (upd d i true) (upd ε i v) w1)
    (hend : ∀ d ε w', (∀ i, i < p → eff i = true → d i = true) → J d ε w' → wpOps P full Q (List.range' p (full.size - p)) (F ε) w') :
    (Code.region id full true).wp P Q a w :=
  walk_mixg hm p vl eff J pre F hpre hF hlen hor (fun _ ε _ _ => hW ε) h0 hq he hend
end Rg
end Go.Proofs.YtkkloakcphigeaaDoor
end
section
namespace Go.Proofs.YtkkloakcphigeaaDoor
open Go.RowKit
namespace Rg
namespace Sh
set_option maxRecDepth 100000
theorem wpl_app {P : Program} {w u : World} {ops : Array Oper} {rest : List Oper} {o : Oper} {a : Act} {Q : Exit → Act → World → Prop} (hgd : o.guard = none) (s x : Operand) (t : TypeId)
    (ho : o.op = .call { callee := .builtin .append, args := #[s, x], argTypes := #[t, t] }) (v y v' : Value) (hs : a.eval s = v) (hx : a.eval x = y)
    (hr : (Builtin.append_ #[t, t] o.type #[v, y]).run P w = .ok v' u) (h : wpList P ops Q rest (a.put o.dst v') u) : wpList P ops Q (o :: rest) a w :=
  wpList_plain hgd fun _ hK => by
    unfold Oper.wp execOp
    simp only [ho, resolve, invoke, builtin, Sem.run_bind, Sem.run_pure, Result.andThen_ok, List.map_toArray, List.map_cons, List.map_nil, hs, hx, hr]
    exact hK _ _ h
theorem row_all {w : World} {p : Option Addr} {n g o : Nat} {F : Nat → Nat} (h : Ns w p n g o F) : ∀ j x, (cel (Lz F n n))[j]? = some x → w.cell? ⟨g, o + j, none⟩ = some x := fun j x hj => by
  have hl : j < 6 * n := by
    have := (List.getElem?_eq_some_iff.1 hj).1
    rwa [cel_len, Lz_len] at this
  have hq : j / 6 < n := by omega
  have h1 := cel_word (l := Lz F n n) (i := j / 6) (v := F (j / 6)) (by rw [Lz_get hq, if_pos hq]) (j % 6) (Nat.mod_lt _ (by decide))
  rw [show 6 * (j / 6) + j % 6 = j by omega, hj] at h1
  have h2 := h.c (j / 6) hq (j % 6) (Nat.mod_lt _ (by decide))
  rw [show o + j / 6 * 6 + j % 6 = o + j by omega] at h2
  rw [h2, h1]
/-- A copy of numbers. -/
theorem copy_n {u : World} {p : Option Addr} {n c g o : Nat} {F : Nat → Nat} (hn0 : 0 < n) (hn : n ≤ 1000) (h : Ns u p n g o F) (ty : TypeId) :
    ∃ v c' u2, (Builtin.append_ #[23, 23] ty #[.slice (some ⟨u.heap.size, 0, none⟩) 0 0, .slice p n c]).run Tryd.prog (u.alloc (.cells #[] 33)) = .ok (.slice (some ⟨v, 0, none⟩) n c') u2 ∧ Below u.heap.size u u2 ∧ u.heap.size ≤ v ∧ Mm u2 [(v, cel (Lz F n n))] := by
  obtain ⟨i0, hi, hz0, hz1, hz2⟩ := info_num
  obtain ⟨rfl, hg⟩ := h.p hn0
  have h0 : (u.alloc (.cells #[] 33)).ownsRow u.heap.size 33 6 (.slice (some ⟨u.heap.size, 0, none⟩) 0 0) 0 [] := World.ownsRow_made _ _ 0 (Nat.le_refl _) (by decide) rfl
  have hb0 : Below u.heap.size u (u.alloc (.cells #[] 33)) := (Below.refl _ u).alloc (Nat.le_refl _) _
  obtain ⟨v', w2, h1, h2, h3, _⟩ := run_append_own (P := Tryd.prog) (u.alloc (.cells #[] 33)) u.heap.size 23 ty 33 i0 _ 6 48 Tryd.underlying23 hi hz0 hz1 hz2 rfl (by decide) _ 0 [] h0 ⟨g, o, none⟩ n c (cel (Lz F n n)) (by rw [cel_len, Lz_len, Nat.mul_comm]) (fun j x hj => by
    rw [show (⟨g, o, none⟩ : Addr).add j = ⟨g, o + j, none⟩ by unfold Addr.add; split <;> simp_all]
    exact (hb0.cell (p := ⟨g, o + j, none⟩) hg).trans (row_all h j x hj)) (List.all_eq_true.1 (cel_one _)) (by unfold maxLen; omega) (by omega) (by simp)
  rw [Nat.zero_add, List.nil_append] at h2
  rcases h2.2 with ⟨_, e0⟩ | ⟨v, cap, cur, e1, e2, e3, e4, e5, e6, e7⟩
  · omega
  · subst e1
    refine ⟨v, cap, w2, h1, ⟨h3.os, h3.tape, h3.output, Nat.le_trans hb0.size h3.size, fun k hk => ?_⟩, e2, ⟨fun q hq => ?_, List.pairwise_singleton _ _⟩⟩
    · have hk1 : k < (u.alloc (.cells #[] 33)).heap.size := Nat.lt_of_lt_of_le hk hb0.size
      refine (h3.block k hk1 fun e => ?_).trans (hb0.block k hk)
      simp only [Value.ownBlock, Option.some.injEq] at e
      omega
    · rw [List.mem_singleton.1 hq]
      refine ⟨(Array.getElem?_eq_some_iff.1 e3).1, fun j x hj => ?_⟩
      have hl : j < n * 6 := by
        have := (List.getElem?_eq_some_iff.1 hj).1
        rw [cel_len, Lz_len] at this
        omega
      constructor
      · unfold World.cell?
        dsimp only
        rw [e3]
        show cur[j]? = some x
        rw [← e7, List.getElem?_take, if_pos hl] at hj
        rw [← Array.getElem?_toList]
        exact hj
      · exact World.ownsRow.frozenAt ⟨by rw [cel_len, Lz_len, Nat.mul_comm], .inr ⟨v, cap, cur, rfl, e2, e3, e4, e5, e6, e7⟩⟩ j
theorem some_nil (a : Addr) (n c : Nat) (w : World) : (binOp .eql 23 (.slice (some a) n c) (.slice none 0 0)).run Tryd.prog w = .ok (.bool false) w := by kernel_rfl
set_option maxHeartbeats 2000000 in
theorem clone_ok {k cs sg so : Nat} {Y : Nat → Nat} (hk0 : 0 < k) (hk : k ≤ 1000) (w : World) (hs : Ns w (some ⟨sg, so, none⟩) k sg so Y) :
    Calls Tryd.prog 46 #[.slice (some ⟨sg, so, none⟩) k cs] w fun e w' => ∃ v c', e = .returned (.slice (some ⟨v, 0, none⟩) k c') ∧ Below w.heap.size w w' ∧ w.heap.size ≤ v ∧ Mm w' [(v, cel (Lz Y k k))] := by
  obtain ⟨v, c', u2, h1, h2, h3, h4⟩ := copy_n (c := cs) hk0 hk hs 23
  have H1 : Hid _ := h1
  have H2 : Hid _ := h2
  have H4 : Hid _ := h4
  have hq := some_nil ⟨sg, so, none⟩ k cs w
  clear h1 h2 h4 hs
  go_enter Tryd.func46, Tryd.ntmps46
  go_wp2_with (first
    | (at_builtin
       refine wpl_app rfl _ _ 23 rfl (.slice (some ⟨w.heap.size, 0, none⟩) 0 0) (.slice (some ⟨sg, so, none⟩) k cs) (.slice (some ⟨v, 0, none⟩) k c') rfl rfl H1.out ?_)
    | fail)
  go_ret
  exact ⟨v, c', rfl, H2.out, h3, H4.out⟩
end Sh
end Rg
end Go.Proofs.YtkkloakcphigeaaDoor
end
section
namespace Go.Proofs.YtkkloakcphigeaaDoor
open Go.RowKit
namespace Rg
namespace Sh
set_option maxRecDepth 100000
/-- The differences behind so many spans. -/
def dN (r : Nat) (X Y : Nat → Nat) : Nat → Nat → Nat
  | 0, j => Y j
  | s + 1, j => if j < s + 1 then dN r X Y s j else subm r (dN r X Y s j) (dN r X Y s (j - 1)) * invm r (subm r (X j) (X (j - (s + 1)))) % r
/-- .. in the midst of one: those above i are done. -/
def aN (r : Nat) (X Y : Nat → Nat) (t i j : Nat) : Nat := if i < j then dN r X Y (t + 1) j else dN r X Y t j
def dgN (r : Nat) (X Y : Nat → Nat) : Nat → Nat
  | 0 => 0
  | s + 1 => if dN r X Y (s + 1) (s + 1) = 0 then dgN r X Y s else s + 1
theorem dN_lt {r : Nat} (ok : Ok r) {X Y : Nat → Nat} {k : Nat} (hY : ∀ i, i < k → Y i < r) : ∀ s j, j < k → dN r X Y s j < r
  | 0, j, h => hY j h
  | s + 1, j, h => by
    unfold dN
    split
    · exact dN_lt ok hY s j h
    · exact Nat.mod_lt _ ok.pos
theorem Lz_cg {F G : Nat → Nat} {k : Nat} (h : ∀ j, j < k → F j = G j) : Lz F k k = Lz G k k := by
  unfold Lz
  refine List.map_congr_left fun j hj => ?_
  have hj := List.mem_range.1 hj
  rw [if_pos hj, if_pos hj, h j hj]
theorem Lz_put {F : Nat → Nat} {k i v : Nat} (h : i < k) : (Lz F k k).set i v = Lz (fun j => if j = i then v else F j) k k := by
  apply List.ext_getElem?
  intro j
  by_cases hj : j < k
  · rw [Lz_get hj, if_pos hj]
    by_cases e : j = i
    · subst e
      rw [List.getElem?_set_self (by rw [Lz_len]; exact hj), if_pos rfl]
    · rw [List.getElem?_set_ne (fun x => e x.symm), Lz_get hj, if_pos hj, if_neg e]
  · rw [List.getElem?_eq_none (by rw [List.length_set, Lz_len]; omega), List.getElem?_eq_none (by rw [Lz_len]; omega)]
def dfe : Nat → Bool := fun i => i == 11 || i == 12
/-- What a round's first region knows: a difference, and a block of its own. -/
structure Jd (W : World) (L : List (Nat × List Value)) (V : Nat) (d : Nat → Bool) (ε : Nat → Value) (u : World) : Prop where
  b : Below W.heap.size W u
  m : Mm u L
  e : ε 11 = N V
  a : d 12 = true → ∃ a, ε 12 = PT a 0 ∧ W.heap.size ≤ a ∧ Mm u ((a, zero6) :: L)
theorem Jd.call {W : World} {L : List (Nat × List Value)} {V : Nat} {d : Nat → Bool} {ε : Nat → Value} {u u2 : World} (h : Jd W L V d ε u) (hb : Below u.heap.size u u2) : Jd W L V (upd d 11 true) (upd ε 11 (N V)) u2 :=
  ⟨h.b.trans (hb.mono h.b.size), h.m.below hb, upd_same _ _ _, fun e => by
    rw [upd_ne _ _ (by decide)] at e
    obtain ⟨a, h1, h2, h3⟩ := h.a e
    exact ⟨a, by rw [upd_ne _ _ (by decide)]; exact h1, h2, h3.below hb⟩⟩
theorem Jd.made {W : World} {L : List (Nat × List Value)} {V : Nat} {d : Nat → Bool} {ε : Nat → Value} {u : World} (h : Jd W L V d ε u) : Jd W L V (upd d 12 true) (upd ε 12 (PT u.heap.size 0)) (u.alloc (.cells zero6.toArray 33)) :=
  ⟨h.b.alloc h.b.size _, h.m.below ((Below.refl _ _).alloc (Nat.le_refl _) _), by rw [upd_ne _ _ (by decide)]; exact h.e, fun _ => ⟨u.heap.size, upd_same _ _ _, h.b.size, h.m.alloc zero6 33 rfl⟩⟩
@[reducible] def r8 : Array Oper := #[{ dst := some 28, op := Op.fieldAddr 53 (Operand.tmp 3) 0, type := 0, pos := "field.go:107", after := #[], guard := none }, { dst := some 29, op := Op.load 51 (Operand.tmp 28), type := 51, pos := "field.go:107", after := #[{ on := 0, ground := Ground.data }], guard := none }, { dst := some 30, op := Op.move (Operand.tmp 8), type := 23, pos := "field.go:107", after := #[], guard := none }, { dst := some 31, op := Op.move (Operand.tmp 10), type := 3, pos := "field.go:107", after := #[], guard := none }, { dst := some 32, op := Op.indexAddr 23 (Operand.tmp 30) (Operand.tmp 31), type := 0, pos := "field.go:107", after := #[{ on := 2, ground := Ground.data }, { on := 3, ground := Ground.data }], guard := none }, { dst := some 33, op := Op.load 33 (Operand.tmp 32), type := 33, pos := "field.go:107", after := #[{ on := 4, ground := Ground.data }], guard := none }, { dst := some 34, op := Op.move (Operand.tmp 8), type := 23, pos := "field.go:107", after := #[], guard := none }, { dst := some 35, op := Op.move (Operand.tmp 10), type := 3, pos := "field.go:107", after := #[], guard := none }, { dst := some 36, op := Op.binOp BinOp.sub 3 (Operand.tmp 35) (Operand.const (Value.int Go.IntKind.i64 1)) 3, type := 3, pos := "field.go:107", after := #[{ on := 7, ground := Ground.data }], guard := none }, { dst := some 37, op := Op.indexAddr 23 (Operand.tmp 34) (Operand.tmp 36), type := 0, pos := "field.go:107", after := #[{ on := 6, ground := Ground.data }, { on := 8, ground := Ground.data }], guard := none }, { dst := some 38, op := Op.load 33 (Operand.tmp 37), type := 33, pos := "field.go:107", after := #[{ on := 9, ground := Ground.data }], guard := none }, { dst := some 39, op := Op.call { callee := Callee.value (Operand.func 31), args := #[Operand.tmp 29, Operand.tmp 33, Operand.tmp 38], argTypes := #[51, 33, 33] }, type := 33, pos := "field.go:107", after := #[{ on := 1, ground := Ground.data }, { on := 5, ground := Ground.data }, { on := 10, ground := Ground.data }], guard := none }, { dst := some 11, op := Op.alloc 33, type := 0, pos := "field.go:107", after := #[], guard := none }, { dst := none, op := Op.store 33 (Operand.tmp 11) (Operand.tmp 39), type := 0, pos := "field.go:107", after := #[{ on := 12, ground := Ground.data }, { on := 11, ground := Ground.data }, { on := 11, ground := Ground.chain }, { on := 0, ground := Ground.phase }, { on := 1, ground := Ground.phase }, { on := 2, ground := Ground.phase }, { on := 3, ground := Ground.phase }, { on := 4, ground := Ground.phase }, { on := 5, ground := Ground.phase }, { on := 6, ground := Ground.phase }, { on := 7, ground := Ground.phase }, { on := 8, ground := Ground.phase }, { on := 9, ground := Ground.phase }, { on := 10, ground := Ground.phase }, { on := 11, ground := Ground.phase }, { on := 12, ground := Ground.phase }], guard := none }]
set_option maxHeartbeats 8000000 in
/-- A round's first region: the difference, in a block of its own. -/
theorem deg_r8 {Q : Exit → Act → World → Prop} {g r : Nat} (ok : Ok r) {W : World} {b v k c' i i1 a a1 : Nat} {F : Nat → Nat} {x0 x1 x2 x4 x5 x6 x7 x9 x11 x12 x13 x14 x15 x16 x17 x18 x19 x20 x21 x22 x23 x24 x25 x26 x27 x28 x29 x30 x31 x32 x33 x34 x35 x36 x37 x38 x39 x40 x41 x42 x43 x44 x45 x46 x47 x48 x49 x50 x51 x52 x53 x54 x55 x56 x57 x58 x59 x60 x61 x62 x63 x64 x65 : Value} (hi : i = i1 + 1) (hik : i < k) (hik1 : i1 < k) (hkk : k ≤ 64) (ha : F i = a) (ha1 : F i1 = a1) (hab : a < big) (hab1 : a1 < big) (hm : Mm W [(v, cel (Lz F k k)), (b, [PT g 0]), (g, modc r), (2, dtab)])
    (hend : ∀ (q : Nat) (u : World), Below W.heap.size W u → W.heap.size ≤ q → Mm u ((q, cells6 (subm r a a1)) :: [(v, cel (Lz F k k)), (b, [PT g 0]), (g, modc r), (2, dtab)]) → Q .normal ⟨#[x0, x1, x2, PT b 0, x4, x5, x6, x7, .slice (some ⟨v, 0, none⟩) k c', x9, .int .i64 (i : Int), PT q 0, x12, x13, x14, x15, x16, x17, x18, x19, x20, x21, x22, x23, x24, x25, x26, x27, PT b 0, PT g 0, .slice (some ⟨v, 0, none⟩) k c', .int .i64 (i : Int), PT v (i * 6), N a, .slice (some ⟨v, 0, none⟩) k c', .int .i64 (i : Int), .int .i64 (i1 : Int), PT v (i1 * 6), N a1, N (subm r a a1), x40, x41, x42, x43, x44, x45, x46, x47, x48, x49, x50, x51, x52, x53, x54, x55, x56, x57, x58, x59, x60, x61, x62, x63, x64, x65], []⟩ u) :
    (Code.region 8 r8 true).wp Tryd.prog Q ⟨#[x0, x1, x2, PT b 0, x4, x5, x6, x7, .slice (some ⟨v, 0, none⟩) k c', x9, .int .i64 (i : Int), x11, x12, x13, x14, x15, x16, x17, x18, x19, x20, x21, x22, x23, x24, x25, x26, x27, x28, x29, x30, x31, x32, x33, x34, x35, x36, x37, x38, x39, x40, x41, x42, x43, x44, x45, x46, x47, x48, x49, x50, x51, x52, x53, x54, x55, x56, x57, x58, x59, x60, x61, x62, x63, x64, x65], []⟩ W := by
  have hii : (i : Int) - 1 = (i1 : Int) := by omega
  have hwi : IntKind.i64.wrap (i1 : Int) = (i1 : Int) := by rw [IntKind.wrap_i64]; omega
  have hga : (Lz F k k)[i]? = some a := by rw [Lz_get hik, if_pos hik, ha]
  have hga1 : (Lz F k k)[i1]? = some a1 := by rw [Lz_get hik1, if_pos hik1, ha1]
  have HA : Hid _ := hga
  have HA1 : Hid _ := hga1
  have HEND : Hid _ := hend
  clear hga hga1 ha ha1 hend hi
  refine walk_mix (by kernel_rfl) 13 [PT b 0, PT g 0, .slice (some ⟨v, 0, none⟩) k c', .int .i64 (i : Int), PT v (i * 6), N a, .slice (some ⟨v, 0, none⟩) k c', .int .i64 (i : Int), .int .i64 (i1 : Int), PT v (i1 * 6), N a1, undef, undef] dfe (fun d ε u => Jd W [(v, cel (Lz F k k)), (b, [PT g 0]), (g, modc r), (2, dtab)] (subm r a a1) d ε u) ?prez (fun ε => (⟨#[x0, x1, x2, PT b 0, x4, x5, x6, x7, .slice (some ⟨v, 0, none⟩) k c', x9, .int .i64 (i : Int), ε 12, x12, x13, x14, x15, x16, x17, x18, x19, x20, x21, x22, x23, x24, x25, x26, x27, PT b 0, PT g 0, .slice (some ⟨v, 0, none⟩) k c', .int .i64 (i : Int), PT v (i * 6), N a, .slice (some ⟨v, 0, none⟩) k c', .int .i64 (i : Int), .int .i64 (i1 : Int), PT v (i1 * 6), N a1, ε 11, x40, x41, x42, x43, x44, x45, x46, x47, x48, x49, x50, x51, x52, x53, x54, x55, x56, x57, x58, x59, x60, x61, x62, x63, x64, x65], []⟩ : Act)) ?hprez (fun ε => ?hFz) rfl (fun ε => by kernel_rfl) (fun ε => ?hWz) ?h0z ?hqz ?hez ?hendz
  case hprez => simp only [tk, tz]; rfl
  case hFz =>
    rw [show vsOf dfe [PT b 0, PT g 0, .slice (some ⟨v, 0, none⟩) k c', .int .i64 (i : Int), PT v (i * 6), N a, .slice (some ⟨v, 0, none⟩) k c', .int .i64 (i : Int), .int .i64 (i1 : Int), PT v (i1 * 6), N a1, undef, undef] 13 ε = [PT b 0, PT g 0, .slice (some ⟨v, 0, none⟩) k c', .int .i64 (i : Int), PT v (i * 6), N a, .slice (some ⟨v, 0, none⟩) k c', .int .i64 (i : Int), .int .i64 (i1 : Int), PT v (i1 * 6), N a1, ε 11, ε 12] from rfl]
    simp only [List.map_cons, List.map_nil, fill, Kind.val, Act.put, sa, sz, ss]
  case hWz => kernel_rfl
  case h0z => exact ⟨fun _ => N (subm r a a1), bdr W, hm.below (bdr W), rfl, fun e => by cases e⟩
  case hqz =>
    refine ⟨?_, ?_, ?_, ?_, ?_, ?_, ?_, ?_, ?_, ?_, ?_, ?_, ?_, trivial⟩
    · exact fun _ d ε u hJ => by clear hJ hm; go_simp
    · exact fun _ d ε u hJ => by have c0 := hJ.m.get 1 rfl 0 rfl; clear hJ hm; go_simp
    · exact fun _ d ε u hJ => by clear hJ hm; go_simp
    · exact fun _ d ε u hJ => by clear hJ hm; go_simp
    · exact fun _ d ε u hJ => by clear hJ hm; go_simp
    · exact fun _ d ε u hJ => by have c0 : u.cell? ⟨v, i * 6, none⟩ = _ := row_at hJ.m 0 rfl HA.out 0 (by decide); have c1 : u.cell? ⟨v, i * 6 + 1, none⟩ = _ := row_at hJ.m 0 rfl HA.out 1 (by decide); have c2 : u.cell? ⟨v, i * 6 + 2, none⟩ = _ := row_at hJ.m 0 rfl HA.out 2 (by decide); have c3 : u.cell? ⟨v, i * 6 + 3, none⟩ = _ := row_at hJ.m 0 rfl HA.out 3 (by decide); have c4 : u.cell? ⟨v, i * 6 + 4, none⟩ = _ := row_at hJ.m 0 rfl HA.out 4 (by decide); have c5 : u.cell? ⟨v, i * 6 + 5, none⟩ = _ := row_at hJ.m 0 rfl HA.out 5 (by decide); clear hJ hm; go_simp
    · exact fun _ d ε u hJ => by clear hJ hm; go_simp
    · exact fun _ d ε u hJ => by clear hJ hm; go_simp
    · exact fun _ d ε u hJ => by clear hJ hm; go_simp
    · exact fun _ d ε u hJ => by clear hJ hm; go_simp
    · exact fun _ d ε u hJ => by have c0 : u.cell? ⟨v, i1 * 6, none⟩ = _ := row_at hJ.m 0 rfl HA1.out 0 (by decide); have c1 : u.cell? ⟨v, i1 * 6 + 1, none⟩ = _ := row_at hJ.m 0 rfl HA1.out 1 (by decide); have c2 : u.cell? ⟨v, i1 * 6 + 2, none⟩ = _ := row_at hJ.m 0 rfl HA1.out 2 (by decide); have c3 : u.cell? ⟨v, i1 * 6 + 3, none⟩ = _ := row_at hJ.m 0 rfl HA1.out 3 (by decide); have c4 : u.cell? ⟨v, i1 * 6 + 4, none⟩ = _ := row_at hJ.m 0 rfl HA1.out 4 (by decide); have c5 : u.cell? ⟨v, i1 * 6 + 5, none⟩ = _ := row_at hJ.m 0 rfl HA1.out 5 (by decide); clear hJ hm; go_simp
    · exact fun h => absurd h (by decide)
    · exact fun h => absurd h (by decide)
  case hez =>
    rintro n ok2 hok hn d ε u hd hdep hJ
    have hn2 : n = 11 ∨ n = 12 := by simpa [dfe] using hn
    rcases hn2 with rfl | rfl
    · injection hok with hok
      subst hok
      refine .inr ⟨31, #[PT g 0, N a, N a1], exec_call rfl (fun _ _ => rfl) rfl (by simp only [List.map_toArray, List.map_cons, List.map_nil]; rfl), ?_⟩
      exact Calls.mono (subm_any ok hab hab1 u (hJ.m.tail.tail.sub (by simp))) fun e u2 ⟨he, h2⟩ => ⟨_, he, hJ.call h2⟩
    · injection hok with hok
      subst hok
      exact .inl ⟨_, _, exec_made6 rfl, hJ.made⟩
  case hendz =>
    rintro d ε u hall hJ
    obtain ⟨q, h1, h2, h3⟩ := hJ.a (hall 12 (by decide) rfl)
    have h4 := hJ.e
    have hb := hJ.b
    rw [h1, h4]
    refine rest_store rfl rfl rfl (ex_store6 h3 0 rfl rfl rfl rfl (Nat.le_of_ble_eq_true rfl)) ?_
    refine rest_nil ?_
    exact HEND.out q _ (bl_put hb h2) h2 (h3.put 0 (off := 0) (vs := cells6 (subm r a a1)) rfl (Nat.le_of_ble_eq_true rfl))
end Sh
end Rg
end Go.Proofs.YtkkloakcphigeaaDoor
end
