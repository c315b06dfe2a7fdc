/- Texts of the proof, joined. -/
import Derived.Test.YtahgdighnlekdaaGreatDoorP5
set_option maxRecDepth 100000
section
namespace Go.Proofs.YtahgdighnlekdaaGreatDoor
open Go.RowKit
namespace Rg
namespace Lt
abbrev kd (p r c x y : Nat) : List Value := [U p, U r, U c, U x, U y, .bool false]
abbrev pt (x y : Nat) (z : Bool) : List Value := [U x, U y, .bool z]
abbrev tr (x y z : Nat) : List Value := [U x, U y, U z]
abbrev l2 (a b : Nat) : List Value := [U a, U b]
theorem ex_loadT {ρ : Operand → Value} {o : Oper} {x : Operand} {g off n : Nat} {t : TypeId} {cs ms : List Value} {w : World} {l : List (Nat × List Value)} (h : Mm w l) (q : Nat) (hk : l[q]? = some (g, cs)) (ho : o.op = .load t x) (hx : ρ x = PT g off) (ha : ∀ w, (isAgg t).run Tryz.prog w = .ok true w) (hs : ∀ w, (sizeOf t).run Tryz.prog w = .ok n w) (hc : (cs.drop off).take n = ms) (hl : ms.length = n) :
  (execOp ρ o).run Tryz.prog w = .ok (.value (.agg ms.toArray)) w := by
 have hm := List.mem_of_getElem? hk
 have hcell := run_loadCells_list (P := Tryz.prog) (w := w) ⟨g, off, none⟩ ms (fun j v hv => by
  have e : cs[off + j]? = some v := by
   rw [← List.getElem?_drop]
   rw [← hc, List.getElem?_take] at hv
   split at hv
   ·exact hv
   ·cases hv
  have e2 := h.cell hm e
  rw [show (⟨g, off, none⟩ : Addr).add j = ⟨g, off + j, none⟩ from by unfold Addr.add; split <;> simp_all]
  exact e2)
 rw [hl] at hcell
 have hf : (loadCellsFrom ⟨g, off, none⟩ 0 n #[]).run Tryz.prog w = .ok ms.toArray w := hcell
 clear hcell hc hk hm h
 simp only [execOp, ho, hx]
 go_simp
theorem ex_loadC {ρ : Operand → Value} {o : Oper} {x : Operand} {g off : Nat} {t : TypeId} {v : Value} {cs : List Value} {w : World} {l : List (Nat × List Value)} (h : Mm w l) (k : Nat) (hk : l[k]? = some (g, cs)) (ho : o.op = .load t x) (hx : ρ x = PT g off) (ha : ∀ w, (isAgg t).run Tryz.prog w = .ok false w) (hc : cs[off]? = some v) :
  (execOp ρ o).run Tryz.prog w = .ok (.value v) w := by
 have c0 := h.cell (List.mem_of_getElem? hk) hc
 clear h hk hc
 simp only [execOp, ho, hx]
 go_simp
theorem lC {ρ : Operand → Value} {o : Oper} {x : Operand} {g off : Nat} {t : TypeId} {v : Value} {cs : List Value} {w : World} {l : List (Nat × List Value)} (h : Mm w l) (k : Nat) (ha : ∀ w, (isAgg t).run Tryz.prog w = .ok false w) (hk : l[k]? = some (g, cs) := by exact rfl) (ho : o.op = .load t x := by exact rfl) (hx : ρ x = PT g off := by exact rfl) (hc : cs[off]? = some v := by exact rfl) : (execOp ρ o).run Tryz.prog w = .ok (.value v) w := ex_loadC h k hk ho hx ha hc
theorem lT {ρ : Operand → Value} {o : Oper} {x : Operand} {g off n : Nat} {t : TypeId} {cs ms : List Value} {w : World} {l : List (Nat × List Value)} (h : Mm w l) (q : Nat) (ha : ∀ w, (isAgg t).run Tryz.prog w = .ok true w) (hs : ∀ w, (sizeOf t).run Tryz.prog w = .ok n w) (hk : l[q]? = some (g, cs) := by exact rfl) (ho : o.op = .load t x := by exact rfl) (hx : ρ x = PT g off := by exact rfl) (hc : (cs.drop off).take n = ms := by exact rfl) (hl : ms.length = n := by exact rfl) : (execOp ρ o).run Tryz.prog w = .ok (.value (.agg ms.toArray)) w := ex_loadT h q hk ho hx ha hs hc hl
theorem bC {ops : Array Oper} {L : List (Nat × List Value)} {F : (Nat → Nat) → Act} {o : Oper} {os : List Oper} {ks : List Kind} {x : Operand} {g off : Nat} {cs : List Value} {t : TypeId} {v : Value} (k : Nat) (ha : ∀ w, (isAgg t).run Tryz.prog w = .ok false w) (hs : AllOk Tryz.prog ops (fun w' => Mm w' L) F os ks) (hw : ∀ J, Region.wanted o (yielded ops (F J).tmps) = true := by exact fun _ => rfl) (hk : L[k]? = some (g, cs) := by exact rfl) (ho : o.op = .load t x := by exact rfl) (hx : ∀ J, (F J).eval x = PT g off := by exact fun _ => rfl) (hc : cs[off]? = some v := by exact rfl) : AllOk Tryz.prog ops (fun w' => Mm w' L) F (o :: os) (.q v :: ks) := ⟨fun J => ⟨hw J, fun _ h => ex_loadC h k hk ho (hx J) ha hc⟩, hs⟩
theorem bT {ops : Array Oper} {L : List (Nat × List Value)} {F : (Nat → Nat) → Act} {o : Oper} {os : List Oper} {ks : List Kind} {x : Operand} {g off : Nat} {cs : List Value} {n : Nat} {t : TypeId} {ms : List Value} (k : Nat) (ha : ∀ w, (isAgg t).run Tryz.prog w = .ok true w) (hz : ∀ w, (sizeOf t).run Tryz.prog w = .ok n w) (hs : AllOk Tryz.prog ops (fun w' => Mm w' L) F os ks) (hw : ∀ J, Region.wanted o (yielded ops (F J).tmps) = true := by exact fun _ => rfl) (hk : L[k]? = some (g, cs) := by exact rfl) (ho : o.op = .load t x := by exact rfl) (hx : ∀ J, (F J).eval x = PT g off := by exact fun _ => rfl) (hc : (cs.drop off).take n = ms := by exact rfl) (hl : ms.length = n := by exact rfl) : AllOk Tryz.prog ops (fun w' => Mm w' L) F (o :: os) (.q (.agg ms.toArray) :: ks) := ⟨fun J => ⟨hw J, fun _ h => ex_loadT h k hk ho (hx J) ha hz hc hl⟩, hs⟩
theorem zN {ρ : Operand → Value} {o : Oper} {x : Operand} {t : TypeId} {cs : List Value} {w : World} (ho : o.op = .box t x) (hx : ρ x = .agg cs.toArray) :
  (execOp ρ o).run Tryz.prog w = .ok (.value (.pointer (some ⟨w.heap.size, 0, none⟩))) (w.alloc (.cells cs.toArray t)) := by
 simp only [execOp, ho, hx]
 go_simp
theorem ex_storeT {ρ : Operand → Value} {o : Oper} {x y : Operand} {g off : Nat} {t : TypeId} {cs vs : List Value} {w : World} {l : List (Nat × List Value)} (h : Mm w l) (q : Nat) (hk : l[q]? = some (g, cs)) (ho : o.op = .store t x y) (hx : ρ x = PT g off) (hy : ρ y = .agg vs.toArray) (hs : ∀ w, (sizeOf t).run Tryz.prog w = .ok vs.length w) (h1 : vs.all Value.oneCell' = true) (hb : off + vs.length ≤ cs.length) :
  (execOp ρ o).run Tryz.prog w = .ok .skip (w.setCells g off vs) := by
 have hm := List.mem_of_getElem? hk
 have hq : ∀ j, j < vs.length → ∃ u, cs[off + j]? = some u := fun j hj => ⟨_, List.getElem?_eq_getElem (by omega)⟩
 have hst := run_storeCells_cells (P := Tryz.prog) g off vs 0 w (fun j hj => by
  obtain ⟨u, hu⟩ := hq j hj
  rw [show off + 0 + j = off + j by omega, h.cell hm hu]; rfl) (fun j hj => by
  obtain ⟨u, hu⟩ := hq j hj
  rw [show off + 0 + j = off + j by omega]; exact h.free hm hu) (List.all_eq_true.1 h1)
 clear h hm hq hb hk
 simp only [execOp, ho, hx, hy]
 go_simp
theorem var_T {g n : Nat} {t : TypeId} {cs : List Value} {w : World} {l : List (Nat × List Value)} (h : Mm w l) (q : Nat) (hk : l[q]? = some (g, cs)) (ha : ∀ w, (isAgg t).run Tryz.prog w = .ok true w) (hs : ∀ w, (sizeOf t).run Tryz.prog w = .ok n w) (hn : cs.length = n) : (loadVar t ⟨g, 0, none⟩).run Tryz.prog w = .ok (.agg cs.toArray) w := by
 have hm := List.mem_of_getElem? hk
 have hcell := run_loadCells_list (P := Tryz.prog) (w := w) ⟨g, 0, none⟩ cs (fun j v hv => by
  have e2 := h.cell hm hv
  rw [show (⟨g, 0, none⟩ : Addr).add j = ⟨g, j, none⟩ from by unfold Addr.add; split <;> simp_all]
  exact e2)
 rw [hn] at hcell
 have hf : (loadCellsFrom ⟨g, 0, none⟩ 0 n #[]).run Tryz.prog w = .ok cs.toArray w := hcell
 clear hcell h hk hm
 simp only [loadVar]
 go_simp
theorem ex_laidT {ρ : Operand → Value} {o : Oper} {x y : Operand} {g : Nat} {t : TypeId} {zs cs : List Value} {w : World} (hb : Blk w g zs) (hl : zs.length = cs.length) (h1 : cs.all Value.oneCell' = true) (hs : ∀ w, (sizeOf t).run Tryz.prog w = .ok cs.length w) (ho : o.op = .store t x y) (hx : ρ x = .pointer (some ⟨g, 0, none⟩)) (hy : ρ y = .agg cs.toArray) :
  (execOp ρ o).run Tryz.prog w = .ok .skip (w.setCells g 0 cs) := by
 have hk : ∀ k, k < cs.length → ∃ u, zs[k]? = some u := fun k hk => ⟨_, List.getElem?_eq_getElem (by omega)⟩
 have hst := run_storeCells_cells (P := Tryz.prog) g 0 cs 0 w (fun k hkl => by
  obtain ⟨u, hu⟩ := hk k hkl
  rw [show 0 + 0 + k = k by omega, (hb k u hu).1]; rfl) (fun k hkl => by
  obtain ⟨u, hu⟩ := hk k hkl
  rw [show 0 + 0 + k = k by omega]; exact (hb k u hu).2) (List.all_eq_true.1 h1)
 clear hb hk h1 hl
 simp only [execOp, ho, hx, hy]
 go_simp
theorem ex_made72 {ρ : Operand → Value} {o : Oper} {w : World} (ho : o.op = .alloc 78) :
  (execOp ρ o).run Tryz.prog w = .ok (.value (.pointer (some ⟨w.heap.size, 0, none⟩))) (w.alloc (.cells (kd 0 0 0 0 0).toArray 78)) := by
 simp only [execOp, ho]
 go_simp
 rfl
theorem ex_made25 {ρ : Operand → Value} {o : Oper} {w : World} (ho : o.op = .alloc 35) :
  (execOp ρ o).run Tryz.prog w = .ok (.value (.pointer (some ⟨w.heap.size, 0, none⟩))) (w.alloc (.cells (pt 0 0 false).toArray 35)) := by
 simp only [execOp, ho]
 go_simp
 rfl
theorem ex_made77 {ρ : Operand → Value} {o : Oper} {w : World} (ho : o.op = .alloc 93) :
  (execOp ρ o).run Tryz.prog w = .ok (.value (.pointer (some ⟨w.heap.size, 0, none⟩))) (w.alloc (.cells (tr 0 0 0).toArray 93)) := by
 simp only [execOp, ho]
 go_simp
 rfl
theorem ex_build25_2 {ρ : Operand → Value} {o : Oper} {x2 : Operand} {b2 : Bool} {w : World} (ho : o.op = .build 35 #[(2, x2)]) (h2 : ρ x2 = .bool b2) : (execOp ρ o).run Tryz.prog w = .ok (.value (.agg (pt 0 0 b2).toArray)) w := by
 simp only [execOp, ho]
 go_simp
theorem ex_build25_01 {ρ : Operand → Value} {o : Oper} {x0 x1 : Operand} {a0 : Nat} {a1 : Nat} {w : World} (ho : o.op = .build 35 #[(0, x0), (1, x1)]) (h0 : ρ x0 = U a0) (h1 : ρ x1 = U a1) : (execOp ρ o).run Tryz.prog w = .ok (.value (.agg (pt a0 a1 false).toArray)) w := by
 simp only [execOp, ho]
 go_simp
theorem ex_build77_012 {ρ : Operand → Value} {o : Oper} {x0 x1 x2 : Operand} {a0 : Nat} {a1 : Nat} {a2 : Nat} {w : World} (ho : o.op = .build 93 #[(0, x0), (1, x1), (2, x2)]) (h0 : ρ x0 = U a0) (h1 : ρ x1 = U a1) (h2 : ρ x2 = U a2) : (execOp ρ o).run Tryz.prog w = .ok (.value (.agg (tr a0 a1 a2).toArray)) w := by
 simp only [execOp, ho]
 go_simp
theorem ex_build72_ {ρ : Operand → Value} {o : Oper}  {w : World} (ho : o.op = .build 78 #[]) : (execOp ρ o).run Tryz.prog w = .ok (.value (.agg (kd 0 0 0 0 0).toArray)) w := by
 simp only [execOp, ho]
 go_simp
theorem ex_build72_0123 {ρ : Operand → Value} {o : Oper} {x0 x1 x2 x3 : Operand} {a0 : Nat} {a1 : Nat} {a2 : Nat} {gx gy : Nat} {w : World} (ho : o.op = .build 78 #[(0, x0), (1, x1), (2, x2), (3, x3)]) (h0 : ρ x0 = U a0) (h1 : ρ x1 = U a1) (h2 : ρ x2 = U a2) (h3 : ρ x3 = V (pt gx gy false)) : (execOp ρ o).run Tryz.prog w = .ok (.value (.agg (kd a0 a1 a2 gx gy).toArray)) w := by
 simp only [execOp, ho]
 go_simp
theorem ex_field77_2 {ρ : Operand → Value} {o : Oper} {x : Operand} {a b c : Nat} {w : World} (ho : o.op = .field 93 x 2) (hx : ρ x = V (tr a b c)) (_h : (0 : Nat) = 0) : (execOp ρ o).run Tryz.prog w = .ok (.value (U c)) w := by
 simp only [execOp, ho, hx]
 kernel_rfl
theorem run_eqB (D : Nat) (a b : Bool) (w : World) : (Op.equalIn (D + 1) 4 (.bool a) (.bool b)).run Tryz.prog w = .ok (a == b) w := by
 simp only [Op.equalIn, Sem.run_bind, run_underlying (show Tryz.prog.underlying 4 = some .bool by kernel_rfl), Result.andThen_ok]
 rfl
theorem run_eqU (D a b : Nat) (w : World) : (Op.equalIn (D + 1) 22 (U a) (U b)).run Tryz.prog w = .ok (decide (a = b)) w := by
 rw [run_equalIn_int w D 22 .u64 .u64 a b (by kernel_rfl)]
 by_cases h : a = b <;> simp [h] <;> omega
theorem run_eqP' (D a b a' b' : Nat) (z z' p0 p1 p2 : Bool) (hi0 : ∀ w, (Op.equalIn D 22 (U a) (U a')).run Tryz.prog w = .ok p0 w) (hi1 : ∀ w, (Op.equalIn D 22 (U b) (U b')).run Tryz.prog w = .ok p1 w) (hi2 : ∀ w, (Op.equalIn D 4 (.bool z) (.bool z')).run Tryz.prog w = .ok p2 w) (w : World) :
  (Op.equalIn (D + 1) 35 (V (pt a b z)) (V (pt a' b' z'))).run Tryz.prog w = .ok (p0 && (p1 && p2)) w := by
 have hst : Tryz.prog.stoodInHeld 35 = false := by kernel_rfl
 have hp : ∀ (a b : Nat) (z : Bool) (w : World), (Go.part 22 (pt a b z).toArray 0).run Tryz.prog w = .ok (U a) w ∧ (Go.part 22 (pt a b z).toArray 1).run Tryz.prog w = .ok (U b) w ∧ (Go.part 4 (pt a b z).toArray 2).run Tryz.prog w = .ok (.bool z) w := fun a b z w => ⟨by kernel_rfl, by kernel_rfl, by kernel_rfl⟩
 have q1 := hp a b z
 have q2 := hp a' b' z'
 clear hp
 unfold V
 generalize (pt a b z).toArray = xs at *
 generalize (pt a' b' z').toArray = ys at *
 simp only [Op.equalIn, Sem.run_bind, run_underlying Tryz.underlying35, Result.andThen_ok]
 simp [hst, hi0, hi1, hi2, q1, q2]
 cases p0 <;> cases p1 <;> cases p2 <;> simp
theorem run_eqP (a b a' b' : Nat) (z z' : Bool) (w : World) : (Op.equalIn 10000 35 (V (pt a b z)) (V (pt a' b' z'))).run Tryz.prog w = .ok (decide (a = a') && (decide (b = b') && (z == z'))) w :=
 run_eqP' 9999 a b a' b' z z' _ _ _ (fun w => run_eqU 9998 a a' w) (fun w => run_eqU 9998 b b' w) (fun w => run_eqB 9998 z z' w) w
theorem exec_eqT25 {ρ : Operand → Value} {o : Oper} {x y : Operand} {v v' : Array Value} {t : Bool} {w : World} (he : ∀ w, (Op.equalIn 10000 35 (.agg v) (.agg v')).run Tryz.prog w = .ok t w) (ho : o.op = .binOp .eql 35 x y 35) (hx : ρ x = .agg v) (hy : ρ y = .agg v') :
  (execOp ρ o).run Tryz.prog w = .ok (.value (.bool t)) w := by
 simp only [execOp, ho, hx, hy]
 clear hx hy
 go_simp
end Lt
end Rg
end Go.Proofs.YtahgdighnlekdaaGreatDoor
end
section
namespace Go.Proofs.YtahgdighnlekdaaGreatDoor
open Go.RowKit
namespace Rg
namespace Lt
/-- What is known of a prime here. -/
structure Pr (p : Nat) : Prop where
 lo : 8 < p
 hi : p < 1152921504606846976
def tm (p a b : Nat) : Nat := a * b % p
def pl (p a b : Nat) : Nat := (a + b) % p
def mi (p a b : Nat) : Nat := (a + p - b) % p
theorem tm_lt {p a b : Nat} (hp : Pr p) : tm p a b < p := Nat.mod_lt _ (by have := hp.lo; omega)
theorem pl_lt {p a b : Nat} (hp : Pr p) : pl p a b < p := Nat.mod_lt _ (by have := hp.lo; omega)
theorem mi_lt {p a b : Nat} (hp : Pr p) : mi p a b < p := Nat.mod_lt _ (by have := hp.lo; omega)
theorem zero_lt {p : Nat} (hp : Pr p) : 0 < p := by have := hp.lo; omega
theorem one_lt {p : Nat} (hp : Pr p) : 1 < p := by have := hp.lo; omega
theorem pl_small {p a b : Nat} (h : a + b < p) : pl p a b = a + b := Nat.mod_eq_of_lt h
theorem pl_great {p a b : Nat} (ha : a < p) (hb : b < p) (h : ¬ a + b < p) : pl p a b = a + b - p := by
 unfold pl
 rw [Nat.mod_eq_sub_mod (by omega), Nat.mod_eq_of_lt (by omega)]
theorem mi_small {p a b : Nat} (ha : a < p) (h : b ≤ a) : mi p a b = a - b := by
 unfold mi
 rw [show a + p - b = (a - b) + p by omega, Nat.add_mod_right, Nat.mod_eq_of_lt (by omega)]
theorem mi_great {p a b : Nat} (hb : b < p) (h : ¬ b ≤ a) : mi p a b = a + p - b := Nat.mod_eq_of_lt (by omega)
theorem below_drew {w w' : World} (h : ∃ n, w' = w.drewN n) : Below w.heap.size w w' := by
 obtain ⟨n, rfl⟩ := h
 exact below_drewN (Below.refl _ _) n
theorem call67 : CO 67 := by intro args w; go_simp
theorem call79 : CO 79 := by intro args w; go_simp
theorem call95 : CO 95 := by intro args w; go_simp
theorem call106 : CO 106 := by intro args w; go_simp
section
variable {p r c gx gy : Nat}
theorem plus_lo (hp : Pr p) (a b : Nat) (_ha : a < p) (_hb : b < p) (h : a + b < p) (w : World) :
  Calls Tryz.prog 79 #[.agg (kd p r c gx gy).toArray, U a, U b] w (Rt w (U (a + b))) := by
 have H0 : Hid (_ ∧ _) := ⟨Mm.nil w, Below.refl w.heap.size w⟩
 go_enter Tryz.func79, Tryz.ntmps79
 refine wp_seq ?_
 refine zD 2 [.made (kd p r c gx gy) 78, .q (U 0)] (sB H0) ?ho1 ?he1
 case ho1 => exact am (zN rfl rfl) (ar trivial)
 intro J w1 l hM hl
 have H1 : Hid (Mm w1 [(J 0, kd p r c gx gy)] ∧ _) := wB H0 hM hl [0]
 have o1_0 := vB H0 hM hl 0
 clear hM hl l
 generalize J 0 = J1_0 at H1 o1_0 ⊢
 clear J
 refine rN (wp_seq (wp_seq ?_))
 refine zB 4 [.q (U a), .q (U b), .q (U (a + b)), .q (U (a + b))] H1 ?ho2 ?he2
 case ho2 => exact ar (ar (ak (fun J => ⟨rfl, fun w' _ => ex_addU (by have := hp.hi; omega) rfl rfl rfl⟩) (ar trivial)))
 intro _ w2 H2
 clear H1
 refine rN (wp_seq ?_)
 refine zB 4 [.q (U (a + b)), .q (PT J1_0 0), .q (U p), .q (.bool true)] H2 ?ho3 ?he3
 case ho3 => exact ar (ag (bC 0 Ai22 (ak (fun J => ⟨rfl, fun w' _ => ex_ltU rfl rfl rfl (decide_eq_true (h))⟩) trivial)))
 intro _ w3 H3
 clear H2
 refine rN (wp_cond_true rfl (wp_seq ?_))
 refine zB 2 [.q (U (a + b)), .q (U (a + b))] H3 ?ho4 ?he4
 case ho4 => exact ar (ar trivial)
 intro _ w4 H4
 clear H3
 refine rN (wp_ret ?_)
 repeat (first | refine zJ ?_ | refine zI ?_)
 refine bodyPost_ret (v := U (a + b)) (by simp [results, Tryz.results79, go_sem, *]) rfl ?_
 exact ⟨rfl, H4.out.2⟩
theorem plus_hi (hp : Pr p) (a b : Nat) (ha : a < p) (hb : b < p) (h : ¬ a + b < p) (w : World) :
  Calls Tryz.prog 79 #[.agg (kd p r c gx gy).toArray, U a, U b] w (Rt w (U (a + b - p))) := by
 have H0 : Hid (_ ∧ _) := ⟨Mm.nil w, Below.refl w.heap.size w⟩
 go_enter Tryz.func79, Tryz.ntmps79
 refine wp_seq ?_
 refine zD 2 [.made (kd p r c gx gy) 78, .q (U 0)] (sB H0) ?ho1 ?he1
 case ho1 => exact am (zN rfl rfl) (ar trivial)
 intro J w1 l hM hl
 have H1 : Hid (Mm w1 [(J 0, kd p r c gx gy)] ∧ _) := wB H0 hM hl [0]
 have o1_0 := vB H0 hM hl 0
 clear hM hl l
 generalize J 0 = J1_0 at H1 o1_0 ⊢
 clear J
 refine rN (wp_seq (wp_seq ?_))
 refine zB 4 [.q (U a), .q (U b), .q (U (a + b)), .q (U (a + b))] H1 ?ho2 ?he2
 case ho2 => exact ar (ar (ak (fun J => ⟨rfl, fun w' _ => ex_addU (by have := hp.hi; omega) rfl rfl rfl⟩) (ar trivial)))
 intro _ w2 H2
 clear H1
 refine rN (wp_seq ?_)
 refine zB 4 [.q (U (a + b)), .q (PT J1_0 0), .q (U p), .q (.bool false)] H2 ?ho3 ?he3
 case ho3 => exact ar (ag (bC 0 Ai22 (ak (fun J => ⟨rfl, fun w' _ => ex_ltU rfl rfl rfl (decide_eq_false (h))⟩) trivial)))
 intro _ w3 H3
 clear H2
 refine rN (wp_cond_false rfl ?_)
 refine wp_skip (zA (wp_seq ?_))
 refine zB 7 [.q (U a), .q (U b), .q (U (a + b)), .q (PT J1_0 0), .q (U p), .q (U (a + b - p)), .q (U (a + b - p))] H3 ?ho4 ?he4
 case ho4 => exact ar (ar (ak (fun J => ⟨rfl, fun w' _ => ex_addU (by have := hp.hi; omega) rfl rfl rfl⟩) (ag (bC 0 Ai22 (ak (fun J => ⟨rfl, fun w' _ => ex_subU (by omega) (by have := hp.hi; omega) rfl rfl rfl⟩) (ar trivial))))))
 intro _ w4 H4
 clear H3
 refine rN (wp_ret ?_)
 repeat (first | refine zJ ?_ | refine zI ?_)
 refine bodyPost_ret (v := U (a + b - p)) (by simp [results, Tryz.results79, go_sem, *]) rfl ?_
 exact ⟨rfl, H4.out.2⟩
theorem plus_any (hp : Pr p) (a b : Nat) (ha : a < p) (hb : b < p) (w : World) : Calls Tryz.prog 79 #[.agg (kd p r c gx gy).toArray, U a, U b] w (Rt w (U (pl p a b))) := by
 by_cases h : a + b < p
 ·rw [pl_small h]; exact plus_lo hp a b ha hb h w
 ·rw [pl_great ha hb h]; exact plus_hi hp a b ha hb h w
theorem minus_lo (hp : Pr p) (a b : Nat) (ha : a < p) (_hb : b < p) (h : b ≤ a) (w : World) :
  Calls Tryz.prog 78 #[.agg (kd p r c gx gy).toArray, U a, U b] w (Rt w (U (a - b))) := by
 have H0 : Hid (_ ∧ _) := ⟨Mm.nil w, Below.refl w.heap.size w⟩
 go_enter Tryz.func78, Tryz.ntmps78
 refine wp_seq ?_
 refine zD 2 [.made (kd p r c gx gy) 78, .q (U 0)] (sB H0) ?ho1 ?he1
 case ho1 => exact am (zN rfl rfl) (ar trivial)
 intro J w1 l hM hl
 have H1 : Hid (Mm w1 [(J 0, kd p r c gx gy)] ∧ _) := wB H0 hM hl [0]
 have o1_0 := vB H0 hM hl 0
 clear hM hl l
 generalize J 0 = J1_0 at H1 o1_0 ⊢
 clear J
 refine rN (wp_seq (wp_seq ?_))
 refine zB 3 [.q (U a), .q (U b), .q (.bool true)] H1 ?ho2 ?he2
 case ho2 => exact ar (ar (ak (fun J => ⟨rfl, fun w' _ => ex_geU rfl rfl rfl (decide_eq_true (h))⟩) trivial))
 intro _ w2 H2
 clear H1
 refine rN (wp_cond_true rfl (wp_seq ?_))
 refine zB 4 [.q (U a), .q (U b), .q (U (a - b)), .q (U (a - b))] H2 ?ho3 ?he3
 case ho3 => exact ar (ar (ak (fun J => ⟨rfl, fun w' _ => ex_subU (h) (by have := hp.hi; omega) rfl rfl rfl⟩) (ar trivial)))
 intro _ w3 H3
 clear H2
 refine rN (wp_ret ?_)
 repeat (first | refine zJ ?_ | refine zI ?_)
 refine bodyPost_ret (v := U (a - b)) (by simp [results, Tryz.results78, go_sem, *]) rfl ?_
 exact ⟨rfl, H3.out.2⟩
theorem minus_hi (hp : Pr p) (a b : Nat) (_ha : a < p) (hb : b < p) (h : ¬ b ≤ a) (w : World) :
  Calls Tryz.prog 78 #[.agg (kd p r c gx gy).toArray, U a, U b] w (Rt w (U (a + p - b))) := by
 have H0 : Hid (_ ∧ _) := ⟨Mm.nil w, Below.refl w.heap.size w⟩
 go_enter Tryz.func78, Tryz.ntmps78
 refine wp_seq ?_
 refine zD 2 [.made (kd p r c gx gy) 78, .q (U 0)] (sB H0) ?ho1 ?he1
 case ho1 => exact am (zN rfl rfl) (ar trivial)
 intro J w1 l hM hl
 have H1 : Hid (Mm w1 [(J 0, kd p r c gx gy)] ∧ _) := wB H0 hM hl [0]
 have o1_0 := vB H0 hM hl 0
 clear hM hl l
 generalize J 0 = J1_0 at H1 o1_0 ⊢
 clear J
 refine rN (wp_seq (wp_seq ?_))
 refine zB 3 [.q (U a), .q (U b), .q (.bool false)] H1 ?ho2 ?he2
 case ho2 => exact ar (ar (ak (fun J => ⟨rfl, fun w' _ => ex_geU rfl rfl rfl (decide_eq_false (h))⟩) trivial))
 intro _ w2 H2
 clear H1
 refine rN (wp_cond_false rfl ?_)
 refine wp_skip (zA (wp_seq ?_))
 refine zB 7 [.q (U a), .q (PT J1_0 0), .q (U p), .q (U (a + p)), .q (U b), .q (U (a + p - b)), .q (U (a + p - b))] H2 ?ho3 ?he3
 case ho3 => exact ar (ag (bC 0 Ai22 (ak (fun J => ⟨rfl, fun w' _ => ex_addU (by have := hp.hi; omega) rfl rfl rfl⟩) (ar (ak (fun J => ⟨rfl, fun w' _ => ex_subU (by omega) (by have := hp.hi; omega) rfl rfl rfl⟩) (ar trivial))))))
 intro _ w3 H3
 clear H2
 refine rN (wp_ret ?_)
 repeat (first | refine zJ ?_ | refine zI ?_)
 refine bodyPost_ret (v := U (a + p - b)) (by simp [results, Tryz.results78, go_sem, *]) rfl ?_
 exact ⟨rfl, H3.out.2⟩
theorem minus_any (hp : Pr p) (a b : Nat) (ha : a < p) (hb : b < p) (w : World) : Calls Tryz.prog 78 #[.agg (kd p r c gx gy).toArray, U a, U b] w (Rt w (U (mi p a b))) := by
 by_cases h : b ≤ a
 ·rw [mi_small ha h]; exact minus_lo hp a b ha hb h w
 ·rw [mi_great hb h]; exact minus_hi hp a b ha hb h w
theorem mul_in (a b : Nat) (ha : a < 18446744073709551616) (hb : b < 18446744073709551616) (w : World) : Calls Tryz.prog 95 #[U a, U b] w (Rt w (.tuple #[U (a * b / 18446744073709551616), U (a * b % 18446744073709551616)])) :=
 Calls.mono (mul64N a b ha hb w) (fun e w' h => ⟨h.1, by rw [h.2]; exact Below.refl _ _⟩)
theorem rem_in (hp : Pr p) (n : Nat) (w : World) : Calls Tryz.prog 106 #[U (n / 18446744073709551616), U (n % 18446744073709551616), U p] w (Rt w (U (n % p))) := by
 have h := rem64_any (n / 18446744073709551616) (n % 18446744073709551616) p (zero_lt hp) (by have := hp.hi; omega) (Nat.mod_lt _ (by decide)) w
 rw [show n / 18446744073709551616 * 18446744073709551616 + n % 18446744073709551616 = n from Nat.div_add_mod' n _] at h
 exact Calls.mono h (fun e w' h => ⟨h.1, below_drew h.2⟩)
theorem zV (hp : Pr p) (a b : Nat) (ha : a < p) (hb : b < p) (w : World) :
  Calls Tryz.prog 67 #[.agg (kd p r c gx gy).toArray, U a, U b] w (Rt w (U (tm p a b))) := by
 have H0 : Hid (_ ∧ _) := ⟨Mm.nil w, Below.refl w.heap.size w⟩
 go_enter Tryz.func67, Tryz.ntmps67
 refine wp_seq ?_
 refine zD 2 [.made (kd p r c gx gy) 78, .q (U 0)] (sB H0) ?ho1 ?he1
 case ho1 => exact am (zN rfl rfl) (ar trivial)
 intro J w1 l hM hl
 have H1 : Hid (Mm w1 [(J 0, kd p r c gx gy)] ∧ _) := wB H0 hM hl [0]
 have o1_0 := vB H0 hM hl 0
 clear hM hl l
 generalize J 0 = J1_0 at H1 o1_0 ⊢
 clear J
 refine rN (wp_seq ?_)
 refine zB 8 [.q (U a), .q (U b), .call (.tuple #[U (a * b / 18446744073709551616), U (a * b % 18446744073709551616)]), .q (.tuple #[U (a * b / 18446744073709551616), U (a * b % 18446744073709551616)]), .q (U (a * b / 18446744073709551616)), .q (U (a * b % 18446744073709551616)), .q (U (a * b / 18446744073709551616)), .q (U (a * b % 18446744073709551616))] H1 ?ho2 ?he2
 case ho2 => exact ar (ar (ac (fun w' h => eC call95 (mul_in a b (by have := hp.hi; omega) (by have := hp.hi; omega) w')) (ar (ag (ag (ar (ar trivial)))))))
 intro _ w2 H2
 clear H1
 refine rN (wp_seq ?_)
 refine zB 6 [.q (U (a * b / 18446744073709551616)), .q (U (a * b % 18446744073709551616)), .q (PT J1_0 0), .q (U p), .call (U (a * b % p)), .q (U (a * b % p))] H2 ?ho3 ?he3
 case ho3 => exact ar (ar (ag (bC 0 Ai22 (ac (fun w' h => eC call106 (rem_in hp (a * b) w')) (ar trivial)))))
 intro _ w3 H3
 clear H2
 refine rN (wp_ret ?_)
 repeat (first | refine zJ ?_ | refine zI ?_)
 refine bodyPost_ret (v := U (a * b % p)) (by simp [results, Tryz.results67, go_sem, *]) rfl ?_
 exact ⟨rfl, H3.out.2⟩
/-- X X X + X -/
def cb (p x : Nat) : Nat := tm p x (pl p (tm p x x) 1)
theorem cube_any (hp : Pr p) (x : Nat) (hx : x < p) (w : World) :
  Calls Tryz.prog 104 #[.agg (kd p r c gx gy).toArray, U x] w (Rt w (U (cb p x))) := by
 have H0 : Hid (_ ∧ _) := ⟨Mm.nil w, Below.refl w.heap.size w⟩
 go_enter Tryz.func104, Tryz.ntmps104
 refine wp_seq ?_
 refine zD 2 [.made (kd p r c gx gy) 78, .q (U 0)] (sB H0) ?ho1 ?he1
 case ho1 => exact am (zN rfl rfl) (ar trivial)
 intro J w1 l hM hl
 have H1 : Hid (Mm w1 [(J 0, kd p r c gx gy)] ∧ _) := wB H0 hM hl [0]
 have o1_0 := vB H0 hM hl 0
 clear hM hl l
 generalize J 0 = J1_0 at H1 o1_0 ⊢
 clear J
 refine rN (wp_seq ?_)
 refine zP 10 [.q (.agg (kd p r c gx gy).toArray), .q (U x), .q (.agg (kd p r c gx gy).toArray), .q (.agg (kd p r c gx gy).toArray), .q (U x), .q (U x), .call (U (tm p x x)), .call (U (pl p (tm p x x) 1)), .call (U (tm p x (pl p (tm p x x) 1))), .q (U (tm p x (pl p (tm p x x) 1)))] H1 ?ho2 ?he2
 case ho2 => exact bT 0 Ai78 As78 (ar (bT 0 Ai78 As78 (bT 0 Ai78 As78 (ar (ar (ac (fun w' h => eC call67 (zV hp x x hx hx w')) (ac (fun w' h => eC call79 (plus_any hp (tm p x x) 1 (tm_lt hp) (one_lt hp) w')) (ac (fun w' h => eC call67 (zV hp x (pl p (tm p x x) 1) hx (pl_lt hp) w')) (ar trivial)))))))))
 intro _ w2 H2
 clear H1
 refine rN (wp_ret ?_)
 repeat (first | refine zJ ?_ | refine zI ?_)
 refine bodyPost_ret (v := U (tm p x (pl p (tm p x x) 1))) (by simp [results, Tryz.results104, go_sem, *]) rfl ?_
 exact ⟨rfl, H2.out.2⟩
end
end Lt
end Rg
end Go.Proofs.YtahgdighnlekdaaGreatDoor
end
section
namespace Go.Proofs.YtahgdighnlekdaaGreatDoor
open Go.RowKit
namespace Rg
namespace Lt
def slotfn (l : List Value) (d : Nat) : Value := l.getD d undef
/-- A number's power, by p. -/
def pw (p a n : Nat) : Nat := a ^ n % p
def rb (p a : Nat) : Nat := pw p a ((p + 1) / 4)
theorem call78 : CO 78 := by intro args w; go_simp
theorem call104 : CO 104 := by intro args w; go_simp
section
variable {p r c gx gy : Nat}
end
end Lt
end Rg
end Go.Proofs.YtahgdighnlekdaaGreatDoor
end
section
namespace Go.Proofs.YtahgdighnlekdaaGreatDoor
open Go.RowKit
namespace Rg
namespace Lt
theorem small_mul {p k a : Nat} (hp : Pr p) (hk : k ≤ 8) (ha : a < p) : k * a < 18446744073709551616 :=
 Nat.lt_of_le_of_lt (Nat.mul_le_mul hk (Nat.le_of_lt ha)) (by have := hp.hi; omega)
/-- Three numbers: a point (x / z z, y / z z z), of z 0 the zero. -/
abbrev T3 : Type := Nat × Nat × Nat
structure Lt3 (p : Nat) (t : T3) : Prop where
 x : t.1 < p
 y : t.2.1 < p
 z : t.2.2 < p
/-- A triple's cells. -/
abbrev tc (t : T3) : List Value := tr t.1 t.2.1 t.2.2
/-- The slope of a point and itself. -/
def tR (p x z : Nat) : Nat := pl p (tm p 3 (tm p x x)) (tm p (tm p z z) (tm p z z))
def tM (p x y : Nat) : Nat := tm p 4 (tm p x (tm p y y))
def tX (p x y z : Nat) : Nat := mi p (tm p (tR p x z) (tR p x z)) (pl p (tM p x y) (tM p x y))
def tY (p x y z : Nat) : Nat := mi p (tm p (tR p x z) (mi p (tM p x y) (tX p x y z))) (tm p 8 (tm p (tm p y y) (tm p y y)))
def twT (p : Nat) (t : T3) : T3 := (tX p t.1 t.2.1 t.2.2, tY p t.1 t.2.1 t.2.2, tm p 2 (tm p t.2.1 t.2.2))
/-- A point and a triple. -/
def jU (p x z X : Nat) : Nat := mi p (tm p X (tm p z z)) x
def jS (p y z Y : Nat) : Nat := mi p (tm p Y (tm p z (tm p z z))) y
def jC (p u : Nat) : Nat := tm p (tm p u u) u
def jM (p x u : Nat) : Nat := tm p x (tm p u u)
def jX (p x u s : Nat) : Nat := mi p (mi p (tm p s s) (jC p u)) (pl p (jM p x u) (jM p x u))
def jY (p x y u s : Nat) : Nat := mi p (tm p s (mi p (jM p x u) (jX p x u s))) (tm p y (jC p u))
def jnT (p : Nat) (t : T3) (X Y : Nat) (Z : Bool) : T3 :=
 if Z = true then t else if t.2.2 = 0 then (X, Y, 1) else if jU p t.1 t.2.2 X = 0 ∧ jS p t.2.1 t.2.2 Y = 0 then twT p t
 else (jX p t.1 (jU p t.1 t.2.2 X) (jS p t.2.1 t.2.2 Y), jY p t.1 t.2.1 (jU p t.1 t.2.2 X) (jS p t.2.1 t.2.2 Y), tm p t.2.2 (jU p t.1 t.2.2 X))
def jnR (p : Nat) (t : T3) (X Y : Nat) (Z : Bool) : Nat :=
 if Z = true then 0 else if t.2.2 = 0 then 0 else if jU p t.1 t.2.2 X = 0 ∧ jS p t.2.1 t.2.2 Y = 0 then tR p t.1 t.2.2 else jS p t.2.1 t.2.2 Y
section
variable {p : Nat} {t : T3} {X Y : Nat}
theorem jnT_0 (h : t.2.2 = 0) : jnT p t X Y false = (X, Y, 1) := by unfold jnT; rw [if_neg Bool.false_ne_true, if_pos h]
theorem jnT_s (h : t.2.2 ≠ 0) (h1 : jU p t.1 t.2.2 X = 0 ∧ jS p t.2.1 t.2.2 Y = 0) : jnT p t X Y false = twT p t := by unfold jnT; rw [if_neg Bool.false_ne_true, if_neg h, if_pos h1]
theorem jnT_g (h : t.2.2 ≠ 0) (h1 : ¬ (jU p t.1 t.2.2 X = 0 ∧ jS p t.2.1 t.2.2 Y = 0)) : jnT p t X Y false = (jX p t.1 (jU p t.1 t.2.2 X) (jS p t.2.1 t.2.2 Y), jY p t.1 t.2.1 (jU p t.1 t.2.2 X) (jS p t.2.1 t.2.2 Y), tm p t.2.2 (jU p t.1 t.2.2 X)) := by unfold jnT; rw [if_neg Bool.false_ne_true, if_neg h, if_neg h1]
theorem jnR_0 (h : t.2.2 = 0) : jnR p t X Y false = 0 := by unfold jnR; rw [if_neg Bool.false_ne_true, if_pos h]
theorem jnR_s (h : t.2.2 ≠ 0) (h1 : jU p t.1 t.2.2 X = 0 ∧ jS p t.2.1 t.2.2 Y = 0) : jnR p t X Y false = tR p t.1 t.2.2 := by unfold jnR; rw [if_neg Bool.false_ne_true, if_neg h, if_pos h1]
theorem jnR_g (h : t.2.2 ≠ 0) (h1 : ¬ (jU p t.1 t.2.2 X = 0 ∧ jS p t.2.1 t.2.2 Y = 0)) : jnR p t X Y false = jS p t.2.1 t.2.2 Y := by unfold jnR; rw [if_neg Bool.false_ne_true, if_neg h, if_neg h1]
end
theorem tw_lt {p : Nat} (hp : Pr p) (t : T3) : Lt3 p (twT p t) := ⟨mi_lt hp, mi_lt hp, tm_lt hp⟩
theorem jn_lt {p : Nat} (hp : Pr p) {t : T3} (ht : Lt3 p t) {X Y : Nat} {Z : Bool} (hX : X < p) (hY : Y < p) : Lt3 p (jnT p t X Y Z) := by
 unfold jnT
 split
 ·exact ht
 ·split
  ·exact ⟨hX, hY, one_lt hp⟩
  ·split
   ·exact tw_lt hp t
   ·exact ⟨mi_lt hp, mi_lt hp, tm_lt hp⟩
/-- A point multiplied. -/
def mtf (p X Y : Nat) (Z : Bool) : Nat → Nat → T3
 | 0, _ => (0, 0, 0)
 | f + 1, n => if n = 0 then (0, 0, 0) else if n % 2 = 1 then jnT p (twT p (mtf p X Y Z f (n / 2))) X Y Z else twT p (mtf p X Y Z f (n / 2))
def mt (p X Y : Nat) (Z : Bool) (n : Nat) : T3 := mtf p X Y Z 64 n
theorem mtf_up (p X Y : Nat) (Z : Bool) : ∀ (f n : Nat), n < 2 ^ f → mtf p X Y Z f n = mtf p X Y Z (f + 1) n
 | 0, n, h => by
  have : n = 0 := by omega
  subst this
  rfl
 | f + 1, n, h => by
  have e := mtf_up p X Y Z f (n / 2) (by rw [Nat.pow_succ] at h; omega)
  rw [mtf, mtf, e]
theorem mt_zero (p X Y : Nat) (Z : Bool) : mt p X Y Z 0 = (0, 0, 0) := rfl
theorem mt_step (p X Y : Nat) (Z : Bool) (n : Nat) (hn : n < 18446744073709551616) (h0 : n ≠ 0) : mt p X Y Z n = if n % 2 = 1 then jnT p (twT p (mt p X Y Z (n / 2))) X Y Z else twT p (mt p X Y Z (n / 2)) := by
 have e := mtf_up p X Y Z 63 (n / 2) (by rw [show 2 ^ 63 = 9223372036854775808 by decide]; omega)
 unfold mt
 rw [mtf, if_neg h0, e]
theorem tw_zero {p : Nat} : (twT p (0, 0, 0)) = (0, 0, 0) := by
 have z : ∀ a, tm p a 0 = 0 := fun a => by unfold tm; rw [Nat.mul_zero, Nat.zero_mod]
 have y : ∀ a, tm p 0 a = 0 := fun a => by unfold tm; rw [Nat.zero_mul, Nat.zero_mod]
 have q : pl p 0 0 = 0 := by unfold pl; rw [Nat.add_zero, Nat.zero_mod]
 have m : mi p 0 0 = 0 := by unfold mi; rw [Nat.zero_add, Nat.sub_zero, Nat.mod_self]
 simp only [twT, tX, tY, tR, tM, z, q, m]
theorem mt_bit {p : Nat} (X Y : Nat) (Z : Bool) (n k : Nat) (hn : n < 18446744073709551616) : mt p X Y Z (n / 2 ^ k) = if n / 2 ^ k % 2 = 1 then jnT p (twT p (mt p X Y Z (n / 2 ^ (k + 1)))) X Y Z else twT p (mt p X Y Z (n / 2 ^ (k + 1))) := by
 have e : n / 2 ^ (k + 1) = n / 2 ^ k / 2 := by rw [Nat.pow_succ, Nat.div_div_eq_div_mul]
 rw [e]
 by_cases h : n / 2 ^ k = 0
 ·rw [h, Nat.zero_div, mt_zero, Nat.zero_mod, if_neg (by decide), tw_zero]
 ·exact mt_step p X Y Z _ (Nat.lt_of_le_of_lt (Nat.div_le_self _ _) hn) h
theorem mtf_lt {p : Nat} (hp : Pr p) {X Y : Nat} {Z : Bool} (hX : X < p) (hY : Y < p) : ∀ (f n : Nat), Lt3 p (mtf p X Y Z f n)
 | 0, _ => ⟨zero_lt hp, zero_lt hp, zero_lt hp⟩
 | f + 1, n => by
  rw [mtf]
  split
  ·exact ⟨zero_lt hp, zero_lt hp, zero_lt hp⟩
  ·split
   ·exact jn_lt hp (tw_lt hp _) hX hY
   ·exact tw_lt hp _
theorem mt_lt {p : Nat} (hp : Pr p) {X Y : Nat} {Z : Bool} (hX : X < p) (hY : Y < p) (n : Nat) : Lt3 p (mt p X Y Z n) := mtf_lt hp hX hY 64 n
/-- Whether it is a point of the curve, of the group. -/
def oc (p X Y : Nat) (Z : Bool) : Bool := if Z = true then decide (X = 0) && decide (Y = 0) else decide (X < p) && (decide (Y < p) && decide (tm p Y Y = cb p X))
def ig (p r X Y : Nat) (Z : Bool) : Bool := oc p X Y Z && decide ((mt p X Y Z r).2.2 = 0)
theorem call50 : CO 50 := by intro args w; go_simp
theorem call69 : CO 69 := by intro args w; go_simp
section
variable {p r c gx gy : Nat}
theorem kindOf_1  (w : World) :
  Calls Tryz.prog 37 #[.int .i64 1] w (Rt w (.tuple #[V (kd 786251 65521 12 9723 164643), .int .i64 0])) := by
 have H0 : Hid (_ ∧ _) := ⟨Mm.nil w, Below.refl w.heap.size w⟩
 go_enter Tryz.func37, Tryz.ntmps37
 refine wp_seq ?_
 refine zD 2 [.made (kd 0 0 0 0 0) 78, .q (.int .i64 0)] (sB H0) ?ho1 ?he1
 case ho1 => exact am (ex_made72 rfl) (ar trivial)
 intro J w1 l hM hl
 have H1 : Hid (Mm w1 [(J 0, kd 0 0 0 0 0)] ∧ _) := wB H0 hM hl [0]
 have o1_0 := vB H0 hM hl 0
 clear hM hl l
 generalize J 0 = J1_0 at H1 o1_0 ⊢
 clear J
 refine rN (wp_seq (wp_seq ?_))
 refine zB 1 [.q (.int .i64 1)] H1 ?ho2 ?he2
 case ho2 => exact ar trivial
 intro _ w2 H2
 clear H1
 refine rN (wp_block (wp_seq ?_))
 refine zB 2 [.q (.bool true), .q (.bool true)] H2 ?ho3 ?he3
 case ho3 => exact ag (ar trivial)
 intro _ w3 H3
 clear H2
 refine rN (wp_cond_true rfl (wp_seq ?_))
 refine zB 2 [.q (.agg (pt 9723 164643 false).toArray), .q (.agg (kd 786251 65521 12 9723 164643).toArray)] H3 ?ho4 ?he4
 case ho4 => exact ak (fun J => ⟨rfl, fun w' _ => ex_build25_01 rfl rfl rfl⟩) (ak (fun J => ⟨rfl, fun w' _ => ex_build72_0123 rfl rfl rfl rfl rfl⟩) trivial)
 intro _ w4 H4
 clear H3
 refine zF (l := [2, 3]) rfl ?_
 refine sG rfl (fun h => ex_storeT (vs := kd 786251 65521 12 9723 164643) h 0 rfl rfl rfl rfl As78 rfl (Nat.le_of_ble_eq_true rfl)) 0 [(_, kd 786251 65521 12 9723 164643)] H4 o1_0 fun w5 H5 => ?_
 clear H4
 refine zG (d := 3) rfl rfl rfl rfl ?_
 simp only [Act.put, sa, sz, ss]
 refine zE (zA (wp_ret ?_))
 repeat (first | refine zJ ?_ | refine zI ?_)
 have hf0 := var_T H5.out.1 0 rfl Ai78 As78 rfl
 refine bodyPost_ret (v := .tuple #[.agg (kd 786251 65521 12 9723 164643).toArray, .int .i64 0]) (by simp [results, Tryz.results37, asAddr, Act.eval, hf0]) rfl ?_
 exact ⟨rfl, H5.out.2⟩
theorem kindOf_2  (w : World) :
  Calls Tryz.prog 37 #[.int .i64 2] w (Rt w (.tuple #[V (kd 1152921504606846223 72057594037927889 16 613740293506734924 666621259561003659), .int .i64 0])) := by
 have H0 : Hid (_ ∧ _) := ⟨Mm.nil w, Below.refl w.heap.size w⟩
 go_enter Tryz.func37, Tryz.ntmps37
 refine wp_seq ?_
 refine zD 2 [.made (kd 0 0 0 0 0) 78, .q (.int .i64 0)] (sB H0) ?ho1 ?he1
 case ho1 => exact am (ex_made72 rfl) (ar trivial)
 intro J w1 l hM hl
 have H1 : Hid (Mm w1 [(J 0, kd 0 0 0 0 0)] ∧ _) := wB H0 hM hl [0]
 have o1_0 := vB H0 hM hl 0
 clear hM hl l
 generalize J 0 = J1_0 at H1 o1_0 ⊢
 clear J
 refine rN (wp_seq (wp_seq ?_))
 refine zB 1 [.q (.int .i64 2)] H1 ?ho2 ?he2
 case ho2 => exact ar trivial
 intro _ w2 H2
 clear H1
 refine rN (wp_block (wp_seq ?_))
 refine zB 2 [.q (.bool false), .q (.bool false)] H2 ?ho3 ?he3
 case ho3 => exact ag (ar trivial)
 intro _ w3 H3
 clear H2
 refine rN (wp_cond_false rfl (wp_seq ?_))
 refine zB 2 [.q (.bool true), .q (.bool true)] H3 ?ho4 ?he4
 case ho4 => exact ag (ar trivial)
 intro _ w4 H4
 clear H3
 refine rN (wp_cond_true rfl (wp_seq ?_))
 refine zB 2 [.q (.agg (pt 613740293506734924 666621259561003659 false).toArray), .q (.agg (kd 1152921504606846223 72057594037927889 16 613740293506734924 666621259561003659).toArray)] H4 ?ho5 ?he5
 case ho5 => exact ak (fun J => ⟨rfl, fun w' _ => ex_build25_01 rfl rfl rfl⟩) (ak (fun J => ⟨rfl, fun w' _ => ex_build72_0123 rfl rfl rfl rfl rfl⟩) trivial)
 intro _ w5 H5
 clear H4
 refine zF (l := [2, 3]) rfl ?_
 refine sG rfl (fun h => ex_storeT (vs := kd 1152921504606846223 72057594037927889 16 613740293506734924 666621259561003659) h 0 rfl rfl rfl rfl As78 rfl (Nat.le_of_ble_eq_true rfl)) 0 [(_, kd 1152921504606846223 72057594037927889 16 613740293506734924 666621259561003659)] H5 o1_0 fun w6 H6 => ?_
 clear H5
 refine zG (d := 3) rfl rfl rfl rfl ?_
 simp only [Act.put, sa, sz, ss]
 refine zE (zA (wp_ret ?_))
 repeat (first | refine zJ ?_ | refine zI ?_)
 have hf0 := var_T H6.out.1 0 rfl Ai78 As78 rfl
 refine bodyPost_ret (v := .tuple #[.agg (kd 1152921504606846223 72057594037927889 16 613740293506734924 666621259561003659).toArray, .int .i64 0]) (by simp [results, Tryz.results37, asAddr, Act.eval, hf0]) rfl ?_
 exact ⟨rfl, H6.out.2⟩
theorem kindOf_no (s : Int) (h1 : s ≠ 1) (h2 : s ≠ 2) (w : World) :
  Calls Tryz.prog 37 #[.int .i64 s] w (Rt w (.tuple #[V (kd 0 0 0 0 0), .int .i64 2])) := by
 have H0 : Hid (_ ∧ _) := ⟨Mm.nil w, Below.refl w.heap.size w⟩
 go_enter Tryz.func37, Tryz.ntmps37
 refine wp_seq ?_
 refine zD 2 [.made (kd 0 0 0 0 0) 78, .q (.int .i64 0)] (sB H0) ?ho1 ?he1
 case ho1 => exact am (ex_made72 rfl) (ar trivial)
 intro J w1 l hM hl
 have H1 : Hid (Mm w1 [(J 0, kd 0 0 0 0 0)] ∧ _) := wB H0 hM hl [0]
 have o1_0 := vB H0 hM hl 0
 clear hM hl l
 generalize J 0 = J1_0 at H1 o1_0 ⊢
 clear J
 refine rN (wp_seq (wp_seq ?_))
 refine zB 1 [.q (.int .i64 s)] H1 ?ho2 ?he2
 case ho2 => exact ar trivial
 intro _ w2 H2
 clear H1
 refine rN (wp_block (wp_seq ?_))
 refine zB 2 [.q (.bool false), .q (.bool false)] H2 ?ho3 ?he3
 case ho3 => exact ag (ar trivial)
 intro _ w3 H3
 clear H2
 refine rN (wp_cond_false rfl (wp_seq ?_))
 refine zB 2 [.q (.bool false), .q (.bool false)] H3 ?ho4 ?he4
 case ho4 => exact ag (ar trivial)
 intro _ w4 H4
 clear H3
 refine rN (wp_cond_false rfl ?_)
 refine wp_skip (zK ?_)
 refine zA (wp_seq ?_)
 refine zB 1 [.q (.agg (kd 0 0 0 0 0).toArray)] H4 ?ho5 ?he5
 case ho5 => exact ak (fun J => ⟨rfl, fun w' _ => ex_build72_ rfl⟩) trivial
 intro _ w5 H5
 clear H4
 refine zF (l := [1, 2]) rfl ?_
 refine sG rfl (fun h => ex_storeT (vs := kd 0 0 0 0 0) h 0 rfl rfl rfl rfl As78 rfl (Nat.le_of_ble_eq_true rfl)) 0 [(_, kd 0 0 0 0 0)] H5 o1_0 fun w6 H6 => ?_
 clear H5
 refine zG (d := 3) rfl rfl rfl rfl ?_
 simp only [Act.put, sa, sz, ss]
 refine zE (zA (wp_ret ?_))
 repeat (first | refine zJ ?_ | refine zI ?_)
 have hf0 := var_T H6.out.1 0 rfl Ai78 As78 rfl
 refine bodyPost_ret (v := .tuple #[.agg (kd 0 0 0 0 0).toArray, .int .i64 2]) (by simp [results, Tryz.results37, asAddr, Act.eval, hf0]) rfl ?_
 exact ⟨rfl, H6.out.2⟩
theorem on_zero (X Y : Nat) (w : World) :
  Calls Tryz.prog 65 #[.agg (kd p r c gx gy).toArray, .agg (pt X Y true).toArray] w (Rt w (.bool (decide (X = 0) && (decide (Y = 0) && (true == true))))) := by
 have H0 : Hid (_ ∧ _) := ⟨Mm.nil w, Below.refl w.heap.size w⟩
 go_enter Tryz.func65, Tryz.ntmps65
 refine wp_seq ?_
 refine zD 3 [.made (kd p r c gx gy) 78, .made (pt X Y true) 35, .q (.bool false)] (sB H0) ?ho1 ?he1
 case ho1 => exact am (zN rfl rfl) (am (zN rfl rfl) (ar trivial))
 intro J w1 l hM hl
 have H1 : Hid (Mm w1 [(J 0, kd p r c gx gy), (J 1, pt X Y true)] ∧ _) := wB H0 hM hl [0, 1]
 have o1_0 := vB H0 hM hl 0
 have o1_1 := vB H0 hM hl 1
 clear hM hl l
 generalize J 0 = J1_0 at H1 o1_0 ⊢
 generalize J 1 = J1_1 at H1 o1_1 ⊢
 clear J
 refine rN (wp_seq (wp_seq ?_))
 refine zB 2 [.q (PT J1_1 2), .q (.bool true)] H1 ?ho2 ?he2
 case ho2 => exact ag (bC 1 Ai4 trivial)
 intro _ w2 H2
 clear H1
 refine rN (wp_cond_true rfl (wp_seq ?_))
 refine zB 4 [.q (.agg (pt X Y true).toArray), .q (.agg (pt 0 0 true).toArray), .q (.bool (decide (X = 0) && (decide (Y = 0) && (true == true)))), .q (.bool (decide (X = 0) && (decide (Y = 0) && (true == true))))] H2 ?ho3 ?he3
 case ho3 => exact bT 1 Ai35 As35 (ak (fun J => ⟨rfl, fun w' _ => ex_build25_2 rfl rfl⟩) (ak (fun J => ⟨rfl, fun w' _ => exec_eqT25 (fun w => run_eqP X Y 0 0 true true w) rfl rfl rfl⟩) (ar trivial)))
 intro _ w3 H3
 clear H2
 refine rN (wp_ret ?_)
 repeat (first | refine zJ ?_ | refine zI ?_)
 refine bodyPost_ret (v := .bool (decide (X = 0) && (decide (Y = 0) && (true == true)))) (by simp [results, Tryz.results65, go_sem, *]) rfl ?_
 exact ⟨rfl, H3.out.2⟩
theorem on_x (X Y : Nat) (hX : ¬ X < p) (w : World) :
  Calls Tryz.prog 65 #[.agg (kd p r c gx gy).toArray, .agg (pt X Y false).toArray] w (Rt w (.bool false)) := by
 have H0 : Hid (_ ∧ _) := ⟨Mm.nil w, Below.refl w.heap.size w⟩
 go_enter Tryz.func65, Tryz.ntmps65
 refine wp_seq ?_
 refine zD 3 [.made (kd p r c gx gy) 78, .made (pt X Y false) 35, .q (.bool false)] (sB H0) ?ho1 ?he1
 case ho1 => exact am (zN rfl rfl) (am (zN rfl rfl) (ar trivial))
 intro J w1 l hM hl
 have H1 : Hid (Mm w1 [(J 0, kd p r c gx gy), (J 1, pt X Y false)] ∧ _) := wB H0 hM hl [0, 1]
 have o1_0 := vB H0 hM hl 0
 have o1_1 := vB H0 hM hl 1
 clear hM hl l
 generalize J 0 = J1_0 at H1 o1_0 ⊢
 generalize J 1 = J1_1 at H1 o1_1 ⊢
 clear J
 refine rN (wp_seq (wp_seq ?_))
 refine zB 2 [.q (PT J1_1 2), .q (.bool false)] H1 ?ho2 ?he2
 case ho2 => exact ag (bC 1 Ai4 trivial)
 intro _ w2 H2
 clear H1
 refine rN (wp_cond_false rfl ?_)
 refine wp_skip (zA (wp_seq ?_))
 refine zP 26 [.q (PT J1_1 0), .q (U X), .q (PT J1_0 0), .q (U p), .q (.bool false), .q (.bool false), .gone, .gone, .gone, .gone, .gone, .q (.bool false), .q (.bool false), .gone, .gone, .gone, .gone, .gone, .gone, .gone, .gone, .gone, .gone, .gone, .q (.bool false), .q (.bool false)] H2 ?ho3 ?he3 (hL := ?hL3)
 case hL3 => exact trivial
 case ho3 => exact ag (bC 1 Ai22 (ag (bC 0 Ai22 (ak (fun J => ⟨rfl, fun w' _ => ex_ltU rfl rfl rfl (decide_eq_false (hX))⟩) (ar (ak (fun J => rfl) (ak (fun J => rfl) (ak (fun J => rfl) (ak (fun J => rfl) (ak (fun J => rfl) (ag (ar (ak (fun J => rfl) (ak (fun J => rfl) (ak (fun J => rfl) (ak (fun J => rfl) (ak (fun J => rfl) (ak (fun J => rfl) (ak (fun J => rfl) (ak (fun J => rfl) (ak (fun J => rfl) (ak (fun J => rfl) (ak (fun J => rfl) (ag (ar trivial)))))))))))))))))))))))))
 intro _ w3 H3
 clear H2
 refine rN (wp_ret ?_)
 repeat (first | refine zJ ?_ | refine zI ?_)
 refine bodyPost_ret (v := .bool false) (by simp [results, Tryz.results65, go_sem, *]) rfl ?_
 exact ⟨rfl, H3.out.2⟩
theorem on_y (X Y : Nat) (hX : X < p) (hY : ¬ Y < p) (w : World) :
  Calls Tryz.prog 65 #[.agg (kd p r c gx gy).toArray, .agg (pt X Y false).toArray] w (Rt w (.bool false)) := by
 have H0 : Hid (_ ∧ _) := ⟨Mm.nil w, Below.refl w.heap.size w⟩
 go_enter Tryz.func65, Tryz.ntmps65
 refine wp_seq ?_
 refine zD 3 [.made (kd p r c gx gy) 78, .made (pt X Y false) 35, .q (.bool false)] (sB H0) ?ho1 ?he1
 case ho1 => exact am (zN rfl rfl) (am (zN rfl rfl) (ar trivial))
 intro J w1 l hM hl
 have H1 : Hid (Mm w1 [(J 0, kd p r c gx gy), (J 1, pt X Y false)] ∧ _) := wB H0 hM hl [0, 1]
 have o1_0 := vB H0 hM hl 0
 have o1_1 := vB H0 hM hl 1
 clear hM hl l
 generalize J 0 = J1_0 at H1 o1_0 ⊢
 generalize J 1 = J1_1 at H1 o1_1 ⊢
 clear J
 refine rN (wp_seq (wp_seq ?_))
 refine zB 2 [.q (PT J1_1 2), .q (.bool false)] H1 ?ho2 ?he2
 case ho2 => exact ag (bC 1 Ai4 trivial)
 intro _ w2 H2
 clear H1
 refine rN (wp_cond_false rfl ?_)
 refine wp_skip (zA (wp_seq ?_))
 refine zP 26 [.q (PT J1_1 0), .q (U X), .q (PT J1_0 0), .q (U p), .q (.bool true), .q (.bool true), .q (PT J1_1 1), .q (U Y), .q (PT J1_0 0), .q (U p), .q (.bool false), .q (.bool false), .q (.bool false), .gone, .gone, .gone, .gone, .gone, .gone, .gone, .gone, .gone, .gone, .gone, .q (.bool false), .q (.bool false)] H2 ?ho3 ?he3 (hL := ?hL3)
 case hL3 => exact trivial
 case ho3 => exact ag (bC 1 Ai22 (ag (bC 0 Ai22 (ak (fun J => ⟨rfl, fun w' _ => ex_ltU rfl rfl rfl (decide_eq_true (hX))⟩) (ar (ag (bC 1 Ai22 (ag (bC 0 Ai22 (ak (fun J => ⟨rfl, fun w' _ => ex_ltU rfl rfl rfl (decide_eq_false (hY))⟩) (ag (ar (ak (fun J => rfl) (ak (fun J => rfl) (ak (fun J => rfl) (ak (fun J => rfl) (ak (fun J => rfl) (ak (fun J => rfl) (ak (fun J => rfl) (ak (fun J => rfl) (ak (fun J => rfl) (ak (fun J => rfl) (ak (fun J => rfl) (ag (ar trivial)))))))))))))))))))))))))
 intro _ w3 H3
 clear H2
 refine rN (wp_ret ?_)
 repeat (first | refine zJ ?_ | refine zI ?_)
 refine bodyPost_ret (v := .bool false) (by simp [results, Tryz.results65, go_sem, *]) rfl ?_
 exact ⟨rfl, H3.out.2⟩
theorem on_in (hp : Pr p) (X Y : Nat) (hX : X < p) (hY : Y < p) (w : World) :
  Calls Tryz.prog 65 #[.agg (kd p r c gx gy).toArray, .agg (pt X Y false).toArray] w (Rt w (.bool (decide (tm p Y Y = cb p X)))) := by
 have H0 : Hid (_ ∧ _) := ⟨Mm.nil w, Below.refl w.heap.size w⟩
 go_enter Tryz.func65, Tryz.ntmps65
 refine wp_seq ?_
 refine zD 3 [.made (kd p r c gx gy) 78, .made (pt X Y false) 35, .q (.bool false)] (sB H0) ?ho1 ?he1
 case ho1 => exact am (zN rfl rfl) (am (zN rfl rfl) (ar trivial))
 intro J w1 l hM hl
 have H1 : Hid (Mm w1 [(J 0, kd p r c gx gy), (J 1, pt X Y false)] ∧ _) := wB H0 hM hl [0, 1]
 have o1_0 := vB H0 hM hl 0
 have o1_1 := vB H0 hM hl 1
 clear hM hl l
 generalize J 0 = J1_0 at H1 o1_0 ⊢
 generalize J 1 = J1_1 at H1 o1_1 ⊢
 clear J
 refine rN (wp_seq (wp_seq ?_))
 refine zB 2 [.q (PT J1_1 2), .q (.bool false)] H1 ?ho2 ?he2
 case ho2 => exact ag (bC 1 Ai4 trivial)
 intro _ w2 H2
 clear H1
 refine rN (wp_cond_false rfl ?_)
 refine wp_skip (zA (wp_seq ?_))
 refine zP 26 [.q (PT J1_1 0), .q (U X), .q (PT J1_0 0), .q (U p), .q (.bool true), .q (.bool true), .q (PT J1_1 1), .q (U Y), .q (PT J1_0 0), .q (U p), .q (.bool true), .q (.bool true), .q (.bool true), .q (.agg (kd p r c gx gy).toArray), .q (PT J1_1 1), .q (U Y), .q (PT J1_1 1), .q (U Y), .call (U (tm p Y Y)), .q (.agg (kd p r c gx gy).toArray), .q (PT J1_1 0), .q (U X), .call (U (cb p X)), .q (.bool (decide (tm p Y Y = cb p X))), .q (.bool (decide (tm p Y Y = cb p X))), .q (.bool (decide (tm p Y Y = cb p X)))] H2 ?ho3 ?he3 (hL := ?hL3)
 case hL3 => exact trivial
 case ho3 => exact ag (bC 1 Ai22 (ag (bC 0 Ai22 (ak (fun J => ⟨rfl, fun w' _ => ex_ltU rfl rfl rfl (decide_eq_true (hX))⟩) (ar (ag (bC 1 Ai22 (ag (bC 0 Ai22 (ak (fun J => ⟨rfl, fun w' _ => ex_ltU rfl rfl rfl (decide_eq_true (hY))⟩) (ag (ar (bT 0 Ai78 As78 (ag (bC 1 Ai22 (ag (bC 1 Ai22 (ac (fun w' h => eC call67 (zV hp Y Y hY hY w')) (bT 0 Ai78 As78 (ag (bC 1 Ai22 (ac (fun w' h => eC call104 (cube_any hp X hX w')) (ak (fun J => ⟨rfl, fun w' _ => ex_eqU rfl rfl rfl rfl⟩) (ag (ar trivial)))))))))))))))))))))))))
 intro _ w3 H3
 clear H2
 refine rN (wp_ret ?_)
 repeat (first | refine zJ ?_ | refine zI ?_)
 refine bodyPost_ret (v := .bool (decide (tm p Y Y = cb p X))) (by simp [results, Tryz.results65, go_sem, *]) rfl ?_
 exact ⟨rfl, H3.out.2⟩
theorem onCurve_any (hp : Pr p) (X Y : Nat) (Z : Bool) (w : World) : Calls Tryz.prog 65 #[.agg (kd p r c gx gy).toArray, .agg (pt X Y Z).toArray] w (Rt w (.bool (oc p X Y Z))) := by
 unfold oc
 cases Z
 ·rw [if_neg (by decide)]
  by_cases hX : X < p
  ·by_cases hY : Y < p
   ·rw [decide_eq_true hX, decide_eq_true hY, Bool.true_and, Bool.true_and]; exact on_in hp X Y hX hY w
   ·rw [decide_eq_false hY, Bool.false_and, Bool.and_false]; exact on_y X Y hX hY w
  ·rw [decide_eq_false hX, Bool.false_and]; exact on_x X Y hX w
 ·rw [if_pos rfl]
  have h := on_zero (p := p) (r := r) (c := c) (gx := gx) (gy := gy) X Y w
  rw [show (true == true) = true from rfl, Bool.and_true] at h
  exact h
theorem tripleOf_f (X Y : Nat) (w : World) :
  Calls Tryz.prog 50 #[.agg (pt X Y false).toArray] w (Rt w (V (tr X Y 1))) := by
 have H0 : Hid (_ ∧ _) := ⟨Mm.nil w, Below.refl w.heap.size w⟩
 go_enter Tryz.func50, Tryz.ntmps50
 refine wp_seq ?_
 refine zD 2 [.made (pt X Y false) 35, .made (tr 0 0 0) 93] (sB H0) ?ho1 ?he1
 case ho1 => exact am (zN rfl rfl) (am (ex_made77 rfl) trivial)
 intro J w1 l hM hl
 have H1 : Hid (Mm w1 [(J 0, pt X Y false), (J 1, tr 0 0 0)] ∧ _) := wB H0 hM hl [0, 1]
 have o1_0 := vB H0 hM hl 0
 have o1_1 := vB H0 hM hl 1
 clear hM hl l
 generalize J 0 = J1_0 at H1 o1_0 ⊢
 generalize J 1 = J1_1 at H1 o1_1 ⊢
 clear J
 refine rN (wp_seq (wp_seq ?_))
 refine zB 2 [.q (PT J1_0 2), .q (.bool false)] H1 ?ho2 ?he2
 case ho2 => exact ag (bC 0 Ai4 trivial)
 intro _ w2 H2
 clear H1
 refine rN (wp_cond_false rfl ?_)
 refine wp_skip (zA (wp_seq ?_))
 refine zB 5 [.q (PT J1_0 0), .q (U X), .q (PT J1_0 1), .q (U Y), .q (.agg (tr X Y 1).toArray)] H2 ?ho3 ?he3
 case ho3 => exact ag (bC 0 Ai22 (ag (bC 0 Ai22 (ak (fun J => ⟨rfl, fun w' _ => ex_build77_012 rfl rfl rfl rfl⟩) trivial))))
 intro _ w3 H3
 clear H2
 refine zF (l := [5]) rfl ?_
 refine sG rfl (fun h => ex_storeT (vs := tr X Y 1) h 1 rfl rfl rfl rfl As93 rfl (Nat.le_of_ble_eq_true rfl)) 1 [_, (_, tr X Y 1)] H3 o1_1 fun w4 H4 => ?_
 clear H3
 refine zE (zA (wp_ret ?_))
 repeat (first | refine zJ ?_ | refine zI ?_)
 have hf0 := var_T H4.out.1 1 rfl Ai93 As93 rfl
 refine bodyPost_ret (v := .agg (tr X Y 1).toArray) (by simp [results, Tryz.results50, asAddr, hf0]) rfl ?_
 exact ⟨rfl, H4.out.2⟩
set_option maxHeartbeats 1000000 in
theorem twice_raw (hp : Pr p) (x y z : Nat) (hx : x < p) (hy : y < p) (hz : z < p) (w : World) :
  Calls Tryz.prog 69 #[.agg (kd p r c gx gy).toArray, .agg (tr x y z).toArray] w (Rt w (.tuple #[V (tr (tX p x y z) (tY p x y z) (tm p 2 (tm p y z))), U (tR p x z)])) := by
 have H0 : Hid (_ ∧ _) := ⟨Mm.nil w, Below.refl w.heap.size w⟩
 go_enter Tryz.func69, Tryz.ntmps69
 refine wp_seq ?_
 refine zD 4 [.made (kd p r c gx gy) 78, .made (tr x y z) 93, .made (tr 0 0 0) 93, .q (U 0)] (sB H0) ?ho1 ?he1
 case ho1 => exact am (zN rfl rfl) (am (zN rfl rfl) (am (ex_made77 rfl) (ar trivial)))
 intro J w1 l hM hl
 have H1 : Hid (Mm w1 [(J 0, kd p r c gx gy), (J 1, tr x y z), (J 2, tr 0 0 0)] ∧ _) := wB H0 hM hl [0, 1, 2]
 have o1_0 := vB H0 hM hl 0
 have o1_1 := vB H0 hM hl 1
 have o1_2 := vB H0 hM hl 2
 clear hM hl l
 generalize J 0 = J1_0 at H1 o1_0 ⊢
 generalize J 1 = J1_1 at H1 o1_1 ⊢
 generalize J 2 = J1_2 at H1 o1_2 ⊢
 clear J
 refine rN (wp_seq ?_)
 refine zP 21 [.q (.agg (kd p r c gx gy).toArray), .q (PT J1_1 0), .q (U x), .q (PT J1_1 0), .q (U x), .call (U (tm p x x)), .q (.agg (kd p r c gx gy).toArray), .q (PT J1_1 1), .q (U y), .q (PT J1_1 1), .q (U y), .call (U (tm p y y)), .q (.agg (kd p r c gx gy).toArray), .q (PT J1_1 2), .q (U z), .q (PT J1_1 2), .q (U z), .call (U (tm p z z)), .q (U (tm p x x)), .q (U (tm p y y)), .q (U (tm p z z))] H1 ?ho2 ?he2
 case ho2 => exact bT 0 Ai78 As78 (ag (bC 1 Ai22 (ag (bC 1 Ai22 (ac (fun w' h => eC call67 (zV hp x x hx hx w')) (bT 0 Ai78 As78 (ag (bC 1 Ai22 (ag (bC 1 Ai22 (ac (fun w' h => eC call67 (zV hp y y hy hy w')) (bT 0 Ai78 As78 (ag (bC 1 Ai22 (ag (bC 1 Ai22 (ac (fun w' h => eC call67 (zV hp z z hz hz w')) (ar (ar (ar trivial))))))))))))))))))))
 intro _ w2 H2
 clear H1
 refine rN (wp_seq ?_)
 refine zP 12 [.q (.agg (kd p r c gx gy).toArray), .q (U (tm p x x)), .q (U (3 * (tm p x x))), .q (PT J1_0 0), .q (U p), .q (U (tm p 3 (tm p x x))), .q (.agg (kd p r c gx gy).toArray), .q (U (tm p z z)), .q (U (tm p z z)), .call (U (tm p (tm p z z) (tm p z z))), .call (U (pl p (tm p 3 (tm p x x)) (tm p (tm p z z) (tm p z z)))), .q (U (pl p (tm p 3 (tm p x x)) (tm p (tm p z z) (tm p z z))))] H2 ?ho3 ?he3
 case ho3 => exact bT 0 Ai78 As78 (ar (ak (fun J => ⟨rfl, fun w' _ => ex_mulU (small_mul hp (by decide) (tm_lt hp)) rfl rfl rfl⟩) (ag (bC 0 Ai22 (ak (fun J => ⟨rfl, fun w' _ => ex_remU (Nat.ne_of_gt (zero_lt hp)) rfl rfl rfl⟩) (bT 0 Ai78 As78 (ar (ar (ac (fun w' h => eC call67 (zV hp (tm p z z) (tm p z z) (tm_lt hp) (tm_lt hp) w')) (ac (fun w' h => eC call79 (plus_any hp (tm p 3 (tm p x x)) (tm p (tm p z z) (tm p z z)) (tm_lt hp) (tm_lt hp) w')) (ar trivial)))))))))))
 intro _ w3 H3
 clear H2
 refine rN (wp_seq ?_)
 refine zP 10 [.q (.agg (kd p r c gx gy).toArray), .q (PT J1_1 0), .q (U x), .q (U (tm p y y)), .call (U (tm p x (tm p y y))), .q (U (4 * (tm p x (tm p y y)))), .q (PT J1_0 0), .q (U p), .q (U (tm p 4 (tm p x (tm p y y)))), .q (U (tm p 4 (tm p x (tm p y y))))] H3 ?ho4 ?he4
 case ho4 => exact bT 0 Ai78 As78 (ag (bC 1 Ai22 (ar (ac (fun w' h => eC call67 (zV hp x (tm p y y) hx (tm_lt hp) w')) (ak (fun J => ⟨rfl, fun w' _ => ex_mulU (small_mul hp (by decide) (tm_lt hp)) rfl rfl rfl⟩) (ag (bC 0 Ai22 (ak (fun J => ⟨rfl, fun w' _ => ex_remU (Nat.ne_of_gt (zero_lt hp)) rfl rfl rfl⟩) (ar trivial)))))))))
 intro _ w4 H4
 clear H3
 refine rN (wp_seq ?_)
 refine zP 11 [.q (.agg (kd p r c gx gy).toArray), .q (.agg (kd p r c gx gy).toArray), .q (U (pl p (tm p 3 (tm p x x)) (tm p (tm p z z) (tm p z z)))), .q (U (pl p (tm p 3 (tm p x x)) (tm p (tm p z z) (tm p z z)))), .call (U (tm p (pl p (tm p 3 (tm p x x)) (tm p (tm p z z) (tm p z z))) (pl p (tm p 3 (tm p x x)) (tm p (tm p z z) (tm p z z))))), .q (.agg (kd p r c gx gy).toArray), .q (U (tm p 4 (tm p x (tm p y y)))), .q (U (tm p 4 (tm p x (tm p y y)))), .call (U (pl p (tm p 4 (tm p x (tm p y y))) (tm p 4 (tm p x (tm p y y))))), .call (U (mi p (tm p (pl p (tm p 3 (tm p x x)) (tm p (tm p z z) (tm p z z))) (pl p (tm p 3 (tm p x x)) (tm p (tm p z z) (tm p z z)))) (pl p (tm p 4 (tm p x (tm p y y))) (tm p 4 (tm p x (tm p y y)))))), .q (U (mi p (tm p (pl p (tm p 3 (tm p x x)) (tm p (tm p z z) (tm p z z))) (pl p (tm p 3 (tm p x x)) (tm p (tm p z z) (tm p z z)))) (pl p (tm p 4 (tm p x (tm p y y))) (tm p 4 (tm p x (tm p y y))))))] H4 ?ho5 ?he5
 case ho5 => exact bT 0 Ai78 As78 (bT 0 Ai78 As78 (ar (ar (ac (fun w' h => eC call67 (zV hp (pl p (tm p 3 (tm p x x)) (tm p (tm p z z) (tm p z z))) (pl p (tm p 3 (tm p x x)) (tm p (tm p z z) (tm p z z))) (pl_lt hp) (pl_lt hp) w')) (bT 0 Ai78 As78 (ar (ar (ac (fun w' h => eC call79 (plus_any hp (tm p 4 (tm p x (tm p y y))) (tm p 4 (tm p x (tm p y y))) (tm_lt hp) (tm_lt hp) w')) (ac (fun w' h => eC call78 (minus_any hp (tm p (pl p (tm p 3 (tm p x x)) (tm p (tm p z z) (tm p z z))) (pl p (tm p 3 (tm p x x)) (tm p (tm p z z) (tm p z z)))) (pl p (tm p 4 (tm p x (tm p y y))) (tm p 4 (tm p x (tm p y y)))) (tm_lt hp) (pl_lt hp) w')) (ar trivial))))))))))
 intro _ w5 H5
 clear H4
 refine rN (wp_seq ?_)
 refine walk_put (by kernel_rfl) 30 [29] [.q (U (mi p (tm p (pl p (tm p 3 (tm p x x)) (tm p (tm p z z) (tm p z z))) (pl p (tm p 3 (tm p x x)) (tm p (tm p z z) (tm p z z)))) (pl p (tm p 4 (tm p x (tm p y y))) (tm p 4 (tm p x (tm p y y)))))), .q (.agg (kd p r c gx gy).toArray), .q (.agg (kd p r c gx gy).toArray), .q (U (pl p (tm p 3 (tm p x x)) (tm p (tm p z z) (tm p z z)))), .q (.agg (kd p r c gx gy).toArray), .q (U (tm p 4 (tm p x (tm p y y)))), .q (U (mi p (tm p (pl p (tm p 3 (tm p x x)) (tm p (tm p z z) (tm p z z))) (pl p (tm p 3 (tm p x x)) (tm p (tm p z z) (tm p z z)))) (pl p (tm p 4 (tm p x (tm p y y))) (tm p 4 (tm p x (tm p y y)))))), .call (U (mi p (tm p 4 (tm p x (tm p y y))) (mi p (tm p (pl p (tm p 3 (tm p x x)) (tm p (tm p z z) (tm p z z))) (pl p (tm p 3 (tm p x x)) (tm p (tm p z z) (tm p z z)))) (pl p (tm p 4 (tm p x (tm p y y))) (tm p 4 (tm p x (tm p y y))))))), .call (U (tm p (pl p (tm p 3 (tm p x x)) (tm p (tm p z z) (tm p z z))) (mi p (tm p 4 (tm p x (tm p y y))) (mi p (tm p (pl p (tm p 3 (tm p x x)) (tm p (tm p z z) (tm p z z))) (pl p (tm p 3 (tm p x x)) (tm p (tm p z z) (tm p z z)))) (pl p (tm p 4 (tm p x (tm p y y))) (tm p 4 (tm p x (tm p y y)))))))), .q (.agg (kd p r c gx gy).toArray), .q (U (tm p y y)), .q (U (tm p y y)), .call (U (tm p (tm p y y) (tm p y y))), .q (U (8 * (tm p (tm p y y) (tm p y y)))), .q (PT J1_0 0), .q (U p), .q (U (tm p 8 (tm p (tm p y y) (tm p y y)))), .call (U (mi p (tm p (pl p (tm p 3 (tm p x x)) (tm p (tm p z z) (tm p z z))) (mi p (tm p 4 (tm p x (tm p y y))) (mi p (tm p (pl p (tm p 3 (tm p x x)) (tm p (tm p z z) (tm p z z))) (pl p (tm p 3 (tm p x x)) (tm p (tm p z z) (tm p z z)))) (pl p (tm p 4 (tm p x (tm p y y))) (tm p 4 (tm p x (tm p y y))))))) (tm p 8 (tm p (tm p y y) (tm p y y))))), .q (.agg (kd p r c gx gy).toArray), .q (PT J1_1 1), .q (U y), .q (PT J1_1 2), .q (U z), .call (U (tm p y z)), .q (U (2 * (tm p y z))), .q (PT J1_0 0), .q (U p), .q (U (tm p 2 (tm p y z))), .q (.agg (tr (mi p (tm p (pl p (tm p 3 (tm p x x)) (tm p (tm p z z) (tm p z z))) (pl p (tm p 3 (tm p x x)) (tm p (tm p z z) (tm p z z)))) (pl p (tm p 4 (tm p x (tm p y y))) (tm p 4 (tm p x (tm p y y))))) (mi p (tm p (pl p (tm p 3 (tm p x x)) (tm p (tm p z z) (tm p z z))) (mi p (tm p 4 (tm p x (tm p y y))) (mi p (tm p (pl p (tm p 3 (tm p x x)) (tm p (tm p z z) (tm p z z))) (pl p (tm p 3 (tm p x x)) (tm p (tm p z z) (tm p z z)))) (pl p (tm p 4 (tm p x (tm p y y))) (tm p 4 (tm p x (tm p y y))))))) (tm p 8 (tm p (tm p y y) (tm p y y)))) (tm p 2 (tm p y z))).toArray), .q (U (pl p (tm p 3 (tm p x x)) (tm p (tm p z z) (tm p z z))))] _ ?pre6 ?F6 _ ?hpre6 (fun J => ?hF6) (by kernel_rfl) rfl ?hL6 (sB H5) ?ho6 ?hla6 ?he6
 case hpre6 => simp only [tk, tz]; rfl
 case hF6 => simp only [fill, Kind.val, Act.put, sa, sz, ss]; rfl
 case hL6 => exact trivial
 case ho6 =>
  refine ar ?_
  refine bT 0 Ai78 As78 ?_
  refine bT 0 Ai78 As78 ?_
  refine ar ?_
  refine bT 0 Ai78 As78 ?_
  refine ar ?_
  refine ar ?_
  refine ak (fun J => ⟨rfl, fun w' h => eC call78 (minus_any hp (tm p 4 (tm p x (tm p y y))) (mi p (tm p (pl p (tm p 3 (tm p x x)) (tm p (tm p z z) (tm p z z))) (pl p (tm p 3 (tm p x x)) (tm p (tm p z z) (tm p z z)))) (pl p (tm p 4 (tm p x (tm p y y))) (tm p 4 (tm p x (tm p y y))))) (tm_lt hp) (mi_lt hp) w')⟩) ?_
  refine ak (fun J => ⟨rfl, fun w' h => eC call67 (zV hp (pl p (tm p 3 (tm p x x)) (tm p (tm p z z) (tm p z z))) (mi p (tm p 4 (tm p x (tm p y y))) (mi p (tm p (pl p (tm p 3 (tm p x x)) (tm p (tm p z z) (tm p z z))) (pl p (tm p 3 (tm p x x)) (tm p (tm p z z) (tm p z z)))) (pl p (tm p 4 (tm p x (tm p y y))) (tm p 4 (tm p x (tm p y y)))))) (pl_lt hp) (mi_lt hp) w')⟩) ?_
  refine bT 0 Ai78 As78 ?_
  refine ar ?_
  refine ar ?_
  refine ak (fun J => ⟨rfl, fun w' h => eC call67 (zV hp (tm p y y) (tm p y y) (tm_lt hp) (tm_lt hp) w')⟩) ?_
  refine ak (fun J => ⟨rfl, fun w' _ => ex_mulU (small_mul hp (by decide) (tm_lt hp)) rfl rfl rfl⟩) ?_
  refine ag ?_
  refine bC 0 Ai22 ?_
  refine ak (fun J => ⟨rfl, fun w' _ => ex_remU (Nat.ne_of_gt (zero_lt hp)) rfl rfl rfl⟩) ?_
  refine ak (fun J => ⟨rfl, fun w' h => eC call78 (minus_any hp (tm p (pl p (tm p 3 (tm p x x)) (tm p (tm p z z) (tm p z z))) (mi p (tm p 4 (tm p x (tm p y y))) (mi p (tm p (pl p (tm p 3 (tm p x x)) (tm p (tm p z z) (tm p z z))) (pl p (tm p 3 (tm p x x)) (tm p (tm p z z) (tm p z z)))) (pl p (tm p 4 (tm p x (tm p y y))) (tm p 4 (tm p x (tm p y y))))))) (tm p 8 (tm p (tm p y y) (tm p y y))) (tm_lt hp) (tm_lt hp) w')⟩) ?_
  refine bT 0 Ai78 As78 ?_
  refine ag ?_
  refine bC 1 Ai22 ?_
  refine ag ?_
  refine bC 1 Ai22 ?_
  refine ak (fun J => ⟨rfl, fun w' h => eC call67 (zV hp y z hy hz w')⟩) ?_
  refine ak (fun J => ⟨rfl, fun w' _ => ex_mulU (small_mul hp (by decide) (tm_lt hp)) rfl rfl rfl⟩) ?_
  refine ag ?_
  refine bC 0 Ai22 ?_
  refine ak (fun J => ⟨rfl, fun w' _ => ex_remU (Nat.ne_of_gt (zero_lt hp)) rfl rfl rfl⟩) ?_
  refine ak (fun J => ⟨rfl, fun w' _ => ex_build77_012 rfl rfl rfl rfl⟩) ?_
  refine ar ?_
  exact trivial
 case hla6 => exact ⟨⟨_, _, rfl, rfl, fun J => ⟨rfl, fun w' => by first | rfl | go_simp⟩⟩, trivial⟩
 intro J w6 l hM hl
 have H6 := keepB H5 hM.below
 clear hM hl l H5 J
 refine ⟨_, ex_storeT (vs := tr (mi p (tm p (pl p (tm p 3 (tm p x x)) (tm p (tm p z z) (tm p z z))) (pl p (tm p 3 (tm p x x)) (tm p (tm p z z) (tm p z z)))) (pl p (tm p 4 (tm p x (tm p y y))) (tm p 4 (tm p x (tm p y y))))) (mi p (tm p (pl p (tm p 3 (tm p x x)) (tm p (tm p z z) (tm p z z))) (mi p (tm p 4 (tm p x (tm p y y))) (mi p (tm p (pl p (tm p 3 (tm p x x)) (tm p (tm p z z) (tm p z z))) (pl p (tm p 3 (tm p x x)) (tm p (tm p z z) (tm p z z)))) (pl p (tm p 4 (tm p x (tm p y y))) (tm p 4 (tm p x (tm p y y))))))) (tm p 8 (tm p (tm p y y) (tm p y y)))) (tm p 2 (tm p y z))) H6.out.1 2 rfl rfl rfl rfl As93 rfl (Nat.le_of_ble_eq_true rfl), ?_⟩
 have H7 : Hid (Mm (w6.setCells J1_2 0 (tr (mi p (tm p (pl p (tm p 3 (tm p x x)) (tm p (tm p z z) (tm p z z))) (pl p (tm p 3 (tm p x x)) (tm p (tm p z z) (tm p z z)))) (pl p (tm p 4 (tm p x (tm p y y))) (tm p 4 (tm p x (tm p y y))))) (mi p (tm p (pl p (tm p 3 (tm p x x)) (tm p (tm p z z) (tm p z z))) (mi p (tm p 4 (tm p x (tm p y y))) (mi p (tm p (pl p (tm p 3 (tm p x x)) (tm p (tm p z z) (tm p z z))) (pl p (tm p 3 (tm p x x)) (tm p (tm p z z) (tm p z z)))) (pl p (tm p 4 (tm p x (tm p y y))) (tm p 4 (tm p x (tm p y y))))))) (tm p 8 (tm p (tm p y y) (tm p y y)))) (tm p 2 (tm p y z)))) [(J1_0, kd p r c gx gy), (J1_1, tr x y z), (J1_2, tr (mi p (tm p (pl p (tm p 3 (tm p x x)) (tm p (tm p z z) (tm p z z))) (pl p (tm p 3 (tm p x x)) (tm p (tm p z z) (tm p z z)))) (pl p (tm p 4 (tm p x (tm p y y))) (tm p 4 (tm p x (tm p y y))))) (mi p (tm p (pl p (tm p 3 (tm p x x)) (tm p (tm p z z) (tm p z z))) (mi p (tm p 4 (tm p x (tm p y y))) (mi p (tm p (pl p (tm p 3 (tm p x x)) (tm p (tm p z z) (tm p z z))) (pl p (tm p 3 (tm p x x)) (tm p (tm p z z) (tm p z z)))) (pl p (tm p 4 (tm p x (tm p y y))) (tm p 4 (tm p x (tm p y y))))))) (tm p 8 (tm p (tm p y y) (tm p y y)))) (tm p 2 (tm p y z)))] ∧ Below w.heap.size w (w6.setCells J1_2 0 (tr (mi p (tm p (pl p (tm p 3 (tm p x x)) (tm p (tm p z z) (tm p z z))) (pl p (tm p 3 (tm p x x)) (tm p (tm p z z) (tm p z z)))) (pl p (tm p 4 (tm p x (tm p y y))) (tm p 4 (tm p x (tm p y y))))) (mi p (tm p (pl p (tm p 3 (tm p x x)) (tm p (tm p z z) (tm p z z))) (mi p (tm p 4 (tm p x (tm p y y))) (mi p (tm p (pl p (tm p 3 (tm p x x)) (tm p (tm p z z) (tm p z z))) (pl p (tm p 3 (tm p x x)) (tm p (tm p z z) (tm p z z)))) (pl p (tm p 4 (tm p x (tm p y y))) (tm p 4 (tm p x (tm p y y))))))) (tm p 8 (tm p (tm p y y) (tm p y y)))) (tm p 2 (tm p y z))))) := ⟨H6.out.1.put 2 (off := 0) (vs := tr (mi p (tm p (pl p (tm p 3 (tm p x x)) (tm p (tm p z z) (tm p z z))) (pl p (tm p 3 (tm p x x)) (tm p (tm p z z) (tm p z z)))) (pl p (tm p 4 (tm p x (tm p y y))) (tm p 4 (tm p x (tm p y y))))) (mi p (tm p (pl p (tm p 3 (tm p x x)) (tm p (tm p z z) (tm p z z))) (mi p (tm p 4 (tm p x (tm p y y))) (mi p (tm p (pl p (tm p 3 (tm p x x)) (tm p (tm p z z) (tm p z z))) (pl p (tm p 3 (tm p x x)) (tm p (tm p z z) (tm p z z)))) (pl p (tm p 4 (tm p x (tm p y y))) (tm p 4 (tm p x (tm p y y))))))) (tm p 8 (tm p (tm p y y) (tm p y y)))) (tm p 2 (tm p y z))) rfl (Nat.le_of_ble_eq_true rfl), below_setCells _ o1_2.out _ _ _ H6.out.2⟩
 clear H6
 generalize hgw : World.setCells _ _ _ _ = w7 at H7 ⊢
 clear hgw
 refine zF (l := [31]) rfl ?_
 refine zG (d := 5) rfl rfl rfl rfl ?_
 simp only [Act.put, sa, sz, ss]
 refine zE (zA (wp_ret ?_))
 repeat (first | refine zJ ?_ | refine zI ?_)
 have hf0 := var_T H7.out.1 2 rfl Ai93 As93 rfl
 refine bodyPost_ret (v := .tuple #[.agg (tr (mi p (tm p (pl p (tm p 3 (tm p x x)) (tm p (tm p z z) (tm p z z))) (pl p (tm p 3 (tm p x x)) (tm p (tm p z z) (tm p z z)))) (pl p (tm p 4 (tm p x (tm p y y))) (tm p 4 (tm p x (tm p y y))))) (mi p (tm p (pl p (tm p 3 (tm p x x)) (tm p (tm p z z) (tm p z z))) (mi p (tm p 4 (tm p x (tm p y y))) (mi p (tm p (pl p (tm p 3 (tm p x x)) (tm p (tm p z z) (tm p z z))) (pl p (tm p 3 (tm p x x)) (tm p (tm p z z) (tm p z z)))) (pl p (tm p 4 (tm p x (tm p y y))) (tm p 4 (tm p x (tm p y y))))))) (tm p 8 (tm p (tm p y y) (tm p y y)))) (tm p 2 (tm p y z))).toArray, U (pl p (tm p 3 (tm p x x)) (tm p (tm p z z) (tm p z z)))]) (by simp [results, Tryz.results69, asAddr, Act.eval, hf0]) rfl ?_
 exact ⟨rfl, H7.out.2⟩
theorem twice_any (hp : Pr p) (t : T3) (ht : Lt3 p t) (w : World) : Calls Tryz.prog 69 #[.agg (kd p r c gx gy).toArray, .agg (tr t.1 t.2.1 t.2.2).toArray] w (Rt w (.tuple #[V (tc (twT p t)), U (tR p t.1 t.2.2)])) :=
 twice_raw hp t.1 t.2.1 t.2.2 ht.x ht.y ht.z w
theorem joined_z (x y z X Y : Nat) (w : World) :
  Calls Tryz.prog 49 #[.agg (kd p r c gx gy).toArray, .agg (tr x y z).toArray, .agg (pt X Y true).toArray] w (Rt w (.tuple #[V (tr x y z), U 0])) := by
 have H0 : Hid (_ ∧ _) := ⟨Mm.nil w, Below.refl w.heap.size w⟩
 go_enter Tryz.func49, Tryz.ntmps49
 refine wp_seq ?_
 refine zD 5 [.made (kd p r c gx gy) 78, .made (tr x y z) 93, .made (pt X Y true) 35, .made (tr 0 0 0) 93, .q (U 0)] (sB H0) ?ho1 ?he1
 case ho1 => exact am (zN rfl rfl) (am (zN rfl rfl) (am (zN rfl rfl) (am (ex_made77 rfl) (ar trivial))))
 intro J w1 l hM hl
 have H1 : Hid (Mm w1 [(J 0, kd p r c gx gy), (J 1, tr x y z), (J 2, pt X Y true), (J 3, tr 0 0 0)] ∧ _) := wB H0 hM hl [0, 1, 2, 3]
 have o1_0 := vB H0 hM hl 0
 have o1_1 := vB H0 hM hl 1
 have o1_2 := vB H0 hM hl 2
 have o1_3 := vB H0 hM hl 3
 clear hM hl l
 generalize J 0 = J1_0 at H1 o1_0 ⊢
 generalize J 1 = J1_1 at H1 o1_1 ⊢
 generalize J 2 = J1_2 at H1 o1_2 ⊢
 generalize J 3 = J1_3 at H1 o1_3 ⊢
 clear J
 refine rN (wp_seq (wp_seq ?_))
 refine zB 2 [.q (PT J1_2 2), .q (.bool true)] H1 ?ho2 ?he2
 case ho2 => exact ag (bC 2 Ai4 trivial)
 intro _ w2 H2
 clear H1
 refine rN (wp_cond_true rfl (wp_seq ?_))
 refine zB 1 [.q (.agg (tr x y z).toArray)] H2 ?ho3 ?he3
 case ho3 => exact bT 1 Ai93 As93 trivial
 intro _ w3 H3
 clear H2
 refine zF (l := [1, 2]) rfl ?_
 refine sG rfl (fun h => ex_storeT (vs := tr x y z) h 3 rfl rfl rfl rfl As93 rfl (Nat.le_of_ble_eq_true rfl)) 3 [_, _, _, (_, tr x y z)] H3 o1_3 fun w4 H4 => ?_
 clear H3
 refine zG (d := 7) rfl rfl rfl rfl ?_
 simp only [Act.put, sa, sz, ss]
 refine zE (zA (wp_ret ?_))
 repeat (first | refine zJ ?_ | refine zI ?_)
 have hf0 := var_T H4.out.1 3 rfl Ai93 As93 rfl
 refine bodyPost_ret (v := .tuple #[.agg (tr x y z).toArray, U 0]) (by simp [results, Tryz.results49, asAddr, Act.eval, hf0]) rfl ?_
 exact ⟨rfl, H4.out.2⟩
theorem joined_0 (x y z X Y : Nat) (h : z = 0) (w : World) :
  Calls Tryz.prog 49 #[.agg (kd p r c gx gy).toArray, .agg (tr x y z).toArray, .agg (pt X Y false).toArray] w (Rt w (.tuple #[V (tr X Y 1), U 0])) := by
 have H0 : Hid (_ ∧ _) := ⟨Mm.nil w, Below.refl w.heap.size w⟩
 go_enter Tryz.func49, Tryz.ntmps49
 refine wp_seq ?_
 refine zD 5 [.made (kd p r c gx gy) 78, .made (tr x y z) 93, .made (pt X Y false) 35, .made (tr 0 0 0) 93, .q (U 0)] (sB H0) ?ho1 ?he1
 case ho1 => exact am (zN rfl rfl) (am (zN rfl rfl) (am (zN rfl rfl) (am (ex_made77 rfl) (ar trivial))))
 intro J w1 l hM hl
 have H1 : Hid (Mm w1 [(J 0, kd p r c gx gy), (J 1, tr x y z), (J 2, pt X Y false), (J 3, tr 0 0 0)] ∧ _) := wB H0 hM hl [0, 1, 2, 3]
 have o1_0 := vB H0 hM hl 0
 have o1_1 := vB H0 hM hl 1
 have o1_2 := vB H0 hM hl 2
 have o1_3 := vB H0 hM hl 3
 clear hM hl l
 generalize J 0 = J1_0 at H1 o1_0 ⊢
 generalize J 1 = J1_1 at H1 o1_1 ⊢
 generalize J 2 = J1_2 at H1 o1_2 ⊢
 generalize J 3 = J1_3 at H1 o1_3 ⊢
 clear J
 refine rN (wp_seq (wp_seq ?_))
 refine zB 2 [.q (PT J1_2 2), .q (.bool false)] H1 ?ho2 ?he2
 case ho2 => exact ag (bC 2 Ai4 trivial)
 intro _ w2 H2
 clear H1
 refine rN (wp_cond_false rfl ?_)
 refine wp_skip (zA ?_)
 refine wp_seq (wp_seq ?_)
 refine zB 3 [.q (PT J1_1 2), .q (U z), .q (.bool true)] H2 ?ho3 ?he3
 case ho3 => exact ag (bC 1 Ai22 (ak (fun J => ⟨rfl, fun w' _ => ex_eqU rfl rfl rfl (decide_eq_true (h))⟩) trivial))
 intro _ w3 H3
 clear H2
 refine rN (wp_cond_true rfl (wp_seq ?_))
 refine zB 2 [.q (.agg (pt X Y false).toArray), .call (.agg (tr X Y 1).toArray)] H3 ?ho4 ?he4
 case ho4 => exact bT 2 Ai35 As35 (ac (fun w' h => eC call50 (tripleOf_f X Y w')) trivial)
 intro _ w4 H4
 clear H3
 refine zF (l := [2, 3]) rfl ?_
 refine sG rfl (fun h => ex_storeT (vs := tr X Y 1) h 3 rfl rfl rfl rfl As93 rfl (Nat.le_of_ble_eq_true rfl)) 3 [_, _, _, (_, tr X Y 1)] H4 o1_3 fun w5 H5 => ?_
 clear H4
 refine zG (d := 7) rfl rfl rfl rfl ?_
 simp only [Act.put, sa, sz, ss]
 refine zE (zA (wp_ret ?_))
 repeat (first | refine zJ ?_ | refine zI ?_)
 have hf0 := var_T H5.out.1 3 rfl Ai93 As93 rfl
 refine bodyPost_ret (v := .tuple #[.agg (tr X Y 1).toArray, U 0]) (by simp [results, Tryz.results49, asAddr, Act.eval, hf0]) rfl ?_
 exact ⟨rfl, H5.out.2⟩
set_option maxHeartbeats 1000000 in
theorem joined_same (hp : Pr p) (x y z : Nat) (hx : x < p) (hy : y < p) (hz : z < p) (X Y : Nat) (hX : X < p) (hY : Y < p) (h : z ≠ 0) (h1 : jU p x z X = 0) (h2 : jS p y z Y = 0) (w : World) :
  Calls Tryz.prog 49 #[.agg (kd p r c gx gy).toArray, .agg (tr x y z).toArray, .agg (pt X Y false).toArray] w (Rt w (.tuple #[V (tr (tX p x y z) (tY p x y z) (tm p 2 (tm p y z))), U (tR p x z)])) := by
 have H0 : Hid (_ ∧ _) := ⟨Mm.nil w, Below.refl w.heap.size w⟩
 go_enter Tryz.func49, Tryz.ntmps49
 refine wp_seq ?_
 refine zD 5 [.made (kd p r c gx gy) 78, .made (tr x y z) 93, .made (pt X Y false) 35, .made (tr 0 0 0) 93, .q (U 0)] (sB H0) ?ho1 ?he1
 case ho1 => exact am (zN rfl rfl) (am (zN rfl rfl) (am (zN rfl rfl) (am (ex_made77 rfl) (ar trivial))))
 intro J w1 l hM hl
 have H1 : Hid (Mm w1 [(J 0, kd p r c gx gy), (J 1, tr x y z), (J 2, pt X Y false), (J 3, tr 0 0 0)] ∧ _) := wB H0 hM hl [0, 1, 2, 3]
 have o1_0 := vB H0 hM hl 0
 have o1_1 := vB H0 hM hl 1
 have o1_2 := vB H0 hM hl 2
 have o1_3 := vB H0 hM hl 3
 clear hM hl l
 generalize J 0 = J1_0 at H1 o1_0 ⊢
 generalize J 1 = J1_1 at H1 o1_1 ⊢
 generalize J 2 = J1_2 at H1 o1_2 ⊢
 generalize J 3 = J1_3 at H1 o1_3 ⊢
 clear J
 refine rN (wp_seq (wp_seq ?_))
 refine zB 2 [.q (PT J1_2 2), .q (.bool false)] H1 ?ho2 ?he2
 case ho2 => exact ag (bC 2 Ai4 trivial)
 intro _ w2 H2
 clear H1
 refine rN (wp_cond_false rfl ?_)
 refine wp_skip (zA ?_)
 refine wp_seq (wp_seq ?_)
 refine zB 3 [.q (PT J1_1 2), .q (U z), .q (.bool false)] H2 ?ho3 ?he3
 case ho3 => exact ag (bC 1 Ai22 (ak (fun J => ⟨rfl, fun w' _ => ex_eqU rfl rfl rfl (decide_eq_false (h))⟩) trivial))
 intro _ w3 H3
 clear H2
 refine rN (wp_cond_false rfl ?_)
 refine wp_skip (zA (wp_seq ?_))
 refine zB 7 [.q (.agg (kd p r c gx gy).toArray), .q (PT J1_1 2), .q (U z), .q (PT J1_1 2), .q (U z), .call (U (tm p z z)), .q (U (tm p z z))] H3 ?ho4 ?he4
 case ho4 => exact bT 0 Ai78 As78 (ag (bC 1 Ai22 (ag (bC 1 Ai22 (ac (fun w' h => eC call67 (zV hp z z hz hz w')) (ar trivial))))))
 intro _ w4 H4
 clear H3
 refine rN (wp_seq ?_)
 refine zP 10 [.q (.agg (kd p r c gx gy).toArray), .q (.agg (kd p r c gx gy).toArray), .q (PT J1_2 0), .q (U X), .q (U (tm p z z)), .call (U (tm p X (tm p z z))), .q (PT J1_1 0), .q (U x), .call (U (jU p x z X)), .q (U (jU p x z X))] H4 ?ho5 ?he5
 case ho5 => exact bT 0 Ai78 As78 (bT 0 Ai78 As78 (ag (bC 2 Ai22 (ar (ac (fun w' h => eC call67 (zV hp X (tm p z z) hX (tm_lt hp) w')) (ag (bC 1 Ai22 (ac (fun w' h => eC call78 (minus_any hp (tm p X (tm p z z)) x (tm_lt hp) hx w')) (ar trivial)))))))))
 intro _ w5 H5
 clear H4
 refine rN (wp_seq ?_)
 refine zP 14 [.q (.agg (kd p r c gx gy).toArray), .q (.agg (kd p r c gx gy).toArray), .q (PT J1_2 1), .q (U Y), .q (.agg (kd p r c gx gy).toArray), .q (PT J1_1 2), .q (U z), .q (U (tm p z z)), .call (U (tm p z (tm p z z))), .call (U (tm p Y (tm p z (tm p z z)))), .q (PT J1_1 1), .q (U y), .call (U (jS p y z Y)), .q (U (jS p y z Y))] H5 ?ho6 ?he6
 case ho6 => exact bT 0 Ai78 As78 (bT 0 Ai78 As78 (ag (bC 2 Ai22 (bT 0 Ai78 As78 (ag (bC 1 Ai22 (ar (ac (fun w' h => eC call67 (zV hp z (tm p z z) hz (tm_lt hp) w')) (ac (fun w' h => eC call67 (zV hp Y (tm p z (tm p z z)) hY (tm_lt hp) w')) (ag (bC 1 Ai22 (ac (fun w' h => eC call78 (minus_any hp (tm p Y (tm p z (tm p z z))) y (tm_lt hp) hy w')) (ar trivial)))))))))))))
 intro _ w6 H6
 clear H5
 refine rN (wp_seq (wp_seq ?_))
 refine zB 6 [.q (U (jU p x z X)), .q (.bool true), .q (.bool true), .q (U (jS p y z Y)), .q (.bool true), .q (.bool true)] H6 ?ho7 ?he7
 case ho7 => exact ar (ak (fun J => ⟨rfl, fun w' _ => ex_eqU rfl rfl rfl (decide_eq_true (h1))⟩) (ar (ar (ak (fun J => ⟨rfl, fun w' _ => ex_eqU rfl rfl rfl (decide_eq_true (h2))⟩) (ag trivial)))))
 intro _ w7 H7
 clear H6
 refine rN (wp_cond_true rfl (wp_seq ?_))
 refine zB 5 [.q (.agg (kd p r c gx gy).toArray), .q (.agg (tr x y z).toArray), .call (.tuple #[.agg (tr (tX p x y z) (tY p x y z) (tm p 2 (tm p y z))).toArray, U (tR p x z)]), .q (.agg (tr (tX p x y z) (tY p x y z) (tm p 2 (tm p y z))).toArray), .q (U (tR p x z))] H7 ?ho8 ?he8
 case ho8 => exact bT 0 Ai78 As78 (bT 1 Ai93 As93 (ac (fun w' h => eC call69 (twice_raw hp x y z hx hy hz w')) (ag (ag trivial))))
 intro _ w8 H8
 clear H7
 refine zF (l := [5, 6]) rfl ?_
 refine sG rfl (fun h => ex_storeT (vs := tr (tX p x y z) (tY p x y z) (tm p 2 (tm p y z))) h 3 rfl rfl rfl rfl As93 rfl (Nat.le_of_ble_eq_true rfl)) 3 [_, _, _, (_, tr (tX p x y z) (tY p x y z) (tm p 2 (tm p y z)))] H8 o1_3 fun w9 H9 => ?_
 clear H8
 refine zG (d := 7) rfl rfl rfl rfl ?_
 simp only [Act.put, sa, sz, ss]
 refine zE (zA (wp_ret ?_))
 repeat (first | refine zJ ?_ | refine zI ?_)
 have hf0 := var_T H9.out.1 3 rfl Ai93 As93 rfl
 refine bodyPost_ret (v := .tuple #[.agg (tr (tX p x y z) (tY p x y z) (tm p 2 (tm p y z))).toArray, U (tR p x z)]) (by simp [results, Tryz.results49, asAddr, Act.eval, hf0]) rfl ?_
 exact ⟨rfl, H9.out.2⟩
set_option maxHeartbeats 1000000 in
theorem joined_u (hp : Pr p) (x y z : Nat) (hx : x < p) (hy : y < p) (hz : z < p) (X Y : Nat) (hX : X < p) (hY : Y < p) (h : z ≠ 0) (h1 : jU p x z X ≠ 0) (w : World) :
  Calls Tryz.prog 49 #[.agg (kd p r c gx gy).toArray, .agg (tr x y z).toArray, .agg (pt X Y false).toArray] w (Rt w (.tuple #[V (tr (jX p x (jU p x z X) (jS p y z Y)) (jY p x y (jU p x z X) (jS p y z Y)) (tm p z (jU p x z X))), U (jS p y z Y)])) := by
 have H0 : Hid (_ ∧ _) := ⟨Mm.nil w, Below.refl w.heap.size w⟩
 go_enter Tryz.func49, Tryz.ntmps49
 refine wp_seq ?_
 refine zD 5 [.made (kd p r c gx gy) 78, .made (tr x y z) 93, .made (pt X Y false) 35, .made (tr 0 0 0) 93, .q (U 0)] (sB H0) ?ho1 ?he1
 case ho1 => exact am (zN rfl rfl) (am (zN rfl rfl) (am (zN rfl rfl) (am (ex_made77 rfl) (ar trivial))))
 intro J w1 l hM hl
 have H1 : Hid (Mm w1 [(J 0, kd p r c gx gy), (J 1, tr x y z), (J 2, pt X Y false), (J 3, tr 0 0 0)] ∧ _) := wB H0 hM hl [0, 1, 2, 3]
 have o1_0 := vB H0 hM hl 0
 have o1_1 := vB H0 hM hl 1
 have o1_2 := vB H0 hM hl 2
 have o1_3 := vB H0 hM hl 3
 clear hM hl l
 generalize J 0 = J1_0 at H1 o1_0 ⊢
 generalize J 1 = J1_1 at H1 o1_1 ⊢
 generalize J 2 = J1_2 at H1 o1_2 ⊢
 generalize J 3 = J1_3 at H1 o1_3 ⊢
 clear J
 refine rN (wp_seq (wp_seq ?_))
 refine zB 2 [.q (PT J1_2 2), .q (.bool false)] H1 ?ho2 ?he2
 case ho2 => exact ag (bC 2 Ai4 trivial)
 intro _ w2 H2
 clear H1
 refine rN (wp_cond_false rfl ?_)
 refine wp_skip (zA ?_)
 refine wp_seq (wp_seq ?_)
 refine zB 3 [.q (PT J1_1 2), .q (U z), .q (.bool false)] H2 ?ho3 ?he3
 case ho3 => exact ag (bC 1 Ai22 (ak (fun J => ⟨rfl, fun w' _ => ex_eqU rfl rfl rfl (decide_eq_false (h))⟩) trivial))
 intro _ w3 H3
 clear H2
 refine rN (wp_cond_false rfl ?_)
 refine wp_skip (zA (wp_seq ?_))
 refine zB 7 [.q (.agg (kd p r c gx gy).toArray), .q (PT J1_1 2), .q (U z), .q (PT J1_1 2), .q (U z), .call (U (tm p z z)), .q (U (tm p z z))] H3 ?ho4 ?he4
 case ho4 => exact bT 0 Ai78 As78 (ag (bC 1 Ai22 (ag (bC 1 Ai22 (ac (fun w' h => eC call67 (zV hp z z hz hz w')) (ar trivial))))))
 intro _ w4 H4
 clear H3
 refine rN (wp_seq ?_)
 refine zP 10 [.q (.agg (kd p r c gx gy).toArray), .q (.agg (kd p r c gx gy).toArray), .q (PT J1_2 0), .q (U X), .q (U (tm p z z)), .call (U (tm p X (tm p z z))), .q (PT J1_1 0), .q (U x), .call (U (jU p x z X)), .q (U (jU p x z X))] H4 ?ho5 ?he5
 case ho5 => exact bT 0 Ai78 As78 (bT 0 Ai78 As78 (ag (bC 2 Ai22 (ar (ac (fun w' h => eC call67 (zV hp X (tm p z z) hX (tm_lt hp) w')) (ag (bC 1 Ai22 (ac (fun w' h => eC call78 (minus_any hp (tm p X (tm p z z)) x (tm_lt hp) hx w')) (ar trivial)))))))))
 intro _ w5 H5
 clear H4
 refine rN (wp_seq ?_)
 refine zP 14 [.q (.agg (kd p r c gx gy).toArray), .q (.agg (kd p r c gx gy).toArray), .q (PT J1_2 1), .q (U Y), .q (.agg (kd p r c gx gy).toArray), .q (PT J1_1 2), .q (U z), .q (U (tm p z z)), .call (U (tm p z (tm p z z))), .call (U (tm p Y (tm p z (tm p z z)))), .q (PT J1_1 1), .q (U y), .call (U (jS p y z Y)), .q (U (jS p y z Y))] H5 ?ho6 ?he6
 case ho6 => exact bT 0 Ai78 As78 (bT 0 Ai78 As78 (ag (bC 2 Ai22 (bT 0 Ai78 As78 (ag (bC 1 Ai22 (ar (ac (fun w' h => eC call67 (zV hp z (tm p z z) hz (tm_lt hp) w')) (ac (fun w' h => eC call67 (zV hp Y (tm p z (tm p z z)) hY (tm_lt hp) w')) (ag (bC 1 Ai22 (ac (fun w' h => eC call78 (minus_any hp (tm p Y (tm p z (tm p z z))) y (tm_lt hp) hy w')) (ar trivial)))))))))))))
 intro _ w6 H6
 clear H5
 refine rN (wp_seq (wp_seq ?_))
 refine zB 6 [.q (U (jU p x z X)), .q (.bool false), .q (.bool false), .gone, .gone, .q (.bool false)] H6 ?ho7 ?he7
 case ho7 => exact ar (ak (fun J => ⟨rfl, fun w' _ => ex_eqU rfl rfl rfl (decide_eq_false (h1))⟩) (ar (ak (fun J => rfl) (ak (fun J => rfl) (ag trivial)))))
 intro _ w7 H7
 clear H6
 refine rN (wp_cond_false rfl ?_)
 refine wp_skip (zA (wp_seq ?_))
 refine zB 5 [.q (.agg (kd p r c gx gy).toArray), .q (U (jU p x z X)), .q (U (jU p x z X)), .call (U (tm p (jU p x z X) (jU p x z X))), .q (U (tm p (jU p x z X) (jU p x z X)))] H7 ?ho8 ?he8
 case ho8 => exact bT 0 Ai78 As78 (ar (ar (ac (fun w' h => eC call67 (zV hp (jU p x z X) (jU p x z X) (mi_lt hp) (mi_lt hp) w')) (ar trivial))))
 intro _ w8 H8
 clear H7
 refine rN (wp_seq ?_)
 refine zB 5 [.q (.agg (kd p r c gx gy).toArray), .q (U (tm p (jU p x z X) (jU p x z X))), .q (U (jU p x z X)), .call (U (jC p (jU p x z X))), .q (U (jC p (jU p x z X)))] H8 ?ho9 ?he9
 case ho9 => exact bT 0 Ai78 As78 (ar (ar (ac (fun w' h => eC call67 (zV hp (tm p (jU p x z X) (jU p x z X)) (jU p x z X) (tm_lt hp) (mi_lt hp) w')) (ar trivial))))
 intro _ w9 H9
 clear H8
 refine rN (wp_seq ?_)
 refine zB 6 [.q (.agg (kd p r c gx gy).toArray), .q (PT J1_1 0), .q (U x), .q (U (tm p (jU p x z X) (jU p x z X))), .call (U (jM p x (jU p x z X))), .q (U (jM p x (jU p x z X)))] H9 ?ho10 ?he10
 case ho10 => exact bT 0 Ai78 As78 (ag (bC 1 Ai22 (ar (ac (fun w' h => eC call67 (zV hp x (tm p (jU p x z X) (jU p x z X)) hx (tm_lt hp) w')) (ar trivial)))))
 intro _ w10 H10
 clear H9
 refine rN (wp_seq ?_)
 refine zP 14 [.q (.agg (kd p r c gx gy).toArray), .q (.agg (kd p r c gx gy).toArray), .q (.agg (kd p r c gx gy).toArray), .q (U (jS p y z Y)), .q (U (jS p y z Y)), .call (U (tm p (jS p y z Y) (jS p y z Y))), .q (U (jC p (jU p x z X))), .call (U (mi p (tm p (jS p y z Y) (jS p y z Y)) (jC p (jU p x z X)))), .q (.agg (kd p r c gx gy).toArray), .q (U (jM p x (jU p x z X))), .q (U (jM p x (jU p x z X))), .call (U (pl p (jM p x (jU p x z X)) (jM p x (jU p x z X)))), .call (U (jX p x (jU p x z X) (jS p y z Y))), .q (U (jX p x (jU p x z X) (jS p y z Y)))] H10 ?ho11 ?he11
 case ho11 => exact bT 0 Ai78 As78 (bT 0 Ai78 As78 (bT 0 Ai78 As78 (ar (ar (ac (fun w' h => eC call67 (zV hp (jS p y z Y) (jS p y z Y) (mi_lt hp) (mi_lt hp) w')) (ar (ac (fun w' h => eC call78 (minus_any hp (tm p (jS p y z Y) (jS p y z Y)) (jC p (jU p x z X)) (tm_lt hp) (tm_lt hp) w')) (bT 0 Ai78 As78 (ar (ar (ac (fun w' h => eC call79 (plus_any hp (jM p x (jU p x z X)) (jM p x (jU p x z X)) (tm_lt hp) (tm_lt hp) w')) (ac (fun w' h => eC call78 (minus_any hp (mi p (tm p (jS p y z Y) (jS p y z Y)) (jC p (jU p x z X))) (pl p (jM p x (jU p x z X)) (jM p x (jU p x z X))) (mi_lt hp) (pl_lt hp) w')) (ar trivial)))))))))))))
 intro _ w11 H11
 clear H10
 refine rN (wp_seq ?_)
 refine walk_put (by kernel_rfl) 22 [21] [.q (U (jX p x (jU p x z X) (jS p y z Y))), .q (.agg (kd p r c gx gy).toArray), .q (.agg (kd p r c gx gy).toArray), .q (U (jS p y z Y)), .q (.agg (kd p r c gx gy).toArray), .q (U (jM p x (jU p x z X))), .q (U (jX p x (jU p x z X) (jS p y z Y))), .call (U (mi p (jM p x (jU p x z X)) (jX p x (jU p x z X) (jS p y z Y)))), .call (U (tm p (jS p y z Y) (mi p (jM p x (jU p x z X)) (jX p x (jU p x z X) (jS p y z Y))))), .q (.agg (kd p r c gx gy).toArray), .q (PT J1_1 1), .q (U y), .q (U (jC p (jU p x z X))), .call (U (tm p y (jC p (jU p x z X)))), .call (U (mi p (tm p (jS p y z Y) (mi p (jM p x (jU p x z X)) (jX p x (jU p x z X) (jS p y z Y)))) (tm p y (jC p (jU p x z X))))), .q (.agg (kd p r c gx gy).toArray), .q (PT J1_1 2), .q (U z), .q (U (jU p x z X)), .call (U (tm p z (jU p x z X))), .q (.agg (tr (jX p x (jU p x z X) (jS p y z Y)) (mi p (tm p (jS p y z Y) (mi p (jM p x (jU p x z X)) (jX p x (jU p x z X) (jS p y z Y)))) (tm p y (jC p (jU p x z X)))) (tm p z (jU p x z X))).toArray), .q (U (jS p y z Y))] _ ?pre12 ?F12 _ ?hpre12 (fun J => ?hF12) (by kernel_rfl) rfl trivial (sB H11) ?ho12 ?hla12 ?he12
 case hpre12 => simp only [tk, tz]; rfl
 case hF12 => simp only [fill, Kind.val, Act.put, sa, sz, ss]; rfl
 case ho12 =>
  refine ar ?_
  refine bT 0 Ai78 As78 ?_
  refine bT 0 Ai78 As78 ?_
  refine ar ?_
  refine bT 0 Ai78 As78 ?_
  refine ar ?_
  refine ar ?_
  refine ak (fun J => ⟨rfl, fun w' h => eC call78 (minus_any hp (jM p x (jU p x z X)) (jX p x (jU p x z X) (jS p y z Y)) (tm_lt hp) (mi_lt hp) w')⟩) ?_
  refine ak (fun J => ⟨rfl, fun w' h => eC call67 (zV hp (jS p y z Y) (mi p (jM p x (jU p x z X)) (jX p x (jU p x z X) (jS p y z Y))) (mi_lt hp) (mi_lt hp) w')⟩) ?_
  refine bT 0 Ai78 As78 ?_
  refine ag ?_
  refine bC 1 Ai22 ?_
  refine ar ?_
  refine ak (fun J => ⟨rfl, fun w' h => eC call67 (zV hp y (jC p (jU p x z X)) hy (tm_lt hp) w')⟩) ?_
  refine ak (fun J => ⟨rfl, fun w' h => eC call78 (minus_any hp (tm p (jS p y z Y) (mi p (jM p x (jU p x z X)) (jX p x (jU p x z X) (jS p y z Y)))) (tm p y (jC p (jU p x z X))) (tm_lt hp) (tm_lt hp) w')⟩) ?_
  refine bT 0 Ai78 As78 ?_
  refine ag ?_
  refine bC 1 Ai22 ?_
  refine ar ?_
  refine ak (fun J => ⟨rfl, fun w' h => eC call67 (zV hp z (jU p x z X) hz (mi_lt hp) w')⟩) ?_
  refine ak (fun J => ⟨rfl, fun w' _ => ex_build77_012 rfl rfl rfl rfl⟩) ?_
  refine ar ?_
  exact trivial
 case hla12 => exact ⟨⟨_, _, rfl, rfl, fun J => ⟨rfl, fun w' => by first | rfl | go_simp⟩⟩, trivial⟩
 intro J w12 l hM hl
 have H12 := keepB H11 hM.below
 clear hM hl l H11 J
 refine ⟨_, ex_storeT (vs := tr (jX p x (jU p x z X) (jS p y z Y)) (mi p (tm p (jS p y z Y) (mi p (jM p x (jU p x z X)) (jX p x (jU p x z X) (jS p y z Y)))) (tm p y (jC p (jU p x z X)))) (tm p z (jU p x z X))) H12.out.1 3 rfl rfl rfl rfl As93 rfl (Nat.le_of_ble_eq_true rfl), ?_⟩
 have H13 : Hid (Mm (w12.setCells J1_3 0 (tr (jX p x (jU p x z X) (jS p y z Y)) (mi p (tm p (jS p y z Y) (mi p (jM p x (jU p x z X)) (jX p x (jU p x z X) (jS p y z Y)))) (tm p y (jC p (jU p x z X)))) (tm p z (jU p x z X)))) [(J1_0, kd p r c gx gy), (J1_1, tr x y z), (J1_2, pt X Y false), (J1_3, tr (jX p x (jU p x z X) (jS p y z Y)) (mi p (tm p (jS p y z Y) (mi p (jM p x (jU p x z X)) (jX p x (jU p x z X) (jS p y z Y)))) (tm p y (jC p (jU p x z X)))) (tm p z (jU p x z X)))] ∧ Below w.heap.size w (w12.setCells J1_3 0 (tr (jX p x (jU p x z X) (jS p y z Y)) (mi p (tm p (jS p y z Y) (mi p (jM p x (jU p x z X)) (jX p x (jU p x z X) (jS p y z Y)))) (tm p y (jC p (jU p x z X)))) (tm p z (jU p x z X))))) := ⟨H12.out.1.put 3 (off := 0) (vs := tr (jX p x (jU p x z X) (jS p y z Y)) (mi p (tm p (jS p y z Y) (mi p (jM p x (jU p x z X)) (jX p x (jU p x z X) (jS p y z Y)))) (tm p y (jC p (jU p x z X)))) (tm p z (jU p x z X))) rfl (Nat.le_of_ble_eq_true rfl), below_setCells _ o1_3.out _ _ _ H12.out.2⟩
 clear H12
 generalize hgw : World.setCells _ _ _ _ = w13 at H13 ⊢
 clear hgw
 refine zF (l := [23]) rfl ?_
 refine zG (d := 7) rfl rfl rfl rfl ?_
 simp only [Act.put, sa, sz, ss]
 refine zE (zA (wp_ret ?_))
 repeat (first | refine zJ ?_ | refine zI ?_)
 have hf0 := var_T H13.out.1 3 rfl Ai93 As93 rfl
 refine bodyPost_ret (v := .tuple #[.agg (tr (jX p x (jU p x z X) (jS p y z Y)) (mi p (tm p (jS p y z Y) (mi p (jM p x (jU p x z X)) (jX p x (jU p x z X) (jS p y z Y)))) (tm p y (jC p (jU p x z X)))) (tm p z (jU p x z X))).toArray, U (jS p y z Y)]) (by simp [results, Tryz.results49, asAddr, Act.eval, hf0]) rfl ?_
 exact ⟨rfl, H13.out.2⟩
set_option maxHeartbeats 1000000 in
theorem joined_s (hp : Pr p) (x y z : Nat) (hx : x < p) (hy : y < p) (hz : z < p) (X Y : Nat) (hX : X < p) (hY : Y < p) (h : z ≠ 0) (h1 : jU p x z X = 0) (h2 : jS p y z Y ≠ 0) (w : World) :
  Calls Tryz.prog 49 #[.agg (kd p r c gx gy).toArray, .agg (tr x y z).toArray, .agg (pt X Y false).toArray] w (Rt w (.tuple #[V (tr (jX p x (jU p x z X) (jS p y z Y)) (jY p x y (jU p x z X) (jS p y z Y)) (tm p z (jU p x z X))), U (jS p y z Y)])) := by
 have H0 : Hid (_ ∧ _) := ⟨Mm.nil w, Below.refl w.heap.size w⟩
 go_enter Tryz.func49, Tryz.ntmps49
 refine wp_seq ?_
 refine zD 5 [.made (kd p r c gx gy) 78, .made (tr x y z) 93, .made (pt X Y false) 35, .made (tr 0 0 0) 93, .q (U 0)] (sB H0) ?ho1 ?he1
 case ho1 => exact am (zN rfl rfl) (am (zN rfl rfl) (am (zN rfl rfl) (am (ex_made77 rfl) (ar trivial))))
 intro J w1 l hM hl
 have H1 : Hid (Mm w1 [(J 0, kd p r c gx gy), (J 1, tr x y z), (J 2, pt X Y false), (J 3, tr 0 0 0)] ∧ _) := wB H0 hM hl [0, 1, 2, 3]
 have o1_0 := vB H0 hM hl 0
 have o1_1 := vB H0 hM hl 1
 have o1_2 := vB H0 hM hl 2
 have o1_3 := vB H0 hM hl 3
 clear hM hl l
 generalize J 0 = J1_0 at H1 o1_0 ⊢
 generalize J 1 = J1_1 at H1 o1_1 ⊢
 generalize J 2 = J1_2 at H1 o1_2 ⊢
 generalize J 3 = J1_3 at H1 o1_3 ⊢
 clear J
 refine rN (wp_seq (wp_seq ?_))
 refine zB 2 [.q (PT J1_2 2), .q (.bool false)] H1 ?ho2 ?he2
 case ho2 => exact ag (bC 2 Ai4 trivial)
 intro _ w2 H2
 clear H1
 refine rN (wp_cond_false rfl ?_)
 refine wp_skip (zA ?_)
 refine wp_seq (wp_seq ?_)
 refine zB 3 [.q (PT J1_1 2), .q (U z), .q (.bool false)] H2 ?ho3 ?he3
 case ho3 => exact ag (bC 1 Ai22 (ak (fun J => ⟨rfl, fun w' _ => ex_eqU rfl rfl rfl (decide_eq_false (h))⟩) trivial))
 intro _ w3 H3
 clear H2
 refine rN (wp_cond_false rfl ?_)
 refine wp_skip (zA (wp_seq ?_))
 refine zB 7 [.q (.agg (kd p r c gx gy).toArray), .q (PT J1_1 2), .q (U z), .q (PT J1_1 2), .q (U z), .call (U (tm p z z)), .q (U (tm p z z))] H3 ?ho4 ?he4
 case ho4 => exact bT 0 Ai78 As78 (ag (bC 1 Ai22 (ag (bC 1 Ai22 (ac (fun w' h => eC call67 (zV hp z z hz hz w')) (ar trivial))))))
 intro _ w4 H4
 clear H3
 refine rN (wp_seq ?_)
 refine zP 10 [.q (.agg (kd p r c gx gy).toArray), .q (.agg (kd p r c gx gy).toArray), .q (PT J1_2 0), .q (U X), .q (U (tm p z z)), .call (U (tm p X (tm p z z))), .q (PT J1_1 0), .q (U x), .call (U (jU p x z X)), .q (U (jU p x z X))] H4 ?ho5 ?he5
 case ho5 => exact bT 0 Ai78 As78 (bT 0 Ai78 As78 (ag (bC 2 Ai22 (ar (ac (fun w' h => eC call67 (zV hp X (tm p z z) hX (tm_lt hp) w')) (ag (bC 1 Ai22 (ac (fun w' h => eC call78 (minus_any hp (tm p X (tm p z z)) x (tm_lt hp) hx w')) (ar trivial)))))))))
 intro _ w5 H5
 clear H4
 refine rN (wp_seq ?_)
 refine zP 14 [.q (.agg (kd p r c gx gy).toArray), .q (.agg (kd p r c gx gy).toArray), .q (PT J1_2 1), .q (U Y), .q (.agg (kd p r c gx gy).toArray), .q (PT J1_1 2), .q (U z), .q (U (tm p z z)), .call (U (tm p z (tm p z z))), .call (U (tm p Y (tm p z (tm p z z)))), .q (PT J1_1 1), .q (U y), .call (U (jS p y z Y)), .q (U (jS p y z Y))] H5 ?ho6 ?he6
 case ho6 => exact bT 0 Ai78 As78 (bT 0 Ai78 As78 (ag (bC 2 Ai22 (bT 0 Ai78 As78 (ag (bC 1 Ai22 (ar (ac (fun w' h => eC call67 (zV hp z (tm p z z) hz (tm_lt hp) w')) (ac (fun w' h => eC call67 (zV hp Y (tm p z (tm p z z)) hY (tm_lt hp) w')) (ag (bC 1 Ai22 (ac (fun w' h => eC call78 (minus_any hp (tm p Y (tm p z (tm p z z))) y (tm_lt hp) hy w')) (ar trivial)))))))))))))
 intro _ w6 H6
 clear H5
 refine rN (wp_seq (wp_seq ?_))
 refine zB 6 [.q (U (jU p x z X)), .q (.bool true), .q (.bool true), .q (U (jS p y z Y)), .q (.bool false), .q (.bool false)] H6 ?ho7 ?he7
 case ho7 => exact ar (ak (fun J => ⟨rfl, fun w' _ => ex_eqU rfl rfl rfl (decide_eq_true (h1))⟩) (ar (ar (ak (fun J => ⟨rfl, fun w' _ => ex_eqU rfl rfl rfl (decide_eq_false (h2))⟩) (ag trivial)))))
 intro _ w7 H7
 clear H6
 refine rN (wp_cond_false rfl ?_)
 refine wp_skip (zA (wp_seq ?_))
 refine zB 5 [.q (.agg (kd p r c gx gy).toArray), .q (U (jU p x z X)), .q (U (jU p x z X)), .call (U (tm p (jU p x z X) (jU p x z X))), .q (U (tm p (jU p x z X) (jU p x z X)))] H7 ?ho8 ?he8
 case ho8 => exact bT 0 Ai78 As78 (ar (ar (ac (fun w' h => eC call67 (zV hp (jU p x z X) (jU p x z X) (mi_lt hp) (mi_lt hp) w')) (ar trivial))))
 intro _ w8 H8
 clear H7
 refine rN (wp_seq ?_)
 refine zB 5 [.q (.agg (kd p r c gx gy).toArray), .q (U (tm p (jU p x z X) (jU p x z X))), .q (U (jU p x z X)), .call (U (jC p (jU p x z X))), .q (U (jC p (jU p x z X)))] H8 ?ho9 ?he9
 case ho9 => exact bT 0 Ai78 As78 (ar (ar (ac (fun w' h => eC call67 (zV hp (tm p (jU p x z X) (jU p x z X)) (jU p x z X) (tm_lt hp) (mi_lt hp) w')) (ar trivial))))
 intro _ w9 H9
 clear H8
 refine rN (wp_seq ?_)
 refine zB 6 [.q (.agg (kd p r c gx gy).toArray), .q (PT J1_1 0), .q (U x), .q (U (tm p (jU p x z X) (jU p x z X))), .call (U (jM p x (jU p x z X))), .q (U (jM p x (jU p x z X)))] H9 ?ho10 ?he10
 case ho10 => exact bT 0 Ai78 As78 (ag (bC 1 Ai22 (ar (ac (fun w' h => eC call67 (zV hp x (tm p (jU p x z X) (jU p x z X)) hx (tm_lt hp) w')) (ar trivial)))))
 intro _ w10 H10
 clear H9
 refine rN (wp_seq ?_)
 refine zP 14 [.q (.agg (kd p r c gx gy).toArray), .q (.agg (kd p r c gx gy).toArray), .q (.agg (kd p r c gx gy).toArray), .q (U (jS p y z Y)), .q (U (jS p y z Y)), .call (U (tm p (jS p y z Y) (jS p y z Y))), .q (U (jC p (jU p x z X))), .call (U (mi p (tm p (jS p y z Y) (jS p y z Y)) (jC p (jU p x z X)))), .q (.agg (kd p r c gx gy).toArray), .q (U (jM p x (jU p x z X))), .q (U (jM p x (jU p x z X))), .call (U (pl p (jM p x (jU p x z X)) (jM p x (jU p x z X)))), .call (U (jX p x (jU p x z X) (jS p y z Y))), .q (U (jX p x (jU p x z X) (jS p y z Y)))] H10 ?ho11 ?he11
 case ho11 => exact bT 0 Ai78 As78 (bT 0 Ai78 As78 (bT 0 Ai78 As78 (ar (ar (ac (fun w' h => eC call67 (zV hp (jS p y z Y) (jS p y z Y) (mi_lt hp) (mi_lt hp) w')) (ar (ac (fun w' h => eC call78 (minus_any hp (tm p (jS p y z Y) (jS p y z Y)) (jC p (jU p x z X)) (tm_lt hp) (tm_lt hp) w')) (bT 0 Ai78 As78 (ar (ar (ac (fun w' h => eC call79 (plus_any hp (jM p x (jU p x z X)) (jM p x (jU p x z X)) (tm_lt hp) (tm_lt hp) w')) (ac (fun w' h => eC call78 (minus_any hp (mi p (tm p (jS p y z Y) (jS p y z Y)) (jC p (jU p x z X))) (pl p (jM p x (jU p x z X)) (jM p x (jU p x z X))) (mi_lt hp) (pl_lt hp) w')) (ar trivial)))))))))))))
 intro _ w11 H11
 clear H10
 refine rN (wp_seq ?_)
 refine walk_put (by kernel_rfl) 22 [21] [.q (U (jX p x (jU p x z X) (jS p y z Y))), .q (.agg (kd p r c gx gy).toArray), .q (.agg (kd p r c gx gy).toArray), .q (U (jS p y z Y)), .q (.agg (kd p r c gx gy).toArray), .q (U (jM p x (jU p x z X))), .q (U (jX p x (jU p x z X) (jS p y z Y))), .call (U (mi p (jM p x (jU p x z X)) (jX p x (jU p x z X) (jS p y z Y)))), .call (U (tm p (jS p y z Y) (mi p (jM p x (jU p x z X)) (jX p x (jU p x z X) (jS p y z Y))))), .q (.agg (kd p r c gx gy).toArray), .q (PT J1_1 1), .q (U y), .q (U (jC p (jU p x z X))), .call (U (tm p y (jC p (jU p x z X)))), .call (U (mi p (tm p (jS p y z Y) (mi p (jM p x (jU p x z X)) (jX p x (jU p x z X) (jS p y z Y)))) (tm p y (jC p (jU p x z X))))), .q (.agg (kd p r c gx gy).toArray), .q (PT J1_1 2), .q (U z), .q (U (jU p x z X)), .call (U (tm p z (jU p x z X))), .q (.agg (tr (jX p x (jU p x z X) (jS p y z Y)) (mi p (tm p (jS p y z Y) (mi p (jM p x (jU p x z X)) (jX p x (jU p x z X) (jS p y z Y)))) (tm p y (jC p (jU p x z X)))) (tm p z (jU p x z X))).toArray), .q (U (jS p y z Y))] _ ?pre12 ?F12 _ ?hpre12 (fun J => ?hF12) (by kernel_rfl) rfl trivial (sB H11) ?ho12 ?hla12 ?he12
 case hpre12 => simp only [tk, tz]; rfl
 case hF12 => simp only [fill, Kind.val, Act.put, sa, sz, ss]; rfl
 case ho12 =>
  refine ar ?_
  refine bT 0 Ai78 As78 ?_
  refine bT 0 Ai78 As78 ?_
  refine ar ?_
  refine bT 0 Ai78 As78 ?_
  refine ar ?_
  refine ar ?_
  refine ak (fun J => ⟨rfl, fun w' h => eC call78 (minus_any hp (jM p x (jU p x z X)) (jX p x (jU p x z X) (jS p y z Y)) (tm_lt hp) (mi_lt hp) w')⟩) ?_
  refine ak (fun J => ⟨rfl, fun w' h => eC call67 (zV hp (jS p y z Y) (mi p (jM p x (jU p x z X)) (jX p x (jU p x z X) (jS p y z Y))) (mi_lt hp) (mi_lt hp) w')⟩) ?_
  refine bT 0 Ai78 As78 ?_
  refine ag ?_
  refine bC 1 Ai22 ?_
  refine ar ?_
  refine ak (fun J => ⟨rfl, fun w' h => eC call67 (zV hp y (jC p (jU p x z X)) hy (tm_lt hp) w')⟩) ?_
  refine ak (fun J => ⟨rfl, fun w' h => eC call78 (minus_any hp (tm p (jS p y z Y) (mi p (jM p x (jU p x z X)) (jX p x (jU p x z X) (jS p y z Y)))) (tm p y (jC p (jU p x z X))) (tm_lt hp) (tm_lt hp) w')⟩) ?_
  refine bT 0 Ai78 As78 ?_
  refine ag ?_
  refine bC 1 Ai22 ?_
  refine ar ?_
  refine ak (fun J => ⟨rfl, fun w' h => eC call67 (zV hp z (jU p x z X) hz (mi_lt hp) w')⟩) ?_
  refine ak (fun J => ⟨rfl, fun w' _ => ex_build77_012 rfl rfl rfl rfl⟩) ?_
  refine ar ?_
  exact trivial
 case hla12 => exact ⟨⟨_, _, rfl, rfl, fun J => ⟨rfl, fun w' => by first | rfl | go_simp⟩⟩, trivial⟩
 intro J w12 l hM hl
 have H12 := keepB H11 hM.below
 clear hM hl l H11 J
 refine ⟨_, ex_storeT (vs := tr (jX p x (jU p x z X) (jS p y z Y)) (mi p (tm p (jS p y z Y) (mi p (jM p x (jU p x z X)) (jX p x (jU p x z X) (jS p y z Y)))) (tm p y (jC p (jU p x z X)))) (tm p z (jU p x z X))) H12.out.1 3 rfl rfl rfl rfl As93 rfl (Nat.le_of_ble_eq_true rfl), ?_⟩
 have H13 : Hid (Mm (w12.setCells J1_3 0 (tr (jX p x (jU p x z X) (jS p y z Y)) (mi p (tm p (jS p y z Y) (mi p (jM p x (jU p x z X)) (jX p x (jU p x z X) (jS p y z Y)))) (tm p y (jC p (jU p x z X)))) (tm p z (jU p x z X)))) [(J1_0, kd p r c gx gy), (J1_1, tr x y z), (J1_2, pt X Y false), (J1_3, tr (jX p x (jU p x z X) (jS p y z Y)) (mi p (tm p (jS p y z Y) (mi p (jM p x (jU p x z X)) (jX p x (jU p x z X) (jS p y z Y)))) (tm p y (jC p (jU p x z X)))) (tm p z (jU p x z X)))] ∧ Below w.heap.size w (w12.setCells J1_3 0 (tr (jX p x (jU p x z X) (jS p y z Y)) (mi p (tm p (jS p y z Y) (mi p (jM p x (jU p x z X)) (jX p x (jU p x z X) (jS p y z Y)))) (tm p y (jC p (jU p x z X)))) (tm p z (jU p x z X))))) := ⟨H12.out.1.put 3 (off := 0) (vs := tr (jX p x (jU p x z X) (jS p y z Y)) (mi p (tm p (jS p y z Y) (mi p (jM p x (jU p x z X)) (jX p x (jU p x z X) (jS p y z Y)))) (tm p y (jC p (jU p x z X)))) (tm p z (jU p x z X))) rfl (Nat.le_of_ble_eq_true rfl), below_setCells _ o1_3.out _ _ _ H12.out.2⟩
 clear H12
 generalize hgw : World.setCells _ _ _ _ = w13 at H13 ⊢
 clear hgw
 refine zF (l := [23]) rfl ?_
 refine zG (d := 7) rfl rfl rfl rfl ?_
 simp only [Act.put, sa, sz, ss]
 refine zE (zA (wp_ret ?_))
 repeat (first | refine zJ ?_ | refine zI ?_)
 have hf0 := var_T H13.out.1 3 rfl Ai93 As93 rfl
 refine bodyPost_ret (v := .tuple #[.agg (tr (jX p x (jU p x z X) (jS p y z Y)) (mi p (tm p (jS p y z Y) (mi p (jM p x (jU p x z X)) (jX p x (jU p x z X) (jS p y z Y)))) (tm p y (jC p (jU p x z X)))) (tm p z (jU p x z X))).toArray, U (jS p y z Y)]) (by simp [results, Tryz.results49, asAddr, Act.eval, hf0]) rfl ?_
 exact ⟨rfl, H13.out.2⟩
theorem joined_any (hp : Pr p) (t : T3) (ht : Lt3 p t) (X Y : Nat) (Z : Bool) (hX : X < p) (hY : Y < p) (w : World) : Calls Tryz.prog 49 #[.agg (kd p r c gx gy).toArray, .agg (tr t.1 t.2.1 t.2.2).toArray, .agg (pt X Y Z).toArray] w (Rt w (.tuple #[V (tc (jnT p t X Y Z)), U (jnR p t X Y Z)])) := by
 cases Z
 ·by_cases h : t.2.2 = 0
  ·rw [jnT_0 h, jnR_0 h]; exact joined_0 _ _ _ X Y h w
  ·by_cases h1 : jU p t.1 t.2.2 X = 0
   ·by_cases h2 : jS p t.2.1 t.2.2 Y = 0
    ·rw [jnT_s h ⟨h1, h2⟩, jnR_s h ⟨h1, h2⟩]; exact joined_same hp _ _ _ ht.x ht.y ht.z X Y hX hY h h1 h2 w
    ·rw [jnT_g h (fun e => h2 e.2), jnR_g h (fun e => h2 e.2)]; exact joined_s hp _ _ _ ht.x ht.y ht.z X Y hX hY h h1 h2 w
   ·rw [jnT_g h (fun e => h1 e.1), jnR_g h (fun e => h1 e.1)]; exact joined_u hp _ _ _ ht.x ht.y ht.z X Y hX hY h h1 w
 ·exact joined_z _ _ _ X Y w
end
end Lt
end Rg
end Go.Proofs.YtahgdighnlekdaaGreatDoor
end
section
namespace Go.Proofs.YtahgdighnlekdaaGreatDoor
open Go.RowKit
namespace Rg
namespace Lt
theorem len_in (n : Nat) (hn : n < 18446744073709551616) (w : World) : Calls Tryz.prog 68 #[U n] w (Rt w (.int .i64 ((bl n : Nat) : Int))) := by
 have h := len64_any (n : Int) w (by omega) (by omega)
 rw [Int.toNat_natCast] at h
 exact Calls.mono h (fun e w' h => ⟨h.1, by rw [h.2]; exact Below.refl _ _⟩)
theorem call49 : CO 49 := by intro args w; go_simp
theorem call46 : CO 46 := by intro args w; go_simp
theorem call65 : CO 65 := by intro args w; go_simp
theorem call68 : CO 68 := by intro args w; go_simp
section
variable {p r c gx gy : Nat}
set_option maxHeartbeats 1000000 in
theorem multiple_any (hp : Pr p) (X Y : Nat) (Z : Bool) (hX : X < p) (hY : Y < p) (n : Nat) (hn : n < 18446744073709551616) (w : World) :
  Calls Tryz.prog 46 #[.agg (kd p r c gx gy).toArray, .agg (pt X Y Z).toArray, U n] w (Rt w (V (tc (mt p X Y Z n)))) := by
 have H0 : Hid (_ ∧ _) := ⟨Mm.nil w, Below.refl w.heap.size w⟩
 go_enter Tryz.func46, Tryz.ntmps46
 refine wp_seq ?_
 refine zD 3 [.made (kd p r c gx gy) 78, .made (pt X Y Z) 35, .made (tr 0 0 0) 93] (sB H0) ?ho1 ?he1
 case ho1 => exact am (zN rfl rfl) (am (zN rfl rfl) (am (ex_made77 rfl) trivial))
 intro J w1 l hM hl
 have H1 : Hid (Mm w1 [(J 0, kd p r c gx gy), (J 1, pt X Y Z), (J 2, tr 0 0 0)] ∧ _) := wB H0 hM hl [0, 1, 2]
 have o1_0 := vB H0 hM hl 0
 have o1_1 := vB H0 hM hl 1
 have o1_2 := vB H0 hM hl 2
 clear hM hl l
 generalize J 0 = J1_0 at H1 o1_0 ⊢
 generalize J 1 = J1_1 at H1 o1_1 ⊢
 generalize J 2 = J1_2 at H1 o1_2 ⊢
 clear J
 refine rN (wp_seq ?_)
 refine zD 1 [.made (tr 0 0 0) 93] (sB H1) ?ho2 ?he2
 case ho2 => exact am (ex_made77 rfl) trivial
 intro J w2 l hM hl
 have H2 : Hid (Mm w2 ([(J 0, tr 0 0 0)] ++ _) ∧ _) := wB H1 hM hl [0]
 have o2_0 := vB H1 hM hl 0
 clear hM hl l H1
 generalize J 0 = J2_0 at H2 o2_0 ⊢
 clear J
 refine rN (wp_seq (wp_seq ?_))
 refine zB 4 [.q (U n), .call (.int .i64 ((bl n : Nat) : Int)), .q (.int .i64 (((bl n : Nat) : Int) - 1)), .q (.int .i64 (((bl n : Nat) : Int) - 1))] H2 ?ho3 ?he3
 case ho3 => exact ar (ac (fun w' h => eC call68 (len_in n hn w')) (ak (by refine fun J => ⟨rfl, fun w' h => ?_⟩; clear h; have hbl := bl_le_of n 64 hn; go_simp; rw [IntKind.wrap_i64]; omega) (ar trivial)))
 intro _ w3 H3
 clear H2
 refine rN (wp_block ?_)
 refine loop_ghost (α := Nat) (fun k a' w' => ∃ s0 : Nat → Value, a' = ⟨#[.agg (kd p r c gx gy).toArray, .agg (pt X Y Z).toArray, U n, PT J1_0 0, PT J1_1 0, undef, PT J1_2 0, PT J2_0 0, .int .i64 (((k : Nat) : Int) - 1), U n, .int .i64 ((bl n : Nat) : Int), .int .i64 (((bl n : Nat) : Int) - 1), s0 12, s0 13, s0 14, s0 15, s0 16, s0 17, s0 18, s0 19, s0 20, s0 21, s0 22, s0 23, s0 24, s0 25, s0 26, s0 27, s0 28, s0 29, s0 30, s0 31, s0 32, s0 33, undef], []⟩ ∧ (Mm w' [(J2_0, tc (mt p X Y Z (n / 2 ^ k))), (J1_0, kd p r c gx gy), (J1_1, pt X Y Z), (J1_2, tr 0 0 0)] ∧ Below w.heap.size w w') ∧ k ≤ 64) (fun k => k) (bl n) ?st0 ?rd0
 case st0 => exact ⟨(slotfn [ud, ud, ud, ud, ud, ud, ud, ud, ud, ud, ud, ud, ud, ud, ud, ud, ud, ud, ud, ud, ud, ud, ud, ud, ud, ud, ud, ud, ud, ud, ud, ud, ud, ud]), rfl, ⟨by rw [Nat.div_eq_of_lt (bl_lt n), mt_zero]; exact H3.out.1, H3.out.2⟩, bl_le_of n 64 hn⟩
 intro k a' w4 hI
 obtain ⟨s0, rfl, hMB, hk0⟩ := hI
 have H4 : Hid (_ ∧ _) := hMB
 clear hMB H3
 by_cases hlt : 0 < k
 ·have hrd : True := trivial
  clear hrd
  obtain ⟨j, rfl⟩ : ∃ j, k = j + 1 := ⟨k - 1, by omega⟩
  rw [show (((j + 1 : Nat) : Int) - 1) = ((j : Nat) : Int) by omega]
  by_cases hb : n / 2 ^ j % 2 = 1
  ·have hrd : True := trivial
   clear hrd
   refine wp_seq (wp_seq ?_)
   refine zB 2 [.q (.int .i64 ((j : Nat) : Int)), .q (.bool true)] H4 ?ho4 ?he4
   case ho4 => exact ar (ag trivial)
   intro _ w5 H5
   clear H4
   refine rN (wp_cond_true rfl ?_)
   refine wp_skip (zA ?_)
   refine wp_seq (wp_block (wp_seq ?_))
   refine zB 6 [.q (.agg (kd p r c gx gy).toArray), .q (.agg (tc (mt p X Y Z (n / 2 ^ (j + 1)))).toArray), .call (.tuple #[.agg (tr ((twT p (mt p X Y Z (n / 2 ^ (j + 1)))).1) ((twT p (mt p X Y Z (n / 2 ^ (j + 1)))).2.1) ((twT p (mt p X Y Z (n / 2 ^ (j + 1)))).2.2)).toArray, U (tR p (mt p X Y Z (n / 2 ^ (j + 1))).1 (mt p X Y Z (n / 2 ^ (j + 1))).2.2)]), .q (.tuple #[.agg (tr ((twT p (mt p X Y Z (n / 2 ^ (j + 1)))).1) ((twT p (mt p X Y Z (n / 2 ^ (j + 1)))).2.1) ((twT p (mt p X Y Z (n / 2 ^ (j + 1)))).2.2)).toArray, U (tR p (mt p X Y Z (n / 2 ^ (j + 1))).1 (mt p X Y Z (n / 2 ^ (j + 1))).2.2)]), .q (.agg (tr ((twT p (mt p X Y Z (n / 2 ^ (j + 1)))).1) ((twT p (mt p X Y Z (n / 2 ^ (j + 1)))).2.1) ((twT p (mt p X Y Z (n / 2 ^ (j + 1)))).2.2)).toArray), .q (U (tR p (mt p X Y Z (n / 2 ^ (j + 1))).1 (mt p X Y Z (n / 2 ^ (j + 1))).2.2))] H5 ?ho5 ?he5
   case ho5 => exact bT 1 Ai78 As78 (bT 0 Ai93 As93 (ac (fun w' h => eC call69 (twice_any hp (mt p X Y Z (n / 2 ^ (j + 1))) (mt_lt hp hX hY _) w')) (ar (ag (ag trivial)))))
   intro _ w6 H6
   clear H5
   refine zF (l := [6]) rfl ?_
   refine sG rfl (fun h => ex_storeT (vs := tr ((twT p (mt p X Y Z (n / 2 ^ (j + 1)))).1) ((twT p (mt p X Y Z (n / 2 ^ (j + 1)))).2.1) ((twT p (mt p X Y Z (n / 2 ^ (j + 1)))).2.2)) h 0 rfl rfl rfl rfl As93 rfl (Nat.le_of_ble_eq_true rfl)) 0 [(_, tr ((twT p (mt p X Y Z (n / 2 ^ (j + 1)))).1) ((twT p (mt p X Y Z (n / 2 ^ (j + 1)))).2.1) ((twT p (mt p X Y Z (n / 2 ^ (j + 1)))).2.2)), _, _, _] H6 o2_0 fun w7 H7 => ?_
   clear H6
   refine zE (zA (wp_seq ?_))
   refine zB 5 [.q (U n), .q (.int .i64 ((j : Nat) : Int)), .q (U (n / 2 ^ j)), .q (U (n / 2 ^ j % 2)), .q (.bool true)] H7 ?ho6 ?he6
   case ho6 => exact ar (ar (ak (fun J => ⟨rfl, fun w' _ => ex_shrU (by omega) rfl rfl rfl⟩) (ak (fun J => ⟨rfl, fun w' _ => ex_and1 rfl (Nat.lt_of_le_of_lt (Nat.div_le_self _ _) hn) rfl rfl⟩) (ak (fun J => ⟨rfl, fun w' _ => ex_eqU rfl rfl rfl (decide_eq_true (hb))⟩) trivial))))
   intro _ w8 H8
   clear H7
   refine rN (wp_cond_true rfl ?_)
   refine zB 7 [.q (.agg (kd p r c gx gy).toArray), .q (.agg (tr ((twT p (mt p X Y Z (n / 2 ^ (j + 1)))).1) ((twT p (mt p X Y Z (n / 2 ^ (j + 1)))).2.1) ((twT p (mt p X Y Z (n / 2 ^ (j + 1)))).2.2)).toArray), .q (.agg (pt X Y Z).toArray), .call (.tuple #[.agg (tr ((jnT p (twT p (mt p X Y Z (n / 2 ^ (j + 1)))) X Y Z).1) ((jnT p (twT p (mt p X Y Z (n / 2 ^ (j + 1)))) X Y Z).2.1) ((jnT p (twT p (mt p X Y Z (n / 2 ^ (j + 1)))) X Y Z).2.2)).toArray, U (jnR p (twT p (mt p X Y Z (n / 2 ^ (j + 1)))) X Y Z)]), .q (.tuple #[.agg (tr ((jnT p (twT p (mt p X Y Z (n / 2 ^ (j + 1)))) X Y Z).1) ((jnT p (twT p (mt p X Y Z (n / 2 ^ (j + 1)))) X Y Z).2.1) ((jnT p (twT p (mt p X Y Z (n / 2 ^ (j + 1)))) X Y Z).2.2)).toArray, U (jnR p (twT p (mt p X Y Z (n / 2 ^ (j + 1)))) X Y Z)]), .q (.agg (tr ((jnT p (twT p (mt p X Y Z (n / 2 ^ (j + 1)))) X Y Z).1) ((jnT p (twT p (mt p X Y Z (n / 2 ^ (j + 1)))) X Y Z).2.1) ((jnT p (twT p (mt p X Y Z (n / 2 ^ (j + 1)))) X Y Z).2.2)).toArray), .q (U (jnR p (twT p (mt p X Y Z (n / 2 ^ (j + 1)))) X Y Z))] H8 ?ho7 ?he7
   case ho7 => exact bT 1 Ai78 As78 (bT 0 Ai93 As93 (bT 2 Ai35 As35 (ac (fun w' h => eC call49 (joined_any hp (twT p (mt p X Y Z (n / 2 ^ (j + 1)))) (tw_lt hp _) X Y Z hX hY w')) (ar (ag (ag trivial))))))
   intro _ w9 H9
   clear H8
   refine zF (l := [7]) rfl ?_
   refine sG rfl (fun h => ex_storeT (vs := tr ((jnT p (twT p (mt p X Y Z (n / 2 ^ (j + 1)))) X Y Z).1) ((jnT p (twT p (mt p X Y Z (n / 2 ^ (j + 1)))) X Y Z).2.1) ((jnT p (twT p (mt p X Y Z (n / 2 ^ (j + 1)))) X Y Z).2.2)) h 0 rfl rfl rfl rfl As93 rfl (Nat.le_of_ble_eq_true rfl)) 0 [(_, tr ((jnT p (twT p (mt p X Y Z (n / 2 ^ (j + 1)))) X Y Z).1) ((jnT p (twT p (mt p X Y Z (n / 2 ^ (j + 1)))) X Y Z).2.1) ((jnT p (twT p (mt p X Y Z (n / 2 ^ (j + 1)))) X Y Z).2.2)), _, _, _] H9 o2_0 fun w10 H10 => ?_
   clear H9
   refine zE (zK (zA ?_))
   refine zB 2 [.q (.int .i64 ((j : Nat) : Int)), .q (.int .i64 (((j : Nat) : Int) - 1))] H10 ?ho8 ?he8
   case ho8 => exact ar (ak (by refine fun J => ⟨rfl, fun w' h => ?_⟩; clear h; go_simp; rw [IntKind.wrap_i64]; omega) trivial)
   intro _ w11 H11
   clear H10
   refine zF (l := [2]) rfl ?_
   refine zG (d := 8) rfl rfl rfl rfl ?_
   simp only [Act.put, sa, sz, ss]
   refine zE (zA ?_)
   exact ⟨j, ⟨(slotfn [ud, ud, ud, ud, ud, ud, ud, ud, ud, ud, ud, ud, .int .i64 ((j : Nat) : Int), .bool true, .int .i64 ((j : Nat) : Int), .int .i64 (((j : Nat) : Int) - 1), .tuple #[.agg (tr ((twT p (mt p X Y Z (n / 2 ^ (j + 1)))).1) ((twT p (mt p X Y Z (n / 2 ^ (j + 1)))).2.1) ((twT p (mt p X Y Z (n / 2 ^ (j + 1)))).2.2)).toArray, U (tR p (mt p X Y Z (n / 2 ^ (j + 1))).1 (mt p X Y Z (n / 2 ^ (j + 1))).2.2)], .agg (kd p r c gx gy).toArray, .agg (tc (mt p X Y Z (n / 2 ^ (j + 1)))).toArray, .tuple #[.agg (tr ((twT p (mt p X Y Z (n / 2 ^ (j + 1)))).1) ((twT p (mt p X Y Z (n / 2 ^ (j + 1)))).2.1) ((twT p (mt p X Y Z (n / 2 ^ (j + 1)))).2.2)).toArray, U (tR p (mt p X Y Z (n / 2 ^ (j + 1))).1 (mt p X Y Z (n / 2 ^ (j + 1))).2.2)], .agg (tr ((twT p (mt p X Y Z (n / 2 ^ (j + 1)))).1) ((twT p (mt p X Y Z (n / 2 ^ (j + 1)))).2.1) ((twT p (mt p X Y Z (n / 2 ^ (j + 1)))).2.2)).toArray, U (tR p (mt p X Y Z (n / 2 ^ (j + 1))).1 (mt p X Y Z (n / 2 ^ (j + 1))).2.2), U n, .int .i64 ((j : Nat) : Int), U (n / 2 ^ j), U (n / 2 ^ j % 2), .bool true, .tuple #[.agg (tr ((jnT p (twT p (mt p X Y Z (n / 2 ^ (j + 1)))) X Y Z).1) ((jnT p (twT p (mt p X Y Z (n / 2 ^ (j + 1)))) X Y Z).2.1) ((jnT p (twT p (mt p X Y Z (n / 2 ^ (j + 1)))) X Y Z).2.2)).toArray, U (jnR p (twT p (mt p X Y Z (n / 2 ^ (j + 1)))) X Y Z)], .agg (kd p r c gx gy).toArray, .agg (tr ((twT p (mt p X Y Z (n / 2 ^ (j + 1)))).1) ((twT p (mt p X Y Z (n / 2 ^ (j + 1)))).2.1) ((twT p (mt p X Y Z (n / 2 ^ (j + 1)))).2.2)).toArray, .agg (pt X Y Z).toArray, .tuple #[.agg (tr ((jnT p (twT p (mt p X Y Z (n / 2 ^ (j + 1)))) X Y Z).1) ((jnT p (twT p (mt p X Y Z (n / 2 ^ (j + 1)))) X Y Z).2.1) ((jnT p (twT p (mt p X Y Z (n / 2 ^ (j + 1)))) X Y Z).2.2)).toArray, U (jnR p (twT p (mt p X Y Z (n / 2 ^ (j + 1)))) X Y Z)], .agg (tr ((jnT p (twT p (mt p X Y Z (n / 2 ^ (j + 1)))) X Y Z).1) ((jnT p (twT p (mt p X Y Z (n / 2 ^ (j + 1)))) X Y Z).2.1) ((jnT p (twT p (mt p X Y Z (n / 2 ^ (j + 1)))) X Y Z).2.2)).toArray, U (jnR p (twT p (mt p X Y Z (n / 2 ^ (j + 1)))) X Y Z)]), rfl, ⟨by rw [mt_bit X Y Z n j hn, if_pos hb]; exact H11.out.1, H11.out.2⟩, by omega⟩, by omega⟩
  ·have hrd : True := trivial
   clear hrd
   refine wp_seq (wp_seq ?_)
   refine zB 2 [.q (.int .i64 ((j : Nat) : Int)), .q (.bool true)] H4 ?ho9 ?he9
   case ho9 => exact ar (ag trivial)
   intro _ w12 H12
   clear H4
   refine rN (wp_cond_true rfl ?_)
   refine wp_skip (zA ?_)
   refine wp_seq (wp_block (wp_seq ?_))
   refine zB 6 [.q (.agg (kd p r c gx gy).toArray), .q (.agg (tc (mt p X Y Z (n / 2 ^ (j + 1)))).toArray), .call (.tuple #[.agg (tr ((twT p (mt p X Y Z (n / 2 ^ (j + 1)))).1) ((twT p (mt p X Y Z (n / 2 ^ (j + 1)))).2.1) ((twT p (mt p X Y Z (n / 2 ^ (j + 1)))).2.2)).toArray, U (tR p (mt p X Y Z (n / 2 ^ (j + 1))).1 (mt p X Y Z (n / 2 ^ (j + 1))).2.2)]), .q (.tuple #[.agg (tr ((twT p (mt p X Y Z (n / 2 ^ (j + 1)))).1) ((twT p (mt p X Y Z (n / 2 ^ (j + 1)))).2.1) ((twT p (mt p X Y Z (n / 2 ^ (j + 1)))).2.2)).toArray, U (tR p (mt p X Y Z (n / 2 ^ (j + 1))).1 (mt p X Y Z (n / 2 ^ (j + 1))).2.2)]), .q (.agg (tr ((twT p (mt p X Y Z (n / 2 ^ (j + 1)))).1) ((twT p (mt p X Y Z (n / 2 ^ (j + 1)))).2.1) ((twT p (mt p X Y Z (n / 2 ^ (j + 1)))).2.2)).toArray), .q (U (tR p (mt p X Y Z (n / 2 ^ (j + 1))).1 (mt p X Y Z (n / 2 ^ (j + 1))).2.2))] H12 ?ho10 ?he10
   case ho10 => exact bT 1 Ai78 As78 (bT 0 Ai93 As93 (ac (fun w' h => eC call69 (twice_any hp (mt p X Y Z (n / 2 ^ (j + 1))) (mt_lt hp hX hY _) w')) (ar (ag (ag trivial)))))
   intro _ w13 H13
   clear H12
   refine zF (l := [6]) rfl ?_
   refine sG rfl (fun h => ex_storeT (vs := tr ((twT p (mt p X Y Z (n / 2 ^ (j + 1)))).1) ((twT p (mt p X Y Z (n / 2 ^ (j + 1)))).2.1) ((twT p (mt p X Y Z (n / 2 ^ (j + 1)))).2.2)) h 0 rfl rfl rfl rfl As93 rfl (Nat.le_of_ble_eq_true rfl)) 0 [(_, tr ((twT p (mt p X Y Z (n / 2 ^ (j + 1)))).1) ((twT p (mt p X Y Z (n / 2 ^ (j + 1)))).2.1) ((twT p (mt p X Y Z (n / 2 ^ (j + 1)))).2.2)), _, _, _] H13 o2_0 fun w14 H14 => ?_
   clear H13
   refine zE (zA (wp_seq ?_))
   refine zB 5 [.q (U n), .q (.int .i64 ((j : Nat) : Int)), .q (U (n / 2 ^ j)), .q (U (n / 2 ^ j % 2)), .q (.bool false)] H14 ?ho11 ?he11
   case ho11 => exact ar (ar (ak (fun J => ⟨rfl, fun w' _ => ex_shrU (by omega) rfl rfl rfl⟩) (ak (fun J => ⟨rfl, fun w' _ => ex_and1 rfl (Nat.lt_of_le_of_lt (Nat.div_le_self _ _) hn) rfl rfl⟩) (ak (fun J => ⟨rfl, fun w' _ => ex_eqU rfl rfl rfl (decide_eq_false (hb))⟩) trivial))))
   intro _ w15 H15
   clear H14
   refine rN (wp_cond_false rfl ?_)
   refine wp_skip (zK (zA ?_))
   refine zB 2 [.q (.int .i64 ((j : Nat) : Int)), .q (.int .i64 (((j : Nat) : Int) - 1))] H15 ?ho12 ?he12
   case ho12 => exact ar (ak (by refine fun J => ⟨rfl, fun w' h => ?_⟩; clear h; go_simp; rw [IntKind.wrap_i64]; omega) trivial)
   intro _ w16 H16
   clear H15
   refine zF (l := [2]) rfl ?_
   refine zG (d := 8) rfl rfl rfl rfl ?_
   simp only [Act.put, sa, sz, ss]
   refine zE (zA ?_)
   exact ⟨j, ⟨(slotfn [ud, ud, ud, ud, ud, ud, ud, ud, ud, ud, ud, ud, .int .i64 ((j : Nat) : Int), .bool true, .int .i64 ((j : Nat) : Int), .int .i64 (((j : Nat) : Int) - 1), .tuple #[.agg (tr ((twT p (mt p X Y Z (n / 2 ^ (j + 1)))).1) ((twT p (mt p X Y Z (n / 2 ^ (j + 1)))).2.1) ((twT p (mt p X Y Z (n / 2 ^ (j + 1)))).2.2)).toArray, U (tR p (mt p X Y Z (n / 2 ^ (j + 1))).1 (mt p X Y Z (n / 2 ^ (j + 1))).2.2)], .agg (kd p r c gx gy).toArray, .agg (tc (mt p X Y Z (n / 2 ^ (j + 1)))).toArray, .tuple #[.agg (tr ((twT p (mt p X Y Z (n / 2 ^ (j + 1)))).1) ((twT p (mt p X Y Z (n / 2 ^ (j + 1)))).2.1) ((twT p (mt p X Y Z (n / 2 ^ (j + 1)))).2.2)).toArray, U (tR p (mt p X Y Z (n / 2 ^ (j + 1))).1 (mt p X Y Z (n / 2 ^ (j + 1))).2.2)], .agg (tr ((twT p (mt p X Y Z (n / 2 ^ (j + 1)))).1) ((twT p (mt p X Y Z (n / 2 ^ (j + 1)))).2.1) ((twT p (mt p X Y Z (n / 2 ^ (j + 1)))).2.2)).toArray, U (tR p (mt p X Y Z (n / 2 ^ (j + 1))).1 (mt p X Y Z (n / 2 ^ (j + 1))).2.2), U n, .int .i64 ((j : Nat) : Int), U (n / 2 ^ j), U (n / 2 ^ j % 2), .bool false, s0 27, s0 28, s0 29, s0 30, s0 31, s0 32, s0 33]), rfl, ⟨by rw [mt_bit X Y Z n j hn, if_neg hb]; exact H16.out.1, H16.out.2⟩, by omega⟩, by omega⟩
 have hk : k = 0 := by omega
 subst hk
 refine wp_seq (wp_seq ?_)
 refine zB 2 [.q (.int .i64 (((0 : Nat) : Int) - 1)), .q (.bool false)] H4 ?ho13 ?he13
 case ho13 => exact ar (ag trivial)
 intro _ w17 H17
 clear H4
 refine rN (wp_cond_false rfl ?_)
 refine wp_exit ?_
 repeat refine then_exit ?_
 refine block_exit ?_
 refine zA (wp_seq ?_)
 refine zB 1 [.q (.agg (tc (mt p X Y Z (n / 2 ^ 0))).toArray)] H17 ?ho14 ?he14
 case ho14 => exact bT 0 Ai93 As93 trivial
 intro _ w18 H18
 clear H17
 refine zF (l := [1]) rfl ?_
 refine sG rfl (fun h => ex_storeT (vs := tc (mt p X Y Z (n / 2 ^ 0))) h 3 rfl rfl rfl rfl As93 rfl (Nat.le_of_ble_eq_true rfl)) 3 [_, _, _, (_, tc (mt p X Y Z (n / 2 ^ 0)))] H18 o1_2 fun w19 H19 => ?_
 clear H18
 refine zE (zA (wp_ret ?_))
 repeat (first | refine zJ ?_ | refine zI ?_)
 have hf0 := var_T H19.out.1 3 rfl Ai93 As93 rfl
 refine bodyPost_ret (v := .agg (tc (mt p X Y Z (n / 2 ^ 0))).toArray) (by simp [results, Tryz.results46, asAddr, hf0]) rfl ?_
 exact ⟨by rw [Nat.pow_zero, Nat.div_one], H19.out.2⟩
theorem oc_lt {p X Y : Nat} {Z : Bool} (hp : Pr p) (h : oc p X Y Z = true) : X < p ∧ Y < p := by
 unfold oc at h
 split at h
 ·simp at h
  rw [h.1, h.2]
  exact ⟨zero_lt hp, zero_lt hp⟩
 ·simp at h
  exact ⟨h.1, h.2.1⟩
theorem on_is (hp : Pr p) (X Y : Nat) (Z t : Bool) (h : oc p X Y Z = t) (w : World) : Calls Tryz.prog 65 #[.agg (kd p r c gx gy).toArray, .agg (pt X Y Z).toArray] w (Rt w (.bool t)) := by
 rw [← h]
 exact onCurve_any hp X Y Z w
theorem in_no (hp : Pr p) (X Y : Nat) (Z : Bool) (hoc : oc p X Y Z = false) (w : World) :
  Calls Tryz.prog 52 #[.agg (kd p r c gx gy).toArray, .agg (pt X Y Z).toArray] w (Rt w (.bool false)) := by
 have H0 : Hid (_ ∧ _) := ⟨Mm.nil w, Below.refl w.heap.size w⟩
 go_enter Tryz.func52, Tryz.ntmps52
 refine wp_seq ?_
 refine zD 3 [.made (kd p r c gx gy) 78, .made (pt X Y Z) 35, .q (.bool false)] (sB H0) ?ho1 ?he1
 case ho1 => exact am (zN rfl rfl) (am (zN rfl rfl) (ar trivial))
 intro J w1 l hM hl
 have H1 : Hid (Mm w1 [(J 0, kd p r c gx gy), (J 1, pt X Y Z)] ∧ _) := wB H0 hM hl [0, 1]
 have o1_0 := vB H0 hM hl 0
 have o1_1 := vB H0 hM hl 1
 clear hM hl l
 generalize J 0 = J1_0 at H1 o1_0 ⊢
 generalize J 1 = J1_1 at H1 o1_1 ⊢
 clear J
 refine rN (wp_seq ?_)
 refine zB 13 [.q (.agg (kd p r c gx gy).toArray), .q (.agg (pt X Y Z).toArray), .call (.bool false), .q (.bool false), .gone, .gone, .gone, .gone, .gone, .gone, .gone, .q (.bool false), .q (.bool false)] H1 ?ho2 ?he2
 case ho2 => exact bT 0 Ai78 As78 (bT 1 Ai35 As35 (ac (fun w' h => eC call65 (on_is hp X Y Z _ hoc w')) (ar (ak (fun J => rfl) (ak (fun J => rfl) (ak (fun J => rfl) (ak (fun J => rfl) (ak (fun J => rfl) (ak (fun J => rfl) (ak (fun J => rfl) (ag (ar trivial))))))))))))
 intro _ w2 H2
 clear H1
 refine rN (wp_ret ?_)
 repeat (first | refine zJ ?_ | refine zI ?_)
 refine bodyPost_ret (v := .bool false) (by simp [results, Tryz.results52, go_sem, *]) rfl ?_
 exact ⟨rfl, H2.out.2⟩
theorem in_yes (hp : Pr p) (X Y : Nat) (Z : Bool) (hoc : oc p X Y Z = true) (hr : r < 18446744073709551616) (w : World) :
  Calls Tryz.prog 52 #[.agg (kd p r c gx gy).toArray, .agg (pt X Y Z).toArray] w (Rt w (.bool (decide ((mt p X Y Z r).2.2 = 0)))) := by
 have H0 : Hid (_ ∧ _) := ⟨Mm.nil w, Below.refl w.heap.size w⟩
 go_enter Tryz.func52, Tryz.ntmps52
 refine wp_seq ?_
 refine zD 3 [.made (kd p r c gx gy) 78, .made (pt X Y Z) 35, .q (.bool false)] (sB H0) ?ho1 ?he1
 case ho1 => exact am (zN rfl rfl) (am (zN rfl rfl) (ar trivial))
 intro J w1 l hM hl
 have H1 : Hid (Mm w1 [(J 0, kd p r c gx gy), (J 1, pt X Y Z)] ∧ _) := wB H0 hM hl [0, 1]
 have o1_0 := vB H0 hM hl 0
 have o1_1 := vB H0 hM hl 1
 clear hM hl l
 generalize J 0 = J1_0 at H1 o1_0 ⊢
 generalize J 1 = J1_1 at H1 o1_1 ⊢
 clear J
 refine rN (wp_seq ?_)
 refine zB 13 [.q (.agg (kd p r c gx gy).toArray), .q (.agg (pt X Y Z).toArray), .call (.bool true), .q (.bool true), .q (.agg (kd p r c gx gy).toArray), .q (.agg (pt X Y Z).toArray), .q (PT J1_0 1), .q (U r), .call (.agg (tr ((mt p X Y Z r).1) ((mt p X Y Z r).2.1) ((mt p X Y Z r).2.2)).toArray), .q (U ((mt p X Y Z r).2.2)), .q (.bool (decide ((mt p X Y Z r).2.2 = 0))), .q (.bool (decide ((mt p X Y Z r).2.2 = 0))), .q (.bool (decide ((mt p X Y Z r).2.2 = 0)))] H1 ?ho2 ?he2
 case ho2 => exact bT 0 Ai78 As78 (bT 1 Ai35 As35 (ac (fun w' h => eC call65 (on_is hp X Y Z _ hoc w')) (ar (bT 0 Ai78 As78 (bT 1 Ai35 As35 (ag (bC 0 Ai22 (ac (fun w' h => eC call46 (multiple_any hp X Y Z (oc_lt hp hoc).1 (oc_lt hp hoc).2 r hr w')) (ak (fun J => ⟨rfl, fun w' _ => ex_field77_2 rfl rfl rfl⟩) (ak (fun J => ⟨rfl, fun w' _ => ex_eqU rfl rfl rfl rfl⟩) (ag (ar trivial))))))))))))
 intro _ w2 H2
 clear H1
 refine rN (wp_ret ?_)
 repeat (first | refine zJ ?_ | refine zI ?_)
 refine bodyPost_ret (v := .bool (decide ((mt p X Y Z r).2.2 = 0))) (by simp [results, Tryz.results52, go_sem, *]) rfl ?_
 exact ⟨rfl, H2.out.2⟩
theorem inGroup_any (hp : Pr p) (hr : r < 18446744073709551616) (X Y : Nat) (Z : Bool) (w : World) : Calls Tryz.prog 52 #[.agg (kd p r c gx gy).toArray, .agg (pt X Y Z).toArray] w (Rt w (.bool (ig p r X Y Z))) := by
 unfold ig
 cases h : oc p X Y Z
 ·exact in_no hp X Y Z h w
 ·exact in_yes hp X Y Z h hr w
end
end Lt
end Rg
end Go.Proofs.YtahgdighnlekdaaGreatDoor
end
section
namespace Go.Proofs.YtahgdighnlekdaaGreatDoor
open Go.RowKit
namespace Rg
namespace Lt
/-- Two points' cells. -/
abbrev p2 (a b : Nat) (z : Bool) (a' b' : Nat) (z' : Bool) : List Value := [U a, U b, .bool z, U a', U b', .bool z']
theorem zR {P : Program} {c : Code} {Q : Exit → Act → World → Prop} {n : Nat} {a : Act} {w : World} (h : c.wp P (Exit.then (Code.rounds P c Q n) Q) a w) : Code.rounds P c Q (n + 1) a w := h
/-- What a suite is. -/
structure Kd (s : Int) (p r c gx gy : Nat) : Prop where
 pr : Pr p
 rb : r < 18446744073709551616
 cb : c < 18446744073709551616
 kind : ∀ w, Calls Tryz.prog 37 #[.int .i64 s] w (Rt w (.tuple #[V (kd p r c gx gy), .int .i64 0]))
theorem kd_1 : Kd 1 786251 65521 12 9723 164643 := ⟨⟨by decide, by decide⟩, by decide, by decide, kindOf_1⟩
theorem kd_2 : Kd 2 1152921504606846223 72057594037927889 16 613740293506734924 666621259561003659 := ⟨⟨by decide, by decide⟩, by decide, by decide, kindOf_2⟩
theorem call37 : CO 37 := by intro args w; go_simp
theorem call52 : CO 52 := by intro args w; go_simp
section
variable {s : Int} {p r c gx gy : Nat}
theorem Order_ok (k : Kd s p r c gx gy) (w : World) :
  Calls Tryz.prog 19 #[.int .i64 s] w (Rt w (.tuple #[U r, .int .i64 0])) := by
 have H0 : Hid (_ ∧ _) := ⟨Mm.nil w, Below.refl w.heap.size w⟩
 go_enter Tryz.func19, Tryz.ntmps19
 refine wp_seq ?_
 refine zB 2 [.q (U 0), .q (.int .i64 0)] H0 ?ho1 ?he1
 case ho1 => exact ar (ar trivial)
 intro _ w1 H1
 refine rN (wp_seq ?_)
 refine zD 8 [.q (.int .i64 s), .call (.tuple #[.agg (kd p r c gx gy).toArray, .int .i64 0]), .q (.tuple #[.agg (kd p r c gx gy).toArray, .int .i64 0]), .q (.agg (kd p r c gx gy).toArray), .q (.int .i64 0), .made (kd 0 0 0 0 0) 78, .laid 5 (kd 0 0 0 0 0) (kd p r c gx gy), .q (.int .i64 0)] (sB H1) ?ho2 ?he2 (hL := ?hL2)
 case hL2 => exact ⟨⟨_, rfl⟩, trivial⟩
 case ho2 => exact ar (ac (fun w' h => eC call37 (k.kind w')) (ar (ag (ag (am (ex_made72 rfl) (ak (fun J => ⟨rfl, rfl, rfl, fun w' h => ex_laidT h rfl rfl As78 rfl rfl rfl⟩) (ar trivial)))))))
 intro J w2 l hM hl
 have H2 : Hid (Mm w2 [(J 5, kd p r c gx gy)] ∧ _) := wB H1 hM hl [5]
 have o2_5 := vB H1 hM hl 5
 clear hM hl l H1
 generalize J 5 = J2_5 at H2 o2_5 ⊢
 clear J
 refine rN (wp_seq ?_)
 refine zB 5 [.q (PT J2_5 1), .q (U r), .q (.int .i64 0), .q (U r), .q (.int .i64 0)] H2 ?ho3 ?he3
 case ho3 => exact ag (bC 0 Ai22 (ar (ar (ar trivial))))
 intro _ w3 H3
 clear H2
 refine rN (wp_ret ?_)
 repeat (first | refine zJ ?_ | refine zI ?_)
 refine bodyPost_ret (v := .tuple #[U r, .int .i64 0]) (by simp [results, Tryz.results19, go_sem, *]) rfl ?_
 exact ⟨rfl, H3.out.2⟩
theorem Order_no (s : Int) (h1 : s ≠ 1) (h2 : s ≠ 2) (w : World) :
  Calls Tryz.prog 19 #[.int .i64 s] w (Rt w (.tuple #[U 0, .int .i64 2])) := by
 have H0 : Hid (_ ∧ _) := ⟨Mm.nil w, Below.refl w.heap.size w⟩
 go_enter Tryz.func19, Tryz.ntmps19
 refine wp_seq ?_
 refine zB 2 [.q (U 0), .q (.int .i64 0)] H0 ?ho1 ?he1
 case ho1 => exact ar (ar trivial)
 intro _ w1 H1
 refine rN (wp_seq ?_)
 refine zD 8 [.q (.int .i64 s), .call (.tuple #[.agg (kd 0 0 0 0 0).toArray, .int .i64 2]), .q (.tuple #[.agg (kd 0 0 0 0 0).toArray, .int .i64 2]), .q (.agg (kd 0 0 0 0 0).toArray), .q (.int .i64 2), .made (kd 0 0 0 0 0) 78, .laid 5 (kd 0 0 0 0 0) (kd 0 0 0 0 0), .q (.int .i64 2)] (sB H1) ?ho2 ?he2 (hL := ?hL2)
 case hL2 => exact ⟨⟨_, rfl⟩, trivial⟩
 case ho2 => exact ar (ac (fun w' h => eC call37 (kindOf_no s h1 h2 w')) (ar (ag (ag (am (ex_made72 rfl) (ak (fun J => ⟨rfl, rfl, rfl, fun w' h => ex_laidT h rfl rfl As78 rfl rfl rfl⟩) (ar trivial)))))))
 intro J w2 l hM hl
 have H2 : Hid (Mm w2 [(J 5, kd 0 0 0 0 0)] ∧ _) := wB H1 hM hl [5]
 have o2_5 := vB H1 hM hl 5
 clear hM hl l H1
 generalize J 5 = J2_5 at H2 o2_5 ⊢
 clear J
 refine rN (wp_seq ?_)
 refine zB 5 [.q (PT J2_5 1), .q (U 0), .q (.int .i64 2), .q (U 0), .q (.int .i64 2)] H2 ?ho3 ?he3
 case ho3 => exact ag (bC 0 Ai22 (ar (ar (ar trivial))))
 intro _ w3 H3
 clear H2
 refine rN (wp_ret ?_)
 repeat (first | refine zJ ?_ | refine zI ?_)
 refine bodyPost_ret (v := .tuple #[U 0, .int .i64 2]) (by simp [results, Tryz.results19, go_sem, *]) rfl ?_
 exact ⟨rfl, H3.out.2⟩
theorem Gen_ok (k : Kd s p r c gx gy) (w : World) :
  Calls Tryz.prog 22 #[.int .i64 s] w (Rt w (.tuple #[V (pt gx gy false), .int .i64 0])) := by
 have H0 : Hid (_ ∧ _) := ⟨Mm.nil w, Below.refl w.heap.size w⟩
 go_enter Tryz.func22, Tryz.ntmps22
 refine wp_seq ?_
 refine zD 2 [.made (pt 0 0 false) 35, .q (.int .i64 0)] (sB H0) ?ho1 ?he1
 case ho1 => exact am (ex_made25 rfl) (ar trivial)
 intro J w1 l hM hl
 have H1 : Hid (Mm w1 [(J 0, pt 0 0 false)] ∧ _) := wB H0 hM hl [0]
 have o1_0 := vB H0 hM hl 0
 clear hM hl l
 generalize J 0 = J1_0 at H1 o1_0 ⊢
 clear J
 refine rN (wp_seq ?_)
 refine zD 8 [.q (.int .i64 s), .call (.tuple #[.agg (kd p r c gx gy).toArray, .int .i64 0]), .q (.tuple #[.agg (kd p r c gx gy).toArray, .int .i64 0]), .q (.agg (kd p r c gx gy).toArray), .q (.int .i64 0), .made (kd 0 0 0 0 0) 78, .laid 5 (kd 0 0 0 0 0) (kd p r c gx gy), .q (.int .i64 0)] (sB H1) ?ho2 ?he2 (hL := ?hL2)
 case hL2 => exact ⟨⟨_, rfl⟩, trivial⟩
 case ho2 => exact ar (ac (fun w' h => eC call37 (k.kind w')) (ar (ag (ag (am (ex_made72 rfl) (ak (fun J => ⟨rfl, rfl, rfl, fun w' h => ex_laidT h rfl rfl As78 rfl rfl rfl⟩) (ar trivial)))))))
 intro J w2 l hM hl
 have H2 : Hid (Mm w2 ([(J 5, kd p r c gx gy)] ++ _) ∧ _) := wB H1 hM hl [5]
 have o2_5 := vB H1 hM hl 5
 clear hM hl l H1
 generalize J 5 = J2_5 at H2 o2_5 ⊢
 clear J
 refine rN (wp_seq ?_)
 refine zB 3 [.q (PT J2_5 3), .q (.agg (pt gx gy false).toArray), .q (.int .i64 0)] H2 ?ho3 ?he3
 case ho3 => exact ag (bT 0 Ai35 As35 (ar trivial))
 intro _ w3 H3
 clear H2
 refine zF (l := [3, 4]) rfl ?_
 refine sG rfl (fun h => ex_storeT (vs := pt gx gy false) h 1 rfl rfl rfl rfl As35 rfl (Nat.le_of_ble_eq_true rfl)) 1 [_, (_, pt gx gy false)] H3 o1_0 fun w4 H4 => ?_
 clear H3
 refine zG (d := 3) rfl rfl rfl rfl ?_
 simp only [Act.put, sa, sz, ss]
 refine zE (zA (wp_ret ?_))
 repeat (first | refine zJ ?_ | refine zI ?_)
 have hf0 := var_T H4.out.1 1 rfl Ai35 As35 rfl
 refine bodyPost_ret (v := .tuple #[.agg (pt gx gy false).toArray, .int .i64 0]) (by simp [results, Tryz.results22, asAddr, Act.eval, hf0]) rfl ?_
 exact ⟨rfl, H4.out.2⟩
theorem In_ok (k : Kd s p r c gx gy) (X Y : Nat) (Z : Bool) (w : World) :
  Calls Tryz.prog 30 #[.int .i64 s, .agg (pt X Y Z).toArray] w (Rt w (.bool (ig p r X Y Z))) := by
 have H0 : Hid (_ ∧ _) := ⟨Mm.nil w, Below.refl w.heap.size w⟩
 go_enter Tryz.func30, Tryz.ntmps30
 refine wp_seq ?_
 refine zD 2 [.made (pt X Y Z) 35, .q (.bool false)] (sB H0) ?ho1 ?he1
 case ho1 => exact am (zN rfl rfl) (ar trivial)
 intro J w1 l hM hl
 have H1 : Hid (Mm w1 [(J 0, pt X Y Z)] ∧ _) := wB H0 hM hl [0]
 have o1_0 := vB H0 hM hl 0
 clear hM hl l
 generalize J 0 = J1_0 at H1 o1_0 ⊢
 clear J
 refine rN (wp_seq ?_)
 refine zD 8 [.q (.int .i64 s), .call (.tuple #[.agg (kd p r c gx gy).toArray, .int .i64 0]), .q (.tuple #[.agg (kd p r c gx gy).toArray, .int .i64 0]), .q (.agg (kd p r c gx gy).toArray), .q (.int .i64 0), .made (kd 0 0 0 0 0) 78, .laid 5 (kd 0 0 0 0 0) (kd p r c gx gy), .q (.int .i64 0)] (sB H1) ?ho2 ?he2 (hL := ?hL2)
 case hL2 => exact ⟨⟨_, rfl⟩, trivial⟩
 case ho2 => exact ar (ac (fun w' h => eC call37 (k.kind w')) (ar (ag (ag (am (ex_made72 rfl) (ak (fun J => ⟨rfl, rfl, rfl, fun w' h => ex_laidT h rfl rfl As78 rfl rfl rfl⟩) (ar trivial)))))))
 intro J w2 l hM hl
 have H2 : Hid (Mm w2 ([(J 5, kd p r c gx gy)] ++ _) ∧ _) := wB H1 hM hl [5]
 have o2_5 := vB H1 hM hl 5
 clear hM hl l H1
 generalize J 5 = J2_5 at H2 o2_5 ⊢
 clear J
 refine rN (wp_seq ?_)
 refine zB 8 [.q (.int .i64 0), .q (.bool true), .q (.bool true), .q (.agg (kd p r c gx gy).toArray), .q (.agg (pt X Y Z).toArray), .call (.bool (ig p r X Y Z)), .q (.bool (ig p r X Y Z)), .q (.bool (ig p r X Y Z))] H2 ?ho3 ?he3
 case ho3 => exact ar (ag (ar (bT 0 Ai78 As78 (bT 1 Ai35 As35 (ac (fun w' h => eC call52 (inGroup_any k.pr k.rb X Y Z w')) (ag (ar trivial)))))))
 intro _ w3 H3
 clear H2
 refine rN (wp_ret ?_)
 repeat (first | refine zJ ?_ | refine zI ?_)
 refine bodyPost_ret (v := .bool (ig p r X Y Z)) (by simp [results, Tryz.results30, go_sem, *]) rfl ?_
 exact ⟨rfl, H3.out.2⟩
theorem In_no (s : Int) (h1 : s ≠ 1) (h2 : s ≠ 2) (X Y : Nat) (Z : Bool) (w : World) :
  Calls Tryz.prog 30 #[.int .i64 s, .agg (pt X Y Z).toArray] w (Rt w (.bool false)) := by
 have H0 : Hid (_ ∧ _) := ⟨Mm.nil w, Below.refl w.heap.size w⟩
 go_enter Tryz.func30, Tryz.ntmps30
 refine wp_seq ?_
 refine zD 2 [.made (pt X Y Z) 35, .q (.bool false)] (sB H0) ?ho1 ?he1
 case ho1 => exact am (zN rfl rfl) (ar trivial)
 intro J w1 l hM hl
 have H1 : Hid (Mm w1 [(J 0, pt X Y Z)] ∧ _) := wB H0 hM hl [0]
 have o1_0 := vB H0 hM hl 0
 clear hM hl l
 generalize J 0 = J1_0 at H1 o1_0 ⊢
 clear J
 refine rN (wp_seq ?_)
 refine zD 8 [.q (.int .i64 s), .call (.tuple #[.agg (kd 0 0 0 0 0).toArray, .int .i64 2]), .q (.tuple #[.agg (kd 0 0 0 0 0).toArray, .int .i64 2]), .q (.agg (kd 0 0 0 0 0).toArray), .q (.int .i64 2), .made (kd 0 0 0 0 0) 78, .laid 5 (kd 0 0 0 0 0) (kd 0 0 0 0 0), .q (.int .i64 2)] (sB H1) ?ho2 ?he2 (hL := ?hL2)
 case hL2 => exact ⟨⟨_, rfl⟩, trivial⟩
 case ho2 => exact ar (ac (fun w' h => eC call37 (kindOf_no s h1 h2 w')) (ar (ag (ag (am (ex_made72 rfl) (ak (fun J => ⟨rfl, rfl, rfl, fun w' h => ex_laidT h rfl rfl As78 rfl rfl rfl⟩) (ar trivial)))))))
 intro J w2 l hM hl
 have H2 : Hid (Mm w2 ([(J 5, kd 0 0 0 0 0)] ++ _) ∧ _) := wB H1 hM hl [5]
 have o2_5 := vB H1 hM hl 5
 clear hM hl l H1
 generalize J 5 = J2_5 at H2 o2_5 ⊢
 clear J
 refine rN (wp_seq ?_)
 refine zB 8 [.q (.int .i64 2), .q (.bool false), .q (.bool false), .gone, .gone, .gone, .q (.bool false), .q (.bool false)] H2 ?ho3 ?he3
 case ho3 => exact ar (ag (ar (ak (fun J => rfl) (ak (fun J => rfl) (ak (fun J => rfl) (ag (ar trivial)))))))
 intro _ w3 H3
 clear H2
 refine rN (wp_ret ?_)
 repeat (first | refine zJ ?_ | refine zI ?_)
 refine bodyPost_ret (v := .bool false) (by simp [results, Tryz.results30, go_sem, *]) rfl ?_
 exact ⟨rfl, H3.out.2⟩
end
end Lt
end Rg
end Go.Proofs.YtahgdighnlekdaaGreatDoor
end
section
namespace Go.Proofs.YtahgdighnlekdaaGreatDoor
open Go.RowKit
namespace NT
end NT
end Go.Proofs.YtahgdighnlekdaaGreatDoor
end
section
namespace Go.Proofs.YtahgdighnlekdaaGreatDoor
open Go.RowKit
namespace Rg
theorem inv_ex {n a : Nat} (ok : Ok n) (hg : Nat.gcd n a = 1) : ∃ x, x < n ∧ x * a % n = 1 := by
 have key : ∀ (m : Nat) (z : WS), z.o + z.r = m → WI n a z → ∃ x, x < n ∧ x * a % n = 1 := by
  intro m
  induction m using Nat.strongRecOn with
  | _ m ih =>
   intro z hz I
   obtain ⟨o, r, u, v, h, t⟩ := z
   simp only at hz
   by_cases hr : r = 0
   ·subst hr
    have ho : o = 1 := by
     have h1 : Nat.gcd o 0 = Nat.gcd n a := I.gcd
     rw [Nat.gcd_zero_right] at h1
     rw [h1]; exact hg
    cases t with
    | true => exact ⟨_, Nat.mod_lt _ ok.pos, end_true ok I ho⟩
    | false => exact ⟨_, Nat.mod_lt _ ok.pos, end_false ok I ho⟩
   ·have hrb : r < big := by have h1 : r ≤ n := I.rn; have := ok.big; omega
    obtain ⟨k, r1, hk, er, hr1, _⟩ := trailing_any hrb hr
    obtain ⟨p1, p2, _⟩ := I.facts hr er
    obtain ⟨i1, i2⟩ := I.next hr er hr1
    have hle : r1 ≤ r := by rw [er]; exact Nat.le_mul_of_pos_right _ (Nat.two_pow_pos k)
    by_cases hl : r1 < o
    ·exact ih (r1 + (o - r1)) (by omega) _ rfl (i1 hl)
    ·exact ih (o + (r1 - o)) (by omega) _ rfl (i2 hl)
 exact key _ ⟨n, a % n, 0, 1, 0, false⟩ rfl (WI.start ok)
theorem invm_spec {n a : Nat} (ok : Ok n) (hg : Nat.gcd n a = 1) : invm n a < n ∧ invm n a * a % n = 1 := by
 obtain ⟨x, hx, h1⟩ := inv_ex ok hg
 rw [invm_eq hx h1]
 exact ⟨hx, h1⟩
end Rg
end Go.Proofs.YtahgdighnlekdaaGreatDoor
end
section
namespace Go.Proofs.YtahgdighnlekdaaGreatDoor
open Go.RowKit
namespace Rg
set_option maxRecDepth 100000
set_option maxHeartbeats 4000000 in
theorem awake11_gen (n1 n2 n3 n4 n5 gx gy : Nat)
  (e_n1 : ∀ w, (Op.equalIn 10000 24 (N n1) (N n1)).run Tryz.prog w = .ok true w)
  (e_n4 : ∀ w, (Op.equalIn 10000 24 (N n4) (N n4)).run Tryz.prog w = .ok true w)
  (e_n5 : ∀ w, (Op.equalIn 10000 24 (N n5) (N n5)).run Tryz.prog w = .ok true w)
  (c0 : ∀ w, Calls Tryz.prog 7 #[.int .i64 1] w (Rt w (.tuple #[N n1, .int .i64 0])))
  (c1 : ∀ w, Calls Tryz.prog 6 #[.int .u64 65520] w (Rt w (N n2)))
  (c2 : ∀ w, Calls Tryz.prog 6 #[.int .u64 2] w (Rt w (N n3)))
  (c3 : ∀ w, Calls Tryz.prog 5 #[.int .i64 1, N n2, N n3] w (Rt w (.tuple #[N n4, .int .i64 0])))
  (c4 : ∀ w, Mm w [(0, dtab)] → Calls Tryz.prog 8 #[.int .i64 1, N n3] w (Rt w (.tuple #[N n5, .int .i64 0])))
  (c5 : ∀ w, Calls Tryz.prog 9 #[.int .i64 1] w (Rt w (.tuple #[.agg ([Value.int .i64 1] ++ (cel [0, 0] ++ [Value.bool false, Value.int .u64 (gx : Int), Value.int .u64 (gy : Int), Value.bool false])).toArray, .int .i64 0])))
  (c6 : ∀ w, Calls Tryz.prog 6 #[.int .u64 65521] w (Rt w (N n1)))
  (c7 : ∀ w, Calls Tryz.prog 6 #[.int .u64 1] w (Rt w (N n4)))
  (c8 : ∀ w, Calls Tryz.prog 6 #[.int .u64 32761] w (Rt w (N n5)))
  (c9 : ∀ w, Calls Tryz.prog 12 #[.agg ([Value.int .i64 1] ++ (cel [0, 0] ++ [Value.bool false, Value.int .u64 (gx : Int), Value.int .u64 (gy : Int), Value.bool false])).toArray] w (Rt w (.bool true))) (w : World) (hm : Mm w [(0, dtab)]) :
  Calls Tryz.prog 14 #[] w (Rt w (.bool true)) := by
 have H0 : Hid (_ ∧ _) := ⟨hm, Below.refl w.heap.size w⟩
 clear hm
 have C0 : Hid _ := c0
 have C1 : Hid _ := c1
 have C2 : Hid _ := c2
 have C3 : Hid _ := c3
 have C4 : Hid _ := c4
 have C5 : Hid _ := c5
 have C6 : Hid _ := c6
 have C7 : Hid _ := c7
 have C8 : Hid _ := c8
 have C9 : Hid _ := c9
 clear c0 c1 c2 c3 c4 c5 c6 c7 c8 c9
 go_enter Tryz.func14, Tryz.ntmps14
 refine wp_seq ?_
 refine zB 1 [.q (.bool false)] H0 ?ho1 ?he1
 case ho1 => exact ar trivial
 intro _ w1 H1
 refine rN (wp_seq ?_)
 refine zD 7 [.call (.tuple #[N n1, .int .i64 0]), .q (.tuple #[N n1, .int .i64 0]), .q (N n1), .q (.int .i64 0), .made zero6 24, .laid 4 zero6 (zC n1), .q (.int .i64 0)] (sB H1) ?ho2 ?he2 (hL := ?hL2)
 case hL2 => exact ⟨⟨_, rfl⟩, trivial⟩
 case ho2 => exact ac (fun w' h => eC call7 (C0.out w')) (ar (ag (ag (am (zH rfl) (ak (fun J => ⟨rfl, rfl, rfl, fun w' h => zL h rfl rfl rfl⟩) (ar trivial))))))
 intro J w2 l hM hl
 have H2 : Hid (Mm w2 ([(J 4, zC n1)] ++ _) ∧ _) := wB H1 hM hl [4]
 have o2_4 := vB H1 hM hl 4
 clear hM hl l H1
 generalize J 4 = J2_4 at H2 o2_4 ⊢
 clear J
 refine rN (wp_seq ?_)
 refine zD 9 [.call (N n2), .call (N n3), .call (.tuple #[N n4, .int .i64 0]), .q (.tuple #[N n4, .int .i64 0]), .q (N n4), .q (.int .i64 0), .made zero6 24, .laid 6 zero6 (zC n4), .q (.int .i64 0)] (sB H2) ?ho3 ?he3 (hL := ?hL3)
 case hL3 => exact ⟨⟨_, rfl⟩, trivial⟩
 case ho3 => exact ac (fun w' h => eC call6 (C1.out w')) (ac (fun w' h => eC call6 (C2.out w')) (ac (fun w' h => eC call5 (C3.out w')) (ar (ag (ag (am (zH rfl) (ak (fun J => ⟨rfl, rfl, rfl, fun w' h => zL h rfl rfl rfl⟩) (ar trivial))))))))
 intro J w3 l hM hl
 have H3 : Hid (Mm w3 ([(J 6, zC n4)] ++ _) ∧ _) := wB H2 hM hl [6]
 have o3_6 := vB H2 hM hl 6
 clear hM hl l H2
 generalize J 6 = J3_6 at H3 o3_6 ⊢
 clear J
 refine rN (wp_seq ?_)
 refine zD 8 [.call (N n3), .call (.tuple #[N n5, .int .i64 0]), .q (.tuple #[N n5, .int .i64 0]), .q (N n5), .q (.int .i64 0), .made zero6 24, .laid 5 zero6 (zC n5), .q (.int .i64 0)] (sB H3) ?ho4 ?he4 (hL := ?hL4)
 case hL4 => exact ⟨⟨_, rfl⟩, trivial⟩
 case ho4 => exact ac (fun w' h => eC call6 (C2.out w')) (ac (fun w' h => eC call8 (C4.out w' (h.one 2 rfl))) (ar (ag (ag (am (zH rfl) (ak (fun J => ⟨rfl, rfl, rfl, fun w' h => zL h rfl rfl rfl⟩) (ar trivial)))))))
 intro J w4 l hM hl
 have H4 : Hid (Mm w4 ([(J 5, zC n5)] ++ _) ∧ _) := wB H3 hM hl [5]
 have o4_5 := vB H3 hM hl 5
 clear hM hl l H3
 generalize J 5 = J4_5 at H4 o4_5 ⊢
 clear J
 refine rN (wp_seq ?_)
 refine zD 7 [.call (.tuple #[.agg ([Value.int .i64 1] ++ (cel [0, 0] ++ [Value.bool false, Value.int .u64 (gx : Int), Value.int .u64 (gy : Int), Value.bool false])).toArray, .int .i64 0]), .q (.tuple #[.agg ([Value.int .i64 1] ++ (cel [0, 0] ++ [Value.bool false, Value.int .u64 (gx : Int), Value.int .u64 (gy : Int), Value.bool false])).toArray, .int .i64 0]), .q (.agg ([Value.int .i64 1] ++ (cel [0, 0] ++ [Value.bool false, Value.int .u64 (gx : Int), Value.int .u64 (gy : Int), Value.bool false])).toArray), .q (.int .i64 0), .made ([Value.int .i64 0] ++ (cel [0, 0] ++ [Value.bool false, Value.int .u64 0, Value.int .u64 0, Value.bool false])) 37, .laid 4 ([Value.int .i64 0] ++ (cel [0, 0] ++ [Value.bool false, Value.int .u64 0, Value.int .u64 0, Value.bool false])) ([Value.int .i64 1] ++ (cel [0, 0] ++ [Value.bool false, Value.int .u64 (gx : Int), Value.int .u64 (gy : Int), Value.bool false])), .q (.int .i64 0)] (sB H4) ?ho5 ?he5 (hL := ?hL5)
 case hL5 => exact ⟨⟨_, rfl⟩, trivial⟩
 case ho5 => exact ac (fun w' h => eC call9 (C5.out w')) (ar (ag (ag (am (ex_made37 rfl) (ak (fun J => ⟨rfl, rfl, rfl, fun w' h => ex_laidT h rfl rfl As37 rfl rfl rfl⟩) (ar trivial))))))
 intro J w5 l hM hl
 have H5 : Hid (Mm w5 ([(J 4, [Value.int .i64 1] ++ (cel [0, 0] ++ [Value.bool false, Value.int .u64 (gx : Int), Value.int .u64 (gy : Int), Value.bool false]))] ++ _) ∧ _) := wB H4 hM hl [4]
 have o5_4 := vB H4 hM hl 4
 clear hM hl l H4
 generalize J 4 = J5_4 at H5 o5_4 ⊢
 clear J
 refine rN (wp_seq ?_)
 refine zP 34 [.q (N n1), .call (N n1), .q (.bool true), .q (.bool true), .q (.int .i64 0), .q (.bool true), .q (.bool true), .q (.bool true), .q (N n4), .call (N n4), .q (.bool true), .q (.bool true), .q (.bool true), .q (.int .i64 0), .q (.bool true), .q (.bool true), .q (.bool true), .q (N n5), .call (N n5), .q (.bool true), .q (.bool true), .q (.bool true), .q (.int .i64 0), .q (.bool true), .q (.bool true), .q (.bool true), .q (.agg ([Value.int .i64 1] ++ (cel [0, 0] ++ [Value.bool false, Value.int .u64 (gx : Int), Value.int .u64 (gy : Int), Value.bool false])).toArray), .call (.bool true), .q (.bool true), .q (.bool true), .q (.int .i64 0), .q (.bool true), .q (.bool true), .q (.bool true)] H5 ?ho6 ?he6 (hL := ?hL6)
 case hL6 => exact trivial
 case ho6 => exact bN 3 (ac (fun w' h => eC call6 (C6.out w')) (ak (fun J => ⟨rfl, fun w' _ => exec_eq6 e_n1 rfl rfl rfl⟩) (ar (ar (ag (ag (ar (bN 2 (ac (fun w' h => eC call6 (C7.out w')) (ak (fun J => ⟨rfl, fun w' _ => exec_eq6 e_n4 rfl rfl rfl⟩) (ag (ar (ar (ag (ag (ar (bN 1 (ac (fun w' h => eC call6 (C8.out w')) (ak (fun J => ⟨rfl, fun w' _ => exec_eq6 e_n5 rfl rfl rfl⟩) (ag (ar (ar (ag (ag (ar (bT 0 Ai37 As37 (ac (fun w' h => eC call12 (C9.out w')) (ag (ar (ar (ag (ag (ar trivial)))))))))))))))))))))))))))))))))
 intro _ w6 H6
 clear H5
 refine rN (wp_ret ?_)
 repeat (first | refine zJ ?_ | refine zI ?_)
 refine bodyPost_ret (v := .bool true) (by simp [results, Tryz.results14, go_sem, *]) rfl ?_
 exact ⟨rfl, H6.out.2⟩
open NT in
theorem eq_refl24 {v : Nat} (h : v < big) (w : World) : (Op.equalIn 10000 24 (N v) (N v)).run Tryz.prog w = .ok true w := by
 rw [run_eqN v v h h, decide_eq_true rfl]
theorem su_great : Su 0 rB := ⟨fun w => order_great rB base_rB w, rB_ok⟩
theorem su_little : Su 1 65521 := ⟨fun w => order_little 1 0 65521 65521 (by decide) (Lt.Order_ok Lt.kd_1) (fun w => of_any 65521 (by decide) w) w, ⟨by decide, by decide, small_big (4 * 65521) (by decide)⟩⟩
theorem su_none {s : Int} (h0 : s ≠ 0) (h1 : s ≠ 1) (h2 : s ≠ 2) : Sn s := fun w => order_little s 2 0 0 h0 (Lt.Order_no s h1 h2) (fun w => of_any 0 (by decide) w) w
theorem ig1 : Lt.ig 786251 65521 9723 164643 false = true := by decide +kernel
theorem inv2 : invm 65521 2 = 32761 := by
 have h := invm_spec (n := 65521) (a := 2) su_little.ok (by decide)
 exact inv_unique h.1 (by decide) h.2 (by decide)
theorem awake11 (w : World) (hm : Mm w [(0, dtab)]) : Calls Tryz.prog 14 #[] w (Rt w (.bool true)) := by
 refine awake11_gen 65521 65520 2 1 32761 9723 164643 (eq_refl24 (small_big _ (by decide))) (eq_refl24 (small_big _ (by decide))) (eq_refl24 (small_big _ (by decide)))
  su_little.ord (fun w => of_any 65520 (by decide) w) (fun w => of_any 2 (by decide) w) (fun w => sAdd_ok su_little 65520 2 (by decide) (by decide) w) (fun w hm => ?_) (fun w => gen_little 1 9723 164643 false (by decide) (Lt.Gen_ok Lt.kd_1) w)
  (fun w => of_any 65521 (by decide) w) (fun w => of_any 1 (by decide) w) (fun w => of_any 32761 (by decide) w) (fun w => ?_) w hm
 ·have h := sInv_ok su_little 2 (by decide) (by decide) w hm
  rw [inv2] at h
  exact h
 ·have h := keyCheck_lyes 1 0 0 false 9723 164643 false (by decide) (fun w => run_eqPk 0 0 0 0 false false big_pos big_pos big_pos big_pos w) (Lt.ig 786251 65521 9723 164643 false) (fun w => Lt.In_ok Lt.kd_1 9723 164643 false w) w
  rw [ig1] at h
  exact h
end Rg
end Go.Proofs.YtahgdighnlekdaaGreatDoor
end
section
namespace Go.Proofs.YtahgdighnlekdaaGreatDoor
open Go.RowKit
namespace Rg
set_option maxRecDepth 100000
theorem cel0000 : cel [0, 0, 0, 0] = [.int .u64 0, .int .u64 0, .int .u64 0, .int .u64 0, .int .u64 0, .int .u64 0, .int .u64 0, .int .u64 0, .int .u64 0, .int .u64 0, .int .u64 0, .int .u64 0, .int .u64 0, .int .u64 0, .int .u64 0, .int .u64 0, .int .u64 0, .int .u64 0, .int .u64 0, .int .u64 0, .int .u64 0, .int .u64 0, .int .u64 0, .int .u64 0] := cel_zero 4
theorem ex_build49_02 {ρ : Operand → Value} {o : Oper} {x0 x2 : Operand} {s x y : Int} {z : Bool} {w : World} (ho : o.op = .build 49 #[(0, x0), (2, x2)]) (h0 : ρ x0 = .int .i64 s) (h2 : ρ x2 = .agg ([Value.int .u64 x, Value.int .u64 y, Value.bool z]).toArray) : (execOp ρ o).run Tryz.prog w = .ok (.value (.agg ([Value.int .i64 s] ++ (cel [0, 0, 0, 0] ++ [Value.bool false, Value.int .u64 x, Value.int .u64 y, Value.bool z])).toArray)) w := by
 rw [cel0000]
 simp only [execOp, ho, List.map_toArray, List.map_cons, List.map_nil, h0, h2]
 kernel_rfl
theorem ex_build47_ {ρ : Operand → Value} {o : Oper} {w : World} (ho : o.op = .build 47 #[]) : (execOp ρ o).run Tryz.prog w = .ok (.value (.agg (cel [0, 0, 0, 0] ++ [Value.bool false]).toArray)) w := by
 rw [cel0000]
 simp only [execOp, ho, List.map_toArray, List.map_nil]
 kernel_rfl
theorem exec_eqT37 {ρ : Operand → Value} {o : Oper} {x y : Operand} {v v' : Array Value} {t : Bool} {w : World} (he : ∀ w, (Op.equalIn 10000 37 (.agg v) (.agg v')).run Tryz.prog w = .ok t w) (ho : o.op = .binOp .eql 37 x y 37) (hx : ρ x = .agg v) (hy : ρ y = .agg v') :
  (execOp ρ o).run Tryz.prog w = .ok (.value (.bool t)) w := by
 simp only [execOp, ho, hx, hy]
 clear hx hy
 go_simp
/-! Keys and points held against themselves. -/
theorem run_eqI (D t : Nat) (a : Int) (ht : Tryz.prog.underlying t = some (.int .i64)) (w : World) : (Op.equalIn (D + 1) t (.int .i64 a) (.int .i64 a)).run Tryz.prog w = .ok true w := by
 rw [run_equalIn_int w D t .i64 .i64 a a ht]
 simp
theorem partK (w : World) : (Go.part 28 ([Value.int .i64 0] ++ (cel [0, 0] ++ [Value.bool true, Value.int .u64 0, Value.int .u64 0, Value.bool false])).toArray 0).run Tryz.prog w = .ok (.int .i64 0) w ∧ (Go.part 33 ([Value.int .i64 0] ++ (cel [0, 0] ++ [Value.bool true, Value.int .u64 0, Value.int .u64 0, Value.bool false])).toArray 1).run Tryz.prog w = .ok (.agg (cel [0, 0] ++ [Value.bool true]).toArray) w ∧ (Go.part 35 ([Value.int .i64 0] ++ (cel [0, 0] ++ [Value.bool true, Value.int .u64 0, Value.int .u64 0, Value.bool false])).toArray 14).run Tryz.prog w = .ok (.agg ([Value.int .u64 0, Value.int .u64 0, Value.bool false]).toArray) w := by
 rw [cel00]
 exact ⟨by kernel_rfl, by kernel_rfl, by kernel_rfl⟩
theorem run_eqKd (D : Nat) (xs : Array Value) (A B : Value) (hi0 : ∀ w, (Op.equalIn D 28 (.int .i64 0) (.int .i64 0)).run Tryz.prog w = .ok true w) (hi1 : ∀ w, (Op.equalIn D 33 A A).run Tryz.prog w = .ok true w) (hi2 : ∀ w, (Op.equalIn D 35 B B).run Tryz.prog w = .ok true w)
  (q : ∀ w, (Go.part 28 xs 0).run Tryz.prog w = .ok (.int .i64 0) w ∧ (Go.part 33 xs 1).run Tryz.prog w = .ok A w ∧ (Go.part 35 xs 14).run Tryz.prog w = .ok B w) (w : World) : (Op.equalIn (D + 1) 37 (.agg xs) (.agg xs)).run Tryz.prog w = .ok true w := by
 have hst : Tryz.prog.stoodInHeld 37 = false := by kernel_rfl
 simp only [Op.equalIn, Sem.run_bind, run_underlying Tryz.underlying37, Result.andThen_ok]
 simp [hst, hi0, hi1, hi2, q]
theorem run_eqK (w : World) : (Op.equalIn 10000 37 (.agg ([Value.int .i64 0] ++ (cel [0, 0] ++ [Value.bool true, Value.int .u64 0, Value.int .u64 0, Value.bool false])).toArray) (.agg ([Value.int .i64 0] ++ (cel [0, 0] ++ [Value.bool true, Value.int .u64 0, Value.int .u64 0, Value.bool false])).toArray)).run Tryz.prog w = .ok true w :=
 run_eqKd 9999 _ _ _ (run_eqI 9998 28 0 (by kernel_rfl)) (run_eqPk' 9998 0 0 0 0 true true true true true (fun w => run_eqNd 9996 0 0 big_pos big_pos w) (fun w => run_eqNd 9996 0 0 big_pos big_pos w) (fun w => run_eqBd 9997 true true w))
  (Lt.run_eqP' 9998 0 0 0 0 false false true true true (fun w => Lt.run_eqU 9997 0 0 w) (fun w => Lt.run_eqU 9997 0 0 w) (fun w => Lt.run_eqB 9997 false false w)) partK w
set_option maxHeartbeats 1000000 in
theorem gen_great (px py : Nat) (pz : Bool) (hG : ∀ w, Calls Tryz.prog 21 #[] w (Rt w (.agg (cel [px, py] ++ [Value.bool pz]).toArray))) (w : World) :
  Calls Tryz.prog 9 #[.int .i64 0] w (Rt w (.tuple #[.agg ([Value.int .i64 0] ++ (cel [px, py] ++ [Value.bool pz, Value.int .u64 0, Value.int .u64 0, Value.bool false])).toArray, .int .i64 0])) := by
 have H0 : Hid (_ ∧ _) := ⟨Mm.nil w, Below.refl w.heap.size w⟩
 have HG : Hid _ := hG
 clear hG
 go_enter Tryz.func9, Tryz.ntmps9
 refine wp_seq ?_
 refine zD 2 [.made ([Value.int .i64 0] ++ (cel [0, 0] ++ [Value.bool false, Value.int .u64 0, Value.int .u64 0, Value.bool false])) 37, .q (.int .i64 0)] (sB H0) ?ho1 ?he1
 case ho1 => exact am (ex_made37 rfl) (ar trivial)
 intro J w1 l hM hl
 have H1 : Hid (Mm w1 [(J 0, [Value.int .i64 0] ++ (cel [0, 0] ++ [Value.bool false, Value.int .u64 0, Value.int .u64 0, Value.bool false]))] ∧ _) := wB H0 hM hl [0]
 have o1_0 := vB H0 hM hl 0
 clear hM hl l
 generalize J 0 = J1_0 at H1 o1_0 ⊢
 clear J
 refine rN (wp_seq ?_)
 refine zB 1 [.q (.int .i64 0)] H1 ?ho2 ?he2
 case ho2 => exact ar trivial
 intro _ w2 H2
 clear H1
 refine rN (wp_block (wp_seq ?_))
 refine zB 2 [.q (.bool true), .q (.bool true)] H2 ?ho3 ?he3
 case ho3 => exact ag (ar trivial)
 intro _ w3 H3
 clear H2
 refine rN (wp_cond_true rfl (wp_seq ?_))
 refine zB 2 [.call (.agg (cel [px, py] ++ [Value.bool pz]).toArray), .q (.agg ([Value.int .i64 0] ++ (cel [px, py] ++ [Value.bool pz, Value.int .u64 0, Value.int .u64 0, Value.bool false])).toArray)] H3 ?ho4 ?he4
 case ho4 => exact ac (fun w' h => eC call21 (HG.out w')) (ak (fun J => ⟨rfl, fun w' _ => ex_build37_1 rfl rfl⟩) trivial)
 intro _ w4 H4
 clear H3
 refine zF (l := [2, 3]) rfl ?_
 refine sG rfl (fun h => ex_storeT (vs := [Value.int .i64 0] ++ (cel [px, py] ++ [Value.bool pz, Value.int .u64 0, Value.int .u64 0, Value.bool false])) h 0 rfl rfl rfl rfl As37 rfl (Nat.le_of_ble_eq_true rfl)) 0 [(_, [Value.int .i64 0] ++ (cel [px, py] ++ [Value.bool pz, Value.int .u64 0, Value.int .u64 0, Value.bool false]))] H4 o1_0 fun w5 H5 => ?_
 clear H4
 refine zG (d := 3) rfl rfl rfl rfl ?_
 simp only [Act.put, sa, sz, ss]
 refine zE (zA (wp_ret ?_))
 repeat (first | refine zJ ?_ | refine zI ?_)
 have hf0 := var_T H5.out.1 0 rfl Ai37 As37 rfl
 refine bodyPost_ret (v := .tuple #[.agg ([Value.int .i64 0] ++ (cel [px, py] ++ [Value.bool pz, Value.int .u64 0, Value.int .u64 0, Value.bool false])).toArray, .int .i64 0]) (by simp [results, Tryz.results9, asAddr, Act.eval, hf0]) rfl ?_
 exact ⟨rfl, H5.out.2⟩
theorem eqL0 (w : World) : (Op.equalIn 10000 35 (.agg ([Value.int .u64 0, Value.int .u64 0, Value.bool false]).toArray) (.agg ([Value.int .u64 0, Value.int .u64 0, Value.bool false]).toArray)).run Tryz.prog w = .ok true w := Lt.run_eqP 0 0 0 0 false false w
set_option maxHeartbeats 1000000 in
theorem keyCheck_g (px py : Nat) (pz : Bool) (t : Bool) (hI : ∀ w, Mm w [(0, dtab)] → Calls Tryz.prog 29 #[.agg (cel [px, py] ++ [Value.bool pz]).toArray] w (Rt w (.bool t))) (w : World) (hm : Mm w [(0, dtab)]) :
  Calls Tryz.prog 12 #[.agg ([Value.int .i64 0] ++ (cel [px, py] ++ [Value.bool pz, Value.int .u64 0, Value.int .u64 0, Value.bool false])).toArray] w (Rt w (.bool t)) := by
 have H0 : Hid (_ ∧ _) := ⟨hm, Below.refl w.heap.size w⟩
 clear hm
 have HI : Hid _ := hI
 clear hI
 go_enter Tryz.func12, Tryz.ntmps12
 refine wp_seq ?_
 refine zD 2 [.made ([Value.int .i64 0] ++ (cel [px, py] ++ [Value.bool pz, Value.int .u64 0, Value.int .u64 0, Value.bool false])) 37, .q (.bool false)] (sB H0) ?ho1 ?he1
 case ho1 => exact am (zN rfl rfl) (ar trivial)
 intro J w1 l hM hl
 have H1 : Hid (Mm w1 ([(J 0, [Value.int .i64 0] ++ (cel [px, py] ++ [Value.bool pz, Value.int .u64 0, Value.int .u64 0, Value.bool false]))] ++ _) ∧ _) := wB H0 hM hl [0]
 have o1_0 := vB H0 hM hl 0
 clear hM hl l
 generalize J 0 = J1_0 at H1 o1_0 ⊢
 clear J
 refine rN (wp_seq ?_)
 refine zB 2 [.q (PT J1_0 0), .q (.int .i64 0)] H1 ?ho2 ?he2
 case ho2 => exact ag (bC 0 Ai28 trivial)
 intro _ w2 H2
 clear H1
 refine rN (wp_block (wp_seq ?_))
 refine zB 2 [.q (.bool true), .q (.bool true)] H2 ?ho3 ?he3
 case ho3 => exact ag (ar trivial)
 intro _ w3 H3
 clear H2
 refine rN (wp_cond_true rfl (wp_seq ?_))
 refine zB 10 [.q (PT J1_0 14), .q (.agg ([Value.int .u64 0, Value.int .u64 0, Value.bool false]).toArray), .q (.agg ([Value.int .u64 0, Value.int .u64 0, Value.bool false]).toArray), .q (.bool true), .q (.bool true), .q (PT J1_0 1), .q (.agg (cel [px, py] ++ [Value.bool pz]).toArray), .call (.bool t), .q (.bool t), .q (.bool t)] H3 ?ho4 ?he4
 case ho4 => exact ag (bT 0 Ai35 As35 (ak (fun J => ⟨rfl, fun w' _ => ex_build35_ rfl⟩) (ak (fun J => ⟨rfl, fun w' _ => exec_eqT35 (fun w => eqL0 w) rfl rfl rfl⟩) (ar (ag (bT 0 Ai33 As33 (ac (fun w' h => eC call29 (HI.out w' (h.one 1 rfl))) (ag (ar trivial)))))))))
 intro _ w4 H4
 clear H3
 refine rN (wp_ret ?_)
 repeat (first | refine zJ ?_ | refine zI ?_)
 refine bodyPost_ret (v := .bool t) (by simp [results, Tryz.results12, go_sem, *]) rfl ?_
 exact ⟨rfl, H4.out.2⟩
set_option maxHeartbeats 2000000 in
theorem keyMul_g {r : Nat} (px py qx qy n : Nat) (pz qz : Bool) (hS : Su 0 r) (hn : n < r) (hK : ∀ w, Mm w [(0, dtab)] → Calls Tryz.prog 12 #[.agg ([Value.int .i64 0] ++ (cel [px, py] ++ [Value.bool pz, Value.int .u64 0, Value.int .u64 0, Value.bool false])).toArray] w (Rt w (.bool true))) (hM : ∀ w, Mm w [(0, dtab)] → Calls Tryz.prog 25 #[.agg (cel [px, py] ++ [Value.bool pz]).toArray, N n] w (Rt w (.tuple #[.agg (cel [qx, qy] ++ [Value.bool qz]).toArray, .int .i64 0]))) (w : World) (hm : Mm w [(0, dtab)]) :
  Calls Tryz.prog 10 #[.agg ([Value.int .i64 0] ++ (cel [px, py] ++ [Value.bool pz, Value.int .u64 0, Value.int .u64 0, Value.bool false])).toArray, N n] w (Rt w (.tuple #[.agg ([Value.int .i64 0] ++ (cel [qx, qy] ++ [Value.bool qz, Value.int .u64 0, Value.int .u64 0, Value.bool false])).toArray, .int .i64 0])) := by
 have H0 : Hid (_ ∧ _) := ⟨hm, Below.refl w.heap.size w⟩
 clear hm
 have HK : Hid _ := hK
 have HM : Hid _ := hM
 clear hK hM
 go_enter Tryz.func10, Tryz.ntmps10
 refine wp_seq ?_
 refine zD 4 [.made ([Value.int .i64 0] ++ (cel [px, py] ++ [Value.bool pz, Value.int .u64 0, Value.int .u64 0, Value.bool false])) 37, .made (zC n) 24, .made ([Value.int .i64 0] ++ (cel [0, 0] ++ [Value.bool false, Value.int .u64 0, Value.int .u64 0, Value.bool false])) 37, .q (.int .i64 0)] (sB H0) ?ho1 ?he1
 case ho1 => exact am (zN rfl rfl) (am (ex_box6 rfl rfl) (am (ex_made37 rfl) (ar trivial)))
 intro J w1 l hM hl
 have H1 : Hid (Mm w1 ([(J 0, [Value.int .i64 0] ++ (cel [px, py] ++ [Value.bool pz, Value.int .u64 0, Value.int .u64 0, Value.bool false])), (J 1, zC n), (J 2, [Value.int .i64 0] ++ (cel [0, 0] ++ [Value.bool false, Value.int .u64 0, Value.int .u64 0, Value.bool false]))] ++ _) ∧ _) := wB H0 hM hl [0, 1, 2]
 have o1_0 := vB H0 hM hl 0
 have o1_1 := vB H0 hM hl 1
 have o1_2 := vB H0 hM hl 2
 clear hM hl l
 generalize J 0 = J1_0 at H1 o1_0 ⊢
 generalize J 1 = J1_1 at H1 o1_1 ⊢
 generalize J 2 = J1_2 at H1 o1_2 ⊢
 clear J
 refine rN (wp_seq (wp_seq ?_))
 refine zB 3 [.q (.agg ([Value.int .i64 0] ++ (cel [px, py] ++ [Value.bool pz, Value.int .u64 0, Value.int .u64 0, Value.bool false])).toArray), .call (.bool true), .q (.bool false)] H1 ?ho2 ?he2
 case ho2 => exact bT 0 Ai37 As37 (ac (fun w' h => eC call12 (HK.out w' (h.one 3 rfl))) (ag trivial))
 intro _ w2 H2
 clear H1
 refine rN (wp_cond_false rfl ?_)
 refine wp_skip (zA ?_)
 refine wp_seq (wp_seq ?_)
 refine zB 3 [.q (PT J1_0 0), .q (.int .i64 0), .q (N n)] H2 ?ho3 ?he3
 case ho3 => exact ag (bC 0 Ai28 (bN 1 trivial))
 intro _ w3 H3
 clear H2
 refine zF (l := [3, 4, 5, 6, 7, 8, 9, 10]) rfl ?_
 refine zG (d := 20) (v := .slice (some ⟨w3.heap.size, 0, none⟩) 1 1) (w' := w3.alloc (.cells (cel [n] : List Value).toArray 24)) rfl rfl rfl (ex_bsN1 rfl rfl) ?_
 simp only [Act.put, sa, sz, ss]
 have o_Js4 : Hid (w.heap.size ≤ w3.heap.size) := H3.out.2.size
 have H4 : Hid (Mm (w3.alloc (.cells (cel [n] : List Value).toArray 24)) ((w3.heap.size, cel [n]) :: [(J1_0, [Value.int .i64 0] ++ (cel [px, py] ++ [Value.bool pz, Value.int .u64 0, Value.int .u64 0, Value.bool false])), (J1_1, zC n), (J1_2, [Value.int .i64 0] ++ (cel [0, 0] ++ [Value.bool false, Value.int .u64 0, Value.int .u64 0, Value.bool false])), (0, dtab)]) ∧ Below w.heap.size w (w3.alloc (.cells (cel [n] : List Value).toArray 24))) := ⟨H3.out.1.alloc _ 24 rfl, H3.out.2.alloc H3.out.2.size _⟩
 clear H3
 generalize hgw : w3.alloc (.cells (cel [n] : List Value).toArray 24) = w4 at H4 ⊢
 clear hgw
 generalize w3.heap.size = Js4 at o_Js4 H4 ⊢
 refine rest_enter (d := 21) (R := fun vv w' => vv = .tuple #[N r, .int .i64 0] ∧ Below w4.heap.size w4 w') rfl rfl rfl (exec_call (args := #[.int .i64 0, .slice (some ⟨Js4, 0, none⟩) 1 1]) rfl call24 rfl (mpn rfl)) (Calls.mono (above1_ok hS _ n hn w4 (H4.out.1.one 0 rfl)) (fun e w2 hh => ⟨_, hh.1, rfl, hh.2⟩)) ?_
 rintro _ w5 ⟨rfl, hb⟩
 have H5 : Hid (_ ∧ _) := ⟨H4.out.1.below hb, H4.out.2.trans (hb.mono H4.out.2.size)⟩
 clear hb H4
 simp only [Act.put, sa, sz, ss]
 refine zG (d := 16) rfl rfl rfl rfl ?_
 simp only [Act.put, sa, sz, ss]
 refine zG (d := 22) (v := N r) (w' := w5) rfl rfl rfl (by go_simp) ?_
 simp only [Act.put, sa, sz, ss]
 refine zG (d := 23) (v := .int .i64 0) (w' := w5) rfl rfl rfl (by go_simp) ?_
 simp only [Act.put, sa, sz, ss]
 refine zG (d := 6) (v := PT w5.heap.size 0) (w' := w5.alloc (.cells (zero6 : List Value).toArray 24)) rfl rfl rfl (zH rfl) ?_
 simp only [Act.put, sa, sz, ss]
 have o_Js6 : Hid (w.heap.size ≤ w5.heap.size) := H5.out.2.size
 have H6 : Hid (Mm (w5.alloc (.cells (zero6 : List Value).toArray 24)) ((w5.heap.size, zero6) :: [(Js4, cel [n]), (J1_0, [Value.int .i64 0] ++ (cel [px, py] ++ [Value.bool pz, Value.int .u64 0, Value.int .u64 0, Value.bool false])), (J1_1, zC n), (J1_2, [Value.int .i64 0] ++ (cel [0, 0] ++ [Value.bool false, Value.int .u64 0, Value.int .u64 0, Value.bool false])), (0, dtab)]) ∧ Below w.heap.size w (w5.alloc (.cells (zero6 : List Value).toArray 24))) := ⟨H5.out.1.alloc _ 24 rfl, H5.out.2.alloc H5.out.2.size _⟩
 clear H5
 generalize hgw : w5.alloc (.cells (zero6 : List Value).toArray 24) = w6 at H6 ⊢
 clear hgw
 generalize w5.heap.size = Js6 at o_Js6 H6 ⊢
 refine sG rfl (fun h => zM h 0 rfl rfl rfl rfl (Nat.le_of_ble_eq_true rfl)) 0 [(_, zC r), _, _, _, _, _] H6 o_Js6 fun w7 H7 => ?_
 clear H6
 refine zG (d := 7) rfl rfl rfl rfl ?_
 simp only [Act.put, sa, sz, ss]
 refine zE (zA (wp_seq ?_))
 refine zB 2 [.q (.int .i64 0), .q (.bool false)] H7 ?ho4 ?he4
 case ho4 => exact ar (ag trivial)
 intro _ w8 H8
 clear H7
 refine rN (wp_cond_false rfl ?_)
 refine wp_skip (zA (wp_seq ?_))
 refine zB 2 [.q (PT J1_0 0), .q (.int .i64 0)] H8 ?ho5 ?he5
 case ho5 => exact ag (bC 2 Ai28 trivial)
 intro _ w9 H9
 clear H8
 refine rN (wp_block (wp_seq ?_))
 refine zB 2 [.q (.bool true), .q (.bool true)] H9 ?ho6 ?he6
 case ho6 => exact ag (ar trivial)
 intro _ w10 H10
 clear H9
 refine rN (wp_cond_true rfl (wp_seq ?_))
 refine zD 10 [.q (PT J1_0 1), .q (.agg (cel [px, py] ++ [Value.bool pz]).toArray), .q (N n), .call (.tuple #[.agg (cel [qx, qy] ++ [Value.bool qz]).toArray, .int .i64 0]), .q (.tuple #[.agg (cel [qx, qy] ++ [Value.bool qz]).toArray, .int .i64 0]), .q (.agg (cel [qx, qy] ++ [Value.bool qz]).toArray), .q (.int .i64 0), .made (cel [0, 0] ++ [Value.bool false]) 33, .laid 7 (cel [0, 0] ++ [Value.bool false]) (cel [qx, qy] ++ [Value.bool qz]), .q (.int .i64 0)] (sB H10) ?ho7 ?he7 (hL := ?hL7)
 case hL7 => exact ⟨⟨_, rfl⟩, trivial⟩
 case ho7 => exact ag (bT 2 Ai33 As33 (bN 3 (ac (fun w' h => eC call25 (HM.out w' (h.one 5 rfl))) (ar (ag (ag (am (ex_madeP1 rfl) (ak (fun J => ⟨rfl, rfl, rfl, fun w' h => ex_laidT h rfl rfl As33 rfl rfl rfl⟩) (ar trivial)))))))))
 intro J w11 l hM hl
 have H11 : Hid (Mm w11 ([(J 7, cel [qx, qy] ++ [Value.bool qz])] ++ _) ∧ _) := wB H10 hM hl [7]
 have o7_7 := vB H10 hM hl 7
 clear hM hl l H10
 generalize J 7 = J7_7 at H11 o7_7 ⊢
 clear J
 refine rN (wp_seq ?_)
 refine zB 3 [.q (.agg (cel [qx, qy] ++ [Value.bool qz]).toArray), .q (.agg ([Value.int .i64 0] ++ (cel [qx, qy] ++ [Value.bool qz, Value.int .u64 0, Value.int .u64 0, Value.bool false])).toArray), .q (.int .i64 0)] H11 ?ho8 ?he8
 case ho8 => exact bT 0 Ai33 As33 (ak (fun J => ⟨rfl, fun w' _ => ex_build37_1 rfl rfl⟩) (ar trivial))
 intro _ w12 H12
 clear H11
 refine zF (l := [3, 4]) rfl ?_
 refine sG rfl (fun h => ex_storeT (vs := [Value.int .i64 0] ++ (cel [qx, qy] ++ [Value.bool qz, Value.int .u64 0, Value.int .u64 0, Value.bool false])) h 5 rfl rfl rfl rfl As37 rfl (Nat.le_of_ble_eq_true rfl)) 5 [_, _, _, _, _, (_, [Value.int .i64 0] ++ (cel [qx, qy] ++ [Value.bool qz, Value.int .u64 0, Value.int .u64 0, Value.bool false])), _] H12 o1_2 fun w13 H13 => ?_
 clear H12
 refine zG (d := 5) rfl rfl rfl rfl ?_
 simp only [Act.put, sa, sz, ss]
 refine zE (zA (wp_ret ?_))
 repeat (first | refine zJ ?_ | refine zI ?_)
 have hf0 := var_T H13.out.1 5 rfl Ai37 As37 rfl
 refine bodyPost_ret (v := .tuple #[.agg ([Value.int .i64 0] ++ (cel [qx, qy] ++ [Value.bool qz, Value.int .u64 0, Value.int .u64 0, Value.bool false])).toArray, .int .i64 0]) (by simp [results, Tryz.results10, asAddr, Act.eval, hf0]) rfl ?_
 exact ⟨rfl, H13.out.2⟩
set_option maxHeartbeats 2000000 in
theorem keyAdd_unlike (x y u v : Nat) (hA : ∀ w, Calls Tryz.prog 12 #[.agg ([Value.int .i64 1] ++ (cel [0, 0] ++ [Value.bool false, Value.int .u64 (x : Int), Value.int .u64 (y : Int), Value.bool false])).toArray] w (Rt w (.bool true))) (hB : ∀ w, Calls Tryz.prog 12 #[.agg ([Value.int .i64 2] ++ (cel [0, 0] ++ [Value.bool false, Value.int .u64 (u : Int), Value.int .u64 (v : Int), Value.bool false])).toArray] w (Rt w (.bool true))) (w : World) :
  Calls Tryz.prog 11 #[.agg ([Value.int .i64 1] ++ (cel [0, 0] ++ [Value.bool false, Value.int .u64 (x : Int), Value.int .u64 (y : Int), Value.bool false])).toArray, .agg ([Value.int .i64 2] ++ (cel [0, 0] ++ [Value.bool false, Value.int .u64 (u : Int), Value.int .u64 (v : Int), Value.bool false])).toArray] w (Rt w (.tuple #[.agg ([Value.int .i64 0] ++ (cel [0, 0] ++ [Value.bool false, Value.int .u64 0, Value.int .u64 0, Value.bool false])).toArray, .int .i64 2])) := by
 have H0 : Hid (_ ∧ _) := ⟨Mm.nil w, Below.refl w.heap.size w⟩
 have HA : Hid _ := hA
 have HB : Hid _ := hB
 clear hA hB
 go_enter Tryz.func11, Tryz.ntmps11
 refine wp_seq ?_
 refine zD 4 [.made ([Value.int .i64 1] ++ (cel [0, 0] ++ [Value.bool false, Value.int .u64 (x : Int), Value.int .u64 (y : Int), Value.bool false])) 37, .made ([Value.int .i64 2] ++ (cel [0, 0] ++ [Value.bool false, Value.int .u64 (u : Int), Value.int .u64 (v : Int), Value.bool false])) 37, .made ([Value.int .i64 0] ++ (cel [0, 0] ++ [Value.bool false, Value.int .u64 0, Value.int .u64 0, Value.bool false])) 37, .q (.int .i64 0)] (sB H0) ?ho1 ?he1
 case ho1 => exact am (zN rfl rfl) (am (zN rfl rfl) (am (ex_made37 rfl) (ar trivial)))
 intro J w1 l hM hl
 have H1 : Hid (Mm w1 [(J 0, [Value.int .i64 1] ++ (cel [0, 0] ++ [Value.bool false, Value.int .u64 (x : Int), Value.int .u64 (y : Int), Value.bool false])), (J 1, [Value.int .i64 2] ++ (cel [0, 0] ++ [Value.bool false, Value.int .u64 (u : Int), Value.int .u64 (v : Int), Value.bool false])), (J 2, [Value.int .i64 0] ++ (cel [0, 0] ++ [Value.bool false, Value.int .u64 0, Value.int .u64 0, Value.bool false]))] ∧ _) := wB H0 hM hl [0, 1, 2]
 have o1_0 := vB H0 hM hl 0
 have o1_1 := vB H0 hM hl 1
 have o1_2 := vB H0 hM hl 2
 clear hM hl l
 generalize J 0 = J1_0 at H1 o1_0 ⊢
 generalize J 1 = J1_1 at H1 o1_1 ⊢
 generalize J 2 = J1_2 at H1 o1_2 ⊢
 clear J
 refine rN (wp_seq (wp_seq ?_))
 refine zB 8 [.q (.agg ([Value.int .i64 1] ++ (cel [0, 0] ++ [Value.bool false, Value.int .u64 (x : Int), Value.int .u64 (y : Int), Value.bool false])).toArray), .call (.bool true), .q (.bool false), .q (.bool false), .q (.agg ([Value.int .i64 2] ++ (cel [0, 0] ++ [Value.bool false, Value.int .u64 (u : Int), Value.int .u64 (v : Int), Value.bool false])).toArray), .call (.bool true), .q (.bool false), .q (.bool false)] H1 ?ho2 ?he2
 case ho2 => exact bT 0 Ai37 As37 (ac (fun w' h => eC call12 (HA.out w')) (ag (ar (bT 1 Ai37 As37 (ac (fun w' h => eC call12 (HB.out w')) (ag (ag trivial)))))))
 intro _ w2 H2
 clear H1
 refine rN (wp_cond_false rfl ?_)
 refine wp_skip (zA ?_)
 refine wp_seq (wp_seq ?_)
 refine zB 5 [.q (PT J1_0 0), .q (.int .i64 1), .q (PT J1_1 0), .q (.int .i64 2), .q (.bool true)] H2 ?ho3 ?he3
 case ho3 => exact ag (bC 0 Ai28 (ag (bC 1 Ai28 (ag trivial))))
 intro _ w3 H3
 clear H2
 refine rN (wp_cond_true rfl (wp_seq ?_))
 refine zB 1 [.q (.agg ([Value.int .i64 0] ++ (cel [0, 0] ++ [Value.bool false, Value.int .u64 0, Value.int .u64 0, Value.bool false])).toArray)] H3 ?ho4 ?he4
 case ho4 => exact ak (fun J => ⟨rfl, fun w' _ => ex_build37_ rfl⟩) trivial
 intro _ w4 H4
 clear H3
 refine zF (l := [1, 2]) rfl ?_
 refine sG rfl (fun h => ex_storeT (vs := [Value.int .i64 0] ++ (cel [0, 0] ++ [Value.bool false, Value.int .u64 0, Value.int .u64 0, Value.bool false])) h 2 rfl rfl rfl rfl As37 rfl (Nat.le_of_ble_eq_true rfl)) 2 [_, _, (_, [Value.int .i64 0] ++ (cel [0, 0] ++ [Value.bool false, Value.int .u64 0, Value.int .u64 0, Value.bool false]))] H4 o1_2 fun w5 H5 => ?_
 clear H4
 refine zG (d := 5) rfl rfl rfl rfl ?_
 simp only [Act.put, sa, sz, ss]
 refine zE (zA (wp_ret ?_))
 repeat (first | refine zJ ?_ | refine zI ?_)
 have hf0 := var_T H5.out.1 2 rfl Ai37 As37 rfl
 refine bodyPost_ret (v := .tuple #[.agg ([Value.int .i64 0] ++ (cel [0, 0] ++ [Value.bool false, Value.int .u64 0, Value.int .u64 0, Value.bool false])).toArray, .int .i64 2]) (by simp [results, Tryz.results11, asAddr, Act.eval, hf0]) rfl ?_
 exact ⟨rfl, H5.out.2⟩
set_option maxHeartbeats 1000000 in
theorem sigCheck_z (he : ∀ w, (Op.equalIn 10000 47 (.agg (cel [0, 0, 0, 0] ++ [Value.bool false]).toArray) (.agg (cel [0, 0, 0, 0] ++ [Value.bool false]).toArray)).run Tryz.prog w = .ok true w) (hI : ∀ w, Calls Tryz.prog 30 #[.int .i64 1, .agg ([Value.int .u64 0, Value.int .u64 0, Value.bool true]).toArray] w (Rt w (.bool true))) (w : World) :
  Calls Tryz.prog 13 #[.agg ([Value.int .i64 1] ++ (cel [0, 0, 0, 0] ++ [Value.bool false, Value.int .u64 0, Value.int .u64 0, Value.bool true])).toArray] w (Rt w (.bool true)) := by
 have H0 : Hid (_ ∧ _) := ⟨Mm.nil w, Below.refl w.heap.size w⟩
 have hE : Hid _ := he
 have HI : Hid _ := hI
 clear he hI
 go_enter Tryz.func13, Tryz.ntmps13
 refine wp_seq ?_
 refine zD 2 [.made ([Value.int .i64 1] ++ (cel [0, 0, 0, 0] ++ [Value.bool false, Value.int .u64 0, Value.int .u64 0, Value.bool true])) 49, .q (.bool false)] (sB H0) ?ho1 ?he1
 case ho1 => exact am (zN rfl rfl) (ar trivial)
 intro J w1 l hM hl
 have H1 : Hid (Mm w1 [(J 0, [Value.int .i64 1] ++ (cel [0, 0, 0, 0] ++ [Value.bool false, Value.int .u64 0, Value.int .u64 0, Value.bool true]))] ∧ _) := wB H0 hM hl [0]
 have o1_0 := vB H0 hM hl 0
 clear hM hl l
 generalize J 0 = J1_0 at H1 o1_0 ⊢
 clear J
 refine rN (wp_seq ?_)
 refine zB 2 [.q (PT J1_0 0), .q (.int .i64 1)] H1 ?ho2 ?he2
 case ho2 => exact ag (bC 0 Ai28 trivial)
 intro _ w2 H2
 clear H1
 refine rN (wp_block (wp_seq ?_))
 refine zB 2 [.q (.bool false), .q (.bool false)] H2 ?ho3 ?he3
 case ho3 => exact ag (ar trivial)
 intro _ w3 H3
 clear H2
 refine rN (wp_cond_false rfl (wp_seq ?_))
 refine zB 12 [.q (PT J1_0 1), .q (.agg (cel [0, 0, 0, 0] ++ [Value.bool false]).toArray), .q (.agg (cel [0, 0, 0, 0] ++ [Value.bool false]).toArray), .q (.bool true), .q (.bool true), .q (PT J1_0 0), .q (.int .i64 1), .q (PT J1_0 26), .q (.agg ([Value.int .u64 0, Value.int .u64 0, Value.bool true]).toArray), .call (.bool true), .q (.bool true), .q (.bool true)] H3 ?ho4 ?he4
 case ho4 => exact ag (bT 0 Tryz.isAgg47 Tryz.sizeOf47 (ak (fun J => ⟨rfl, fun w' _ => ex_build47_ rfl⟩) (ak (fun J => ⟨rfl, fun w' _ => exec_eqT47 hE.out rfl rfl rfl⟩) (ar (ag (bC 0 Ai28 (ag (bT 0 Ai35 As35 (ac (fun w' h => eC call30 (HI.out w')) (ag (ar trivial)))))))))))
 intro _ w4 H4
 clear H3
 refine rN (wp_ret ?_)
 repeat (first | refine zJ ?_ | refine zI ?_)
 refine bodyPost_ret (v := .bool true) (by simp [results, Tryz.results13, go_sem, *]) rfl ?_
 exact ⟨rfl, H4.out.2⟩
end Rg
end Go.Proofs.YtahgdighnlekdaaGreatDoor
end
