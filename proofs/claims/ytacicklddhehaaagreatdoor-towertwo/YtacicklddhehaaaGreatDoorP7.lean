/- Texts of the proof, joined. -/
import Derived.Test.YtacicklddhehaaaGreatDoorP6
import Derived.BigRegion
import Derived.Laws.Bits64b
set_option maxRecDepth 100000
section
namespace Go.Proofs.YtacicklddhehaaaGreatDoor
open Go.RowKit
namespace Rg
namespace Fs
set_option maxRecDepth 100000
theorem pre13 (F : Nat → Nat) : ((ints .u64 F 13).drop 0).take 6 = ints .u64 F 6 := rfl
theorem ex_laidI {ρ : Operand → Value} {o : Oper} {x y : Operand} {g n : Nat} {w : World} {ik : IntKind} {f f' : Nat → Nat} {t : TypeId} (hb : Blk w g (ints ik f n)) (hs : ∀ w, (sizeOf t).run Tryz.prog w = .ok n w) (ho : o.op = .store t x y) (hx : ρ x = .pointer (some ⟨g, 0, none⟩)) (hy : ρ y = .agg (ints ik f' n).toArray) : (execOp ρ o).run Tryz.prog w = .ok .skip (w.setCells g 0 (ints ik f' n)) :=
 ex_laidT hb (by rw [zL, zL]) (ints_all _ _ _) (by rw [zL]; exact hs) ho hx hy
theorem ex_ne64 {ρ : Operand → Value} {o : Oper} {x y : Operand} {a : Nat} {w : World} {t : Bool} (h : (!decide (a = 0)) = t) (ho : o.op = .binOp .neq 22 x y 22) (hx : ρ x = U a) (hy : ρ y = .int .u64 0) : (execOp ρ o).run Tryz.prog w = .ok (.value (.bool t)) w := by
 rw [← h]
 simp only [execOp, ho, hx, hy]
 clear ho hx hy h
 go_simp
 by_cases h : a = 0 <;> simp [h]
theorem ex_ge3 {ρ : Operand → Value} {o : Oper} {x y : Operand} {z : Int} {w : World} {t : Bool} (h : decide (0 ≤ z) = t) (ho : o.op = .binOp .geq 3 x y 3) (hx : ρ x = .int .i64 z) (hy : ρ y = .int .i64 0) : (execOp ρ o).run Tryz.prog w = .ok (.value (.bool t)) w := by
 rw [← h]
 simp only [execOp, ho, hx, hy]
 clear ho hx hy h
 go_simp
/-- Words that are shifted down, on the way. -/
def shr (r : Nat → Nat) (k j : Nat) : Nat := if j < k then r (j + 1) else r j
theorem shr_succ (r : Nat → Nat) (k : Nat) : up (shr r k) k (shr r k (k + 1)) = shr r (k + 1) := by
 funext j
 have e : shr r k (k + 1) = r (k + 1) := if_neg (by omega)
 rw [e]
 unfold up shr
 by_cases h : j = k
 ·subst h
  rw [if_pos rfl, if_pos (Nat.lt_succ_self _)]
 ·rw [if_neg h]
  by_cases h2 : j < k
  ·rw [if_pos h2, if_pos (by omega)]
  ·rw [if_neg h2, if_neg (by omega)]
/-- Words that are copied, on the way. -/
def cpy (r : Nat → Nat) (k j : Nat) : Nat := if j < k then r j else 0
theorem cpy_succ (r : Nat → Nat) (k : Nat) : up (cpy r k) k (r k) = cpy r (k + 1) := by
 funext j
 unfold up cpy
 by_cases h : j = k
 ·subst h
  rw [if_pos rfl, if_pos (Nat.lt_succ_self _)]
 ·rw [if_neg h]
  by_cases h2 : j < k
  ·rw [if_pos h2, if_pos (by omega)]
  ·rw [if_neg h2, if_neg (by omega)]
theorem call39 : CO 39 := by intro args w; go_simp
theorem call44 : CO 44 := by intro args w; go_simp
theorem call72 : CO 72 := by intro args w; go_simp
set_option maxHeartbeats 2000000 in
theorem mont_a (F a b D : Nat → Nat) (z : Int) (bb : Bool) (hA : ∀ i, i < 6 → a i < 18446744073709551616) (hB : ∀ i, i < 6 → b i < 18446744073709551616) (hN : ∀ i, i < 6 → F i < 18446744073709551616) (hC0 : ∀ w, Calls Tryz.prog 39 #[.agg (ints .u64 (cpy (yE (F 6) F a b 6) 6) 6).toArray, .agg (ints .u64 F 6).toArray] w (Rt w (.int .i64 z))) (hS0 : ∀ w, Calls Tryz.prog 44 #[.agg (ints .u64 (cpy (yE (F 6) F a b 6) 6) 6).toArray, .agg (ints .u64 F 6).toArray] w (Rt w (.tuple #[.agg (ints .u64 D 6).toArray, .bool bb]))) (h6 : (yE (F 6) F a b 6) 6 ≠ 0) (w : World) :
  Calls Tryz.prog 51 #[.agg (ints .u64 F 13).toArray, .agg (ints .u64 a 6).toArray, .agg (ints .u64 b 6).toArray] w (Rt w (.agg (ints .u64 D 6).toArray)) := by
 have H0 : Hid (_ ∧ _) := ⟨Mm.nil w, Below.refl w.heap.size w⟩
 have HC : Hid _ := hC0
 have HS : Hid _ := hS0
 clear hC0 hS0
 go_enter Tryz.func51, Tryz.ntmps51
 refine wp_seq ?_
 refine zD 4 [.made (ints .u64 F 13) 36, .made (ints .u64 a 6) 24, .made (ints .u64 b 6) 24, .made (ints .u64 (fun _ => 0) 6) 24] (sB H0) ?ho1 ?he1
 case ho1 => exact am (ex_boxT rfl rfl) (am (ex_boxT rfl rfl) (am (ex_boxT rfl rfl) (am (ex_mk25 rfl) trivial)))
 intro J w1 l hM hl
 have H1 : Hid (Mm w1 [(J 0, ints .u64 F 13), (J 1, ints .u64 a 6), (J 2, ints .u64 b 6), (J 3, ints .u64 (fun _ => 0) 6)] ∧ _) := wB H0 hM hl [0, 1, 2, 3]
 have o1_0 := vB H0 hM hl 0
 have o1_1 := vB H0 hM hl 1
 have o1_2 := vB H0 hM hl 2
 have o1_3 := vB H0 hM hl 3
 clear hM hl l
 generalize J 0 = J1_0 at H1 o1_0 ⊢
 generalize J 1 = J1_1 at H1 o1_1 ⊢
 generalize J 2 = J1_2 at H1 o1_2 ⊢
 generalize J 3 = J1_3 at H1 o1_3 ⊢
 clear J
 refine rN (wp_seq ?_)
 refine zD 1 [.made (ints .u64 (fun _ => 0) 8) 76] (sB H1) ?ho2 ?he2
 case ho2 => exact am (ex_mk63 rfl) trivial
 intro J w2 l hM hl
 have H2 : Hid (Mm w2 ([(J 0, ints .u64 (fun _ => 0) 8)] ++ _) ∧ _) := wB H1 hM hl [0]
 have o2_0 := vB H1 hM hl 0
 clear hM hl l H1
 generalize J 0 = J2_0 at H2 o2_0 ⊢
 clear J
 refine rN (wp_seq (wp_seq ?_))
 refine zC 1 [.q (.int .i64 0)] H2 ?ho3 ?he3
 case ho3 => exact ar trivial
 intro _ w3 H3
 clear H2
 refine rN (wp_block ?_)
 refine loop_ghost (α := Nat) (fun i0 a' w' => ∃ s0 : Nat → Value, a' = ⟨#[.agg (ints .u64 F 13).toArray, .agg (ints .u64 a 6).toArray, .agg (ints .u64 b 6).toArray, PT J1_0 0, PT J1_1 0, PT J1_2 0, PT J1_3 0, PT J2_0 0, .int .i64 ((i0 : Nat) : Int), s0 9, ud, ud, s0 12, s0 13, s0 14, s0 15, s0 16, s0 17, s0 18, s0 19, s0 20, s0 21, s0 22, s0 23, s0 24, s0 25, s0 26, s0 27, s0 28, s0 29, s0 30, s0 31, s0 32, s0 33, s0 34, s0 35, s0 36, s0 37, s0 38, s0 39, s0 40, s0 41, ud, ud, ud, ud, ud, ud, ud, ud, ud, ud, ud, ud, ud, ud, ud, ud, ud, ud, ud, ud, ud, ud, ud, ud, ud, ud, ud], []⟩ ∧ (Mm w' [(J2_0, ints .u64 (yE (F 6) F a b i0) 8), (J1_0, ints .u64 F 13), (J1_1, ints .u64 a 6), (J1_2, ints .u64 b 6), (J1_3, ints .u64 (fun _ => 0) 6)] ∧ Below w.heap.size w w') ∧ i0 ≤ 6) (fun i0 => 6 - i0) 0 ?st0 ?rd0
 case st0 => exact ⟨(yA [ud, ud, ud, ud, ud, ud, ud, ud, ud, ud, ud, ud, ud, ud, ud, ud, ud, ud, ud, ud, ud, ud, ud, ud, ud, ud, ud, ud, ud, ud, ud, ud, ud, ud, ud, ud, ud, ud, ud, ud, ud, ud]), rfl, ⟨H3.out.1, H3.out.2⟩, by omega⟩
 intro i0 a' w4 hI
 obtain ⟨s0, rfl, hMB, hk0⟩ := hI
 have H4 : Hid (_ ∧ _) := hMB
 clear hMB H3
 by_cases hlti0 : i0 < 6
 ·have hrd : True := trivial
  clear hrd
  refine wp_seq (wp_seq ?_)
  refine zC 2 [.q (.int .i64 ((i0 : Nat) : Int)), .q (.bool true)] H4 ?ho4 ?he4
  case ho4 => exact ar (ak (by refine fun J => ⟨rfl, fun w' h => ?_⟩; clear h; go_simp <;> omega) trivial)
  intro _ w5 H5
  clear H4
  refine rN (wp_cond_true rfl ?_)
  refine wp_skip (zA ?_)
  refine wp_seq (wp_block (wp_seq ?_))
  refine zS 5 [.q (.agg (ints .u64 F 13).toArray), .q (.int .i64 ((i0 : Nat) : Int)), .q (PT J1_1 i0), .q (U (a i0)), .q (.agg (ints .u64 b 6).toArray)] H5 ?ho5 ?he5
  case ho5 => exact aq (fun w' h => zZ h 1 rfl rfl rfl Ai36 As36 (ints_whole _ _ _) (zL _ _ _)) (ar (ak (fun J => ⟨rfl, fun w' _ => ex_ix0_25 (j := i0) rfl rfl rfl (by omega)⟩) (aq (fun w' h => ex_loadC h 2 rfl rfl rfl Ai22 (ints_get _ _ (by omega))) (aq (fun w' h => zZ h 3 rfl rfl rfl Ai24 As24 (ints_whole _ _ _) (zL _ _ _)) trivial))))
  intro _ w6 H6
  clear H5
  refine zG (l := [5]) rfl ?_
  refine rest_enter (d := 21) (R := fun vv w' => vv = .tuple #[] ∧ Mm w' [(J2_0, ints .u64 (rw8 (a i0) b (yE (F 6) F a b i0)) 8)] ∧ Kp J2_0 w6 w') rfl rfl rfl (exec_call (args := #[.agg (ints .u64 F 13).toArray, PT J2_0 0, U (a i0), .agg (ints .u64 b 6).toArray]) rfl call72 rfl (mpn rfl)) (Calls.mono (row_any F b (yE (F 6) F a b i0) J2_0 (a i0) (hA i0 (by omega)) hB (fun i _ => mgt_lt i0 i) w6 (H6.out.1.one 0 rfl)) (fun e w2 hh => ⟨_, hh.1, rfl, hh.2⟩)) ?_
  rintro _ w7 ⟨rfl, hn, hp⟩
  have H7 : Hid (Mm w7 [(J2_0, ints .u64 (rw8 (a i0) b (yE (F 6) F a b i0)) 8), (J1_0, ints .u64 F 13), (J1_1, ints .u64 a 6), (J1_2, ints .u64 b 6), (J1_3, ints .u64 (fun _ => 0) 6)] ∧ Below w.heap.size w w7) := ⟨H6.out.1.change 0 rfl hp hn, Below.kp H6.out.2 hp o2_0.out H6.out.2.size⟩
  clear hn hp H6
  simp only [Act.put, sa, sz, ss]
  refine zE (zA (wp_seq ?_))
  refine zC 8 [.q (.agg (ints .u64 F 13).toArray), .q (PT J2_0 0), .q (U ((rw8 (a i0) b (yE (F 6) F a b i0)) 0)), .q (PT J1_0 6), .q (U (F 6)), .q (U (mgm (F 6) (rw8 (a i0) b (yE (F 6) F a b i0)))), .q (PT J1_0 0), .q (.agg (ints .u64 F 6).toArray)] H7 ?ho6 ?he6
  case ho6 => exact aq (fun w' h => zZ h 1 rfl rfl rfl Ai36 As36 (ints_whole _ _ _) (zL _ _ _)) (ak (fun J => ⟨rfl, fun w' _ => ex_ix0_63 (j := 0) rfl rfl rfl (by decide)⟩) (aq (fun w' h => ex_loadC h 0 rfl rfl rfl Ai22 (ints_get _ _ (by decide))) (ag (aq (fun w' h => ex_loadC h 1 rfl rfl rfl Ai22 (ints_get _ _ (by decide))) (ak (fun J => ⟨rfl, fun w' _ => ex_mul64 rfl rfl rfl⟩) (ag (aq (fun w' h => zZ h 1 rfl rfl rfl Ai24 As24 (pre13 F) (zL _ _ _)) trivial)))))))
  intro _ w8 H8
  clear H7
  refine zG (l := [8]) rfl ?_
  refine rest_enter (d := 30) (R := fun vv w' => vv = .tuple #[] ∧ Mm w' [(J2_0, ints .u64 (rw8 (mgm (F 6) (rw8 (a i0) b (yE (F 6) F a b i0))) F (rw8 (a i0) b (yE (F 6) F a b i0))) 8)] ∧ Kp J2_0 w8 w') rfl rfl rfl (exec_call (args := #[.agg (ints .u64 F 13).toArray, PT J2_0 0, U (mgm (F 6) (rw8 (a i0) b (yE (F 6) F a b i0))), .agg (ints .u64 F 6).toArray]) rfl call72 rfl (mpn rfl)) (Calls.mono (row_any F F (rw8 (a i0) b (yE (F 6) F a b i0)) J2_0 (mgm (F 6) (rw8 (a i0) b (yE (F 6) F a b i0))) (Nat.mod_lt _ (by decide)) hN (fun i _ => rw8_lt i) w8 (H8.out.1.one 0 rfl)) (fun e w2 hh => ⟨_, hh.1, rfl, hh.2⟩)) ?_
  rintro _ w9 ⟨rfl, hn, hp⟩
  have H9 : Hid (Mm w9 [(J2_0, ints .u64 (rw8 (mgm (F 6) (rw8 (a i0) b (yE (F 6) F a b i0))) F (rw8 (a i0) b (yE (F 6) F a b i0))) 8), (J1_0, ints .u64 F 13), (J1_1, ints .u64 a 6), (J1_2, ints .u64 b 6), (J1_3, ints .u64 (fun _ => 0) 6)] ∧ Below w.heap.size w w9) := ⟨H8.out.1.change 0 rfl hp hn, Below.kp H8.out.2 hp o2_0.out H8.out.2.size⟩
  clear hn hp H8
  simp only [Act.put, sa, sz, ss]
  refine zE (zA ?_)
  refine wp_seq (wp_seq ?_)
  refine zC 1 [.q (.int .i64 0)] H9 ?ho7 ?he7
  case ho7 => exact ar trivial
  intro _ w10 H10
  clear H9
  refine rN (wp_block ?_)
  refine loop_ghost (α := Nat) (fun i1 a' w' => ∃ s2 : Nat → Value, a' = ⟨#[.agg (ints .u64 F 13).toArray, .agg (ints .u64 a 6).toArray, .agg (ints .u64 b 6).toArray, PT J1_0 0, PT J1_1 0, PT J1_2 0, PT J1_3 0, PT J2_0 0, .int .i64 ((i0 : Nat) : Int), .int .i64 ((i1 : Nat) : Int), ud, ud, .int .i64 ((i0 : Nat) : Int), .bool true, s0 14, s0 15, .agg (ints .u64 F 13).toArray, .int .i64 ((i0 : Nat) : Int), PT J1_1 i0, U (a i0), .agg (ints .u64 b 6).toArray, .tuple #[], .agg (ints .u64 F 13).toArray, PT J2_0 0, U ((rw8 (a i0) b (yE (F 6) F a b i0)) 0), PT J1_0 6, U (F 6), U (mgm (F 6) (rw8 (a i0) b (yE (F 6) F a b i0))), PT J1_0 0, .agg (ints .u64 F 6).toArray, .tuple #[], s2 31, s2 32, s2 33, s2 34, s2 35, s2 36, s2 37, s2 38, s2 39, s2 40, s0 41, ud, ud, ud, ud, ud, ud, ud, ud, ud, ud, ud, ud, ud, ud, ud, ud, ud, ud, ud, ud, ud, ud, ud, ud, ud, ud, ud], []⟩ ∧ (Mm w' [(J2_0, ints .u64 (shr (rw8 (mgm (F 6) (rw8 (a i0) b (yE (F 6) F a b i0))) F (rw8 (a i0) b (yE (F 6) F a b i0))) i1) 8), (J1_0, ints .u64 F 13), (J1_1, ints .u64 a 6), (J1_2, ints .u64 b 6), (J1_3, ints .u64 (fun _ => 0) 6)] ∧ Below w.heap.size w w') ∧ i1 ≤ 7) (fun i1 => 7 - i1) 0 ?st2 ?rd2
  case st2 => exact ⟨(yA [ud, ud, ud, ud, ud, ud, ud, ud, ud, ud, ud, ud, ud, ud, ud, ud, ud, ud, ud, ud, ud, ud, ud, ud, ud, ud, ud, ud, ud, ud, ud, s0 31, s0 32, s0 33, s0 34, s0 35, s0 36, s0 37, s0 38, s0 39, s0 40]), rfl, ⟨H10.out.1, H10.out.2⟩, by omega⟩
  intro i1 a' w11 hI
  obtain ⟨s2, rfl, hMB, hk2⟩ := hI
  have H11 : Hid (_ ∧ _) := hMB
  clear hMB H10
  by_cases hlti1 : i1 < 7
  ·have hrd : True := trivial
   clear hrd
   refine wp_seq (wp_seq ?_)
   refine zC 2 [.q (.int .i64 ((i1 : Nat) : Int)), .q (.bool true)] H11 ?ho8 ?he8
   case ho8 => exact ar (ak (by refine fun J => ⟨rfl, fun w' h => ?_⟩; clear h; go_simp <;> omega) trivial)
   intro _ w12 H12
   clear H11
   refine rN (wp_cond_true rfl ?_)
   refine wp_skip (zA ?_)
   refine wp_seq (wp_block ?_)
   refine zC 6 [.q (.int .i64 ((i1 : Nat) : Int)), .q (.int .i64 ((i1 : Nat) : Int)), .q (.int .i64 ((i1 + 1 : Nat) : Int)), .q (PT J2_0 (i1 + 1)), .q (U ((shr (rw8 (mgm (F 6) (rw8 (a i0) b (yE (F 6) F a b i0))) F (rw8 (a i0) b (yE (F 6) F a b i0))) i1) (i1 + 1))), .q (PT J2_0 i1)] H12 ?ho9 ?he9
   case ho9 => exact ar (ar (ak (by refine fun J => ⟨rfl, fun w' h => ?_⟩; clear h; go_simp; rw [IntKind.wrap_i64]; omega) (ak (fun J => ⟨rfl, fun w' _ => ex_ix0_63 (j := i1 + 1) rfl rfl rfl (by omega)⟩) (aq (fun w' h => ex_loadC h 0 rfl rfl rfl Ai22 (ints_get _ _ (by omega))) (ak (fun J => ⟨rfl, fun w' _ => ex_ix0_63 (j := i1) rfl rfl rfl (by omega)⟩) trivial)))))
   intro _ w13 H13
   clear H12
   refine zG (l := [6]) rfl ?_
   refine rest_store rfl rfl rfl (ex_storeI H13.out.1 0 rfl rfl As22 rfl rfl (by rw [zL]; omega)) ?_
   have H14 : Hid (Mm (w13.setCells J2_0 i1 ([U ((shr (rw8 (mgm (F 6) (rw8 (a i0) b (yE (F 6) F a b i0))) F (rw8 (a i0) b (yE (F 6) F a b i0))) i1) (i1 + 1))])) [(J2_0, ints .u64 (shr (rw8 (mgm (F 6) (rw8 (a i0) b (yE (F 6) F a b i0))) F (rw8 (a i0) b (yE (F 6) F a b i0))) (i1 + 1)) 8), (J1_0, ints .u64 F 13), (J1_1, ints .u64 a 6), (J1_2, ints .u64 b 6), (J1_3, ints .u64 (fun _ => 0) 6)] ∧ Below w.heap.size w (w13.setCells J2_0 i1 ([U ((shr (rw8 (mgm (F 6) (rw8 (a i0) b (yE (F 6) F a b i0))) F (rw8 (a i0) b (yE (F 6) F a b i0))) i1) (i1 + 1))]))) := ⟨by
    have h := H13.out.1.put 0 (off := i1) (vs := [U ((shr (rw8 (mgm (F 6) (rw8 (a i0) b (yE (F 6) F a b i0))) F (rw8 (a i0) b (yE (F 6) F a b i0))) i1) (i1 + 1))]) rfl (by rw [zL]; simp only [List.length_cons, List.length_nil]; omega)
    rw [ints_patch _ _ _ _ (by omega), show ints .u64 (up (shr (rw8 (mgm (F 6) (rw8 (a i0) b (yE (F 6) F a b i0))) F (rw8 (a i0) b (yE (F 6) F a b i0))) i1) i1 ((shr (rw8 (mgm (F 6) (rw8 (a i0) b (yE (F 6) F a b i0))) F (rw8 (a i0) b (yE (F 6) F a b i0))) i1) (i1 + 1))) 8 = ints .u64 (shr (rw8 (mgm (F 6) (rw8 (a i0) b (yE (F 6) F a b i0))) F (rw8 (a i0) b (yE (F 6) F a b i0))) (i1 + 1)) 8 by rw [show (up (shr (rw8 (mgm (F 6) (rw8 (a i0) b (yE (F 6) F a b i0))) F (rw8 (a i0) b (yE (F 6) F a b i0))) i1) i1 ((shr (rw8 (mgm (F 6) (rw8 (a i0) b (yE (F 6) F a b i0))) F (rw8 (a i0) b (yE (F 6) F a b i0))) i1) (i1 + 1))) = (shr (rw8 (mgm (F 6) (rw8 (a i0) b (yE (F 6) F a b i0))) F (rw8 (a i0) b (yE (F 6) F a b i0))) (i1 + 1)) from shr_succ _ _]] at h
    exact h, zP _ o2_0.out _ _ _ H13.out.2⟩
   clear H13
   generalize hgw : World.setCells _ _ _ _ = w14 at H14 ⊢
   clear hgw
   refine zE (zT (zA ?_))
   refine zC 2 [.q (.int .i64 ((i1 : Nat) : Int)), .q (.int .i64 ((i1 + 1 : Nat) : Int))] H14 ?ho10 ?he10
   case ho10 => exact ar (ak (by refine fun J => ⟨rfl, fun w' h => ?_⟩; clear h; go_simp; rw [IntKind.wrap_i64]; omega) trivial)
   intro _ w15 H15
   clear H14
   refine zG (l := [2]) rfl ?_
   refine zN (d := 9) rfl rfl rfl rfl ?_
   simp only [Act.put, sa, sz, ss]
   refine zE (zA ?_)
   exact ⟨i1 + 1, ⟨(yA [ud, ud, ud, ud, ud, ud, ud, ud, ud, ud, ud, ud, ud, ud, ud, ud, ud, ud, ud, ud, ud, ud, ud, ud, ud, ud, ud, ud, ud, ud, ud, .int .i64 ((i1 : Nat) : Int), .bool true, .int .i64 ((i1 : Nat) : Int), .int .i64 ((i1 + 1 : Nat) : Int), .int .i64 ((i1 : Nat) : Int), .int .i64 ((i1 : Nat) : Int), .int .i64 ((i1 + 1 : Nat) : Int), PT J2_0 (i1 + 1), U ((shr (rw8 (mgm (F 6) (rw8 (a i0) b (yE (F 6) F a b i0))) F (rw8 (a i0) b (yE (F 6) F a b i0))) i1) (i1 + 1)), PT J2_0 i1]), rfl, ⟨H15.out.1, H15.out.2⟩, by omega⟩, by omega⟩
  have hi1N : i1 = 7 := by omega
  subst hi1N
  refine wp_seq (wp_seq ?_)
  refine zC 2 [.q (.int .i64 ((7 : Nat) : Int)), .q (.bool false)] H11 ?ho11 ?he11
  case ho11 => exact ar (ak (by refine fun J => ⟨rfl, fun w' h => ?_⟩; clear h; go_simp <;> omega) trivial)
  intro _ w16 H16
  clear H11
  refine rN (wp_cond_false rfl ?_)
  refine wp_exit ?_
  repeat refine then_exit ?_
  refine block_exit ?_
  refine zA ?_
  refine zC 1 [.q (PT J2_0 7)] H16 ?ho12 ?he12
  case ho12 => exact ak (fun J => ⟨rfl, fun w' _ => ex_ix0_63 (j := 7) rfl rfl rfl (by decide)⟩) trivial
  intro _ w17 H17
  clear H16
  refine zG (l := [1]) rfl ?_
  refine rest_store rfl rfl rfl (ex_storeI H17.out.1 0 rfl rfl As22 rfl rfl (by rw [zL]; decide)) ?_
  have H18 : Hid (Mm (w17.setCells J2_0 7 ([U 0])) [(J2_0, ints .u64 (yE (F 6) F a b (i0 + 1)) 8), (J1_0, ints .u64 F 13), (J1_1, ints .u64 a 6), (J1_2, ints .u64 b 6), (J1_3, ints .u64 (fun _ => 0) 6)] ∧ Below w.heap.size w (w17.setCells J2_0 7 ([U 0]))) := ⟨by
   have h := H17.out.1.put 0 (off := 7) (vs := [U 0]) rfl (by rw [zL]; simp only [List.length_cons, List.length_nil]; decide)
   rw [ints_patch _ _ _ _ (by decide), show ints .u64 (up (shr (rw8 (mgm (F 6) (rw8 (a i0) b (yE (F 6) F a b i0))) F (rw8 (a i0) b (yE (F 6) F a b i0))) 7) 7 0) 8 = ints .u64 (yE (F 6) F a b (i0 + 1)) 8 by rw [show (up (shr (rw8 (mgm (F 6) (rw8 (a i0) b (yE (F 6) F a b i0))) F (rw8 (a i0) b (yE (F 6) F a b i0))) 7) 7 0) = (yE (F 6) F a b (i0 + 1)) from rfl]] at h
   exact h, zP _ o2_0.out _ _ _ H17.out.2⟩
  clear H17
  generalize hgw : World.setCells _ _ _ _ = w18 at H18 ⊢
  clear hgw
  refine zE (zT (zA ?_))
  refine zC 2 [.q (.int .i64 ((i0 : Nat) : Int)), .q (.int .i64 ((i0 + 1 : Nat) : Int))] H18 ?ho13 ?he13
  case ho13 => exact ar (ak (by refine fun J => ⟨rfl, fun w' h => ?_⟩; clear h; go_simp; rw [IntKind.wrap_i64]; omega) trivial)
  intro _ w19 H19
  clear H18
  refine zG (l := [2]) rfl ?_
  refine zN (d := 8) rfl rfl rfl rfl ?_
  simp only [Act.put, sa, sz, ss]
  refine zE (zA ?_)
  exact ⟨i0 + 1, ⟨(yA [ud, ud, ud, ud, ud, ud, ud, ud, ud, .int .i64 ((7 : Nat) : Int), ud, ud, .int .i64 ((i0 : Nat) : Int), .bool true, .int .i64 ((i0 : Nat) : Int), .int .i64 ((i0 + 1 : Nat) : Int), .agg (ints .u64 F 13).toArray, .int .i64 ((i0 : Nat) : Int), PT J1_1 i0, U (a i0), .agg (ints .u64 b 6).toArray, .tuple #[], .agg (ints .u64 F 13).toArray, PT J2_0 0, U ((rw8 (a i0) b (yE (F 6) F a b i0)) 0), PT J1_0 6, U (F 6), U (mgm (F 6) (rw8 (a i0) b (yE (F 6) F a b i0))), PT J1_0 0, .agg (ints .u64 F 6).toArray, .tuple #[], .int .i64 ((7 : Nat) : Int), .bool false, s2 33, s2 34, s2 35, s2 36, s2 37, s2 38, s2 39, s2 40, PT J2_0 7]), rfl, ⟨H19.out.1, H19.out.2⟩, by omega⟩, by omega⟩
 have hi0N : i0 = 6 := by omega
 subst hi0N
 refine wp_seq (wp_seq ?_)
 refine zC 2 [.q (.int .i64 ((6 : Nat) : Int)), .q (.bool false)] H4 ?ho14 ?he14
 case ho14 => exact ar (ak (by refine fun J => ⟨rfl, fun w' h => ?_⟩; clear h; go_simp <;> omega) trivial)
 intro _ w20 H20
 clear H4
 refine rN (wp_cond_false rfl ?_)
 refine wp_exit ?_
 repeat refine then_exit ?_
 refine block_exit ?_
 refine zA (wp_seq ?_)
 refine zD 1 [.made (ints .u64 (fun _ => 0) 6) 24] (sB H20) ?ho15 ?he15
 case ho15 => exact am (ex_mk25 rfl) trivial
 intro J w21 l hM hl
 have H21 : Hid (Mm w21 ([(J 0, ints .u64 (fun _ => 0) 6)] ++ _) ∧ _) := wB H20 hM hl [0]
 have o15_0 := vB H20 hM hl 0
 clear hM hl l H20
 generalize J 0 = J15_0 at H21 o15_0 ⊢
 clear J
 refine rN (wp_seq (wp_seq ?_))
 refine zC 1 [.q (.int .i64 0)] H21 ?ho16 ?he16
 case ho16 => exact ar trivial
 intro _ w22 H22
 clear H21
 refine rN (wp_block ?_)
 refine loop_ghost (α := Nat) (fun i2 a' w' => ∃ s4 : Nat → Value, a' = ⟨#[.agg (ints .u64 F 13).toArray, .agg (ints .u64 a 6).toArray, .agg (ints .u64 b 6).toArray, PT J1_0 0, PT J1_1 0, PT J1_2 0, PT J1_3 0, PT J2_0 0, .int .i64 ((6 : Nat) : Int), s0 9, PT J15_0 0, .int .i64 ((i2 : Nat) : Int), .int .i64 ((6 : Nat) : Int), .bool false, s0 14, s0 15, s0 16, s0 17, s0 18, s0 19, s0 20, s0 21, s0 22, s0 23, s0 24, s0 25, s0 26, s0 27, s0 28, s0 29, s0 30, s0 31, s0 32, s0 33, s0 34, s0 35, s0 36, s0 37, s0 38, s0 39, s0 40, s0 41, s4 42, s4 43, s4 44, s4 45, s4 46, s4 47, s4 48, s4 49, s4 50, ud, ud, ud, ud, ud, ud, ud, ud, ud, ud, ud, ud, ud, ud, ud, ud, ud, ud], []⟩ ∧ (Mm w' [(J15_0, ints .u64 (cpy (yE (F 6) F a b 6) i2) 6), (J2_0, ints .u64 (yE (F 6) F a b 6) 8), (J1_0, ints .u64 F 13), (J1_1, ints .u64 a 6), (J1_2, ints .u64 b 6), (J1_3, ints .u64 (fun _ => 0) 6)] ∧ Below w.heap.size w w') ∧ i2 ≤ 6) (fun i2 => 6 - i2) 0 ?st4 ?rd4
 case st4 => exact ⟨(yA [ud, ud, ud, ud, ud, ud, ud, ud, ud, ud, ud, ud, ud, ud, ud, ud, ud, ud, ud, ud, ud, ud, ud, ud, ud, ud, ud, ud, ud, ud, ud, ud, ud, ud, ud, ud, ud, ud, ud, ud, ud, ud, ud, ud, ud, ud, ud, ud, ud, ud, ud]), rfl, ⟨H22.out.1, H22.out.2⟩, by omega⟩
 intro i2 a' w23 hI
 obtain ⟨s4, rfl, hMB, hk4⟩ := hI
 have H23 : Hid (_ ∧ _) := hMB
 clear hMB H22
 by_cases hlti2 : i2 < 6
 ·have hrd : True := trivial
  clear hrd
  refine wp_seq (wp_seq ?_)
  refine zC 2 [.q (.int .i64 ((i2 : Nat) : Int)), .q (.bool true)] H23 ?ho17 ?he17
  case ho17 => exact ar (ak (by refine fun J => ⟨rfl, fun w' h => ?_⟩; clear h; go_simp <;> omega) trivial)
  intro _ w24 H24
  clear H23
  refine rN (wp_cond_true rfl ?_)
  refine wp_skip (zA ?_)
  refine wp_seq (wp_block ?_)
  refine zC 5 [.q (.int .i64 ((i2 : Nat) : Int)), .q (.int .i64 ((i2 : Nat) : Int)), .q (PT J2_0 i2), .q (U ((yE (F 6) F a b 6) i2)), .q (PT J15_0 i2)] H24 ?ho18 ?he18
  case ho18 => exact ar (ar (ak (fun J => ⟨rfl, fun w' _ => ex_ix0_63 (j := i2) rfl rfl rfl (by omega)⟩) (aq (fun w' h => ex_loadC h 1 rfl rfl rfl Ai22 (ints_get _ _ (by omega))) (ak (fun J => ⟨rfl, fun w' _ => ex_ix0_25 (j := i2) rfl rfl rfl (by omega)⟩) trivial))))
  intro _ w25 H25
  clear H24
  refine zG (l := [5]) rfl ?_
  refine rest_store rfl rfl rfl (ex_storeI H25.out.1 0 rfl rfl As22 rfl rfl (by rw [zL]; omega)) ?_
  have H26 : Hid (Mm (w25.setCells J15_0 i2 ([U ((yE (F 6) F a b 6) i2)])) [(J15_0, ints .u64 (cpy (yE (F 6) F a b 6) (i2 + 1)) 6), (J2_0, ints .u64 (yE (F 6) F a b 6) 8), (J1_0, ints .u64 F 13), (J1_1, ints .u64 a 6), (J1_2, ints .u64 b 6), (J1_3, ints .u64 (fun _ => 0) 6)] ∧ Below w.heap.size w (w25.setCells J15_0 i2 ([U ((yE (F 6) F a b 6) i2)]))) := ⟨by
   have h := H25.out.1.put 0 (off := i2) (vs := [U ((yE (F 6) F a b 6) i2)]) rfl (by rw [zL]; simp only [List.length_cons, List.length_nil]; omega)
   rw [ints_patch _ _ _ _ (by omega), show ints .u64 (up (cpy (yE (F 6) F a b 6) i2) i2 ((yE (F 6) F a b 6) i2)) 6 = ints .u64 (cpy (yE (F 6) F a b 6) (i2 + 1)) 6 by rw [show (up (cpy (yE (F 6) F a b 6) i2) i2 ((yE (F 6) F a b 6) i2)) = (cpy (yE (F 6) F a b 6) (i2 + 1)) from cpy_succ _ _]] at h
   exact h, zP _ o15_0.out _ _ _ H25.out.2⟩
  clear H25
  generalize hgw : World.setCells _ _ _ _ = w26 at H26 ⊢
  clear hgw
  refine zE (zT (zA ?_))
  refine zC 2 [.q (.int .i64 ((i2 : Nat) : Int)), .q (.int .i64 ((i2 + 1 : Nat) : Int))] H26 ?ho19 ?he19
  case ho19 => exact ar (ak (by refine fun J => ⟨rfl, fun w' h => ?_⟩; clear h; go_simp; rw [IntKind.wrap_i64]; omega) trivial)
  intro _ w27 H27
  clear H26
  refine zG (l := [2]) rfl ?_
  refine zN (d := 11) rfl rfl rfl rfl ?_
  simp only [Act.put, sa, sz, ss]
  refine zE (zA ?_)
  exact ⟨i2 + 1, ⟨(yA [ud, ud, ud, ud, ud, ud, ud, ud, ud, ud, ud, ud, ud, ud, ud, ud, ud, ud, ud, ud, ud, ud, ud, ud, ud, ud, ud, ud, ud, ud, ud, ud, ud, ud, ud, ud, ud, ud, ud, ud, ud, ud, .int .i64 ((i2 : Nat) : Int), .bool true, .int .i64 ((i2 : Nat) : Int), .int .i64 ((i2 + 1 : Nat) : Int), .int .i64 ((i2 : Nat) : Int), .int .i64 ((i2 : Nat) : Int), PT J2_0 i2, U ((yE (F 6) F a b 6) i2), PT J15_0 i2]), rfl, ⟨H27.out.1, H27.out.2⟩, by omega⟩, by omega⟩
 have hi2N : i2 = 6 := by omega
 subst hi2N
 refine wp_seq (wp_seq ?_)
 refine zC 2 [.q (.int .i64 ((6 : Nat) : Int)), .q (.bool false)] H23 ?ho20 ?he20
 case ho20 => exact ar (ak (by refine fun J => ⟨rfl, fun w' h => ?_⟩; clear h; go_simp <;> omega) trivial)
 intro _ w28 H28
 clear H23
 refine rN (wp_cond_false rfl ?_)
 refine wp_exit ?_
 repeat refine then_exit ?_
 refine block_exit ?_
 refine zA (wp_seq (wp_seq ?_))
 refine zC 10 [.q (PT J2_0 6), .q (U ((yE (F 6) F a b 6) 6)), .q (.bool true), .q (.bool true), .gone, .gone, .gone, .gone, .gone, .q (.bool true)] H28 ?ho21 ?he21
 case ho21 => exact ak (fun J => ⟨rfl, fun w' _ => ex_ix0_63 (j := 6) rfl rfl rfl (by decide)⟩) (aq (fun w' h => ex_loadC h 1 rfl rfl rfl Ai22 (ints_get _ _ (by decide))) (ak (fun J => ⟨rfl, fun w' _ => ex_ne64 (a := (yE (F 6) F a b 6) 6) (by rw [decide_eq_false h6]; rfl) rfl rfl rfl⟩) (ar (ak (fun J => rfl) (ak (fun J => rfl) (ak (fun J => rfl) (ak (fun J => rfl) (ak (fun J => rfl) (ag trivial)))))))))
 intro _ w29 H29
 clear H28
 refine rN (wp_cond_true rfl ?_)
 refine zC 7 [.q (.agg (ints .u64 (cpy (yE (F 6) F a b 6) 6) 6).toArray), .q (PT J1_0 0), .q (.agg (ints .u64 F 6).toArray), .call (.tuple #[.agg (ints .u64 D 6).toArray, .bool bb]), .q (.tuple #[.agg (ints .u64 D 6).toArray, .bool bb]), .q (.agg (ints .u64 D 6).toArray), .q (.bool bb)] H29 ?ho22 ?he22
 case ho22 => exact aq (fun w' h => zZ h 0 rfl rfl rfl Ai24 As24 (ints_whole _ _ _) (zL _ _ _)) (ag (aq (fun w' h => zZ h 2 rfl rfl rfl Ai24 As24 (pre13 F) (zL _ _ _)) (ac (fun w' h => eC call44 (HS.out w')) (ar (ag (ag trivial))))))
 intro _ w30 H30
 clear H29
 refine zG (l := [7]) rfl ?_
 refine rest_store rfl rfl rfl (ex_storeT (vs := ints .u64 D 6) H30.out.1 0 rfl rfl rfl rfl (by rw [zL]; exact As24) (ints_all _ _ _) (by simp [zL])) ?_
 have H31 : Hid (Mm (w30.setCells J15_0 0 (ints .u64 D 6)) [(J15_0, ints .u64 D 6), (J2_0, ints .u64 (yE (F 6) F a b 6) 8), (J1_0, ints .u64 F 13), (J1_1, ints .u64 a 6), (J1_2, ints .u64 b 6), (J1_3, ints .u64 (fun _ => 0) 6)] ∧ Below w.heap.size w (w30.setCells J15_0 0 (ints .u64 D 6))) := ⟨by
  have h := H30.out.1.put 0 (off := 0) (vs := ints .u64 D 6) rfl (by simp [zL])
  rw [ints_patch0 _ _ _ _] at h
  exact h, zP _ o15_0.out _ _ _ H30.out.2⟩
 clear H30
 generalize hgw : World.setCells _ _ _ _ = w31 at H31 ⊢
 clear hgw
 refine zE (zA (wp_seq ?_))
 refine zC 1 [.q (.agg (ints .u64 D 6).toArray)] H31 ?ho23 ?he23
 case ho23 => exact aq (fun w' h => zZ h 0 rfl rfl rfl Ai24 As24 (ints_whole _ _ _) (zL _ _ _)) trivial
 intro _ w32 H32
 clear H31
 refine zG (l := [1]) rfl ?_
 refine rest_store rfl rfl rfl (ex_storeT (vs := ints .u64 D 6) H32.out.1 5 rfl rfl rfl rfl (by rw [zL]; exact As24) (ints_all _ _ _) (by simp [zL])) ?_
 have H33 : Hid (Mm (w32.setCells J1_3 0 (ints .u64 D 6)) [(J15_0, ints .u64 D 6), (J2_0, ints .u64 (yE (F 6) F a b 6) 8), (J1_0, ints .u64 F 13), (J1_1, ints .u64 a 6), (J1_2, ints .u64 b 6), (J1_3, ints .u64 D 6)] ∧ Below w.heap.size w (w32.setCells J1_3 0 (ints .u64 D 6))) := ⟨by
  have h := H32.out.1.put 5 (off := 0) (vs := ints .u64 D 6) rfl (by simp [zL])
  rw [ints_patch0 _ _ _ _] at h
  exact h, zP _ o1_3.out _ _ _ H32.out.2⟩
 clear H32
 generalize hgw : World.setCells _ _ _ _ = w33 at H33 ⊢
 clear hgw
 refine zE (zA (wp_ret ?_))
 repeat (first | refine zK ?_ | refine zI ?_)
 have hf0 := var_T H33.out.1 5 rfl Ai24 As24 (zL _ _ _)
 refine bodyPost_ret (v := .agg (ints .u64 D 6).toArray) (by simp [results, Tryz.results51, asAddr, hf0]) rfl ?_
 exact ⟨rfl, H33.out.2⟩
set_option maxHeartbeats 2000000 in
theorem mont_b (F a b D : Nat → Nat) (z : Int) (bb : Bool) (hA : ∀ i, i < 6 → a i < 18446744073709551616) (hB : ∀ i, i < 6 → b i < 18446744073709551616) (hN : ∀ i, i < 6 → F i < 18446744073709551616) (hC0 : ∀ w, Calls Tryz.prog 39 #[.agg (ints .u64 (cpy (yE (F 6) F a b 6) 6) 6).toArray, .agg (ints .u64 F 6).toArray] w (Rt w (.int .i64 z))) (hS0 : ∀ w, Calls Tryz.prog 44 #[.agg (ints .u64 (cpy (yE (F 6) F a b 6) 6) 6).toArray, .agg (ints .u64 F 6).toArray] w (Rt w (.tuple #[.agg (ints .u64 D 6).toArray, .bool bb]))) (h6 : (yE (F 6) F a b 6) 6 = 0) (hz : 0 ≤ z) (w : World) :
  Calls Tryz.prog 51 #[.agg (ints .u64 F 13).toArray, .agg (ints .u64 a 6).toArray, .agg (ints .u64 b 6).toArray] w (Rt w (.agg (ints .u64 D 6).toArray)) := by
 have H0 : Hid (_ ∧ _) := ⟨Mm.nil w, Below.refl w.heap.size w⟩
 have HC : Hid _ := hC0
 have HS : Hid _ := hS0
 clear hC0 hS0
 go_enter Tryz.func51, Tryz.ntmps51
 refine wp_seq ?_
 refine zD 4 [.made (ints .u64 F 13) 36, .made (ints .u64 a 6) 24, .made (ints .u64 b 6) 24, .made (ints .u64 (fun _ => 0) 6) 24] (sB H0) ?ho1 ?he1
 case ho1 => exact am (ex_boxT rfl rfl) (am (ex_boxT rfl rfl) (am (ex_boxT rfl rfl) (am (ex_mk25 rfl) trivial)))
 intro J w1 l hM hl
 have H1 : Hid (Mm w1 [(J 0, ints .u64 F 13), (J 1, ints .u64 a 6), (J 2, ints .u64 b 6), (J 3, ints .u64 (fun _ => 0) 6)] ∧ _) := wB H0 hM hl [0, 1, 2, 3]
 have o1_0 := vB H0 hM hl 0
 have o1_1 := vB H0 hM hl 1
 have o1_2 := vB H0 hM hl 2
 have o1_3 := vB H0 hM hl 3
 clear hM hl l
 generalize J 0 = J1_0 at H1 o1_0 ⊢
 generalize J 1 = J1_1 at H1 o1_1 ⊢
 generalize J 2 = J1_2 at H1 o1_2 ⊢
 generalize J 3 = J1_3 at H1 o1_3 ⊢
 clear J
 refine rN (wp_seq ?_)
 refine zD 1 [.made (ints .u64 (fun _ => 0) 8) 76] (sB H1) ?ho2 ?he2
 case ho2 => exact am (ex_mk63 rfl) trivial
 intro J w2 l hM hl
 have H2 : Hid (Mm w2 ([(J 0, ints .u64 (fun _ => 0) 8)] ++ _) ∧ _) := wB H1 hM hl [0]
 have o2_0 := vB H1 hM hl 0
 clear hM hl l H1
 generalize J 0 = J2_0 at H2 o2_0 ⊢
 clear J
 refine rN (wp_seq (wp_seq ?_))
 refine zC 1 [.q (.int .i64 0)] H2 ?ho3 ?he3
 case ho3 => exact ar trivial
 intro _ w3 H3
 clear H2
 refine rN (wp_block ?_)
 refine loop_ghost (α := Nat) (fun i0 a' w' => ∃ s0 : Nat → Value, a' = ⟨#[.agg (ints .u64 F 13).toArray, .agg (ints .u64 a 6).toArray, .agg (ints .u64 b 6).toArray, PT J1_0 0, PT J1_1 0, PT J1_2 0, PT J1_3 0, PT J2_0 0, .int .i64 ((i0 : Nat) : Int), s0 9, ud, ud, s0 12, s0 13, s0 14, s0 15, s0 16, s0 17, s0 18, s0 19, s0 20, s0 21, s0 22, s0 23, s0 24, s0 25, s0 26, s0 27, s0 28, s0 29, s0 30, s0 31, s0 32, s0 33, s0 34, s0 35, s0 36, s0 37, s0 38, s0 39, s0 40, s0 41, ud, ud, ud, ud, ud, ud, ud, ud, ud, ud, ud, ud, ud, ud, ud, ud, ud, ud, ud, ud, ud, ud, ud, ud, ud, ud, ud], []⟩ ∧ (Mm w' [(J2_0, ints .u64 (yE (F 6) F a b i0) 8), (J1_0, ints .u64 F 13), (J1_1, ints .u64 a 6), (J1_2, ints .u64 b 6), (J1_3, ints .u64 (fun _ => 0) 6)] ∧ Below w.heap.size w w') ∧ i0 ≤ 6) (fun i0 => 6 - i0) 0 ?st0 ?rd0
 case st0 => exact ⟨(yA [ud, ud, ud, ud, ud, ud, ud, ud, ud, ud, ud, ud, ud, ud, ud, ud, ud, ud, ud, ud, ud, ud, ud, ud, ud, ud, ud, ud, ud, ud, ud, ud, ud, ud, ud, ud, ud, ud, ud, ud, ud, ud]), rfl, ⟨H3.out.1, H3.out.2⟩, by omega⟩
 intro i0 a' w4 hI
 obtain ⟨s0, rfl, hMB, hk0⟩ := hI
 have H4 : Hid (_ ∧ _) := hMB
 clear hMB H3
 by_cases hlti0 : i0 < 6
 ·have hrd : True := trivial
  clear hrd
  refine wp_seq (wp_seq ?_)
  refine zC 2 [.q (.int .i64 ((i0 : Nat) : Int)), .q (.bool true)] H4 ?ho4 ?he4
  case ho4 => exact ar (ak (by refine fun J => ⟨rfl, fun w' h => ?_⟩; clear h; go_simp <;> omega) trivial)
  intro _ w5 H5
  clear H4
  refine rN (wp_cond_true rfl ?_)
  refine wp_skip (zA ?_)
  refine wp_seq (wp_block (wp_seq ?_))
  refine zS 5 [.q (.agg (ints .u64 F 13).toArray), .q (.int .i64 ((i0 : Nat) : Int)), .q (PT J1_1 i0), .q (U (a i0)), .q (.agg (ints .u64 b 6).toArray)] H5 ?ho5 ?he5
  case ho5 => exact aq (fun w' h => zZ h 1 rfl rfl rfl Ai36 As36 (ints_whole _ _ _) (zL _ _ _)) (ar (ak (fun J => ⟨rfl, fun w' _ => ex_ix0_25 (j := i0) rfl rfl rfl (by omega)⟩) (aq (fun w' h => ex_loadC h 2 rfl rfl rfl Ai22 (ints_get _ _ (by omega))) (aq (fun w' h => zZ h 3 rfl rfl rfl Ai24 As24 (ints_whole _ _ _) (zL _ _ _)) trivial))))
  intro _ w6 H6
  clear H5
  refine zG (l := [5]) rfl ?_
  refine rest_enter (d := 21) (R := fun vv w' => vv = .tuple #[] ∧ Mm w' [(J2_0, ints .u64 (rw8 (a i0) b (yE (F 6) F a b i0)) 8)] ∧ Kp J2_0 w6 w') rfl rfl rfl (exec_call (args := #[.agg (ints .u64 F 13).toArray, PT J2_0 0, U (a i0), .agg (ints .u64 b 6).toArray]) rfl call72 rfl (mpn rfl)) (Calls.mono (row_any F b (yE (F 6) F a b i0) J2_0 (a i0) (hA i0 (by omega)) hB (fun i _ => mgt_lt i0 i) w6 (H6.out.1.one 0 rfl)) (fun e w2 hh => ⟨_, hh.1, rfl, hh.2⟩)) ?_
  rintro _ w7 ⟨rfl, hn, hp⟩
  have H7 : Hid (Mm w7 [(J2_0, ints .u64 (rw8 (a i0) b (yE (F 6) F a b i0)) 8), (J1_0, ints .u64 F 13), (J1_1, ints .u64 a 6), (J1_2, ints .u64 b 6), (J1_3, ints .u64 (fun _ => 0) 6)] ∧ Below w.heap.size w w7) := ⟨H6.out.1.change 0 rfl hp hn, Below.kp H6.out.2 hp o2_0.out H6.out.2.size⟩
  clear hn hp H6
  simp only [Act.put, sa, sz, ss]
  refine zE (zA (wp_seq ?_))
  refine zC 8 [.q (.agg (ints .u64 F 13).toArray), .q (PT J2_0 0), .q (U ((rw8 (a i0) b (yE (F 6) F a b i0)) 0)), .q (PT J1_0 6), .q (U (F 6)), .q (U (mgm (F 6) (rw8 (a i0) b (yE (F 6) F a b i0)))), .q (PT J1_0 0), .q (.agg (ints .u64 F 6).toArray)] H7 ?ho6 ?he6
  case ho6 => exact aq (fun w' h => zZ h 1 rfl rfl rfl Ai36 As36 (ints_whole _ _ _) (zL _ _ _)) (ak (fun J => ⟨rfl, fun w' _ => ex_ix0_63 (j := 0) rfl rfl rfl (by decide)⟩) (aq (fun w' h => ex_loadC h 0 rfl rfl rfl Ai22 (ints_get _ _ (by decide))) (ag (aq (fun w' h => ex_loadC h 1 rfl rfl rfl Ai22 (ints_get _ _ (by decide))) (ak (fun J => ⟨rfl, fun w' _ => ex_mul64 rfl rfl rfl⟩) (ag (aq (fun w' h => zZ h 1 rfl rfl rfl Ai24 As24 (pre13 F) (zL _ _ _)) trivial)))))))
  intro _ w8 H8
  clear H7
  refine zG (l := [8]) rfl ?_
  refine rest_enter (d := 30) (R := fun vv w' => vv = .tuple #[] ∧ Mm w' [(J2_0, ints .u64 (rw8 (mgm (F 6) (rw8 (a i0) b (yE (F 6) F a b i0))) F (rw8 (a i0) b (yE (F 6) F a b i0))) 8)] ∧ Kp J2_0 w8 w') rfl rfl rfl (exec_call (args := #[.agg (ints .u64 F 13).toArray, PT J2_0 0, U (mgm (F 6) (rw8 (a i0) b (yE (F 6) F a b i0))), .agg (ints .u64 F 6).toArray]) rfl call72 rfl (mpn rfl)) (Calls.mono (row_any F F (rw8 (a i0) b (yE (F 6) F a b i0)) J2_0 (mgm (F 6) (rw8 (a i0) b (yE (F 6) F a b i0))) (Nat.mod_lt _ (by decide)) hN (fun i _ => rw8_lt i) w8 (H8.out.1.one 0 rfl)) (fun e w2 hh => ⟨_, hh.1, rfl, hh.2⟩)) ?_
  rintro _ w9 ⟨rfl, hn, hp⟩
  have H9 : Hid (Mm w9 [(J2_0, ints .u64 (rw8 (mgm (F 6) (rw8 (a i0) b (yE (F 6) F a b i0))) F (rw8 (a i0) b (yE (F 6) F a b i0))) 8), (J1_0, ints .u64 F 13), (J1_1, ints .u64 a 6), (J1_2, ints .u64 b 6), (J1_3, ints .u64 (fun _ => 0) 6)] ∧ Below w.heap.size w w9) := ⟨H8.out.1.change 0 rfl hp hn, Below.kp H8.out.2 hp o2_0.out H8.out.2.size⟩
  clear hn hp H8
  simp only [Act.put, sa, sz, ss]
  refine zE (zA ?_)
  refine wp_seq (wp_seq ?_)
  refine zC 1 [.q (.int .i64 0)] H9 ?ho7 ?he7
  case ho7 => exact ar trivial
  intro _ w10 H10
  clear H9
  refine rN (wp_block ?_)
  refine loop_ghost (α := Nat) (fun i1 a' w' => ∃ s2 : Nat → Value, a' = ⟨#[.agg (ints .u64 F 13).toArray, .agg (ints .u64 a 6).toArray, .agg (ints .u64 b 6).toArray, PT J1_0 0, PT J1_1 0, PT J1_2 0, PT J1_3 0, PT J2_0 0, .int .i64 ((i0 : Nat) : Int), .int .i64 ((i1 : Nat) : Int), ud, ud, .int .i64 ((i0 : Nat) : Int), .bool true, s0 14, s0 15, .agg (ints .u64 F 13).toArray, .int .i64 ((i0 : Nat) : Int), PT J1_1 i0, U (a i0), .agg (ints .u64 b 6).toArray, .tuple #[], .agg (ints .u64 F 13).toArray, PT J2_0 0, U ((rw8 (a i0) b (yE (F 6) F a b i0)) 0), PT J1_0 6, U (F 6), U (mgm (F 6) (rw8 (a i0) b (yE (F 6) F a b i0))), PT J1_0 0, .agg (ints .u64 F 6).toArray, .tuple #[], s2 31, s2 32, s2 33, s2 34, s2 35, s2 36, s2 37, s2 38, s2 39, s2 40, s0 41, ud, ud, ud, ud, ud, ud, ud, ud, ud, ud, ud, ud, ud, ud, ud, ud, ud, ud, ud, ud, ud, ud, ud, ud, ud, ud, ud], []⟩ ∧ (Mm w' [(J2_0, ints .u64 (shr (rw8 (mgm (F 6) (rw8 (a i0) b (yE (F 6) F a b i0))) F (rw8 (a i0) b (yE (F 6) F a b i0))) i1) 8), (J1_0, ints .u64 F 13), (J1_1, ints .u64 a 6), (J1_2, ints .u64 b 6), (J1_3, ints .u64 (fun _ => 0) 6)] ∧ Below w.heap.size w w') ∧ i1 ≤ 7) (fun i1 => 7 - i1) 0 ?st2 ?rd2
  case st2 => exact ⟨(yA [ud, ud, ud, ud, ud, ud, ud, ud, ud, ud, ud, ud, ud, ud, ud, ud, ud, ud, ud, ud, ud, ud, ud, ud, ud, ud, ud, ud, ud, ud, ud, s0 31, s0 32, s0 33, s0 34, s0 35, s0 36, s0 37, s0 38, s0 39, s0 40]), rfl, ⟨H10.out.1, H10.out.2⟩, by omega⟩
  intro i1 a' w11 hI
  obtain ⟨s2, rfl, hMB, hk2⟩ := hI
  have H11 : Hid (_ ∧ _) := hMB
  clear hMB H10
  by_cases hlti1 : i1 < 7
  ·have hrd : True := trivial
   clear hrd
   refine wp_seq (wp_seq ?_)
   refine zC 2 [.q (.int .i64 ((i1 : Nat) : Int)), .q (.bool true)] H11 ?ho8 ?he8
   case ho8 => exact ar (ak (by refine fun J => ⟨rfl, fun w' h => ?_⟩; clear h; go_simp <;> omega) trivial)
   intro _ w12 H12
   clear H11
   refine rN (wp_cond_true rfl ?_)
   refine wp_skip (zA ?_)
   refine wp_seq (wp_block ?_)
   refine zC 6 [.q (.int .i64 ((i1 : Nat) : Int)), .q (.int .i64 ((i1 : Nat) : Int)), .q (.int .i64 ((i1 + 1 : Nat) : Int)), .q (PT J2_0 (i1 + 1)), .q (U ((shr (rw8 (mgm (F 6) (rw8 (a i0) b (yE (F 6) F a b i0))) F (rw8 (a i0) b (yE (F 6) F a b i0))) i1) (i1 + 1))), .q (PT J2_0 i1)] H12 ?ho9 ?he9
   case ho9 => exact ar (ar (ak (by refine fun J => ⟨rfl, fun w' h => ?_⟩; clear h; go_simp; rw [IntKind.wrap_i64]; omega) (ak (fun J => ⟨rfl, fun w' _ => ex_ix0_63 (j := i1 + 1) rfl rfl rfl (by omega)⟩) (aq (fun w' h => ex_loadC h 0 rfl rfl rfl Ai22 (ints_get _ _ (by omega))) (ak (fun J => ⟨rfl, fun w' _ => ex_ix0_63 (j := i1) rfl rfl rfl (by omega)⟩) trivial)))))
   intro _ w13 H13
   clear H12
   refine zG (l := [6]) rfl ?_
   refine rest_store rfl rfl rfl (ex_storeI H13.out.1 0 rfl rfl As22 rfl rfl (by rw [zL]; omega)) ?_
   have H14 : Hid (Mm (w13.setCells J2_0 i1 ([U ((shr (rw8 (mgm (F 6) (rw8 (a i0) b (yE (F 6) F a b i0))) F (rw8 (a i0) b (yE (F 6) F a b i0))) i1) (i1 + 1))])) [(J2_0, ints .u64 (shr (rw8 (mgm (F 6) (rw8 (a i0) b (yE (F 6) F a b i0))) F (rw8 (a i0) b (yE (F 6) F a b i0))) (i1 + 1)) 8), (J1_0, ints .u64 F 13), (J1_1, ints .u64 a 6), (J1_2, ints .u64 b 6), (J1_3, ints .u64 (fun _ => 0) 6)] ∧ Below w.heap.size w (w13.setCells J2_0 i1 ([U ((shr (rw8 (mgm (F 6) (rw8 (a i0) b (yE (F 6) F a b i0))) F (rw8 (a i0) b (yE (F 6) F a b i0))) i1) (i1 + 1))]))) := ⟨by
    have h := H13.out.1.put 0 (off := i1) (vs := [U ((shr (rw8 (mgm (F 6) (rw8 (a i0) b (yE (F 6) F a b i0))) F (rw8 (a i0) b (yE (F 6) F a b i0))) i1) (i1 + 1))]) rfl (by rw [zL]; simp only [List.length_cons, List.length_nil]; omega)
    rw [ints_patch _ _ _ _ (by omega), show ints .u64 (up (shr (rw8 (mgm (F 6) (rw8 (a i0) b (yE (F 6) F a b i0))) F (rw8 (a i0) b (yE (F 6) F a b i0))) i1) i1 ((shr (rw8 (mgm (F 6) (rw8 (a i0) b (yE (F 6) F a b i0))) F (rw8 (a i0) b (yE (F 6) F a b i0))) i1) (i1 + 1))) 8 = ints .u64 (shr (rw8 (mgm (F 6) (rw8 (a i0) b (yE (F 6) F a b i0))) F (rw8 (a i0) b (yE (F 6) F a b i0))) (i1 + 1)) 8 by rw [show (up (shr (rw8 (mgm (F 6) (rw8 (a i0) b (yE (F 6) F a b i0))) F (rw8 (a i0) b (yE (F 6) F a b i0))) i1) i1 ((shr (rw8 (mgm (F 6) (rw8 (a i0) b (yE (F 6) F a b i0))) F (rw8 (a i0) b (yE (F 6) F a b i0))) i1) (i1 + 1))) = (shr (rw8 (mgm (F 6) (rw8 (a i0) b (yE (F 6) F a b i0))) F (rw8 (a i0) b (yE (F 6) F a b i0))) (i1 + 1)) from shr_succ _ _]] at h
    exact h, zP _ o2_0.out _ _ _ H13.out.2⟩
   clear H13
   generalize hgw : World.setCells _ _ _ _ = w14 at H14 ⊢
   clear hgw
   refine zE (zT (zA ?_))
   refine zC 2 [.q (.int .i64 ((i1 : Nat) : Int)), .q (.int .i64 ((i1 + 1 : Nat) : Int))] H14 ?ho10 ?he10
   case ho10 => exact ar (ak (by refine fun J => ⟨rfl, fun w' h => ?_⟩; clear h; go_simp; rw [IntKind.wrap_i64]; omega) trivial)
   intro _ w15 H15
   clear H14
   refine zG (l := [2]) rfl ?_
   refine zN (d := 9) rfl rfl rfl rfl ?_
   simp only [Act.put, sa, sz, ss]
   refine zE (zA ?_)
   exact ⟨i1 + 1, ⟨(yA [ud, ud, ud, ud, ud, ud, ud, ud, ud, ud, ud, ud, ud, ud, ud, ud, ud, ud, ud, ud, ud, ud, ud, ud, ud, ud, ud, ud, ud, ud, ud, .int .i64 ((i1 : Nat) : Int), .bool true, .int .i64 ((i1 : Nat) : Int), .int .i64 ((i1 + 1 : Nat) : Int), .int .i64 ((i1 : Nat) : Int), .int .i64 ((i1 : Nat) : Int), .int .i64 ((i1 + 1 : Nat) : Int), PT J2_0 (i1 + 1), U ((shr (rw8 (mgm (F 6) (rw8 (a i0) b (yE (F 6) F a b i0))) F (rw8 (a i0) b (yE (F 6) F a b i0))) i1) (i1 + 1)), PT J2_0 i1]), rfl, ⟨H15.out.1, H15.out.2⟩, by omega⟩, by omega⟩
  have hi1N : i1 = 7 := by omega
  subst hi1N
  refine wp_seq (wp_seq ?_)
  refine zC 2 [.q (.int .i64 ((7 : Nat) : Int)), .q (.bool false)] H11 ?ho11 ?he11
  case ho11 => exact ar (ak (by refine fun J => ⟨rfl, fun w' h => ?_⟩; clear h; go_simp <;> omega) trivial)
  intro _ w16 H16
  clear H11
  refine rN (wp_cond_false rfl ?_)
  refine wp_exit ?_
  repeat refine then_exit ?_
  refine block_exit ?_
  refine zA ?_
  refine zC 1 [.q (PT J2_0 7)] H16 ?ho12 ?he12
  case ho12 => exact ak (fun J => ⟨rfl, fun w' _ => ex_ix0_63 (j := 7) rfl rfl rfl (by decide)⟩) trivial
  intro _ w17 H17
  clear H16
  refine zG (l := [1]) rfl ?_
  refine rest_store rfl rfl rfl (ex_storeI H17.out.1 0 rfl rfl As22 rfl rfl (by rw [zL]; decide)) ?_
  have H18 : Hid (Mm (w17.setCells J2_0 7 ([U 0])) [(J2_0, ints .u64 (yE (F 6) F a b (i0 + 1)) 8), (J1_0, ints .u64 F 13), (J1_1, ints .u64 a 6), (J1_2, ints .u64 b 6), (J1_3, ints .u64 (fun _ => 0) 6)] ∧ Below w.heap.size w (w17.setCells J2_0 7 ([U 0]))) := ⟨by
   have h := H17.out.1.put 0 (off := 7) (vs := [U 0]) rfl (by rw [zL]; simp only [List.length_cons, List.length_nil]; decide)
   rw [ints_patch _ _ _ _ (by decide), show ints .u64 (up (shr (rw8 (mgm (F 6) (rw8 (a i0) b (yE (F 6) F a b i0))) F (rw8 (a i0) b (yE (F 6) F a b i0))) 7) 7 0) 8 = ints .u64 (yE (F 6) F a b (i0 + 1)) 8 by rw [show (up (shr (rw8 (mgm (F 6) (rw8 (a i0) b (yE (F 6) F a b i0))) F (rw8 (a i0) b (yE (F 6) F a b i0))) 7) 7 0) = (yE (F 6) F a b (i0 + 1)) from rfl]] at h
   exact h, zP _ o2_0.out _ _ _ H17.out.2⟩
  clear H17
  generalize hgw : World.setCells _ _ _ _ = w18 at H18 ⊢
  clear hgw
  refine zE (zT (zA ?_))
  refine zC 2 [.q (.int .i64 ((i0 : Nat) : Int)), .q (.int .i64 ((i0 + 1 : Nat) : Int))] H18 ?ho13 ?he13
  case ho13 => exact ar (ak (by refine fun J => ⟨rfl, fun w' h => ?_⟩; clear h; go_simp; rw [IntKind.wrap_i64]; omega) trivial)
  intro _ w19 H19
  clear H18
  refine zG (l := [2]) rfl ?_
  refine zN (d := 8) rfl rfl rfl rfl ?_
  simp only [Act.put, sa, sz, ss]
  refine zE (zA ?_)
  exact ⟨i0 + 1, ⟨(yA [ud, ud, ud, ud, ud, ud, ud, ud, ud, .int .i64 ((7 : Nat) : Int), ud, ud, .int .i64 ((i0 : Nat) : Int), .bool true, .int .i64 ((i0 : Nat) : Int), .int .i64 ((i0 + 1 : Nat) : Int), .agg (ints .u64 F 13).toArray, .int .i64 ((i0 : Nat) : Int), PT J1_1 i0, U (a i0), .agg (ints .u64 b 6).toArray, .tuple #[], .agg (ints .u64 F 13).toArray, PT J2_0 0, U ((rw8 (a i0) b (yE (F 6) F a b i0)) 0), PT J1_0 6, U (F 6), U (mgm (F 6) (rw8 (a i0) b (yE (F 6) F a b i0))), PT J1_0 0, .agg (ints .u64 F 6).toArray, .tuple #[], .int .i64 ((7 : Nat) : Int), .bool false, s2 33, s2 34, s2 35, s2 36, s2 37, s2 38, s2 39, s2 40, PT J2_0 7]), rfl, ⟨H19.out.1, H19.out.2⟩, by omega⟩, by omega⟩
 have hi0N : i0 = 6 := by omega
 subst hi0N
 refine wp_seq (wp_seq ?_)
 refine zC 2 [.q (.int .i64 ((6 : Nat) : Int)), .q (.bool false)] H4 ?ho14 ?he14
 case ho14 => exact ar (ak (by refine fun J => ⟨rfl, fun w' h => ?_⟩; clear h; go_simp <;> omega) trivial)
 intro _ w20 H20
 clear H4
 refine rN (wp_cond_false rfl ?_)
 refine wp_exit ?_
 repeat refine then_exit ?_
 refine block_exit ?_
 refine zA (wp_seq ?_)
 refine zD 1 [.made (ints .u64 (fun _ => 0) 6) 24] (sB H20) ?ho15 ?he15
 case ho15 => exact am (ex_mk25 rfl) trivial
 intro J w21 l hM hl
 have H21 : Hid (Mm w21 ([(J 0, ints .u64 (fun _ => 0) 6)] ++ _) ∧ _) := wB H20 hM hl [0]
 have o15_0 := vB H20 hM hl 0
 clear hM hl l H20
 generalize J 0 = J15_0 at H21 o15_0 ⊢
 clear J
 refine rN (wp_seq (wp_seq ?_))
 refine zC 1 [.q (.int .i64 0)] H21 ?ho16 ?he16
 case ho16 => exact ar trivial
 intro _ w22 H22
 clear H21
 refine rN (wp_block ?_)
 refine loop_ghost (α := Nat) (fun i2 a' w' => ∃ s4 : Nat → Value, a' = ⟨#[.agg (ints .u64 F 13).toArray, .agg (ints .u64 a 6).toArray, .agg (ints .u64 b 6).toArray, PT J1_0 0, PT J1_1 0, PT J1_2 0, PT J1_3 0, PT J2_0 0, .int .i64 ((6 : Nat) : Int), s0 9, PT J15_0 0, .int .i64 ((i2 : Nat) : Int), .int .i64 ((6 : Nat) : Int), .bool false, s0 14, s0 15, s0 16, s0 17, s0 18, s0 19, s0 20, s0 21, s0 22, s0 23, s0 24, s0 25, s0 26, s0 27, s0 28, s0 29, s0 30, s0 31, s0 32, s0 33, s0 34, s0 35, s0 36, s0 37, s0 38, s0 39, s0 40, s0 41, s4 42, s4 43, s4 44, s4 45, s4 46, s4 47, s4 48, s4 49, s4 50, ud, ud, ud, ud, ud, ud, ud, ud, ud, ud, ud, ud, ud, ud, ud, ud, ud, ud], []⟩ ∧ (Mm w' [(J15_0, ints .u64 (cpy (yE (F 6) F a b 6) i2) 6), (J2_0, ints .u64 (yE (F 6) F a b 6) 8), (J1_0, ints .u64 F 13), (J1_1, ints .u64 a 6), (J1_2, ints .u64 b 6), (J1_3, ints .u64 (fun _ => 0) 6)] ∧ Below w.heap.size w w') ∧ i2 ≤ 6) (fun i2 => 6 - i2) 0 ?st4 ?rd4
 case st4 => exact ⟨(yA [ud, ud, ud, ud, ud, ud, ud, ud, ud, ud, ud, ud, ud, ud, ud, ud, ud, ud, ud, ud, ud, ud, ud, ud, ud, ud, ud, ud, ud, ud, ud, ud, ud, ud, ud, ud, ud, ud, ud, ud, ud, ud, ud, ud, ud, ud, ud, ud, ud, ud, ud]), rfl, ⟨H22.out.1, H22.out.2⟩, by omega⟩
 intro i2 a' w23 hI
 obtain ⟨s4, rfl, hMB, hk4⟩ := hI
 have H23 : Hid (_ ∧ _) := hMB
 clear hMB H22
 by_cases hlti2 : i2 < 6
 ·have hrd : True := trivial
  clear hrd
  refine wp_seq (wp_seq ?_)
  refine zC 2 [.q (.int .i64 ((i2 : Nat) : Int)), .q (.bool true)] H23 ?ho17 ?he17
  case ho17 => exact ar (ak (by refine fun J => ⟨rfl, fun w' h => ?_⟩; clear h; go_simp <;> omega) trivial)
  intro _ w24 H24
  clear H23
  refine rN (wp_cond_true rfl ?_)
  refine wp_skip (zA ?_)
  refine wp_seq (wp_block ?_)
  refine zC 5 [.q (.int .i64 ((i2 : Nat) : Int)), .q (.int .i64 ((i2 : Nat) : Int)), .q (PT J2_0 i2), .q (U ((yE (F 6) F a b 6) i2)), .q (PT J15_0 i2)] H24 ?ho18 ?he18
  case ho18 => exact ar (ar (ak (fun J => ⟨rfl, fun w' _ => ex_ix0_63 (j := i2) rfl rfl rfl (by omega)⟩) (aq (fun w' h => ex_loadC h 1 rfl rfl rfl Ai22 (ints_get _ _ (by omega))) (ak (fun J => ⟨rfl, fun w' _ => ex_ix0_25 (j := i2) rfl rfl rfl (by omega)⟩) trivial))))
  intro _ w25 H25
  clear H24
  refine zG (l := [5]) rfl ?_
  refine rest_store rfl rfl rfl (ex_storeI H25.out.1 0 rfl rfl As22 rfl rfl (by rw [zL]; omega)) ?_
  have H26 : Hid (Mm (w25.setCells J15_0 i2 ([U ((yE (F 6) F a b 6) i2)])) [(J15_0, ints .u64 (cpy (yE (F 6) F a b 6) (i2 + 1)) 6), (J2_0, ints .u64 (yE (F 6) F a b 6) 8), (J1_0, ints .u64 F 13), (J1_1, ints .u64 a 6), (J1_2, ints .u64 b 6), (J1_3, ints .u64 (fun _ => 0) 6)] ∧ Below w.heap.size w (w25.setCells J15_0 i2 ([U ((yE (F 6) F a b 6) i2)]))) := ⟨by
   have h := H25.out.1.put 0 (off := i2) (vs := [U ((yE (F 6) F a b 6) i2)]) rfl (by rw [zL]; simp only [List.length_cons, List.length_nil]; omega)
   rw [ints_patch _ _ _ _ (by omega), show ints .u64 (up (cpy (yE (F 6) F a b 6) i2) i2 ((yE (F 6) F a b 6) i2)) 6 = ints .u64 (cpy (yE (F 6) F a b 6) (i2 + 1)) 6 by rw [show (up (cpy (yE (F 6) F a b 6) i2) i2 ((yE (F 6) F a b 6) i2)) = (cpy (yE (F 6) F a b 6) (i2 + 1)) from cpy_succ _ _]] at h
   exact h, zP _ o15_0.out _ _ _ H25.out.2⟩
  clear H25
  generalize hgw : World.setCells _ _ _ _ = w26 at H26 ⊢
  clear hgw
  refine zE (zT (zA ?_))
  refine zC 2 [.q (.int .i64 ((i2 : Nat) : Int)), .q (.int .i64 ((i2 + 1 : Nat) : Int))] H26 ?ho19 ?he19
  case ho19 => exact ar (ak (by refine fun J => ⟨rfl, fun w' h => ?_⟩; clear h; go_simp; rw [IntKind.wrap_i64]; omega) trivial)
  intro _ w27 H27
  clear H26
  refine zG (l := [2]) rfl ?_
  refine zN (d := 11) rfl rfl rfl rfl ?_
  simp only [Act.put, sa, sz, ss]
  refine zE (zA ?_)
  exact ⟨i2 + 1, ⟨(yA [ud, ud, ud, ud, ud, ud, ud, ud, ud, ud, ud, ud, ud, ud, ud, ud, ud, ud, ud, ud, ud, ud, ud, ud, ud, ud, ud, ud, ud, ud, ud, ud, ud, ud, ud, ud, ud, ud, ud, ud, ud, ud, .int .i64 ((i2 : Nat) : Int), .bool true, .int .i64 ((i2 : Nat) : Int), .int .i64 ((i2 + 1 : Nat) : Int), .int .i64 ((i2 : Nat) : Int), .int .i64 ((i2 : Nat) : Int), PT J2_0 i2, U ((yE (F 6) F a b 6) i2), PT J15_0 i2]), rfl, ⟨H27.out.1, H27.out.2⟩, by omega⟩, by omega⟩
 have hi2N : i2 = 6 := by omega
 subst hi2N
 refine wp_seq (wp_seq ?_)
 refine zC 2 [.q (.int .i64 ((6 : Nat) : Int)), .q (.bool false)] H23 ?ho20 ?he20
 case ho20 => exact ar (ak (by refine fun J => ⟨rfl, fun w' h => ?_⟩; clear h; go_simp <;> omega) trivial)
 intro _ w28 H28
 clear H23
 refine rN (wp_cond_false rfl ?_)
 refine wp_exit ?_
 repeat refine then_exit ?_
 refine block_exit ?_
 refine zA (wp_seq (wp_seq ?_))
 refine zC 10 [.q (PT J2_0 6), .q (U ((yE (F 6) F a b 6) 6)), .q (.bool false), .q (.bool false), .q (.agg (ints .u64 (cpy (yE (F 6) F a b 6) 6) 6).toArray), .q (PT J1_0 0), .q (.agg (ints .u64 F 6).toArray), .call (.int .i64 z), .q (.bool true), .q (.bool true)] H28 ?ho21 ?he21
 case ho21 => exact ak (fun J => ⟨rfl, fun w' _ => ex_ix0_63 (j := 6) rfl rfl rfl (by decide)⟩) (aq (fun w' h => ex_loadC h 1 rfl rfl rfl Ai22 (ints_get _ _ (by decide))) (ak (fun J => ⟨rfl, fun w' _ => ex_ne64 (a := (yE (F 6) F a b 6) 6) (by rw [decide_eq_true h6]; rfl) rfl rfl rfl⟩) (ar (aq (fun w' h => zZ h 0 rfl rfl rfl Ai24 As24 (ints_whole _ _ _) (zL _ _ _)) (ag (aq (fun w' h => zZ h 2 rfl rfl rfl Ai24 As24 (pre13 F) (zL _ _ _)) (ac (fun w' h => eC call39 (HC.out w')) (ak (fun J => ⟨rfl, fun w' _ => ex_ge3 (z := z) (decide_eq_true hz) rfl rfl rfl⟩) (ag trivial)))))))))
 intro _ w29 H29
 clear H28
 refine rN (wp_cond_true rfl ?_)
 refine zC 7 [.q (.agg (ints .u64 (cpy (yE (F 6) F a b 6) 6) 6).toArray), .q (PT J1_0 0), .q (.agg (ints .u64 F 6).toArray), .call (.tuple #[.agg (ints .u64 D 6).toArray, .bool bb]), .q (.tuple #[.agg (ints .u64 D 6).toArray, .bool bb]), .q (.agg (ints .u64 D 6).toArray), .q (.bool bb)] H29 ?ho22 ?he22
 case ho22 => exact aq (fun w' h => zZ h 0 rfl rfl rfl Ai24 As24 (ints_whole _ _ _) (zL _ _ _)) (ag (aq (fun w' h => zZ h 2 rfl rfl rfl Ai24 As24 (pre13 F) (zL _ _ _)) (ac (fun w' h => eC call44 (HS.out w')) (ar (ag (ag trivial))))))
 intro _ w30 H30
 clear H29
 refine zG (l := [7]) rfl ?_
 refine rest_store rfl rfl rfl (ex_storeT (vs := ints .u64 D 6) H30.out.1 0 rfl rfl rfl rfl (by rw [zL]; exact As24) (ints_all _ _ _) (by simp [zL])) ?_
 have H31 : Hid (Mm (w30.setCells J15_0 0 (ints .u64 D 6)) [(J15_0, ints .u64 D 6), (J2_0, ints .u64 (yE (F 6) F a b 6) 8), (J1_0, ints .u64 F 13), (J1_1, ints .u64 a 6), (J1_2, ints .u64 b 6), (J1_3, ints .u64 (fun _ => 0) 6)] ∧ Below w.heap.size w (w30.setCells J15_0 0 (ints .u64 D 6))) := ⟨by
  have h := H30.out.1.put 0 (off := 0) (vs := ints .u64 D 6) rfl (by simp [zL])
  rw [ints_patch0 _ _ _ _] at h
  exact h, zP _ o15_0.out _ _ _ H30.out.2⟩
 clear H30
 generalize hgw : World.setCells _ _ _ _ = w31 at H31 ⊢
 clear hgw
 refine zE (zA (wp_seq ?_))
 refine zC 1 [.q (.agg (ints .u64 D 6).toArray)] H31 ?ho23 ?he23
 case ho23 => exact aq (fun w' h => zZ h 0 rfl rfl rfl Ai24 As24 (ints_whole _ _ _) (zL _ _ _)) trivial
 intro _ w32 H32
 clear H31
 refine zG (l := [1]) rfl ?_
 refine rest_store rfl rfl rfl (ex_storeT (vs := ints .u64 D 6) H32.out.1 5 rfl rfl rfl rfl (by rw [zL]; exact As24) (ints_all _ _ _) (by simp [zL])) ?_
 have H33 : Hid (Mm (w32.setCells J1_3 0 (ints .u64 D 6)) [(J15_0, ints .u64 D 6), (J2_0, ints .u64 (yE (F 6) F a b 6) 8), (J1_0, ints .u64 F 13), (J1_1, ints .u64 a 6), (J1_2, ints .u64 b 6), (J1_3, ints .u64 D 6)] ∧ Below w.heap.size w (w32.setCells J1_3 0 (ints .u64 D 6))) := ⟨by
  have h := H32.out.1.put 5 (off := 0) (vs := ints .u64 D 6) rfl (by simp [zL])
  rw [ints_patch0 _ _ _ _] at h
  exact h, zP _ o1_3.out _ _ _ H32.out.2⟩
 clear H32
 generalize hgw : World.setCells _ _ _ _ = w33 at H33 ⊢
 clear hgw
 refine zE (zA (wp_ret ?_))
 repeat (first | refine zK ?_ | refine zI ?_)
 have hf0 := var_T H33.out.1 5 rfl Ai24 As24 (zL _ _ _)
 refine bodyPost_ret (v := .agg (ints .u64 D 6).toArray) (by simp [results, Tryz.results51, asAddr, hf0]) rfl ?_
 exact ⟨rfl, H33.out.2⟩
set_option maxHeartbeats 2000000 in
theorem mont_c (F a b D : Nat → Nat) (z : Int) (bb : Bool) (hA : ∀ i, i < 6 → a i < 18446744073709551616) (hB : ∀ i, i < 6 → b i < 18446744073709551616) (hN : ∀ i, i < 6 → F i < 18446744073709551616) (hC0 : ∀ w, Calls Tryz.prog 39 #[.agg (ints .u64 (cpy (yE (F 6) F a b 6) 6) 6).toArray, .agg (ints .u64 F 6).toArray] w (Rt w (.int .i64 z))) (hS0 : ∀ w, Calls Tryz.prog 44 #[.agg (ints .u64 (cpy (yE (F 6) F a b 6) 6) 6).toArray, .agg (ints .u64 F 6).toArray] w (Rt w (.tuple #[.agg (ints .u64 D 6).toArray, .bool bb]))) (h6 : (yE (F 6) F a b 6) 6 = 0) (hz : z < 0) (w : World) :
  Calls Tryz.prog 51 #[.agg (ints .u64 F 13).toArray, .agg (ints .u64 a 6).toArray, .agg (ints .u64 b 6).toArray] w (Rt w (.agg (ints .u64 (cpy (yE (F 6) F a b 6) 6) 6).toArray)) := by
 have H0 : Hid (_ ∧ _) := ⟨Mm.nil w, Below.refl w.heap.size w⟩
 have HC : Hid _ := hC0
 have HS : Hid _ := hS0
 clear hC0 hS0
 go_enter Tryz.func51, Tryz.ntmps51
 refine wp_seq ?_
 refine zD 4 [.made (ints .u64 F 13) 36, .made (ints .u64 a 6) 24, .made (ints .u64 b 6) 24, .made (ints .u64 (fun _ => 0) 6) 24] (sB H0) ?ho1 ?he1
 case ho1 => exact am (ex_boxT rfl rfl) (am (ex_boxT rfl rfl) (am (ex_boxT rfl rfl) (am (ex_mk25 rfl) trivial)))
 intro J w1 l hM hl
 have H1 : Hid (Mm w1 [(J 0, ints .u64 F 13), (J 1, ints .u64 a 6), (J 2, ints .u64 b 6), (J 3, ints .u64 (fun _ => 0) 6)] ∧ _) := wB H0 hM hl [0, 1, 2, 3]
 have o1_0 := vB H0 hM hl 0
 have o1_1 := vB H0 hM hl 1
 have o1_2 := vB H0 hM hl 2
 have o1_3 := vB H0 hM hl 3
 clear hM hl l
 generalize J 0 = J1_0 at H1 o1_0 ⊢
 generalize J 1 = J1_1 at H1 o1_1 ⊢
 generalize J 2 = J1_2 at H1 o1_2 ⊢
 generalize J 3 = J1_3 at H1 o1_3 ⊢
 clear J
 refine rN (wp_seq ?_)
 refine zD 1 [.made (ints .u64 (fun _ => 0) 8) 76] (sB H1) ?ho2 ?he2
 case ho2 => exact am (ex_mk63 rfl) trivial
 intro J w2 l hM hl
 have H2 : Hid (Mm w2 ([(J 0, ints .u64 (fun _ => 0) 8)] ++ _) ∧ _) := wB H1 hM hl [0]
 have o2_0 := vB H1 hM hl 0
 clear hM hl l H1
 generalize J 0 = J2_0 at H2 o2_0 ⊢
 clear J
 refine rN (wp_seq (wp_seq ?_))
 refine zC 1 [.q (.int .i64 0)] H2 ?ho3 ?he3
 case ho3 => exact ar trivial
 intro _ w3 H3
 clear H2
 refine rN (wp_block ?_)
 refine loop_ghost (α := Nat) (fun i0 a' w' => ∃ s0 : Nat → Value, a' = ⟨#[.agg (ints .u64 F 13).toArray, .agg (ints .u64 a 6).toArray, .agg (ints .u64 b 6).toArray, PT J1_0 0, PT J1_1 0, PT J1_2 0, PT J1_3 0, PT J2_0 0, .int .i64 ((i0 : Nat) : Int), s0 9, ud, ud, s0 12, s0 13, s0 14, s0 15, s0 16, s0 17, s0 18, s0 19, s0 20, s0 21, s0 22, s0 23, s0 24, s0 25, s0 26, s0 27, s0 28, s0 29, s0 30, s0 31, s0 32, s0 33, s0 34, s0 35, s0 36, s0 37, s0 38, s0 39, s0 40, s0 41, ud, ud, ud, ud, ud, ud, ud, ud, ud, ud, ud, ud, ud, ud, ud, ud, ud, ud, ud, ud, ud, ud, ud, ud, ud, ud, ud], []⟩ ∧ (Mm w' [(J2_0, ints .u64 (yE (F 6) F a b i0) 8), (J1_0, ints .u64 F 13), (J1_1, ints .u64 a 6), (J1_2, ints .u64 b 6), (J1_3, ints .u64 (fun _ => 0) 6)] ∧ Below w.heap.size w w') ∧ i0 ≤ 6) (fun i0 => 6 - i0) 0 ?st0 ?rd0
 case st0 => exact ⟨(yA [ud, ud, ud, ud, ud, ud, ud, ud, ud, ud, ud, ud, ud, ud, ud, ud, ud, ud, ud, ud, ud, ud, ud, ud, ud, ud, ud, ud, ud, ud, ud, ud, ud, ud, ud, ud, ud, ud, ud, ud, ud, ud]), rfl, ⟨H3.out.1, H3.out.2⟩, by omega⟩
 intro i0 a' w4 hI
 obtain ⟨s0, rfl, hMB, hk0⟩ := hI
 have H4 : Hid (_ ∧ _) := hMB
 clear hMB H3
 by_cases hlti0 : i0 < 6
 ·have hrd : True := trivial
  clear hrd
  refine wp_seq (wp_seq ?_)
  refine zC 2 [.q (.int .i64 ((i0 : Nat) : Int)), .q (.bool true)] H4 ?ho4 ?he4
  case ho4 => exact ar (ak (by refine fun J => ⟨rfl, fun w' h => ?_⟩; clear h; go_simp <;> omega) trivial)
  intro _ w5 H5
  clear H4
  refine rN (wp_cond_true rfl ?_)
  refine wp_skip (zA ?_)
  refine wp_seq (wp_block (wp_seq ?_))
  refine zS 5 [.q (.agg (ints .u64 F 13).toArray), .q (.int .i64 ((i0 : Nat) : Int)), .q (PT J1_1 i0), .q (U (a i0)), .q (.agg (ints .u64 b 6).toArray)] H5 ?ho5 ?he5
  case ho5 => exact aq (fun w' h => zZ h 1 rfl rfl rfl Ai36 As36 (ints_whole _ _ _) (zL _ _ _)) (ar (ak (fun J => ⟨rfl, fun w' _ => ex_ix0_25 (j := i0) rfl rfl rfl (by omega)⟩) (aq (fun w' h => ex_loadC h 2 rfl rfl rfl Ai22 (ints_get _ _ (by omega))) (aq (fun w' h => zZ h 3 rfl rfl rfl Ai24 As24 (ints_whole _ _ _) (zL _ _ _)) trivial))))
  intro _ w6 H6
  clear H5
  refine zG (l := [5]) rfl ?_
  refine rest_enter (d := 21) (R := fun vv w' => vv = .tuple #[] ∧ Mm w' [(J2_0, ints .u64 (rw8 (a i0) b (yE (F 6) F a b i0)) 8)] ∧ Kp J2_0 w6 w') rfl rfl rfl (exec_call (args := #[.agg (ints .u64 F 13).toArray, PT J2_0 0, U (a i0), .agg (ints .u64 b 6).toArray]) rfl call72 rfl (mpn rfl)) (Calls.mono (row_any F b (yE (F 6) F a b i0) J2_0 (a i0) (hA i0 (by omega)) hB (fun i _ => mgt_lt i0 i) w6 (H6.out.1.one 0 rfl)) (fun e w2 hh => ⟨_, hh.1, rfl, hh.2⟩)) ?_
  rintro _ w7 ⟨rfl, hn, hp⟩
  have H7 : Hid (Mm w7 [(J2_0, ints .u64 (rw8 (a i0) b (yE (F 6) F a b i0)) 8), (J1_0, ints .u64 F 13), (J1_1, ints .u64 a 6), (J1_2, ints .u64 b 6), (J1_3, ints .u64 (fun _ => 0) 6)] ∧ Below w.heap.size w w7) := ⟨H6.out.1.change 0 rfl hp hn, Below.kp H6.out.2 hp o2_0.out H6.out.2.size⟩
  clear hn hp H6
  simp only [Act.put, sa, sz, ss]
  refine zE (zA (wp_seq ?_))
  refine zC 8 [.q (.agg (ints .u64 F 13).toArray), .q (PT J2_0 0), .q (U ((rw8 (a i0) b (yE (F 6) F a b i0)) 0)), .q (PT J1_0 6), .q (U (F 6)), .q (U (mgm (F 6) (rw8 (a i0) b (yE (F 6) F a b i0)))), .q (PT J1_0 0), .q (.agg (ints .u64 F 6).toArray)] H7 ?ho6 ?he6
  case ho6 => exact aq (fun w' h => zZ h 1 rfl rfl rfl Ai36 As36 (ints_whole _ _ _) (zL _ _ _)) (ak (fun J => ⟨rfl, fun w' _ => ex_ix0_63 (j := 0) rfl rfl rfl (by decide)⟩) (aq (fun w' h => ex_loadC h 0 rfl rfl rfl Ai22 (ints_get _ _ (by decide))) (ag (aq (fun w' h => ex_loadC h 1 rfl rfl rfl Ai22 (ints_get _ _ (by decide))) (ak (fun J => ⟨rfl, fun w' _ => ex_mul64 rfl rfl rfl⟩) (ag (aq (fun w' h => zZ h 1 rfl rfl rfl Ai24 As24 (pre13 F) (zL _ _ _)) trivial)))))))
  intro _ w8 H8
  clear H7
  refine zG (l := [8]) rfl ?_
  refine rest_enter (d := 30) (R := fun vv w' => vv = .tuple #[] ∧ Mm w' [(J2_0, ints .u64 (rw8 (mgm (F 6) (rw8 (a i0) b (yE (F 6) F a b i0))) F (rw8 (a i0) b (yE (F 6) F a b i0))) 8)] ∧ Kp J2_0 w8 w') rfl rfl rfl (exec_call (args := #[.agg (ints .u64 F 13).toArray, PT J2_0 0, U (mgm (F 6) (rw8 (a i0) b (yE (F 6) F a b i0))), .agg (ints .u64 F 6).toArray]) rfl call72 rfl (mpn rfl)) (Calls.mono (row_any F F (rw8 (a i0) b (yE (F 6) F a b i0)) J2_0 (mgm (F 6) (rw8 (a i0) b (yE (F 6) F a b i0))) (Nat.mod_lt _ (by decide)) hN (fun i _ => rw8_lt i) w8 (H8.out.1.one 0 rfl)) (fun e w2 hh => ⟨_, hh.1, rfl, hh.2⟩)) ?_
  rintro _ w9 ⟨rfl, hn, hp⟩
  have H9 : Hid (Mm w9 [(J2_0, ints .u64 (rw8 (mgm (F 6) (rw8 (a i0) b (yE (F 6) F a b i0))) F (rw8 (a i0) b (yE (F 6) F a b i0))) 8), (J1_0, ints .u64 F 13), (J1_1, ints .u64 a 6), (J1_2, ints .u64 b 6), (J1_3, ints .u64 (fun _ => 0) 6)] ∧ Below w.heap.size w w9) := ⟨H8.out.1.change 0 rfl hp hn, Below.kp H8.out.2 hp o2_0.out H8.out.2.size⟩
  clear hn hp H8
  simp only [Act.put, sa, sz, ss]
  refine zE (zA ?_)
  refine wp_seq (wp_seq ?_)
  refine zC 1 [.q (.int .i64 0)] H9 ?ho7 ?he7
  case ho7 => exact ar trivial
  intro _ w10 H10
  clear H9
  refine rN (wp_block ?_)
  refine loop_ghost (α := Nat) (fun i1 a' w' => ∃ s2 : Nat → Value, a' = ⟨#[.agg (ints .u64 F 13).toArray, .agg (ints .u64 a 6).toArray, .agg (ints .u64 b 6).toArray, PT J1_0 0, PT J1_1 0, PT J1_2 0, PT J1_3 0, PT J2_0 0, .int .i64 ((i0 : Nat) : Int), .int .i64 ((i1 : Nat) : Int), ud, ud, .int .i64 ((i0 : Nat) : Int), .bool true, s0 14, s0 15, .agg (ints .u64 F 13).toArray, .int .i64 ((i0 : Nat) : Int), PT J1_1 i0, U (a i0), .agg (ints .u64 b 6).toArray, .tuple #[], .agg (ints .u64 F 13).toArray, PT J2_0 0, U ((rw8 (a i0) b (yE (F 6) F a b i0)) 0), PT J1_0 6, U (F 6), U (mgm (F 6) (rw8 (a i0) b (yE (F 6) F a b i0))), PT J1_0 0, .agg (ints .u64 F 6).toArray, .tuple #[], s2 31, s2 32, s2 33, s2 34, s2 35, s2 36, s2 37, s2 38, s2 39, s2 40, s0 41, ud, ud, ud, ud, ud, ud, ud, ud, ud, ud, ud, ud, ud, ud, ud, ud, ud, ud, ud, ud, ud, ud, ud, ud, ud, ud, ud], []⟩ ∧ (Mm w' [(J2_0, ints .u64 (shr (rw8 (mgm (F 6) (rw8 (a i0) b (yE (F 6) F a b i0))) F (rw8 (a i0) b (yE (F 6) F a b i0))) i1) 8), (J1_0, ints .u64 F 13), (J1_1, ints .u64 a 6), (J1_2, ints .u64 b 6), (J1_3, ints .u64 (fun _ => 0) 6)] ∧ Below w.heap.size w w') ∧ i1 ≤ 7) (fun i1 => 7 - i1) 0 ?st2 ?rd2
  case st2 => exact ⟨(yA [ud, ud, ud, ud, ud, ud, ud, ud, ud, ud, ud, ud, ud, ud, ud, ud, ud, ud, ud, ud, ud, ud, ud, ud, ud, ud, ud, ud, ud, ud, ud, s0 31, s0 32, s0 33, s0 34, s0 35, s0 36, s0 37, s0 38, s0 39, s0 40]), rfl, ⟨H10.out.1, H10.out.2⟩, by omega⟩
  intro i1 a' w11 hI
  obtain ⟨s2, rfl, hMB, hk2⟩ := hI
  have H11 : Hid (_ ∧ _) := hMB
  clear hMB H10
  by_cases hlti1 : i1 < 7
  ·have hrd : True := trivial
   clear hrd
   refine wp_seq (wp_seq ?_)
   refine zC 2 [.q (.int .i64 ((i1 : Nat) : Int)), .q (.bool true)] H11 ?ho8 ?he8
   case ho8 => exact ar (ak (by refine fun J => ⟨rfl, fun w' h => ?_⟩; clear h; go_simp <;> omega) trivial)
   intro _ w12 H12
   clear H11
   refine rN (wp_cond_true rfl ?_)
   refine wp_skip (zA ?_)
   refine wp_seq (wp_block ?_)
   refine zC 6 [.q (.int .i64 ((i1 : Nat) : Int)), .q (.int .i64 ((i1 : Nat) : Int)), .q (.int .i64 ((i1 + 1 : Nat) : Int)), .q (PT J2_0 (i1 + 1)), .q (U ((shr (rw8 (mgm (F 6) (rw8 (a i0) b (yE (F 6) F a b i0))) F (rw8 (a i0) b (yE (F 6) F a b i0))) i1) (i1 + 1))), .q (PT J2_0 i1)] H12 ?ho9 ?he9
   case ho9 => exact ar (ar (ak (by refine fun J => ⟨rfl, fun w' h => ?_⟩; clear h; go_simp; rw [IntKind.wrap_i64]; omega) (ak (fun J => ⟨rfl, fun w' _ => ex_ix0_63 (j := i1 + 1) rfl rfl rfl (by omega)⟩) (aq (fun w' h => ex_loadC h 0 rfl rfl rfl Ai22 (ints_get _ _ (by omega))) (ak (fun J => ⟨rfl, fun w' _ => ex_ix0_63 (j := i1) rfl rfl rfl (by omega)⟩) trivial)))))
   intro _ w13 H13
   clear H12
   refine zG (l := [6]) rfl ?_
   refine rest_store rfl rfl rfl (ex_storeI H13.out.1 0 rfl rfl As22 rfl rfl (by rw [zL]; omega)) ?_
   have H14 : Hid (Mm (w13.setCells J2_0 i1 ([U ((shr (rw8 (mgm (F 6) (rw8 (a i0) b (yE (F 6) F a b i0))) F (rw8 (a i0) b (yE (F 6) F a b i0))) i1) (i1 + 1))])) [(J2_0, ints .u64 (shr (rw8 (mgm (F 6) (rw8 (a i0) b (yE (F 6) F a b i0))) F (rw8 (a i0) b (yE (F 6) F a b i0))) (i1 + 1)) 8), (J1_0, ints .u64 F 13), (J1_1, ints .u64 a 6), (J1_2, ints .u64 b 6), (J1_3, ints .u64 (fun _ => 0) 6)] ∧ Below w.heap.size w (w13.setCells J2_0 i1 ([U ((shr (rw8 (mgm (F 6) (rw8 (a i0) b (yE (F 6) F a b i0))) F (rw8 (a i0) b (yE (F 6) F a b i0))) i1) (i1 + 1))]))) := ⟨by
    have h := H13.out.1.put 0 (off := i1) (vs := [U ((shr (rw8 (mgm (F 6) (rw8 (a i0) b (yE (F 6) F a b i0))) F (rw8 (a i0) b (yE (F 6) F a b i0))) i1) (i1 + 1))]) rfl (by rw [zL]; simp only [List.length_cons, List.length_nil]; omega)
    rw [ints_patch _ _ _ _ (by omega), show ints .u64 (up (shr (rw8 (mgm (F 6) (rw8 (a i0) b (yE (F 6) F a b i0))) F (rw8 (a i0) b (yE (F 6) F a b i0))) i1) i1 ((shr (rw8 (mgm (F 6) (rw8 (a i0) b (yE (F 6) F a b i0))) F (rw8 (a i0) b (yE (F 6) F a b i0))) i1) (i1 + 1))) 8 = ints .u64 (shr (rw8 (mgm (F 6) (rw8 (a i0) b (yE (F 6) F a b i0))) F (rw8 (a i0) b (yE (F 6) F a b i0))) (i1 + 1)) 8 by rw [show (up (shr (rw8 (mgm (F 6) (rw8 (a i0) b (yE (F 6) F a b i0))) F (rw8 (a i0) b (yE (F 6) F a b i0))) i1) i1 ((shr (rw8 (mgm (F 6) (rw8 (a i0) b (yE (F 6) F a b i0))) F (rw8 (a i0) b (yE (F 6) F a b i0))) i1) (i1 + 1))) = (shr (rw8 (mgm (F 6) (rw8 (a i0) b (yE (F 6) F a b i0))) F (rw8 (a i0) b (yE (F 6) F a b i0))) (i1 + 1)) from shr_succ _ _]] at h
    exact h, zP _ o2_0.out _ _ _ H13.out.2⟩
   clear H13
   generalize hgw : World.setCells _ _ _ _ = w14 at H14 ⊢
   clear hgw
   refine zE (zT (zA ?_))
   refine zC 2 [.q (.int .i64 ((i1 : Nat) : Int)), .q (.int .i64 ((i1 + 1 : Nat) : Int))] H14 ?ho10 ?he10
   case ho10 => exact ar (ak (by refine fun J => ⟨rfl, fun w' h => ?_⟩; clear h; go_simp; rw [IntKind.wrap_i64]; omega) trivial)
   intro _ w15 H15
   clear H14
   refine zG (l := [2]) rfl ?_
   refine zN (d := 9) rfl rfl rfl rfl ?_
   simp only [Act.put, sa, sz, ss]
   refine zE (zA ?_)
   exact ⟨i1 + 1, ⟨(yA [ud, ud, ud, ud, ud, ud, ud, ud, ud, ud, ud, ud, ud, ud, ud, ud, ud, ud, ud, ud, ud, ud, ud, ud, ud, ud, ud, ud, ud, ud, ud, .int .i64 ((i1 : Nat) : Int), .bool true, .int .i64 ((i1 : Nat) : Int), .int .i64 ((i1 + 1 : Nat) : Int), .int .i64 ((i1 : Nat) : Int), .int .i64 ((i1 : Nat) : Int), .int .i64 ((i1 + 1 : Nat) : Int), PT J2_0 (i1 + 1), U ((shr (rw8 (mgm (F 6) (rw8 (a i0) b (yE (F 6) F a b i0))) F (rw8 (a i0) b (yE (F 6) F a b i0))) i1) (i1 + 1)), PT J2_0 i1]), rfl, ⟨H15.out.1, H15.out.2⟩, by omega⟩, by omega⟩
  have hi1N : i1 = 7 := by omega
  subst hi1N
  refine wp_seq (wp_seq ?_)
  refine zC 2 [.q (.int .i64 ((7 : Nat) : Int)), .q (.bool false)] H11 ?ho11 ?he11
  case ho11 => exact ar (ak (by refine fun J => ⟨rfl, fun w' h => ?_⟩; clear h; go_simp <;> omega) trivial)
  intro _ w16 H16
  clear H11
  refine rN (wp_cond_false rfl ?_)
  refine wp_exit ?_
  repeat refine then_exit ?_
  refine block_exit ?_
  refine zA ?_
  refine zC 1 [.q (PT J2_0 7)] H16 ?ho12 ?he12
  case ho12 => exact ak (fun J => ⟨rfl, fun w' _ => ex_ix0_63 (j := 7) rfl rfl rfl (by decide)⟩) trivial
  intro _ w17 H17
  clear H16
  refine zG (l := [1]) rfl ?_
  refine rest_store rfl rfl rfl (ex_storeI H17.out.1 0 rfl rfl As22 rfl rfl (by rw [zL]; decide)) ?_
  have H18 : Hid (Mm (w17.setCells J2_0 7 ([U 0])) [(J2_0, ints .u64 (yE (F 6) F a b (i0 + 1)) 8), (J1_0, ints .u64 F 13), (J1_1, ints .u64 a 6), (J1_2, ints .u64 b 6), (J1_3, ints .u64 (fun _ => 0) 6)] ∧ Below w.heap.size w (w17.setCells J2_0 7 ([U 0]))) := ⟨by
   have h := H17.out.1.put 0 (off := 7) (vs := [U 0]) rfl (by rw [zL]; simp only [List.length_cons, List.length_nil]; decide)
   rw [ints_patch _ _ _ _ (by decide), show ints .u64 (up (shr (rw8 (mgm (F 6) (rw8 (a i0) b (yE (F 6) F a b i0))) F (rw8 (a i0) b (yE (F 6) F a b i0))) 7) 7 0) 8 = ints .u64 (yE (F 6) F a b (i0 + 1)) 8 by rw [show (up (shr (rw8 (mgm (F 6) (rw8 (a i0) b (yE (F 6) F a b i0))) F (rw8 (a i0) b (yE (F 6) F a b i0))) 7) 7 0) = (yE (F 6) F a b (i0 + 1)) from rfl]] at h
   exact h, zP _ o2_0.out _ _ _ H17.out.2⟩
  clear H17
  generalize hgw : World.setCells _ _ _ _ = w18 at H18 ⊢
  clear hgw
  refine zE (zT (zA ?_))
  refine zC 2 [.q (.int .i64 ((i0 : Nat) : Int)), .q (.int .i64 ((i0 + 1 : Nat) : Int))] H18 ?ho13 ?he13
  case ho13 => exact ar (ak (by refine fun J => ⟨rfl, fun w' h => ?_⟩; clear h; go_simp; rw [IntKind.wrap_i64]; omega) trivial)
  intro _ w19 H19
  clear H18
  refine zG (l := [2]) rfl ?_
  refine zN (d := 8) rfl rfl rfl rfl ?_
  simp only [Act.put, sa, sz, ss]
  refine zE (zA ?_)
  exact ⟨i0 + 1, ⟨(yA [ud, ud, ud, ud, ud, ud, ud, ud, ud, .int .i64 ((7 : Nat) : Int), ud, ud, .int .i64 ((i0 : Nat) : Int), .bool true, .int .i64 ((i0 : Nat) : Int), .int .i64 ((i0 + 1 : Nat) : Int), .agg (ints .u64 F 13).toArray, .int .i64 ((i0 : Nat) : Int), PT J1_1 i0, U (a i0), .agg (ints .u64 b 6).toArray, .tuple #[], .agg (ints .u64 F 13).toArray, PT J2_0 0, U ((rw8 (a i0) b (yE (F 6) F a b i0)) 0), PT J1_0 6, U (F 6), U (mgm (F 6) (rw8 (a i0) b (yE (F 6) F a b i0))), PT J1_0 0, .agg (ints .u64 F 6).toArray, .tuple #[], .int .i64 ((7 : Nat) : Int), .bool false, s2 33, s2 34, s2 35, s2 36, s2 37, s2 38, s2 39, s2 40, PT J2_0 7]), rfl, ⟨H19.out.1, H19.out.2⟩, by omega⟩, by omega⟩
 have hi0N : i0 = 6 := by omega
 subst hi0N
 refine wp_seq (wp_seq ?_)
 refine zC 2 [.q (.int .i64 ((6 : Nat) : Int)), .q (.bool false)] H4 ?ho14 ?he14
 case ho14 => exact ar (ak (by refine fun J => ⟨rfl, fun w' h => ?_⟩; clear h; go_simp <;> omega) trivial)
 intro _ w20 H20
 clear H4
 refine rN (wp_cond_false rfl ?_)
 refine wp_exit ?_
 repeat refine then_exit ?_
 refine block_exit ?_
 refine zA (wp_seq ?_)
 refine zD 1 [.made (ints .u64 (fun _ => 0) 6) 24] (sB H20) ?ho15 ?he15
 case ho15 => exact am (ex_mk25 rfl) trivial
 intro J w21 l hM hl
 have H21 : Hid (Mm w21 ([(J 0, ints .u64 (fun _ => 0) 6)] ++ _) ∧ _) := wB H20 hM hl [0]
 have o15_0 := vB H20 hM hl 0
 clear hM hl l H20
 generalize J 0 = J15_0 at H21 o15_0 ⊢
 clear J
 refine rN (wp_seq (wp_seq ?_))
 refine zC 1 [.q (.int .i64 0)] H21 ?ho16 ?he16
 case ho16 => exact ar trivial
 intro _ w22 H22
 clear H21
 refine rN (wp_block ?_)
 refine loop_ghost (α := Nat) (fun i2 a' w' => ∃ s4 : Nat → Value, a' = ⟨#[.agg (ints .u64 F 13).toArray, .agg (ints .u64 a 6).toArray, .agg (ints .u64 b 6).toArray, PT J1_0 0, PT J1_1 0, PT J1_2 0, PT J1_3 0, PT J2_0 0, .int .i64 ((6 : Nat) : Int), s0 9, PT J15_0 0, .int .i64 ((i2 : Nat) : Int), .int .i64 ((6 : Nat) : Int), .bool false, s0 14, s0 15, s0 16, s0 17, s0 18, s0 19, s0 20, s0 21, s0 22, s0 23, s0 24, s0 25, s0 26, s0 27, s0 28, s0 29, s0 30, s0 31, s0 32, s0 33, s0 34, s0 35, s0 36, s0 37, s0 38, s0 39, s0 40, s0 41, s4 42, s4 43, s4 44, s4 45, s4 46, s4 47, s4 48, s4 49, s4 50, ud, ud, ud, ud, ud, ud, ud, ud, ud, ud, ud, ud, ud, ud, ud, ud, ud, ud], []⟩ ∧ (Mm w' [(J15_0, ints .u64 (cpy (yE (F 6) F a b 6) i2) 6), (J2_0, ints .u64 (yE (F 6) F a b 6) 8), (J1_0, ints .u64 F 13), (J1_1, ints .u64 a 6), (J1_2, ints .u64 b 6), (J1_3, ints .u64 (fun _ => 0) 6)] ∧ Below w.heap.size w w') ∧ i2 ≤ 6) (fun i2 => 6 - i2) 0 ?st4 ?rd4
 case st4 => exact ⟨(yA [ud, ud, ud, ud, ud, ud, ud, ud, ud, ud, ud, ud, ud, ud, ud, ud, ud, ud, ud, ud, ud, ud, ud, ud, ud, ud, ud, ud, ud, ud, ud, ud, ud, ud, ud, ud, ud, ud, ud, ud, ud, ud, ud, ud, ud, ud, ud, ud, ud, ud, ud]), rfl, ⟨H22.out.1, H22.out.2⟩, by omega⟩
 intro i2 a' w23 hI
 obtain ⟨s4, rfl, hMB, hk4⟩ := hI
 have H23 : Hid (_ ∧ _) := hMB
 clear hMB H22
 by_cases hlti2 : i2 < 6
 ·have hrd : True := trivial
  clear hrd
  refine wp_seq (wp_seq ?_)
  refine zC 2 [.q (.int .i64 ((i2 : Nat) : Int)), .q (.bool true)] H23 ?ho17 ?he17
  case ho17 => exact ar (ak (by refine fun J => ⟨rfl, fun w' h => ?_⟩; clear h; go_simp <;> omega) trivial)
  intro _ w24 H24
  clear H23
  refine rN (wp_cond_true rfl ?_)
  refine wp_skip (zA ?_)
  refine wp_seq (wp_block ?_)
  refine zC 5 [.q (.int .i64 ((i2 : Nat) : Int)), .q (.int .i64 ((i2 : Nat) : Int)), .q (PT J2_0 i2), .q (U ((yE (F 6) F a b 6) i2)), .q (PT J15_0 i2)] H24 ?ho18 ?he18
  case ho18 => exact ar (ar (ak (fun J => ⟨rfl, fun w' _ => ex_ix0_63 (j := i2) rfl rfl rfl (by omega)⟩) (aq (fun w' h => ex_loadC h 1 rfl rfl rfl Ai22 (ints_get _ _ (by omega))) (ak (fun J => ⟨rfl, fun w' _ => ex_ix0_25 (j := i2) rfl rfl rfl (by omega)⟩) trivial))))
  intro _ w25 H25
  clear H24
  refine zG (l := [5]) rfl ?_
  refine rest_store rfl rfl rfl (ex_storeI H25.out.1 0 rfl rfl As22 rfl rfl (by rw [zL]; omega)) ?_
  have H26 : Hid (Mm (w25.setCells J15_0 i2 ([U ((yE (F 6) F a b 6) i2)])) [(J15_0, ints .u64 (cpy (yE (F 6) F a b 6) (i2 + 1)) 6), (J2_0, ints .u64 (yE (F 6) F a b 6) 8), (J1_0, ints .u64 F 13), (J1_1, ints .u64 a 6), (J1_2, ints .u64 b 6), (J1_3, ints .u64 (fun _ => 0) 6)] ∧ Below w.heap.size w (w25.setCells J15_0 i2 ([U ((yE (F 6) F a b 6) i2)]))) := ⟨by
   have h := H25.out.1.put 0 (off := i2) (vs := [U ((yE (F 6) F a b 6) i2)]) rfl (by rw [zL]; simp only [List.length_cons, List.length_nil]; omega)
   rw [ints_patch _ _ _ _ (by omega), show ints .u64 (up (cpy (yE (F 6) F a b 6) i2) i2 ((yE (F 6) F a b 6) i2)) 6 = ints .u64 (cpy (yE (F 6) F a b 6) (i2 + 1)) 6 by rw [show (up (cpy (yE (F 6) F a b 6) i2) i2 ((yE (F 6) F a b 6) i2)) = (cpy (yE (F 6) F a b 6) (i2 + 1)) from cpy_succ _ _]] at h
   exact h, zP _ o15_0.out _ _ _ H25.out.2⟩
  clear H25
  generalize hgw : World.setCells _ _ _ _ = w26 at H26 ⊢
  clear hgw
  refine zE (zT (zA ?_))
  refine zC 2 [.q (.int .i64 ((i2 : Nat) : Int)), .q (.int .i64 ((i2 + 1 : Nat) : Int))] H26 ?ho19 ?he19
  case ho19 => exact ar (ak (by refine fun J => ⟨rfl, fun w' h => ?_⟩; clear h; go_simp; rw [IntKind.wrap_i64]; omega) trivial)
  intro _ w27 H27
  clear H26
  refine zG (l := [2]) rfl ?_
  refine zN (d := 11) rfl rfl rfl rfl ?_
  simp only [Act.put, sa, sz, ss]
  refine zE (zA ?_)
  exact ⟨i2 + 1, ⟨(yA [ud, ud, ud, ud, ud, ud, ud, ud, ud, ud, ud, ud, ud, ud, ud, ud, ud, ud, ud, ud, ud, ud, ud, ud, ud, ud, ud, ud, ud, ud, ud, ud, ud, ud, ud, ud, ud, ud, ud, ud, ud, ud, .int .i64 ((i2 : Nat) : Int), .bool true, .int .i64 ((i2 : Nat) : Int), .int .i64 ((i2 + 1 : Nat) : Int), .int .i64 ((i2 : Nat) : Int), .int .i64 ((i2 : Nat) : Int), PT J2_0 i2, U ((yE (F 6) F a b 6) i2), PT J15_0 i2]), rfl, ⟨H27.out.1, H27.out.2⟩, by omega⟩, by omega⟩
 have hi2N : i2 = 6 := by omega
 subst hi2N
 refine wp_seq (wp_seq ?_)
 refine zC 2 [.q (.int .i64 ((6 : Nat) : Int)), .q (.bool false)] H23 ?ho20 ?he20
 case ho20 => exact ar (ak (by refine fun J => ⟨rfl, fun w' h => ?_⟩; clear h; go_simp <;> omega) trivial)
 intro _ w28 H28
 clear H23
 refine rN (wp_cond_false rfl ?_)
 refine wp_exit ?_
 repeat refine then_exit ?_
 refine block_exit ?_
 refine zA (wp_seq (wp_seq ?_))
 refine zC 10 [.q (PT J2_0 6), .q (U ((yE (F 6) F a b 6) 6)), .q (.bool false), .q (.bool false), .q (.agg (ints .u64 (cpy (yE (F 6) F a b 6) 6) 6).toArray), .q (PT J1_0 0), .q (.agg (ints .u64 F 6).toArray), .call (.int .i64 z), .q (.bool false), .q (.bool false)] H28 ?ho21 ?he21
 case ho21 => exact ak (fun J => ⟨rfl, fun w' _ => ex_ix0_63 (j := 6) rfl rfl rfl (by decide)⟩) (aq (fun w' h => ex_loadC h 1 rfl rfl rfl Ai22 (ints_get _ _ (by decide))) (ak (fun J => ⟨rfl, fun w' _ => ex_ne64 (a := (yE (F 6) F a b 6) 6) (by rw [decide_eq_true h6]; rfl) rfl rfl rfl⟩) (ar (aq (fun w' h => zZ h 0 rfl rfl rfl Ai24 As24 (ints_whole _ _ _) (zL _ _ _)) (ag (aq (fun w' h => zZ h 2 rfl rfl rfl Ai24 As24 (pre13 F) (zL _ _ _)) (ac (fun w' h => eC call39 (HC.out w')) (ak (fun J => ⟨rfl, fun w' _ => ex_ge3 (z := z) (decide_eq_false (by omega)) rfl rfl rfl⟩) (ag trivial)))))))))
 intro _ w29 H29
 clear H28
 refine rN (wp_cond_false rfl ?_)
 refine wp_skip (zA (wp_seq ?_))
 refine zC 1 [.q (.agg (ints .u64 (cpy (yE (F 6) F a b 6) 6) 6).toArray)] H29 ?ho22 ?he22
 case ho22 => exact aq (fun w' h => zZ h 0 rfl rfl rfl Ai24 As24 (ints_whole _ _ _) (zL _ _ _)) trivial
 intro _ w30 H30
 clear H29
 refine zG (l := [1]) rfl ?_
 refine rest_store rfl rfl rfl (ex_storeT (vs := ints .u64 (cpy (yE (F 6) F a b 6) 6) 6) H30.out.1 5 rfl rfl rfl rfl (by rw [zL]; exact As24) (ints_all _ _ _) (by simp [zL])) ?_
 have H31 : Hid (Mm (w30.setCells J1_3 0 (ints .u64 (cpy (yE (F 6) F a b 6) 6) 6)) [(J15_0, ints .u64 (cpy (yE (F 6) F a b 6) 6) 6), (J2_0, ints .u64 (yE (F 6) F a b 6) 8), (J1_0, ints .u64 F 13), (J1_1, ints .u64 a 6), (J1_2, ints .u64 b 6), (J1_3, ints .u64 (cpy (yE (F 6) F a b 6) 6) 6)] ∧ Below w.heap.size w (w30.setCells J1_3 0 (ints .u64 (cpy (yE (F 6) F a b 6) 6) 6))) := ⟨by
  have h := H30.out.1.put 5 (off := 0) (vs := ints .u64 (cpy (yE (F 6) F a b 6) 6) 6) rfl (by simp [zL])
  rw [ints_patch0 _ _ _ _] at h
  exact h, zP _ o1_3.out _ _ _ H30.out.2⟩
 clear H30
 generalize hgw : World.setCells _ _ _ _ = w31 at H31 ⊢
 clear hgw
 refine zE (zA (wp_ret ?_))
 repeat (first | refine zK ?_ | refine zI ?_)
 have hf0 := var_T H31.out.1 5 rfl Ai24 As24 (zL _ _ _)
 refine bodyPost_ret (v := .agg (ints .u64 (cpy (yE (F 6) F a b 6) 6) 6).toArray) (by simp [results, Tryz.results51, asAddr, hf0]) rfl ?_
 exact ⟨rfl, H31.out.2⟩
end Fs
end Rg
end Go.Proofs.YtacicklddhehaaaGreatDoor
end
section
namespace Go.Proofs.YtacicklddhehaaaGreatDoor
open Go.RowKit
namespace Rg
namespace Fs
set_option maxRecDepth 100000
theorem mont_end {T N x x6 D R : Nat} (hT : T = x + x6 * R) (h2 : T < 2 * N) (_hx : x < R) (hN : N < R) (hD : D = (x + R - N) % R) (hc : x6 ≠ 0 ∨ N ≤ x) : D = T % N := by
 have h6 : x6 ≤ 1 := by
  rcases Nat.lt_or_ge 1 x6 with h | h
  ·have := Nat.mul_le_mul_right R h
   omega
  ·exact h
 have hTN : T % N = T - N := by
  rw [Nat.mod_eq_sub_mod (by rcases (by omega : x6 = 0 ∨ x6 = 1) with e | e <;> subst e <;> omega), Nat.mod_eq_of_lt (by omega)]
 rw [hTN, hD]
 rcases (by omega : x6 = 0 ∨ x6 = 1) with e | e
 ·subst e
  rw [show x + R - N = (x - N) + R by omega, Nat.add_mod_right, Nat.mod_eq_of_lt (by omega)]
  omega
 ·subst e
  rw [Nat.mod_eq_of_lt (by omega)]
  omega
theorem gv_cpy (X : Nat → Nat) : gv (cpy X 6) 6 = gv X 6 := gv_cg 6 (fun _i hi => if_pos hi)
/-- Montgomery's product, for any numbers below the modulus. -/
theorem mont_any (F a b : Nat → Nat) (hA : ∀ i, i < 6 → a i < 18446744073709551616) (hB : ∀ i, i < 6 → b i < 18446744073709551616) (hN : ∀ i, i < 6 → F i < 18446744073709551616) (hl : (F 0 * F 6 + 1) % 18446744073709551616 = 0) (hbN : gv b 6 < gv F 6)
  (HC : ∀ x : Nat → Nat, (∀ i, i < 6 → x i < 18446744073709551616) → ∃ z : Int, (0 ≤ z ↔ gv F 6 ≤ gv x 6) ∧ ∀ w, Calls Tryz.prog 39 #[.agg (ints .u64 x 6).toArray, .agg (ints .u64 F 6).toArray] w (Rt w (.int .i64 z)))
  (HS : ∀ x : Nat → Nat, (∀ i, i < 6 → x i < 18446744073709551616) → ∃ (D : Nat → Nat) (bb : Bool), (∀ i, i < 6 → D i < 18446744073709551616) ∧ gv D 6 = (gv x 6 + 18446744073709551616 ^ 6 - gv F 6) % 18446744073709551616 ^ 6 ∧ ∀ w, Calls Tryz.prog 44 #[.agg (ints .u64 x 6).toArray, .agg (ints .u64 F 6).toArray] w (Rt w (.tuple #[.agg (ints .u64 D 6).toArray, .bool bb]))) :
  ∃ D : Nat → Nat, (∀ i, i < 6 → D i < 18446744073709551616) ∧ gv D 6 = gv (yE (F 6) F a b 6) 8 % gv F 6 ∧ ∀ w, Calls Tryz.prog 51 #[.agg (ints .u64 F 13).toArray, .agg (ints .u64 a 6).toArray, .agg (ints .u64 b 6).toArray] w (Rt w (.agg (ints .u64 D 6).toArray)) := by
 obtain ⟨hT2, _⟩ := mgt_val (less := F 6) (N := F) (a := a) (b := b) hB hN hl hbN 6 hA
 have hX : ∀ i, i < 6 → cpy (yE (F 6) F a b 6) 6 i < 18446744073709551616 := fun i hi => by
  unfold cpy
  rw [if_pos hi]
  exact mgt_lt 6 i
 have hN6 := gv_lt 6 hN
 have hx6 := gv_lt 6 hX
 have hv : gv (yE (F 6) F a b 6) 8 = gv (cpy (yE (F 6) F a b 6) 6) 6 + (yE (F 6) F a b 6) 6 * 18446744073709551616 ^ 6 := by
  rw [gv_cpy]
  show gv (yE (F 6) F a b 6) 6 + (yE (F 6) F a b 6) 6 * 18446744073709551616 ^ 6 + (yE (F 6) F a b 6) 7 * 18446744073709551616 ^ 7 = _
  rw [mgt_7, Nat.zero_mul, Nat.add_zero]
 obtain ⟨z, hz, hC⟩ := HC (cpy (yE (F 6) F a b 6) 6) hX
 obtain ⟨D, bb, hD1, hD2, hS⟩ := HS (cpy (yE (F 6) F a b 6) 6) hX
 by_cases h6 : (yE (F 6) F a b 6) 6 = 0
 ·by_cases h0 : 0 ≤ z
  ·exact ⟨D, hD1, mont_end hv hT2 hx6 hN6 hD2 (.inr (hz.1 h0)), fun w => mont_b F a b D z bb hA hB hN hC hS h6 h0 w⟩
  ·refine ⟨cpy (yE (F 6) F a b 6) 6, hX, ?_, fun w => mont_c F a b D z bb hA hB hN hC hS h6 (by omega) w⟩
   have h1 : ¬ gv F 6 ≤ gv (cpy (yE (F 6) F a b 6) 6) 6 := fun h => h0 (hz.2 h)
   rw [hv, h6, Nat.zero_mul, Nat.add_zero, Nat.mod_eq_of_lt (by omega)]
 ·exact ⟨D, hD1, mont_end hv hT2 hx6 hN6 hD2 (.inl h6), fun w => mont_a F a b D z bb hA hB hN hC hS h6 w⟩
theorem mont_spec (F a b : Nat → Nat) (hA : ∀ i, i < 6 → a i < 18446744073709551616) (hB : ∀ i, i < 6 → b i < 18446744073709551616) (hN : ∀ i, i < 6 → F i < 18446744073709551616) (hl : (F 0 * F 6 + 1) % 18446744073709551616 = 0) (hbN : gv b 6 < gv F 6)
  (HC : ∀ x : Nat → Nat, (∀ i, i < 6 → x i < 18446744073709551616) → ∃ z : Int, (0 ≤ z ↔ gv F 6 ≤ gv x 6) ∧ ∀ w, Calls Tryz.prog 39 #[.agg (ints .u64 x 6).toArray, .agg (ints .u64 F 6).toArray] w (Rt w (.int .i64 z)))
  (HS : ∀ x : Nat → Nat, (∀ i, i < 6 → x i < 18446744073709551616) → ∃ (D : Nat → Nat) (bb : Bool), (∀ i, i < 6 → D i < 18446744073709551616) ∧ gv D 6 = (gv x 6 + 18446744073709551616 ^ 6 - gv F 6) % 18446744073709551616 ^ 6 ∧ ∀ w, Calls Tryz.prog 44 #[.agg (ints .u64 x 6).toArray, .agg (ints .u64 F 6).toArray] w (Rt w (.tuple #[.agg (ints .u64 D 6).toArray, .bool bb]))) :
  ∃ D : Nat → Nat, (∀ i, i < 6 → D i < 18446744073709551616) ∧ gv D 6 < gv F 6 ∧ gv D 6 * 18446744073709551616 ^ 6 % gv F 6 = gv a 6 * gv b 6 % gv F 6 ∧ ∀ w, Calls Tryz.prog 51 #[.agg (ints .u64 F 13).toArray, .agg (ints .u64 a 6).toArray, .agg (ints .u64 b 6).toArray] w (Rt w (.agg (ints .u64 D 6).toArray)) := by
 obtain ⟨D, h1, h2, h3⟩ := mont_any F a b hA hB hN hl hbN HC HS
 refine ⟨D, h1, by rw [h2]; exact Nat.mod_lt _ (by omega), ?_, h3⟩
 rw [h2]
 exact mont_val hA hB hN hl hbN
end Fs
end Rg
end Go.Proofs.YtacicklddhehaaaGreatDoor
end
section
namespace Go.Proofs.YtacicklddhehaaaGreatDoor
open Go.RowKit
namespace Rg
namespace Fs
set_option maxRecDepth 100000
theorem pre7 (F : Nat → Nat) : ((ints .u64 F 13).drop 7).take 6 = ints .u64 (fun j => F (7 + j)) 6 := rfl
theorem call43 : CO 43 := by intro args w; go_simp
theorem call51 : CO 51 := by intro args w; go_simp
set_option maxHeartbeats 1000000 in
theorem fmul_w (F a b D E : Nat → Nat) (h1 : ∀ w, Calls Tryz.prog 51 #[.agg (ints .u64 F 13).toArray, .agg (ints .u64 a 6).toArray, .agg (ints .u64 b 6).toArray] w (Rt w (.agg (ints .u64 D 6).toArray))) (h2 : ∀ w, Calls Tryz.prog 51 #[.agg (ints .u64 F 13).toArray, .agg (ints .u64 D 6).toArray, .agg (ints .u64 (fun j => F (7 + j)) 6).toArray] w (Rt w (.agg (ints .u64 E 6).toArray))) (w : World) :
  Calls Tryz.prog 29 #[.agg (ints .u64 F 13).toArray, .agg (ints .u64 a 6).toArray, .agg (ints .u64 b 6).toArray] w (Rt w (.agg (ints .u64 E 6).toArray)) := by
 have H0 : Hid (_ ∧ _) := ⟨Mm.nil w, Below.refl w.heap.size w⟩
 have HM1 : Hid _ := h1
 have HM2 : Hid _ := h2
 clear h1 h2
 go_enter Tryz.func29, Tryz.ntmps29
 refine wp_seq ?_
 refine zD 4 [.made (ints .u64 F 13) 36, .made (ints .u64 a 6) 24, .made (ints .u64 b 6) 24, .made (ints .u64 (fun _ => 0) 6) 24] (sB H0) ?ho1 ?he1
 case ho1 => exact am (ex_boxT rfl rfl) (am (ex_boxT rfl rfl) (am (ex_boxT rfl rfl) (am (ex_mk25 rfl) trivial)))
 intro J w1 l hM hl
 have H1 : Hid (Mm w1 [(J 0, ints .u64 F 13), (J 1, ints .u64 a 6), (J 2, ints .u64 b 6), (J 3, ints .u64 (fun _ => 0) 6)] ∧ _) := wB H0 hM hl [0, 1, 2, 3]
 have o1_0 := vB H0 hM hl 0
 have o1_1 := vB H0 hM hl 1
 have o1_2 := vB H0 hM hl 2
 have o1_3 := vB H0 hM hl 3
 clear hM hl l
 generalize J 0 = J1_0 at H1 o1_0 ⊢
 generalize J 1 = J1_1 at H1 o1_1 ⊢
 generalize J 2 = J1_2 at H1 o1_2 ⊢
 generalize J 3 = J1_3 at H1 o1_3 ⊢
 clear J
 refine rN (wp_seq ?_)
 refine zS 8 [.q (.agg (ints .u64 F 13).toArray), .q (.agg (ints .u64 F 13).toArray), .q (.agg (ints .u64 a 6).toArray), .q (.agg (ints .u64 b 6).toArray), .call (.agg (ints .u64 D 6).toArray), .q (PT J1_0 7), .q (.agg (ints .u64 (fun j => F (7 + j)) 6).toArray), .call (.agg (ints .u64 E 6).toArray)] H1 ?ho2 ?he2
 case ho2 => exact aq (fun w' h => zZ h 0 rfl rfl rfl Ai36 As36 (ints_whole _ _ _) (zL _ _ _)) (aq (fun w' h => zZ h 0 rfl rfl rfl Ai36 As36 (ints_whole _ _ _) (zL _ _ _)) (aq (fun w' h => zZ h 1 rfl rfl rfl Ai24 As24 (ints_whole _ _ _) (zL _ _ _)) (aq (fun w' h => zZ h 2 rfl rfl rfl Ai24 As24 (ints_whole _ _ _) (zL _ _ _)) (ac (fun w' h => eC call51 (HM1.out w')) (ag (aq (fun w' h => zZ h 0 rfl rfl rfl Ai24 As24 (pre7 F) (zL _ _ _)) (ac (fun w' h => eC call51 (HM2.out w')) trivial)))))))
 intro _ w2 H2
 clear H1
 refine zG (l := [8]) rfl ?_
 refine rest_store rfl rfl rfl (ex_storeT (vs := ints .u64 E 6) H2.out.1 3 rfl rfl rfl rfl (by rw [zL]; exact As24) (ints_all _ _ _) (by simp [zL])) ?_
 have H3 : Hid (Mm (w2.setCells J1_3 0 (ints .u64 E 6)) [(J1_0, ints .u64 F 13), (J1_1, ints .u64 a 6), (J1_2, ints .u64 b 6), (J1_3, ints .u64 E 6)] ∧ Below w.heap.size w (w2.setCells J1_3 0 (ints .u64 E 6))) := ⟨by
  have h := H2.out.1.put 3 (off := 0) (vs := ints .u64 E 6) rfl (by simp [zL])
  rw [ints_patch0 _ _ _ _] at h
  exact h, zP _ o1_3.out _ _ _ H2.out.2⟩
 clear H2
 generalize hgw : World.setCells _ _ _ _ = w3 at H3 ⊢
 clear hgw
 refine zE (zA (wp_ret ?_))
 repeat (first | refine zK ?_ | refine zI ?_)
 have hf0 := var_T H3.out.1 3 rfl Ai24 As24 (zL _ _ _)
 refine bodyPost_ret (v := .agg (ints .u64 E 6).toArray) (by simp [results, Tryz.results29, asAddr, hf0]) rfl ?_
 exact ⟨rfl, H3.out.2⟩
set_option maxHeartbeats 1000000 in
theorem fadd_b (F a b S D : Nat → Nat) (z : Int) (hc0 : ∀ w, Calls Tryz.prog 39 #[.agg (ints .u64 S 6).toArray, .agg (ints .u64 F 6).toArray] w (Rt w (.int .i64 z))) (ub : Bool) (hs0 : ∀ w, Calls Tryz.prog 44 #[.agg (ints .u64 S 6).toArray, .agg (ints .u64 F 6).toArray] w (Rt w (.tuple #[.agg (ints .u64 D 6).toArray, .bool ub]))) (cb : Bool) (ha0 : ∀ w, Calls Tryz.prog 43 #[.agg (ints .u64 a 6).toArray, .agg (ints .u64 b 6).toArray] w (Rt w (.tuple #[.agg (ints .u64 S 6).toArray, .bool cb]))) (hz : 0 ≤ z) (w : World) :
  Calls Tryz.prog 23 #[.agg (ints .u64 F 13).toArray, .agg (ints .u64 a 6).toArray, .agg (ints .u64 b 6).toArray] w (Rt w (.agg (ints .u64 D 6).toArray)) := by
 have H0 : Hid (_ ∧ _) := ⟨Mm.nil w, Below.refl w.heap.size w⟩
 have HA : Hid _ := ha0
 have HC : Hid _ := hc0
 have HS : Hid _ := hs0
 clear ha0 hc0 hs0
 go_enter Tryz.func23, Tryz.ntmps23
 refine wp_seq ?_
 refine zD 4 [.made (ints .u64 F 13) 36, .made (ints .u64 a 6) 24, .made (ints .u64 b 6) 24, .made (ints .u64 (fun _ => 0) 6) 24] (sB H0) ?ho1 ?he1
 case ho1 => exact am (ex_boxT rfl rfl) (am (ex_boxT rfl rfl) (am (ex_boxT rfl rfl) (am (ex_mk25 rfl) trivial)))
 intro J w1 l hM hl
 have H1 : Hid (Mm w1 [(J 0, ints .u64 F 13), (J 1, ints .u64 a 6), (J 2, ints .u64 b 6), (J 3, ints .u64 (fun _ => 0) 6)] ∧ _) := wB H0 hM hl [0, 1, 2, 3]
 have o1_0 := vB H0 hM hl 0
 have o1_1 := vB H0 hM hl 1
 have o1_2 := vB H0 hM hl 2
 have o1_3 := vB H0 hM hl 3
 clear hM hl l
 generalize J 0 = J1_0 at H1 o1_0 ⊢
 generalize J 1 = J1_1 at H1 o1_1 ⊢
 generalize J 2 = J1_2 at H1 o1_2 ⊢
 generalize J 3 = J1_3 at H1 o1_3 ⊢
 clear J
 refine rN (wp_seq ?_)
 refine zD 9 [.q (.agg (ints .u64 a 6).toArray), .q (.agg (ints .u64 b 6).toArray), .call (.tuple #[.agg (ints .u64 S 6).toArray, .bool cb]), .q (.tuple #[.agg (ints .u64 S 6).toArray, .bool cb]), .q (.agg (ints .u64 S 6).toArray), .q (.bool cb), .made (ints .u64 (fun _ => 0) 6) 24, .laid 6 (ints .u64 (fun _ => 0) 6) (ints .u64 S 6), .q (.bool cb)] (sB H1) ?ho2 ?he2 (hL := ?hL2)
 case hL2 => exact ⟨⟨_, rfl⟩, trivial⟩
 case ho2 => exact aq (fun w' h => zZ h 1 rfl rfl rfl Ai24 As24 (ints_whole _ _ _) (zL _ _ _)) (aq (fun w' h => zZ h 2 rfl rfl rfl Ai24 As24 (ints_whole _ _ _) (zL _ _ _)) (ac (fun w' h => eC call43 (HA.out w')) (ar (ag (ag (am (ex_mk25 rfl) (ak (fun J => ⟨rfl, rfl, (zL _ _ _).trans (zL _ _ _).symm, fun w' h => ex_laidI h As24 rfl rfl rfl⟩) (ar trivial))))))))
 intro J w2 l hM hl
 have H2 : Hid (Mm w2 ([(J 6, ints .u64 S 6)] ++ _) ∧ _) := wB H1 hM hl [6]
 have o2_6 := vB H1 hM hl 6
 clear hM hl l H1
 generalize J 6 = J2_6 at H2 o2_6 ⊢
 clear J
 refine rN (wp_seq (wp_seq ?_))
 refine zC 5 [.q (.agg (ints .u64 S 6).toArray), .q (PT J1_0 0), .q (.agg (ints .u64 F 6).toArray), .call (.int .i64 z), .q (.bool true)] H2 ?ho3 ?he3
 case ho3 => exact aq (fun w' h => zZ h 0 rfl rfl rfl Ai24 As24 (ints_whole _ _ _) (zL _ _ _)) (ag (aq (fun w' h => zZ h 1 rfl rfl rfl Ai24 As24 (pre13 F) (zL _ _ _)) (ac (fun w' h => eC call39 (HC.out w')) (ak (fun J => ⟨rfl, fun w' _ => ex_ge3 (z := z) (decide_eq_true hz) rfl rfl rfl⟩) trivial))))
 intro _ w3 H3
 clear H2
 refine rN (wp_cond_true rfl ?_)
 refine zC 7 [.q (.agg (ints .u64 S 6).toArray), .q (PT J1_0 0), .q (.agg (ints .u64 F 6).toArray), .call (.tuple #[.agg (ints .u64 D 6).toArray, .bool ub]), .q (.tuple #[.agg (ints .u64 D 6).toArray, .bool ub]), .q (.agg (ints .u64 D 6).toArray), .q (.bool ub)] H3 ?ho4 ?he4
 case ho4 => exact aq (fun w' h => zZ h 0 rfl rfl rfl Ai24 As24 (ints_whole _ _ _) (zL _ _ _)) (ag (aq (fun w' h => zZ h 1 rfl rfl rfl Ai24 As24 (pre13 F) (zL _ _ _)) (ac (fun w' h => eC call44 (HS.out w')) (ar (ag (ag trivial))))))
 intro _ w4 H4
 clear H3
 refine zG (l := [7]) rfl ?_
 refine rest_store rfl rfl rfl (ex_storeT (vs := ints .u64 D 6) H4.out.1 0 rfl rfl rfl rfl (by rw [zL]; exact As24) (ints_all _ _ _) (by simp [zL])) ?_
 have H5 : Hid (Mm (w4.setCells J2_6 0 (ints .u64 D 6)) [(J2_6, ints .u64 D 6), (J1_0, ints .u64 F 13), (J1_1, ints .u64 a 6), (J1_2, ints .u64 b 6), (J1_3, ints .u64 (fun _ => 0) 6)] ∧ Below w.heap.size w (w4.setCells J2_6 0 (ints .u64 D 6))) := ⟨by
  have h := H4.out.1.put 0 (off := 0) (vs := ints .u64 D 6) rfl (by simp [zL])
  rw [ints_patch0 _ _ _ _] at h
  exact h, zP _ o2_6.out _ _ _ H4.out.2⟩
 clear H4
 generalize hgw : World.setCells _ _ _ _ = w5 at H5 ⊢
 clear hgw
 refine zE (zA (wp_seq ?_))
 refine zC 1 [.q (.agg (ints .u64 D 6).toArray)] H5 ?ho5 ?he5
 case ho5 => exact aq (fun w' h => zZ h 0 rfl rfl rfl Ai24 As24 (ints_whole _ _ _) (zL _ _ _)) trivial
 intro _ w6 H6
 clear H5
 refine zG (l := [1]) rfl ?_
 refine rest_store rfl rfl rfl (ex_storeT (vs := ints .u64 D 6) H6.out.1 4 rfl rfl rfl rfl (by rw [zL]; exact As24) (ints_all _ _ _) (by simp [zL])) ?_
 have H7 : Hid (Mm (w6.setCells J1_3 0 (ints .u64 D 6)) [(J2_6, ints .u64 D 6), (J1_0, ints .u64 F 13), (J1_1, ints .u64 a 6), (J1_2, ints .u64 b 6), (J1_3, ints .u64 D 6)] ∧ Below w.heap.size w (w6.setCells J1_3 0 (ints .u64 D 6))) := ⟨by
  have h := H6.out.1.put 4 (off := 0) (vs := ints .u64 D 6) rfl (by simp [zL])
  rw [ints_patch0 _ _ _ _] at h
  exact h, zP _ o1_3.out _ _ _ H6.out.2⟩
 clear H6
 generalize hgw : World.setCells _ _ _ _ = w7 at H7 ⊢
 clear hgw
 refine zE (zA (wp_ret ?_))
 repeat (first | refine zK ?_ | refine zI ?_)
 have hf0 := var_T H7.out.1 4 rfl Ai24 As24 (zL _ _ _)
 refine bodyPost_ret (v := .agg (ints .u64 D 6).toArray) (by simp [results, Tryz.results23, asAddr, hf0]) rfl ?_
 exact ⟨rfl, H7.out.2⟩
set_option maxHeartbeats 1000000 in
theorem fadd_c (F a b S D : Nat → Nat) (z : Int) (hc0 : ∀ w, Calls Tryz.prog 39 #[.agg (ints .u64 S 6).toArray, .agg (ints .u64 F 6).toArray] w (Rt w (.int .i64 z))) (ub : Bool) (hs0 : ∀ w, Calls Tryz.prog 44 #[.agg (ints .u64 S 6).toArray, .agg (ints .u64 F 6).toArray] w (Rt w (.tuple #[.agg (ints .u64 D 6).toArray, .bool ub]))) (cb : Bool) (ha0 : ∀ w, Calls Tryz.prog 43 #[.agg (ints .u64 a 6).toArray, .agg (ints .u64 b 6).toArray] w (Rt w (.tuple #[.agg (ints .u64 S 6).toArray, .bool cb]))) (hz : z < 0) (w : World) :
  Calls Tryz.prog 23 #[.agg (ints .u64 F 13).toArray, .agg (ints .u64 a 6).toArray, .agg (ints .u64 b 6).toArray] w (Rt w (.agg (ints .u64 S 6).toArray)) := by
 have H0 : Hid (_ ∧ _) := ⟨Mm.nil w, Below.refl w.heap.size w⟩
 have HA : Hid _ := ha0
 have HC : Hid _ := hc0
 have HS : Hid _ := hs0
 clear ha0 hc0 hs0
 go_enter Tryz.func23, Tryz.ntmps23
 refine wp_seq ?_
 refine zD 4 [.made (ints .u64 F 13) 36, .made (ints .u64 a 6) 24, .made (ints .u64 b 6) 24, .made (ints .u64 (fun _ => 0) 6) 24] (sB H0) ?ho1 ?he1
 case ho1 => exact am (ex_boxT rfl rfl) (am (ex_boxT rfl rfl) (am (ex_boxT rfl rfl) (am (ex_mk25 rfl) trivial)))
 intro J w1 l hM hl
 have H1 : Hid (Mm w1 [(J 0, ints .u64 F 13), (J 1, ints .u64 a 6), (J 2, ints .u64 b 6), (J 3, ints .u64 (fun _ => 0) 6)] ∧ _) := wB H0 hM hl [0, 1, 2, 3]
 have o1_0 := vB H0 hM hl 0
 have o1_1 := vB H0 hM hl 1
 have o1_2 := vB H0 hM hl 2
 have o1_3 := vB H0 hM hl 3
 clear hM hl l
 generalize J 0 = J1_0 at H1 o1_0 ⊢
 generalize J 1 = J1_1 at H1 o1_1 ⊢
 generalize J 2 = J1_2 at H1 o1_2 ⊢
 generalize J 3 = J1_3 at H1 o1_3 ⊢
 clear J
 refine rN (wp_seq ?_)
 refine zD 9 [.q (.agg (ints .u64 a 6).toArray), .q (.agg (ints .u64 b 6).toArray), .call (.tuple #[.agg (ints .u64 S 6).toArray, .bool cb]), .q (.tuple #[.agg (ints .u64 S 6).toArray, .bool cb]), .q (.agg (ints .u64 S 6).toArray), .q (.bool cb), .made (ints .u64 (fun _ => 0) 6) 24, .laid 6 (ints .u64 (fun _ => 0) 6) (ints .u64 S 6), .q (.bool cb)] (sB H1) ?ho2 ?he2 (hL := ?hL2)
 case hL2 => exact ⟨⟨_, rfl⟩, trivial⟩
 case ho2 => exact aq (fun w' h => zZ h 1 rfl rfl rfl Ai24 As24 (ints_whole _ _ _) (zL _ _ _)) (aq (fun w' h => zZ h 2 rfl rfl rfl Ai24 As24 (ints_whole _ _ _) (zL _ _ _)) (ac (fun w' h => eC call43 (HA.out w')) (ar (ag (ag (am (ex_mk25 rfl) (ak (fun J => ⟨rfl, rfl, (zL _ _ _).trans (zL _ _ _).symm, fun w' h => ex_laidI h As24 rfl rfl rfl⟩) (ar trivial))))))))
 intro J w2 l hM hl
 have H2 : Hid (Mm w2 ([(J 6, ints .u64 S 6)] ++ _) ∧ _) := wB H1 hM hl [6]
 have o2_6 := vB H1 hM hl 6
 clear hM hl l H1
 generalize J 6 = J2_6 at H2 o2_6 ⊢
 clear J
 refine rN (wp_seq (wp_seq ?_))
 refine zC 5 [.q (.agg (ints .u64 S 6).toArray), .q (PT J1_0 0), .q (.agg (ints .u64 F 6).toArray), .call (.int .i64 z), .q (.bool false)] H2 ?ho3 ?he3
 case ho3 => exact aq (fun w' h => zZ h 0 rfl rfl rfl Ai24 As24 (ints_whole _ _ _) (zL _ _ _)) (ag (aq (fun w' h => zZ h 1 rfl rfl rfl Ai24 As24 (pre13 F) (zL _ _ _)) (ac (fun w' h => eC call39 (HC.out w')) (ak (fun J => ⟨rfl, fun w' _ => ex_ge3 (z := z) (decide_eq_false (by omega)) rfl rfl rfl⟩) trivial))))
 intro _ w3 H3
 clear H2
 refine rN (wp_cond_false rfl ?_)
 refine wp_skip (zA (wp_seq ?_))
 refine zC 1 [.q (.agg (ints .u64 S 6).toArray)] H3 ?ho4 ?he4
 case ho4 => exact aq (fun w' h => zZ h 0 rfl rfl rfl Ai24 As24 (ints_whole _ _ _) (zL _ _ _)) trivial
 intro _ w4 H4
 clear H3
 refine zG (l := [1]) rfl ?_
 refine rest_store rfl rfl rfl (ex_storeT (vs := ints .u64 S 6) H4.out.1 4 rfl rfl rfl rfl (by rw [zL]; exact As24) (ints_all _ _ _) (by simp [zL])) ?_
 have H5 : Hid (Mm (w4.setCells J1_3 0 (ints .u64 S 6)) [(J2_6, ints .u64 S 6), (J1_0, ints .u64 F 13), (J1_1, ints .u64 a 6), (J1_2, ints .u64 b 6), (J1_3, ints .u64 S 6)] ∧ Below w.heap.size w (w4.setCells J1_3 0 (ints .u64 S 6))) := ⟨by
  have h := H4.out.1.put 4 (off := 0) (vs := ints .u64 S 6) rfl (by simp [zL])
  rw [ints_patch0 _ _ _ _] at h
  exact h, zP _ o1_3.out _ _ _ H4.out.2⟩
 clear H4
 generalize hgw : World.setCells _ _ _ _ = w5 at H5 ⊢
 clear hgw
 refine zE (zA (wp_ret ?_))
 repeat (first | refine zK ?_ | refine zI ?_)
 have hf0 := var_T H5.out.1 4 rfl Ai24 As24 (zL _ _ _)
 refine bodyPost_ret (v := .agg (ints .u64 S 6).toArray) (by simp [results, Tryz.results23, asAddr, hf0]) rfl ?_
 exact ⟨rfl, H5.out.2⟩
/-- The document's product by a modulus. -/
theorem fmul_spec (F a b : Nat → Nat) (Ri : Nat) (hA : ∀ i, i < 6 → a i < 18446744073709551616) (hB : ∀ i, i < 6 → b i < 18446744073709551616) (hN : ∀ i, i < 6 → F i < 18446744073709551616) (hl : (F 0 * F 6 + 1) % 18446744073709551616 = 0) (hbN : gv b 6 < gv F 6) (hSq : ∀ i, i < 6 → F (7 + i) < 18446744073709551616) (hsN : gv (fun j => F (7 + j)) 6 < gv F 6) (hs : gv (fun j => F (7 + j)) 6 % gv F 6 = 18446744073709551616 ^ 6 * 18446744073709551616 ^ 6 % gv F 6) (hRi : 18446744073709551616 ^ 6 * Ri % gv F 6 = 1 % gv F 6)
  (HC : ∀ x : Nat → Nat, (∀ i, i < 6 → x i < 18446744073709551616) → ∃ z : Int, (0 ≤ z ↔ gv F 6 ≤ gv x 6) ∧ ∀ w, Calls Tryz.prog 39 #[.agg (ints .u64 x 6).toArray, .agg (ints .u64 F 6).toArray] w (Rt w (.int .i64 z)))
  (HS : ∀ x : Nat → Nat, (∀ i, i < 6 → x i < 18446744073709551616) → ∃ (D : Nat → Nat) (bb : Bool), (∀ i, i < 6 → D i < 18446744073709551616) ∧ gv D 6 = (gv x 6 + 18446744073709551616 ^ 6 - gv F 6) % 18446744073709551616 ^ 6 ∧ ∀ w, Calls Tryz.prog 44 #[.agg (ints .u64 x 6).toArray, .agg (ints .u64 F 6).toArray] w (Rt w (.tuple #[.agg (ints .u64 D 6).toArray, .bool bb]))) :
  ∃ E : Nat → Nat, (∀ i, i < 6 → E i < 18446744073709551616) ∧ gv E 6 = gv a 6 * gv b 6 % gv F 6 ∧ ∀ w, Calls Tryz.prog 29 #[.agg (ints .u64 F 13).toArray, .agg (ints .u64 a 6).toArray, .agg (ints .u64 b 6).toArray] w (Rt w (.agg (ints .u64 E 6).toArray)) := by
 obtain ⟨D, d1, _, d3, d4⟩ := mont_spec F a b hA hB hN hl hbN HC HS
 obtain ⟨E, e1, e2, e3, e4⟩ := mont_spec F D (fun j => F (7 + j)) d1 hSq hN hl hsN HC HS
 refine ⟨E, e1, ?_, fun w => fmul_w F a b D E d4 e4 w⟩
 rw [← mont_two d3 e3 hs hRi, Nat.mod_eq_of_lt e2]
/-- The document's sum by a modulus. -/
theorem fadd_spec (F a b : Nat → Nat) (hN : ∀ i, i < 6 → F i < 18446744073709551616) (haN : gv a 6 < gv F 6) (hbN : gv b 6 < gv F 6) (h2N : 2 * gv F 6 ≤ 18446744073709551616 ^ 6)
  (HA : ∃ (S : Nat → Nat) (cb : Bool), (∀ i, i < 6 → S i < 18446744073709551616) ∧ gv S 6 = (gv a 6 + gv b 6) % 18446744073709551616 ^ 6 ∧ ∀ w, Calls Tryz.prog 43 #[.agg (ints .u64 a 6).toArray, .agg (ints .u64 b 6).toArray] w (Rt w (.tuple #[.agg (ints .u64 S 6).toArray, .bool cb])))
  (HC : ∀ x : Nat → Nat, (∀ i, i < 6 → x i < 18446744073709551616) → ∃ z : Int, (0 ≤ z ↔ gv F 6 ≤ gv x 6) ∧ ∀ w, Calls Tryz.prog 39 #[.agg (ints .u64 x 6).toArray, .agg (ints .u64 F 6).toArray] w (Rt w (.int .i64 z)))
  (HS : ∀ x : Nat → Nat, (∀ i, i < 6 → x i < 18446744073709551616) → ∃ (D : Nat → Nat) (bb : Bool), (∀ i, i < 6 → D i < 18446744073709551616) ∧ gv D 6 = (gv x 6 + 18446744073709551616 ^ 6 - gv F 6) % 18446744073709551616 ^ 6 ∧ ∀ w, Calls Tryz.prog 44 #[.agg (ints .u64 x 6).toArray, .agg (ints .u64 F 6).toArray] w (Rt w (.tuple #[.agg (ints .u64 D 6).toArray, .bool bb]))) :
  ∃ E : Nat → Nat, (∀ i, i < 6 → E i < 18446744073709551616) ∧ gv E 6 = (gv a 6 + gv b 6) % gv F 6 ∧ ∀ w, Calls Tryz.prog 23 #[.agg (ints .u64 F 13).toArray, .agg (ints .u64 a 6).toArray, .agg (ints .u64 b 6).toArray] w (Rt w (.agg (ints .u64 E 6).toArray)) := by
 obtain ⟨S, cb, s1, s2, s3⟩ := HA
 obtain ⟨z, hz, hC⟩ := HC S s1
 obtain ⟨D, ub, d1, d2, d3⟩ := HS S s1
 have hN6 := gv_lt 6 hN
 rw [Nat.mod_eq_of_lt (by omega)] at s2
 by_cases h0 : 0 ≤ z
 ·refine ⟨D, d1, ?_, fun w => fadd_b F a b S D z hC ub d3 cb s3 h0 w⟩
  have hx := gv_lt 6 s1
  rw [← s2]
  exact mont_end (x6 := 0) (by rw [Nat.zero_mul, Nat.add_zero]) (by omega) hx hN6 d2 (.inr (hz.1 h0))
 ·refine ⟨S, s1, ?_, fun w => fadd_c F a b S D z hC ub d3 cb s3 (by omega) w⟩
  have h1 : ¬ gv F 6 ≤ gv S 6 := fun h => h0 (hz.2 h)
  rw [← s2, Nat.mod_eq_of_lt (by omega)]
end Fs
end Rg
end Go.Proofs.YtacicklddhehaaaGreatDoor
end
section
namespace Go.Proofs.YtacicklddhehaaaGreatDoor
open Go.RowKit
namespace Rg
namespace Fs
set_option maxRecDepth 100000
/-- A number's words. -/
def wdv (v i : Nat) : Nat := v / 18446744073709551616 ^ i % 18446744073709551616
theorem wdv_lt (v i : Nat) : wdv v i < 18446744073709551616 := Nat.mod_lt _ (by decide)
theorem gv_wdv (v : Nat) : ∀ n, gv (wdv v) n = v % 18446744073709551616 ^ n
 | 0 => by
  show 0 = v % 18446744073709551616 ^ 0
  rw [Nat.pow_zero, Nat.mod_one]
 | n + 1 => by
  show gv (wdv v) n + v / 18446744073709551616 ^ n % 18446744073709551616 * 18446744073709551616 ^ n = _
  rw [gv_wdv v n, Nat.pow_succ, Nat.mod_mul, Nat.mul_comm (18446744073709551616 ^ n)]
theorem gv_w6 {v : Nat} (h : v < 18446744073709551616 ^ 6) : gv (wdv v) 6 = v := by rw [gv_wdv, Nat.mod_eq_of_lt h]
theorem gv_word {f : Nat → Nat} : ∀ n, (∀ i, i < n → f i < 18446744073709551616) → ∀ i, i < n → f i = wdv (gv f n) i
 | 0, _, i, hi => absurd hi (Nat.not_lt_zero _)
 | n + 1, h, i, hi => by
  have hp : 0 < 18446744073709551616 ^ i := Nat.pow_pos (by decide)
  have hl := gv_lt n (fun i hi => h i (by omega))
  unfold wdv
  show f i = (gv f n + f n * 18446744073709551616 ^ n) / 18446744073709551616 ^ i % 18446744073709551616
  by_cases e : i = n
  ·subst e
   rw [Nat.add_mul_div_right _ _ hp, Nat.div_eq_of_lt hl, Nat.zero_add, Nat.mod_eq_of_lt (h i (by omega))]
  ·obtain ⟨k, rfl⟩ : ∃ k, n = i + 1 + k := ⟨n - i - 1, by omega⟩
   have h1 := gv_word (i + 1 + k) (fun j hj => h j (by omega)) i (by omega)
   rw [h1]
   unfold wdv
   have e2 : f (i + 1 + k) * 18446744073709551616 ^ (i + 1 + k) = f (i + 1 + k) * 18446744073709551616 ^ k * 18446744073709551616 * 18446744073709551616 ^ i := by
    rw [show i + 1 + k = k + 1 + i by omega, Nat.pow_add, Nat.pow_succ, Nat.mul_assoc, Nat.mul_assoc, Nat.mul_assoc]
   rw [e2, Nat.add_mul_div_right _ _ hp, Nat.add_mul_mod_self_right]
theorem w6_eq {f : Nat → Nat} {v : Nat} (h : ∀ i, i < 6 → f i < 18446744073709551616) (e : gv f 6 = v) : ints .u64 f 6 = ints .u64 (wdv v) 6 := by
 subst e
 exact ints_congr (fun i hi => gv_word 6 h i hi)
theorem w6_cg {f g : Nat → Nat} (h : ∀ i, i < 6 → f i = g i) : ints .u64 f 6 = ints .u64 g 6 := ints_congr h
/-- The great moduli, as Fast has them. -/
structure Fa (F : Nat → Nat) (n : Nat) : Prop where
 n6 : ∀ i, i < 6 → F i = wdv n i
 lt : n < 18446744073709551616 ^ 6
 h2 : 2 * n ≤ 18446744073709551616 ^ 6
 less : (F 0 * F 6 + 1) % 18446744073709551616 = 0
 sq : ∀ i, i < 6 → F (7 + i) < 18446744073709551616
 sqn : gv (fun j => F (7 + j)) 6 < n
 sqv : gv (fun j => F (7 + j)) 6 % n = 18446744073709551616 ^ 6 * 18446744073709551616 ^ 6 % n
 inv : ∃ Ri, 18446744073709551616 ^ 6 * Ri % n = 1 % n
theorem Fa.words {F : Nat → Nat} {n : Nat} (h : Fa F n) (i : Nat) (hi : i < 6) : F i < 18446744073709551616 := by
 rw [h.n6 i hi]
 exact wdv_lt _ _
theorem Fa.val {F : Nat → Nat} {n : Nat} (h : Fa F n) : gv F 6 = n := by
 rw [gv_cg 6 h.n6]
 exact gv_w6 h.lt
theorem fa_cmp {F : Nat → Nat} {n : Nat} (h : Fa F n) (HC : ∀ x, x < 18446744073709551616 ^ 6 → ∃ z : Int, (0 ≤ z ↔ n ≤ x) ∧ ∀ w, Calls Tryz.prog 39 #[.agg (ints .u64 (wdv x) 6).toArray, .agg (ints .u64 (wdv n) 6).toArray] w (Rt w (.int .i64 z))) (x : Nat → Nat) (hx : ∀ i, i < 6 → x i < 18446744073709551616) : ∃ z : Int, (0 ≤ z ↔ gv F 6 ≤ gv x 6) ∧ ∀ w, Calls Tryz.prog 39 #[.agg (ints .u64 x 6).toArray, .agg (ints .u64 F 6).toArray] w (Rt w (.int .i64 z)) := by
 obtain ⟨z, h1, h2⟩ := HC (gv x 6) (gv_lt 6 hx)
 rw [h.val, w6_eq hx rfl, w6_cg h.n6]
 exact ⟨z, h1, h2⟩
theorem fa_sub {F : Nat → Nat} {n : Nat} (h : Fa F n) (HS : ∀ x, x < 18446744073709551616 ^ 6 → ∃ bb : Bool, ∀ w, Calls Tryz.prog 44 #[.agg (ints .u64 (wdv x) 6).toArray, .agg (ints .u64 (wdv n) 6).toArray] w (Rt w (.tuple #[.agg (ints .u64 (wdv ((x + 18446744073709551616 ^ 6 - n) % 18446744073709551616 ^ 6)) 6).toArray, .bool bb]))) (x : Nat → Nat) (hx : ∀ i, i < 6 → x i < 18446744073709551616) : ∃ (D : Nat → Nat) (bb : Bool), (∀ i, i < 6 → D i < 18446744073709551616) ∧ gv D 6 = (gv x 6 + 18446744073709551616 ^ 6 - gv F 6) % 18446744073709551616 ^ 6 ∧ ∀ w, Calls Tryz.prog 44 #[.agg (ints .u64 x 6).toArray, .agg (ints .u64 F 6).toArray] w (Rt w (.tuple #[.agg (ints .u64 D 6).toArray, .bool bb])) := by
 obtain ⟨bb, h2⟩ := HS (gv x 6) (gv_lt 6 hx)
 refine ⟨wdv ((gv x 6 + 18446744073709551616 ^ 6 - n) % 18446744073709551616 ^ 6), bb, fun i _ => wdv_lt _ i, ?_, ?_⟩
 ·rw [gv_w6 (Nat.mod_lt _ (by decide)), h.val]
 ·rw [w6_eq hx rfl, w6_cg h.n6]
  exact h2
theorem fmul_num {F : Nat → Nat} {n : Nat} (h : Fa F n) (HC : ∀ x, x < 18446744073709551616 ^ 6 → ∃ z : Int, (0 ≤ z ↔ n ≤ x) ∧ ∀ w, Calls Tryz.prog 39 #[.agg (ints .u64 (wdv x) 6).toArray, .agg (ints .u64 (wdv n) 6).toArray] w (Rt w (.int .i64 z))) (HS : ∀ x, x < 18446744073709551616 ^ 6 → ∃ bb : Bool, ∀ w, Calls Tryz.prog 44 #[.agg (ints .u64 (wdv x) 6).toArray, .agg (ints .u64 (wdv n) 6).toArray] w (Rt w (.tuple #[.agg (ints .u64 (wdv ((x + 18446744073709551616 ^ 6 - n) % 18446744073709551616 ^ 6)) 6).toArray, .bool bb]))) {x y : Nat} (hx : x < 18446744073709551616 ^ 6) (hy : y < n) (w : World) : Calls Tryz.prog 29 #[.agg (ints .u64 F 13).toArray, .agg (ints .u64 (wdv x) 6).toArray, .agg (ints .u64 (wdv y) 6).toArray] w (Rt w (.agg (ints .u64 (wdv (x * y % n)) 6).toArray)) := by
 obtain ⟨Ri, hRi⟩ := h.inv
 have hy6 := Nat.lt_trans hy h.lt
 obtain ⟨E, h1, h2, h3⟩ := fmul_spec F (wdv x) (wdv y) Ri (fun i _ => wdv_lt _ i) (fun i _ => wdv_lt _ i) h.words h.less (by rw [h.val, gv_w6 hy6]; exact hy) h.sq (by rw [h.val]; exact h.sqn) (by rw [h.val]; exact h.sqv) (by rw [h.val]; exact hRi) (fa_cmp h HC) (fa_sub h HS)
 rw [gv_w6 hx, gv_w6 hy6, h.val] at h2
 rw [← w6_eq h1 h2]
 exact h3 w
theorem fadd_num {F : Nat → Nat} {n : Nat} (h : Fa F n) (HC : ∀ x, x < 18446744073709551616 ^ 6 → ∃ z : Int, (0 ≤ z ↔ n ≤ x) ∧ ∀ w, Calls Tryz.prog 39 #[.agg (ints .u64 (wdv x) 6).toArray, .agg (ints .u64 (wdv n) 6).toArray] w (Rt w (.int .i64 z))) (HS : ∀ x, x < 18446744073709551616 ^ 6 → ∃ bb : Bool, ∀ w, Calls Tryz.prog 44 #[.agg (ints .u64 (wdv x) 6).toArray, .agg (ints .u64 (wdv n) 6).toArray] w (Rt w (.tuple #[.agg (ints .u64 (wdv ((x + 18446744073709551616 ^ 6 - n) % 18446744073709551616 ^ 6)) 6).toArray, .bool bb]))) (HA : ∀ x y, x < 18446744073709551616 ^ 6 → y < 18446744073709551616 ^ 6 → ∃ cb : Bool, ∀ w, Calls Tryz.prog 43 #[.agg (ints .u64 (wdv x) 6).toArray, .agg (ints .u64 (wdv y) 6).toArray] w (Rt w (.tuple #[.agg (ints .u64 (wdv ((x + y) % 18446744073709551616 ^ 6)) 6).toArray, .bool cb]))) {x y : Nat} (hx : x < n) (hy : y < n) (w : World) : Calls Tryz.prog 23 #[.agg (ints .u64 F 13).toArray, .agg (ints .u64 (wdv x) 6).toArray, .agg (ints .u64 (wdv y) 6).toArray] w (Rt w (.agg (ints .u64 (wdv ((x + y) % n)) 6).toArray)) := by
 have hx6 := Nat.lt_trans hx h.lt
 have hy6 := Nat.lt_trans hy h.lt
 obtain ⟨cb, hA⟩ := HA x y hx6 hy6
 obtain ⟨E, h1, h2, h3⟩ := fadd_spec F (wdv x) (wdv y) h.words (by rw [h.val, gv_w6 hx6]; exact hx) (by rw [h.val, gv_w6 hy6]; exact hy) (by rw [h.val]; exact h.h2) ⟨wdv ((x + y) % 18446744073709551616 ^ 6), cb, fun i _ => wdv_lt _ i, by rw [gv_w6 (Nat.mod_lt _ (by decide)), gv_w6 hx6, gv_w6 hy6], hA⟩ (fa_cmp h HC) (fa_sub h HS)
 rw [gv_w6 hx6, gv_w6 hy6, h.val] at h2
 rw [← w6_eq h1 h2]
 exact h3 w
end Fs
end Rg
end Go.Proofs.YtacicklddhehaaaGreatDoor
end
section
namespace Go.Proofs.YtacicklddhehaaaGreatDoor
open Go.RowKit
namespace Rg
namespace Fs
set_option maxRecDepth 100000
def fstP (i : Nat) : Nat := [13402431016077863595, 2210141511517208575, 7435674573564081700, 7239337960414712511, 5412103778470702295, 1873798617647539866, 9940570264628428797, 17644856173732828998, 754043588434789617, 10224657059481499349, 7488229067341005760, 11130996698012816685, 1267921511277847466].getD i 0
def modP : Nat := 4002409555221667393417789825735904156556882819939007885332058136124031650490837864442687629129015664037894272559787
theorem fa_P : Fa fstP modP where
 n6 := fun i hi => by rcases (by omega : i = 0 ∨ i = 1 ∨ i = 2 ∨ i = 3 ∨ i = 4 ∨ i = 5) with rfl | rfl | rfl | rfl | rfl | rfl <;> decide +kernel
 lt := by decide +kernel
 h2 := by decide +kernel
 less := by decide +kernel
 sq := fun i hi => by rcases (by omega : i = 0 ∨ i = 1 ∨ i = 2 ∨ i = 3 ∨ i = 4 ∨ i = 5) with rfl | rfl | rfl | rfl | rfl | rfl <;> decide +kernel
 sqn := by decide +kernel
 sqv := by decide +kernel
 inv := ⟨3231460744492646417066832100176244795738767926513225105051837195607029917124509527734802654356338138714468589979680, by decide +kernel⟩
end Fs
end Rg
end Go.Proofs.YtacicklddhehaaaGreatDoor
end
section
namespace Go.Proofs.YtacicklddhehaaaGreatDoor
open Go.RowKit
set_option maxHeartbeats 400000 in
theorem bit_ref_in (a i : Nat) (hi : i < 384) (w : World) :
  Calls Tryz.prog 86 #[N a, .int .i64 i] w (Rt w (.int .i64 (bitv a i))) := by
 have d0 : decide ((i : Int) < 0) = false := decide_eq_false (by omega)
 have d1 : decide ((383 : Int) < i) = false := decide_eq_false (by omega)
 have hA : Row (w.alloc (.cells #[.int .u64 (wd a 0), .int .u64 (wd a 1), .int .u64 (wd a 2), .int .u64 (wd a 3), .int .u64 (wd a 4), .int .u64 (wd a 5)] 24)) w.heap.size 6 (wd a) := Row.new w _ 24 rfl (six_lt rfl)
 have hA1 := (hA (i / 64) (by omega)).1
 clear hA
 go_enter Tryz.func86, Tryz.ntmps86
 go_wp2
 rw [bitv_word, show wrap64 (bitv a i) = bitv a i by have := bitv_bd a i; unfold wrap64; omega]
 go_ret
 exact ⟨rfl, (Below.refl _ _).alloc (Nat.le_refl _) _⟩
/-- Bit i of a number, at any place. -/
def bitz (a : Nat) (i : Int) : Int := if 0 ≤ i ∧ i < 384 then bitv a i.toNat else 0
set_option maxHeartbeats 400000 in
theorem bit_ref (a : Nat) (i : Int) (w : World) :
  Calls Tryz.prog 86 #[N a, .int .i64 i] w (Rt w (.int .i64 (bitz a i))) := by
 unfold bitz
 by_cases h : 0 ≤ i ∧ i < 384
 ·obtain ⟨n, rfl⟩ := Int.eq_ofNat_of_zero_le h.1
  rw [if_pos h]
  exact bit_ref_in a n (by omega) w
 ·rw [if_neg h]
  by_cases h0 : i < 0
  ·have d0 : decide (i < 0) = true := decide_eq_true h0
   go_enter Tryz.func86, Tryz.ntmps86
   go_wp2
   go_ret
   exact ⟨rfl, (Below.refl _ _).alloc (Nat.le_refl _) _⟩
  ·have d0 : decide (i < 0) = false := decide_eq_false h0
   have d1 : decide ((383 : Int) < i) = true := decide_eq_true (by omega)
   go_enter Tryz.func86, Tryz.ntmps86
   go_wp2
   go_ret
   exact ⟨rfl, (Below.refl _ _).alloc (Nat.le_refl _) _⟩
theorem call43 : CO 43 := by intro args w; go_simp
theorem call44 : CO 44 := by intro args w; go_simp
theorem call39 : CO 39 := by intro args w; go_simp
theorem call62 : CO 62 := by intro args w; go_simp
theorem call86 : CO 86 := by intro args w; go_simp
theorem call85 : CO 85 := by intro args w; go_simp
theorem high_step (a k : Nat) : ((a / 2 ^ (64 * k) : Nat) : Int) = wd a k + 18446744073709551616 * ((a / 2 ^ (64 * (k + 1)) : Nat) : Int) := by
 unfold wd
 rw [pow_step, ← Nat.div_div_eq_div_mul]
 omega
theorem high_none (a : Nat) (ha : a < big) : a / 2 ^ (64 * 6) = 0 := by
 rw [← big_eq]; exact Nat.div_eq_of_lt ha
theorem lt_of_high {a b k : Nat} (h : a / 2 ^ (64 * k) < b / 2 ^ (64 * k)) : a < b := by
 rcases Nat.lt_or_ge a b with h' | h'
 ·exact h'
 ·have := Nat.div_le_div_right (c := 2 ^ (64 * k)) h'
  omega
set_option maxHeartbeats 1000000 in
theorem compare_ref (a b : Nat) (ha : a < big) (hb : b < big) (w : World) :
  Calls Tryz.prog 39 #[N a, N b] w (Rt w (.int .i64 (cmpv a b))) := by
 have HA : Hid (a < big ∧ b < big) := ⟨ha, hb⟩
 clear ha hb
 go_enter Tryz.func39, Tryz.ntmps39
 go_wp2
 go_loopw [5] (fun i wr => ∃ k : Nat, k ≤ 6 ∧ i = .int .i64 ((k : Int) - 1) ∧ a / 2 ^ (64 * k) = b / 2 ^ (64 * k) ∧ Row wr w.heap.size 6 (wd a) ∧ Row wr (w.heap.size + 1) 6 (wd b) ∧ Below w.heap.size w wr) (fun i _ => (RowKit.intOf i + 1).toNat)
 case atStart =>
  refine ⟨6, by omega, rfl, ?_, (Row.new w _ 24 rfl (six_lt rfl)).alloc (by simp) _, Row.new _ _ 24 (by simp) (six_lt rfl), ((Below.refl _ _).alloc (Nat.le_refl _) _).alloc (by simp) _⟩
  rw [high_none a HA.out.1, high_none b HA.out.2]
 case round =>
  obtain ⟨k, hk, rfl, hz, hA, hB, hw⟩ := hrel
  have HZ : Hid _ := hz
  clear hz
  by_cases h0 : 1 ≤ k
  ·obtain ⟨i, rfl⟩ : ∃ i, k = i + 1 := ⟨k - 1, by omega⟩
   rw [show (((i + 1 : Nat) : Int) - 1) = (i : Int) by omega]
   have hA1 := (hA i (by omega)).1
   have hB1 := (hB i (by omega)).1
   have HR : Hid (_ ∧ _ ∧ _) := ⟨hA, hB, hw⟩
   clear hA hB hw
   by_cases hx : wd a i < wd b i
   ·have d1 : decide (wd a i < wd b i) = true := decide_eq_true hx
    have hfin : Hid (cmpv a b = -1) := by
     have h1 := high_step a i
     have h2 := high_step b i
     rw [HZ.out] at h1
     have h3 : a < b := lt_of_high (k := i) (by omega)
     show cmpv a b = -1
     unfold cmpv
     rw [if_neg (by omega), if_pos h3]
    clear hx
    go_wp2
    go_region
    go_wp2
    go_ret
    refine ⟨?_, HR.out.2.2.drew⟩
    rw [hfin.out]
    rfl
   ·have d1 : decide (wd a i < wd b i) = false := decide_eq_false hx
    by_cases hy : wd b i < wd a i
    ·have d2 : decide (wd b i < wd a i) = true := decide_eq_true hy
     have hfin : Hid (cmpv a b = 1) := by
      have h1 := high_step a i
      have h2 := high_step b i
      rw [HZ.out] at h1
      have h3 : b < a := lt_of_high (k := i) (by omega)
      show cmpv a b = 1
      unfold cmpv
      rw [if_neg (by omega), if_neg (by omega)]
     clear hx hy
     go_wp2
     go_region
     go_wp2
     go_region
     go_wp2
     go_ret
     refine ⟨?_, HR.out.2.2.drew.drew⟩
     rw [hfin.out]
     rfl
    ·have d2 : decide (wd b i < wd a i) = false := decide_eq_false hy
     have HE : Hid (wd a i = wd b i) := (by omega : wd a i = wd b i)
     clear hx hy
     go_wp2
     go_region
     go_wp2
     go_region
     go_wp2
     go_roundw
     case rel =>
      obtain ⟨hA, hB, hw⟩ := HR.out
      refine ⟨i, by omega, by go_num, ?_, hA.drew.drew, hB.drew.drew, hw.drew.drew⟩
      have h1 := high_step a i
      have h2 := high_step b i
      rw [HZ.out] at h1
      have h3 := HE.out
      omega
     case measure => simp [RowKit.intOf] <;> omega
  ·have hk0 : k = 0 := by omega
   subst hk0
   rw [show (((0 : Nat) : Int) - 1) = -1 from rfl]
   have hfin : Hid (cmpv a b = 0) := by
    have h1 := HZ.out
    simp only [Nat.mul_zero, Nat.pow_zero, Nat.div_one] at h1
    show cmpv a b = 0
    unfold cmpv
    rw [if_pos h1]
   clear hA hB HZ
   go_wp2
   go_ret
   refine ⟨?_, hw⟩
   rw [hfin.out]
   rfl
theorem top_bit (a i : Nat) (h : a < 2 ^ (i + 1)) : (bitv a i = 1 ∧ bl a = i + 1) ∨ (bitv a i = 0 ∧ a < 2 ^ i) := by
 unfold bitv
 have h1 : a / 2 ^ i < 2 := by
  rw [Nat.div_lt_iff_lt_mul (Nat.two_pow_pos _), Nat.mul_comm, ← Nat.pow_succ]
  exact h
 rcases Nat.lt_or_ge a (2 ^ i) with h2 | h2
 ·right
  rw [Nat.div_eq_of_lt h2]
  exact ⟨rfl, h2⟩
 ·left
  have h3 := Nat.div_pos h2 (Nat.two_pow_pos i)
  exact ⟨by omega, bl_unique a i h2 h⟩
set_option maxHeartbeats 1000000 in
theorem len_ref (a : Nat) (ha : a < big) (w : World) :
  Calls Tryz.prog 85 #[N a] w (Rt w (.int .i64 (bl a))) := by
 have CB : Hid _ := fun i hi w => bit_ref_in a i hi w
 have HA : Hid (a < 2 ^ 384) := by
  obtain ⟨n, hn, e⟩ := big_pow
  show a < 2 ^ 384
  rw [e, show 64 * n = 384 by omega] at ha
  exact ha
 clear ha
 go_enter Tryz.func85, Tryz.ntmps85
 go_wp2
 go_loopw [3] (fun i wr => ∃ k : Nat, k ≤ 384 ∧ i = .int .i64 ((k : Int) - 1) ∧ a < 2 ^ k ∧ Rws wr [(w.heap.size, a)] ∧ Below w.heap.size w wr) (fun i _ => (RowKit.intOf i + 1).toNat)
 case atStart =>
  exact ⟨384, by omega, rfl, HA.out, (Rws.nil w).alloc a rfl, (Below.refl _ _).alloc (Nat.le_refl _) _⟩
 case round =>
  obtain ⟨k, hk, rfl, hz, hR, hw⟩ := hrel
  have HZ : Hid _ := hz
  clear hz HA
  by_cases h0 : 1 ≤ k
  ·obtain ⟨i, rfl⟩ : ∃ i, k = i + 1 := ⟨k - 1, by omega⟩
   rw [show (((i + 1 : Nat) : Int) - 1) = (i : Int) by omega]
   obtain ⟨pa, a0, a1, a2, a3, a4, a5⟩ := hR.at (g := w.heap.size) (v := a) (by simp)
   have HR : Hid (_ ∧ _) := ⟨hR, hw⟩
   clear hR hw
   go_wp2_with fail
   refine (CB.out i (by omega) _).mono ?_
   rintro e wx ⟨rfl, hb⟩
   rcases top_bit a i HZ.out with ⟨h1, h2⟩ | ⟨h1, h2⟩
   ·rw [h1]
    have H2 : Hid (bl a = i + 1) := h2
    clear h1 h2
    go_wp2
    go_ret
    refine ⟨?_, HR.out.2.trans (hb.mono HR.out.2.size)⟩
    rw [H2.out]
    refine congrArg Ending.returned (congrArg (Value.int IntKind.i64) ?_)
    omega
   ·rw [h1]
    have H2 : Hid (a < 2 ^ i) := h2
    clear h1 h2
    go_wp2
    go_roundw
    case rel => exact ⟨i, by omega, by go_num, H2.out, HR.out.1.below hb, HR.out.2.trans (hb.mono HR.out.2.size)⟩
    case measure => simp [RowKit.intOf] <;> omega
  ·have hk0 : k = 0 := by omega
   subst hk0
   rw [show (((0 : Nat) : Int) - 1) = -1 from rfl]
   have hfin : Hid (bl a = 0) := by
    have h1 := HZ.out
    have : a = 0 := by simpa using h1
    show bl a = 0
    rw [this]; rfl
   clear HZ hR
   go_wp2
   go_ret
   refine ⟨?_, hw⟩
   rw [hfin.out]
   rfl
/-- A sum by halves of the carry. -/
theorem add_two (x y c : Int) (hx0 : 0 ≤ x) (hx1 : x < 18446744073709551616) (hy0 : 0 ≤ y) (hy1 : y < 18446744073709551616) (hc0 : 0 ≤ c) (hc1 : c ≤ 1) :
  ∃ s t : Int, IntKind.u64.wrap (x + y) = s ∧ IntKind.u64.wrap (s + c) = t ∧ t = addLo x y c ∧
   ((decide (s < x) = true ∧ decide (t < s) = false ∧ addHi x y c = 1) ∨ (decide (s < x) = false ∧ decide (t < s) = true ∧ addHi x y c = 1) ∨ (decide (s < x) = false ∧ decide (t < s) = false ∧ addHi x y c = 0)) := by
 refine ⟨_, _, rfl, rfl, ?_, ?_⟩
 ·rw [IntKind.wrap_u64, IntKind.wrap_u64]; unfold addLo; omega
 ·rw [IntKind.wrap_u64, IntKind.wrap_u64]
  unfold addHi
  simp only [decide_eq_true_eq, decide_eq_false_iff_not]
  omega
set_option maxHeartbeats 1000000 in
theorem add_ref (a b : Nat) (ha : a < big) (hb : b < big) (w : World) :
  Calls Tryz.prog 43 #[N a, N b] w (Rt w (.tuple #[N ((a + b) % big), .bool (decide (big ≤ a + b))])) := by
 have hend := cry_end a b ha hb
 have He : Hid ((cry a b 6 == 1) = decide (big ≤ a + b)) := by
  show _ = _
  rw [← hend]
  have := cry_bd a b 6
  by_cases h : cry a b 6 = 0
  ·rw [h]; rfl
  ·rw [show cry a b 6 = 1 by omega]; rfl
 clear hend ha hb
 go_enter Tryz.func43, Tryz.ntmps43
 go_wp2
 go_loopw [7, 8] (fun c i wr => ∃ k : Nat, k ≤ 6 ∧ i = .int .i64 k ∧ c = .int .u64 (cry a b k) ∧ Row wr w.heap.size 6 (wd a) ∧ Row wr (w.heap.size + 1) 6 (wd b) ∧ Row wr (w.heap.size + 1 + 1) 6 (fun _ => 0) ∧ Row wr (w.heap.size + 1 + 1 + 1) 6 (part (a + b) k) ∧ Below w.heap.size w wr) (fun _ i _ => 6 - (RowKit.intOf i).toNat)
 case atStart =>
  refine ⟨0, by omega, rfl, by simp [cry], ?_, ?_, ?_, ?_, ?_⟩
  ·exact (((Row.new w _ 24 rfl (six_lt rfl)).alloc (by simp <;> omega) _).alloc (by simp <;> omega) _).alloc (by simp <;> omega) _
  ·exact ((Row.new _ _ 24 (by simp <;> omega) (six_lt rfl)).alloc (by simp <;> omega) _).alloc (by simp <;> omega) _
  ·exact (Row.new _ _ 24 (by simp <;> omega) (six_lt (f := fun _ => 0) rfl)).alloc (by simp <;> omega) _
  ·exact Row.new _ _ 24 (by simp <;> omega) (six_lt (f := part (a + b) 0) rfl)
  ·exact ((((Below.refl _ _).alloc (Nat.le_refl _) _).alloc (by simp <;> omega) _).alloc (by simp <;> omega) _).alloc (by simp <;> omega) _
 case round =>
  obtain ⟨k, hk, rfl, rfl, hA, hB, hZ, hS, hw⟩ := hrel
  by_cases hlt : k < 6
  ·obtain ⟨hc0, hc1⟩ := cry_bd a b k
   obtain ⟨ha0, ha1⟩ := wd_bd a k
   obtain ⟨hb0, hb1⟩ := wd_bd b k
   obtain ⟨s, t, hs, ht, htt, hcs⟩ := add_two (wd a k) (wd b k) (cry a b k) ha0 ha1 hb0 hb1 hc0 hc1
   rw [add_word] at htt
   rw [add_cry] at hcs
   have HT : Hid (t = wd (a + b) k) := htt
   have hA1 := (hA k hlt).1
   have hB1 := (hB k hlt).1
   obtain ⟨hS1, hS2⟩ := hS k hlt
   have R1 : Hid (_ ∧ _ ∧ _ ∧ _ ∧ _) := ⟨hA, hB, hZ, hS, hw⟩
   clear hA hB hZ hS hw htt hc0 hc1 ha0 ha1 hb0 hb1
   rcases hcs with ⟨d1, d2, d3⟩ | ⟨d1, d2, d3⟩ | ⟨d1, d2, d3⟩
   all_goals
    have H3 : Hid _ := d3
    clear d3
    go_wp2
    go_region
    go_wp2
    go_roundw
    case rel =>
     obtain ⟨hA, hB, hZ, hS, hw⟩ := R1.out
     exact ⟨k + 1, by omega, by go_num, by rw [H3.out], (hA.set_other _ (by simp <;> omega)), (hB.set_other _ (by simp <;> omega)), (hZ.set_other _ (by simp <;> omega)), ((hS.set _).congr (fun j _ => part_step HT.out j)), (hw.drew.setCell (by simp <;> omega) _)⟩
    case measure => simp [RowKit.intOf]; omega
  ·have hk6 : k = 6 := by omega
   subst hk6
   obtain ⟨s0, s1, s2, s3, s4, s5⟩ := (hS.congr (f' := wd ((a + b) % big)) (fun j hj => by rw [part_lt hj, wd_mod _ _ hj])).reads
   obtain ⟨z0, z1, z2, z3, z4, z5⟩ := hZ.writes
   obtain ⟨y0, y1, y2, y3, y4, y5⟩ := hZ.reads
   clear hA hB hZ hS
   go_wp2
   rw [He.out]
   exact bodyPost_ret (v := .tuple #[N ((a + b) % big), .bool (decide (big ≤ a + b))]) (by simp [results, Tryz.results43, go_sem, *]) rfl ⟨rfl, (((((hw.setCell (by simp <;> omega) _).setCell (by simp <;> omega) _).setCell (by simp <;> omega) _).setCell (by simp <;> omega) _).setCell (by simp <;> omega) _).setCell (by simp <;> omega) _⟩
theorem sub_two (x y c : Int) (hx0 : 0 ≤ x) (hx1 : x < 18446744073709551616) (hy0 : 0 ≤ y) (hy1 : y < 18446744073709551616) (hc0 : 0 ≤ c) (hc1 : c ≤ 1) :
  ∃ s t : Int, IntKind.u64.wrap (x - y) = s ∧ IntKind.u64.wrap (s - c) = t ∧ t = subLo x y c ∧
   ((decide (x < y) = true ∧ decide (s < c) = false ∧ bor x (y + c) = 1) ∨ (decide (x < y) = false ∧ decide (s < c) = true ∧ bor x (y + c) = 1) ∨ (decide (x < y) = false ∧ decide (s < c) = false ∧ bor x (y + c) = 0)) := by
 refine ⟨_, _, rfl, rfl, ?_, ?_⟩
 ·rw [IntKind.wrap_u64, IntKind.wrap_u64]; unfold subLo; omega
 ·rw [IntKind.wrap_u64]
  unfold bor
  simp only [decide_eq_true_eq, decide_eq_false_iff_not]
  split <;> omega
set_option maxHeartbeats 1000000 in
theorem sub_ref (a b : Nat) (ha : a < big) (hb : b < big) (w : World) :
  Calls Tryz.prog 44 #[N a, N b] w (Rt w (.tuple #[N ((a + big - b) % big), .bool (decide (a < b))])) := by
 have hend := brw_end a b ha hb
 have HB : Hid (b < big) := hb
 have He : Hid ((brw a b 6 == 1) = decide (a < b)) := by
  show _ = _
  rw [← hend]
  have := brw_bd a b 6
  by_cases h : brw a b 6 = 0
  ·rw [h]; rfl
  ·rw [show brw a b 6 = 1 by omega]; rfl
 clear hend ha hb
 go_enter Tryz.func44, Tryz.ntmps44
 go_wp2
 go_loopw [7, 8] (fun c i wr => ∃ k : Nat, k ≤ 6 ∧ i = .int .i64 k ∧ c = .int .u64 (brw a b k) ∧ Row wr w.heap.size 6 (wd a) ∧ Row wr (w.heap.size + 1) 6 (wd b) ∧ Row wr (w.heap.size + 1 + 1) 6 (fun _ => 0) ∧ Row wr (w.heap.size + 1 + 1 + 1) 6 (part (a + big - b) k) ∧ Below w.heap.size w wr) (fun _ i _ => 6 - (RowKit.intOf i).toNat)
 case atStart =>
  refine ⟨0, by omega, rfl, by simp [brw, Nat.mod_one], ?_, ?_, ?_, ?_, ?_⟩
  ·exact (((Row.new w _ 24 rfl (six_lt rfl)).alloc (by simp <;> omega) _).alloc (by simp <;> omega) _).alloc (by simp <;> omega) _
  ·exact ((Row.new _ _ 24 (by simp <;> omega) (six_lt rfl)).alloc (by simp <;> omega) _).alloc (by simp <;> omega) _
  ·exact (Row.new _ _ 24 (by simp <;> omega) (six_lt (f := fun _ => 0) rfl)).alloc (by simp <;> omega) _
  ·exact Row.new _ _ 24 (by simp <;> omega) (six_lt (f := part (a + big - b) 0) rfl)
  ·exact ((((Below.refl _ _).alloc (Nat.le_refl _) _).alloc (by simp <;> omega) _).alloc (by simp <;> omega) _).alloc (by simp <;> omega) _
 case round =>
  obtain ⟨k, hk, rfl, rfl, hA, hB, hZ, hS, hw⟩ := hrel
  by_cases hlt : k < 6
  ·obtain ⟨hc0, hc1⟩ := brw_bd a b k
   obtain ⟨ha0, ha1⟩ := wd_bd a k
   obtain ⟨hb0, hb1⟩ := wd_bd b k
   obtain ⟨s, t, hs, ht, htt, hcs⟩ := sub_two (wd a k) (wd b k) (brw a b k) ha0 ha1 hb0 hb1 hc0 hc1
   rw [sub_word a b k hlt HB.out] at htt
   rw [sub_cry] at hcs
   have HT : Hid (t = wd (a + big - b) k) := htt
   have hA1 := (hA k hlt).1
   have hB1 := (hB k hlt).1
   obtain ⟨hS1, hS2⟩ := hS k hlt
   have R1 : Hid (_ ∧ _ ∧ _ ∧ _ ∧ _) := ⟨hA, hB, hZ, hS, hw⟩
   clear hA hB hZ hS hw htt hc0 hc1 ha0 ha1 hb0 hb1
   rcases hcs with ⟨d1, d2, d3⟩ | ⟨d1, d2, d3⟩ | ⟨d1, d2, d3⟩
   all_goals
    have H3 : Hid _ := d3
    clear d3
    go_wp2
    go_region
    go_wp2
    go_region
    go_wp2
    go_roundw
    case rel =>
     obtain ⟨hA, hB, hZ, hS, hw⟩ := R1.out
     exact ⟨k + 1, by omega, by go_num, by rw [H3.out], (hA.set_other _ (by simp <;> omega)), (hB.set_other _ (by simp <;> omega)), (hZ.set_other _ (by simp <;> omega)), ((hS.set _).congr (fun j _ => part_step HT.out j)), (hw.drew.drew.setCell (by simp <;> omega) _)⟩
    case measure => simp [RowKit.intOf]; omega
  ·have hk6 : k = 6 := by omega
   subst hk6
   obtain ⟨s0, s1, s2, s3, s4, s5⟩ := (hS.congr (f' := wd ((a + big - b) % big)) (fun j hj => by rw [part_lt hj, wd_mod _ _ hj])).reads
   obtain ⟨z0, z1, z2, z3, z4, z5⟩ := hZ.writes
   obtain ⟨y0, y1, y2, y3, y4, y5⟩ := hZ.reads
   clear hA hB hZ hS
   go_wp2
   rw [He.out]
   exact bodyPost_ret (v := .tuple #[N ((a + big - b) % big), .bool (decide (a < b))]) (by simp [results, Tryz.results44, go_sem, *]) rfl ⟨rfl, (((((hw.setCell (by simp <;> omega) _).setCell (by simp <;> omega) _).setCell (by simp <;> omega) _).setCell (by simp <;> omega) _).setCell (by simp <;> omega) _).setCell (by simp <;> omega) _⟩
/-- Byte k of a number, the lowest first. -/
def bt (a k : Nat) : Nat := a / 2 ^ (8 * k) % 256
/-- Bits laid above a number, within one word. -/
theorem part_other (V d p s j : Nat) (hV : V < 2 ^ p) (hd : d < 2 ^ s) (hp : p % 64 + s ≤ 64) (hj : j ≠ p / 64) : wd (V + d * 2 ^ p) j = wd V j := by
 rw [wd_shr, wd_shr, ← Nat.shiftLeft_eq, Nat.add_comm, Nat.shiftLeft_add_eq_or_of_lt hV]
 congr 1
 apply Nat.eq_of_testBit_eq
 intro i
 simp only [Nat.testBit_or, Nat.testBit_mod_two_pow, Nat.testBit_shiftLeft, Nat.testBit_shiftRight]
 by_cases hi : i < 64
 ·by_cases hk : p ≤ 64 * j + i
  ·have : d.testBit (64 * j + i - p) = false := Nat.testBit_lt_two_pow (Nat.lt_of_lt_of_le hd (Nat.pow_le_pow_right (by decide) (by omega)))
   simp [this]
  ·simp [hk]
 ·simp [hi]
theorem part_bits (V d p : Nat) : (V >>> (64 * (p / 64)) % 2 ^ 64) ||| (d <<< (p % 64) % 2 ^ 64) = (d <<< p ||| V) >>> (64 * (p / 64)) % 2 ^ 64 := by
 apply Nat.eq_of_testBit_eq
 intro i
 simp only [Nat.testBit_or, Nat.testBit_mod_two_pow, Nat.testBit_shiftLeft, Nat.testBit_shiftRight]
 by_cases hi : i < 64
 ·by_cases hk : p % 64 ≤ i
  ·have e1 : p ≤ 64 * (p / 64) + i := by omega
   have e2 : 64 * (p / 64) + i - p = i - p % 64 := by omega
   simp [hi, hk, e1, e2, Bool.or_comm]
  ·have e1 : ¬ p ≤ 64 * (p / 64) + i := by omega
   simp [hi, hk, e1]
 ·simp [hi]
theorem part_word (V d p : Nat) (hV : V < 2 ^ p) : bits .or .u64 (wd V (p / 64)) (IntKind.u64.wrap ((d : Int) * 2 ^ (p % 64))) = wd (V + d * 2 ^ p) (p / 64) := by
 rw [wrap_shl, wd_shr, wd_shr, ← Nat.shiftLeft_eq, Nat.add_comm, Nat.shiftLeft_add_eq_or_of_lt hV, ← part_bits]
 exact bits_or_u64_nat _ _ (Nat.mod_lt _ (by decide)) (Nat.mod_lt _ (by decide))
theorem bitv_tb (a i : Nat) : bitv a i = if a.testBit i = true then 1 else 0 := by
 unfold bitv
 rw [Nat.testBit_eq_decide_div_mod_eq]
 simp only [decide_eq_true_eq]
 split <;> omega
/-- The bits of a shifted number. -/
theorem shv_bit (a : Nat) (n : Int) (ha : a < big) (h : ¬ (384 ≤ n ∨ n ≤ -384)) (k : Nat) (hk : k < 384) : bitz a ((k : Int) - n) = bitv (shv a n) k := by
 unfold shv bitz
 rw [if_neg h]
 by_cases hn : n < 0
 ·rw [if_pos hn]
  obtain ⟨m, rfl⟩ : ∃ m : Nat, n = -(m : Int) := ⟨(-n).toNat, by omega⟩
  rw [show (- -(m : Int)).toNat = m by omega]
  rw [bitv_tb (a / 2 ^ m), ← Nat.shiftRight_eq_div_pow, Nat.testBit_shiftRight]
  by_cases h2 : k + m < 384
  ·rw [if_pos (by omega), bitv_tb, show ((k : Int) - -(m : Int)).toNat = m + k by omega]
  ·rw [if_neg (by omega), Nat.testBit_lt_two_pow (Nat.lt_of_lt_of_le ha (big_le _ (by omega)))]
   rfl
 ·rw [if_neg hn]
  obtain ⟨m, rfl⟩ : ∃ m : Nat, n = (m : Int) := ⟨n.toNat, by omega⟩
  obtain ⟨b, hb, e⟩ := big_pow
  rw [Int.toNat_natCast, bitv_tb (a * 2 ^ m % big), e, Nat.testBit_mod_two_pow, ← Nat.shiftLeft_eq, Nat.testBit_shiftLeft]
  by_cases h2 : m ≤ k
  ·rw [if_pos (by omega), bitv_tb, show ((k : Int) - (m : Int)).toNat = k - m by omega]
   simp [show k < 64 * b by omega, h2]
  ·rw [if_neg (by omega)]
   simp [h2]
theorem low_step (x k : Nat) : x % 2 ^ (k + 1) = x % 2 ^ k + (x / 2 ^ k % 2) * 2 ^ k := by
 rw [Nat.pow_succ, Nat.mod_mul, Nat.mul_comm (2 ^ k)]
theorem set_bit (V k j : Nat) (hV : V < 2 ^ k) : upd (wd V) (k / 64) (bits .or .u64 (wd V (k / 64)) (IntKind.u64.wrap (2 ^ (k % 64)))) j = wd (V + 2 ^ k) j := by
 have h1 := part_word V 1 k hV
 rw [show ((1 : Nat) : Int) * 2 ^ (k % 64) = 2 ^ (k % 64) by rw [show ((1 : Nat) : Int) = 1 from rfl, Int.one_mul], Nat.one_mul] at h1
 unfold upd
 by_cases h : j = k / 64
 ·rw [if_pos h, h, h1]
 ·rw [if_neg h]
  have h2 := part_other V 1 k 1 j hV (by decide) (by omega) h
  rw [Nat.one_mul] at h2
  exact h2.symm
set_option maxHeartbeats 1000000 in
theorem shift_ref_in (a : Nat) (n : Int) (ha : a < big) (h : ¬ (384 ≤ n ∨ n ≤ -384)) (w : World) :
  Calls Tryz.prog 61 #[N a, .int .i64 n] w (Rt w (N (shv a n))) := by
 have d1 : decide (384 ≤ n) = false := decide_eq_false (by omega)
 have d2 : decide (n ≤ -384) = false := decide_eq_false (by omega)
 have CB : Hid _ := fun (k : Nat) (hk : k < 384) w => by
  have hh := bit_ref a ((k : Int) - n) w
  rw [shv_bit a n ha h k hk] at hh
  exact hh
 have HX : Hid (shv a n < big) := by
  show shv a n < big
  unfold shv
  split
  ·exact big_pos
  ·split
   ·exact Nat.lt_of_le_of_lt (Nat.div_le_self _ _) ha
   ·exact Nat.mod_lt _ big_pos
 have HN : Hid (-384 < n ∧ n < 384) := ⟨by omega, by omega⟩
 generalize shv a n = x at CB HX ⊢
 clear ha h
 go_enter Tryz.func61, Tryz.ntmps61
 go_wp2
 go_loopw [6] (fun i wr => ∃ k : Nat, k ≤ 384 ∧ i = .int .i64 k ∧ w.heap.size + 1 + 1 < wr.heap.size ∧ Rws wr [(w.heap.size, a)] ∧ Row wr (w.heap.size + 1) 6 (fun _ => 0) ∧ Row wr (w.heap.size + 1 + 1) 6 (wd (x % 2 ^ k)) ∧ Below w.heap.size w wr) (fun i _ => 384 - (RowKit.intOf i).toNat)
 case atStart =>
  refine ⟨0, by omega, rfl, by simp, ?_, ?_, ?_, ?_⟩
  ·exact (((Rws.nil w).alloc a rfl).below ((Below.refl _ _).alloc (Nat.le_refl _) _)).below ((Below.refl _ _).alloc (Nat.le_refl _) _)
  ·exact (Row.new _ _ 24 (by simp) (six_lt (f := fun _ => 0) rfl)).alloc (by simp) _
  ·exact (Row.new _ _ 24 (by simp) (six_lt (f := fun _ => 0) rfl)).congr (fun j _ => by rw [Nat.pow_zero, Nat.mod_one, wd_zero])
  ·exact (((Below.refl _ _).alloc (Nat.le_refl _) _).alloc (by simp) _).alloc (by simp; omega) _
 case round =>
  obtain ⟨k, hk, rfl, hg, hR, hZ, hS, hw⟩ := hrel
  by_cases hlt : k < 384
  ·obtain ⟨pa, a0, a1, a2, a3, a4, a5⟩ := hR.at (g := w.heap.size) (v := a) (by simp)
   have ew : IntKind.i64.wrap ((k : Int) - n) = (k : Int) - n := by have := HN.out; rw [IntKind.wrap_i64]; omega
   have HM : Hid (_ ∧ _ ∧ _ ∧ _ ∧ _) := ⟨hg, hR, hZ, hS, hw⟩
   clear hg hR hZ hS hw
   go_wp2_with fail
   refine (CB.out k hlt _).mono ?_
   rintro e wx ⟨rfl, hb⟩
   clear a0 a1 a2 a3 a4 a5 pa
   obtain ⟨hg, hR, hZ, hS, hw⟩ := HM.out
   have hR2 := hR.below hb
   have hZ2 := Row.below hb hZ (by omega)
   have hS2 := Row.below hb hS hg
   have hw2 := hw.trans (hb.mono hw.size)
   have hg2 := Nat.lt_of_lt_of_le hg hb.size
   clear hg hR hZ hS hw HM hb
   rcases Nat.mod_two_eq_zero_or_one (x / 2 ^ k) with hq | hq
   ·have hb0 : bitv x k = 0 := by unfold bitv; rw [hq]; rfl
    have HQ : Hid (x % 2 ^ (k + 1) = x % 2 ^ k) := by show _ = _; rw [low_step, hq, Nat.zero_mul, Nat.add_zero]
    rw [hb0]
    have HM : Hid (_ ∧ _ ∧ _ ∧ _ ∧ _) := ⟨hg2, hR2, hZ2, hS2, hw2⟩
    clear hq hb0 hg2 hR2 hZ2 hS2 hw2
    go_wp2
    go_roundw
    case rel =>
     obtain ⟨hg, hR, hZ, hS, hw⟩ := HM.out
     exact ⟨k + 1, by omega, by go_num, hg, hR, hZ, hS.congr (fun j _ => by rw [HQ.out]), hw⟩
    case measure => simp [RowKit.intOf] <;> omega
   ·have hb0 : bitv x k = 1 := by unfold bitv; rw [hq]; rfl
    have HQ : Hid (x % 2 ^ (k + 1) = x % 2 ^ k + 2 ^ k) := by show _ = _; rw [low_step, hq, Nat.one_mul]
    rw [hb0]
    obtain ⟨hS3, hS4⟩ := hS2 (k / 64) (by omega)
    have HM : Hid (_ ∧ _ ∧ _ ∧ _ ∧ _) := ⟨hg2, hR2, hZ2, hS2, hw2⟩
    clear hq hb0 hg2 hR2 hZ2 hS2 hw2
    go_wp2
    go_region
    go_wp2
    go_roundw
    case rel =>
     obtain ⟨hg, hR, hZ, hS, hw⟩ := HM.out
     refine ⟨k + 1, by omega, by go_num, by simpa using hg, fun g v hm => ?_, (hZ.set_other _ (by simp <;> omega)).drew, ((hS.set _).congr (fun j _ => ?_)).drew, (hw.setCell (by simp <;> omega) _).drew⟩
     ·obtain ⟨h1, h2⟩ := hR g v hm
      simp only [List.mem_singleton, Prod.mk.injEq] at hm
      exact ⟨by simpa using h1, (h2.set_other _ (by simp <;> omega)).drew⟩
     ·rw [HQ.out]
      exact set_bit _ k j (Nat.mod_lt _ (Nat.two_pow_pos _))
    case measure => simp [RowKit.intOf] <;> omega
  ·have hk6 : k = 384 := by omega
   subst hk6
   rw [show ((384 : Nat) : Int) = 384 from rfl]
   have hx : x % 2 ^ 384 = x := Nat.mod_eq_of_lt (by
    have := HX.out
    obtain ⟨m, hm, e⟩ := big_pow
    rw [e, show 64 * m = 384 by omega] at this
    exact this)
   rw [hx] at hS
   obtain ⟨s0, s1, s2, s3, s4, s5⟩ := hS.reads
   obtain ⟨z0, z1, z2, z3, z4, z5⟩ := hZ.writes
   obtain ⟨y0, y1, y2, y3, y4, y5⟩ := hZ.reads
   have HW : Hid _ := hw
   clear hZ hS hw hR hx
   go_wp2
   refine bodyPost_ret (v := N x) ?_ rfl ⟨rfl, ?_⟩
   ·simp [results, Tryz.results61, go_sem, *]
   ·exact below6 HW.out (by omega) _ _ _ _ _ _
set_option maxHeartbeats 1000000 in
theorem shift_ref_none (a : Nat) (n : Int) (h : 384 ≤ n ∨ n ≤ -384) (w : World) :
  Calls Tryz.prog 61 #[N a, .int .i64 n] w (Rt w (N 0)) := by
 by_cases h1 : 384 ≤ n
 ·have hd : decide (384 ≤ n) = true := decide_eq_true h1
  clear h
  go_enter Tryz.func61, Tryz.ntmps61
  go_wp2
  refine bodyPost_ret (v := N 0) ?_ rfl ⟨rfl, ?_⟩
  ·simp [results, Tryz.results61, go_sem, wd_zero]
  ·exact (((Below.refl _ _).alloc (Nat.le_refl _) _).alloc (by simp) _).alloc (by simp; omega) _
 ·have h2 : n ≤ -384 := by omega
  have hd : decide (384 ≤ n) = false := decide_eq_false h1
  have hd2 : decide (n ≤ -384) = true := decide_eq_true h2
  clear h h1
  go_enter Tryz.func61, Tryz.ntmps61
  go_wp2
  refine bodyPost_ret (v := N 0) ?_ rfl ⟨rfl, ?_⟩
  ·simp [results, Tryz.results61, go_sem, wd_zero]
  ·exact (((Below.refl _ _).alloc (Nat.le_refl _) _).alloc (by simp) _).alloc (by simp; omega) _
theorem shift_ref (a : Nat) (n : Int) (ha : a < big) (w : World) :
  Calls Tryz.prog 61 #[N a, .int .i64 n] w (Rt w (N (shv a n))) := by
 by_cases h : 384 ≤ n ∨ n ≤ -384
 ·have := shift_ref_none a n h w
  unfold shv
  rw [if_pos h]
  exact this
 ·exact shift_ref_in a n ha h w
/-- What is left, and what went in, when the bits from k on have been taken. -/
def dvr (a b k : Nat) : Nat := a / 2 ^ k % b
def dvq (a b k : Nat) : Nat := a / 2 ^ k / b * 2 ^ k
theorem dv_step (a b i : Nat) (hb : 0 < b) : (b ≤ 2 * dvr a b (i + 1) + a / 2 ^ i % 2 ∧ dvr a b i = 2 * dvr a b (i + 1) + a / 2 ^ i % 2 - b ∧ dvq a b i = dvq a b (i + 1) + 2 ^ i) ∨
  (2 * dvr a b (i + 1) + a / 2 ^ i % 2 < b ∧ dvr a b i = 2 * dvr a b (i + 1) + a / 2 ^ i % 2 ∧ dvq a b i = dvq a b (i + 1)) := by
 have e1 : a / 2 ^ i = 2 * (a / 2 ^ (i + 1)) + a / 2 ^ i % 2 := by
  rw [Nat.pow_succ, ← Nat.div_div_eq_div_mul]; omega
 have e2 := Nat.div_add_mod (a / 2 ^ (i + 1)) b
 have e3 := Nat.mod_lt (a / 2 ^ (i + 1)) hb
 have e4 : a / 2 ^ i % 2 < 2 := Nat.mod_lt _ (by decide)
 unfold dvr dvq
 generalize a / 2 ^ (i + 1) = A at e1 e2 e3 ⊢
 generalize ha : a / 2 ^ i = A2 at e1 e4 ⊢
 generalize hq : A / b = q at e2 ⊢
 generalize hr : A % b = r at e2 e3 ⊢
 generalize A2 % 2 = e at e1 e4 ⊢
 have e5 : A2 = 2 * r + e + b * (2 * q) := by
  rw [show b * (2 * q) = 2 * (b * q) by rw [Nat.mul_left_comm]]; omega
 have e6 : q * 2 ^ (i + 1) = 2 * q * 2 ^ i := by rw [Nat.pow_succ, ← Nat.mul_assoc, Nat.mul_comm (q * 2 ^ i), ← Nat.mul_assoc]
 rcases Nat.lt_or_ge (2 * r + e) b with h | h
 ·right
  rw [e5, Nat.add_mul_mod_self_left, Nat.mod_eq_of_lt h, Nat.add_mul_div_left _ _ hb, Nat.div_eq_of_lt h, Nat.zero_add, e6]
  exact ⟨h, rfl, rfl⟩
 ·left
  have e7 : A2 = (2 * r + e - b) + b * (2 * q + 1) := by rw [e5, Nat.mul_add]; omega
  have e8 : 2 * r + e - b < b := by omega
  rw [e7, Nat.add_mul_mod_self_left, Nat.mod_eq_of_lt e8, Nat.add_mul_div_left _ _ hb, Nat.div_eq_of_lt e8, Nat.zero_add, e6, Nat.add_mul, Nat.one_mul]
  exact ⟨h, rfl, rfl⟩
theorem dvr_lt (a b k : Nat) (hb : 0 < b) : dvr a b k < b := Nat.mod_lt _ hb
theorem dv_start (a b m : Nat) (ha : a < 2 ^ m) : dvr a b m = 0 ∧ dvq a b m = 0 := by
 unfold dvr dvq
 rw [Nat.div_eq_of_lt ha, Nat.zero_mod, Nat.zero_div, Nat.zero_mul]
 exact ⟨rfl, rfl⟩
theorem dv_end (a b : Nat) : dvr a b 0 = a % b ∧ dvq a b 0 = a / b := by
 unfold dvr dvq
 simp
theorem dvq_or (a b i : Nat) : dvq a b (i + 1) + 2 ^ i = 2 ^ i ||| dvq a b (i + 1) := by
 unfold dvq
 have h := Nat.shiftLeft_add_eq_or_of_lt (b := 2 ^ i) (i := i + 1) (Nat.pow_lt_pow_right (by decide) (Nat.lt_succ_self i)) (a / 2 ^ (i + 1) / b)
 rw [Nat.shiftLeft_eq] at h
 rw [h, Nat.or_comm]
theorem or_other (V p j : Nat) (hj : j ≠ p / 64) : wd (2 ^ p ||| V) j = wd V j := by
 rw [wd_shr, wd_shr]
 congr 1
 apply Nat.eq_of_testBit_eq
 intro i
 simp only [Nat.testBit_or, Nat.testBit_mod_two_pow, Nat.testBit_shiftRight, Nat.testBit_two_pow]
 by_cases hi : i < 64
 ·have : ¬ p = 64 * j + i := by omega
  simp [this]
 ·simp [hi]
theorem or_word (V p : Nat) : bits .or .u64 (wd V (p / 64)) (IntKind.u64.wrap (2 ^ (p % 64))) = wd (2 ^ p ||| V) (p / 64) := by
 have h1 := part_bits V 1 p
 have h2 := wrap_shl 1 (p % 64)
 rw [show ((1 : Nat) : Int) * 2 ^ (p % 64) = 2 ^ (p % 64) by rw [show ((1 : Nat) : Int) = 1 from rfl, Int.one_mul]] at h2
 rw [h2, wd_shr, wd_shr, show 2 ^ p = 1 <<< p by rw [Nat.shiftLeft_eq, Nat.one_mul], ← h1]
 exact bits_or_u64_nat _ _ (Nat.mod_lt _ (by decide)) (Nat.mod_lt _ (by decide))
theorem set_or (V p j : Nat) : upd (wd V) (p / 64) (bits .or .u64 (wd V (p / 64)) (IntKind.u64.wrap (2 ^ (p % 64)))) j = wd (2 ^ p ||| V) j := by
 unfold upd
 by_cases h : j = p / 64
 ·rw [if_pos h, h, or_word]
 ·rw [if_neg h, or_other V p j h]
/-- The lowest bit laid into an even number. -/
theorem low_bit (r e : Nat) (he : e < 2) (j : Nat) : upd (wd ((r + r) % big)) 0 (bits .or .u64 (wd ((r + r) % big) 0) (e : Int)) j = wd ((r + r) % big + e) j := by
 have hev : (r + r) % big = ((r + r) % big / 2) * 2 ^ 1 := by
  have : (r + r) % big % 2 = 0 := by
   obtain ⟨n, hn, eb⟩ := big_pow
   rw [eb, show 64 * n = 64 * n - 1 + 1 by omega, Nat.pow_succ, Nat.mod_mul_left_mod]
   omega
  omega
 generalize (r + r) % big / 2 = d at hev
 rw [hev]
 have hor : d * 2 ^ 1 + e = d <<< 1 ||| e := by
  rw [← Nat.shiftLeft_eq, Nat.shiftLeft_add_eq_or_of_lt (by omega)]
 rw [hor, ← Nat.shiftLeft_eq]
 unfold upd
 by_cases h : j = 0
 ·subst h
  rw [if_pos rfl]
  rw [wd_shr, wd_shr]
  have e1 : (d <<< 1 ||| e) >>> (64 * 0) % 2 ^ 64 = (d <<< 1 >>> (64 * 0) % 2 ^ 64) ||| e := by
   apply Nat.eq_of_testBit_eq
   intro i
   simp only [Nat.testBit_or, Nat.testBit_mod_two_pow, Nat.testBit_shiftRight]
   by_cases hi : i < 64
   ·simp [hi]
   ·have : e.testBit i = false := Nat.testBit_lt_two_pow (Nat.lt_of_lt_of_le he (by
     calc 2 = 2 ^ 1 := rfl
      _ ≤ 2 ^ i := Nat.pow_le_pow_right (by decide) (by omega)))
    simp [hi, this]
  rw [e1]
  exact bits_or_u64_nat _ _ (Nat.mod_lt _ (by decide)) (by omega)
 ·rw [if_neg h, wd_shr, wd_shr]
  congr 1
  apply Nat.eq_of_testBit_eq
  intro i
  simp only [Nat.testBit_or, Nat.testBit_mod_two_pow, Nat.testBit_shiftRight]
  have : e.testBit (64 * j + i) = false := Nat.testBit_lt_two_pow (Nat.lt_of_lt_of_le he (by
   calc 2 = 2 ^ 1 := rfl
    _ ≤ 2 ^ (64 * j + i) := Nat.pow_le_pow_right (by decide) (by omega)))
  simp [this]
/-- The top bit. -/
theorem top_one (r : Nat) (hr : r < big) : (wd r 5 / 9223372036854775808 == 1) = decide (big ≤ 2 * r) := by
 obtain ⟨n, hn, eb⟩ := big_pow
 obtain ⟨m, hm⟩ : ∃ m : Nat, m = 5 := ⟨5, rfl⟩
 rw [eb] at hr ⊢
 rw [← hm]
 have e0 : (18446744073709551616 : Nat) = 2 ^ 64 := by decide
 have e2 : 2 ^ (64 * n) = 2 ^ (64 * m) * 18446744073709551616 := by
  rw [e0, ← Nat.pow_add, show 64 * m + 64 = 64 * n by omega]
 rw [e2] at hr ⊢
 have e1 : r / 2 ^ (64 * m) < 18446744073709551616 := Nat.div_lt_of_lt_mul hr
 unfold wd
 rw [Nat.mod_eq_of_lt e1]
 have h1 := Nat.div_add_mod r (2 ^ (64 * m))
 have h2 := Nat.mod_lt r (Nat.two_pow_pos (64 * m))
 clear e0 e2 eb hn hr
 generalize hA : r / 2 ^ (64 * m) = A at h1 e1 ⊢
 generalize r % 2 ^ (64 * m) = B at h1 h2
 generalize 2 ^ (64 * m) = M at h1 h2 ⊢
 have hi : ((A : Nat) : Int) / 9223372036854775808 = ((A / 9223372036854775808 : Nat) : Int) := by omega
 rw [hi]
 obtain ⟨H, hH⟩ : ∃ H : Nat, H = 9223372036854775808 := ⟨_, rfl⟩
 have hH2 : 18446744073709551616 = 2 * H := by omega
 rw [hH2, ← hH, Nat.mul_left_comm]
 by_cases c : H ≤ A
 ·have hd : A / H = 1 := by rw [hH]; omega
  have hm : M * H ≤ M * A := Nat.mul_le_mul_left _ c
  rw [hd, decide_eq_true (by omega)]
  rfl
 ·have hd : A / H = 0 := Nat.div_eq_of_lt (by omega)
  have hm : M * (A + 1) ≤ M * H := Nat.mul_le_mul_left _ (by omega)
  rw [Nat.mul_add, Nat.mul_one] at hm
  rw [hd, decide_eq_false (by omega)]
  rfl
end Go.Proofs.YtacicklddhehaaaGreatDoor
end
section
namespace Go.Proofs.YtacicklddhehaaaGreatDoor
open Go.RowKit
section
variable {P : Program} {ops : Array Oper} {ks : List Kind} {a₀ : Act} {w₀ : World} {Q : Exit → Act → World → Prop}
theorem none_ready {l : Array Bool} (hl : ∀ i, i < ops.size → l.getD i false = true) : Region.ready .any ops l = [] := by
 refine List.eq_nil_iff_forall_not_mem.2 fun i hi => ?_
 obtain ⟨h1, o, ho, _⟩ := mem_ready.1 hi
 have h2 := hl i (Array.getElem?_eq_some_iff.1 ho).1
 rcases Nat.lt_or_ge i l.size with h' | h'
 ·simp [h'] at h1 h2
  rw [h1] at h2
  cases h2
 ·simp [Array.getElem?_eq_none h'] at h2
theorem any_done {l : Array Bool} {a : Act} {w : World} (hr : Region.ready .any ops l = []) (h : Q .normal a w) : ∀ fuel, wpAny P .any ops Q fuel l a w
 | 0 => ⟨hr, h⟩
 | _ + 1 => ⟨fun _ => h, by rw [hr]; simp⟩
set_option maxHeartbeats 1000000 in
theorem any_last {n p : Nat} {op : Oper} (hO : Orderly ops ks n) (hn : n = a₀.tmps.size) (hL : LaidOk ks ks) {S : World → Prop} (hS : ∀ w, Below w₀.heap.size w₀ w → S w)
  (hp : ops[p]? = some op) (hlen : p + 1 = ops.size) (hdst : op.dst = none) (hkp : ks[p]? = some .gone) (hwt : ∀ j, j < p → waits op j = true)
  (hops : yD P ops S (fun J => yB J 0 ops.toList ks a₀) (ops.toList.take p) ks)
  (hlast : ∀ J w l, Mem ks w₀ l J w → (∀ i, i < p → l.getD i false = true) → ∀ K' : Act → World → Prop, (∀ a w, Q .normal a w → K' a w) →
   if Region.wanted op (yielded ops (yB J 0 ops.toList ks a₀).tmps) = true then Oper.wp P op (yB J 0 ops.toList ks a₀) w K' Q else K' ((yB J 0 ops.toList ks a₀).put op.dst undef) w) :
  ∀ (fuel : Nat) (l : Array Bool) (J : Nat → Nat) (a : Act) (w : World), l.size = ops.size → l.toList.count false ≤ fuel → l.getD p true = false → Agree ops ks a₀ l J a → Mem ks w₀ l J w → wpAny P .any ops Q fuel l a w := by
 intro fuel
 induction fuel with
 | zero =>
  intro l J a w hsz hc hpu hA hM
  have h1 := count_set hpu
  omega
 | succ fuel ih =>
  intro l J a w hsz hc hpu hA hM
  refine ⟨fun hr => ?_, fun i hi => ?_⟩
  ·exfalso
   have hall := all_listed hO hsz hr p (by omega)
   rw [(getD_same hpu).1] at hall
   cases hall
  ·obtain ⟨hun, o, ho, hedge⟩ := mem_ready.1 hi
   have hilt : i < ops.size := (Array.getElem?_eq_some_iff.1 ho).1
   by_cases hip : i = p
   ·subst hip
    rw [hp] at ho
    injection ho with ho
    subst ho
    have hoth : ∀ j, j < i → l.getD j false = true := fun j hj => waits_spec (hwt j hj) hedge
    have hwh : a = yB J 0 ops.toList ks a₀ := by
     have ht : a.tmps = (yB J 0 ops.toList ks a₀).tmps := Array.ext_getElem? fun d =>
      hA.slots d (fun j oj hj hd => by
       have hjl := (Array.getElem?_eq_some_iff.1 hj).1
       rcases Nat.lt_or_ge j i with h' | h'
       ·exact hoth j h'
       ·have : j = i := by omega
        subst this
        rw [hp] at hj
        injection hj with hj
        subst hj
        rw [hdst] at hd
        cases hd)
     have hd : a.defers = (yB J 0 ops.toList ks a₀).defers := by rw [hA.defers, fill_defers]
     cases a
     cases hf : yB J 0 ops.toList ks a₀
     rw [hf] at ht hd
     simp only at ht hd
     rw [ht, hd]
    refine wpOp_step hp (fun K' hK => ?_)
    rw [hwh]
    refine hlast J w l hM hoth K' (fun a' w' hq => hK a' w' (any_done (none_ready (fun j hj => ?_)) hq fuel))
    rcases Nat.lt_or_ge j i with h' | h'
    ·exact getD_true (hoth j h')
    ·have : j = i := by omega
     subst this
     exact (getD_same hun).2
   ·obtain ⟨k, hk⟩ := kind_at hO ho
    have hok := hops.at (by rw [List.getElem?_take, if_pos (by omega)]; simpa using ho) hk
    obtain ⟨he, hw⟩ := hA.sees hO ho hedge
    have hc' := count_set hun
    have hpu' : (l.setIfInBounds i true).getD p true = false := by rw [getD_set_ne true hip]; exact hpu
    have next : ∀ (J' : Nat → Nat) (w' : World), (∀ j, j ≠ i → J' j = J j) → Mem ks w₀ (l.setIfInBounds i true) J' w' → wpAny P .any ops Q fuel (l.setIfInBounds i true) (a.put o.dst (k.val J' i)) w' := fun J' w' hJ hM' =>
     ih _ J' _ w' (by simp [hsz]) (by omega) hpu' (hA.step hO hn ho hk hJ) hM'
    refine wpOp_step ho (fun K' hK => ?_)
    rw [hw]
    cases k using Kind.each with
    | q v =>
     obtain ⟨h1, h2⟩ := hok J
     rw [if_pos h1]
     unfold Oper.wp
     rw [he, h2 w (hS w hM.below)]
     exact hK _ _ (next J w (fun _ _ => rfl) (hM.still (Below.refl _ _) hk (fun _ _ h => by cases h) (fun _ _ _ h => by cases h)))
    | gone =>
     rw [if_neg (by rw [hok J]; decide)]
     exact hK _ _ (next J w (fun _ _ => rfl) (hM.still (Below.refl _ _) hk (fun _ _ h => by cases h) (fun _ _ _ h => by cases h)))
    | call v =>
     obtain ⟨h1, h2⟩ := hok J
     rw [if_pos h1]
     obtain ⟨f, args, h3, h4⟩ := h2 w (hS w hM.below)
     unfold Oper.wp
     rw [he, h3]
     refine Calls.mono h4 ?_
     rintro e w' ⟨rfl, hb⟩
     exact hK _ _ (next J w' (fun _ _ => rfl) (hM.still hb hk (fun _ _ h => by cases h) (fun _ _ _ h => by cases h)))
    | made zs t =>
     obtain ⟨h1, h2⟩ := hok J
     rw [if_pos h1]
     unfold Oper.wp
     rw [he, h2 w]
     have := next _ _ (fun j hj => if_neg hj) (hM.make hk hun)
     simp only [Kind.val, if_pos] at this
     exact hK _ _ this
    | laid j zs cs =>
     obtain ⟨h1, h2, h3, h4⟩ := hok J
     rw [if_pos h1]
     have hli : l.getD j false = true := waits_spec (hO.laid ho hk) hedge
     obtain ⟨hr, hM'⟩ := hM.lay hO hL ho hk h3 hun hli
     unfold Oper.wp
     rw [he, h4 w hr]
     exact hK _ _ (next J _ (fun _ _ => rfl) hM')
/-- The law, the last operation left to the walk. -/
theorem region_last {id : Nat} {a : Act} {w : World} (hm : P.follows .mixedOrders = true) (ks : List Kind) (S : World → Prop) (F : (Nat → Nat) → Act) {p : Nat} (op : Oper)
  (hF : ∀ J, yB J 0 ops.toList ks a = F J) (hor : orderly ops ks a.tmps.size = true) (hL : LaidOk ks ks) (hS : ∀ w', Below w.heap.size w w' → S w')
  (hp : ops[p]? = some op) (hlen : p + 1 = ops.size) (hdst : op.dst = none) (hkp : ks[p]? = some .gone) (hwt : ((List.range p).all fun j => waits op j) = true)
  (hops : yD P ops S F (ops.toList.take p) ks)
  (hlast : ∀ J w' l, Mem ks w l J w' → (∀ i, i < p → l.getD i false = true) → ∀ K' : Act → World → Prop, Hid (∀ a w, Q .normal a w → K' a w) →
   if Region.wanted op (yielded ops (F J).tmps) = true then Oper.wp P op (F J) w' K' Q else K' ((F J).put op.dst undef) w') : (Code.region id ops true).wp P Q a w := by
 obtain rfl : (fun J => yB J 0 ops.toList ks a) = F := funext hF
 have none_listed : ∀ i, (Array.replicate ops.size false).getD i false = false := fun i => by
  rcases Nat.lt_or_ge i ops.size with h | h <;> simp [h]
 refine wp_region_any hm (any_last (Orderly.of hor) rfl hL hS hp hlen hdst hkp (fun j hj => List.all_eq_true.1 hwt j (List.mem_range.2 hj)) hops (fun J w' l h1 h2 K' hK => hlast J w' l h1 h2 K' hK) ops.size _ (fun _ => 0) a w.drew (by simp) (by simp) (by simp [show p < ops.size by omega]) ⟨rfl, rfl, fun d hd => ?_⟩ ?_)
 ·have hno : ∀ o' ∈ ops.toList, o'.dst ≠ some d := fun o' ho' hd' => by
   obtain ⟨j, hj, ej⟩ := List.getElem_of_mem ho'
   have := hd j o' (by rw [← Array.getElem?_toList, List.getElem?_eq_getElem hj, ej]) hd'
   rw [none_listed] at this
   cases this
  rw [fill_other _ d 0 _ _ _ hno]
 ·refine ⟨(Below.refl _ _).drew, ?_, ?_, ?_, ?_, ?_⟩
  ·intro i zs t _ h; rw [none_listed] at h; cases h
  ·intro i zs t _ h; rw [none_listed] at h; cases h
  ·intro s i zs cs _ h; rw [none_listed] at h; cases h
  ·intro s i zs cs _ h; rw [none_listed] at h; cases h
  ·intro i j zs t zs' t' _ _ h; rw [none_listed] at h; cases h
end
end Go.Proofs.YtacicklddhehaaaGreatDoor
end
