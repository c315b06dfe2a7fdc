/- The leading divisor: powersOf, walked with contracts -/
import Derived.Test.YtoagmdgmbkpghaaL4
import Derived.Test.YtoagmdgmbkpghaaPR
namespace Go.Proofs.Ytoagmdgmbkpghaa
open Go.RowKit
namespace Rg

abbrev zero12 : List Value := [.int .u64 0, .int .u64 0, .int .u64 0, .int .u64 0, .int .u64 0, .int .u64 0, .int .u64 0, .int .u64 0, .int .u64 0, .int .u64 0, .int .u64 0, .int .u64 0]
abbrev lev (b L : Nat) : Value := .agg (lec b (wd L)).toArray
theorem ex_madeL {ρ : Operand → Value} {o : Oper} {w : World} (ho : o.op = .alloc 52) :
    (execOp ρ o).run Try.prog w = .ok (.value (.pointer (some ⟨w.heap.size, 0, none⟩))) (w.alloc (.cells zero12.toArray 52)) := by
  simp only [execOp, ho]
  go_simp
theorem ex_buildL {ρ : Operand → Value} {o : Oper} {x : Operand} {b z : Nat} {w : World} (hz : z = 0) (ho : o.op = .build 52 #[(0, x)]) (hx : ρ x = N b) : (execOp ρ o).run Try.prog w = .ok (.value (lev b z)) w := by
  subst hz
  simp only [execOp, ho]
  go_simp
  simp [wd_zero]
theorem ex_laidL {ρ : Operand → Value} {o : Oper} {x y : Operand} {g b L : Nat} {w : World} (hb : Blk w g zero12) (ho : o.op = .store 52 x y) (hx : ρ x = .pointer (some ⟨g, 0, none⟩)) (hy : ρ y = lev b L) :
    (execOp ρ o).run Try.prog w = .ok .skip (w.setCells g 0 (lec b (wd L))) := ex_laidT hb rfl rfl Try.sizeOf52 ho hx hy
set_option maxHeartbeats 2000000 in
set_option maxRecDepth 100000 in
theorem powersOf_gen (n l s B z L0 L1 L2 o q : Nat) (cB : Bool) (hz : z = 0) (hl : l ≤ 384) (hs : s = 384 - l)
    (cl : ∀ w, Calls Try.prog 12 #[N n] w fun e w' => e = .returned (.int .i64 ((l : Nat) : Int)) ∧ Below w.heap.size w w')
    (cb : ∀ w, Calls Try.prog 18 #[N n, .int .i64 ((s : Nat) : Int)] w fun e w' => e = .returned (N B) ∧ Below w.heap.size w w')
    (cs : ∀ w, Calls Try.prog 30 #[N 0, N B] w fun e w' => e = .returned (.tuple #[N L0, .bool cB]) ∧ Below w.heap.size w w')
    (d1 : ∀ g w, Mm w [(g, lec B (wd L0))] → Calls Try.prog 31 #[PT g 0, .int .i64 ((s : Nat) : Int)] w fun e w' => e = .returned (.tuple #[]) ∧ Mm w' [(g, lec B (wd L1))] ∧ Kp g w w')
    (co : ∀ w, Calls Try.prog 18 #[N L1, .int .i64 (-((s : Nat) : Int))] w fun e w' => e = .returned (N o) ∧ Below w.heap.size w w')
    (d2 : ∀ g w, Mm w [(g, lec B (wd L1))] → Calls Try.prog 31 #[PT g 0, .int .i64 384] w fun e w' => e = .returned (.tuple #[]) ∧ Mm w' [(g, lec B (wd L2))] ∧ Kp g w w')
    (cq : ∀ w, Calls Try.prog 18 #[N L2, .int .i64 (-((s : Nat) : Int))] w fun e w' => e = .returned (N q) ∧ Below w.heap.size w w') (w : World) :
    Calls Try.prog 14 #[N n] w fun e w' => e = .returned (.tuple #[N o, N q]) ∧ Below w.heap.size w w' := by
  have H0 : Hid (_ ∧ _) := ⟨Mm.nil w, Below.refl w.heap.size w⟩
  have CL : Hid _ := cl
  have CB : Hid _ := cb
  have CS : Hid _ := cs
  have CD1 : Hid _ := d1
  have CO : Hid _ := co
  have CD2 : Hid _ := d2
  have CQ : Hid _ := cq
  have HZ : Hid _ := hz
  clear cl cb cs d1 co d2 cq hz
  go_enter Try.func14, Try.ntmps14
  refine wp_seq ?_
  refine walk_seq 3 [.made (cells6 n) 24, .made zero6 24, .made zero6 24] (fun w' => Mm w' []) ?pre1 ?F1 ?hpre1 (fun γ => ?hF1) (by kernel_rfl) ?hL1 ?hS1 ?ho1 ?he1
  case hpre1 =>
    simp only [List.take_succ_cons, List.take_zero]
    exact rfl
  case hF1 =>
    simp only [fill, Kind.val, Act.put, List.setIfInBounds_toArray, List.set_cons_zero, List.set_cons_succ]
    exact rfl
  case hL1 => exact trivial
  case hS1 => exact fun w' hb => H0.out.1.below hb
  case ho1 =>
    refine AllOk.cons ?_ ?_
    · exact fun γ => ⟨rfl, fun w' => ex_box6 rfl rfl⟩
    refine AllOk.cons ?_ ?_
    · exact fun γ => ⟨rfl, fun w' => exec_made6 rfl⟩
    refine AllOk.cons ?_ ?_
    · exact fun γ => ⟨rfl, fun w' => exec_made6 rfl⟩
    exact trivial
  intro γ w1 l hM hl
  have M1 : Mm w1 [(γ 0, cells6 n), (γ 1, zero6), (γ 2, zero6)] := H0.out.1.grow hM (Nat.le_refl _) hl [0, 1, 2] rfl (by decide)
  have B1 : Below w.heap.size w w1 := H0.out.2.trans (hM.below.mono H0.out.2.size)
  have o1_0 : Hid (w.heap.size ≤ γ 0) := Nat.le_trans H0.out.2.size (hM.fin (Nat.le_refl _) hl (i := 0) rfl).2.1
  have o1_1 : Hid (w.heap.size ≤ γ 1) := Nat.le_trans H0.out.2.size (hM.fin (Nat.le_refl _) hl (i := 1) rfl).2.1
  have o1_2 : Hid (w.heap.size ≤ γ 2) := Nat.le_trans H0.out.2.size (hM.fin (Nat.le_refl _) hl (i := 2) rfl).2.1
  clear hM hl l
  generalize γ 0 = γ1_0 at M1 o1_0 ⊢
  generalize γ 1 = γ1_1 at M1 o1_1 ⊢
  generalize γ 2 = γ1_2 at M1 o1_2 ⊢
  clear γ
  have H1 : Hid (_ ∧ _) := ⟨M1, B1⟩
  clear M1 B1
  refine rest_at (l := []) rfl ?_
  refine rest_nil ?_
  refine then_normal ?_
  refine wp_seq ?_
  refine walk_seq 4 [.quiet (N n), .call (.int .i64 ((l : Nat) : Int)), .quiet (.int .i64 ((s : Nat) : Int)), .quiet (.int .i64 ((s : Nat) : Int))] (fun w' => Mm w' [(γ1_0, cells6 n), (γ1_1, zero6), (γ1_2, zero6)]) ?pre2 ?F2 ?hpre2 (fun γ => ?hF2) (by kernel_rfl) ?hL2 ?hS2 ?ho2 ?he2
  case hpre2 =>
    simp only [List.take_succ_cons, List.take_zero]
    exact rfl
  case hF2 =>
    simp only [fill, Kind.val, Act.put, List.setIfInBounds_toArray, List.set_cons_zero, List.set_cons_succ]
    exact rfl
  case hL2 => exact trivial
  case hS2 => exact fun w' hb => H1.out.1.below hb
  case ho2 =>
    refine AllOk.cons ?_ ?_
    · exact fun γ => ⟨rfl, fun w' h => ex_load6 h 0 rfl rfl rfl rfl⟩
    refine AllOk.cons ?_ ?_
    · exact fun γ => ⟨rfl, fun w' h => ⟨12, #[N n], exec_call rfl call12 rfl (by simp only [List.map_toArray, List.map_cons, List.map_nil]; rfl), CL.out w'⟩⟩
    refine AllOk.cons ?_ ?_
    · (refine fun γ => ⟨rfl, fun w' h => ?_⟩; clear h; go_simp; rw [IntKind.wrap_i64]; omega)
    refine AllOk.cons ?_ ?_
    · exact fun γ => ⟨rfl, fun w' _ => rfl⟩
    exact trivial
  intro γ w2 l hM hl
  have M2 : Mm w2 [(γ1_0, cells6 n), (γ1_1, zero6), (γ1_2, zero6)] := H1.out.1.grow hM (Nat.le_refl _) hl [] rfl (by decide)
  have B2 : Below w.heap.size w w2 := H1.out.2.trans (hM.below.mono H1.out.2.size)
  clear hM hl l H1
  clear γ
  have H2 : Hid (_ ∧ _) := ⟨M2, B2⟩
  clear M2 B2
  refine rest_at (l := []) rfl ?_
  refine rest_nil ?_
  refine then_normal ?_
  refine wp_seq ?_
  refine walk_seq 6 [.quiet (N n), .quiet (.int .i64 ((s : Nat) : Int)), .call (N B), .quiet (lev B z), .made zero12 52, .laid 4 zero12 (lec B (wd z))] (fun w' => Mm w' [(γ1_0, cells6 n), (γ1_1, zero6), (γ1_2, zero6)]) ?pre3 ?F3 ?hpre3 (fun γ => ?hF3) (by kernel_rfl) ?hL3 ?hS3 ?ho3 ?he3
  case hpre3 =>
    simp only [List.take_succ_cons, List.take_zero]
    exact rfl
  case hF3 =>
    simp only [fill, Kind.val, Act.put, List.setIfInBounds_toArray, List.set_cons_zero, List.set_cons_succ]
    exact rfl
  case hL3 => exact ⟨⟨_, rfl⟩, trivial⟩
  case hS3 => exact fun w' hb => H2.out.1.below hb
  case ho3 =>
    refine AllOk.cons ?_ ?_
    · exact fun γ => ⟨rfl, fun w' h => ex_load6 h 0 rfl rfl rfl rfl⟩
    refine AllOk.cons ?_ ?_
    · exact fun γ => ⟨rfl, fun w' _ => rfl⟩
    refine AllOk.cons ?_ ?_
    · exact fun γ => ⟨rfl, fun w' h => ⟨18, #[N n, .int .i64 ((s : Nat) : Int)], exec_call rfl call18 rfl (by simp only [List.map_toArray, List.map_cons, List.map_nil]; rfl), CB.out w'⟩⟩
    refine AllOk.cons ?_ ?_
    · exact fun γ => ⟨rfl, fun w' _ => ex_buildL HZ.out rfl rfl⟩
    refine AllOk.cons ?_ ?_
    · exact fun γ => ⟨rfl, fun w' => ex_madeL rfl⟩
    refine AllOk.cons ?_ ?_
    · exact fun γ => ⟨rfl, rfl, rfl, fun w' h => ex_laidL h rfl rfl rfl⟩
    exact trivial
  intro γ w3 l hM hl
  have M3 : Mm w3 [(γ 4, lec B (wd z)), (γ1_0, cells6 n), (γ1_1, zero6), (γ1_2, zero6)] := H2.out.1.grow hM (Nat.le_refl _) hl [4] rfl (by decide)
  have B3 : Below w.heap.size w w3 := H2.out.2.trans (hM.below.mono H2.out.2.size)
  have o3_4 : Hid (w.heap.size ≤ γ 4) := Nat.le_trans H2.out.2.size (hM.fin (Nat.le_refl _) hl (i := 4) rfl).2.1
  clear hM hl l H2
  generalize γ 4 = γ3_4 at M3 o3_4 ⊢
  clear γ
  have H3 : Hid (_ ∧ _) := ⟨M3, B3⟩
  clear M3 B3
  refine rest_at (l := []) rfl ?_
  refine rest_nil ?_
  refine then_normal ?_
  refine wp_seq ?_
  refine walk_seq 8 [.quiet (N 0), .quiet (PT γ3_4 0), .quiet (N B), .call (.tuple #[N L0, .bool cB]), .quiet (.tuple #[N L0, .bool cB]), .quiet (N L0), .quiet (.bool cB), .quiet (PT γ3_4 6)] (fun w' => Mm w' [(γ3_4, lec B (wd z)), (γ1_0, cells6 n), (γ1_1, zero6), (γ1_2, zero6)]) ?pre4 ?F4 ?hpre4 (fun γ => ?hF4) (by kernel_rfl) ?hL4 ?hS4 ?ho4 ?he4
  case hpre4 =>
    simp only [List.take_succ_cons, List.take_zero]
    exact rfl
  case hF4 =>
    simp only [fill, Kind.val, Act.put, List.setIfInBounds_toArray, List.set_cons_zero, List.set_cons_succ]
    exact rfl
  case hL4 => exact trivial
  case hS4 => exact fun w' hb => H3.out.1.below hb
  case ho4 =>
    refine AllOk.cons ?_ ?_
    · (refine fun γ => ⟨rfl, fun w' h => ?_⟩; clear h; exact ex_zero6 rfl)
    refine AllOk.cons ?_ ?_
    · (refine fun γ => ⟨rfl, fun w' h => ?_⟩; clear h; go_simp)
    refine AllOk.cons ?_ ?_
    · exact fun γ => ⟨rfl, fun w' h => ex_load6 h 0 rfl rfl rfl rfl⟩
    refine AllOk.cons ?_ ?_
    · exact fun γ => ⟨rfl, fun w' h => ⟨30, #[N 0, N B], exec_call rfl call30 rfl (by simp only [List.map_toArray, List.map_cons, List.map_nil]; rfl), CS.out w'⟩⟩
    refine AllOk.cons ?_ ?_
    · exact fun γ => ⟨rfl, fun w' _ => rfl⟩
    refine AllOk.cons ?_ ?_
    · (refine fun γ => ⟨rfl, fun w' h => ?_⟩; clear h; go_simp)
    refine AllOk.cons ?_ ?_
    · (refine fun γ => ⟨rfl, fun w' h => ?_⟩; clear h; go_simp)
    refine AllOk.cons ?_ ?_
    · (refine fun γ => ⟨rfl, fun w' h => ?_⟩; clear h; go_simp)
    exact trivial
  intro γ w4 l hM hl
  have M4 : Mm w4 [(γ3_4, lec B (wd z)), (γ1_0, cells6 n), (γ1_1, zero6), (γ1_2, zero6)] := H3.out.1.grow hM (Nat.le_refl _) hl [] rfl (by decide)
  have B4 : Below w.heap.size w w4 := H3.out.2.trans (hM.below.mono H3.out.2.size)
  clear hM hl l H3
  clear γ
  have H4 : Hid (_ ∧ _) := ⟨M4, B4⟩
  clear M4 B4
  refine rest_at (l := [8]) rfl ?_
  refine rest_store rfl rfl rfl (ex_store6 H4.out.1 0 rfl rfl rfl rfl (Nat.le_of_ble_eq_true rfl)) ?_
  have H5 : Hid (Mm (w4.setCells γ3_4 6 (cells6 L0)) [(γ3_4, lec B (wd L0)), (γ1_0, cells6 n), (γ1_1, zero6), (γ1_2, zero6)] ∧ Below w.heap.size w (w4.setCells γ3_4 6 (cells6 L0))) := ⟨H4.out.1.put 0 (off := 6) (vs := cells6 L0) rfl (Nat.le_of_ble_eq_true rfl), below_setCells _ o3_4.out _ _ _ H4.out.2⟩
  clear H4
  generalize hgw : World.setCells _ _ _ _ = w5 at H5 ⊢
  clear hgw
  refine rest_nil ?_
  refine then_normal ?_
  refine wp_seq ?_
  refine walk_seq 1 [.quiet (.int .i64 ((s : Nat) : Int))] (fun w' => Mm w' [(γ3_4, lec B (wd L0)), (γ1_0, cells6 n), (γ1_1, zero6), (γ1_2, zero6)]) ?pre5 ?F5 ?hpre5 (fun γ => ?hF5) (by kernel_rfl) ?hL5 ?hS5 ?ho5 ?he5
  case hpre5 =>
    simp only [List.take_succ_cons, List.take_zero]
    exact rfl
  case hF5 =>
    simp only [fill, Kind.val, Act.put, List.setIfInBounds_toArray, List.set_cons_zero, List.set_cons_succ]
    exact rfl
  case hL5 => exact trivial
  case hS5 => exact fun w' hb => H5.out.1.below hb
  case ho5 =>
    refine AllOk.cons ?_ ?_
    · exact fun γ => ⟨rfl, fun w' _ => rfl⟩
    exact trivial
  intro γ w6 l hM hl
  have M6 : Mm w6 [(γ3_4, lec B (wd L0)), (γ1_0, cells6 n), (γ1_1, zero6), (γ1_2, zero6)] := H5.out.1.grow hM (Nat.le_refl _) hl [] rfl (by decide)
  have B6 : Below w.heap.size w w6 := H5.out.2.trans (hM.below.mono H5.out.2.size)
  clear hM hl l H5
  clear γ
  have H6 : Hid (_ ∧ _) := ⟨M6, B6⟩
  clear M6 B6
  refine rest_at (l := [1]) rfl ?_
  refine rest_enter (d := 22) (R := fun vv w' => vv = .tuple #[] ∧ Mm w' [(γ3_4, lec B (wd L1))] ∧ Kp γ3_4 w6 w') rfl rfl rfl (exec_call (args := #[PT γ3_4 0, .int .i64 ((s : Nat) : Int)]) rfl call31 rfl (by simp only [List.map_toArray, List.map_cons, List.map_nil]; rfl)) (Calls.mono (CD1.out γ3_4 w6 (H6.out.1.one 0 rfl)) (fun e w2 hh => ⟨_, hh.1, rfl, hh.2⟩)) ?_
  rintro _ w7 ⟨rfl, hn, hp⟩
  have H7 : Hid (Mm w7 [(γ3_4, lec B (wd L1)), (γ1_0, cells6 n), (γ1_1, zero6), (γ1_2, zero6)] ∧ Below w.heap.size w w7) := ⟨H6.out.1.change 0 rfl hp hn, Below.kp H6.out.2 hp o3_4.out H6.out.2.size⟩
  clear hn hp H6
  simp only [Act.put, List.setIfInBounds_toArray, List.set_cons_zero, List.set_cons_succ]
  refine rest_nil ?_
  refine then_normal ?_
  refine wp_seq ?_
  refine walk_seq 5 [.quiet (PT γ3_4 6), .quiet (N L1), .quiet (.int .i64 ((s : Nat) : Int)), .quiet (.int .i64 (-((s : Nat) : Int))), .call (N o)] (fun w' => Mm w' [(γ3_4, lec B (wd L1)), (γ1_0, cells6 n), (γ1_1, zero6), (γ1_2, zero6)]) ?pre6 ?F6 ?hpre6 (fun γ => ?hF6) (by kernel_rfl) ?hL6 ?hS6 ?ho6 ?he6
  case hpre6 =>
    simp only [List.take_succ_cons, List.take_zero]
    exact rfl
  case hF6 =>
    simp only [fill, Kind.val, Act.put, List.setIfInBounds_toArray, List.set_cons_zero, List.set_cons_succ]
    exact rfl
  case hL6 => exact trivial
  case hS6 => exact fun w' hb => H7.out.1.below hb
  case ho6 =>
    refine AllOk.cons ?_ ?_
    · (refine fun γ => ⟨rfl, fun w' h => ?_⟩; clear h; go_simp)
    refine AllOk.cons ?_ ?_
    · exact fun γ => ⟨rfl, fun w' h => ex_load6 h 0 rfl rfl rfl rfl⟩
    refine AllOk.cons ?_ ?_
    · exact fun γ => ⟨rfl, fun w' _ => rfl⟩
    refine AllOk.cons ?_ ?_
    · (refine fun γ => ⟨rfl, fun w' h => ?_⟩; clear h; go_simp; rw [IntKind.wrap_i64]; omega)
    refine AllOk.cons ?_ ?_
    · exact fun γ => ⟨rfl, fun w' h => ⟨18, #[N L1, .int .i64 (-((s : Nat) : Int))], exec_call rfl call18 rfl (by simp only [List.map_toArray, List.map_cons, List.map_nil]; rfl), CO.out w'⟩⟩
    exact trivial
  intro γ w8 l hM hl
  have M8 : Mm w8 [(γ3_4, lec B (wd L1)), (γ1_0, cells6 n), (γ1_1, zero6), (γ1_2, zero6)] := H7.out.1.grow hM (Nat.le_refl _) hl [] rfl (by decide)
  have B8 : Below w.heap.size w w8 := H7.out.2.trans (hM.below.mono H7.out.2.size)
  clear hM hl l H7
  clear γ
  have H8 : Hid (_ ∧ _) := ⟨M8, B8⟩
  clear M8 B8
  refine rest_at (l := [5]) rfl ?_
  refine rest_store rfl rfl rfl (ex_store6 H8.out.1 2 rfl rfl rfl rfl (Nat.le_of_ble_eq_true rfl)) ?_
  have H9 : Hid (Mm (w8.setCells γ1_1 0 (cells6 o)) [(γ3_4, lec B (wd L1)), (γ1_0, cells6 n), (γ1_1, cells6 o), (γ1_2, zero6)] ∧ Below w.heap.size w (w8.setCells γ1_1 0 (cells6 o))) := ⟨H8.out.1.put 2 (off := 0) (vs := cells6 o) rfl (Nat.le_of_ble_eq_true rfl), below_setCells _ o1_1.out _ _ _ H8.out.2⟩
  clear H8
  generalize hgw : World.setCells _ _ _ _ = w9 at H9 ⊢
  clear hgw
  refine rest_nil ?_
  refine then_normal ?_
  refine wp_seq ?_
  refine walk_seq 0 [] (fun w' => Mm w' [(γ3_4, lec B (wd L1)), (γ1_0, cells6 n), (γ1_1, cells6 o), (γ1_2, zero6)]) ?pre7 ?F7 ?hpre7 (fun γ => ?hF7) (by kernel_rfl) ?hL7 ?hS7 ?ho7 ?he7
  case hpre7 =>
    simp only [List.take_zero]
    exact rfl
  case hF7 =>
    simp only [fill]
    exact rfl
  case hL7 => exact trivial
  case hS7 => exact fun w' hb => H9.out.1.below hb
  case ho7 =>
    exact trivial
  intro γ w10 l hM hl
  have M10 : Mm w10 [(γ3_4, lec B (wd L1)), (γ1_0, cells6 n), (γ1_1, cells6 o), (γ1_2, zero6)] := H9.out.1.grow hM (Nat.le_refl _) hl [] rfl (by decide)
  have B10 : Below w.heap.size w w10 := H9.out.2.trans (hM.below.mono H9.out.2.size)
  clear hM hl l H9
  clear γ
  have H10 : Hid (_ ∧ _) := ⟨M10, B10⟩
  clear M10 B10
  refine rest_at (l := [0]) rfl ?_
  refine rest_enter (d := 28) (R := fun vv w' => vv = .tuple #[] ∧ Mm w' [(γ3_4, lec B (wd L2))] ∧ Kp γ3_4 w10 w') rfl rfl rfl (exec_call (args := #[PT γ3_4 0, .int .i64 384]) rfl call31 rfl (by simp only [List.map_toArray, List.map_cons, List.map_nil]; rfl)) (Calls.mono (CD2.out γ3_4 w10 (H10.out.1.one 0 rfl)) (fun e w2 hh => ⟨_, hh.1, rfl, hh.2⟩)) ?_
  rintro _ w11 ⟨rfl, hn, hp⟩
  have H11 : Hid (Mm w11 [(γ3_4, lec B (wd L2)), (γ1_0, cells6 n), (γ1_1, cells6 o), (γ1_2, zero6)] ∧ Below w.heap.size w w11) := ⟨H10.out.1.change 0 rfl hp hn, Below.kp H10.out.2 hp o3_4.out H10.out.2.size⟩
  clear hn hp H10
  simp only [Act.put, List.setIfInBounds_toArray, List.set_cons_zero, List.set_cons_succ]
  refine rest_nil ?_
  refine then_normal ?_
  refine wp_seq ?_
  refine walk_seq 5 [.quiet (PT γ3_4 6), .quiet (N L2), .quiet (.int .i64 ((s : Nat) : Int)), .quiet (.int .i64 (-((s : Nat) : Int))), .call (N q)] (fun w' => Mm w' [(γ3_4, lec B (wd L2)), (γ1_0, cells6 n), (γ1_1, cells6 o), (γ1_2, zero6)]) ?pre8 ?F8 ?hpre8 (fun γ => ?hF8) (by kernel_rfl) ?hL8 ?hS8 ?ho8 ?he8
  case hpre8 =>
    simp only [List.take_succ_cons, List.take_zero]
    exact rfl
  case hF8 =>
    simp only [fill, Kind.val, Act.put, List.setIfInBounds_toArray, List.set_cons_zero, List.set_cons_succ]
    exact rfl
  case hL8 => exact trivial
  case hS8 => exact fun w' hb => H11.out.1.below hb
  case ho8 =>
    refine AllOk.cons ?_ ?_
    · (refine fun γ => ⟨rfl, fun w' h => ?_⟩; clear h; go_simp)
    refine AllOk.cons ?_ ?_
    · exact fun γ => ⟨rfl, fun w' h => ex_load6 h 0 rfl rfl rfl rfl⟩
    refine AllOk.cons ?_ ?_
    · exact fun γ => ⟨rfl, fun w' _ => rfl⟩
    refine AllOk.cons ?_ ?_
    · (refine fun γ => ⟨rfl, fun w' h => ?_⟩; clear h; go_simp; rw [IntKind.wrap_i64]; omega)
    refine AllOk.cons ?_ ?_
    · exact fun γ => ⟨rfl, fun w' h => ⟨18, #[N L2, .int .i64 (-((s : Nat) : Int))], exec_call rfl call18 rfl (by simp only [List.map_toArray, List.map_cons, List.map_nil]; rfl), CQ.out w'⟩⟩
    exact trivial
  intro γ w12 l hM hl
  have M12 : Mm w12 [(γ3_4, lec B (wd L2)), (γ1_0, cells6 n), (γ1_1, cells6 o), (γ1_2, zero6)] := H11.out.1.grow hM (Nat.le_refl _) hl [] rfl (by decide)
  have B12 : Below w.heap.size w w12 := H11.out.2.trans (hM.below.mono H11.out.2.size)
  clear hM hl l H11
  clear γ
  have H12 : Hid (_ ∧ _) := ⟨M12, B12⟩
  clear M12 B12
  refine rest_at (l := [5]) rfl ?_
  refine rest_store rfl rfl rfl (ex_store6 H12.out.1 3 rfl rfl rfl rfl (Nat.le_of_ble_eq_true rfl)) ?_
  have H13 : Hid (Mm (w12.setCells γ1_2 0 (cells6 q)) [(γ3_4, lec B (wd L2)), (γ1_0, cells6 n), (γ1_1, cells6 o), (γ1_2, cells6 q)] ∧ Below w.heap.size w (w12.setCells γ1_2 0 (cells6 q))) := ⟨H12.out.1.put 3 (off := 0) (vs := cells6 q) rfl (Nat.le_of_ble_eq_true rfl), below_setCells _ o1_2.out _ _ _ H12.out.2⟩
  clear H12
  generalize hgw : World.setCells _ _ _ _ = w13 at H13 ⊢
  clear hgw
  refine rest_nil ?_
  refine then_normal ?_
  refine wp_seq ?_
  refine walk_put2 (by kernel_rfl) 2 [1] [.quiet (N o), .quiet (N q)] (fun w' => Mm w' [(γ3_4, lec B (wd L2)), (γ1_0, cells6 n), (γ1_1, cells6 o), (γ1_2, cells6 q)]) ?pre9 ?F9 _ ?hpre9 (fun γ => ?hF9) (by kernel_rfl) rfl ?hL9 ?hS9 ?ho9 ?hla9 ?he9
  case hpre9 =>
    simp only [List.take_succ_cons, List.take_zero]
    exact rfl
  case hF9 =>
    simp only [fill, Kind.val, Act.put, List.setIfInBounds_toArray, List.set_cons_zero, List.set_cons_succ]
    exact rfl
  case hL9 => exact trivial
  case hS9 => exact fun w' hb => H13.out.1.below hb
  case ho9 =>
    refine AllOk.cons ?_ ?_
    · exact fun γ => ⟨rfl, fun w' h => ex_load6 h 2 rfl rfl rfl rfl⟩
    refine AllOk.cons ?_ ?_
    · exact fun γ => ⟨rfl, fun w' h => ex_load6 h 3 rfl rfl rfl rfl⟩
    exact trivial
  case hla9 => exact rfl
  intro γ w14 l hM hl
  have M14 : Mm w14 [(γ3_4, lec B (wd L2)), (γ1_0, cells6 n), (γ1_1, cells6 o), (γ1_2, cells6 q)] := H13.out.1.grow hM (Nat.le_refl _) hl [] rfl (by decide)
  have B14 : Below w.heap.size w w14 := H13.out.2.trans (hM.below.mono H13.out.2.size)
  clear hM hl l H13
  clear γ
  have H14 : Hid (_ ∧ _) := ⟨M14, B14⟩
  clear M14 B14
  have H15 : Hid (Mm (w14.setCells γ1_1 0 (cells6 o)) [(γ3_4, lec B (wd L2)), (γ1_0, cells6 n), (γ1_1, cells6 o), (γ1_2, cells6 q)] ∧ Below w.heap.size w (w14.setCells γ1_1 0 (cells6 o))) := ⟨H14.out.1.put 2 (off := 0) (vs := cells6 o) rfl (Nat.le_of_ble_eq_true rfl), below_setCells _ o1_1.out _ _ _ H14.out.2⟩
  refine ⟨_, ex_store6 H14.out.1 2 rfl rfl rfl rfl (Nat.le_of_ble_eq_true rfl), ⟨⟨_, _, rfl, rfl, rfl, ex_load6 H15.out.1 3 rfl rfl rfl rfl⟩, trivial⟩, ?_⟩
  clear H14
  generalize hgw : World.setCells _ _ _ _ = w15 at H15 ⊢
  clear hgw
  refine rest_at (l := [3]) rfl ?_
  refine rest_store rfl rfl rfl (ex_store6 H15.out.1 3 rfl rfl rfl rfl (Nat.le_of_ble_eq_true rfl)) ?_
  have H16 : Hid (Mm (w15.setCells γ1_2 0 (cells6 q)) [(γ3_4, lec B (wd L2)), (γ1_0, cells6 n), (γ1_1, cells6 o), (γ1_2, cells6 q)] ∧ Below w.heap.size w (w15.setCells γ1_2 0 (cells6 q))) := ⟨H15.out.1.put 3 (off := 0) (vs := cells6 q) rfl (Nat.le_of_ble_eq_true rfl), below_setCells _ o1_2.out _ _ _ H15.out.2⟩
  clear H15
  generalize hgw : World.setCells _ _ _ _ = w16 at H16 ⊢
  clear hgw
  refine rest_nil ?_
  refine then_normal ?_
  refine wp_ret ?_
  repeat (first | refine then_ret ?_ | refine block_ret ?_)
  have c0 := H16.out.1.get 2 rfl 0 rfl
  have c1 := H16.out.1.get 2 rfl 1 rfl
  have c2 := H16.out.1.get 2 rfl 2 rfl
  have c3 := H16.out.1.get 2 rfl 3 rfl
  have c4 := H16.out.1.get 2 rfl 4 rfl
  have c5 := H16.out.1.get 2 rfl 5 rfl
  have c1_0 := H16.out.1.get 3 rfl 0 rfl
  have c1_1 := H16.out.1.get 3 rfl 1 rfl
  have c1_2 := H16.out.1.get 3 rfl 2 rfl
  have c1_3 := H16.out.1.get 3 rfl 3 rfl
  have c1_4 := H16.out.1.get 3 rfl 4 rfl
  have c1_5 := H16.out.1.get 3 rfl 5 rfl
  refine bodyPost_ret (v := .tuple #[N o, N q]) (by simp [results, Try.results14, go_sem, *]) rfl ?_
  exact ⟨rfl, H16.out.2⟩
end Rg
end Go.Proofs.Ytoagmdgmbkpghaa
