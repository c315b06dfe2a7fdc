/- The law ModulusKnown, walked with contracts -/
import Derived.Test.YtoagmdgmbkpghabDoorL9
import Derived.Test.YtoagmdgmbkpghabDoorPR
import Derived.Test.YtoagmdgmbkpghabDoorF2
namespace Go.Proofs.YtoagmdgmbkpghabDoor
open Go.RowKit
namespace Rg

def tpL : ByteArray := ⟨#[49, 97, 48, 49, 49, 49, 101, 97, 51, 57, 55, 102, 101, 54, 57, 97, 52, 98, 49, 98, 97, 55, 98, 54, 52, 51, 52, 98, 97, 99, 100, 55, 54, 52, 55, 55, 52, 98, 56, 52, 102, 51, 56, 53, 49, 50, 98, 102, 54, 55, 51, 48, 100, 50, 97, 48, 102, 54, 98, 48, 102, 54, 50, 52, 49, 101, 97, 98, 102, 102, 102, 101, 98, 49, 53, 51, 102, 102, 102, 102, 98, 57, 102, 101, 102, 102, 102, 102, 102, 102, 102, 102, 97, 97, 97, 98]⟩
def trL : ByteArray := ⟨#[55, 51, 101, 100, 97, 55, 53, 51, 50, 57, 57, 100, 55, 100, 52, 56, 51, 51, 51, 57, 100, 56, 48, 56, 48, 57, 97, 49, 100, 56, 48, 53, 53, 51, 98, 100, 97, 52, 48, 50, 102, 102, 102, 101, 53, 98, 102, 101, 102, 102, 102, 102, 102, 102, 102, 102, 48, 48, 48, 48, 48, 48, 48, 49]⟩
def bdN : Nat := 9850501549098619803069760025035903451269934817616361666987073351061430442874302652853566563721228910201656997576705
theorem bdN_0 : wd bdN 0 = 1 := by decide +kernel
theorem bdN_1 : wd bdN 1 = 0 := by decide +kernel
theorem bdN_2 : wd bdN 2 = 0 := by decide +kernel
theorem bdN_3 : wd bdN 3 = 0 := by decide +kernel
theorem bdN_4 : wd bdN 4 = 0 := by decide +kernel
theorem bdN_5 : wd bdN 5 = 4611686018427387904 := by decide +kernel

theorem bdN_lt : bdN < big := by decide +kernel
theorem bdN_bad : ¬ 4 * bdN < big := by decide +kernel
theorem ex_build_bd {ρ : Operand → Value} {o : Oper} {w : World} (ho : o.op = .build 24 #[(0, .const (.int .u64 1)), (1, .const (.int .u64 0)), (2, .const (.int .u64 0)), (3, .const (.int .u64 0)), (4, .const (.int .u64 0)), (5, .const (.int .u64 4611686018427387904))]) (h0 : ρ (.const (.int .u64 1)) = .int .u64 1) (h1 : ρ (.const (.int .u64 0)) = .int .u64 0) (h5 : ρ (.const (.int .u64 4611686018427387904)) = .int .u64 4611686018427387904) : (execOp ρ o).run Tryd.prog w = .ok (.value (N bdN)) w := by
  have e : N bdN = .agg #[.int .u64 1, .int .u64 0, .int .u64 0, .int .u64 0, .int .u64 0, .int .u64 4611686018427387904] := by simp only [N, bdN_0, bdN_1, bdN_2, bdN_3, bdN_4, bdN_5]
  rw [e]
  clear e
  simp only [execOp, ho]
  go_simp
abbrev thr (a b c : Nat) : List Value := [.int .u64 (wd a 0), .int .u64 (wd a 1), .int .u64 (wd a 2), .int .u64 (wd a 3), .int .u64 (wd a 4), .int .u64 (wd a 5), .int .u64 (wd b 0), .int .u64 (wd b 1), .int .u64 (wd b 2), .int .u64 (wd b 3), .int .u64 (wd b 4), .int .u64 (wd b 5), .int .u64 (wd c 0), .int .u64 (wd c 1), .int .u64 (wd c 2), .int .u64 (wd c 3), .int .u64 (wd c 4), .int .u64 (wd c 5)]
theorem ex_bs3 {ρ : Operand → Value} {o : Oper} {x y z : Operand} {a b c : Nat} {w : World} (ho : o.op = .buildSlice 27 3 #[(0, x), (1, y), (2, z)]) (hx : ρ x = N a) (hy : ρ y = N b) (hz : ρ z = N c) :
    (execOp ρ o).run Tryd.prog w = .ok (.value (.slice (some ⟨w.heap.size, 0, none⟩) 3 3)) (w.alloc (.cells (thr a b c : List Value).toArray 24)) := by
  simp only [execOp, ho]
  go_simp
theorem ex_eqS {ρ : Operand → Value} {o : Oper} {x y : Operand} {s : ByteArray} {w : World} (ho : o.op = .binOp .eql 9 x y 9) (hx : ρ x = .string s) (hy : ρ y = .string s) : (execOp ρ o).run Tryd.prog w = .ok (.value (.bool true)) w := by
  simp only [execOp, ho, hx, hy]
  clear ho hx hy
  go_simp
set_option maxHeartbeats 4000000 in
set_option maxRecDepth 100000 in
theorem known_gen (p0 p1 k0 k1 k2 k3 k4 k5 k7 k8 m7 m9 m13 z1 z2 z3 z4 : Nat) (e_k3 : ∀ w, (Op.equalIn 10000 24 (N k3) (N k3)).run Tryd.prog w = .ok true w) (e_k5 : ∀ w, (Op.equalIn 10000 24 (N k5) (N k5)).run Tryd.prog w = .ok true w) (e_k1 : ∀ w, (Op.equalIn 10000 24 (N k1) (N k1)).run Tryd.prog w = .ok true w) (e_0 : ∀ w, (Op.equalIn 10000 24 (N 0) (N 0)).run Tryd.prog w = .ok true w)
    (c0 : ∀ w, Mm w [(0, dtab)] → Calls Tryd.prog 5 #[] w fun e w' => e = .returned (.bool true) ∧ Below w.heap.size w w')
    (c1 : ∀ w, Calls Tryd.prog 6 #[] w fun e w' => e = .returned (N p0) ∧ Below w.heap.size w w')
    (c2 : ∀ w, Calls Tryd.prog 7 #[] w fun e w' => e = .returned (N p1) ∧ Below w.heap.size w w')
    (c3 : ∀ w, Calls Tryd.prog 11 #[.int .u64 0] w fun e w' => e = .returned (N k0) ∧ Below w.heap.size w w')
    (c4 : ∀ w, Calls Tryd.prog 11 #[.int .u64 1] w fun e w' => e = .returned (N k1) ∧ Below w.heap.size w w')
    (c5 : ∀ w, Calls Tryd.prog 11 #[.int .u64 2] w fun e w' => e = .returned (N k2) ∧ Below w.heap.size w w')
    (c6 : ∀ w, Calls Tryd.prog 11 #[.int .u64 3] w fun e w' => e = .returned (N k3) ∧ Below w.heap.size w w')
    (c7 : ∀ w, Calls Tryd.prog 11 #[.int .u64 4] w fun e w' => e = .returned (N k4) ∧ Below w.heap.size w w')
    (c8 : ∀ w, Calls Tryd.prog 11 #[.int .u64 5] w fun e w' => e = .returned (N k5) ∧ Below w.heap.size w w')
    (c9 : ∀ w, Calls Tryd.prog 11 #[.int .u64 7] w fun e w' => e = .returned (N k7) ∧ Below w.heap.size w w')
    (c10 : ∀ w, Calls Tryd.prog 11 #[.int .u64 8] w fun e w' => e = .returned (N k8) ∧ Below w.heap.size w w')
    (c11 : ∀ w, Calls Tryd.prog 8 #[N k8] w fun e w' => e = .returned (.tuple #[.pointer none, .int .i64 2]) ∧ Below w.heap.size w w')
    (c12 : ∀ w, Calls Tryd.prog 8 #[N k1] w fun e w' => e = .returned (.tuple #[.pointer none, .int .i64 2]) ∧ Below w.heap.size w w')
    (c13 : ∀ w, Calls Tryd.prog 8 #[N bdN] w fun e w' => e = .returned (.tuple #[.pointer none, .int .i64 2]) ∧ Below w.heap.size w w')
    (c14 : ∀ w, Calls Tryd.prog 17 #[.int .u64 7] w fun e w' => Below w.heap.size w w' ∧ ∃ g, e = .returned (PT g 0) ∧ w.heap.size ≤ g ∧ g < w'.heap.size ∧ Blk w' g (modc m7))
    (c15 : ∀ w, Calls Tryd.prog 17 #[.int .u64 9] w fun e w' => Below w.heap.size w w' ∧ ∃ g, e = .returned (PT g 0) ∧ w.heap.size ≤ g ∧ g < w'.heap.size ∧ Blk w' g (modc m9))
    (c16 : ∀ w, Calls Tryd.prog 17 #[.int .u64 13] w fun e w' => Below w.heap.size w w' ∧ ∃ g, e = .returned (PT g 0) ∧ w.heap.size ≤ g ∧ g < w'.heap.size ∧ Blk w' g (modc m13))
    (c17 : ∀ g w, Mm w [(g, modc m7), (0, dtab)] → Calls Tryd.prog 12 #[PT g 0, N k7] w fun e w' => e = .returned (.tuple #[N z1, .int .i64 6]) ∧ Below w.heap.size w w')
    (c18 : ∀ g w, Mm w [(g, modc m7)] → Calls Tryd.prog 15 #[PT g 0, N k2] w fun e w' => e = .returned (.tuple #[N k3, .int .i64 0]) ∧ Below w.heap.size w w')
    (c19 : ∀ g w, Mm w [(g, modc m7)] → Calls Tryd.prog 15 #[PT g 0, N k3] w fun e w' => e = .returned (.tuple #[N z2, .int .i64 6]) ∧ Below w.heap.size w w')
    (c20 : ∀ g w, Mm w [(g, modc m9), (0, dtab)] → Calls Tryd.prog 12 #[PT g 0, N k3] w fun e w' => e = .returned (.tuple #[N z3, .int .i64 6]) ∧ Below w.heap.size w w')
    (c21 : ∀ g w, Mm w [(g, modc m9), (0, dtab)] → Calls Tryd.prog 12 #[PT g 0, N k2] w fun e w' => e = .returned (.tuple #[N k5, .int .i64 0]) ∧ Below w.heap.size w w')
    (c22 : ∀ g w, Mm w [(g, modc m13)] → Calls Tryd.prog 15 #[PT g 0, N k4] w fun e w' => e = .returned (.tuple #[N z4, .int .i64 2]) ∧ Below w.heap.size w w')
    (c23 : ∀ w, Calls Tryd.prog 18 #[N p0] w fun e w' => e = .returned (.string tpL) ∧ Below w.heap.size w w')
    (c24 : ∀ w, Calls Tryd.prog 18 #[N p1] w fun e w' => e = .returned (.string trL) ∧ Below w.heap.size w w')
    (c25 : ∀ g w, Mm w [(g, modc m7)] → Calls Tryd.prog 19 #[PT g 0, N k0, N k1] w fun e w' => e = .returned (N k1) ∧ Below w.heap.size w w')
    (c26 : ∀ g w, Mm w [(g, modc m7)] → Calls Tryd.prog 16 #[PT g 0, N k0] w fun e w' => e = .returned (N 0) ∧ Below w.heap.size w w') (w : World) (hm : Mm w [(0, dtab)]) :
    Calls Tryd.prog 4 #[] w fun e w' => e = .returned (.bool true) ∧ Below w.heap.size w w' := by
  have H0 : Hid (_ ∧ _) := ⟨hm, Below.refl w.heap.size w⟩
  clear hm
  have C0 : Hid _ := c0
  have C1 : Hid _ := c1
  have C2 : Hid _ := c2
  have C3 : Hid _ := c3
  have C4 : Hid _ := c4
  have C5 : Hid _ := c5
  have C6 : Hid _ := c6
  have C7 : Hid _ := c7
  have C8 : Hid _ := c8
  have C9 : Hid _ := c9
  have C10 : Hid _ := c10
  have C11 : Hid _ := c11
  have C12 : Hid _ := c12
  have C13 : Hid _ := c13
  have C14 : Hid _ := c14
  have C15 : Hid _ := c15
  have C16 : Hid _ := c16
  have C17 : Hid _ := c17
  have C18 : Hid _ := c18
  have C19 : Hid _ := c19
  have C20 : Hid _ := c20
  have C21 : Hid _ := c21
  have C22 : Hid _ := c22
  have C23 : Hid _ := c23
  have C24 : Hid _ := c24
  have C25 : Hid _ := c25
  have C26 : Hid _ := c26
  clear c0 c1 c2 c3 c4 c5 c6 c7 c8 c9 c10 c11 c12 c13 c14 c15 c16 c17 c18 c19 c20 c21 c22 c23 c24 c25 c26
  go_enter Tryd.func4, Tryd.ntmps4
  refine wp_seq ?_
  refine walk_seq 1 [.quiet (.bool false)] (fun w' => Mm w' [(0, dtab)]) ?pre1 ?F1 ?hpre1 (fun γ => ?hF1) (by kernel_rfl) ?hL1 ?hS1 ?ho1 ?he1
  case hpre1 =>
    simp only [List.take_succ_cons, List.take_zero]
    exact rfl
  case hF1 =>
    simp only [fill, Kind.val, Act.put, List.setIfInBounds_toArray, List.set_cons_zero]
    exact rfl
  case hL1 => exact trivial
  case hS1 => exact fun w' hb => H0.out.1.below hb
  case ho1 =>
    refine AllOk.cons ?_ ?_
    · exact fun γ => ⟨rfl, fun w' _ => rfl⟩
    exact trivial
  intro γ w1 l hM hl
  have M1 : Mm w1 [(0, dtab)] := H0.out.1.grow hM (Nat.le_refl _) hl [] rfl (by decide)
  have B1 : Below w.heap.size w w1 := H0.out.2.trans (hM.below.mono H0.out.2.size)
  clear hM hl l
  clear γ
  have H1 : Hid (_ ∧ _) := ⟨M1, B1⟩
  clear M1 B1
  refine rest_at (l := []) rfl ?_
  refine rest_nil ?_
  refine then_normal ?_
  refine wp_seq ?_
  refine wp_seq ?_
  refine walk_seq 3 [.call (N k8), .call (N k1), .quiet (N bdN)] (fun w' => Mm w' [(0, dtab)]) ?pre2 ?F2 ?hpre2 (fun γ => ?hF2) (by kernel_rfl) ?hL2 ?hS2 ?ho2 ?he2
  case hpre2 =>
    simp only [List.take_succ_cons, List.take_zero]
    exact rfl
  case hF2 =>
    simp only [fill, Kind.val, Act.put, List.setIfInBounds_toArray, List.set_cons_zero, List.set_cons_succ]
    exact rfl
  case hL2 => exact trivial
  case hS2 => exact fun w' hb => H1.out.1.below hb
  case ho2 =>
    refine AllOk.cons ?_ ?_
    · exact fun γ => ⟨rfl, fun w' h => ⟨11, #[.int .u64 8], exec_call rfl call11 rfl (by simp only [List.map_toArray, List.map_cons, List.map_nil]; rfl), C10.out w'⟩⟩
    refine AllOk.cons ?_ ?_
    · exact fun γ => ⟨rfl, fun w' h => ⟨11, #[.int .u64 1], exec_call rfl call11 rfl (by simp only [List.map_toArray, List.map_cons, List.map_nil]; rfl), C4.out w'⟩⟩
    refine AllOk.cons ?_ ?_
    · exact fun γ => ⟨rfl, fun w' _ => ex_build_bd rfl rfl rfl rfl⟩
    exact trivial
  intro γ w2 l hM hl
  have M2 : Mm w2 [(0, dtab)] := H1.out.1.grow hM (Nat.le_refl _) hl [] rfl (by decide)
  have B2 : Below w.heap.size w w2 := H1.out.2.trans (hM.below.mono H1.out.2.size)
  clear hM hl l H1
  clear γ
  have H2 : Hid (_ ∧ _) := ⟨M2, B2⟩
  clear M2 B2
  refine rest_at (l := [3, 4, 5]) rfl ?_
  refine rest_set (d := 26) (v := .slice (some ⟨w2.heap.size, 0, none⟩) 3 3) (w' := w2.alloc (.cells (thr k8 k1 bdN : List Value).toArray 24)) rfl rfl rfl (ex_bs3 rfl rfl rfl rfl) ?_
  simp only [Act.put, List.setIfInBounds_toArray, List.set_cons_zero, List.set_cons_succ]
  have o_γs3 : Hid (w.heap.size ≤ w2.heap.size) := H2.out.2.size
  have H3 : Hid (Mm (w2.alloc (.cells (thr k8 k1 bdN : List Value).toArray 24)) ((w2.heap.size, thr k8 k1 bdN) :: [(0, dtab)]) ∧ Below w.heap.size w (w2.alloc (.cells (thr k8 k1 bdN : List Value).toArray 24))) := ⟨H2.out.1.alloc _ 24 rfl, H2.out.2.alloc H2.out.2.size _⟩
  clear H2
  generalize hgw : w2.alloc (.cells (thr k8 k1 bdN : List Value).toArray 24) = w3 at H3 ⊢
  clear hgw
  generalize w2.heap.size = γs3 at o_γs3 H3 ⊢
  refine rest_set (d := 27) (v := .int .i64 3) (w' := w3) rfl rfl rfl (by go_simp) ?_
  simp only [Act.put, List.setIfInBounds_toArray, List.set_cons_zero, List.set_cons_succ]
  refine rest_set (d := 28) rfl rfl rfl rfl ?_
  simp only [Act.put, List.setIfInBounds_toArray, List.set_cons_zero, List.set_cons_succ]
  refine rest_nil ?_
  refine then_normal ?_
  refine wp_block ?_
  refine loop_ghost (α := Nat) (fun i a' w' => ∃ s0 : Nat → Value, a' = ⟨#[s0 0, undef, s0 2, s0 3, s0 4, undef, undef, undef, undef, undef, undef, undef, undef, undef, undef, undef, undef, undef, undef, undef, undef, undef, undef, N k8, N k1, N bdN, .slice (some ⟨γs3, 0, none⟩) 3 3, .int .i64 3, .int .i64 ((i : Nat) : Int), s0 29, s0 30, s0 31, s0 32, s0 33, s0 34, s0 35, s0 36, s0 37, s0 38, s0 39, s0 40, s0 41, s0 42, s0 43, undef, undef, undef, undef, undef, undef, undef, undef, undef, undef, undef, undef, undef, undef, undef, undef, undef, undef, undef, undef, undef, undef, undef, undef, undef, undef, undef, undef, undef, undef, undef, undef, undef, undef, undef, undef, undef, undef, undef, undef, undef, undef, undef, undef, undef, undef, undef, undef, undef, undef, undef, undef, undef, undef, undef, undef, undef, undef, undef, undef, undef, undef, undef, undef, undef, undef, undef, undef, undef, undef, undef, undef, undef, undef, undef, undef, undef, undef, undef, undef, undef, undef, undef, undef, undef, undef, undef, undef, undef, undef, undef, undef, undef, undef, undef, undef, undef, undef, undef, undef, undef, undef, undef, undef, undef, undef, undef, undef, undef, undef, undef, undef], []⟩ ∧ (Mm w' [(γs3, thr k8 k1 bdN), (0, dtab)] ∧ Below w.heap.size w w') ∧ i ≤ 3) (fun i => 3 - i) 0 ?st0 ?rd0
  case st0 => exact ⟨(slotfn [.bool false, undef, undef, undef, undef, undef, undef, undef, undef, undef, undef, undef, undef, undef, undef, undef, undef, undef, undef, undef, undef, undef, undef, undef, undef, undef, undef, undef, undef, undef, undef, undef, undef, undef, undef, undef, undef, undef, undef, undef, undef, undef, undef, undef]), rfl, ⟨H3.out.1, H3.out.2⟩, by omega⟩
  intro i a' w4 hI
  obtain ⟨s0, rfl, hMB, hk0⟩ := hI
  have H4 : Hid (_ ∧ _) := hMB
  clear hMB H3
  by_cases hlt : i < 3
  · have hrd : True := trivial
    clear hrd
    rcases (by omega : i = 0 ∨ i = 1 ∨ i = 2) with rfl | rfl | rfl
    · have hrd : True := trivial
      clear hrd
      refine wp_seq ?_
      refine walk_seq 1 [.quiet (.bool true)] (fun w' => Mm w' [(γs3, thr k8 k1 bdN), (0, dtab)]) ?pre3 ?F3 ?hpre3 (fun γ => ?hF3) (by kernel_rfl) ?hL3 ?hS3 ?ho3 ?he3
      case hpre3 =>
        simp only [List.take_succ_cons, List.take_zero]
        exact rfl
      case hF3 =>
        simp only [fill, Kind.val, Act.put, List.setIfInBounds_toArray, List.set_cons_zero, List.set_cons_succ]
        exact rfl
      case hL3 => exact trivial
      case hS3 => exact fun w' hb => H4.out.1.below hb
      case ho3 =>
        refine AllOk.cons ?_ ?_
        · (refine fun γ => ⟨rfl, fun w' h => ?_⟩; clear h; go_simp)
        exact trivial
      intro γ w5 l hM hl
      have M5 : Mm w5 [(γs3, thr k8 k1 bdN), (0, dtab)] := H4.out.1.grow hM (Nat.le_refl _) hl [] rfl (by decide)
      have B5 : Below w.heap.size w w5 := H4.out.2.trans (hM.below.mono H4.out.2.size)
      clear hM hl l H4
      clear γ
      have H5 : Hid (_ ∧ _) := ⟨M5, B5⟩
      clear M5 B5
      refine rest_at (l := []) rfl ?_
      refine rest_nil ?_
      refine then_normal ?_
      refine wp_seq ?_
      refine wp_cond_true rfl ?_
      refine wp_skip ?_
      refine then_normal ?_
      refine wp_seq ?_
      refine wp_block ?_
      refine wp_seq ?_
      refine walk_seq 4 [.quiet (PT γs3 0), .quiet (N k8), .made zero6 24, .laid 2 zero6 (cells6 k8)] (fun w' => Mm w' [(γs3, thr k8 k1 bdN), (0, dtab)]) ?pre4 ?F4 ?hpre4 (fun γ => ?hF4) (by kernel_rfl) ?hL4 ?hS4 ?ho4 ?he4
      case hpre4 =>
        simp only [List.take_succ_cons, List.take_zero]
        exact rfl
      case hF4 =>
        simp only [fill, Kind.val, Act.put, List.setIfInBounds_toArray, List.set_cons_zero, List.set_cons_succ]
        exact rfl
      case hL4 => exact ⟨⟨_, rfl⟩, trivial⟩
      case hS4 => exact fun w' hb => H5.out.1.below hb
      case ho4 =>
        refine AllOk.cons ?_ ?_
        · (refine fun γ => ⟨rfl, fun w' h => ?_⟩; clear h; go_simp)
        refine AllOk.cons ?_ ?_
        · exact fun γ => ⟨rfl, fun w' h => ex_load6 h 0 rfl rfl rfl rfl⟩
        refine AllOk.cons ?_ ?_
        · exact fun γ => ⟨rfl, fun w' => exec_made6 rfl⟩
        refine AllOk.cons ?_ ?_
        · exact fun γ => ⟨rfl, rfl, rfl, fun w' h => exec_laid6 h rfl rfl rfl⟩
        exact trivial
      intro γ w6 l hM hl
      have M6 : Mm w6 [(γ 2, cells6 k8), (γs3, thr k8 k1 bdN), (0, dtab)] := H5.out.1.grow hM (Nat.le_refl _) hl [2] rfl (by decide)
      have B6 : Below w.heap.size w w6 := H5.out.2.trans (hM.below.mono H5.out.2.size)
      have o4_2 : Hid (w.heap.size ≤ γ 2) := Nat.le_trans H5.out.2.size (hM.fin (Nat.le_refl _) hl (i := 2) rfl).2.1
      clear hM hl l H5
      generalize γ 2 = γ4_2 at M6 o4_2 ⊢
      clear γ
      have H6 : Hid (_ ∧ _) := ⟨M6, B6⟩
      clear M6 B6
      refine rest_at (l := []) rfl ?_
      refine rest_nil ?_
      refine then_normal ?_
      refine wp_seq ?_
      refine walk_seq 7 [.quiet (N k8), .call (.tuple #[.pointer none, .int .i64 2]), .quiet (.tuple #[.pointer none, .int .i64 2]), .quiet (.pointer none), .quiet (.int .i64 2), .quiet (.pointer none), .quiet (.int .i64 2)] (fun w' => Mm w' [(γ4_2, cells6 k8), (γs3, thr k8 k1 bdN), (0, dtab)]) ?pre5 ?F5 ?hpre5 (fun γ => ?hF5) (by kernel_rfl) ?hL5 ?hS5 ?ho5 ?he5
      case hpre5 =>
        simp only [List.take_succ_cons, List.take_zero]
        exact rfl
      case hF5 =>
        simp only [fill, Kind.val, Act.put, List.setIfInBounds_toArray, List.set_cons_zero, List.set_cons_succ]
        exact rfl
      case hL5 => exact trivial
      case hS5 => exact fun w' hb => H6.out.1.below hb
      case ho5 =>
        refine AllOk.cons ?_ ?_
        · exact fun γ => ⟨rfl, fun w' h => ex_load6 h 0 rfl rfl rfl rfl⟩
        refine AllOk.cons ?_ ?_
        · exact fun γ => ⟨rfl, fun w' h => ⟨8, #[N k8], exec_call rfl call8 rfl (by simp only [List.map_toArray, List.map_cons, List.map_nil]; rfl), C11.out w'⟩⟩
        refine AllOk.cons ?_ ?_
        · exact fun γ => ⟨rfl, fun w' _ => rfl⟩
        refine AllOk.cons ?_ ?_
        · (refine fun γ => ⟨rfl, fun w' h => ?_⟩; clear h; go_simp)
        refine AllOk.cons ?_ ?_
        · (refine fun γ => ⟨rfl, fun w' h => ?_⟩; clear h; go_simp)
        refine AllOk.cons ?_ ?_
        · exact fun γ => ⟨rfl, fun w' _ => rfl⟩
        refine AllOk.cons ?_ ?_
        · exact fun γ => ⟨rfl, fun w' _ => rfl⟩
        exact trivial
      intro γ w7 l hM hl
      have M7 : Mm w7 [(γ4_2, cells6 k8), (γs3, thr k8 k1 bdN), (0, dtab)] := H6.out.1.grow hM (Nat.le_refl _) hl [] rfl (by decide)
      have B7 : Below w.heap.size w w7 := H6.out.2.trans (hM.below.mono H6.out.2.size)
      clear hM hl l H6
      clear γ
      have H7 : Hid (_ ∧ _) := ⟨M7, B7⟩
      clear M7 B7
      refine rest_at (l := []) rfl ?_
      refine rest_nil ?_
      refine then_normal ?_
      refine wp_seq ?_
      refine walk_seq 6 [.quiet (.pointer none), .quiet (.bool false), .quiet (.bool false), .quiet (.int .i64 2), .quiet (.bool false), .quiet (.bool false)] (fun w' => Mm w' [(γ4_2, cells6 k8), (γs3, thr k8 k1 bdN), (0, dtab)]) ?pre6 ?F6 ?hpre6 (fun γ => ?hF6) (by kernel_rfl) ?hL6 ?hS6 ?ho6 ?he6
      case hpre6 =>
        simp only [List.take_succ_cons, List.take_zero]
        exact rfl
      case hF6 =>
        simp only [fill, Kind.val, Act.put, List.setIfInBounds_toArray, List.set_cons_zero, List.set_cons_succ]
        exact rfl
      case hL6 => exact trivial
      case hS6 => exact fun w' hb => H7.out.1.below hb
      case ho6 =>
        refine AllOk.cons ?_ ?_
        · exact fun γ => ⟨rfl, fun w' _ => rfl⟩
        refine AllOk.cons ?_ ?_
        · (refine fun γ => ⟨rfl, fun w' h => ?_⟩; clear h; go_simp)
        refine AllOk.cons ?_ ?_
        · exact fun γ => ⟨rfl, fun w' _ => rfl⟩
        refine AllOk.cons ?_ ?_
        · exact fun γ => ⟨rfl, fun w' _ => rfl⟩
        refine AllOk.cons ?_ ?_
        · (refine fun γ => ⟨rfl, fun w' h => ?_⟩; clear h; go_simp)
        refine AllOk.cons ?_ ?_
        · (refine fun γ => ⟨rfl, fun w' h => ?_⟩; clear h; go_simp)
        exact trivial
      intro γ w8 l hM hl
      have M8 : Mm w8 [(γ4_2, cells6 k8), (γs3, thr k8 k1 bdN), (0, dtab)] := H7.out.1.grow hM (Nat.le_refl _) hl [] rfl (by decide)
      have B8 : Below w.heap.size w w8 := H7.out.2.trans (hM.below.mono H7.out.2.size)
      clear hM hl l H7
      clear γ
      have H8 : Hid (_ ∧ _) := ⟨M8, B8⟩
      clear M8 B8
      refine rest_at (l := []) rfl ?_
      refine rest_nil ?_
      refine then_normal ?_
      refine wp_cond_false rfl ?_
      refine wp_skip ?_
      refine block_normal ?_
      refine then_normal ?_
      refine walk_seq 1 [.quiet (.int .i64 1)] (fun w' => Mm w' [(γ4_2, cells6 k8), (γs3, thr k8 k1 bdN), (0, dtab)]) ?pre7 ?F7 ?hpre7 (fun γ => ?hF7) (by kernel_rfl) ?hL7 ?hS7 ?ho7 ?he7
      case hpre7 =>
        simp only [List.take_succ_cons, List.take_zero]
        exact rfl
      case hF7 =>
        simp only [fill, Kind.val, Act.put, List.setIfInBounds_toArray, List.set_cons_zero, List.set_cons_succ]
        exact rfl
      case hL7 => exact trivial
      case hS7 => exact fun w' hb => H8.out.1.below hb
      case ho7 =>
        refine AllOk.cons ?_ ?_
        · (refine fun γ => ⟨rfl, fun w' h => ?_⟩; clear h; go_simp; rw [IntKind.wrap_i64]; omega)
        exact trivial
      intro γ w9 l hM hl
      have M9 : Mm w9 [(γ4_2, cells6 k8), (γs3, thr k8 k1 bdN), (0, dtab)] := H8.out.1.grow hM (Nat.le_refl _) hl [] rfl (by decide)
      have B9 : Below w.heap.size w w9 := H8.out.2.trans (hM.below.mono H8.out.2.size)
      clear hM hl l H8
      clear γ
      have H9 : Hid (_ ∧ _) := ⟨M9, B9⟩
      clear M9 B9
      refine rest_at (l := [1]) rfl ?_
      refine rest_set (d := 28) rfl rfl rfl rfl ?_
      simp only [Act.put, List.setIfInBounds_toArray, List.set_cons_zero, List.set_cons_succ]
      refine rest_nil ?_
      refine then_normal ?_
      exact ⟨1, ⟨(slotfn [s0 0, undef, PT γ4_2 0, .pointer none, .int .i64 2, undef, undef, undef, undef, undef, undef, undef, undef, undef, undef, undef, undef, undef, undef, undef, undef, undef, undef, undef, undef, undef, undef, undef, undef, .bool true, PT γs3 0, N k8, .tuple #[.pointer none, .int .i64 2], N k8, .tuple #[.pointer none, .int .i64 2], .pointer none, .int .i64 2, .pointer none, .bool false, .bool false, .int .i64 2, .bool false, .bool false, .int .i64 1]), rfl, ⟨H9.out.1.tail, H9.out.2⟩, by omega⟩, by omega⟩
    · have hrd : True := trivial
      clear hrd
      refine wp_seq ?_
      refine walk_seq 1 [.quiet (.bool true)] (fun w' => Mm w' [(γs3, thr k8 k1 bdN), (0, dtab)]) ?pre8 ?F8 ?hpre8 (fun γ => ?hF8) (by kernel_rfl) ?hL8 ?hS8 ?ho8 ?he8
      case hpre8 =>
        simp only [List.take_succ_cons, List.take_zero]
        exact rfl
      case hF8 =>
        simp only [fill, Kind.val, Act.put, List.setIfInBounds_toArray, List.set_cons_zero, List.set_cons_succ]
        exact rfl
      case hL8 => exact trivial
      case hS8 => exact fun w' hb => H4.out.1.below hb
      case ho8 =>
        refine AllOk.cons ?_ ?_
        · (refine fun γ => ⟨rfl, fun w' h => ?_⟩; clear h; go_simp)
        exact trivial
      intro γ w10 l hM hl
      have M10 : Mm w10 [(γs3, thr k8 k1 bdN), (0, dtab)] := H4.out.1.grow hM (Nat.le_refl _) hl [] rfl (by decide)
      have B10 : Below w.heap.size w w10 := H4.out.2.trans (hM.below.mono H4.out.2.size)
      clear hM hl l H4
      clear γ
      have H10 : Hid (_ ∧ _) := ⟨M10, B10⟩
      clear M10 B10
      refine rest_at (l := []) rfl ?_
      refine rest_nil ?_
      refine then_normal ?_
      refine wp_seq ?_
      refine wp_cond_true rfl ?_
      refine wp_skip ?_
      refine then_normal ?_
      refine wp_seq ?_
      refine wp_block ?_
      refine wp_seq ?_
      refine walk_seq 4 [.quiet (PT γs3 6), .quiet (N k1), .made zero6 24, .laid 2 zero6 (cells6 k1)] (fun w' => Mm w' [(γs3, thr k8 k1 bdN), (0, dtab)]) ?pre9 ?F9 ?hpre9 (fun γ => ?hF9) (by kernel_rfl) ?hL9 ?hS9 ?ho9 ?he9
      case hpre9 =>
        simp only [List.take_succ_cons, List.take_zero]
        exact rfl
      case hF9 =>
        simp only [fill, Kind.val, Act.put, List.setIfInBounds_toArray, List.set_cons_zero, List.set_cons_succ]
        exact rfl
      case hL9 => exact ⟨⟨_, rfl⟩, trivial⟩
      case hS9 => exact fun w' hb => H10.out.1.below hb
      case ho9 =>
        refine AllOk.cons ?_ ?_
        · (refine fun γ => ⟨rfl, fun w' h => ?_⟩; clear h; go_simp)
        refine AllOk.cons ?_ ?_
        · exact fun γ => ⟨rfl, fun w' h => ex_load6 h 0 rfl rfl rfl rfl⟩
        refine AllOk.cons ?_ ?_
        · exact fun γ => ⟨rfl, fun w' => exec_made6 rfl⟩
        refine AllOk.cons ?_ ?_
        · exact fun γ => ⟨rfl, rfl, rfl, fun w' h => exec_laid6 h rfl rfl rfl⟩
        exact trivial
      intro γ w11 l hM hl
      have M11 : Mm w11 [(γ 2, cells6 k1), (γs3, thr k8 k1 bdN), (0, dtab)] := H10.out.1.grow hM (Nat.le_refl _) hl [2] rfl (by decide)
      have B11 : Below w.heap.size w w11 := H10.out.2.trans (hM.below.mono H10.out.2.size)
      have o9_2 : Hid (w.heap.size ≤ γ 2) := Nat.le_trans H10.out.2.size (hM.fin (Nat.le_refl _) hl (i := 2) rfl).2.1
      clear hM hl l H10
      generalize γ 2 = γ9_2 at M11 o9_2 ⊢
      clear γ
      have H11 : Hid (_ ∧ _) := ⟨M11, B11⟩
      clear M11 B11
      refine rest_at (l := []) rfl ?_
      refine rest_nil ?_
      refine then_normal ?_
      refine wp_seq ?_
      refine walk_seq 7 [.quiet (N k1), .call (.tuple #[.pointer none, .int .i64 2]), .quiet (.tuple #[.pointer none, .int .i64 2]), .quiet (.pointer none), .quiet (.int .i64 2), .quiet (.pointer none), .quiet (.int .i64 2)] (fun w' => Mm w' [(γ9_2, cells6 k1), (γs3, thr k8 k1 bdN), (0, dtab)]) ?pre10 ?F10 ?hpre10 (fun γ => ?hF10) (by kernel_rfl) ?hL10 ?hS10 ?ho10 ?he10
      case hpre10 =>
        simp only [List.take_succ_cons, List.take_zero]
        exact rfl
      case hF10 =>
        simp only [fill, Kind.val, Act.put, List.setIfInBounds_toArray, List.set_cons_zero, List.set_cons_succ]
        exact rfl
      case hL10 => exact trivial
      case hS10 => exact fun w' hb => H11.out.1.below hb
      case ho10 =>
        refine AllOk.cons ?_ ?_
        · exact fun γ => ⟨rfl, fun w' h => ex_load6 h 0 rfl rfl rfl rfl⟩
        refine AllOk.cons ?_ ?_
        · exact fun γ => ⟨rfl, fun w' h => ⟨8, #[N k1], exec_call rfl call8 rfl (by simp only [List.map_toArray, List.map_cons, List.map_nil]; rfl), C12.out w'⟩⟩
        refine AllOk.cons ?_ ?_
        · exact fun γ => ⟨rfl, fun w' _ => rfl⟩
        refine AllOk.cons ?_ ?_
        · (refine fun γ => ⟨rfl, fun w' h => ?_⟩; clear h; go_simp)
        refine AllOk.cons ?_ ?_
        · (refine fun γ => ⟨rfl, fun w' h => ?_⟩; clear h; go_simp)
        refine AllOk.cons ?_ ?_
        · exact fun γ => ⟨rfl, fun w' _ => rfl⟩
        refine AllOk.cons ?_ ?_
        · exact fun γ => ⟨rfl, fun w' _ => rfl⟩
        exact trivial
      intro γ w12 l hM hl
      have M12 : Mm w12 [(γ9_2, cells6 k1), (γs3, thr k8 k1 bdN), (0, dtab)] := H11.out.1.grow hM (Nat.le_refl _) hl [] rfl (by decide)
      have B12 : Below w.heap.size w w12 := H11.out.2.trans (hM.below.mono H11.out.2.size)
      clear hM hl l H11
      clear γ
      have H12 : Hid (_ ∧ _) := ⟨M12, B12⟩
      clear M12 B12
      refine rest_at (l := []) rfl ?_
      refine rest_nil ?_
      refine then_normal ?_
      refine wp_seq ?_
      refine walk_seq 6 [.quiet (.pointer none), .quiet (.bool false), .quiet (.bool false), .quiet (.int .i64 2), .quiet (.bool false), .quiet (.bool false)] (fun w' => Mm w' [(γ9_2, cells6 k1), (γs3, thr k8 k1 bdN), (0, dtab)]) ?pre11 ?F11 ?hpre11 (fun γ => ?hF11) (by kernel_rfl) ?hL11 ?hS11 ?ho11 ?he11
      case hpre11 =>
        simp only [List.take_succ_cons, List.take_zero]
        exact rfl
      case hF11 =>
        simp only [fill, Kind.val, Act.put, List.setIfInBounds_toArray, List.set_cons_zero, List.set_cons_succ]
        exact rfl
      case hL11 => exact trivial
      case hS11 => exact fun w' hb => H12.out.1.below hb
      case ho11 =>
        refine AllOk.cons ?_ ?_
        · exact fun γ => ⟨rfl, fun w' _ => rfl⟩
        refine AllOk.cons ?_ ?_
        · (refine fun γ => ⟨rfl, fun w' h => ?_⟩; clear h; go_simp)
        refine AllOk.cons ?_ ?_
        · exact fun γ => ⟨rfl, fun w' _ => rfl⟩
        refine AllOk.cons ?_ ?_
        · exact fun γ => ⟨rfl, fun w' _ => rfl⟩
        refine AllOk.cons ?_ ?_
        · (refine fun γ => ⟨rfl, fun w' h => ?_⟩; clear h; go_simp)
        refine AllOk.cons ?_ ?_
        · (refine fun γ => ⟨rfl, fun w' h => ?_⟩; clear h; go_simp)
        exact trivial
      intro γ w13 l hM hl
      have M13 : Mm w13 [(γ9_2, cells6 k1), (γs3, thr k8 k1 bdN), (0, dtab)] := H12.out.1.grow hM (Nat.le_refl _) hl [] rfl (by decide)
      have B13 : Below w.heap.size w w13 := H12.out.2.trans (hM.below.mono H12.out.2.size)
      clear hM hl l H12
      clear γ
      have H13 : Hid (_ ∧ _) := ⟨M13, B13⟩
      clear M13 B13
      refine rest_at (l := []) rfl ?_
      refine rest_nil ?_
      refine then_normal ?_
      refine wp_cond_false rfl ?_
      refine wp_skip ?_
      refine block_normal ?_
      refine then_normal ?_
      refine walk_seq 1 [.quiet (.int .i64 2)] (fun w' => Mm w' [(γ9_2, cells6 k1), (γs3, thr k8 k1 bdN), (0, dtab)]) ?pre12 ?F12 ?hpre12 (fun γ => ?hF12) (by kernel_rfl) ?hL12 ?hS12 ?ho12 ?he12
      case hpre12 =>
        simp only [List.take_succ_cons, List.take_zero]
        exact rfl
      case hF12 =>
        simp only [fill, Kind.val, Act.put, List.setIfInBounds_toArray, List.set_cons_zero, List.set_cons_succ]
        exact rfl
      case hL12 => exact trivial
      case hS12 => exact fun w' hb => H13.out.1.below hb
      case ho12 =>
        refine AllOk.cons ?_ ?_
        · (refine fun γ => ⟨rfl, fun w' h => ?_⟩; clear h; go_simp; rw [IntKind.wrap_i64]; omega)
        exact trivial
      intro γ w14 l hM hl
      have M14 : Mm w14 [(γ9_2, cells6 k1), (γs3, thr k8 k1 bdN), (0, dtab)] := H13.out.1.grow hM (Nat.le_refl _) hl [] rfl (by decide)
      have B14 : Below w.heap.size w w14 := H13.out.2.trans (hM.below.mono H13.out.2.size)
      clear hM hl l H13
      clear γ
      have H14 : Hid (_ ∧ _) := ⟨M14, B14⟩
      clear M14 B14
      refine rest_at (l := [1]) rfl ?_
      refine rest_set (d := 28) rfl rfl rfl rfl ?_
      simp only [Act.put, List.setIfInBounds_toArray, List.set_cons_zero, List.set_cons_succ]
      refine rest_nil ?_
      refine then_normal ?_
      exact ⟨2, ⟨(slotfn [s0 0, undef, PT γ9_2 0, .pointer none, .int .i64 2, undef, undef, undef, undef, undef, undef, undef, undef, undef, undef, undef, undef, undef, undef, undef, undef, undef, undef, undef, undef, undef, undef, undef, undef, .bool true, PT γs3 6, N k1, .tuple #[.pointer none, .int .i64 2], N k1, .tuple #[.pointer none, .int .i64 2], .pointer none, .int .i64 2, .pointer none, .bool false, .bool false, .int .i64 2, .bool false, .bool false, .int .i64 2]), rfl, ⟨H14.out.1.tail, H14.out.2⟩, by omega⟩, by omega⟩
    · have hrd : True := trivial
      clear hrd
      refine wp_seq ?_
      refine walk_seq 1 [.quiet (.bool true)] (fun w' => Mm w' [(γs3, thr k8 k1 bdN), (0, dtab)]) ?pre13 ?F13 ?hpre13 (fun γ => ?hF13) (by kernel_rfl) ?hL13 ?hS13 ?ho13 ?he13
      case hpre13 =>
        simp only [List.take_succ_cons, List.take_zero]
        exact rfl
      case hF13 =>
        simp only [fill, Kind.val, Act.put, List.setIfInBounds_toArray, List.set_cons_zero, List.set_cons_succ]
        exact rfl
      case hL13 => exact trivial
      case hS13 => exact fun w' hb => H4.out.1.below hb
      case ho13 =>
        refine AllOk.cons ?_ ?_
        · (refine fun γ => ⟨rfl, fun w' h => ?_⟩; clear h; go_simp)
        exact trivial
      intro γ w15 l hM hl
      have M15 : Mm w15 [(γs3, thr k8 k1 bdN), (0, dtab)] := H4.out.1.grow hM (Nat.le_refl _) hl [] rfl (by decide)
      have B15 : Below w.heap.size w w15 := H4.out.2.trans (hM.below.mono H4.out.2.size)
      clear hM hl l H4
      clear γ
      have H15 : Hid (_ ∧ _) := ⟨M15, B15⟩
      clear M15 B15
      refine rest_at (l := []) rfl ?_
      refine rest_nil ?_
      refine then_normal ?_
      refine wp_seq ?_
      refine wp_cond_true rfl ?_
      refine wp_skip ?_
      refine then_normal ?_
      refine wp_seq ?_
      refine wp_block ?_
      refine wp_seq ?_
      refine walk_seq 4 [.quiet (PT γs3 12), .quiet (N bdN), .made zero6 24, .laid 2 zero6 (cells6 bdN)] (fun w' => Mm w' [(γs3, thr k8 k1 bdN), (0, dtab)]) ?pre14 ?F14 ?hpre14 (fun γ => ?hF14) (by kernel_rfl) ?hL14 ?hS14 ?ho14 ?he14
      case hpre14 =>
        simp only [List.take_succ_cons, List.take_zero]
        exact rfl
      case hF14 =>
        simp only [fill, Kind.val, Act.put, List.setIfInBounds_toArray, List.set_cons_zero, List.set_cons_succ]
        exact rfl
      case hL14 => exact ⟨⟨_, rfl⟩, trivial⟩
      case hS14 => exact fun w' hb => H15.out.1.below hb
      case ho14 =>
        refine AllOk.cons ?_ ?_
        · (refine fun γ => ⟨rfl, fun w' h => ?_⟩; clear h; go_simp)
        refine AllOk.cons ?_ ?_
        · exact fun γ => ⟨rfl, fun w' h => ex_load6 h 0 rfl rfl rfl rfl⟩
        refine AllOk.cons ?_ ?_
        · exact fun γ => ⟨rfl, fun w' => exec_made6 rfl⟩
        refine AllOk.cons ?_ ?_
        · exact fun γ => ⟨rfl, rfl, rfl, fun w' h => exec_laid6 h rfl rfl rfl⟩
        exact trivial
      intro γ w16 l hM hl
      have M16 : Mm w16 [(γ 2, cells6 bdN), (γs3, thr k8 k1 bdN), (0, dtab)] := H15.out.1.grow hM (Nat.le_refl _) hl [2] rfl (by decide)
      have B16 : Below w.heap.size w w16 := H15.out.2.trans (hM.below.mono H15.out.2.size)
      have o14_2 : Hid (w.heap.size ≤ γ 2) := Nat.le_trans H15.out.2.size (hM.fin (Nat.le_refl _) hl (i := 2) rfl).2.1
      clear hM hl l H15
      generalize γ 2 = γ14_2 at M16 o14_2 ⊢
      clear γ
      have H16 : Hid (_ ∧ _) := ⟨M16, B16⟩
      clear M16 B16
      refine rest_at (l := []) rfl ?_
      refine rest_nil ?_
      refine then_normal ?_
      refine wp_seq ?_
      refine walk_seq 7 [.quiet (N bdN), .call (.tuple #[.pointer none, .int .i64 2]), .quiet (.tuple #[.pointer none, .int .i64 2]), .quiet (.pointer none), .quiet (.int .i64 2), .quiet (.pointer none), .quiet (.int .i64 2)] (fun w' => Mm w' [(γ14_2, cells6 bdN), (γs3, thr k8 k1 bdN), (0, dtab)]) ?pre15 ?F15 ?hpre15 (fun γ => ?hF15) (by kernel_rfl) ?hL15 ?hS15 ?ho15 ?he15
      case hpre15 =>
        simp only [List.take_succ_cons, List.take_zero]
        exact rfl
      case hF15 =>
        simp only [fill, Kind.val, Act.put, List.setIfInBounds_toArray, List.set_cons_zero, List.set_cons_succ]
        exact rfl
      case hL15 => exact trivial
      case hS15 => exact fun w' hb => H16.out.1.below hb
      case ho15 =>
        refine AllOk.cons ?_ ?_
        · exact fun γ => ⟨rfl, fun w' h => ex_load6 h 0 rfl rfl rfl rfl⟩
        refine AllOk.cons ?_ ?_
        · exact fun γ => ⟨rfl, fun w' h => ⟨8, #[N bdN], exec_call rfl call8 rfl (by simp only [List.map_toArray, List.map_cons, List.map_nil]; rfl), C13.out w'⟩⟩
        refine AllOk.cons ?_ ?_
        · exact fun γ => ⟨rfl, fun w' _ => rfl⟩
        refine AllOk.cons ?_ ?_
        · (refine fun γ => ⟨rfl, fun w' h => ?_⟩; clear h; go_simp)
        refine AllOk.cons ?_ ?_
        · (refine fun γ => ⟨rfl, fun w' h => ?_⟩; clear h; go_simp)
        refine AllOk.cons ?_ ?_
        · exact fun γ => ⟨rfl, fun w' _ => rfl⟩
        refine AllOk.cons ?_ ?_
        · exact fun γ => ⟨rfl, fun w' _ => rfl⟩
        exact trivial
      intro γ w17 l hM hl
      have M17 : Mm w17 [(γ14_2, cells6 bdN), (γs3, thr k8 k1 bdN), (0, dtab)] := H16.out.1.grow hM (Nat.le_refl _) hl [] rfl (by decide)
      have B17 : Below w.heap.size w w17 := H16.out.2.trans (hM.below.mono H16.out.2.size)
      clear hM hl l H16
      clear γ
      have H17 : Hid (_ ∧ _) := ⟨M17, B17⟩
      clear M17 B17
      refine rest_at (l := []) rfl ?_
      refine rest_nil ?_
      refine then_normal ?_
      refine wp_seq ?_
      refine walk_seq 6 [.quiet (.pointer none), .quiet (.bool false), .quiet (.bool false), .quiet (.int .i64 2), .quiet (.bool false), .quiet (.bool false)] (fun w' => Mm w' [(γ14_2, cells6 bdN), (γs3, thr k8 k1 bdN), (0, dtab)]) ?pre16 ?F16 ?hpre16 (fun γ => ?hF16) (by kernel_rfl) ?hL16 ?hS16 ?ho16 ?he16
      case hpre16 =>
        simp only [List.take_succ_cons, List.take_zero]
        exact rfl
      case hF16 =>
        simp only [fill, Kind.val, Act.put, List.setIfInBounds_toArray, List.set_cons_zero, List.set_cons_succ]
        exact rfl
      case hL16 => exact trivial
      case hS16 => exact fun w' hb => H17.out.1.below hb
      case ho16 =>
        refine AllOk.cons ?_ ?_
        · exact fun γ => ⟨rfl, fun w' _ => rfl⟩
        refine AllOk.cons ?_ ?_
        · (refine fun γ => ⟨rfl, fun w' h => ?_⟩; clear h; go_simp)
        refine AllOk.cons ?_ ?_
        · exact fun γ => ⟨rfl, fun w' _ => rfl⟩
        refine AllOk.cons ?_ ?_
        · exact fun γ => ⟨rfl, fun w' _ => rfl⟩
        refine AllOk.cons ?_ ?_
        · (refine fun γ => ⟨rfl, fun w' h => ?_⟩; clear h; go_simp)
        refine AllOk.cons ?_ ?_
        · (refine fun γ => ⟨rfl, fun w' h => ?_⟩; clear h; go_simp)
        exact trivial
      intro γ w18 l hM hl
      have M18 : Mm w18 [(γ14_2, cells6 bdN), (γs3, thr k8 k1 bdN), (0, dtab)] := H17.out.1.grow hM (Nat.le_refl _) hl [] rfl (by decide)
      have B18 : Below w.heap.size w w18 := H17.out.2.trans (hM.below.mono H17.out.2.size)
      clear hM hl l H17
      clear γ
      have H18 : Hid (_ ∧ _) := ⟨M18, B18⟩
      clear M18 B18
      refine rest_at (l := []) rfl ?_
      refine rest_nil ?_
      refine then_normal ?_
      refine wp_cond_false rfl ?_
      refine wp_skip ?_
      refine block_normal ?_
      refine then_normal ?_
      refine walk_seq 1 [.quiet (.int .i64 3)] (fun w' => Mm w' [(γ14_2, cells6 bdN), (γs3, thr k8 k1 bdN), (0, dtab)]) ?pre17 ?F17 ?hpre17 (fun γ => ?hF17) (by kernel_rfl) ?hL17 ?hS17 ?ho17 ?he17
      case hpre17 =>
        simp only [List.take_succ_cons, List.take_zero]
        exact rfl
      case hF17 =>
        simp only [fill, Kind.val, Act.put, List.setIfInBounds_toArray, List.set_cons_zero, List.set_cons_succ]
        exact rfl
      case hL17 => exact trivial
      case hS17 => exact fun w' hb => H18.out.1.below hb
      case ho17 =>
        refine AllOk.cons ?_ ?_
        · (refine fun γ => ⟨rfl, fun w' h => ?_⟩; clear h; go_simp; rw [IntKind.wrap_i64]; omega)
        exact trivial
      intro γ w19 l hM hl
      have M19 : Mm w19 [(γ14_2, cells6 bdN), (γs3, thr k8 k1 bdN), (0, dtab)] := H18.out.1.grow hM (Nat.le_refl _) hl [] rfl (by decide)
      have B19 : Below w.heap.size w w19 := H18.out.2.trans (hM.below.mono H18.out.2.size)
      clear hM hl l H18
      clear γ
      have H19 : Hid (_ ∧ _) := ⟨M19, B19⟩
      clear M19 B19
      refine rest_at (l := [1]) rfl ?_
      refine rest_set (d := 28) rfl rfl rfl rfl ?_
      simp only [Act.put, List.setIfInBounds_toArray, List.set_cons_zero, List.set_cons_succ]
      refine rest_nil ?_
      refine then_normal ?_
      exact ⟨3, ⟨(slotfn [s0 0, undef, PT γ14_2 0, .pointer none, .int .i64 2, undef, undef, undef, undef, undef, undef, undef, undef, undef, undef, undef, undef, undef, undef, undef, undef, undef, undef, undef, undef, undef, undef, undef, undef, .bool true, PT γs3 12, N bdN, .tuple #[.pointer none, .int .i64 2], N bdN, .tuple #[.pointer none, .int .i64 2], .pointer none, .int .i64 2, .pointer none, .bool false, .bool false, .int .i64 2, .bool false, .bool false, .int .i64 3]), rfl, ⟨H19.out.1.tail, H19.out.2⟩, by omega⟩, by omega⟩
  have hi2 : i = 3 := by omega
  subst hi2
  refine wp_seq ?_
  refine walk_seq 1 [.quiet (.bool false)] (fun w' => Mm w' [(γs3, thr k8 k1 bdN), (0, dtab)]) ?pre18 ?F18 ?hpre18 (fun γ => ?hF18) (by kernel_rfl) ?hL18 ?hS18 ?ho18 ?he18
  case hpre18 =>
    simp only [List.take_succ_cons, List.take_zero]
    exact rfl
  case hF18 =>
    simp only [fill, Kind.val, Act.put, List.setIfInBounds_toArray, List.set_cons_zero, List.set_cons_succ]
    exact rfl
  case hL18 => exact trivial
  case hS18 => exact fun w' hb => H4.out.1.below hb
  case ho18 =>
    refine AllOk.cons ?_ ?_
    · (refine fun γ => ⟨rfl, fun w' h => ?_⟩; clear h; go_simp)
    exact trivial
  intro γ w20 l hM hl
  have M20 : Mm w20 [(γs3, thr k8 k1 bdN), (0, dtab)] := H4.out.1.grow hM (Nat.le_refl _) hl [] rfl (by decide)
  have B20 : Below w.heap.size w w20 := H4.out.2.trans (hM.below.mono H4.out.2.size)
  clear hM hl l H4
  clear γ
  have H20 : Hid (_ ∧ _) := ⟨M20, B20⟩
  clear M20 B20
  refine rest_at (l := []) rfl ?_
  refine rest_nil ?_
  refine then_normal ?_
  refine wp_seq ?_
  refine wp_cond_false rfl ?_
  refine wp_exit ?_
  repeat refine then_exit ?_
  refine block_exit ?_
  refine then_normal ?_
  refine wp_seq ?_
  refine walk_seq 3 [.born (fun g => PT g 0) (modc m7), .born (fun g => PT g 0) (modc m9), .born (fun g => PT g 0) (modc m13)] (fun w' => Mm w' [(γs3, thr k8 k1 bdN), (0, dtab)]) ?pre19 ?F19 ?hpre19 (fun γ => ?hF19) (by kernel_rfl) ?hL19 ?hS19 ?ho19 ?he19
  case hpre19 =>
    simp only [List.take_succ_cons, List.take_zero]
    exact rfl
  case hF19 =>
    simp only [fill, Kind.val, Act.put, List.setIfInBounds_toArray, List.set_cons_zero, List.set_cons_succ]
    exact rfl
  case hL19 => exact trivial
  case hS19 => exact fun w' hb => H20.out.1.below hb
  case ho19 =>
    refine AllOk.cons ?_ ?_
    · exact fun γ => ⟨rfl, fun w' h => ⟨17, #[.int .u64 7], exec_call rfl call17 rfl (by simp only [List.map_toArray, List.map_cons, List.map_nil]; rfl), C14.out w'⟩⟩
    refine AllOk.cons ?_ ?_
    · exact fun γ => ⟨rfl, fun w' h => ⟨17, #[.int .u64 9], exec_call rfl call17 rfl (by simp only [List.map_toArray, List.map_cons, List.map_nil]; rfl), C15.out w'⟩⟩
    refine AllOk.cons ?_ ?_
    · exact fun γ => ⟨rfl, fun w' h => ⟨17, #[.int .u64 13], exec_call rfl call17 rfl (by simp only [List.map_toArray, List.map_cons, List.map_nil]; rfl), C16.out w'⟩⟩
    exact trivial
  intro γ w21 l hM hl
  have M21 : Mm w21 [(γ 0, modc m7), (γ 1, modc m9), (γ 2, modc m13), (γs3, thr k8 k1 bdN), (0, dtab)] := H20.out.1.grow hM (Nat.le_refl _) hl [0, 1, 2] rfl (by decide)
  have B21 : Below w.heap.size w w21 := H20.out.2.trans (hM.below.mono H20.out.2.size)
  have o19_0 : Hid (w.heap.size ≤ γ 0) := Nat.le_trans H20.out.2.size (hM.fin (Nat.le_refl _) hl (i := 0) rfl).2.1
  have o19_1 : Hid (w.heap.size ≤ γ 1) := Nat.le_trans H20.out.2.size (hM.fin (Nat.le_refl _) hl (i := 1) rfl).2.1
  have o19_2 : Hid (w.heap.size ≤ γ 2) := Nat.le_trans H20.out.2.size (hM.fin (Nat.le_refl _) hl (i := 2) rfl).2.1
  clear hM hl l H20
  generalize γ 0 = γ19_0 at M21 o19_0 ⊢
  generalize γ 1 = γ19_1 at M21 o19_1 ⊢
  generalize γ 2 = γ19_2 at M21 o19_2 ⊢
  clear γ
  have H21 : Hid (_ ∧ _) := ⟨M21, B21⟩
  clear M21 B21
  refine rest_at (l := [3, 4, 5]) rfl ?_
  refine rest_set (d := 5) rfl rfl rfl rfl ?_
  simp only [Act.put, List.setIfInBounds_toArray, List.set_cons_zero, List.set_cons_succ]
  refine rest_set (d := 6) rfl rfl rfl rfl ?_
  simp only [Act.put, List.setIfInBounds_toArray, List.set_cons_zero, List.set_cons_succ]
  refine rest_set (d := 7) rfl rfl rfl rfl ?_
  simp only [Act.put, List.setIfInBounds_toArray, List.set_cons_zero, List.set_cons_succ]
  refine rest_nil ?_
  refine then_normal ?_
  refine wp_seq ?_
  refine wp_seq ?_
  refine walk_seq 10 [.quiet (PT γ19_0 0), .quiet (.bool false), .quiet (.bool false), .quiet (PT γ19_1 0), .quiet (.bool false), .quiet (.bool false), .quiet (.bool false), .quiet (PT γ19_2 0), .quiet (.bool false), .quiet (.bool false)] (fun w' => Mm w' [(γ19_0, modc m7), (γ19_1, modc m9), (γ19_2, modc m13), (γs3, thr k8 k1 bdN), (0, dtab)]) ?pre20 ?F20 ?hpre20 (fun γ => ?hF20) (by kernel_rfl) ?hL20 ?hS20 ?ho20 ?he20
  case hpre20 =>
    simp only [List.take_succ_cons, List.take_zero]
    exact rfl
  case hF20 =>
    simp only [fill, Kind.val, Act.put, List.setIfInBounds_toArray, List.set_cons_zero, List.set_cons_succ]
    exact rfl
  case hL20 => exact trivial
  case hS20 => exact fun w' hb => H21.out.1.below hb
  case ho20 =>
    refine AllOk.cons ?_ ?_
    · exact fun γ => ⟨rfl, fun w' _ => rfl⟩
    refine AllOk.cons ?_ ?_
    · (refine fun γ => ⟨rfl, fun w' h => ?_⟩; clear h; go_simp)
    refine AllOk.cons ?_ ?_
    · exact fun γ => ⟨rfl, fun w' _ => rfl⟩
    refine AllOk.cons ?_ ?_
    · exact fun γ => ⟨rfl, fun w' _ => rfl⟩
    refine AllOk.cons ?_ ?_
    · (refine fun γ => ⟨rfl, fun w' h => ?_⟩; clear h; go_simp)
    refine AllOk.cons ?_ ?_
    · (refine fun γ => ⟨rfl, fun w' h => ?_⟩; clear h; go_simp)
    refine AllOk.cons ?_ ?_
    · exact fun γ => ⟨rfl, fun w' _ => rfl⟩
    refine AllOk.cons ?_ ?_
    · exact fun γ => ⟨rfl, fun w' _ => rfl⟩
    refine AllOk.cons ?_ ?_
    · (refine fun γ => ⟨rfl, fun w' h => ?_⟩; clear h; go_simp)
    refine AllOk.cons ?_ ?_
    · (refine fun γ => ⟨rfl, fun w' h => ?_⟩; clear h; go_simp)
    exact trivial
  intro γ w22 l hM hl
  have M22 : Mm w22 [(γ19_0, modc m7), (γ19_1, modc m9), (γ19_2, modc m13), (γs3, thr k8 k1 bdN), (0, dtab)] := H21.out.1.grow hM (Nat.le_refl _) hl [] rfl (by decide)
  have B22 : Below w.heap.size w w22 := H21.out.2.trans (hM.below.mono H21.out.2.size)
  clear hM hl l H21
  clear γ
  have H22 : Hid (_ ∧ _) := ⟨M22, B22⟩
  clear M22 B22
  refine rest_at (l := []) rfl ?_
  refine rest_nil ?_
  refine then_normal ?_
  refine wp_cond_false rfl ?_
  refine wp_skip ?_
  refine then_normal ?_
  refine wp_seq ?_
  refine walk_seq 9 [.quiet (PT γ19_0 0), .call (N k7), .call (.tuple #[N z1, .int .i64 6]), .quiet (.tuple #[N z1, .int .i64 6]), .quiet (N z1), .quiet (.int .i64 6), .made zero6 24, .laid 6 zero6 (cells6 z1), .quiet (.int .i64 6)] (fun w' => Mm w' [(γ19_0, modc m7), (γ19_1, modc m9), (γ19_2, modc m13), (γs3, thr k8 k1 bdN), (0, dtab)]) ?pre21 ?F21 ?hpre21 (fun γ => ?hF21) (by kernel_rfl) ?hL21 ?hS21 ?ho21 ?he21
  case hpre21 =>
    simp only [List.take_succ_cons, List.take_zero]
    exact rfl
  case hF21 =>
    simp only [fill, Kind.val, Act.put, List.setIfInBounds_toArray, List.set_cons_zero, List.set_cons_succ]
    exact rfl
  case hL21 => exact ⟨⟨_, rfl⟩, trivial⟩
  case hS21 => exact fun w' hb => H22.out.1.below hb
  case ho21 =>
    refine AllOk.cons ?_ ?_
    · exact fun γ => ⟨rfl, fun w' _ => rfl⟩
    refine AllOk.cons ?_ ?_
    · exact fun γ => ⟨rfl, fun w' h => ⟨11, #[.int .u64 7], exec_call rfl call11 rfl (by simp only [List.map_toArray, List.map_cons, List.map_nil]; rfl), C9.out w'⟩⟩
    refine AllOk.cons ?_ ?_
    · exact fun γ => ⟨rfl, fun w' h => ⟨12, #[PT γ19_0 0, N k7], exec_call rfl call12 rfl (by simp only [List.map_toArray, List.map_cons, List.map_nil]; rfl), C17.out _ w' (h.two 0 4 rfl rfl (by decide))⟩⟩
    refine AllOk.cons ?_ ?_
    · exact fun γ => ⟨rfl, fun w' _ => rfl⟩
    refine AllOk.cons ?_ ?_
    · (refine fun γ => ⟨rfl, fun w' h => ?_⟩; clear h; go_simp)
    refine AllOk.cons ?_ ?_
    · (refine fun γ => ⟨rfl, fun w' h => ?_⟩; clear h; go_simp)
    refine AllOk.cons ?_ ?_
    · exact fun γ => ⟨rfl, fun w' => exec_made6 rfl⟩
    refine AllOk.cons ?_ ?_
    · exact fun γ => ⟨rfl, rfl, rfl, fun w' h => exec_laid6 h rfl rfl rfl⟩
    refine AllOk.cons ?_ ?_
    · exact fun γ => ⟨rfl, fun w' _ => rfl⟩
    exact trivial
  intro γ w23 l hM hl
  have M23 : Mm w23 [(γ 6, cells6 z1), (γ19_0, modc m7), (γ19_1, modc m9), (γ19_2, modc m13), (γs3, thr k8 k1 bdN), (0, dtab)] := H22.out.1.grow hM (Nat.le_refl _) hl [6] rfl (by decide)
  have B23 : Below w.heap.size w w23 := H22.out.2.trans (hM.below.mono H22.out.2.size)
  have o21_6 : Hid (w.heap.size ≤ γ 6) := Nat.le_trans H22.out.2.size (hM.fin (Nat.le_refl _) hl (i := 6) rfl).2.1
  clear hM hl l H22
  generalize γ 6 = γ21_6 at M23 o21_6 ⊢
  clear γ
  have H23 : Hid (_ ∧ _) := ⟨M23, B23⟩
  clear M23 B23
  refine rest_at (l := []) rfl ?_
  refine rest_nil ?_
  refine then_normal ?_
  refine wp_seq ?_
  refine walk_seq 9 [.quiet (PT γ19_0 0), .call (N k2), .call (.tuple #[N k3, .int .i64 0]), .quiet (.tuple #[N k3, .int .i64 0]), .quiet (N k3), .quiet (.int .i64 0), .made zero6 24, .laid 6 zero6 (cells6 k3), .quiet (.int .i64 0)] (fun w' => Mm w' [(γ21_6, cells6 z1), (γ19_0, modc m7), (γ19_1, modc m9), (γ19_2, modc m13), (γs3, thr k8 k1 bdN), (0, dtab)]) ?pre22 ?F22 ?hpre22 (fun γ => ?hF22) (by kernel_rfl) ?hL22 ?hS22 ?ho22 ?he22
  case hpre22 =>
    simp only [List.take_succ_cons, List.take_zero]
    exact rfl
  case hF22 =>
    simp only [fill, Kind.val, Act.put, List.setIfInBounds_toArray, List.set_cons_zero, List.set_cons_succ]
    exact rfl
  case hL22 => exact ⟨⟨_, rfl⟩, trivial⟩
  case hS22 => exact fun w' hb => H23.out.1.below hb
  case ho22 =>
    refine AllOk.cons ?_ ?_
    · exact fun γ => ⟨rfl, fun w' _ => rfl⟩
    refine AllOk.cons ?_ ?_
    · exact fun γ => ⟨rfl, fun w' h => ⟨11, #[.int .u64 2], exec_call rfl call11 rfl (by simp only [List.map_toArray, List.map_cons, List.map_nil]; rfl), C5.out w'⟩⟩
    refine AllOk.cons ?_ ?_
    · exact fun γ => ⟨rfl, fun w' h => ⟨15, #[PT γ19_0 0, N k2], exec_call rfl call15 rfl (by simp only [List.map_toArray, List.map_cons, List.map_nil]; rfl), C18.out _ w' (h.one 1 rfl)⟩⟩
    refine AllOk.cons ?_ ?_
    · exact fun γ => ⟨rfl, fun w' _ => rfl⟩
    refine AllOk.cons ?_ ?_
    · (refine fun γ => ⟨rfl, fun w' h => ?_⟩; clear h; go_simp)
    refine AllOk.cons ?_ ?_
    · (refine fun γ => ⟨rfl, fun w' h => ?_⟩; clear h; go_simp)
    refine AllOk.cons ?_ ?_
    · exact fun γ => ⟨rfl, fun w' => exec_made6 rfl⟩
    refine AllOk.cons ?_ ?_
    · exact fun γ => ⟨rfl, rfl, rfl, fun w' h => exec_laid6 h rfl rfl rfl⟩
    refine AllOk.cons ?_ ?_
    · exact fun γ => ⟨rfl, fun w' _ => rfl⟩
    exact trivial
  intro γ w24 l hM hl
  have M24 : Mm w24 [(γ 6, cells6 k3), (γ21_6, cells6 z1), (γ19_0, modc m7), (γ19_1, modc m9), (γ19_2, modc m13), (γs3, thr k8 k1 bdN), (0, dtab)] := H23.out.1.grow hM (Nat.le_refl _) hl [6] rfl (by decide)
  have B24 : Below w.heap.size w w24 := H23.out.2.trans (hM.below.mono H23.out.2.size)
  have o22_6 : Hid (w.heap.size ≤ γ 6) := Nat.le_trans H23.out.2.size (hM.fin (Nat.le_refl _) hl (i := 6) rfl).2.1
  clear hM hl l H23
  generalize γ 6 = γ22_6 at M24 o22_6 ⊢
  clear γ
  have H24 : Hid (_ ∧ _) := ⟨M24, B24⟩
  clear M24 B24
  refine rest_at (l := []) rfl ?_
  refine rest_nil ?_
  refine then_normal ?_
  refine wp_seq ?_
  refine walk_seq 9 [.quiet (PT γ19_0 0), .call (N k3), .call (.tuple #[N z2, .int .i64 6]), .quiet (.tuple #[N z2, .int .i64 6]), .quiet (N z2), .quiet (.int .i64 6), .made zero6 24, .laid 6 zero6 (cells6 z2), .quiet (.int .i64 6)] (fun w' => Mm w' [(γ22_6, cells6 k3), (γ21_6, cells6 z1), (γ19_0, modc m7), (γ19_1, modc m9), (γ19_2, modc m13), (γs3, thr k8 k1 bdN), (0, dtab)]) ?pre23 ?F23 ?hpre23 (fun γ => ?hF23) (by kernel_rfl) ?hL23 ?hS23 ?ho23 ?he23
  case hpre23 =>
    simp only [List.take_succ_cons, List.take_zero]
    exact rfl
  case hF23 =>
    simp only [fill, Kind.val, Act.put, List.setIfInBounds_toArray, List.set_cons_zero, List.set_cons_succ]
    exact rfl
  case hL23 => exact ⟨⟨_, rfl⟩, trivial⟩
  case hS23 => exact fun w' hb => H24.out.1.below hb
  case ho23 =>
    refine AllOk.cons ?_ ?_
    · exact fun γ => ⟨rfl, fun w' _ => rfl⟩
    refine AllOk.cons ?_ ?_
    · exact fun γ => ⟨rfl, fun w' h => ⟨11, #[.int .u64 3], exec_call rfl call11 rfl (by simp only [List.map_toArray, List.map_cons, List.map_nil]; rfl), C6.out w'⟩⟩
    refine AllOk.cons ?_ ?_
    · exact fun γ => ⟨rfl, fun w' h => ⟨15, #[PT γ19_0 0, N k3], exec_call rfl call15 rfl (by simp only [List.map_toArray, List.map_cons, List.map_nil]; rfl), C19.out _ w' (h.one 2 rfl)⟩⟩
    refine AllOk.cons ?_ ?_
    · exact fun γ => ⟨rfl, fun w' _ => rfl⟩
    refine AllOk.cons ?_ ?_
    · (refine fun γ => ⟨rfl, fun w' h => ?_⟩; clear h; go_simp)
    refine AllOk.cons ?_ ?_
    · (refine fun γ => ⟨rfl, fun w' h => ?_⟩; clear h; go_simp)
    refine AllOk.cons ?_ ?_
    · exact fun γ => ⟨rfl, fun w' => exec_made6 rfl⟩
    refine AllOk.cons ?_ ?_
    · exact fun γ => ⟨rfl, rfl, rfl, fun w' h => exec_laid6 h rfl rfl rfl⟩
    refine AllOk.cons ?_ ?_
    · exact fun γ => ⟨rfl, fun w' _ => rfl⟩
    exact trivial
  intro γ w25 l hM hl
  have M25 : Mm w25 [(γ 6, cells6 z2), (γ22_6, cells6 k3), (γ21_6, cells6 z1), (γ19_0, modc m7), (γ19_1, modc m9), (γ19_2, modc m13), (γs3, thr k8 k1 bdN), (0, dtab)] := H24.out.1.grow hM (Nat.le_refl _) hl [6] rfl (by decide)
  have B25 : Below w.heap.size w w25 := H24.out.2.trans (hM.below.mono H24.out.2.size)
  have o23_6 : Hid (w.heap.size ≤ γ 6) := Nat.le_trans H24.out.2.size (hM.fin (Nat.le_refl _) hl (i := 6) rfl).2.1
  clear hM hl l H24
  generalize γ 6 = γ23_6 at M25 o23_6 ⊢
  clear γ
  have H25 : Hid (_ ∧ _) := ⟨M25, B25⟩
  clear M25 B25
  refine rest_at (l := []) rfl ?_
  refine rest_nil ?_
  refine then_normal ?_
  refine wp_seq ?_
  refine walk_seq 9 [.quiet (PT γ19_1 0), .call (N k3), .call (.tuple #[N z3, .int .i64 6]), .quiet (.tuple #[N z3, .int .i64 6]), .quiet (N z3), .quiet (.int .i64 6), .made zero6 24, .laid 6 zero6 (cells6 z3), .quiet (.int .i64 6)] (fun w' => Mm w' [(γ23_6, cells6 z2), (γ22_6, cells6 k3), (γ21_6, cells6 z1), (γ19_0, modc m7), (γ19_1, modc m9), (γ19_2, modc m13), (γs3, thr k8 k1 bdN), (0, dtab)]) ?pre24 ?F24 ?hpre24 (fun γ => ?hF24) (by kernel_rfl) ?hL24 ?hS24 ?ho24 ?he24
  case hpre24 =>
    simp only [List.take_succ_cons, List.take_zero]
    exact rfl
  case hF24 =>
    simp only [fill, Kind.val, Act.put, List.setIfInBounds_toArray, List.set_cons_zero, List.set_cons_succ]
    exact rfl
  case hL24 => exact ⟨⟨_, rfl⟩, trivial⟩
  case hS24 => exact fun w' hb => H25.out.1.below hb
  case ho24 =>
    refine AllOk.cons ?_ ?_
    · exact fun γ => ⟨rfl, fun w' _ => rfl⟩
    refine AllOk.cons ?_ ?_
    · exact fun γ => ⟨rfl, fun w' h => ⟨11, #[.int .u64 3], exec_call rfl call11 rfl (by simp only [List.map_toArray, List.map_cons, List.map_nil]; rfl), C6.out w'⟩⟩
    refine AllOk.cons ?_ ?_
    · exact fun γ => ⟨rfl, fun w' h => ⟨12, #[PT γ19_1 0, N k3], exec_call rfl call12 rfl (by simp only [List.map_toArray, List.map_cons, List.map_nil]; rfl), C20.out _ w' (h.two 4 7 rfl rfl (by decide))⟩⟩
    refine AllOk.cons ?_ ?_
    · exact fun γ => ⟨rfl, fun w' _ => rfl⟩
    refine AllOk.cons ?_ ?_
    · (refine fun γ => ⟨rfl, fun w' h => ?_⟩; clear h; go_simp)
    refine AllOk.cons ?_ ?_
    · (refine fun γ => ⟨rfl, fun w' h => ?_⟩; clear h; go_simp)
    refine AllOk.cons ?_ ?_
    · exact fun γ => ⟨rfl, fun w' => exec_made6 rfl⟩
    refine AllOk.cons ?_ ?_
    · exact fun γ => ⟨rfl, rfl, rfl, fun w' h => exec_laid6 h rfl rfl rfl⟩
    refine AllOk.cons ?_ ?_
    · exact fun γ => ⟨rfl, fun w' _ => rfl⟩
    exact trivial
  intro γ w26 l hM hl
  have M26 : Mm w26 [(γ 6, cells6 z3), (γ23_6, cells6 z2), (γ22_6, cells6 k3), (γ21_6, cells6 z1), (γ19_0, modc m7), (γ19_1, modc m9), (γ19_2, modc m13), (γs3, thr k8 k1 bdN), (0, dtab)] := H25.out.1.grow hM (Nat.le_refl _) hl [6] rfl (by decide)
  have B26 : Below w.heap.size w w26 := H25.out.2.trans (hM.below.mono H25.out.2.size)
  have o24_6 : Hid (w.heap.size ≤ γ 6) := Nat.le_trans H25.out.2.size (hM.fin (Nat.le_refl _) hl (i := 6) rfl).2.1
  clear hM hl l H25
  generalize γ 6 = γ24_6 at M26 o24_6 ⊢
  clear γ
  have H26 : Hid (_ ∧ _) := ⟨M26, B26⟩
  clear M26 B26
  refine rest_at (l := []) rfl ?_
  refine rest_nil ?_
  refine then_normal ?_
  refine wp_seq ?_
  refine walk_seq 9 [.quiet (PT γ19_1 0), .call (N k2), .call (.tuple #[N k5, .int .i64 0]), .quiet (.tuple #[N k5, .int .i64 0]), .quiet (N k5), .quiet (.int .i64 0), .made zero6 24, .laid 6 zero6 (cells6 k5), .quiet (.int .i64 0)] (fun w' => Mm w' [(γ24_6, cells6 z3), (γ23_6, cells6 z2), (γ22_6, cells6 k3), (γ21_6, cells6 z1), (γ19_0, modc m7), (γ19_1, modc m9), (γ19_2, modc m13), (γs3, thr k8 k1 bdN), (0, dtab)]) ?pre25 ?F25 ?hpre25 (fun γ => ?hF25) (by kernel_rfl) ?hL25 ?hS25 ?ho25 ?he25
  case hpre25 =>
    simp only [List.take_succ_cons, List.take_zero]
    exact rfl
  case hF25 =>
    simp only [fill, Kind.val, Act.put, List.setIfInBounds_toArray, List.set_cons_zero, List.set_cons_succ]
    exact rfl
  case hL25 => exact ⟨⟨_, rfl⟩, trivial⟩
  case hS25 => exact fun w' hb => H26.out.1.below hb
  case ho25 =>
    refine AllOk.cons ?_ ?_
    · exact fun γ => ⟨rfl, fun w' _ => rfl⟩
    refine AllOk.cons ?_ ?_
    · exact fun γ => ⟨rfl, fun w' h => ⟨11, #[.int .u64 2], exec_call rfl call11 rfl (by simp only [List.map_toArray, List.map_cons, List.map_nil]; rfl), C5.out w'⟩⟩
    refine AllOk.cons ?_ ?_
    · exact fun γ => ⟨rfl, fun w' h => ⟨12, #[PT γ19_1 0, N k2], exec_call rfl call12 rfl (by simp only [List.map_toArray, List.map_cons, List.map_nil]; rfl), C21.out _ w' (h.two 5 8 rfl rfl (by decide))⟩⟩
    refine AllOk.cons ?_ ?_
    · exact fun γ => ⟨rfl, fun w' _ => rfl⟩
    refine AllOk.cons ?_ ?_
    · (refine fun γ => ⟨rfl, fun w' h => ?_⟩; clear h; go_simp)
    refine AllOk.cons ?_ ?_
    · (refine fun γ => ⟨rfl, fun w' h => ?_⟩; clear h; go_simp)
    refine AllOk.cons ?_ ?_
    · exact fun γ => ⟨rfl, fun w' => exec_made6 rfl⟩
    refine AllOk.cons ?_ ?_
    · exact fun γ => ⟨rfl, rfl, rfl, fun w' h => exec_laid6 h rfl rfl rfl⟩
    refine AllOk.cons ?_ ?_
    · exact fun γ => ⟨rfl, fun w' _ => rfl⟩
    exact trivial
  intro γ w27 l hM hl
  have M27 : Mm w27 [(γ 6, cells6 k5), (γ24_6, cells6 z3), (γ23_6, cells6 z2), (γ22_6, cells6 k3), (γ21_6, cells6 z1), (γ19_0, modc m7), (γ19_1, modc m9), (γ19_2, modc m13), (γs3, thr k8 k1 bdN), (0, dtab)] := H26.out.1.grow hM (Nat.le_refl _) hl [6] rfl (by decide)
  have B27 : Below w.heap.size w w27 := H26.out.2.trans (hM.below.mono H26.out.2.size)
  have o25_6 : Hid (w.heap.size ≤ γ 6) := Nat.le_trans H26.out.2.size (hM.fin (Nat.le_refl _) hl (i := 6) rfl).2.1
  clear hM hl l H26
  generalize γ 6 = γ25_6 at M27 o25_6 ⊢
  clear γ
  have H27 : Hid (_ ∧ _) := ⟨M27, B27⟩
  clear M27 B27
  refine rest_at (l := []) rfl ?_
  refine rest_nil ?_
  refine then_normal ?_
  refine wp_seq ?_
  refine walk_seq 9 [.quiet (PT γ19_2 0), .call (N k4), .call (.tuple #[N z4, .int .i64 2]), .quiet (.tuple #[N z4, .int .i64 2]), .quiet (N z4), .quiet (.int .i64 2), .made zero6 24, .laid 6 zero6 (cells6 z4), .quiet (.int .i64 2)] (fun w' => Mm w' [(γ25_6, cells6 k5), (γ24_6, cells6 z3), (γ23_6, cells6 z2), (γ22_6, cells6 k3), (γ21_6, cells6 z1), (γ19_0, modc m7), (γ19_1, modc m9), (γ19_2, modc m13), (γs3, thr k8 k1 bdN), (0, dtab)]) ?pre26 ?F26 ?hpre26 (fun γ => ?hF26) (by kernel_rfl) ?hL26 ?hS26 ?ho26 ?he26
  case hpre26 =>
    simp only [List.take_succ_cons, List.take_zero]
    exact rfl
  case hF26 =>
    simp only [fill, Kind.val, Act.put, List.setIfInBounds_toArray, List.set_cons_zero, List.set_cons_succ]
    exact rfl
  case hL26 => exact ⟨⟨_, rfl⟩, trivial⟩
  case hS26 => exact fun w' hb => H27.out.1.below hb
  case ho26 =>
    refine AllOk.cons ?_ ?_
    · exact fun γ => ⟨rfl, fun w' _ => rfl⟩
    refine AllOk.cons ?_ ?_
    · exact fun γ => ⟨rfl, fun w' h => ⟨11, #[.int .u64 4], exec_call rfl call11 rfl (by simp only [List.map_toArray, List.map_cons, List.map_nil]; rfl), C7.out w'⟩⟩
    refine AllOk.cons ?_ ?_
    · exact fun γ => ⟨rfl, fun w' h => ⟨15, #[PT γ19_2 0, N k4], exec_call rfl call15 rfl (by simp only [List.map_toArray, List.map_cons, List.map_nil]; rfl), C22.out _ w' (h.one 7 rfl)⟩⟩
    refine AllOk.cons ?_ ?_
    · exact fun γ => ⟨rfl, fun w' _ => rfl⟩
    refine AllOk.cons ?_ ?_
    · (refine fun γ => ⟨rfl, fun w' h => ?_⟩; clear h; go_simp)
    refine AllOk.cons ?_ ?_
    · (refine fun γ => ⟨rfl, fun w' h => ?_⟩; clear h; go_simp)
    refine AllOk.cons ?_ ?_
    · exact fun γ => ⟨rfl, fun w' => exec_made6 rfl⟩
    refine AllOk.cons ?_ ?_
    · exact fun γ => ⟨rfl, rfl, rfl, fun w' h => exec_laid6 h rfl rfl rfl⟩
    refine AllOk.cons ?_ ?_
    · exact fun γ => ⟨rfl, fun w' _ => rfl⟩
    exact trivial
  intro γ w28 l hM hl
  have M28 : Mm w28 [(γ 6, cells6 z4), (γ25_6, cells6 k5), (γ24_6, cells6 z3), (γ23_6, cells6 z2), (γ22_6, cells6 k3), (γ21_6, cells6 z1), (γ19_0, modc m7), (γ19_1, modc m9), (γ19_2, modc m13), (γs3, thr k8 k1 bdN), (0, dtab)] := H27.out.1.grow hM (Nat.le_refl _) hl [6] rfl (by decide)
  have B28 : Below w.heap.size w w28 := H27.out.2.trans (hM.below.mono H27.out.2.size)
  have o26_6 : Hid (w.heap.size ≤ γ 6) := Nat.le_trans H27.out.2.size (hM.fin (Nat.le_refl _) hl (i := 6) rfl).2.1
  clear hM hl l H27
  generalize γ 6 = γ26_6 at M28 o26_6 ⊢
  clear γ
  have H28 : Hid (_ ∧ _) := ⟨M28, B28⟩
  clear M28 B28
  refine rest_at (l := []) rfl ?_
  refine rest_nil ?_
  refine then_normal ?_
  refine wp_seq ?_
  refine walk_seq 6 [.call (N p0), .call (.string tpL), .call (N p1), .call (.string trL), .quiet (.string tpL), .quiet (.string trL)] (fun w' => Mm w' [(γ26_6, cells6 z4), (γ25_6, cells6 k5), (γ24_6, cells6 z3), (γ23_6, cells6 z2), (γ22_6, cells6 k3), (γ21_6, cells6 z1), (γ19_0, modc m7), (γ19_1, modc m9), (γ19_2, modc m13), (γs3, thr k8 k1 bdN), (0, dtab)]) ?pre27 ?F27 ?hpre27 (fun γ => ?hF27) (by kernel_rfl) ?hL27 ?hS27 ?ho27 ?he27
  case hpre27 =>
    simp only [List.take_succ_cons, List.take_zero]
    exact rfl
  case hF27 =>
    simp only [fill, Kind.val, Act.put, List.setIfInBounds_toArray, List.set_cons_zero, List.set_cons_succ]
    exact rfl
  case hL27 => exact trivial
  case hS27 => exact fun w' hb => H28.out.1.below hb
  case ho27 =>
    refine AllOk.cons ?_ ?_
    · exact fun γ => ⟨rfl, fun w' h => ⟨6, #[], exec_call rfl call6 rfl (by simp only [List.map_toArray, List.map_nil]), C1.out w'⟩⟩
    refine AllOk.cons ?_ ?_
    · exact fun γ => ⟨rfl, fun w' h => ⟨18, #[N p0], exec_call rfl call18 rfl (by simp only [List.map_toArray, List.map_cons, List.map_nil]; rfl), C23.out w'⟩⟩
    refine AllOk.cons ?_ ?_
    · exact fun γ => ⟨rfl, fun w' h => ⟨7, #[], exec_call rfl call7 rfl (by simp only [List.map_toArray, List.map_nil]), C2.out w'⟩⟩
    refine AllOk.cons ?_ ?_
    · exact fun γ => ⟨rfl, fun w' h => ⟨18, #[N p1], exec_call rfl call18 rfl (by simp only [List.map_toArray, List.map_cons, List.map_nil]; rfl), C24.out w'⟩⟩
    refine AllOk.cons ?_ ?_
    · exact fun γ => ⟨rfl, fun w' _ => rfl⟩
    refine AllOk.cons ?_ ?_
    · exact fun γ => ⟨rfl, fun w' _ => rfl⟩
    exact trivial
  intro γ w29 l hM hl
  have M29 : Mm w29 [(γ26_6, cells6 z4), (γ25_6, cells6 k5), (γ24_6, cells6 z3), (γ23_6, cells6 z2), (γ22_6, cells6 k3), (γ21_6, cells6 z1), (γ19_0, modc m7), (γ19_1, modc m9), (γ19_2, modc m13), (γs3, thr k8 k1 bdN), (0, dtab)] := H28.out.1.grow hM (Nat.le_refl _) hl [] rfl (by decide)
  have B29 : Below w.heap.size w w29 := H28.out.2.trans (hM.below.mono H28.out.2.size)
  clear hM hl l H28
  clear γ
  have H29 : Hid (_ ∧ _) := ⟨M29, B29⟩
  clear M29 B29
  refine rest_at (l := []) rfl ?_
  refine rest_nil ?_
  refine then_normal ?_
  refine wp_seq ?_
  refine walk_seq 7 [.quiet (.string tpL), .quiet (.bool true), .quiet (.bool true), .quiet (.string trL), .quiet (.bool true), .quiet (.bool true), .quiet (.bool true)] (fun w' => Mm w' [(γ26_6, cells6 z4), (γ25_6, cells6 k5), (γ24_6, cells6 z3), (γ23_6, cells6 z2), (γ22_6, cells6 k3), (γ21_6, cells6 z1), (γ19_0, modc m7), (γ19_1, modc m9), (γ19_2, modc m13), (γs3, thr k8 k1 bdN), (0, dtab)]) ?pre28 ?F28 ?hpre28 (fun γ => ?hF28) (by kernel_rfl) ?hL28 ?hS28 ?ho28 ?he28
  case hpre28 =>
    simp only [List.take_succ_cons, List.take_zero]
    exact rfl
  case hF28 =>
    simp only [fill, Kind.val, Act.put, List.setIfInBounds_toArray, List.set_cons_zero, List.set_cons_succ]
    exact rfl
  case hL28 => exact trivial
  case hS28 => exact fun w' hb => H29.out.1.below hb
  case ho28 =>
    refine AllOk.cons ?_ ?_
    · exact fun γ => ⟨rfl, fun w' _ => rfl⟩
    refine AllOk.cons ?_ ?_
    · exact fun γ => ⟨rfl, fun w' _ => ex_eqS rfl rfl rfl⟩
    refine AllOk.cons ?_ ?_
    · exact fun γ => ⟨rfl, fun w' _ => rfl⟩
    refine AllOk.cons ?_ ?_
    · exact fun γ => ⟨rfl, fun w' _ => rfl⟩
    refine AllOk.cons ?_ ?_
    · exact fun γ => ⟨rfl, fun w' _ => ex_eqS rfl rfl rfl⟩
    refine AllOk.cons ?_ ?_
    · (refine fun γ => ⟨rfl, fun w' h => ?_⟩; clear h; go_simp)
    refine AllOk.cons ?_ ?_
    · exact fun γ => ⟨rfl, fun w' _ => rfl⟩
    exact trivial
  intro γ w30 l hM hl
  have M30 : Mm w30 [(γ26_6, cells6 z4), (γ25_6, cells6 k5), (γ24_6, cells6 z3), (γ23_6, cells6 z2), (γ22_6, cells6 k3), (γ21_6, cells6 z1), (γ19_0, modc m7), (γ19_1, modc m9), (γ19_2, modc m13), (γs3, thr k8 k1 bdN), (0, dtab)] := H29.out.1.grow hM (Nat.le_refl _) hl [] rfl (by decide)
  have B30 : Below w.heap.size w w30 := H29.out.2.trans (hM.below.mono H29.out.2.size)
  clear hM hl l H29
  clear γ
  have H30 : Hid (_ ∧ _) := ⟨M30, B30⟩
  clear M30 B30
  refine rest_at (l := []) rfl ?_
  refine rest_nil ?_
  refine then_normal ?_
  refine wp_seq ?_
  refine walk_any (by kernel_rfl) 54 [.call (.bool true), .quiet (.bool true), .quiet (.int .i64 6), .quiet (.bool true), .quiet (.bool true), .quiet (.bool true), .quiet (N k3), .call (N k3), .quiet (.bool true), .quiet (.bool true), .quiet (.bool true), .quiet (.int .i64 0), .quiet (.bool true), .quiet (.bool true), .quiet (.bool true), .quiet (.int .i64 6), .quiet (.bool true), .quiet (.bool true), .quiet (.bool true), .quiet (.int .i64 6), .quiet (.bool true), .quiet (.bool true), .quiet (.bool true), .quiet (N k5), .call (N k5), .quiet (.bool true), .quiet (.bool true), .quiet (.bool true), .quiet (.int .i64 0), .quiet (.bool true), .quiet (.bool true), .quiet (.bool true), .quiet (.int .i64 2), .quiet (.bool true), .quiet (.bool true), .quiet (.bool true), .quiet (PT γ19_0 0), .call (N k0), .call (N k1), .call (N k1), .call (N k1), .quiet (.bool true), .quiet (.bool true), .quiet (.bool true), .quiet (PT γ19_0 0), .call (N k0), .call (N 0), .quiet (N 0), .quiet (.bool true), .quiet (.bool true), .quiet (.bool true), .quiet (.bool true), .quiet (.bool true), .quiet (.bool true)] (fun w' => Mm w' [(γ26_6, cells6 z4), (γ25_6, cells6 k5), (γ24_6, cells6 z3), (γ23_6, cells6 z2), (γ22_6, cells6 k3), (γ21_6, cells6 z1), (γ19_0, modc m7), (γ19_1, modc m9), (γ19_2, modc m13), (γs3, thr k8 k1 bdN), (0, dtab)]) ?pre29 ?F29 ?hpre29 (fun γ => ?hF29) (by kernel_rfl) ?hL29 ?hS29 ?ho29 ?he29
  case hpre29 =>
    simp only [List.take_succ_cons, List.take_zero]
    exact rfl
  case hF29 =>
    simp only [fill, Kind.val, Act.put, List.setIfInBounds_toArray, List.set_cons_zero, List.set_cons_succ]
    exact rfl
  case hL29 => exact trivial
  case hS29 => exact fun w' hb => H30.out.1.below hb
  case ho29 =>
    refine AllOk.cons ?_ ?_
    · exact fun γ => ⟨rfl, fun w' h => ⟨5, #[], exec_call rfl call5 rfl (by simp only [List.map_toArray, List.map_nil]), C0.out w' (h.one 10 rfl)⟩⟩
    refine AllOk.cons ?_ ?_
    · exact fun γ => ⟨rfl, fun w' _ => rfl⟩
    refine AllOk.cons ?_ ?_
    · exact fun γ => ⟨rfl, fun w' _ => rfl⟩
    refine AllOk.cons ?_ ?_
    · (refine fun γ => ⟨rfl, fun w' h => ?_⟩; clear h; go_simp)
    refine AllOk.cons ?_ ?_
    · (refine fun γ => ⟨rfl, fun w' h => ?_⟩; clear h; go_simp)
    refine AllOk.cons ?_ ?_
    · exact fun γ => ⟨rfl, fun w' _ => rfl⟩
    refine AllOk.cons ?_ ?_
    · exact fun γ => ⟨rfl, fun w' h => ex_load6 h 4 rfl rfl rfl rfl⟩
    refine AllOk.cons ?_ ?_
    · exact fun γ => ⟨rfl, fun w' h => ⟨11, #[.int .u64 3], exec_call rfl call11 rfl (by simp only [List.map_toArray, List.map_cons, List.map_nil]; rfl), C6.out w'⟩⟩
    refine AllOk.cons ?_ ?_
    · exact fun γ => ⟨rfl, fun w' _ => exec_eq6 e_k3 rfl rfl rfl⟩
    refine AllOk.cons ?_ ?_
    · (refine fun γ => ⟨rfl, fun w' h => ?_⟩; clear h; go_simp)
    refine AllOk.cons ?_ ?_
    · exact fun γ => ⟨rfl, fun w' _ => rfl⟩
    refine AllOk.cons ?_ ?_
    · exact fun γ => ⟨rfl, fun w' _ => rfl⟩
    refine AllOk.cons ?_ ?_
    · (refine fun γ => ⟨rfl, fun w' h => ?_⟩; clear h; go_simp)
    refine AllOk.cons ?_ ?_
    · (refine fun γ => ⟨rfl, fun w' h => ?_⟩; clear h; go_simp)
    refine AllOk.cons ?_ ?_
    · exact fun γ => ⟨rfl, fun w' _ => rfl⟩
    refine AllOk.cons ?_ ?_
    · exact fun γ => ⟨rfl, fun w' _ => rfl⟩
    refine AllOk.cons ?_ ?_
    · (refine fun γ => ⟨rfl, fun w' h => ?_⟩; clear h; go_simp)
    refine AllOk.cons ?_ ?_
    · (refine fun γ => ⟨rfl, fun w' h => ?_⟩; clear h; go_simp)
    refine AllOk.cons ?_ ?_
    · exact fun γ => ⟨rfl, fun w' _ => rfl⟩
    refine AllOk.cons ?_ ?_
    · exact fun γ => ⟨rfl, fun w' _ => rfl⟩
    refine AllOk.cons ?_ ?_
    · (refine fun γ => ⟨rfl, fun w' h => ?_⟩; clear h; go_simp)
    refine AllOk.cons ?_ ?_
    · (refine fun γ => ⟨rfl, fun w' h => ?_⟩; clear h; go_simp)
    refine AllOk.cons ?_ ?_
    · exact fun γ => ⟨rfl, fun w' _ => rfl⟩
    refine AllOk.cons ?_ ?_
    · exact fun γ => ⟨rfl, fun w' h => ex_load6 h 1 rfl rfl rfl rfl⟩
    refine AllOk.cons ?_ ?_
    · exact fun γ => ⟨rfl, fun w' h => ⟨11, #[.int .u64 5], exec_call rfl call11 rfl (by simp only [List.map_toArray, List.map_cons, List.map_nil]; rfl), C8.out w'⟩⟩
    refine AllOk.cons ?_ ?_
    · exact fun γ => ⟨rfl, fun w' _ => exec_eq6 e_k5 rfl rfl rfl⟩
    refine AllOk.cons ?_ ?_
    · (refine fun γ => ⟨rfl, fun w' h => ?_⟩; clear h; go_simp)
    refine AllOk.cons ?_ ?_
    · exact fun γ => ⟨rfl, fun w' _ => rfl⟩
    refine AllOk.cons ?_ ?_
    · exact fun γ => ⟨rfl, fun w' _ => rfl⟩
    refine AllOk.cons ?_ ?_
    · (refine fun γ => ⟨rfl, fun w' h => ?_⟩; clear h; go_simp)
    refine AllOk.cons ?_ ?_
    · (refine fun γ => ⟨rfl, fun w' h => ?_⟩; clear h; go_simp)
    refine AllOk.cons ?_ ?_
    · exact fun γ => ⟨rfl, fun w' _ => rfl⟩
    refine AllOk.cons ?_ ?_
    · exact fun γ => ⟨rfl, fun w' _ => rfl⟩
    refine AllOk.cons ?_ ?_
    · (refine fun γ => ⟨rfl, fun w' h => ?_⟩; clear h; go_simp)
    refine AllOk.cons ?_ ?_
    · (refine fun γ => ⟨rfl, fun w' h => ?_⟩; clear h; go_simp)
    refine AllOk.cons ?_ ?_
    · exact fun γ => ⟨rfl, fun w' _ => rfl⟩
    refine AllOk.cons ?_ ?_
    · exact fun γ => ⟨rfl, fun w' _ => rfl⟩
    refine AllOk.cons ?_ ?_
    · exact fun γ => ⟨rfl, fun w' h => ⟨11, #[.int .u64 0], exec_call rfl call11 rfl (by simp only [List.map_toArray, List.map_cons, List.map_nil]; rfl), C3.out w'⟩⟩
    refine AllOk.cons ?_ ?_
    · exact fun γ => ⟨rfl, fun w' h => ⟨11, #[.int .u64 1], exec_call rfl call11 rfl (by simp only [List.map_toArray, List.map_cons, List.map_nil]; rfl), C4.out w'⟩⟩
    refine AllOk.cons ?_ ?_
    · exact fun γ => ⟨rfl, fun w' h => ⟨19, #[PT γ19_0 0, N k0, N k1], exec_call rfl call19 rfl (by simp only [List.map_toArray, List.map_cons, List.map_nil]; rfl), C25.out _ w' (h.one 6 rfl)⟩⟩
    refine AllOk.cons ?_ ?_
    · exact fun γ => ⟨rfl, fun w' h => ⟨11, #[.int .u64 1], exec_call rfl call11 rfl (by simp only [List.map_toArray, List.map_cons, List.map_nil]; rfl), C4.out w'⟩⟩
    refine AllOk.cons ?_ ?_
    · exact fun γ => ⟨rfl, fun w' _ => exec_eq6 e_k1 rfl rfl rfl⟩
    refine AllOk.cons ?_ ?_
    · (refine fun γ => ⟨rfl, fun w' h => ?_⟩; clear h; go_simp)
    refine AllOk.cons ?_ ?_
    · exact fun γ => ⟨rfl, fun w' _ => rfl⟩
    refine AllOk.cons ?_ ?_
    · exact fun γ => ⟨rfl, fun w' _ => rfl⟩
    refine AllOk.cons ?_ ?_
    · exact fun γ => ⟨rfl, fun w' h => ⟨11, #[.int .u64 0], exec_call rfl call11 rfl (by simp only [List.map_toArray, List.map_cons, List.map_nil]; rfl), C3.out w'⟩⟩
    refine AllOk.cons ?_ ?_
    · exact fun γ => ⟨rfl, fun w' h => ⟨16, #[PT γ19_0 0, N k0], exec_call rfl call16 rfl (by simp only [List.map_toArray, List.map_cons, List.map_nil]; rfl), C26.out _ w' (h.one 6 rfl)⟩⟩
    refine AllOk.cons ?_ ?_
    · exact fun γ => ⟨rfl, fun w' _ => ex_zero6 rfl⟩
    refine AllOk.cons ?_ ?_
    · exact fun γ => ⟨rfl, fun w' _ => exec_eq6 e_0 rfl rfl rfl⟩
    refine AllOk.cons ?_ ?_
    · (refine fun γ => ⟨rfl, fun w' h => ?_⟩; clear h; go_simp)
    refine AllOk.cons ?_ ?_
    · exact fun γ => ⟨rfl, fun w' _ => rfl⟩
    refine AllOk.cons ?_ ?_
    · exact fun γ => ⟨rfl, fun w' _ => rfl⟩
    refine AllOk.cons ?_ ?_
    · (refine fun γ => ⟨rfl, fun w' h => ?_⟩; clear h; go_simp)
    refine AllOk.cons ?_ ?_
    · exact fun γ => ⟨rfl, fun w' _ => rfl⟩
    exact trivial
  intro γ w31 l hM hl
  have M31 : Mm w31 [(γ26_6, cells6 z4), (γ25_6, cells6 k5), (γ24_6, cells6 z3), (γ23_6, cells6 z2), (γ22_6, cells6 k3), (γ21_6, cells6 z1), (γ19_0, modc m7), (γ19_1, modc m9), (γ19_2, modc m13), (γs3, thr k8 k1 bdN), (0, dtab)] := H30.out.1.grow hM (Nat.le_refl _) hl [] rfl (by decide)
  have B31 : Below w.heap.size w w31 := H30.out.2.trans (hM.below.mono H30.out.2.size)
  clear hM hl l H30
  clear γ
  have H31 : Hid (_ ∧ _) := ⟨M31, B31⟩
  clear M31 B31
  refine rest_at (l := []) rfl ?_
  refine rest_nil ?_
  refine then_normal ?_
  refine wp_ret ?_
  repeat (first | refine then_ret ?_ | refine block_ret ?_)
  refine bodyPost_ret (v := .bool true) (by simp [results, Tryd.results4, go_sem, *]) rfl ?_
  exact ⟨rfl, H31.out.2⟩
end Rg
end Go.Proofs.YtoagmdgmbkpghabDoor
