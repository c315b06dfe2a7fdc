/- The law ModulusFields, walked with contracts -/
import Derived.Test.YtoagmdgmbkpghabDoorL9
import Derived.Test.YtoagmdgmbkpghabDoorPR
namespace Go.Proofs.YtoagmdgmbkpghabDoor
open Go.RowKit
namespace Rg

theorem ex_bs24 {ρ : Operand → Value} {o : Oper} {x y : Operand} {a b : Nat} {w : World} (ho : o.op = .buildSlice 27 2 #[(0, x), (1, y)]) (hx : ρ x = N a) (hy : ρ y = N b) :
    (execOp ρ o).run Tryd.prog w = .ok (.value (.slice (some ⟨w.heap.size, 0, none⟩) 2 2)) (w.alloc (.cells (lec a (wd b) : List Value).toArray 24)) := by
  simp only [execOp, ho]
  go_simp
set_option maxHeartbeats 4000000 in
set_option maxRecDepth 100000 in
theorem fields_gen (a p0 p1 k1 r0 r1 l0 x0 n0 u0 t0 l1 x1 n1 u1 t1 : Nat) (b0 b1 : Bool) (e_k1 : ∀ w, (Op.equalIn 10000 24 (N k1) (N k1)).run Tryd.prog w = .ok true w) (e_r0 : ∀ w, (Op.equalIn 10000 24 (N r0) (N r0)).run Tryd.prog w = .ok true w) (e_n0 : ∀ w, (Op.equalIn 10000 24 (N n0) (N n0)).run Tryd.prog w = .ok true w)
    (c0 : ∀ w, Mm w [(0, dtab)] → Calls Tryd.prog 5 #[] w fun e w' => e = .returned (.bool true) ∧ Below w.heap.size w w')
    (c1 : ∀ w, Calls Tryd.prog 6 #[] w fun e w' => e = .returned (N p0) ∧ Below w.heap.size w w')
    (c2 : ∀ w, Calls Tryd.prog 7 #[] w fun e w' => e = .returned (N p1) ∧ Below w.heap.size w w')
    (c3 : ∀ w, Calls Tryd.prog 11 #[.int .u64 1] w fun e w' => e = .returned (N k1) ∧ Below w.heap.size w w')
    (c4 : ∀ w, Calls Tryd.prog 8 #[N p0] w fun e w' => Below w.heap.size w w' ∧ ∃ g, e = .returned (.tuple #[PT g 0, .int .i64 0]) ∧ w.heap.size ≤ g ∧ g < w'.heap.size ∧ Blk w' g (modc p0))
    (c5 : ∀ g w, Mm w [(g, modc p0)] → Calls Tryd.prog 9 #[PT g 0, N a] w fun e w' => e = .returned (N r0) ∧ Below w.heap.size w w')
    (c6 : ∀ w, Calls Tryd.prog 8 #[N p1] w fun e w' => Below w.heap.size w w' ∧ ∃ g, e = .returned (.tuple #[PT g 0, .int .i64 0]) ∧ w.heap.size ≤ g ∧ g < w'.heap.size ∧ Blk w' g (modc p1))
    (c7 : ∀ g w, Mm w [(g, modc p1)] → Calls Tryd.prog 9 #[PT g 0, N a] w fun e w' => e = .returned (N r1) ∧ Below w.heap.size w w')
    (fc : ∀ i : Nat, i < 2 → (i = 0 ∧ (∀ w, (Op.equalIn 10000 24 (N r0) (N 0)).run Tryd.prog w = .ok true w)) ∨ (i = 0 ∧ (∀ w, (Op.equalIn 10000 24 (N r0) (N 0)).run Tryd.prog w = .ok false w) ∧ (∀ w, Calls Tryd.prog 10 #[N p0, N k1] w fun e w' => e = .returned (.tuple #[N l0, .bool b0]) ∧ Below w.heap.size w w') ∧ (∀ g w, Mm w [(g, modc p0), (0, dtab)] → Calls Tryd.prog 12 #[PT g 0, N a] w fun e w' => e = .returned (.tuple #[N x0, .int .i64 0]) ∧ Below w.heap.size w w') ∧ (∀ g w, Mm w [(g, modc p0)] → Calls Tryd.prog 13 #[PT g 0, N x0, N a] w fun e w' => e = .returned (N k1) ∧ Below w.heap.size w w') ∧ (∀ g w, Mm w [(g, modc p0)] → Calls Tryd.prog 14 #[PT g 0, N a, N l0] w fun e w' => e = .returned (N k1) ∧ Below w.heap.size w w') ∧ (∀ g w, Mm w [(g, modc p0)] → Calls Tryd.prog 16 #[PT g 0, N a] w fun e w' => e = .returned (N n0) ∧ Below w.heap.size w w') ∧ (∀ g w, Mm w [(g, modc p0)] → Calls Tryd.prog 15 #[PT g 0, N a] w fun e w' => e = .returned (.tuple #[N u0, .int .i64 0]) ∧ Below w.heap.size w w') ∧ (∀ g w, Mm w [(g, modc p0)] → Calls Tryd.prog 15 #[PT g 0, N n0] w fun e w' => e = .returned (.tuple #[N t0, .int .i64 6]) ∧ Below w.heap.size w w') ∧ (∀ g w, Mm w [(g, modc p0)] → Calls Tryd.prog 13 #[PT g 0, N u0, N u0] w fun e w' => e = .returned (N r0) ∧ Below w.heap.size w w')) ∨ (i = 0 ∧ (∀ w, (Op.equalIn 10000 24 (N r0) (N 0)).run Tryd.prog w = .ok false w) ∧ (∀ w, Calls Tryd.prog 10 #[N p0, N k1] w fun e w' => e = .returned (.tuple #[N l0, .bool b0]) ∧ Below w.heap.size w w') ∧ (∀ g w, Mm w [(g, modc p0), (0, dtab)] → Calls Tryd.prog 12 #[PT g 0, N a] w fun e w' => e = .returned (.tuple #[N x0, .int .i64 0]) ∧ Below w.heap.size w w') ∧ (∀ g w, Mm w [(g, modc p0)] → Calls Tryd.prog 13 #[PT g 0, N x0, N a] w fun e w' => e = .returned (N k1) ∧ Below w.heap.size w w') ∧ (∀ g w, Mm w [(g, modc p0)] → Calls Tryd.prog 14 #[PT g 0, N a, N l0] w fun e w' => e = .returned (N k1) ∧ Below w.heap.size w w') ∧ (∀ g w, Mm w [(g, modc p0)] → Calls Tryd.prog 16 #[PT g 0, N a] w fun e w' => e = .returned (N n0) ∧ Below w.heap.size w w') ∧ (∀ g w, Mm w [(g, modc p0)] → Calls Tryd.prog 15 #[PT g 0, N a] w fun e w' => e = .returned (.tuple #[N u0, .int .i64 6]) ∧ Below w.heap.size w w') ∧ (∀ g w, Mm w [(g, modc p0)] → Calls Tryd.prog 15 #[PT g 0, N n0] w fun e w' => e = .returned (.tuple #[N t0, .int .i64 0]) ∧ Below w.heap.size w w') ∧ (∀ g w, Mm w [(g, modc p0)] → Calls Tryd.prog 13 #[PT g 0, N t0, N t0] w fun e w' => e = .returned (N n0) ∧ Below w.heap.size w w')) ∨ (i = 1 ∧ (∀ w, (Op.equalIn 10000 24 (N r1) (N 0)).run Tryd.prog w = .ok true w)) ∨ (i = 1 ∧ (∀ w, (Op.equalIn 10000 24 (N r1) (N 0)).run Tryd.prog w = .ok false w) ∧ (∀ w, Calls Tryd.prog 10 #[N p1, N k1] w fun e w' => e = .returned (.tuple #[N l1, .bool b1]) ∧ Below w.heap.size w w') ∧ (∀ g w, Mm w [(g, modc p1), (0, dtab)] → Calls Tryd.prog 12 #[PT g 0, N a] w fun e w' => e = .returned (.tuple #[N x1, .int .i64 0]) ∧ Below w.heap.size w w') ∧ (∀ g w, Mm w [(g, modc p1)] → Calls Tryd.prog 13 #[PT g 0, N x1, N a] w fun e w' => e = .returned (N k1) ∧ Below w.heap.size w w') ∧ (∀ g w, Mm w [(g, modc p1)] → Calls Tryd.prog 14 #[PT g 0, N a, N l1] w fun e w' => e = .returned (N k1) ∧ Below w.heap.size w w') ∧ (∀ g w, Mm w [(g, modc p1)] → Calls Tryd.prog 16 #[PT g 0, N a] w fun e w' => e = .returned (N n1) ∧ Below w.heap.size w w') ∧ (∀ g w, Mm w [(g, modc p1)] → Calls Tryd.prog 15 #[PT g 0, N a] w fun e w' => e = .returned (.tuple #[N u1, .int .i64 2]) ∧ Below w.heap.size w w') ∧ (∀ g w, Mm w [(g, modc p1)] → Calls Tryd.prog 15 #[PT g 0, N n1] w fun e w' => e = .returned (.tuple #[N t1, .int .i64 2]) ∧ Below w.heap.size w w'))) (w : World) (hm : Mm w [(0, dtab)]) :
    Calls Tryd.prog 3 #[N a] w fun e w' => e = .returned (.bool true) ∧ Below w.heap.size w w' := by
  have H0 : Hid (_ ∧ _) := ⟨hm, Below.refl w.heap.size w⟩
  clear hm
  have C0 : Hid _ := c0
  have C1 : Hid _ := c1
  have C2 : Hid _ := c2
  have C3 : Hid _ := c3
  have C4 : Hid _ := c4
  have C5 : Hid _ := c5
  have C6 : Hid _ := c6
  have C7 : Hid _ := c7
  clear c0 c1 c2 c3 c4 c5 c6 c7
  have FC : Hid _ := fc
  clear fc
  go_enter Tryd.func3, Tryd.ntmps3
  refine wp_seq ?_
  refine walk_seq 2 [.made (cells6 a) 24, .quiet (.bool false)] (fun w' => Mm w' [(0, dtab)]) ?pre1 ?F1 ?hpre1 (fun γ => ?hF1) (by kernel_rfl) ?hL1 ?hS1 ?ho1 ?he1
  case hpre1 =>
    simp only [List.take_succ_cons, List.take_zero]
    exact rfl
  case hF1 =>
    simp only [fill, Kind.val, Act.put, List.setIfInBounds_toArray, List.set_cons_zero, List.set_cons_succ]
    exact rfl
  case hL1 => exact trivial
  case hS1 => exact fun w' hb => H0.out.1.below hb
  case ho1 =>
    refine AllOk.cons ?_ ?_
    · exact fun γ => ⟨rfl, fun w' => ex_box6 rfl rfl⟩
    refine AllOk.cons ?_ ?_
    · exact fun γ => ⟨rfl, fun w' _ => rfl⟩
    exact trivial
  intro γ w1 l hM hl
  have M1 : Mm w1 [(γ 0, cells6 a), (0, dtab)] := H0.out.1.grow hM (Nat.le_refl _) hl [0] rfl (by decide)
  have B1 : Below w.heap.size w w1 := H0.out.2.trans (hM.below.mono H0.out.2.size)
  have o1_0 : Hid (w.heap.size ≤ γ 0) := Nat.le_trans H0.out.2.size (hM.fin (Nat.le_refl _) hl (i := 0) rfl).2.1
  clear hM hl l
  generalize γ 0 = γ1_0 at M1 o1_0 ⊢
  clear γ
  have H1 : Hid (_ ∧ _) := ⟨M1, B1⟩
  clear M1 B1
  refine rest_at (l := []) rfl ?_
  refine rest_nil ?_
  refine then_normal ?_
  refine wp_seq ?_
  refine walk_seq 2 [.call (.bool true), .quiet (.bool true)] (fun w' => Mm w' [(γ1_0, cells6 a), (0, dtab)]) ?pre2 ?F2 ?hpre2 (fun γ => ?hF2) (by kernel_rfl) ?hL2 ?hS2 ?ho2 ?he2
  case hpre2 =>
    simp only [List.take_succ_cons, List.take_zero]
    exact rfl
  case hF2 =>
    simp only [fill, Kind.val, Act.put, List.setIfInBounds_toArray, List.set_cons_zero, List.set_cons_succ]
    exact rfl
  case hL2 => exact trivial
  case hS2 => exact fun w' hb => H1.out.1.below hb
  case ho2 =>
    refine AllOk.cons ?_ ?_
    · exact fun γ => ⟨rfl, fun w' h => ⟨5, #[], exec_call rfl call5 rfl (by simp only [List.map_toArray, List.map_nil]), C0.out w' (h.one 1 rfl)⟩⟩
    refine AllOk.cons ?_ ?_
    · exact fun γ => ⟨rfl, fun w' _ => rfl⟩
    exact trivial
  intro γ w2 l hM hl
  have M2 : Mm w2 [(γ1_0, cells6 a), (0, dtab)] := H1.out.1.grow hM (Nat.le_refl _) hl [] rfl (by decide)
  have B2 : Below w.heap.size w w2 := H1.out.2.trans (hM.below.mono H1.out.2.size)
  clear hM hl l H1
  clear γ
  have H2 : Hid (_ ∧ _) := ⟨M2, B2⟩
  clear M2 B2
  refine rest_at (l := []) rfl ?_
  refine rest_nil ?_
  refine then_normal ?_
  refine wp_seq ?_
  refine walk_seq 2 [.call (N p0), .call (N p1)] (fun w' => Mm w' [(γ1_0, cells6 a), (0, dtab)]) ?pre3 ?F3 ?hpre3 (fun γ => ?hF3) (by kernel_rfl) ?hL3 ?hS3 ?ho3 ?he3
  case hpre3 =>
    simp only [List.take_succ_cons, List.take_zero]
    exact rfl
  case hF3 =>
    simp only [fill, Kind.val, Act.put, List.setIfInBounds_toArray, List.set_cons_zero, List.set_cons_succ]
    exact rfl
  case hL3 => exact trivial
  case hS3 => exact fun w' hb => H2.out.1.below hb
  case ho3 =>
    refine AllOk.cons ?_ ?_
    · exact fun γ => ⟨rfl, fun w' h => ⟨6, #[], exec_call rfl call6 rfl (by simp only [List.map_toArray, List.map_nil]), C1.out w'⟩⟩
    refine AllOk.cons ?_ ?_
    · exact fun γ => ⟨rfl, fun w' h => ⟨7, #[], exec_call rfl call7 rfl (by simp only [List.map_toArray, List.map_nil]), C2.out w'⟩⟩
    exact trivial
  intro γ w3 l hM hl
  have M3 : Mm w3 [(γ1_0, cells6 a), (0, dtab)] := H2.out.1.grow hM (Nat.le_refl _) hl [] rfl (by decide)
  have B3 : Below w.heap.size w w3 := H2.out.2.trans (hM.below.mono H2.out.2.size)
  clear hM hl l H2
  clear γ
  have H3 : Hid (_ ∧ _) := ⟨M3, B3⟩
  clear M3 B3
  refine rest_at (l := [2, 3]) rfl ?_
  refine rest_set (d := 19) (v := .slice (some ⟨w3.heap.size, 0, none⟩) 2 2) (w' := w3.alloc (.cells (lec p0 (wd p1) : List Value).toArray 24)) rfl rfl rfl (ex_bs24 rfl rfl rfl) ?_
  simp only [Act.put, List.setIfInBounds_toArray, List.set_cons_zero, List.set_cons_succ]
  have o_γs4 : Hid (w.heap.size ≤ w3.heap.size) := H3.out.2.size
  have H4 : Hid (Mm (w3.alloc (.cells (lec p0 (wd p1) : List Value).toArray 24)) ((w3.heap.size, lec p0 (wd p1)) :: [(γ1_0, cells6 a), (0, dtab)]) ∧ Below w.heap.size w (w3.alloc (.cells (lec p0 (wd p1) : List Value).toArray 24))) := ⟨H3.out.1.alloc _ 24 rfl, H3.out.2.alloc H3.out.2.size _⟩
  clear H3
  generalize hgw : w3.alloc (.cells (lec p0 (wd p1) : List Value).toArray 24) = w4 at H4 ⊢
  clear hgw
  generalize w3.heap.size = γs4 at o_γs4 H4 ⊢
  refine rest_set (d := 4) rfl rfl rfl rfl ?_
  simp only [Act.put, List.setIfInBounds_toArray, List.set_cons_zero, List.set_cons_succ]
  refine rest_nil ?_
  refine then_normal ?_
  refine wp_seq ?_
  refine wp_seq ?_
  refine walk_seq 1 [.quiet (.int .i64 0)] (fun w' => Mm w' [(γs4, lec p0 (wd p1)), (γ1_0, cells6 a), (0, dtab)]) ?pre4 ?F4 ?hpre4 (fun γ => ?hF4) (by kernel_rfl) ?hL4 ?hS4 ?ho4 ?he4
  case hpre4 =>
    simp only [List.take_succ_cons, List.take_zero]
    exact rfl
  case hF4 =>
    simp only [fill, Kind.val, Act.put, List.setIfInBounds_toArray, List.set_cons_zero, List.set_cons_succ]
    exact rfl
  case hL4 => exact trivial
  case hS4 => exact fun w' hb => H4.out.1.below hb
  case ho4 =>
    refine AllOk.cons ?_ ?_
    · exact fun γ => ⟨rfl, fun w' _ => rfl⟩
    exact trivial
  intro γ w5 l hM hl
  have M5 : Mm w5 [(γs4, lec p0 (wd p1)), (γ1_0, cells6 a), (0, dtab)] := H4.out.1.grow hM (Nat.le_refl _) hl [] rfl (by decide)
  have B5 : Below w.heap.size w w5 := H4.out.2.trans (hM.below.mono H4.out.2.size)
  clear hM hl l H4
  clear γ
  have H5 : Hid (_ ∧ _) := ⟨M5, B5⟩
  clear M5 B5
  refine rest_at (l := []) rfl ?_
  refine rest_nil ?_
  refine then_normal ?_
  refine wp_block ?_
  refine loop_ghost (α := Nat) (fun i a' w' => ∃ s0 : Nat → Value, a' = ⟨#[N a, PT γ1_0 0, s0 2, .bool true, .slice (some ⟨γs4, 0, none⟩) 2 2, .int .i64 ((i : Nat) : Int), s0 6, s0 7, s0 8, s0 9, s0 10, s0 11, s0 12, s0 13, s0 14, s0 15, .bool true, N p0, N p1, .slice (some ⟨γs4, 0, none⟩) 2 2, s0 20, s0 21, s0 22, s0 23, s0 24, s0 25, s0 26, s0 27, s0 28, s0 29, s0 30, s0 31, s0 32, s0 33, s0 34, s0 35, s0 36, s0 37, s0 38, s0 39, s0 40, s0 41, s0 42, s0 43, s0 44, s0 45, s0 46, s0 47, s0 48, s0 49, s0 50, s0 51, s0 52, s0 53, s0 54, s0 55, s0 56, s0 57, s0 58, s0 59, s0 60, s0 61, s0 62, s0 63, s0 64, s0 65, s0 66, s0 67, s0 68, s0 69, s0 70, s0 71, s0 72, s0 73, s0 74, s0 75, s0 76, s0 77, s0 78, s0 79, s0 80, s0 81, s0 82, s0 83, s0 84, s0 85, s0 86, s0 87, s0 88, s0 89, s0 90, s0 91, s0 92, s0 93, s0 94, s0 95, s0 96, s0 97, s0 98, s0 99, s0 100, s0 101, s0 102, s0 103, s0 104, s0 105, s0 106, s0 107, s0 108, s0 109, s0 110, s0 111, s0 112, s0 113, s0 114, s0 115, s0 116, s0 117, s0 118, s0 119, s0 120, s0 121, s0 122, s0 123, s0 124, s0 125, s0 126, s0 127, s0 128, s0 129, s0 130, s0 131, s0 132, s0 133, s0 134, s0 135, s0 136, s0 137, s0 138, undef], []⟩ ∧ (Mm w' [(γs4, lec p0 (wd p1)), (γ1_0, cells6 a), (0, dtab)] ∧ Below w.heap.size w w') ∧ i ≤ 2) (fun i => 2 - i) 0 ?st0 ?rd0
  case st0 => exact ⟨(slotfn [undef, undef, .bool false, undef, undef, undef, undef, undef, undef, undef, undef, undef, undef, undef, undef, undef, undef, undef, undef, undef, undef, undef, undef, undef, undef, undef, undef, undef, undef, undef, undef, undef, undef, undef, undef, undef, undef, undef, undef, undef, undef, undef, undef, undef, undef, undef, undef, undef, undef, undef, undef, undef, undef, undef, undef, undef, undef, undef, undef, undef, undef, undef, undef, undef, undef, undef, undef, undef, undef, undef, undef, undef, undef, undef, undef, undef, undef, undef, undef, undef, undef, undef, undef, undef, undef, undef, undef, undef, undef, undef, undef, undef, undef, undef, undef, undef, undef, undef, undef, undef, undef, undef, undef, undef, undef, undef, undef, undef, undef, undef, undef, undef, undef, undef, undef, undef, undef, undef, undef, undef, undef, undef, undef, undef, undef, undef, undef, undef, undef, undef, undef, undef, undef, undef, undef, undef, undef, undef, undef]), rfl, ⟨H5.out.1, H5.out.2⟩, by omega⟩
  intro i a' w6 hI
  obtain ⟨s0, rfl, hMB, hk0⟩ := hI
  have H6 : Hid (_ ∧ _) := hMB
  clear hMB H5
  by_cases hlt : i < 2
  · have hrd : True := trivial
    clear hrd
    rcases FC.out i hlt with ⟨rfl, hz⟩ | ⟨rfl, hz, k0, k1, k2, k3, k4, k5, k6, k7⟩ | ⟨rfl, hz, k0, k1, k2, k3, k4, k5, k6, k7⟩ | ⟨rfl, hz⟩ | ⟨rfl, hz, k0, k1, k2, k3, k4, k5, k6⟩
    · have hrd : True := trivial
      clear hrd
      refine wp_seq ?_
      refine wp_seq ?_
      refine walk_seq 2 [.quiet (.int .i64 0), .quiet (.bool true)] (fun w' => Mm w' [(γs4, lec p0 (wd p1)), (γ1_0, cells6 a), (0, dtab)]) ?pre5 ?F5 ?hpre5 (fun γ => ?hF5) (by kernel_rfl) ?hL5 ?hS5 ?ho5 ?he5
      case hpre5 =>
        simp only [List.take_succ_cons, List.take_zero]
        exact rfl
      case hF5 =>
        simp only [fill, Kind.val, Act.put, List.setIfInBounds_toArray, List.set_cons_zero, List.set_cons_succ]
        exact rfl
      case hL5 => exact trivial
      case hS5 => exact fun w' hb => H6.out.1.below hb
      case ho5 =>
        refine AllOk.cons ?_ ?_
        · exact fun γ => ⟨rfl, fun w' _ => rfl⟩
        refine AllOk.cons ?_ ?_
        · (refine fun γ => ⟨rfl, fun w' h => ?_⟩; clear h; go_simp)
        exact trivial
      intro γ w7 l hM hl
      have M7 : Mm w7 [(γs4, lec p0 (wd p1)), (γ1_0, cells6 a), (0, dtab)] := H6.out.1.grow hM (Nat.le_refl _) hl [] rfl (by decide)
      have B7 : Below w.heap.size w w7 := H6.out.2.trans (hM.below.mono H6.out.2.size)
      clear hM hl l H6
      clear γ
      have H7 : Hid (_ ∧ _) := ⟨M7, B7⟩
      clear M7 B7
      refine rest_at (l := []) rfl ?_
      refine rest_nil ?_
      refine then_normal ?_
      refine wp_cond_true rfl ?_
      refine wp_skip ?_
      refine then_normal ?_
      refine wp_seq ?_
      refine wp_block ?_
      refine wp_seq ?_
      refine walk_seq 5 [.quiet (.slice (some ⟨γs4, 0, none⟩) 2 2), .quiet (.int .i64 0), .quiet (PT γs4 0), .quiet (N p0), .born (fun g => .tuple #[PT g 0, .int .i64 0]) (modc p0)] (fun w' => Mm w' [(γs4, lec p0 (wd p1)), (γ1_0, cells6 a), (0, dtab)]) ?pre6 ?F6 ?hpre6 (fun γ => ?hF6) (by kernel_rfl) ?hL6 ?hS6 ?ho6 ?he6
      case hpre6 =>
        simp only [List.take_succ_cons, List.take_zero]
        exact rfl
      case hF6 =>
        simp only [fill, Kind.val, Act.put, List.setIfInBounds_toArray, List.set_cons_zero, List.set_cons_succ]
        exact rfl
      case hL6 => exact trivial
      case hS6 => exact fun w' hb => H7.out.1.below hb
      case ho6 =>
        refine AllOk.cons ?_ ?_
        · exact fun γ => ⟨rfl, fun w' _ => rfl⟩
        refine AllOk.cons ?_ ?_
        · exact fun γ => ⟨rfl, fun w' _ => rfl⟩
        refine AllOk.cons ?_ ?_
        · (refine fun γ => ⟨rfl, fun w' h => ?_⟩; clear h; go_simp)
        refine AllOk.cons ?_ ?_
        · exact fun γ => ⟨rfl, fun w' h => ex_load6 h 0 rfl rfl rfl rfl⟩
        refine AllOk.cons ?_ ?_
        · exact fun γ => ⟨rfl, fun w' h => ⟨8, #[N p0], exec_call rfl call8 rfl (by simp only [List.map_toArray, List.map_cons, List.map_nil]; rfl), C4.out w'⟩⟩
        exact trivial
      intro γ w8 l hM hl
      have M8 : Mm w8 [(γ 4, modc p0), (γs4, lec p0 (wd p1)), (γ1_0, cells6 a), (0, dtab)] := H7.out.1.grow hM (Nat.le_refl _) hl [4] rfl (by decide)
      have B8 : Below w.heap.size w w8 := H7.out.2.trans (hM.below.mono H7.out.2.size)
      have o6_4 : Hid (w.heap.size ≤ γ 4) := Nat.le_trans H7.out.2.size (hM.fin (Nat.le_refl _) hl (i := 4) rfl).2.1
      clear hM hl l H7
      generalize γ 4 = γ6_4 at M8 o6_4 ⊢
      clear γ
      have H8 : Hid (_ ∧ _) := ⟨M8, B8⟩
      clear M8 B8
      refine rest_at (l := [5, 6, 7, 8, 9]) rfl ?_
      refine rest_set (d := 24) rfl rfl rfl rfl ?_
      simp only [Act.put, List.setIfInBounds_toArray, List.set_cons_zero, List.set_cons_succ]
      refine rest_set (d := 30) (v := PT γ6_4 0) (w' := w8) rfl rfl rfl (by go_simp) ?_
      simp only [Act.put, List.setIfInBounds_toArray, List.set_cons_zero, List.set_cons_succ]
      refine rest_set (d := 31) (v := .int .i64 0) (w' := w8) rfl rfl rfl (by go_simp) ?_
      simp only [Act.put, List.setIfInBounds_toArray, List.set_cons_zero, List.set_cons_succ]
      refine rest_set (d := 6) rfl rfl rfl rfl ?_
      simp only [Act.put, List.setIfInBounds_toArray, List.set_cons_zero, List.set_cons_succ]
      refine rest_set (d := 7) rfl rfl rfl rfl ?_
      simp only [Act.put, List.setIfInBounds_toArray, List.set_cons_zero, List.set_cons_succ]
      refine rest_nil ?_
      refine then_normal ?_
      refine wp_seq ?_
      refine wp_seq ?_
      refine walk_seq 6 [.quiet (.int .i64 0), .quiet (.bool false), .quiet (.bool false), .quiet (PT γ6_4 0), .quiet (.bool false), .quiet (.bool false)] (fun w' => Mm w' [(γ6_4, modc p0), (γs4, lec p0 (wd p1)), (γ1_0, cells6 a), (0, dtab)]) ?pre7 ?F7 ?hpre7 (fun γ => ?hF7) (by kernel_rfl) ?hL7 ?hS7 ?ho7 ?he7
      case hpre7 =>
        simp only [List.take_succ_cons, List.take_zero]
        exact rfl
      case hF7 =>
        simp only [fill, Kind.val, Act.put, List.setIfInBounds_toArray, List.set_cons_zero, List.set_cons_succ]
        exact rfl
      case hL7 => exact trivial
      case hS7 => exact fun w' hb => H8.out.1.below hb
      case ho7 =>
        refine AllOk.cons ?_ ?_
        · exact fun γ => ⟨rfl, fun w' _ => rfl⟩
        refine AllOk.cons ?_ ?_
        · (refine fun γ => ⟨rfl, fun w' h => ?_⟩; clear h; go_simp)
        refine AllOk.cons ?_ ?_
        · exact fun γ => ⟨rfl, fun w' _ => rfl⟩
        refine AllOk.cons ?_ ?_
        · exact fun γ => ⟨rfl, fun w' _ => rfl⟩
        refine AllOk.cons ?_ ?_
        · (refine fun γ => ⟨rfl, fun w' h => ?_⟩; clear h; go_simp)
        refine AllOk.cons ?_ ?_
        · (refine fun γ => ⟨rfl, fun w' h => ?_⟩; clear h; go_simp)
        exact trivial
      intro γ w9 l hM hl
      have M9 : Mm w9 [(γ6_4, modc p0), (γs4, lec p0 (wd p1)), (γ1_0, cells6 a), (0, dtab)] := H8.out.1.grow hM (Nat.le_refl _) hl [] rfl (by decide)
      have B9 : Below w.heap.size w w9 := H8.out.2.trans (hM.below.mono H8.out.2.size)
      clear hM hl l H8
      clear γ
      have H9 : Hid (_ ∧ _) := ⟨M9, B9⟩
      clear M9 B9
      refine rest_at (l := []) rfl ?_
      refine rest_nil ?_
      refine then_normal ?_
      refine wp_cond_false rfl ?_
      refine wp_skip ?_
      refine then_normal ?_
      refine wp_seq ?_
      refine wp_seq ?_
      refine walk_seq 5 [.quiet (PT γ6_4 0), .quiet (N a), .call (N r0), .quiet (N 0), .quiet (.bool true)] (fun w' => Mm w' [(γ6_4, modc p0), (γs4, lec p0 (wd p1)), (γ1_0, cells6 a), (0, dtab)]) ?pre8 ?F8 ?hpre8 (fun γ => ?hF8) (by kernel_rfl) ?hL8 ?hS8 ?ho8 ?he8
      case hpre8 =>
        simp only [List.take_succ_cons, List.take_zero]
        exact rfl
      case hF8 =>
        simp only [fill, Kind.val, Act.put, List.setIfInBounds_toArray, List.set_cons_zero, List.set_cons_succ]
        exact rfl
      case hL8 => exact trivial
      case hS8 => exact fun w' hb => H9.out.1.below hb
      case ho8 =>
        refine AllOk.cons ?_ ?_
        · exact fun γ => ⟨rfl, fun w' _ => rfl⟩
        refine AllOk.cons ?_ ?_
        · exact fun γ => ⟨rfl, fun w' h => ex_load6 h 2 rfl rfl rfl rfl⟩
        refine AllOk.cons ?_ ?_
        · exact fun γ => ⟨rfl, fun w' h => ⟨9, #[PT γ6_4 0, N a], exec_call rfl call9 rfl (by simp only [List.map_toArray, List.map_cons, List.map_nil]; rfl), C5.out _ w' (h.one 0 rfl)⟩⟩
        refine AllOk.cons ?_ ?_
        · (refine fun γ => ⟨rfl, fun w' h => ?_⟩; clear h; exact ex_zero6 rfl)
        refine AllOk.cons ?_ ?_
        · exact fun γ => ⟨rfl, fun w' _ => exec_eq6 hz rfl rfl rfl⟩
        exact trivial
      intro γ w10 l hM hl
      have M10 : Mm w10 [(γ6_4, modc p0), (γs4, lec p0 (wd p1)), (γ1_0, cells6 a), (0, dtab)] := H9.out.1.grow hM (Nat.le_refl _) hl [] rfl (by decide)
      have B10 : Below w.heap.size w w10 := H9.out.2.trans (hM.below.mono H9.out.2.size)
      clear hM hl l H9
      clear γ
      have H10 : Hid (_ ∧ _) := ⟨M10, B10⟩
      clear M10 B10
      refine rest_at (l := []) rfl ?_
      refine rest_nil ?_
      refine then_normal ?_
      refine wp_cond_true rfl ?_
      refine wp_exit ?_
      repeat refine then_exit ?_
      refine block_exit ?_
      refine then_normal ?_
      refine walk_seq 2 [.quiet (.int .i64 0), .quiet (.int .i64 1)] (fun w' => Mm w' [(γ6_4, modc p0), (γs4, lec p0 (wd p1)), (γ1_0, cells6 a), (0, dtab)]) ?pre9 ?F9 ?hpre9 (fun γ => ?hF9) (by kernel_rfl) ?hL9 ?hS9 ?ho9 ?he9
      case hpre9 =>
        simp only [List.take_succ_cons, List.take_zero]
        exact rfl
      case hF9 =>
        simp only [fill, Kind.val, Act.put, List.setIfInBounds_toArray, List.set_cons_zero, List.set_cons_succ]
        exact rfl
      case hL9 => exact trivial
      case hS9 => exact fun w' hb => H10.out.1.below hb
      case ho9 =>
        refine AllOk.cons ?_ ?_
        · exact fun γ => ⟨rfl, fun w' _ => rfl⟩
        refine AllOk.cons ?_ ?_
        · (refine fun γ => ⟨rfl, fun w' h => ?_⟩; clear h; go_simp; rw [IntKind.wrap_i64]; omega)
        exact trivial
      intro γ w11 l hM hl
      have M11 : Mm w11 [(γ6_4, modc p0), (γs4, lec p0 (wd p1)), (γ1_0, cells6 a), (0, dtab)] := H10.out.1.grow hM (Nat.le_refl _) hl [] rfl (by decide)
      have B11 : Below w.heap.size w w11 := H10.out.2.trans (hM.below.mono H10.out.2.size)
      clear hM hl l H10
      clear γ
      have H11 : Hid (_ ∧ _) := ⟨M11, B11⟩
      clear M11 B11
      refine rest_at (l := [2]) rfl ?_
      refine rest_set (d := 5) rfl rfl rfl rfl ?_
      simp only [Act.put, List.setIfInBounds_toArray, List.set_cons_zero, List.set_cons_succ]
      refine rest_nil ?_
      refine then_normal ?_
      exact ⟨1, ⟨(slotfn [undef, undef, s0 2, undef, undef, undef, PT γ6_4 0, .int .i64 0, s0 8, s0 9, s0 10, s0 11, s0 12, s0 13, s0 14, s0 15, undef, undef, undef, undef, .int .i64 0, .bool true, .int .i64 0, .int .i64 1, .tuple #[PT γ6_4 0, .int .i64 0], .slice (some ⟨γs4, 0, none⟩) 2 2, .int .i64 0, PT γs4 0, N p0, .tuple #[PT γ6_4 0, .int .i64 0], PT γ6_4 0, .int .i64 0, .int .i64 0, .bool false, .bool false, PT γ6_4 0, .bool false, .bool false, PT γ6_4 0, N a, N r0, N 0, .bool true, s0 43, s0 44, s0 45, s0 46, s0 47, s0 48, s0 49, s0 50, s0 51, s0 52, s0 53, s0 54, s0 55, s0 56, s0 57, s0 58, s0 59, s0 60, s0 61, s0 62, s0 63, s0 64, s0 65, s0 66, s0 67, s0 68, s0 69, s0 70, s0 71, s0 72, s0 73, s0 74, s0 75, s0 76, s0 77, s0 78, s0 79, s0 80, s0 81, s0 82, s0 83, s0 84, s0 85, s0 86, s0 87, s0 88, s0 89, s0 90, s0 91, s0 92, s0 93, s0 94, s0 95, s0 96, s0 97, s0 98, s0 99, s0 100, s0 101, s0 102, s0 103, s0 104, s0 105, s0 106, s0 107, s0 108, s0 109, s0 110, s0 111, s0 112, s0 113, s0 114, s0 115, s0 116, s0 117, s0 118, s0 119, s0 120, s0 121, s0 122, s0 123, s0 124, s0 125, s0 126, s0 127, s0 128, s0 129, s0 130, s0 131, s0 132, s0 133, s0 134, s0 135, s0 136, s0 137, s0 138]), rfl, ⟨H11.out.1.tail, H11.out.2⟩, by omega⟩, by omega⟩
    · have hrd : True := trivial
      clear hrd
      have A0_0 : Hid _ := k0
      have A0_1 : Hid _ := k1
      have A0_2 : Hid _ := k2
      have A0_3 : Hid _ := k3
      have A0_4 : Hid _ := k4
      have A0_5 : Hid _ := k5
      have A0_6 : Hid _ := k6
      have A0_7 : Hid _ := k7
      clear k0 k1 k2 k3 k4 k5 k6 k7
      refine wp_seq ?_
      refine wp_seq ?_
      refine walk_seq 2 [.quiet (.int .i64 0), .quiet (.bool true)] (fun w' => Mm w' [(γs4, lec p0 (wd p1)), (γ1_0, cells6 a), (0, dtab)]) ?pre10 ?F10 ?hpre10 (fun γ => ?hF10) (by kernel_rfl) ?hL10 ?hS10 ?ho10 ?he10
      case hpre10 =>
        simp only [List.take_succ_cons, List.take_zero]
        exact rfl
      case hF10 =>
        simp only [fill, Kind.val, Act.put, List.setIfInBounds_toArray, List.set_cons_zero, List.set_cons_succ]
        exact rfl
      case hL10 => exact trivial
      case hS10 => exact fun w' hb => H6.out.1.below hb
      case ho10 =>
        refine AllOk.cons ?_ ?_
        · exact fun γ => ⟨rfl, fun w' _ => rfl⟩
        refine AllOk.cons ?_ ?_
        · (refine fun γ => ⟨rfl, fun w' h => ?_⟩; clear h; go_simp)
        exact trivial
      intro γ w12 l hM hl
      have M12 : Mm w12 [(γs4, lec p0 (wd p1)), (γ1_0, cells6 a), (0, dtab)] := H6.out.1.grow hM (Nat.le_refl _) hl [] rfl (by decide)
      have B12 : Below w.heap.size w w12 := H6.out.2.trans (hM.below.mono H6.out.2.size)
      clear hM hl l H6
      clear γ
      have H12 : Hid (_ ∧ _) := ⟨M12, B12⟩
      clear M12 B12
      refine rest_at (l := []) rfl ?_
      refine rest_nil ?_
      refine then_normal ?_
      refine wp_cond_true rfl ?_
      refine wp_skip ?_
      refine then_normal ?_
      refine wp_seq ?_
      refine wp_block ?_
      refine wp_seq ?_
      refine walk_seq 5 [.quiet (.slice (some ⟨γs4, 0, none⟩) 2 2), .quiet (.int .i64 0), .quiet (PT γs4 0), .quiet (N p0), .born (fun g => .tuple #[PT g 0, .int .i64 0]) (modc p0)] (fun w' => Mm w' [(γs4, lec p0 (wd p1)), (γ1_0, cells6 a), (0, dtab)]) ?pre11 ?F11 ?hpre11 (fun γ => ?hF11) (by kernel_rfl) ?hL11 ?hS11 ?ho11 ?he11
      case hpre11 =>
        simp only [List.take_succ_cons, List.take_zero]
        exact rfl
      case hF11 =>
        simp only [fill, Kind.val, Act.put, List.setIfInBounds_toArray, List.set_cons_zero, List.set_cons_succ]
        exact rfl
      case hL11 => exact trivial
      case hS11 => exact fun w' hb => H12.out.1.below hb
      case ho11 =>
        refine AllOk.cons ?_ ?_
        · exact fun γ => ⟨rfl, fun w' _ => rfl⟩
        refine AllOk.cons ?_ ?_
        · exact fun γ => ⟨rfl, fun w' _ => rfl⟩
        refine AllOk.cons ?_ ?_
        · (refine fun γ => ⟨rfl, fun w' h => ?_⟩; clear h; go_simp)
        refine AllOk.cons ?_ ?_
        · exact fun γ => ⟨rfl, fun w' h => ex_load6 h 0 rfl rfl rfl rfl⟩
        refine AllOk.cons ?_ ?_
        · exact fun γ => ⟨rfl, fun w' h => ⟨8, #[N p0], exec_call rfl call8 rfl (by simp only [List.map_toArray, List.map_cons, List.map_nil]; rfl), C4.out w'⟩⟩
        exact trivial
      intro γ w13 l hM hl
      have M13 : Mm w13 [(γ 4, modc p0), (γs4, lec p0 (wd p1)), (γ1_0, cells6 a), (0, dtab)] := H12.out.1.grow hM (Nat.le_refl _) hl [4] rfl (by decide)
      have B13 : Below w.heap.size w w13 := H12.out.2.trans (hM.below.mono H12.out.2.size)
      have o11_4 : Hid (w.heap.size ≤ γ 4) := Nat.le_trans H12.out.2.size (hM.fin (Nat.le_refl _) hl (i := 4) rfl).2.1
      clear hM hl l H12
      generalize γ 4 = γ11_4 at M13 o11_4 ⊢
      clear γ
      have H13 : Hid (_ ∧ _) := ⟨M13, B13⟩
      clear M13 B13
      refine rest_at (l := [5, 6, 7, 8, 9]) rfl ?_
      refine rest_set (d := 24) rfl rfl rfl rfl ?_
      simp only [Act.put, List.setIfInBounds_toArray, List.set_cons_zero, List.set_cons_succ]
      refine rest_set (d := 30) (v := PT γ11_4 0) (w' := w13) rfl rfl rfl (by go_simp) ?_
      simp only [Act.put, List.setIfInBounds_toArray, List.set_cons_zero, List.set_cons_succ]
      refine rest_set (d := 31) (v := .int .i64 0) (w' := w13) rfl rfl rfl (by go_simp) ?_
      simp only [Act.put, List.setIfInBounds_toArray, List.set_cons_zero, List.set_cons_succ]
      refine rest_set (d := 6) rfl rfl rfl rfl ?_
      simp only [Act.put, List.setIfInBounds_toArray, List.set_cons_zero, List.set_cons_succ]
      refine rest_set (d := 7) rfl rfl rfl rfl ?_
      simp only [Act.put, List.setIfInBounds_toArray, List.set_cons_zero, List.set_cons_succ]
      refine rest_nil ?_
      refine then_normal ?_
      refine wp_seq ?_
      refine wp_seq ?_
      refine walk_seq 6 [.quiet (.int .i64 0), .quiet (.bool false), .quiet (.bool false), .quiet (PT γ11_4 0), .quiet (.bool false), .quiet (.bool false)] (fun w' => Mm w' [(γ11_4, modc p0), (γs4, lec p0 (wd p1)), (γ1_0, cells6 a), (0, dtab)]) ?pre12 ?F12 ?hpre12 (fun γ => ?hF12) (by kernel_rfl) ?hL12 ?hS12 ?ho12 ?he12
      case hpre12 =>
        simp only [List.take_succ_cons, List.take_zero]
        exact rfl
      case hF12 =>
        simp only [fill, Kind.val, Act.put, List.setIfInBounds_toArray, List.set_cons_zero, List.set_cons_succ]
        exact rfl
      case hL12 => exact trivial
      case hS12 => exact fun w' hb => H13.out.1.below hb
      case ho12 =>
        refine AllOk.cons ?_ ?_
        · exact fun γ => ⟨rfl, fun w' _ => rfl⟩
        refine AllOk.cons ?_ ?_
        · (refine fun γ => ⟨rfl, fun w' h => ?_⟩; clear h; go_simp)
        refine AllOk.cons ?_ ?_
        · exact fun γ => ⟨rfl, fun w' _ => rfl⟩
        refine AllOk.cons ?_ ?_
        · exact fun γ => ⟨rfl, fun w' _ => rfl⟩
        refine AllOk.cons ?_ ?_
        · (refine fun γ => ⟨rfl, fun w' h => ?_⟩; clear h; go_simp)
        refine AllOk.cons ?_ ?_
        · (refine fun γ => ⟨rfl, fun w' h => ?_⟩; clear h; go_simp)
        exact trivial
      intro γ w14 l hM hl
      have M14 : Mm w14 [(γ11_4, modc p0), (γs4, lec p0 (wd p1)), (γ1_0, cells6 a), (0, dtab)] := H13.out.1.grow hM (Nat.le_refl _) hl [] rfl (by decide)
      have B14 : Below w.heap.size w w14 := H13.out.2.trans (hM.below.mono H13.out.2.size)
      clear hM hl l H13
      clear γ
      have H14 : Hid (_ ∧ _) := ⟨M14, B14⟩
      clear M14 B14
      refine rest_at (l := []) rfl ?_
      refine rest_nil ?_
      refine then_normal ?_
      refine wp_cond_false rfl ?_
      refine wp_skip ?_
      refine then_normal ?_
      refine wp_seq ?_
      refine wp_seq ?_
      refine walk_seq 5 [.quiet (PT γ11_4 0), .quiet (N a), .call (N r0), .quiet (N 0), .quiet (.bool false)] (fun w' => Mm w' [(γ11_4, modc p0), (γs4, lec p0 (wd p1)), (γ1_0, cells6 a), (0, dtab)]) ?pre13 ?F13 ?hpre13 (fun γ => ?hF13) (by kernel_rfl) ?hL13 ?hS13 ?ho13 ?he13
      case hpre13 =>
        simp only [List.take_succ_cons, List.take_zero]
        exact rfl
      case hF13 =>
        simp only [fill, Kind.val, Act.put, List.setIfInBounds_toArray, List.set_cons_zero, List.set_cons_succ]
        exact rfl
      case hL13 => exact trivial
      case hS13 => exact fun w' hb => H14.out.1.below hb
      case ho13 =>
        refine AllOk.cons ?_ ?_
        · exact fun γ => ⟨rfl, fun w' _ => rfl⟩
        refine AllOk.cons ?_ ?_
        · exact fun γ => ⟨rfl, fun w' h => ex_load6 h 2 rfl rfl rfl rfl⟩
        refine AllOk.cons ?_ ?_
        · exact fun γ => ⟨rfl, fun w' h => ⟨9, #[PT γ11_4 0, N a], exec_call rfl call9 rfl (by simp only [List.map_toArray, List.map_cons, List.map_nil]; rfl), C5.out _ w' (h.one 0 rfl)⟩⟩
        refine AllOk.cons ?_ ?_
        · (refine fun γ => ⟨rfl, fun w' h => ?_⟩; clear h; exact ex_zero6 rfl)
        refine AllOk.cons ?_ ?_
        · exact fun γ => ⟨rfl, fun w' _ => exec_eq6 hz rfl rfl rfl⟩
        exact trivial
      intro γ w15 l hM hl
      have M15 : Mm w15 [(γ11_4, modc p0), (γs4, lec p0 (wd p1)), (γ1_0, cells6 a), (0, dtab)] := H14.out.1.grow hM (Nat.le_refl _) hl [] rfl (by decide)
      have B15 : Below w.heap.size w w15 := H14.out.2.trans (hM.below.mono H14.out.2.size)
      clear hM hl l H14
      clear γ
      have H15 : Hid (_ ∧ _) := ⟨M15, B15⟩
      clear M15 B15
      refine rest_at (l := []) rfl ?_
      refine rest_nil ?_
      refine then_normal ?_
      refine wp_cond_false rfl ?_
      refine wp_skip ?_
      refine then_normal ?_
      refine wp_seq ?_
      refine walk_any (by kernel_rfl) 12 [.quiet (.slice (some ⟨γs4, 0, none⟩) 2 2), .quiet (.int .i64 0), .quiet (PT γs4 0), .quiet (N p0), .call (N k1), .call (.tuple #[N l0, .bool b0]), .quiet (.tuple #[N l0, .bool b0]), .quiet (N l0), .quiet (.bool b0), .made zero6 24, .laid 9 zero6 (cells6 l0), .quiet (.bool b0)] (fun w' => Mm w' [(γ11_4, modc p0), (γs4, lec p0 (wd p1)), (γ1_0, cells6 a), (0, dtab)]) ?pre14 ?F14 ?hpre14 (fun γ => ?hF14) (by kernel_rfl) ?hL14 ?hS14 ?ho14 ?he14
      case hpre14 =>
        simp only [List.take_succ_cons, List.take_zero]
        exact rfl
      case hF14 =>
        simp only [fill, Kind.val, Act.put, List.setIfInBounds_toArray, List.set_cons_zero, List.set_cons_succ]
        exact rfl
      case hL14 => exact ⟨⟨_, rfl⟩, trivial⟩
      case hS14 => exact fun w' hb => H15.out.1.below hb
      case ho14 =>
        refine AllOk.cons ?_ ?_
        · exact fun γ => ⟨rfl, fun w' _ => rfl⟩
        refine AllOk.cons ?_ ?_
        · exact fun γ => ⟨rfl, fun w' _ => rfl⟩
        refine AllOk.cons ?_ ?_
        · (refine fun γ => ⟨rfl, fun w' h => ?_⟩; clear h; go_simp)
        refine AllOk.cons ?_ ?_
        · exact fun γ => ⟨rfl, fun w' h => ex_load6 h 1 rfl rfl rfl rfl⟩
        refine AllOk.cons ?_ ?_
        · exact fun γ => ⟨rfl, fun w' h => ⟨11, #[.int .u64 1], exec_call rfl call11 rfl (by simp only [List.map_toArray, List.map_cons, List.map_nil]; rfl), C3.out w'⟩⟩
        refine AllOk.cons ?_ ?_
        · exact fun γ => ⟨rfl, fun w' h => ⟨10, #[N p0, N k1], exec_call rfl call10 rfl (by simp only [List.map_toArray, List.map_cons, List.map_nil]; rfl), A0_0.out w'⟩⟩
        refine AllOk.cons ?_ ?_
        · exact fun γ => ⟨rfl, fun w' _ => rfl⟩
        refine AllOk.cons ?_ ?_
        · (refine fun γ => ⟨rfl, fun w' h => ?_⟩; clear h; go_simp)
        refine AllOk.cons ?_ ?_
        · (refine fun γ => ⟨rfl, fun w' h => ?_⟩; clear h; go_simp)
        refine AllOk.cons ?_ ?_
        · exact fun γ => ⟨rfl, fun w' => exec_made6 rfl⟩
        refine AllOk.cons ?_ ?_
        · exact fun γ => ⟨rfl, rfl, rfl, fun w' h => exec_laid6 h rfl rfl rfl⟩
        refine AllOk.cons ?_ ?_
        · exact fun γ => ⟨rfl, fun w' _ => rfl⟩
        exact trivial
      intro γ w16 l hM hl
      have M16 : Mm w16 [(γ 9, cells6 l0), (γ11_4, modc p0), (γs4, lec p0 (wd p1)), (γ1_0, cells6 a), (0, dtab)] := H15.out.1.grow hM (Nat.le_refl _) hl [9] rfl (by decide)
      have B16 : Below w.heap.size w w16 := H15.out.2.trans (hM.below.mono H15.out.2.size)
      have o14_9 : Hid (w.heap.size ≤ γ 9) := Nat.le_trans H15.out.2.size (hM.fin (Nat.le_refl _) hl (i := 9) rfl).2.1
      clear hM hl l H15
      generalize γ 9 = γ14_9 at M16 o14_9 ⊢
      clear γ
      have H16 : Hid (_ ∧ _) := ⟨M16, B16⟩
      clear M16 B16
      refine rest_at (l := []) rfl ?_
      refine rest_nil ?_
      refine then_normal ?_
      refine wp_seq ?_
      refine walk_seq 9 [.quiet (PT γ11_4 0), .quiet (N a), .call (.tuple #[N x0, .int .i64 0]), .quiet (.tuple #[N x0, .int .i64 0]), .quiet (N x0), .quiet (.int .i64 0), .made zero6 24, .laid 6 zero6 (cells6 x0), .quiet (.int .i64 0)] (fun w' => Mm w' [(γ14_9, cells6 l0), (γ11_4, modc p0), (γs4, lec p0 (wd p1)), (γ1_0, cells6 a), (0, dtab)]) ?pre15 ?F15 ?hpre15 (fun γ => ?hF15) (by kernel_rfl) ?hL15 ?hS15 ?ho15 ?he15
      case hpre15 =>
        simp only [List.take_succ_cons, List.take_zero]
        exact rfl
      case hF15 =>
        simp only [fill, Kind.val, Act.put, List.setIfInBounds_toArray, List.set_cons_zero, List.set_cons_succ]
        exact rfl
      case hL15 => exact ⟨⟨_, rfl⟩, trivial⟩
      case hS15 => exact fun w' hb => H16.out.1.below hb
      case ho15 =>
        refine AllOk.cons ?_ ?_
        · exact fun γ => ⟨rfl, fun w' _ => rfl⟩
        refine AllOk.cons ?_ ?_
        · exact fun γ => ⟨rfl, fun w' h => ex_load6 h 3 rfl rfl rfl rfl⟩
        refine AllOk.cons ?_ ?_
        · exact fun γ => ⟨rfl, fun w' h => ⟨12, #[PT γ11_4 0, N a], exec_call rfl call12 rfl (by simp only [List.map_toArray, List.map_cons, List.map_nil]; rfl), A0_1.out _ w' (h.two 1 4 rfl rfl (by decide))⟩⟩
        refine AllOk.cons ?_ ?_
        · exact fun γ => ⟨rfl, fun w' _ => rfl⟩
        refine AllOk.cons ?_ ?_
        · (refine fun γ => ⟨rfl, fun w' h => ?_⟩; clear h; go_simp)
        refine AllOk.cons ?_ ?_
        · (refine fun γ => ⟨rfl, fun w' h => ?_⟩; clear h; go_simp)
        refine AllOk.cons ?_ ?_
        · exact fun γ => ⟨rfl, fun w' => exec_made6 rfl⟩
        refine AllOk.cons ?_ ?_
        · exact fun γ => ⟨rfl, rfl, rfl, fun w' h => exec_laid6 h rfl rfl rfl⟩
        refine AllOk.cons ?_ ?_
        · exact fun γ => ⟨rfl, fun w' _ => rfl⟩
        exact trivial
      intro γ w17 l hM hl
      have M17 : Mm w17 [(γ 6, cells6 x0), (γ14_9, cells6 l0), (γ11_4, modc p0), (γs4, lec p0 (wd p1)), (γ1_0, cells6 a), (0, dtab)] := H16.out.1.grow hM (Nat.le_refl _) hl [6] rfl (by decide)
      have B17 : Below w.heap.size w w17 := H16.out.2.trans (hM.below.mono H16.out.2.size)
      have o15_6 : Hid (w.heap.size ≤ γ 6) := Nat.le_trans H16.out.2.size (hM.fin (Nat.le_refl _) hl (i := 6) rfl).2.1
      clear hM hl l H16
      generalize γ 6 = γ15_6 at M17 o15_6 ⊢
      clear γ
      have H17 : Hid (_ ∧ _) := ⟨M17, B17⟩
      clear M17 B17
      refine rest_at (l := []) rfl ?_
      refine rest_nil ?_
      refine then_normal ?_
      refine wp_seq ?_
      refine wp_seq ?_
      refine walk_seq 18 [.quiet (.int .i64 0), .quiet (.bool false), .quiet (.bool false), .quiet (PT γ11_4 0), .quiet (N x0), .quiet (N a), .call (N k1), .call (N k1), .quiet (.bool false), .quiet (.bool false), .quiet (.bool false), .quiet (PT γ11_4 0), .quiet (N a), .quiet (N l0), .call (N k1), .call (N k1), .quiet (.bool false), .quiet (.bool false)] (fun w' => Mm w' [(γ15_6, cells6 x0), (γ14_9, cells6 l0), (γ11_4, modc p0), (γs4, lec p0 (wd p1)), (γ1_0, cells6 a), (0, dtab)]) ?pre16 ?F16 ?hpre16 (fun γ => ?hF16) (by kernel_rfl) ?hL16 ?hS16 ?ho16 ?he16
      case hpre16 =>
        simp only [List.take_succ_cons, List.take_zero]
        exact rfl
      case hF16 =>
        simp only [fill, Kind.val, Act.put, List.setIfInBounds_toArray, List.set_cons_zero, List.set_cons_succ]
        exact rfl
      case hL16 => exact trivial
      case hS16 => exact fun w' hb => H17.out.1.below hb
      case ho16 =>
        refine AllOk.cons ?_ ?_
        · exact fun γ => ⟨rfl, fun w' _ => rfl⟩
        refine AllOk.cons ?_ ?_
        · (refine fun γ => ⟨rfl, fun w' h => ?_⟩; clear h; go_simp)
        refine AllOk.cons ?_ ?_
        · exact fun γ => ⟨rfl, fun w' _ => rfl⟩
        refine AllOk.cons ?_ ?_
        · exact fun γ => ⟨rfl, fun w' _ => rfl⟩
        refine AllOk.cons ?_ ?_
        · exact fun γ => ⟨rfl, fun w' h => ex_load6 h 0 rfl rfl rfl rfl⟩
        refine AllOk.cons ?_ ?_
        · exact fun γ => ⟨rfl, fun w' h => ex_load6 h 4 rfl rfl rfl rfl⟩
        refine AllOk.cons ?_ ?_
        · exact fun γ => ⟨rfl, fun w' h => ⟨13, #[PT γ11_4 0, N x0, N a], exec_call rfl call13 rfl (by simp only [List.map_toArray, List.map_cons, List.map_nil]; rfl), A0_2.out _ w' (h.one 2 rfl)⟩⟩
        refine AllOk.cons ?_ ?_
        · exact fun γ => ⟨rfl, fun w' h => ⟨11, #[.int .u64 1], exec_call rfl call11 rfl (by simp only [List.map_toArray, List.map_cons, List.map_nil]; rfl), C3.out w'⟩⟩
        refine AllOk.cons ?_ ?_
        · exact fun γ => ⟨rfl, fun w' _ => exec_neq6 e_k1 rfl rfl rfl⟩
        refine AllOk.cons ?_ ?_
        · (refine fun γ => ⟨rfl, fun w' h => ?_⟩; clear h; go_simp)
        refine AllOk.cons ?_ ?_
        · exact fun γ => ⟨rfl, fun w' _ => rfl⟩
        refine AllOk.cons ?_ ?_
        · exact fun γ => ⟨rfl, fun w' _ => rfl⟩
        refine AllOk.cons ?_ ?_
        · exact fun γ => ⟨rfl, fun w' h => ex_load6 h 4 rfl rfl rfl rfl⟩
        refine AllOk.cons ?_ ?_
        · exact fun γ => ⟨rfl, fun w' h => ex_load6 h 1 rfl rfl rfl rfl⟩
        refine AllOk.cons ?_ ?_
        · exact fun γ => ⟨rfl, fun w' h => ⟨14, #[PT γ11_4 0, N a, N l0], exec_call rfl call14 rfl (by simp only [List.map_toArray, List.map_cons, List.map_nil]; rfl), A0_3.out _ w' (h.one 2 rfl)⟩⟩
        refine AllOk.cons ?_ ?_
        · exact fun γ => ⟨rfl, fun w' h => ⟨11, #[.int .u64 1], exec_call rfl call11 rfl (by simp only [List.map_toArray, List.map_cons, List.map_nil]; rfl), C3.out w'⟩⟩
        refine AllOk.cons ?_ ?_
        · exact fun γ => ⟨rfl, fun w' _ => exec_neq6 e_k1 rfl rfl rfl⟩
        refine AllOk.cons ?_ ?_
        · (refine fun γ => ⟨rfl, fun w' h => ?_⟩; clear h; go_simp)
        exact trivial
      intro γ w18 l hM hl
      have M18 : Mm w18 [(γ15_6, cells6 x0), (γ14_9, cells6 l0), (γ11_4, modc p0), (γs4, lec p0 (wd p1)), (γ1_0, cells6 a), (0, dtab)] := H17.out.1.grow hM (Nat.le_refl _) hl [] rfl (by decide)
      have B18 : Below w.heap.size w w18 := H17.out.2.trans (hM.below.mono H17.out.2.size)
      clear hM hl l H17
      clear γ
      have H18 : Hid (_ ∧ _) := ⟨M18, B18⟩
      clear M18 B18
      refine rest_at (l := []) rfl ?_
      refine rest_nil ?_
      refine then_normal ?_
      refine wp_cond_false rfl ?_
      refine wp_skip ?_
      refine then_normal ?_
      refine wp_seq ?_
      refine walk_seq 9 [.quiet (PT γ11_4 0), .quiet (N a), .call (.tuple #[N u0, .int .i64 0]), .quiet (.tuple #[N u0, .int .i64 0]), .quiet (N u0), .quiet (.int .i64 0), .made zero6 24, .laid 6 zero6 (cells6 u0), .quiet (.int .i64 0)] (fun w' => Mm w' [(γ15_6, cells6 x0), (γ14_9, cells6 l0), (γ11_4, modc p0), (γs4, lec p0 (wd p1)), (γ1_0, cells6 a), (0, dtab)]) ?pre17 ?F17 ?hpre17 (fun γ => ?hF17) (by kernel_rfl) ?hL17 ?hS17 ?ho17 ?he17
      case hpre17 =>
        simp only [List.take_succ_cons, List.take_zero]
        exact rfl
      case hF17 =>
        simp only [fill, Kind.val, Act.put, List.setIfInBounds_toArray, List.set_cons_zero, List.set_cons_succ]
        exact rfl
      case hL17 => exact ⟨⟨_, rfl⟩, trivial⟩
      case hS17 => exact fun w' hb => H18.out.1.below hb
      case ho17 =>
        refine AllOk.cons ?_ ?_
        · exact fun γ => ⟨rfl, fun w' _ => rfl⟩
        refine AllOk.cons ?_ ?_
        · exact fun γ => ⟨rfl, fun w' h => ex_load6 h 4 rfl rfl rfl rfl⟩
        refine AllOk.cons ?_ ?_
        · exact fun γ => ⟨rfl, fun w' h => ⟨15, #[PT γ11_4 0, N a], exec_call rfl call15 rfl (by simp only [List.map_toArray, List.map_cons, List.map_nil]; rfl), A0_5.out _ w' (h.one 2 rfl)⟩⟩
        refine AllOk.cons ?_ ?_
        · exact fun γ => ⟨rfl, fun w' _ => rfl⟩
        refine AllOk.cons ?_ ?_
        · (refine fun γ => ⟨rfl, fun w' h => ?_⟩; clear h; go_simp)
        refine AllOk.cons ?_ ?_
        · (refine fun γ => ⟨rfl, fun w' h => ?_⟩; clear h; go_simp)
        refine AllOk.cons ?_ ?_
        · exact fun γ => ⟨rfl, fun w' => exec_made6 rfl⟩
        refine AllOk.cons ?_ ?_
        · exact fun γ => ⟨rfl, rfl, rfl, fun w' h => exec_laid6 h rfl rfl rfl⟩
        refine AllOk.cons ?_ ?_
        · exact fun γ => ⟨rfl, fun w' _ => rfl⟩
        exact trivial
      intro γ w19 l hM hl
      have M19 : Mm w19 [(γ 6, cells6 u0), (γ15_6, cells6 x0), (γ14_9, cells6 l0), (γ11_4, modc p0), (γs4, lec p0 (wd p1)), (γ1_0, cells6 a), (0, dtab)] := H18.out.1.grow hM (Nat.le_refl _) hl [6] rfl (by decide)
      have B19 : Below w.heap.size w w19 := H18.out.2.trans (hM.below.mono H18.out.2.size)
      have o17_6 : Hid (w.heap.size ≤ γ 6) := Nat.le_trans H18.out.2.size (hM.fin (Nat.le_refl _) hl (i := 6) rfl).2.1
      clear hM hl l H18
      generalize γ 6 = γ17_6 at M19 o17_6 ⊢
      clear γ
      have H19 : Hid (_ ∧ _) := ⟨M19, B19⟩
      clear M19 B19
      refine rest_at (l := []) rfl ?_
      refine rest_nil ?_
      refine then_normal ?_
      refine wp_seq ?_
      refine walk_seq 11 [.quiet (PT γ11_4 0), .quiet (PT γ11_4 0), .quiet (N a), .call (N n0), .call (.tuple #[N t0, .int .i64 6]), .quiet (.tuple #[N t0, .int .i64 6]), .quiet (N t0), .quiet (.int .i64 6), .made zero6 24, .laid 8 zero6 (cells6 t0), .quiet (.int .i64 6)] (fun w' => Mm w' [(γ17_6, cells6 u0), (γ15_6, cells6 x0), (γ14_9, cells6 l0), (γ11_4, modc p0), (γs4, lec p0 (wd p1)), (γ1_0, cells6 a), (0, dtab)]) ?pre18 ?F18 ?hpre18 (fun γ => ?hF18) (by kernel_rfl) ?hL18 ?hS18 ?ho18 ?he18
      case hpre18 =>
        simp only [List.take_succ_cons, List.take_zero]
        exact rfl
      case hF18 =>
        simp only [fill, Kind.val, Act.put, List.setIfInBounds_toArray, List.set_cons_zero, List.set_cons_succ]
        exact rfl
      case hL18 => exact ⟨⟨_, rfl⟩, trivial⟩
      case hS18 => exact fun w' hb => H19.out.1.below hb
      case ho18 =>
        refine AllOk.cons ?_ ?_
        · exact fun γ => ⟨rfl, fun w' _ => rfl⟩
        refine AllOk.cons ?_ ?_
        · exact fun γ => ⟨rfl, fun w' _ => rfl⟩
        refine AllOk.cons ?_ ?_
        · exact fun γ => ⟨rfl, fun w' h => ex_load6 h 5 rfl rfl rfl rfl⟩
        refine AllOk.cons ?_ ?_
        · exact fun γ => ⟨rfl, fun w' h => ⟨16, #[PT γ11_4 0, N a], exec_call rfl call16 rfl (by simp only [List.map_toArray, List.map_cons, List.map_nil]; rfl), A0_4.out _ w' (h.one 3 rfl)⟩⟩
        refine AllOk.cons ?_ ?_
        · exact fun γ => ⟨rfl, fun w' h => ⟨15, #[PT γ11_4 0, N n0], exec_call rfl call15 rfl (by simp only [List.map_toArray, List.map_cons, List.map_nil]; rfl), A0_6.out _ w' (h.one 3 rfl)⟩⟩
        refine AllOk.cons ?_ ?_
        · exact fun γ => ⟨rfl, fun w' _ => rfl⟩
        refine AllOk.cons ?_ ?_
        · (refine fun γ => ⟨rfl, fun w' h => ?_⟩; clear h; go_simp)
        refine AllOk.cons ?_ ?_
        · (refine fun γ => ⟨rfl, fun w' h => ?_⟩; clear h; go_simp)
        refine AllOk.cons ?_ ?_
        · exact fun γ => ⟨rfl, fun w' => exec_made6 rfl⟩
        refine AllOk.cons ?_ ?_
        · exact fun γ => ⟨rfl, rfl, rfl, fun w' h => exec_laid6 h rfl rfl rfl⟩
        refine AllOk.cons ?_ ?_
        · exact fun γ => ⟨rfl, fun w' _ => rfl⟩
        exact trivial
      intro γ w20 l hM hl
      have M20 : Mm w20 [(γ 8, cells6 t0), (γ17_6, cells6 u0), (γ15_6, cells6 x0), (γ14_9, cells6 l0), (γ11_4, modc p0), (γs4, lec p0 (wd p1)), (γ1_0, cells6 a), (0, dtab)] := H19.out.1.grow hM (Nat.le_refl _) hl [8] rfl (by decide)
      have B20 : Below w.heap.size w w20 := H19.out.2.trans (hM.below.mono H19.out.2.size)
      have o18_8 : Hid (w.heap.size ≤ γ 8) := Nat.le_trans H19.out.2.size (hM.fin (Nat.le_refl _) hl (i := 8) rfl).2.1
      clear hM hl l H19
      generalize γ 8 = γ18_8 at M20 o18_8 ⊢
      clear γ
      have H20 : Hid (_ ∧ _) := ⟨M20, B20⟩
      clear M20 B20
      refine rest_at (l := []) rfl ?_
      refine rest_nil ?_
      refine then_normal ?_
      refine wp_seq ?_
      refine walk_any (by kernel_rfl) 49 [.quiet (.int .i64 0), .quiet (.bool true), .quiet (.bool true), .quiet (.int .i64 0), .quiet (.bool true), .quiet (.int .i64 6), .quiet (.bool false), .quiet (.bool false), .quiet (.bool false), .quiet (.int .i64 0), .quiet (.bool true), .quiet (.bool true), .quiet (PT γ11_4 0), .quiet (N u0), .quiet (N u0), .call (N r0), .quiet (PT γ11_4 0), .quiet (N a), .call (N r0), .quiet (.bool false), .quiet (.bool false), .quiet (.bool false), .quiet (.bool false), .quiet (.int .i64 6), .quiet (.bool false), .quiet (.bool false), .gone, .gone, .gone, .gone, .gone, .gone, .gone, .gone, .quiet (.bool false), .quiet (.bool false), .quiet (.bool false), .quiet (.bool false), .quiet (.int .i64 0), .quiet (.bool false), .quiet (.bool false), .gone, .gone, .gone, .gone, .gone, .gone, .quiet (.bool false), .quiet (.bool false)] (fun w' => Mm w' [(γ18_8, cells6 t0), (γ17_6, cells6 u0), (γ15_6, cells6 x0), (γ14_9, cells6 l0), (γ11_4, modc p0), (γs4, lec p0 (wd p1)), (γ1_0, cells6 a), (0, dtab)]) ?pre19 ?F19 ?hpre19 (fun γ => ?hF19) (by kernel_rfl) ?hL19 ?hS19 ?ho19 ?he19
      case hpre19 =>
        simp only [List.take_succ_cons, List.take_zero]
        exact rfl
      case hF19 =>
        simp only [fill, Kind.val, Act.put, List.setIfInBounds_toArray, List.set_cons_zero, List.set_cons_succ]
        exact rfl
      case hL19 => exact trivial
      case hS19 => exact fun w' hb => H20.out.1.below hb
      case ho19 =>
        refine AllOk.cons ?_ ?_
        · exact fun γ => ⟨rfl, fun w' _ => rfl⟩
        refine AllOk.cons ?_ ?_
        · (refine fun γ => ⟨rfl, fun w' h => ?_⟩; clear h; go_simp)
        refine AllOk.cons ?_ ?_
        · exact fun γ => ⟨rfl, fun w' _ => rfl⟩
        refine AllOk.cons ?_ ?_
        · exact fun γ => ⟨rfl, fun w' _ => rfl⟩
        refine AllOk.cons ?_ ?_
        · (refine fun γ => ⟨rfl, fun w' h => ?_⟩; clear h; go_simp)
        refine AllOk.cons ?_ ?_
        · exact fun γ => ⟨rfl, fun w' _ => rfl⟩
        refine AllOk.cons ?_ ?_
        · (refine fun γ => ⟨rfl, fun w' h => ?_⟩; clear h; go_simp)
        refine AllOk.cons ?_ ?_
        · (refine fun γ => ⟨rfl, fun w' h => ?_⟩; clear h; go_simp)
        refine AllOk.cons ?_ ?_
        · exact fun γ => ⟨rfl, fun w' _ => rfl⟩
        refine AllOk.cons ?_ ?_
        · exact fun γ => ⟨rfl, fun w' _ => rfl⟩
        refine AllOk.cons ?_ ?_
        · (refine fun γ => ⟨rfl, fun w' h => ?_⟩; clear h; go_simp)
        refine AllOk.cons ?_ ?_
        · exact fun γ => ⟨rfl, fun w' _ => rfl⟩
        refine AllOk.cons ?_ ?_
        · exact fun γ => ⟨rfl, fun w' _ => rfl⟩
        refine AllOk.cons ?_ ?_
        · exact fun γ => ⟨rfl, fun w' h => ex_load6 h 1 rfl rfl rfl rfl⟩
        refine AllOk.cons ?_ ?_
        · exact fun γ => ⟨rfl, fun w' h => ex_load6 h 1 rfl rfl rfl rfl⟩
        refine AllOk.cons ?_ ?_
        · exact fun γ => ⟨rfl, fun w' h => ⟨13, #[PT γ11_4 0, N u0, N u0], exec_call rfl call13 rfl (by simp only [List.map_toArray, List.map_cons, List.map_nil]; rfl), A0_7.out _ w' (h.one 4 rfl)⟩⟩
        refine AllOk.cons ?_ ?_
        · exact fun γ => ⟨rfl, fun w' _ => rfl⟩
        refine AllOk.cons ?_ ?_
        · exact fun γ => ⟨rfl, fun w' h => ex_load6 h 6 rfl rfl rfl rfl⟩
        refine AllOk.cons ?_ ?_
        · exact fun γ => ⟨rfl, fun w' h => ⟨9, #[PT γ11_4 0, N a], exec_call rfl call9 rfl (by simp only [List.map_toArray, List.map_cons, List.map_nil]; rfl), C5.out _ w' (h.one 4 rfl)⟩⟩
        refine AllOk.cons ?_ ?_
        · exact fun γ => ⟨rfl, fun w' _ => exec_neq6 e_r0 rfl rfl rfl⟩
        refine AllOk.cons ?_ ?_
        · (refine fun γ => ⟨rfl, fun w' h => ?_⟩; clear h; go_simp)
        refine AllOk.cons ?_ ?_
        · (refine fun γ => ⟨rfl, fun w' h => ?_⟩; clear h; go_simp)
        refine AllOk.cons ?_ ?_
        · exact fun γ => ⟨rfl, fun w' _ => rfl⟩
        refine AllOk.cons ?_ ?_
        · exact fun γ => ⟨rfl, fun w' _ => rfl⟩
        refine AllOk.cons ?_ ?_
        · (refine fun γ => ⟨rfl, fun w' h => ?_⟩; clear h; go_simp)
        refine AllOk.cons ?_ ?_
        · exact fun γ => ⟨rfl, fun w' _ => rfl⟩
        refine AllOk.cons ?_ ?_
        · exact fun γ => rfl
        refine AllOk.cons ?_ ?_
        · exact fun γ => rfl
        refine AllOk.cons ?_ ?_
        · exact fun γ => rfl
        refine AllOk.cons ?_ ?_
        · exact fun γ => rfl
        refine AllOk.cons ?_ ?_
        · exact fun γ => rfl
        refine AllOk.cons ?_ ?_
        · exact fun γ => rfl
        refine AllOk.cons ?_ ?_
        · exact fun γ => rfl
        refine AllOk.cons ?_ ?_
        · exact fun γ => rfl
        refine AllOk.cons ?_ ?_
        · (refine fun γ => ⟨rfl, fun w' h => ?_⟩; clear h; go_simp)
        refine AllOk.cons ?_ ?_
        · (refine fun γ => ⟨rfl, fun w' h => ?_⟩; clear h; go_simp)
        refine AllOk.cons ?_ ?_
        · (refine fun γ => ⟨rfl, fun w' h => ?_⟩; clear h; go_simp)
        refine AllOk.cons ?_ ?_
        · exact fun γ => ⟨rfl, fun w' _ => rfl⟩
        refine AllOk.cons ?_ ?_
        · exact fun γ => ⟨rfl, fun w' _ => rfl⟩
        refine AllOk.cons ?_ ?_
        · (refine fun γ => ⟨rfl, fun w' h => ?_⟩; clear h; go_simp)
        refine AllOk.cons ?_ ?_
        · exact fun γ => ⟨rfl, fun w' _ => rfl⟩
        refine AllOk.cons ?_ ?_
        · exact fun γ => rfl
        refine AllOk.cons ?_ ?_
        · exact fun γ => rfl
        refine AllOk.cons ?_ ?_
        · exact fun γ => rfl
        refine AllOk.cons ?_ ?_
        · exact fun γ => rfl
        refine AllOk.cons ?_ ?_
        · exact fun γ => rfl
        refine AllOk.cons ?_ ?_
        · exact fun γ => rfl
        refine AllOk.cons ?_ ?_
        · (refine fun γ => ⟨rfl, fun w' h => ?_⟩; clear h; go_simp)
        refine AllOk.cons ?_ ?_
        · (refine fun γ => ⟨rfl, fun w' h => ?_⟩; clear h; go_simp)
        exact trivial
      intro γ w21 l hM hl
      have M21 : Mm w21 [(γ18_8, cells6 t0), (γ17_6, cells6 u0), (γ15_6, cells6 x0), (γ14_9, cells6 l0), (γ11_4, modc p0), (γs4, lec p0 (wd p1)), (γ1_0, cells6 a), (0, dtab)] := H20.out.1.grow hM (Nat.le_refl _) hl [] rfl (by decide)
      have B21 : Below w.heap.size w w21 := H20.out.2.trans (hM.below.mono H20.out.2.size)
      clear hM hl l H20
      clear γ
      have H21 : Hid (_ ∧ _) := ⟨M21, B21⟩
      clear M21 B21
      refine rest_at (l := []) rfl ?_
      refine rest_nil ?_
      refine then_normal ?_
      refine wp_cond_false rfl ?_
      refine wp_skip ?_
      refine block_normal ?_
      refine then_normal ?_
      refine walk_seq 2 [.quiet (.int .i64 0), .quiet (.int .i64 1)] (fun w' => Mm w' [(γ18_8, cells6 t0), (γ17_6, cells6 u0), (γ15_6, cells6 x0), (γ14_9, cells6 l0), (γ11_4, modc p0), (γs4, lec p0 (wd p1)), (γ1_0, cells6 a), (0, dtab)]) ?pre20 ?F20 ?hpre20 (fun γ => ?hF20) (by kernel_rfl) ?hL20 ?hS20 ?ho20 ?he20
      case hpre20 =>
        simp only [List.take_succ_cons, List.take_zero]
        exact rfl
      case hF20 =>
        simp only [fill, Kind.val, Act.put, List.setIfInBounds_toArray, List.set_cons_zero, List.set_cons_succ]
        exact rfl
      case hL20 => exact trivial
      case hS20 => exact fun w' hb => H21.out.1.below hb
      case ho20 =>
        refine AllOk.cons ?_ ?_
        · exact fun γ => ⟨rfl, fun w' _ => rfl⟩
        refine AllOk.cons ?_ ?_
        · (refine fun γ => ⟨rfl, fun w' h => ?_⟩; clear h; go_simp; rw [IntKind.wrap_i64]; omega)
        exact trivial
      intro γ w22 l hM hl
      have M22 : Mm w22 [(γ18_8, cells6 t0), (γ17_6, cells6 u0), (γ15_6, cells6 x0), (γ14_9, cells6 l0), (γ11_4, modc p0), (γs4, lec p0 (wd p1)), (γ1_0, cells6 a), (0, dtab)] := H21.out.1.grow hM (Nat.le_refl _) hl [] rfl (by decide)
      have B22 : Below w.heap.size w w22 := H21.out.2.trans (hM.below.mono H21.out.2.size)
      clear hM hl l H21
      clear γ
      have H22 : Hid (_ ∧ _) := ⟨M22, B22⟩
      clear M22 B22
      refine rest_at (l := [2]) rfl ?_
      refine rest_set (d := 5) rfl rfl rfl rfl ?_
      simp only [Act.put, List.setIfInBounds_toArray, List.set_cons_zero, List.set_cons_succ]
      refine rest_nil ?_
      refine then_normal ?_
      exact ⟨1, ⟨(slotfn [undef, undef, s0 2, undef, undef, undef, PT γ11_4 0, .int .i64 0, PT γ14_9 0, .bool b0, PT γ15_6 0, .int .i64 0, PT γ17_6 0, .int .i64 0, PT γ18_8 0, .int .i64 6, undef, undef, undef, undef, .int .i64 0, .bool true, .int .i64 0, .int .i64 1, .tuple #[PT γ11_4 0, .int .i64 0], .slice (some ⟨γs4, 0, none⟩) 2 2, .int .i64 0, PT γs4 0, N p0, .tuple #[PT γ11_4 0, .int .i64 0], PT γ11_4 0, .int .i64 0, .int .i64 0, .bool false, .bool false, PT γ11_4 0, .bool false, .bool false, PT γ11_4 0, N a, N r0, N 0, .bool false, .tuple #[N l0, .bool b0], .slice (some ⟨γs4, 0, none⟩) 2 2, .int .i64 0, PT γs4 0, N p0, N k1, .tuple #[N l0, .bool b0], N l0, .bool b0, .tuple #[N x0, .int .i64 0], PT γ11_4 0, N a, .tuple #[N x0, .int .i64 0], N x0, .int .i64 0, .int .i64 0, .bool false, .bool false, PT γ11_4 0, N x0, N a, N k1, N k1, .bool false, .bool false, .bool false, PT γ11_4 0, N a, N l0, N k1, N k1, .bool false, .bool false, .tuple #[N u0, .int .i64 0], PT γ11_4 0, N a, .tuple #[N u0, .int .i64 0], N u0, .int .i64 0, .tuple #[N t0, .int .i64 6], PT γ11_4 0, PT γ11_4 0, N a, N n0, .tuple #[N t0, .int .i64 6], N t0, .int .i64 6, .int .i64 0, .bool true, .bool true, .int .i64 0, .bool true, .int .i64 6, .bool false, .bool false, .bool false, .int .i64 0, .bool true, .bool true, PT γ11_4 0, N u0, N u0, N r0, PT γ11_4 0, N a, N r0, .bool false, .bool false, .bool false, .bool false, .int .i64 6, .bool false, .bool false, undef, undef, undef, undef, undef, undef, undef, undef, .bool false, .bool false, .bool false, .bool false, .int .i64 0, .bool false, .bool false, undef, undef, undef, undef, undef, undef, .bool false, .bool false]), rfl, ⟨H22.out.1.tail.tail.tail.tail.tail, H22.out.2⟩, by omega⟩, by omega⟩
    · have hrd : True := trivial
      clear hrd
      have N0_0 : Hid _ := k0
      have N0_1 : Hid _ := k1
      have N0_2 : Hid _ := k2
      have N0_3 : Hid _ := k3
      have N0_4 : Hid _ := k4
      have N0_5 : Hid _ := k5
      have N0_6 : Hid _ := k6
      have N0_7 : Hid _ := k7
      clear k0 k1 k2 k3 k4 k5 k6 k7
      refine wp_seq ?_
      refine wp_seq ?_
      refine walk_seq 2 [.quiet (.int .i64 0), .quiet (.bool true)] (fun w' => Mm w' [(γs4, lec p0 (wd p1)), (γ1_0, cells6 a), (0, dtab)]) ?pre21 ?F21 ?hpre21 (fun γ => ?hF21) (by kernel_rfl) ?hL21 ?hS21 ?ho21 ?he21
      case hpre21 =>
        simp only [List.take_succ_cons, List.take_zero]
        exact rfl
      case hF21 =>
        simp only [fill, Kind.val, Act.put, List.setIfInBounds_toArray, List.set_cons_zero, List.set_cons_succ]
        exact rfl
      case hL21 => exact trivial
      case hS21 => exact fun w' hb => H6.out.1.below hb
      case ho21 =>
        refine AllOk.cons ?_ ?_
        · exact fun γ => ⟨rfl, fun w' _ => rfl⟩
        refine AllOk.cons ?_ ?_
        · (refine fun γ => ⟨rfl, fun w' h => ?_⟩; clear h; go_simp)
        exact trivial
      intro γ w23 l hM hl
      have M23 : Mm w23 [(γs4, lec p0 (wd p1)), (γ1_0, cells6 a), (0, dtab)] := H6.out.1.grow hM (Nat.le_refl _) hl [] rfl (by decide)
      have B23 : Below w.heap.size w w23 := H6.out.2.trans (hM.below.mono H6.out.2.size)
      clear hM hl l H6
      clear γ
      have H23 : Hid (_ ∧ _) := ⟨M23, B23⟩
      clear M23 B23
      refine rest_at (l := []) rfl ?_
      refine rest_nil ?_
      refine then_normal ?_
      refine wp_cond_true rfl ?_
      refine wp_skip ?_
      refine then_normal ?_
      refine wp_seq ?_
      refine wp_block ?_
      refine wp_seq ?_
      refine walk_seq 5 [.quiet (.slice (some ⟨γs4, 0, none⟩) 2 2), .quiet (.int .i64 0), .quiet (PT γs4 0), .quiet (N p0), .born (fun g => .tuple #[PT g 0, .int .i64 0]) (modc p0)] (fun w' => Mm w' [(γs4, lec p0 (wd p1)), (γ1_0, cells6 a), (0, dtab)]) ?pre22 ?F22 ?hpre22 (fun γ => ?hF22) (by kernel_rfl) ?hL22 ?hS22 ?ho22 ?he22
      case hpre22 =>
        simp only [List.take_succ_cons, List.take_zero]
        exact rfl
      case hF22 =>
        simp only [fill, Kind.val, Act.put, List.setIfInBounds_toArray, List.set_cons_zero, List.set_cons_succ]
        exact rfl
      case hL22 => exact trivial
      case hS22 => exact fun w' hb => H23.out.1.below hb
      case ho22 =>
        refine AllOk.cons ?_ ?_
        · exact fun γ => ⟨rfl, fun w' _ => rfl⟩
        refine AllOk.cons ?_ ?_
        · exact fun γ => ⟨rfl, fun w' _ => rfl⟩
        refine AllOk.cons ?_ ?_
        · (refine fun γ => ⟨rfl, fun w' h => ?_⟩; clear h; go_simp)
        refine AllOk.cons ?_ ?_
        · exact fun γ => ⟨rfl, fun w' h => ex_load6 h 0 rfl rfl rfl rfl⟩
        refine AllOk.cons ?_ ?_
        · exact fun γ => ⟨rfl, fun w' h => ⟨8, #[N p0], exec_call rfl call8 rfl (by simp only [List.map_toArray, List.map_cons, List.map_nil]; rfl), C4.out w'⟩⟩
        exact trivial
      intro γ w24 l hM hl
      have M24 : Mm w24 [(γ 4, modc p0), (γs4, lec p0 (wd p1)), (γ1_0, cells6 a), (0, dtab)] := H23.out.1.grow hM (Nat.le_refl _) hl [4] rfl (by decide)
      have B24 : Below w.heap.size w w24 := H23.out.2.trans (hM.below.mono H23.out.2.size)
      have o22_4 : Hid (w.heap.size ≤ γ 4) := Nat.le_trans H23.out.2.size (hM.fin (Nat.le_refl _) hl (i := 4) rfl).2.1
      clear hM hl l H23
      generalize γ 4 = γ22_4 at M24 o22_4 ⊢
      clear γ
      have H24 : Hid (_ ∧ _) := ⟨M24, B24⟩
      clear M24 B24
      refine rest_at (l := [5, 6, 7, 8, 9]) rfl ?_
      refine rest_set (d := 24) rfl rfl rfl rfl ?_
      simp only [Act.put, List.setIfInBounds_toArray, List.set_cons_zero, List.set_cons_succ]
      refine rest_set (d := 30) (v := PT γ22_4 0) (w' := w24) rfl rfl rfl (by go_simp) ?_
      simp only [Act.put, List.setIfInBounds_toArray, List.set_cons_zero, List.set_cons_succ]
      refine rest_set (d := 31) (v := .int .i64 0) (w' := w24) rfl rfl rfl (by go_simp) ?_
      simp only [Act.put, List.setIfInBounds_toArray, List.set_cons_zero, List.set_cons_succ]
      refine rest_set (d := 6) rfl rfl rfl rfl ?_
      simp only [Act.put, List.setIfInBounds_toArray, List.set_cons_zero, List.set_cons_succ]
      refine rest_set (d := 7) rfl rfl rfl rfl ?_
      simp only [Act.put, List.setIfInBounds_toArray, List.set_cons_zero, List.set_cons_succ]
      refine rest_nil ?_
      refine then_normal ?_
      refine wp_seq ?_
      refine wp_seq ?_
      refine walk_seq 6 [.quiet (.int .i64 0), .quiet (.bool false), .quiet (.bool false), .quiet (PT γ22_4 0), .quiet (.bool false), .quiet (.bool false)] (fun w' => Mm w' [(γ22_4, modc p0), (γs4, lec p0 (wd p1)), (γ1_0, cells6 a), (0, dtab)]) ?pre23 ?F23 ?hpre23 (fun γ => ?hF23) (by kernel_rfl) ?hL23 ?hS23 ?ho23 ?he23
      case hpre23 =>
        simp only [List.take_succ_cons, List.take_zero]
        exact rfl
      case hF23 =>
        simp only [fill, Kind.val, Act.put, List.setIfInBounds_toArray, List.set_cons_zero, List.set_cons_succ]
        exact rfl
      case hL23 => exact trivial
      case hS23 => exact fun w' hb => H24.out.1.below hb
      case ho23 =>
        refine AllOk.cons ?_ ?_
        · exact fun γ => ⟨rfl, fun w' _ => rfl⟩
        refine AllOk.cons ?_ ?_
        · (refine fun γ => ⟨rfl, fun w' h => ?_⟩; clear h; go_simp)
        refine AllOk.cons ?_ ?_
        · exact fun γ => ⟨rfl, fun w' _ => rfl⟩
        refine AllOk.cons ?_ ?_
        · exact fun γ => ⟨rfl, fun w' _ => rfl⟩
        refine AllOk.cons ?_ ?_
        · (refine fun γ => ⟨rfl, fun w' h => ?_⟩; clear h; go_simp)
        refine AllOk.cons ?_ ?_
        · (refine fun γ => ⟨rfl, fun w' h => ?_⟩; clear h; go_simp)
        exact trivial
      intro γ w25 l hM hl
      have M25 : Mm w25 [(γ22_4, modc p0), (γs4, lec p0 (wd p1)), (γ1_0, cells6 a), (0, dtab)] := H24.out.1.grow hM (Nat.le_refl _) hl [] rfl (by decide)
      have B25 : Below w.heap.size w w25 := H24.out.2.trans (hM.below.mono H24.out.2.size)
      clear hM hl l H24
      clear γ
      have H25 : Hid (_ ∧ _) := ⟨M25, B25⟩
      clear M25 B25
      refine rest_at (l := []) rfl ?_
      refine rest_nil ?_
      refine then_normal ?_
      refine wp_cond_false rfl ?_
      refine wp_skip ?_
      refine then_normal ?_
      refine wp_seq ?_
      refine wp_seq ?_
      refine walk_seq 5 [.quiet (PT γ22_4 0), .quiet (N a), .call (N r0), .quiet (N 0), .quiet (.bool false)] (fun w' => Mm w' [(γ22_4, modc p0), (γs4, lec p0 (wd p1)), (γ1_0, cells6 a), (0, dtab)]) ?pre24 ?F24 ?hpre24 (fun γ => ?hF24) (by kernel_rfl) ?hL24 ?hS24 ?ho24 ?he24
      case hpre24 =>
        simp only [List.take_succ_cons, List.take_zero]
        exact rfl
      case hF24 =>
        simp only [fill, Kind.val, Act.put, List.setIfInBounds_toArray, List.set_cons_zero, List.set_cons_succ]
        exact rfl
      case hL24 => exact trivial
      case hS24 => exact fun w' hb => H25.out.1.below hb
      case ho24 =>
        refine AllOk.cons ?_ ?_
        · exact fun γ => ⟨rfl, fun w' _ => rfl⟩
        refine AllOk.cons ?_ ?_
        · exact fun γ => ⟨rfl, fun w' h => ex_load6 h 2 rfl rfl rfl rfl⟩
        refine AllOk.cons ?_ ?_
        · exact fun γ => ⟨rfl, fun w' h => ⟨9, #[PT γ22_4 0, N a], exec_call rfl call9 rfl (by simp only [List.map_toArray, List.map_cons, List.map_nil]; rfl), C5.out _ w' (h.one 0 rfl)⟩⟩
        refine AllOk.cons ?_ ?_
        · (refine fun γ => ⟨rfl, fun w' h => ?_⟩; clear h; exact ex_zero6 rfl)
        refine AllOk.cons ?_ ?_
        · exact fun γ => ⟨rfl, fun w' _ => exec_eq6 hz rfl rfl rfl⟩
        exact trivial
      intro γ w26 l hM hl
      have M26 : Mm w26 [(γ22_4, modc p0), (γs4, lec p0 (wd p1)), (γ1_0, cells6 a), (0, dtab)] := H25.out.1.grow hM (Nat.le_refl _) hl [] rfl (by decide)
      have B26 : Below w.heap.size w w26 := H25.out.2.trans (hM.below.mono H25.out.2.size)
      clear hM hl l H25
      clear γ
      have H26 : Hid (_ ∧ _) := ⟨M26, B26⟩
      clear M26 B26
      refine rest_at (l := []) rfl ?_
      refine rest_nil ?_
      refine then_normal ?_
      refine wp_cond_false rfl ?_
      refine wp_skip ?_
      refine then_normal ?_
      refine wp_seq ?_
      refine walk_any (by kernel_rfl) 12 [.quiet (.slice (some ⟨γs4, 0, none⟩) 2 2), .quiet (.int .i64 0), .quiet (PT γs4 0), .quiet (N p0), .call (N k1), .call (.tuple #[N l0, .bool b0]), .quiet (.tuple #[N l0, .bool b0]), .quiet (N l0), .quiet (.bool b0), .made zero6 24, .laid 9 zero6 (cells6 l0), .quiet (.bool b0)] (fun w' => Mm w' [(γ22_4, modc p0), (γs4, lec p0 (wd p1)), (γ1_0, cells6 a), (0, dtab)]) ?pre25 ?F25 ?hpre25 (fun γ => ?hF25) (by kernel_rfl) ?hL25 ?hS25 ?ho25 ?he25
      case hpre25 =>
        simp only [List.take_succ_cons, List.take_zero]
        exact rfl
      case hF25 =>
        simp only [fill, Kind.val, Act.put, List.setIfInBounds_toArray, List.set_cons_zero, List.set_cons_succ]
        exact rfl
      case hL25 => exact ⟨⟨_, rfl⟩, trivial⟩
      case hS25 => exact fun w' hb => H26.out.1.below hb
      case ho25 =>
        refine AllOk.cons ?_ ?_
        · exact fun γ => ⟨rfl, fun w' _ => rfl⟩
        refine AllOk.cons ?_ ?_
        · exact fun γ => ⟨rfl, fun w' _ => rfl⟩
        refine AllOk.cons ?_ ?_
        · (refine fun γ => ⟨rfl, fun w' h => ?_⟩; clear h; go_simp)
        refine AllOk.cons ?_ ?_
        · exact fun γ => ⟨rfl, fun w' h => ex_load6 h 1 rfl rfl rfl rfl⟩
        refine AllOk.cons ?_ ?_
        · exact fun γ => ⟨rfl, fun w' h => ⟨11, #[.int .u64 1], exec_call rfl call11 rfl (by simp only [List.map_toArray, List.map_cons, List.map_nil]; rfl), C3.out w'⟩⟩
        refine AllOk.cons ?_ ?_
        · exact fun γ => ⟨rfl, fun w' h => ⟨10, #[N p0, N k1], exec_call rfl call10 rfl (by simp only [List.map_toArray, List.map_cons, List.map_nil]; rfl), N0_0.out w'⟩⟩
        refine AllOk.cons ?_ ?_
        · exact fun γ => ⟨rfl, fun w' _ => rfl⟩
        refine AllOk.cons ?_ ?_
        · (refine fun γ => ⟨rfl, fun w' h => ?_⟩; clear h; go_simp)
        refine AllOk.cons ?_ ?_
        · (refine fun γ => ⟨rfl, fun w' h => ?_⟩; clear h; go_simp)
        refine AllOk.cons ?_ ?_
        · exact fun γ => ⟨rfl, fun w' => exec_made6 rfl⟩
        refine AllOk.cons ?_ ?_
        · exact fun γ => ⟨rfl, rfl, rfl, fun w' h => exec_laid6 h rfl rfl rfl⟩
        refine AllOk.cons ?_ ?_
        · exact fun γ => ⟨rfl, fun w' _ => rfl⟩
        exact trivial
      intro γ w27 l hM hl
      have M27 : Mm w27 [(γ 9, cells6 l0), (γ22_4, modc p0), (γs4, lec p0 (wd p1)), (γ1_0, cells6 a), (0, dtab)] := H26.out.1.grow hM (Nat.le_refl _) hl [9] rfl (by decide)
      have B27 : Below w.heap.size w w27 := H26.out.2.trans (hM.below.mono H26.out.2.size)
      have o25_9 : Hid (w.heap.size ≤ γ 9) := Nat.le_trans H26.out.2.size (hM.fin (Nat.le_refl _) hl (i := 9) rfl).2.1
      clear hM hl l H26
      generalize γ 9 = γ25_9 at M27 o25_9 ⊢
      clear γ
      have H27 : Hid (_ ∧ _) := ⟨M27, B27⟩
      clear M27 B27
      refine rest_at (l := []) rfl ?_
      refine rest_nil ?_
      refine then_normal ?_
      refine wp_seq ?_
      refine walk_seq 9 [.quiet (PT γ22_4 0), .quiet (N a), .call (.tuple #[N x0, .int .i64 0]), .quiet (.tuple #[N x0, .int .i64 0]), .quiet (N x0), .quiet (.int .i64 0), .made zero6 24, .laid 6 zero6 (cells6 x0), .quiet (.int .i64 0)] (fun w' => Mm w' [(γ25_9, cells6 l0), (γ22_4, modc p0), (γs4, lec p0 (wd p1)), (γ1_0, cells6 a), (0, dtab)]) ?pre26 ?F26 ?hpre26 (fun γ => ?hF26) (by kernel_rfl) ?hL26 ?hS26 ?ho26 ?he26
      case hpre26 =>
        simp only [List.take_succ_cons, List.take_zero]
        exact rfl
      case hF26 =>
        simp only [fill, Kind.val, Act.put, List.setIfInBounds_toArray, List.set_cons_zero, List.set_cons_succ]
        exact rfl
      case hL26 => exact ⟨⟨_, rfl⟩, trivial⟩
      case hS26 => exact fun w' hb => H27.out.1.below hb
      case ho26 =>
        refine AllOk.cons ?_ ?_
        · exact fun γ => ⟨rfl, fun w' _ => rfl⟩
        refine AllOk.cons ?_ ?_
        · exact fun γ => ⟨rfl, fun w' h => ex_load6 h 3 rfl rfl rfl rfl⟩
        refine AllOk.cons ?_ ?_
        · exact fun γ => ⟨rfl, fun w' h => ⟨12, #[PT γ22_4 0, N a], exec_call rfl call12 rfl (by simp only [List.map_toArray, List.map_cons, List.map_nil]; rfl), N0_1.out _ w' (h.two 1 4 rfl rfl (by decide))⟩⟩
        refine AllOk.cons ?_ ?_
        · exact fun γ => ⟨rfl, fun w' _ => rfl⟩
        refine AllOk.cons ?_ ?_
        · (refine fun γ => ⟨rfl, fun w' h => ?_⟩; clear h; go_simp)
        refine AllOk.cons ?_ ?_
        · (refine fun γ => ⟨rfl, fun w' h => ?_⟩; clear h; go_simp)
        refine AllOk.cons ?_ ?_
        · exact fun γ => ⟨rfl, fun w' => exec_made6 rfl⟩
        refine AllOk.cons ?_ ?_
        · exact fun γ => ⟨rfl, rfl, rfl, fun w' h => exec_laid6 h rfl rfl rfl⟩
        refine AllOk.cons ?_ ?_
        · exact fun γ => ⟨rfl, fun w' _ => rfl⟩
        exact trivial
      intro γ w28 l hM hl
      have M28 : Mm w28 [(γ 6, cells6 x0), (γ25_9, cells6 l0), (γ22_4, modc p0), (γs4, lec p0 (wd p1)), (γ1_0, cells6 a), (0, dtab)] := H27.out.1.grow hM (Nat.le_refl _) hl [6] rfl (by decide)
      have B28 : Below w.heap.size w w28 := H27.out.2.trans (hM.below.mono H27.out.2.size)
      have o26_6 : Hid (w.heap.size ≤ γ 6) := Nat.le_trans H27.out.2.size (hM.fin (Nat.le_refl _) hl (i := 6) rfl).2.1
      clear hM hl l H27
      generalize γ 6 = γ26_6 at M28 o26_6 ⊢
      clear γ
      have H28 : Hid (_ ∧ _) := ⟨M28, B28⟩
      clear M28 B28
      refine rest_at (l := []) rfl ?_
      refine rest_nil ?_
      refine then_normal ?_
      refine wp_seq ?_
      refine wp_seq ?_
      refine walk_seq 18 [.quiet (.int .i64 0), .quiet (.bool false), .quiet (.bool false), .quiet (PT γ22_4 0), .quiet (N x0), .quiet (N a), .call (N k1), .call (N k1), .quiet (.bool false), .quiet (.bool false), .quiet (.bool false), .quiet (PT γ22_4 0), .quiet (N a), .quiet (N l0), .call (N k1), .call (N k1), .quiet (.bool false), .quiet (.bool false)] (fun w' => Mm w' [(γ26_6, cells6 x0), (γ25_9, cells6 l0), (γ22_4, modc p0), (γs4, lec p0 (wd p1)), (γ1_0, cells6 a), (0, dtab)]) ?pre27 ?F27 ?hpre27 (fun γ => ?hF27) (by kernel_rfl) ?hL27 ?hS27 ?ho27 ?he27
      case hpre27 =>
        simp only [List.take_succ_cons, List.take_zero]
        exact rfl
      case hF27 =>
        simp only [fill, Kind.val, Act.put, List.setIfInBounds_toArray, List.set_cons_zero, List.set_cons_succ]
        exact rfl
      case hL27 => exact trivial
      case hS27 => exact fun w' hb => H28.out.1.below hb
      case ho27 =>
        refine AllOk.cons ?_ ?_
        · exact fun γ => ⟨rfl, fun w' _ => rfl⟩
        refine AllOk.cons ?_ ?_
        · (refine fun γ => ⟨rfl, fun w' h => ?_⟩; clear h; go_simp)
        refine AllOk.cons ?_ ?_
        · exact fun γ => ⟨rfl, fun w' _ => rfl⟩
        refine AllOk.cons ?_ ?_
        · exact fun γ => ⟨rfl, fun w' _ => rfl⟩
        refine AllOk.cons ?_ ?_
        · exact fun γ => ⟨rfl, fun w' h => ex_load6 h 0 rfl rfl rfl rfl⟩
        refine AllOk.cons ?_ ?_
        · exact fun γ => ⟨rfl, fun w' h => ex_load6 h 4 rfl rfl rfl rfl⟩
        refine AllOk.cons ?_ ?_
        · exact fun γ => ⟨rfl, fun w' h => ⟨13, #[PT γ22_4 0, N x0, N a], exec_call rfl call13 rfl (by simp only [List.map_toArray, List.map_cons, List.map_nil]; rfl), N0_2.out _ w' (h.one 2 rfl)⟩⟩
        refine AllOk.cons ?_ ?_
        · exact fun γ => ⟨rfl, fun w' h => ⟨11, #[.int .u64 1], exec_call rfl call11 rfl (by simp only [List.map_toArray, List.map_cons, List.map_nil]; rfl), C3.out w'⟩⟩
        refine AllOk.cons ?_ ?_
        · exact fun γ => ⟨rfl, fun w' _ => exec_neq6 e_k1 rfl rfl rfl⟩
        refine AllOk.cons ?_ ?_
        · (refine fun γ => ⟨rfl, fun w' h => ?_⟩; clear h; go_simp)
        refine AllOk.cons ?_ ?_
        · exact fun γ => ⟨rfl, fun w' _ => rfl⟩
        refine AllOk.cons ?_ ?_
        · exact fun γ => ⟨rfl, fun w' _ => rfl⟩
        refine AllOk.cons ?_ ?_
        · exact fun γ => ⟨rfl, fun w' h => ex_load6 h 4 rfl rfl rfl rfl⟩
        refine AllOk.cons ?_ ?_
        · exact fun γ => ⟨rfl, fun w' h => ex_load6 h 1 rfl rfl rfl rfl⟩
        refine AllOk.cons ?_ ?_
        · exact fun γ => ⟨rfl, fun w' h => ⟨14, #[PT γ22_4 0, N a, N l0], exec_call rfl call14 rfl (by simp only [List.map_toArray, List.map_cons, List.map_nil]; rfl), N0_3.out _ w' (h.one 2 rfl)⟩⟩
        refine AllOk.cons ?_ ?_
        · exact fun γ => ⟨rfl, fun w' h => ⟨11, #[.int .u64 1], exec_call rfl call11 rfl (by simp only [List.map_toArray, List.map_cons, List.map_nil]; rfl), C3.out w'⟩⟩
        refine AllOk.cons ?_ ?_
        · exact fun γ => ⟨rfl, fun w' _ => exec_neq6 e_k1 rfl rfl rfl⟩
        refine AllOk.cons ?_ ?_
        · (refine fun γ => ⟨rfl, fun w' h => ?_⟩; clear h; go_simp)
        exact trivial
      intro γ w29 l hM hl
      have M29 : Mm w29 [(γ26_6, cells6 x0), (γ25_9, cells6 l0), (γ22_4, modc p0), (γs4, lec p0 (wd p1)), (γ1_0, cells6 a), (0, dtab)] := H28.out.1.grow hM (Nat.le_refl _) hl [] rfl (by decide)
      have B29 : Below w.heap.size w w29 := H28.out.2.trans (hM.below.mono H28.out.2.size)
      clear hM hl l H28
      clear γ
      have H29 : Hid (_ ∧ _) := ⟨M29, B29⟩
      clear M29 B29
      refine rest_at (l := []) rfl ?_
      refine rest_nil ?_
      refine then_normal ?_
      refine wp_cond_false rfl ?_
      refine wp_skip ?_
      refine then_normal ?_
      refine wp_seq ?_
      refine walk_seq 9 [.quiet (PT γ22_4 0), .quiet (N a), .call (.tuple #[N u0, .int .i64 6]), .quiet (.tuple #[N u0, .int .i64 6]), .quiet (N u0), .quiet (.int .i64 6), .made zero6 24, .laid 6 zero6 (cells6 u0), .quiet (.int .i64 6)] (fun w' => Mm w' [(γ26_6, cells6 x0), (γ25_9, cells6 l0), (γ22_4, modc p0), (γs4, lec p0 (wd p1)), (γ1_0, cells6 a), (0, dtab)]) ?pre28 ?F28 ?hpre28 (fun γ => ?hF28) (by kernel_rfl) ?hL28 ?hS28 ?ho28 ?he28
      case hpre28 =>
        simp only [List.take_succ_cons, List.take_zero]
        exact rfl
      case hF28 =>
        simp only [fill, Kind.val, Act.put, List.setIfInBounds_toArray, List.set_cons_zero, List.set_cons_succ]
        exact rfl
      case hL28 => exact ⟨⟨_, rfl⟩, trivial⟩
      case hS28 => exact fun w' hb => H29.out.1.below hb
      case ho28 =>
        refine AllOk.cons ?_ ?_
        · exact fun γ => ⟨rfl, fun w' _ => rfl⟩
        refine AllOk.cons ?_ ?_
        · exact fun γ => ⟨rfl, fun w' h => ex_load6 h 4 rfl rfl rfl rfl⟩
        refine AllOk.cons ?_ ?_
        · exact fun γ => ⟨rfl, fun w' h => ⟨15, #[PT γ22_4 0, N a], exec_call rfl call15 rfl (by simp only [List.map_toArray, List.map_cons, List.map_nil]; rfl), N0_5.out _ w' (h.one 2 rfl)⟩⟩
        refine AllOk.cons ?_ ?_
        · exact fun γ => ⟨rfl, fun w' _ => rfl⟩
        refine AllOk.cons ?_ ?_
        · (refine fun γ => ⟨rfl, fun w' h => ?_⟩; clear h; go_simp)
        refine AllOk.cons ?_ ?_
        · (refine fun γ => ⟨rfl, fun w' h => ?_⟩; clear h; go_simp)
        refine AllOk.cons ?_ ?_
        · exact fun γ => ⟨rfl, fun w' => exec_made6 rfl⟩
        refine AllOk.cons ?_ ?_
        · exact fun γ => ⟨rfl, rfl, rfl, fun w' h => exec_laid6 h rfl rfl rfl⟩
        refine AllOk.cons ?_ ?_
        · exact fun γ => ⟨rfl, fun w' _ => rfl⟩
        exact trivial
      intro γ w30 l hM hl
      have M30 : Mm w30 [(γ 6, cells6 u0), (γ26_6, cells6 x0), (γ25_9, cells6 l0), (γ22_4, modc p0), (γs4, lec p0 (wd p1)), (γ1_0, cells6 a), (0, dtab)] := H29.out.1.grow hM (Nat.le_refl _) hl [6] rfl (by decide)
      have B30 : Below w.heap.size w w30 := H29.out.2.trans (hM.below.mono H29.out.2.size)
      have o28_6 : Hid (w.heap.size ≤ γ 6) := Nat.le_trans H29.out.2.size (hM.fin (Nat.le_refl _) hl (i := 6) rfl).2.1
      clear hM hl l H29
      generalize γ 6 = γ28_6 at M30 o28_6 ⊢
      clear γ
      have H30 : Hid (_ ∧ _) := ⟨M30, B30⟩
      clear M30 B30
      refine rest_at (l := []) rfl ?_
      refine rest_nil ?_
      refine then_normal ?_
      refine wp_seq ?_
      refine walk_seq 11 [.quiet (PT γ22_4 0), .quiet (PT γ22_4 0), .quiet (N a), .call (N n0), .call (.tuple #[N t0, .int .i64 0]), .quiet (.tuple #[N t0, .int .i64 0]), .quiet (N t0), .quiet (.int .i64 0), .made zero6 24, .laid 8 zero6 (cells6 t0), .quiet (.int .i64 0)] (fun w' => Mm w' [(γ28_6, cells6 u0), (γ26_6, cells6 x0), (γ25_9, cells6 l0), (γ22_4, modc p0), (γs4, lec p0 (wd p1)), (γ1_0, cells6 a), (0, dtab)]) ?pre29 ?F29 ?hpre29 (fun γ => ?hF29) (by kernel_rfl) ?hL29 ?hS29 ?ho29 ?he29
      case hpre29 =>
        simp only [List.take_succ_cons, List.take_zero]
        exact rfl
      case hF29 =>
        simp only [fill, Kind.val, Act.put, List.setIfInBounds_toArray, List.set_cons_zero, List.set_cons_succ]
        exact rfl
      case hL29 => exact ⟨⟨_, rfl⟩, trivial⟩
      case hS29 => exact fun w' hb => H30.out.1.below hb
      case ho29 =>
        refine AllOk.cons ?_ ?_
        · exact fun γ => ⟨rfl, fun w' _ => rfl⟩
        refine AllOk.cons ?_ ?_
        · exact fun γ => ⟨rfl, fun w' _ => rfl⟩
        refine AllOk.cons ?_ ?_
        · exact fun γ => ⟨rfl, fun w' h => ex_load6 h 5 rfl rfl rfl rfl⟩
        refine AllOk.cons ?_ ?_
        · exact fun γ => ⟨rfl, fun w' h => ⟨16, #[PT γ22_4 0, N a], exec_call rfl call16 rfl (by simp only [List.map_toArray, List.map_cons, List.map_nil]; rfl), N0_4.out _ w' (h.one 3 rfl)⟩⟩
        refine AllOk.cons ?_ ?_
        · exact fun γ => ⟨rfl, fun w' h => ⟨15, #[PT γ22_4 0, N n0], exec_call rfl call15 rfl (by simp only [List.map_toArray, List.map_cons, List.map_nil]; rfl), N0_6.out _ w' (h.one 3 rfl)⟩⟩
        refine AllOk.cons ?_ ?_
        · exact fun γ => ⟨rfl, fun w' _ => rfl⟩
        refine AllOk.cons ?_ ?_
        · (refine fun γ => ⟨rfl, fun w' h => ?_⟩; clear h; go_simp)
        refine AllOk.cons ?_ ?_
        · (refine fun γ => ⟨rfl, fun w' h => ?_⟩; clear h; go_simp)
        refine AllOk.cons ?_ ?_
        · exact fun γ => ⟨rfl, fun w' => exec_made6 rfl⟩
        refine AllOk.cons ?_ ?_
        · exact fun γ => ⟨rfl, rfl, rfl, fun w' h => exec_laid6 h rfl rfl rfl⟩
        refine AllOk.cons ?_ ?_
        · exact fun γ => ⟨rfl, fun w' _ => rfl⟩
        exact trivial
      intro γ w31 l hM hl
      have M31 : Mm w31 [(γ 8, cells6 t0), (γ28_6, cells6 u0), (γ26_6, cells6 x0), (γ25_9, cells6 l0), (γ22_4, modc p0), (γs4, lec p0 (wd p1)), (γ1_0, cells6 a), (0, dtab)] := H30.out.1.grow hM (Nat.le_refl _) hl [8] rfl (by decide)
      have B31 : Below w.heap.size w w31 := H30.out.2.trans (hM.below.mono H30.out.2.size)
      have o29_8 : Hid (w.heap.size ≤ γ 8) := Nat.le_trans H30.out.2.size (hM.fin (Nat.le_refl _) hl (i := 8) rfl).2.1
      clear hM hl l H30
      generalize γ 8 = γ29_8 at M31 o29_8 ⊢
      clear γ
      have H31 : Hid (_ ∧ _) := ⟨M31, B31⟩
      clear M31 B31
      refine rest_at (l := []) rfl ?_
      refine rest_nil ?_
      refine then_normal ?_
      refine wp_seq ?_
      refine walk_any (by kernel_rfl) 49 [.quiet (.int .i64 0), .quiet (.bool true), .quiet (.bool true), .quiet (.int .i64 6), .quiet (.bool false), .quiet (.int .i64 0), .quiet (.bool true), .quiet (.bool false), .quiet (.bool false), .quiet (.int .i64 6), .quiet (.bool false), .quiet (.bool false), .gone, .gone, .gone, .gone, .gone, .gone, .gone, .gone, .quiet (.bool false), .quiet (.bool false), .quiet (.bool false), .quiet (.int .i64 0), .quiet (.bool true), .quiet (.bool true), .quiet (PT γ22_4 0), .quiet (N t0), .quiet (N t0), .call (N n0), .quiet (PT γ22_4 0), .quiet (N a), .call (N n0), .quiet (.bool false), .quiet (.bool false), .quiet (.bool false), .quiet (.bool false), .quiet (.bool false), .quiet (.int .i64 0), .quiet (.bool false), .quiet (.bool false), .gone, .gone, .gone, .gone, .gone, .gone, .quiet (.bool false), .quiet (.bool false)] (fun w' => Mm w' [(γ29_8, cells6 t0), (γ28_6, cells6 u0), (γ26_6, cells6 x0), (γ25_9, cells6 l0), (γ22_4, modc p0), (γs4, lec p0 (wd p1)), (γ1_0, cells6 a), (0, dtab)]) ?pre30 ?F30 ?hpre30 (fun γ => ?hF30) (by kernel_rfl) ?hL30 ?hS30 ?ho30 ?he30
      case hpre30 =>
        simp only [List.take_succ_cons, List.take_zero]
        exact rfl
      case hF30 =>
        simp only [fill, Kind.val, Act.put, List.setIfInBounds_toArray, List.set_cons_zero, List.set_cons_succ]
        exact rfl
      case hL30 => exact trivial
      case hS30 => exact fun w' hb => H31.out.1.below hb
      case ho30 =>
        refine AllOk.cons ?_ ?_
        · exact fun γ => ⟨rfl, fun w' _ => rfl⟩
        refine AllOk.cons ?_ ?_
        · (refine fun γ => ⟨rfl, fun w' h => ?_⟩; clear h; go_simp)
        refine AllOk.cons ?_ ?_
        · exact fun γ => ⟨rfl, fun w' _ => rfl⟩
        refine AllOk.cons ?_ ?_
        · exact fun γ => ⟨rfl, fun w' _ => rfl⟩
        refine AllOk.cons ?_ ?_
        · (refine fun γ => ⟨rfl, fun w' h => ?_⟩; clear h; go_simp)
        refine AllOk.cons ?_ ?_
        · exact fun γ => ⟨rfl, fun w' _ => rfl⟩
        refine AllOk.cons ?_ ?_
        · (refine fun γ => ⟨rfl, fun w' h => ?_⟩; clear h; go_simp)
        refine AllOk.cons ?_ ?_
        · (refine fun γ => ⟨rfl, fun w' h => ?_⟩; clear h; go_simp)
        refine AllOk.cons ?_ ?_
        · exact fun γ => ⟨rfl, fun w' _ => rfl⟩
        refine AllOk.cons ?_ ?_
        · exact fun γ => ⟨rfl, fun w' _ => rfl⟩
        refine AllOk.cons ?_ ?_
        · (refine fun γ => ⟨rfl, fun w' h => ?_⟩; clear h; go_simp)
        refine AllOk.cons ?_ ?_
        · exact fun γ => ⟨rfl, fun w' _ => rfl⟩
        refine AllOk.cons ?_ ?_
        · exact fun γ => rfl
        refine AllOk.cons ?_ ?_
        · exact fun γ => rfl
        refine AllOk.cons ?_ ?_
        · exact fun γ => rfl
        refine AllOk.cons ?_ ?_
        · exact fun γ => rfl
        refine AllOk.cons ?_ ?_
        · exact fun γ => rfl
        refine AllOk.cons ?_ ?_
        · exact fun γ => rfl
        refine AllOk.cons ?_ ?_
        · exact fun γ => rfl
        refine AllOk.cons ?_ ?_
        · exact fun γ => rfl
        refine AllOk.cons ?_ ?_
        · (refine fun γ => ⟨rfl, fun w' h => ?_⟩; clear h; go_simp)
        refine AllOk.cons ?_ ?_
        · (refine fun γ => ⟨rfl, fun w' h => ?_⟩; clear h; go_simp)
        refine AllOk.cons ?_ ?_
        · exact fun γ => ⟨rfl, fun w' _ => rfl⟩
        refine AllOk.cons ?_ ?_
        · exact fun γ => ⟨rfl, fun w' _ => rfl⟩
        refine AllOk.cons ?_ ?_
        · (refine fun γ => ⟨rfl, fun w' h => ?_⟩; clear h; go_simp)
        refine AllOk.cons ?_ ?_
        · exact fun γ => ⟨rfl, fun w' _ => rfl⟩
        refine AllOk.cons ?_ ?_
        · exact fun γ => ⟨rfl, fun w' _ => rfl⟩
        refine AllOk.cons ?_ ?_
        · exact fun γ => ⟨rfl, fun w' h => ex_load6 h 0 rfl rfl rfl rfl⟩
        refine AllOk.cons ?_ ?_
        · exact fun γ => ⟨rfl, fun w' h => ex_load6 h 0 rfl rfl rfl rfl⟩
        refine AllOk.cons ?_ ?_
        · exact fun γ => ⟨rfl, fun w' h => ⟨13, #[PT γ22_4 0, N t0, N t0], exec_call rfl call13 rfl (by simp only [List.map_toArray, List.map_cons, List.map_nil]; rfl), N0_7.out _ w' (h.one 4 rfl)⟩⟩
        refine AllOk.cons ?_ ?_
        · exact fun γ => ⟨rfl, fun w' _ => rfl⟩
        refine AllOk.cons ?_ ?_
        · exact fun γ => ⟨rfl, fun w' h => ex_load6 h 6 rfl rfl rfl rfl⟩
        refine AllOk.cons ?_ ?_
        · exact fun γ => ⟨rfl, fun w' h => ⟨16, #[PT γ22_4 0, N a], exec_call rfl call16 rfl (by simp only [List.map_toArray, List.map_cons, List.map_nil]; rfl), N0_4.out _ w' (h.one 4 rfl)⟩⟩
        refine AllOk.cons ?_ ?_
        · exact fun γ => ⟨rfl, fun w' _ => exec_neq6 e_n0 rfl rfl rfl⟩
        refine AllOk.cons ?_ ?_
        · (refine fun γ => ⟨rfl, fun w' h => ?_⟩; clear h; go_simp)
        refine AllOk.cons ?_ ?_
        · (refine fun γ => ⟨rfl, fun w' h => ?_⟩; clear h; go_simp)
        refine AllOk.cons ?_ ?_
        · (refine fun γ => ⟨rfl, fun w' h => ?_⟩; clear h; go_simp)
        refine AllOk.cons ?_ ?_
        · exact fun γ => ⟨rfl, fun w' _ => rfl⟩
        refine AllOk.cons ?_ ?_
        · exact fun γ => ⟨rfl, fun w' _ => rfl⟩
        refine AllOk.cons ?_ ?_
        · (refine fun γ => ⟨rfl, fun w' h => ?_⟩; clear h; go_simp)
        refine AllOk.cons ?_ ?_
        · exact fun γ => ⟨rfl, fun w' _ => rfl⟩
        refine AllOk.cons ?_ ?_
        · exact fun γ => rfl
        refine AllOk.cons ?_ ?_
        · exact fun γ => rfl
        refine AllOk.cons ?_ ?_
        · exact fun γ => rfl
        refine AllOk.cons ?_ ?_
        · exact fun γ => rfl
        refine AllOk.cons ?_ ?_
        · exact fun γ => rfl
        refine AllOk.cons ?_ ?_
        · exact fun γ => rfl
        refine AllOk.cons ?_ ?_
        · (refine fun γ => ⟨rfl, fun w' h => ?_⟩; clear h; go_simp)
        refine AllOk.cons ?_ ?_
        · (refine fun γ => ⟨rfl, fun w' h => ?_⟩; clear h; go_simp)
        exact trivial
      intro γ w32 l hM hl
      have M32 : Mm w32 [(γ29_8, cells6 t0), (γ28_6, cells6 u0), (γ26_6, cells6 x0), (γ25_9, cells6 l0), (γ22_4, modc p0), (γs4, lec p0 (wd p1)), (γ1_0, cells6 a), (0, dtab)] := H31.out.1.grow hM (Nat.le_refl _) hl [] rfl (by decide)
      have B32 : Below w.heap.size w w32 := H31.out.2.trans (hM.below.mono H31.out.2.size)
      clear hM hl l H31
      clear γ
      have H32 : Hid (_ ∧ _) := ⟨M32, B32⟩
      clear M32 B32
      refine rest_at (l := []) rfl ?_
      refine rest_nil ?_
      refine then_normal ?_
      refine wp_cond_false rfl ?_
      refine wp_skip ?_
      refine block_normal ?_
      refine then_normal ?_
      refine walk_seq 2 [.quiet (.int .i64 0), .quiet (.int .i64 1)] (fun w' => Mm w' [(γ29_8, cells6 t0), (γ28_6, cells6 u0), (γ26_6, cells6 x0), (γ25_9, cells6 l0), (γ22_4, modc p0), (γs4, lec p0 (wd p1)), (γ1_0, cells6 a), (0, dtab)]) ?pre31 ?F31 ?hpre31 (fun γ => ?hF31) (by kernel_rfl) ?hL31 ?hS31 ?ho31 ?he31
      case hpre31 =>
        simp only [List.take_succ_cons, List.take_zero]
        exact rfl
      case hF31 =>
        simp only [fill, Kind.val, Act.put, List.setIfInBounds_toArray, List.set_cons_zero, List.set_cons_succ]
        exact rfl
      case hL31 => exact trivial
      case hS31 => exact fun w' hb => H32.out.1.below hb
      case ho31 =>
        refine AllOk.cons ?_ ?_
        · exact fun γ => ⟨rfl, fun w' _ => rfl⟩
        refine AllOk.cons ?_ ?_
        · (refine fun γ => ⟨rfl, fun w' h => ?_⟩; clear h; go_simp; rw [IntKind.wrap_i64]; omega)
        exact trivial
      intro γ w33 l hM hl
      have M33 : Mm w33 [(γ29_8, cells6 t0), (γ28_6, cells6 u0), (γ26_6, cells6 x0), (γ25_9, cells6 l0), (γ22_4, modc p0), (γs4, lec p0 (wd p1)), (γ1_0, cells6 a), (0, dtab)] := H32.out.1.grow hM (Nat.le_refl _) hl [] rfl (by decide)
      have B33 : Below w.heap.size w w33 := H32.out.2.trans (hM.below.mono H32.out.2.size)
      clear hM hl l H32
      clear γ
      have H33 : Hid (_ ∧ _) := ⟨M33, B33⟩
      clear M33 B33
      refine rest_at (l := [2]) rfl ?_
      refine rest_set (d := 5) rfl rfl rfl rfl ?_
      simp only [Act.put, List.setIfInBounds_toArray, List.set_cons_zero, List.set_cons_succ]
      refine rest_nil ?_
      refine then_normal ?_
      exact ⟨1, ⟨(slotfn [undef, undef, s0 2, undef, undef, undef, PT γ22_4 0, .int .i64 0, PT γ25_9 0, .bool b0, PT γ26_6 0, .int .i64 0, PT γ28_6 0, .int .i64 6, PT γ29_8 0, .int .i64 0, undef, undef, undef, undef, .int .i64 0, .bool true, .int .i64 0, .int .i64 1, .tuple #[PT γ22_4 0, .int .i64 0], .slice (some ⟨γs4, 0, none⟩) 2 2, .int .i64 0, PT γs4 0, N p0, .tuple #[PT γ22_4 0, .int .i64 0], PT γ22_4 0, .int .i64 0, .int .i64 0, .bool false, .bool false, PT γ22_4 0, .bool false, .bool false, PT γ22_4 0, N a, N r0, N 0, .bool false, .tuple #[N l0, .bool b0], .slice (some ⟨γs4, 0, none⟩) 2 2, .int .i64 0, PT γs4 0, N p0, N k1, .tuple #[N l0, .bool b0], N l0, .bool b0, .tuple #[N x0, .int .i64 0], PT γ22_4 0, N a, .tuple #[N x0, .int .i64 0], N x0, .int .i64 0, .int .i64 0, .bool false, .bool false, PT γ22_4 0, N x0, N a, N k1, N k1, .bool false, .bool false, .bool false, PT γ22_4 0, N a, N l0, N k1, N k1, .bool false, .bool false, .tuple #[N u0, .int .i64 6], PT γ22_4 0, N a, .tuple #[N u0, .int .i64 6], N u0, .int .i64 6, .tuple #[N t0, .int .i64 0], PT γ22_4 0, PT γ22_4 0, N a, N n0, .tuple #[N t0, .int .i64 0], N t0, .int .i64 0, .int .i64 0, .bool true, .bool true, .int .i64 6, .bool false, .int .i64 0, .bool true, .bool false, .bool false, .int .i64 6, .bool false, .bool false, undef, undef, undef, undef, undef, undef, undef, undef, .bool false, .bool false, .bool false, .int .i64 0, .bool true, .bool true, PT γ22_4 0, N t0, N t0, N n0, PT γ22_4 0, N a, N n0, .bool false, .bool false, .bool false, .bool false, .bool false, .int .i64 0, .bool false, .bool false, undef, undef, undef, undef, undef, undef, .bool false, .bool false]), rfl, ⟨H33.out.1.tail.tail.tail.tail.tail, H33.out.2⟩, by omega⟩, by omega⟩
    · have hrd : True := trivial
      clear hrd
      refine wp_seq ?_
      refine wp_seq ?_
      refine walk_seq 2 [.quiet (.int .i64 1), .quiet (.bool true)] (fun w' => Mm w' [(γs4, lec p0 (wd p1)), (γ1_0, cells6 a), (0, dtab)]) ?pre32 ?F32 ?hpre32 (fun γ => ?hF32) (by kernel_rfl) ?hL32 ?hS32 ?ho32 ?he32
      case hpre32 =>
        simp only [List.take_succ_cons, List.take_zero]
        exact rfl
      case hF32 =>
        simp only [fill, Kind.val, Act.put, List.setIfInBounds_toArray, List.set_cons_zero, List.set_cons_succ]
        exact rfl
      case hL32 => exact trivial
      case hS32 => exact fun w' hb => H6.out.1.below hb
      case ho32 =>
        refine AllOk.cons ?_ ?_
        · exact fun γ => ⟨rfl, fun w' _ => rfl⟩
        refine AllOk.cons ?_ ?_
        · (refine fun γ => ⟨rfl, fun w' h => ?_⟩; clear h; go_simp)
        exact trivial
      intro γ w34 l hM hl
      have M34 : Mm w34 [(γs4, lec p0 (wd p1)), (γ1_0, cells6 a), (0, dtab)] := H6.out.1.grow hM (Nat.le_refl _) hl [] rfl (by decide)
      have B34 : Below w.heap.size w w34 := H6.out.2.trans (hM.below.mono H6.out.2.size)
      clear hM hl l H6
      clear γ
      have H34 : Hid (_ ∧ _) := ⟨M34, B34⟩
      clear M34 B34
      refine rest_at (l := []) rfl ?_
      refine rest_nil ?_
      refine then_normal ?_
      refine wp_cond_true rfl ?_
      refine wp_skip ?_
      refine then_normal ?_
      refine wp_seq ?_
      refine wp_block ?_
      refine wp_seq ?_
      refine walk_seq 5 [.quiet (.slice (some ⟨γs4, 0, none⟩) 2 2), .quiet (.int .i64 1), .quiet (PT γs4 6), .quiet (N p1), .born (fun g => .tuple #[PT g 0, .int .i64 0]) (modc p1)] (fun w' => Mm w' [(γs4, lec p0 (wd p1)), (γ1_0, cells6 a), (0, dtab)]) ?pre33 ?F33 ?hpre33 (fun γ => ?hF33) (by kernel_rfl) ?hL33 ?hS33 ?ho33 ?he33
      case hpre33 =>
        simp only [List.take_succ_cons, List.take_zero]
        exact rfl
      case hF33 =>
        simp only [fill, Kind.val, Act.put, List.setIfInBounds_toArray, List.set_cons_zero, List.set_cons_succ]
        exact rfl
      case hL33 => exact trivial
      case hS33 => exact fun w' hb => H34.out.1.below hb
      case ho33 =>
        refine AllOk.cons ?_ ?_
        · exact fun γ => ⟨rfl, fun w' _ => rfl⟩
        refine AllOk.cons ?_ ?_
        · exact fun γ => ⟨rfl, fun w' _ => rfl⟩
        refine AllOk.cons ?_ ?_
        · (refine fun γ => ⟨rfl, fun w' h => ?_⟩; clear h; go_simp)
        refine AllOk.cons ?_ ?_
        · exact fun γ => ⟨rfl, fun w' h => ex_load6 h 0 rfl rfl rfl rfl⟩
        refine AllOk.cons ?_ ?_
        · exact fun γ => ⟨rfl, fun w' h => ⟨8, #[N p1], exec_call rfl call8 rfl (by simp only [List.map_toArray, List.map_cons, List.map_nil]; rfl), C6.out w'⟩⟩
        exact trivial
      intro γ w35 l hM hl
      have M35 : Mm w35 [(γ 4, modc p1), (γs4, lec p0 (wd p1)), (γ1_0, cells6 a), (0, dtab)] := H34.out.1.grow hM (Nat.le_refl _) hl [4] rfl (by decide)
      have B35 : Below w.heap.size w w35 := H34.out.2.trans (hM.below.mono H34.out.2.size)
      have o33_4 : Hid (w.heap.size ≤ γ 4) := Nat.le_trans H34.out.2.size (hM.fin (Nat.le_refl _) hl (i := 4) rfl).2.1
      clear hM hl l H34
      generalize γ 4 = γ33_4 at M35 o33_4 ⊢
      clear γ
      have H35 : Hid (_ ∧ _) := ⟨M35, B35⟩
      clear M35 B35
      refine rest_at (l := [5, 6, 7, 8, 9]) rfl ?_
      refine rest_set (d := 24) rfl rfl rfl rfl ?_
      simp only [Act.put, List.setIfInBounds_toArray, List.set_cons_zero, List.set_cons_succ]
      refine rest_set (d := 30) (v := PT γ33_4 0) (w' := w35) rfl rfl rfl (by go_simp) ?_
      simp only [Act.put, List.setIfInBounds_toArray, List.set_cons_zero, List.set_cons_succ]
      refine rest_set (d := 31) (v := .int .i64 0) (w' := w35) rfl rfl rfl (by go_simp) ?_
      simp only [Act.put, List.setIfInBounds_toArray, List.set_cons_zero, List.set_cons_succ]
      refine rest_set (d := 6) rfl rfl rfl rfl ?_
      simp only [Act.put, List.setIfInBounds_toArray, List.set_cons_zero, List.set_cons_succ]
      refine rest_set (d := 7) rfl rfl rfl rfl ?_
      simp only [Act.put, List.setIfInBounds_toArray, List.set_cons_zero, List.set_cons_succ]
      refine rest_nil ?_
      refine then_normal ?_
      refine wp_seq ?_
      refine wp_seq ?_
      refine walk_seq 6 [.quiet (.int .i64 0), .quiet (.bool false), .quiet (.bool false), .quiet (PT γ33_4 0), .quiet (.bool false), .quiet (.bool false)] (fun w' => Mm w' [(γ33_4, modc p1), (γs4, lec p0 (wd p1)), (γ1_0, cells6 a), (0, dtab)]) ?pre34 ?F34 ?hpre34 (fun γ => ?hF34) (by kernel_rfl) ?hL34 ?hS34 ?ho34 ?he34
      case hpre34 =>
        simp only [List.take_succ_cons, List.take_zero]
        exact rfl
      case hF34 =>
        simp only [fill, Kind.val, Act.put, List.setIfInBounds_toArray, List.set_cons_zero, List.set_cons_succ]
        exact rfl
      case hL34 => exact trivial
      case hS34 => exact fun w' hb => H35.out.1.below hb
      case ho34 =>
        refine AllOk.cons ?_ ?_
        · exact fun γ => ⟨rfl, fun w' _ => rfl⟩
        refine AllOk.cons ?_ ?_
        · (refine fun γ => ⟨rfl, fun w' h => ?_⟩; clear h; go_simp)
        refine AllOk.cons ?_ ?_
        · exact fun γ => ⟨rfl, fun w' _ => rfl⟩
        refine AllOk.cons ?_ ?_
        · exact fun γ => ⟨rfl, fun w' _ => rfl⟩
        refine AllOk.cons ?_ ?_
        · (refine fun γ => ⟨rfl, fun w' h => ?_⟩; clear h; go_simp)
        refine AllOk.cons ?_ ?_
        · (refine fun γ => ⟨rfl, fun w' h => ?_⟩; clear h; go_simp)
        exact trivial
      intro γ w36 l hM hl
      have M36 : Mm w36 [(γ33_4, modc p1), (γs4, lec p0 (wd p1)), (γ1_0, cells6 a), (0, dtab)] := H35.out.1.grow hM (Nat.le_refl _) hl [] rfl (by decide)
      have B36 : Below w.heap.size w w36 := H35.out.2.trans (hM.below.mono H35.out.2.size)
      clear hM hl l H35
      clear γ
      have H36 : Hid (_ ∧ _) := ⟨M36, B36⟩
      clear M36 B36
      refine rest_at (l := []) rfl ?_
      refine rest_nil ?_
      refine then_normal ?_
      refine wp_cond_false rfl ?_
      refine wp_skip ?_
      refine then_normal ?_
      refine wp_seq ?_
      refine wp_seq ?_
      refine walk_seq 5 [.quiet (PT γ33_4 0), .quiet (N a), .call (N r1), .quiet (N 0), .quiet (.bool true)] (fun w' => Mm w' [(γ33_4, modc p1), (γs4, lec p0 (wd p1)), (γ1_0, cells6 a), (0, dtab)]) ?pre35 ?F35 ?hpre35 (fun γ => ?hF35) (by kernel_rfl) ?hL35 ?hS35 ?ho35 ?he35
      case hpre35 =>
        simp only [List.take_succ_cons, List.take_zero]
        exact rfl
      case hF35 =>
        simp only [fill, Kind.val, Act.put, List.setIfInBounds_toArray, List.set_cons_zero, List.set_cons_succ]
        exact rfl
      case hL35 => exact trivial
      case hS35 => exact fun w' hb => H36.out.1.below hb
      case ho35 =>
        refine AllOk.cons ?_ ?_
        · exact fun γ => ⟨rfl, fun w' _ => rfl⟩
        refine AllOk.cons ?_ ?_
        · exact fun γ => ⟨rfl, fun w' h => ex_load6 h 2 rfl rfl rfl rfl⟩
        refine AllOk.cons ?_ ?_
        · exact fun γ => ⟨rfl, fun w' h => ⟨9, #[PT γ33_4 0, N a], exec_call rfl call9 rfl (by simp only [List.map_toArray, List.map_cons, List.map_nil]; rfl), C7.out _ w' (h.one 0 rfl)⟩⟩
        refine AllOk.cons ?_ ?_
        · (refine fun γ => ⟨rfl, fun w' h => ?_⟩; clear h; exact ex_zero6 rfl)
        refine AllOk.cons ?_ ?_
        · exact fun γ => ⟨rfl, fun w' _ => exec_eq6 hz rfl rfl rfl⟩
        exact trivial
      intro γ w37 l hM hl
      have M37 : Mm w37 [(γ33_4, modc p1), (γs4, lec p0 (wd p1)), (γ1_0, cells6 a), (0, dtab)] := H36.out.1.grow hM (Nat.le_refl _) hl [] rfl (by decide)
      have B37 : Below w.heap.size w w37 := H36.out.2.trans (hM.below.mono H36.out.2.size)
      clear hM hl l H36
      clear γ
      have H37 : Hid (_ ∧ _) := ⟨M37, B37⟩
      clear M37 B37
      refine rest_at (l := []) rfl ?_
      refine rest_nil ?_
      refine then_normal ?_
      refine wp_cond_true rfl ?_
      refine wp_exit ?_
      repeat refine then_exit ?_
      refine block_exit ?_
      refine then_normal ?_
      refine walk_seq 2 [.quiet (.int .i64 1), .quiet (.int .i64 2)] (fun w' => Mm w' [(γ33_4, modc p1), (γs4, lec p0 (wd p1)), (γ1_0, cells6 a), (0, dtab)]) ?pre36 ?F36 ?hpre36 (fun γ => ?hF36) (by kernel_rfl) ?hL36 ?hS36 ?ho36 ?he36
      case hpre36 =>
        simp only [List.take_succ_cons, List.take_zero]
        exact rfl
      case hF36 =>
        simp only [fill, Kind.val, Act.put, List.setIfInBounds_toArray, List.set_cons_zero, List.set_cons_succ]
        exact rfl
      case hL36 => exact trivial
      case hS36 => exact fun w' hb => H37.out.1.below hb
      case ho36 =>
        refine AllOk.cons ?_ ?_
        · exact fun γ => ⟨rfl, fun w' _ => rfl⟩
        refine AllOk.cons ?_ ?_
        · (refine fun γ => ⟨rfl, fun w' h => ?_⟩; clear h; go_simp; rw [IntKind.wrap_i64]; omega)
        exact trivial
      intro γ w38 l hM hl
      have M38 : Mm w38 [(γ33_4, modc p1), (γs4, lec p0 (wd p1)), (γ1_0, cells6 a), (0, dtab)] := H37.out.1.grow hM (Nat.le_refl _) hl [] rfl (by decide)
      have B38 : Below w.heap.size w w38 := H37.out.2.trans (hM.below.mono H37.out.2.size)
      clear hM hl l H37
      clear γ
      have H38 : Hid (_ ∧ _) := ⟨M38, B38⟩
      clear M38 B38
      refine rest_at (l := [2]) rfl ?_
      refine rest_set (d := 5) rfl rfl rfl rfl ?_
      simp only [Act.put, List.setIfInBounds_toArray, List.set_cons_zero, List.set_cons_succ]
      refine rest_nil ?_
      refine then_normal ?_
      exact ⟨2, ⟨(slotfn [undef, undef, s0 2, undef, undef, undef, PT γ33_4 0, .int .i64 0, s0 8, s0 9, s0 10, s0 11, s0 12, s0 13, s0 14, s0 15, undef, undef, undef, undef, .int .i64 1, .bool true, .int .i64 1, .int .i64 2, .tuple #[PT γ33_4 0, .int .i64 0], .slice (some ⟨γs4, 0, none⟩) 2 2, .int .i64 1, PT γs4 6, N p1, .tuple #[PT γ33_4 0, .int .i64 0], PT γ33_4 0, .int .i64 0, .int .i64 0, .bool false, .bool false, PT γ33_4 0, .bool false, .bool false, PT γ33_4 0, N a, N r1, N 0, .bool true, s0 43, s0 44, s0 45, s0 46, s0 47, s0 48, s0 49, s0 50, s0 51, s0 52, s0 53, s0 54, s0 55, s0 56, s0 57, s0 58, s0 59, s0 60, s0 61, s0 62, s0 63, s0 64, s0 65, s0 66, s0 67, s0 68, s0 69, s0 70, s0 71, s0 72, s0 73, s0 74, s0 75, s0 76, s0 77, s0 78, s0 79, s0 80, s0 81, s0 82, s0 83, s0 84, s0 85, s0 86, s0 87, s0 88, s0 89, s0 90, s0 91, s0 92, s0 93, s0 94, s0 95, s0 96, s0 97, s0 98, s0 99, s0 100, s0 101, s0 102, s0 103, s0 104, s0 105, s0 106, s0 107, s0 108, s0 109, s0 110, s0 111, s0 112, s0 113, s0 114, s0 115, s0 116, s0 117, s0 118, s0 119, s0 120, s0 121, s0 122, s0 123, s0 124, s0 125, s0 126, s0 127, s0 128, s0 129, s0 130, s0 131, s0 132, s0 133, s0 134, s0 135, s0 136, s0 137, s0 138]), rfl, ⟨H38.out.1.tail, H38.out.2⟩, by omega⟩, by omega⟩
    · have hrd : True := trivial
      clear hrd
      have N1_0 : Hid _ := k0
      have N1_1 : Hid _ := k1
      have N1_2 : Hid _ := k2
      have N1_3 : Hid _ := k3
      have N1_4 : Hid _ := k4
      have N1_5 : Hid _ := k5
      have N1_6 : Hid _ := k6
      clear k0 k1 k2 k3 k4 k5 k6
      refine wp_seq ?_
      refine wp_seq ?_
      refine walk_seq 2 [.quiet (.int .i64 1), .quiet (.bool true)] (fun w' => Mm w' [(γs4, lec p0 (wd p1)), (γ1_0, cells6 a), (0, dtab)]) ?pre37 ?F37 ?hpre37 (fun γ => ?hF37) (by kernel_rfl) ?hL37 ?hS37 ?ho37 ?he37
      case hpre37 =>
        simp only [List.take_succ_cons, List.take_zero]
        exact rfl
      case hF37 =>
        simp only [fill, Kind.val, Act.put, List.setIfInBounds_toArray, List.set_cons_zero, List.set_cons_succ]
        exact rfl
      case hL37 => exact trivial
      case hS37 => exact fun w' hb => H6.out.1.below hb
      case ho37 =>
        refine AllOk.cons ?_ ?_
        · exact fun γ => ⟨rfl, fun w' _ => rfl⟩
        refine AllOk.cons ?_ ?_
        · (refine fun γ => ⟨rfl, fun w' h => ?_⟩; clear h; go_simp)
        exact trivial
      intro γ w39 l hM hl
      have M39 : Mm w39 [(γs4, lec p0 (wd p1)), (γ1_0, cells6 a), (0, dtab)] := H6.out.1.grow hM (Nat.le_refl _) hl [] rfl (by decide)
      have B39 : Below w.heap.size w w39 := H6.out.2.trans (hM.below.mono H6.out.2.size)
      clear hM hl l H6
      clear γ
      have H39 : Hid (_ ∧ _) := ⟨M39, B39⟩
      clear M39 B39
      refine rest_at (l := []) rfl ?_
      refine rest_nil ?_
      refine then_normal ?_
      refine wp_cond_true rfl ?_
      refine wp_skip ?_
      refine then_normal ?_
      refine wp_seq ?_
      refine wp_block ?_
      refine wp_seq ?_
      refine walk_seq 5 [.quiet (.slice (some ⟨γs4, 0, none⟩) 2 2), .quiet (.int .i64 1), .quiet (PT γs4 6), .quiet (N p1), .born (fun g => .tuple #[PT g 0, .int .i64 0]) (modc p1)] (fun w' => Mm w' [(γs4, lec p0 (wd p1)), (γ1_0, cells6 a), (0, dtab)]) ?pre38 ?F38 ?hpre38 (fun γ => ?hF38) (by kernel_rfl) ?hL38 ?hS38 ?ho38 ?he38
      case hpre38 =>
        simp only [List.take_succ_cons, List.take_zero]
        exact rfl
      case hF38 =>
        simp only [fill, Kind.val, Act.put, List.setIfInBounds_toArray, List.set_cons_zero, List.set_cons_succ]
        exact rfl
      case hL38 => exact trivial
      case hS38 => exact fun w' hb => H39.out.1.below hb
      case ho38 =>
        refine AllOk.cons ?_ ?_
        · exact fun γ => ⟨rfl, fun w' _ => rfl⟩
        refine AllOk.cons ?_ ?_
        · exact fun γ => ⟨rfl, fun w' _ => rfl⟩
        refine AllOk.cons ?_ ?_
        · (refine fun γ => ⟨rfl, fun w' h => ?_⟩; clear h; go_simp)
        refine AllOk.cons ?_ ?_
        · exact fun γ => ⟨rfl, fun w' h => ex_load6 h 0 rfl rfl rfl rfl⟩
        refine AllOk.cons ?_ ?_
        · exact fun γ => ⟨rfl, fun w' h => ⟨8, #[N p1], exec_call rfl call8 rfl (by simp only [List.map_toArray, List.map_cons, List.map_nil]; rfl), C6.out w'⟩⟩
        exact trivial
      intro γ w40 l hM hl
      have M40 : Mm w40 [(γ 4, modc p1), (γs4, lec p0 (wd p1)), (γ1_0, cells6 a), (0, dtab)] := H39.out.1.grow hM (Nat.le_refl _) hl [4] rfl (by decide)
      have B40 : Below w.heap.size w w40 := H39.out.2.trans (hM.below.mono H39.out.2.size)
      have o38_4 : Hid (w.heap.size ≤ γ 4) := Nat.le_trans H39.out.2.size (hM.fin (Nat.le_refl _) hl (i := 4) rfl).2.1
      clear hM hl l H39
      generalize γ 4 = γ38_4 at M40 o38_4 ⊢
      clear γ
      have H40 : Hid (_ ∧ _) := ⟨M40, B40⟩
      clear M40 B40
      refine rest_at (l := [5, 6, 7, 8, 9]) rfl ?_
      refine rest_set (d := 24) rfl rfl rfl rfl ?_
      simp only [Act.put, List.setIfInBounds_toArray, List.set_cons_zero, List.set_cons_succ]
      refine rest_set (d := 30) (v := PT γ38_4 0) (w' := w40) rfl rfl rfl (by go_simp) ?_
      simp only [Act.put, List.setIfInBounds_toArray, List.set_cons_zero, List.set_cons_succ]
      refine rest_set (d := 31) (v := .int .i64 0) (w' := w40) rfl rfl rfl (by go_simp) ?_
      simp only [Act.put, List.setIfInBounds_toArray, List.set_cons_zero, List.set_cons_succ]
      refine rest_set (d := 6) rfl rfl rfl rfl ?_
      simp only [Act.put, List.setIfInBounds_toArray, List.set_cons_zero, List.set_cons_succ]
      refine rest_set (d := 7) rfl rfl rfl rfl ?_
      simp only [Act.put, List.setIfInBounds_toArray, List.set_cons_zero, List.set_cons_succ]
      refine rest_nil ?_
      refine then_normal ?_
      refine wp_seq ?_
      refine wp_seq ?_
      refine walk_seq 6 [.quiet (.int .i64 0), .quiet (.bool false), .quiet (.bool false), .quiet (PT γ38_4 0), .quiet (.bool false), .quiet (.bool false)] (fun w' => Mm w' [(γ38_4, modc p1), (γs4, lec p0 (wd p1)), (γ1_0, cells6 a), (0, dtab)]) ?pre39 ?F39 ?hpre39 (fun γ => ?hF39) (by kernel_rfl) ?hL39 ?hS39 ?ho39 ?he39
      case hpre39 =>
        simp only [List.take_succ_cons, List.take_zero]
        exact rfl
      case hF39 =>
        simp only [fill, Kind.val, Act.put, List.setIfInBounds_toArray, List.set_cons_zero, List.set_cons_succ]
        exact rfl
      case hL39 => exact trivial
      case hS39 => exact fun w' hb => H40.out.1.below hb
      case ho39 =>
        refine AllOk.cons ?_ ?_
        · exact fun γ => ⟨rfl, fun w' _ => rfl⟩
        refine AllOk.cons ?_ ?_
        · (refine fun γ => ⟨rfl, fun w' h => ?_⟩; clear h; go_simp)
        refine AllOk.cons ?_ ?_
        · exact fun γ => ⟨rfl, fun w' _ => rfl⟩
        refine AllOk.cons ?_ ?_
        · exact fun γ => ⟨rfl, fun w' _ => rfl⟩
        refine AllOk.cons ?_ ?_
        · (refine fun γ => ⟨rfl, fun w' h => ?_⟩; clear h; go_simp)
        refine AllOk.cons ?_ ?_
        · (refine fun γ => ⟨rfl, fun w' h => ?_⟩; clear h; go_simp)
        exact trivial
      intro γ w41 l hM hl
      have M41 : Mm w41 [(γ38_4, modc p1), (γs4, lec p0 (wd p1)), (γ1_0, cells6 a), (0, dtab)] := H40.out.1.grow hM (Nat.le_refl _) hl [] rfl (by decide)
      have B41 : Below w.heap.size w w41 := H40.out.2.trans (hM.below.mono H40.out.2.size)
      clear hM hl l H40
      clear γ
      have H41 : Hid (_ ∧ _) := ⟨M41, B41⟩
      clear M41 B41
      refine rest_at (l := []) rfl ?_
      refine rest_nil ?_
      refine then_normal ?_
      refine wp_cond_false rfl ?_
      refine wp_skip ?_
      refine then_normal ?_
      refine wp_seq ?_
      refine wp_seq ?_
      refine walk_seq 5 [.quiet (PT γ38_4 0), .quiet (N a), .call (N r1), .quiet (N 0), .quiet (.bool false)] (fun w' => Mm w' [(γ38_4, modc p1), (γs4, lec p0 (wd p1)), (γ1_0, cells6 a), (0, dtab)]) ?pre40 ?F40 ?hpre40 (fun γ => ?hF40) (by kernel_rfl) ?hL40 ?hS40 ?ho40 ?he40
      case hpre40 =>
        simp only [List.take_succ_cons, List.take_zero]
        exact rfl
      case hF40 =>
        simp only [fill, Kind.val, Act.put, List.setIfInBounds_toArray, List.set_cons_zero, List.set_cons_succ]
        exact rfl
      case hL40 => exact trivial
      case hS40 => exact fun w' hb => H41.out.1.below hb
      case ho40 =>
        refine AllOk.cons ?_ ?_
        · exact fun γ => ⟨rfl, fun w' _ => rfl⟩
        refine AllOk.cons ?_ ?_
        · exact fun γ => ⟨rfl, fun w' h => ex_load6 h 2 rfl rfl rfl rfl⟩
        refine AllOk.cons ?_ ?_
        · exact fun γ => ⟨rfl, fun w' h => ⟨9, #[PT γ38_4 0, N a], exec_call rfl call9 rfl (by simp only [List.map_toArray, List.map_cons, List.map_nil]; rfl), C7.out _ w' (h.one 0 rfl)⟩⟩
        refine AllOk.cons ?_ ?_
        · (refine fun γ => ⟨rfl, fun w' h => ?_⟩; clear h; exact ex_zero6 rfl)
        refine AllOk.cons ?_ ?_
        · exact fun γ => ⟨rfl, fun w' _ => exec_eq6 hz rfl rfl rfl⟩
        exact trivial
      intro γ w42 l hM hl
      have M42 : Mm w42 [(γ38_4, modc p1), (γs4, lec p0 (wd p1)), (γ1_0, cells6 a), (0, dtab)] := H41.out.1.grow hM (Nat.le_refl _) hl [] rfl (by decide)
      have B42 : Below w.heap.size w w42 := H41.out.2.trans (hM.below.mono H41.out.2.size)
      clear hM hl l H41
      clear γ
      have H42 : Hid (_ ∧ _) := ⟨M42, B42⟩
      clear M42 B42
      refine rest_at (l := []) rfl ?_
      refine rest_nil ?_
      refine then_normal ?_
      refine wp_cond_false rfl ?_
      refine wp_skip ?_
      refine then_normal ?_
      refine wp_seq ?_
      refine walk_any (by kernel_rfl) 12 [.quiet (.slice (some ⟨γs4, 0, none⟩) 2 2), .quiet (.int .i64 1), .quiet (PT γs4 6), .quiet (N p1), .call (N k1), .call (.tuple #[N l1, .bool b1]), .quiet (.tuple #[N l1, .bool b1]), .quiet (N l1), .quiet (.bool b1), .made zero6 24, .laid 9 zero6 (cells6 l1), .quiet (.bool b1)] (fun w' => Mm w' [(γ38_4, modc p1), (γs4, lec p0 (wd p1)), (γ1_0, cells6 a), (0, dtab)]) ?pre41 ?F41 ?hpre41 (fun γ => ?hF41) (by kernel_rfl) ?hL41 ?hS41 ?ho41 ?he41
      case hpre41 =>
        simp only [List.take_succ_cons, List.take_zero]
        exact rfl
      case hF41 =>
        simp only [fill, Kind.val, Act.put, List.setIfInBounds_toArray, List.set_cons_zero, List.set_cons_succ]
        exact rfl
      case hL41 => exact ⟨⟨_, rfl⟩, trivial⟩
      case hS41 => exact fun w' hb => H42.out.1.below hb
      case ho41 =>
        refine AllOk.cons ?_ ?_
        · exact fun γ => ⟨rfl, fun w' _ => rfl⟩
        refine AllOk.cons ?_ ?_
        · exact fun γ => ⟨rfl, fun w' _ => rfl⟩
        refine AllOk.cons ?_ ?_
        · (refine fun γ => ⟨rfl, fun w' h => ?_⟩; clear h; go_simp)
        refine AllOk.cons ?_ ?_
        · exact fun γ => ⟨rfl, fun w' h => ex_load6 h 1 rfl rfl rfl rfl⟩
        refine AllOk.cons ?_ ?_
        · exact fun γ => ⟨rfl, fun w' h => ⟨11, #[.int .u64 1], exec_call rfl call11 rfl (by simp only [List.map_toArray, List.map_cons, List.map_nil]; rfl), C3.out w'⟩⟩
        refine AllOk.cons ?_ ?_
        · exact fun γ => ⟨rfl, fun w' h => ⟨10, #[N p1, N k1], exec_call rfl call10 rfl (by simp only [List.map_toArray, List.map_cons, List.map_nil]; rfl), N1_0.out w'⟩⟩
        refine AllOk.cons ?_ ?_
        · exact fun γ => ⟨rfl, fun w' _ => rfl⟩
        refine AllOk.cons ?_ ?_
        · (refine fun γ => ⟨rfl, fun w' h => ?_⟩; clear h; go_simp)
        refine AllOk.cons ?_ ?_
        · (refine fun γ => ⟨rfl, fun w' h => ?_⟩; clear h; go_simp)
        refine AllOk.cons ?_ ?_
        · exact fun γ => ⟨rfl, fun w' => exec_made6 rfl⟩
        refine AllOk.cons ?_ ?_
        · exact fun γ => ⟨rfl, rfl, rfl, fun w' h => exec_laid6 h rfl rfl rfl⟩
        refine AllOk.cons ?_ ?_
        · exact fun γ => ⟨rfl, fun w' _ => rfl⟩
        exact trivial
      intro γ w43 l hM hl
      have M43 : Mm w43 [(γ 9, cells6 l1), (γ38_4, modc p1), (γs4, lec p0 (wd p1)), (γ1_0, cells6 a), (0, dtab)] := H42.out.1.grow hM (Nat.le_refl _) hl [9] rfl (by decide)
      have B43 : Below w.heap.size w w43 := H42.out.2.trans (hM.below.mono H42.out.2.size)
      have o41_9 : Hid (w.heap.size ≤ γ 9) := Nat.le_trans H42.out.2.size (hM.fin (Nat.le_refl _) hl (i := 9) rfl).2.1
      clear hM hl l H42
      generalize γ 9 = γ41_9 at M43 o41_9 ⊢
      clear γ
      have H43 : Hid (_ ∧ _) := ⟨M43, B43⟩
      clear M43 B43
      refine rest_at (l := []) rfl ?_
      refine rest_nil ?_
      refine then_normal ?_
      refine wp_seq ?_
      refine walk_seq 9 [.quiet (PT γ38_4 0), .quiet (N a), .call (.tuple #[N x1, .int .i64 0]), .quiet (.tuple #[N x1, .int .i64 0]), .quiet (N x1), .quiet (.int .i64 0), .made zero6 24, .laid 6 zero6 (cells6 x1), .quiet (.int .i64 0)] (fun w' => Mm w' [(γ41_9, cells6 l1), (γ38_4, modc p1), (γs4, lec p0 (wd p1)), (γ1_0, cells6 a), (0, dtab)]) ?pre42 ?F42 ?hpre42 (fun γ => ?hF42) (by kernel_rfl) ?hL42 ?hS42 ?ho42 ?he42
      case hpre42 =>
        simp only [List.take_succ_cons, List.take_zero]
        exact rfl
      case hF42 =>
        simp only [fill, Kind.val, Act.put, List.setIfInBounds_toArray, List.set_cons_zero, List.set_cons_succ]
        exact rfl
      case hL42 => exact ⟨⟨_, rfl⟩, trivial⟩
      case hS42 => exact fun w' hb => H43.out.1.below hb
      case ho42 =>
        refine AllOk.cons ?_ ?_
        · exact fun γ => ⟨rfl, fun w' _ => rfl⟩
        refine AllOk.cons ?_ ?_
        · exact fun γ => ⟨rfl, fun w' h => ex_load6 h 3 rfl rfl rfl rfl⟩
        refine AllOk.cons ?_ ?_
        · exact fun γ => ⟨rfl, fun w' h => ⟨12, #[PT γ38_4 0, N a], exec_call rfl call12 rfl (by simp only [List.map_toArray, List.map_cons, List.map_nil]; rfl), N1_1.out _ w' (h.two 1 4 rfl rfl (by decide))⟩⟩
        refine AllOk.cons ?_ ?_
        · exact fun γ => ⟨rfl, fun w' _ => rfl⟩
        refine AllOk.cons ?_ ?_
        · (refine fun γ => ⟨rfl, fun w' h => ?_⟩; clear h; go_simp)
        refine AllOk.cons ?_ ?_
        · (refine fun γ => ⟨rfl, fun w' h => ?_⟩; clear h; go_simp)
        refine AllOk.cons ?_ ?_
        · exact fun γ => ⟨rfl, fun w' => exec_made6 rfl⟩
        refine AllOk.cons ?_ ?_
        · exact fun γ => ⟨rfl, rfl, rfl, fun w' h => exec_laid6 h rfl rfl rfl⟩
        refine AllOk.cons ?_ ?_
        · exact fun γ => ⟨rfl, fun w' _ => rfl⟩
        exact trivial
      intro γ w44 l hM hl
      have M44 : Mm w44 [(γ 6, cells6 x1), (γ41_9, cells6 l1), (γ38_4, modc p1), (γs4, lec p0 (wd p1)), (γ1_0, cells6 a), (0, dtab)] := H43.out.1.grow hM (Nat.le_refl _) hl [6] rfl (by decide)
      have B44 : Below w.heap.size w w44 := H43.out.2.trans (hM.below.mono H43.out.2.size)
      have o42_6 : Hid (w.heap.size ≤ γ 6) := Nat.le_trans H43.out.2.size (hM.fin (Nat.le_refl _) hl (i := 6) rfl).2.1
      clear hM hl l H43
      generalize γ 6 = γ42_6 at M44 o42_6 ⊢
      clear γ
      have H44 : Hid (_ ∧ _) := ⟨M44, B44⟩
      clear M44 B44
      refine rest_at (l := []) rfl ?_
      refine rest_nil ?_
      refine then_normal ?_
      refine wp_seq ?_
      refine wp_seq ?_
      refine walk_seq 18 [.quiet (.int .i64 0), .quiet (.bool false), .quiet (.bool false), .quiet (PT γ38_4 0), .quiet (N x1), .quiet (N a), .call (N k1), .call (N k1), .quiet (.bool false), .quiet (.bool false), .quiet (.bool false), .quiet (PT γ38_4 0), .quiet (N a), .quiet (N l1), .call (N k1), .call (N k1), .quiet (.bool false), .quiet (.bool false)] (fun w' => Mm w' [(γ42_6, cells6 x1), (γ41_9, cells6 l1), (γ38_4, modc p1), (γs4, lec p0 (wd p1)), (γ1_0, cells6 a), (0, dtab)]) ?pre43 ?F43 ?hpre43 (fun γ => ?hF43) (by kernel_rfl) ?hL43 ?hS43 ?ho43 ?he43
      case hpre43 =>
        simp only [List.take_succ_cons, List.take_zero]
        exact rfl
      case hF43 =>
        simp only [fill, Kind.val, Act.put, List.setIfInBounds_toArray, List.set_cons_zero, List.set_cons_succ]
        exact rfl
      case hL43 => exact trivial
      case hS43 => exact fun w' hb => H44.out.1.below hb
      case ho43 =>
        refine AllOk.cons ?_ ?_
        · exact fun γ => ⟨rfl, fun w' _ => rfl⟩
        refine AllOk.cons ?_ ?_
        · (refine fun γ => ⟨rfl, fun w' h => ?_⟩; clear h; go_simp)
        refine AllOk.cons ?_ ?_
        · exact fun γ => ⟨rfl, fun w' _ => rfl⟩
        refine AllOk.cons ?_ ?_
        · exact fun γ => ⟨rfl, fun w' _ => rfl⟩
        refine AllOk.cons ?_ ?_
        · exact fun γ => ⟨rfl, fun w' h => ex_load6 h 0 rfl rfl rfl rfl⟩
        refine AllOk.cons ?_ ?_
        · exact fun γ => ⟨rfl, fun w' h => ex_load6 h 4 rfl rfl rfl rfl⟩
        refine AllOk.cons ?_ ?_
        · exact fun γ => ⟨rfl, fun w' h => ⟨13, #[PT γ38_4 0, N x1, N a], exec_call rfl call13 rfl (by simp only [List.map_toArray, List.map_cons, List.map_nil]; rfl), N1_2.out _ w' (h.one 2 rfl)⟩⟩
        refine AllOk.cons ?_ ?_
        · exact fun γ => ⟨rfl, fun w' h => ⟨11, #[.int .u64 1], exec_call rfl call11 rfl (by simp only [List.map_toArray, List.map_cons, List.map_nil]; rfl), C3.out w'⟩⟩
        refine AllOk.cons ?_ ?_
        · exact fun γ => ⟨rfl, fun w' _ => exec_neq6 e_k1 rfl rfl rfl⟩
        refine AllOk.cons ?_ ?_
        · (refine fun γ => ⟨rfl, fun w' h => ?_⟩; clear h; go_simp)
        refine AllOk.cons ?_ ?_
        · exact fun γ => ⟨rfl, fun w' _ => rfl⟩
        refine AllOk.cons ?_ ?_
        · exact fun γ => ⟨rfl, fun w' _ => rfl⟩
        refine AllOk.cons ?_ ?_
        · exact fun γ => ⟨rfl, fun w' h => ex_load6 h 4 rfl rfl rfl rfl⟩
        refine AllOk.cons ?_ ?_
        · exact fun γ => ⟨rfl, fun w' h => ex_load6 h 1 rfl rfl rfl rfl⟩
        refine AllOk.cons ?_ ?_
        · exact fun γ => ⟨rfl, fun w' h => ⟨14, #[PT γ38_4 0, N a, N l1], exec_call rfl call14 rfl (by simp only [List.map_toArray, List.map_cons, List.map_nil]; rfl), N1_3.out _ w' (h.one 2 rfl)⟩⟩
        refine AllOk.cons ?_ ?_
        · exact fun γ => ⟨rfl, fun w' h => ⟨11, #[.int .u64 1], exec_call rfl call11 rfl (by simp only [List.map_toArray, List.map_cons, List.map_nil]; rfl), C3.out w'⟩⟩
        refine AllOk.cons ?_ ?_
        · exact fun γ => ⟨rfl, fun w' _ => exec_neq6 e_k1 rfl rfl rfl⟩
        refine AllOk.cons ?_ ?_
        · (refine fun γ => ⟨rfl, fun w' h => ?_⟩; clear h; go_simp)
        exact trivial
      intro γ w45 l hM hl
      have M45 : Mm w45 [(γ42_6, cells6 x1), (γ41_9, cells6 l1), (γ38_4, modc p1), (γs4, lec p0 (wd p1)), (γ1_0, cells6 a), (0, dtab)] := H44.out.1.grow hM (Nat.le_refl _) hl [] rfl (by decide)
      have B45 : Below w.heap.size w w45 := H44.out.2.trans (hM.below.mono H44.out.2.size)
      clear hM hl l H44
      clear γ
      have H45 : Hid (_ ∧ _) := ⟨M45, B45⟩
      clear M45 B45
      refine rest_at (l := []) rfl ?_
      refine rest_nil ?_
      refine then_normal ?_
      refine wp_cond_false rfl ?_
      refine wp_skip ?_
      refine then_normal ?_
      refine wp_seq ?_
      refine walk_seq 9 [.quiet (PT γ38_4 0), .quiet (N a), .call (.tuple #[N u1, .int .i64 2]), .quiet (.tuple #[N u1, .int .i64 2]), .quiet (N u1), .quiet (.int .i64 2), .made zero6 24, .laid 6 zero6 (cells6 u1), .quiet (.int .i64 2)] (fun w' => Mm w' [(γ42_6, cells6 x1), (γ41_9, cells6 l1), (γ38_4, modc p1), (γs4, lec p0 (wd p1)), (γ1_0, cells6 a), (0, dtab)]) ?pre44 ?F44 ?hpre44 (fun γ => ?hF44) (by kernel_rfl) ?hL44 ?hS44 ?ho44 ?he44
      case hpre44 =>
        simp only [List.take_succ_cons, List.take_zero]
        exact rfl
      case hF44 =>
        simp only [fill, Kind.val, Act.put, List.setIfInBounds_toArray, List.set_cons_zero, List.set_cons_succ]
        exact rfl
      case hL44 => exact ⟨⟨_, rfl⟩, trivial⟩
      case hS44 => exact fun w' hb => H45.out.1.below hb
      case ho44 =>
        refine AllOk.cons ?_ ?_
        · exact fun γ => ⟨rfl, fun w' _ => rfl⟩
        refine AllOk.cons ?_ ?_
        · exact fun γ => ⟨rfl, fun w' h => ex_load6 h 4 rfl rfl rfl rfl⟩
        refine AllOk.cons ?_ ?_
        · exact fun γ => ⟨rfl, fun w' h => ⟨15, #[PT γ38_4 0, N a], exec_call rfl call15 rfl (by simp only [List.map_toArray, List.map_cons, List.map_nil]; rfl), N1_5.out _ w' (h.one 2 rfl)⟩⟩
        refine AllOk.cons ?_ ?_
        · exact fun γ => ⟨rfl, fun w' _ => rfl⟩
        refine AllOk.cons ?_ ?_
        · (refine fun γ => ⟨rfl, fun w' h => ?_⟩; clear h; go_simp)
        refine AllOk.cons ?_ ?_
        · (refine fun γ => ⟨rfl, fun w' h => ?_⟩; clear h; go_simp)
        refine AllOk.cons ?_ ?_
        · exact fun γ => ⟨rfl, fun w' => exec_made6 rfl⟩
        refine AllOk.cons ?_ ?_
        · exact fun γ => ⟨rfl, rfl, rfl, fun w' h => exec_laid6 h rfl rfl rfl⟩
        refine AllOk.cons ?_ ?_
        · exact fun γ => ⟨rfl, fun w' _ => rfl⟩
        exact trivial
      intro γ w46 l hM hl
      have M46 : Mm w46 [(γ 6, cells6 u1), (γ42_6, cells6 x1), (γ41_9, cells6 l1), (γ38_4, modc p1), (γs4, lec p0 (wd p1)), (γ1_0, cells6 a), (0, dtab)] := H45.out.1.grow hM (Nat.le_refl _) hl [6] rfl (by decide)
      have B46 : Below w.heap.size w w46 := H45.out.2.trans (hM.below.mono H45.out.2.size)
      have o44_6 : Hid (w.heap.size ≤ γ 6) := Nat.le_trans H45.out.2.size (hM.fin (Nat.le_refl _) hl (i := 6) rfl).2.1
      clear hM hl l H45
      generalize γ 6 = γ44_6 at M46 o44_6 ⊢
      clear γ
      have H46 : Hid (_ ∧ _) := ⟨M46, B46⟩
      clear M46 B46
      refine rest_at (l := []) rfl ?_
      refine rest_nil ?_
      refine then_normal ?_
      refine wp_seq ?_
      refine walk_seq 11 [.quiet (PT γ38_4 0), .quiet (PT γ38_4 0), .quiet (N a), .call (N n1), .call (.tuple #[N t1, .int .i64 2]), .quiet (.tuple #[N t1, .int .i64 2]), .quiet (N t1), .quiet (.int .i64 2), .made zero6 24, .laid 8 zero6 (cells6 t1), .quiet (.int .i64 2)] (fun w' => Mm w' [(γ44_6, cells6 u1), (γ42_6, cells6 x1), (γ41_9, cells6 l1), (γ38_4, modc p1), (γs4, lec p0 (wd p1)), (γ1_0, cells6 a), (0, dtab)]) ?pre45 ?F45 ?hpre45 (fun γ => ?hF45) (by kernel_rfl) ?hL45 ?hS45 ?ho45 ?he45
      case hpre45 =>
        simp only [List.take_succ_cons, List.take_zero]
        exact rfl
      case hF45 =>
        simp only [fill, Kind.val, Act.put, List.setIfInBounds_toArray, List.set_cons_zero, List.set_cons_succ]
        exact rfl
      case hL45 => exact ⟨⟨_, rfl⟩, trivial⟩
      case hS45 => exact fun w' hb => H46.out.1.below hb
      case ho45 =>
        refine AllOk.cons ?_ ?_
        · exact fun γ => ⟨rfl, fun w' _ => rfl⟩
        refine AllOk.cons ?_ ?_
        · exact fun γ => ⟨rfl, fun w' _ => rfl⟩
        refine AllOk.cons ?_ ?_
        · exact fun γ => ⟨rfl, fun w' h => ex_load6 h 5 rfl rfl rfl rfl⟩
        refine AllOk.cons ?_ ?_
        · exact fun γ => ⟨rfl, fun w' h => ⟨16, #[PT γ38_4 0, N a], exec_call rfl call16 rfl (by simp only [List.map_toArray, List.map_cons, List.map_nil]; rfl), N1_4.out _ w' (h.one 3 rfl)⟩⟩
        refine AllOk.cons ?_ ?_
        · exact fun γ => ⟨rfl, fun w' h => ⟨15, #[PT γ38_4 0, N n1], exec_call rfl call15 rfl (by simp only [List.map_toArray, List.map_cons, List.map_nil]; rfl), N1_6.out _ w' (h.one 3 rfl)⟩⟩
        refine AllOk.cons ?_ ?_
        · exact fun γ => ⟨rfl, fun w' _ => rfl⟩
        refine AllOk.cons ?_ ?_
        · (refine fun γ => ⟨rfl, fun w' h => ?_⟩; clear h; go_simp)
        refine AllOk.cons ?_ ?_
        · (refine fun γ => ⟨rfl, fun w' h => ?_⟩; clear h; go_simp)
        refine AllOk.cons ?_ ?_
        · exact fun γ => ⟨rfl, fun w' => exec_made6 rfl⟩
        refine AllOk.cons ?_ ?_
        · exact fun γ => ⟨rfl, rfl, rfl, fun w' h => exec_laid6 h rfl rfl rfl⟩
        refine AllOk.cons ?_ ?_
        · exact fun γ => ⟨rfl, fun w' _ => rfl⟩
        exact trivial
      intro γ w47 l hM hl
      have M47 : Mm w47 [(γ 8, cells6 t1), (γ44_6, cells6 u1), (γ42_6, cells6 x1), (γ41_9, cells6 l1), (γ38_4, modc p1), (γs4, lec p0 (wd p1)), (γ1_0, cells6 a), (0, dtab)] := H46.out.1.grow hM (Nat.le_refl _) hl [8] rfl (by decide)
      have B47 : Below w.heap.size w w47 := H46.out.2.trans (hM.below.mono H46.out.2.size)
      have o45_8 : Hid (w.heap.size ≤ γ 8) := Nat.le_trans H46.out.2.size (hM.fin (Nat.le_refl _) hl (i := 8) rfl).2.1
      clear hM hl l H46
      generalize γ 8 = γ45_8 at M47 o45_8 ⊢
      clear γ
      have H47 : Hid (_ ∧ _) := ⟨M47, B47⟩
      clear M47 B47
      refine rest_at (l := []) rfl ?_
      refine rest_nil ?_
      refine then_normal ?_
      refine wp_seq ?_
      refine walk_any (by kernel_rfl) 49 [.quiet (.int .i64 1), .quiet (.bool false), .quiet (.bool false), .gone, .gone, .gone, .gone, .gone, .gone, .gone, .gone, .gone, .gone, .gone, .gone, .gone, .gone, .gone, .gone, .gone, .gone, .gone, .gone, .gone, .gone, .gone, .gone, .gone, .gone, .gone, .gone, .gone, .gone, .gone, .gone, .gone, .quiet (.bool false), .quiet (.bool false), .quiet (.int .i64 1), .quiet (.bool true), .quiet (.bool true), .quiet (.int .i64 2), .quiet (.bool false), .quiet (.bool false), .quiet (.int .i64 2), .quiet (.bool false), .quiet (.bool false), .quiet (.bool false), .quiet (.bool false)] (fun w' => Mm w' [(γ45_8, cells6 t1), (γ44_6, cells6 u1), (γ42_6, cells6 x1), (γ41_9, cells6 l1), (γ38_4, modc p1), (γs4, lec p0 (wd p1)), (γ1_0, cells6 a), (0, dtab)]) ?pre46 ?F46 ?hpre46 (fun γ => ?hF46) (by kernel_rfl) ?hL46 ?hS46 ?ho46 ?he46
      case hpre46 =>
        simp only [List.take_succ_cons, List.take_zero]
        exact rfl
      case hF46 =>
        simp only [fill, Kind.val, Act.put, List.setIfInBounds_toArray, List.set_cons_zero, List.set_cons_succ]
        exact rfl
      case hL46 => exact trivial
      case hS46 => exact fun w' hb => H47.out.1.below hb
      case ho46 =>
        refine AllOk.cons ?_ ?_
        · exact fun γ => ⟨rfl, fun w' _ => rfl⟩
        refine AllOk.cons ?_ ?_
        · (refine fun γ => ⟨rfl, fun w' h => ?_⟩; clear h; go_simp)
        refine AllOk.cons ?_ ?_
        · exact fun γ => ⟨rfl, fun w' _ => rfl⟩
        refine AllOk.cons ?_ ?_
        · exact fun γ => rfl
        refine AllOk.cons ?_ ?_
        · exact fun γ => rfl
        refine AllOk.cons ?_ ?_
        · exact fun γ => rfl
        refine AllOk.cons ?_ ?_
        · exact fun γ => rfl
        refine AllOk.cons ?_ ?_
        · exact fun γ => rfl
        refine AllOk.cons ?_ ?_
        · exact fun γ => rfl
        refine AllOk.cons ?_ ?_
        · exact fun γ => rfl
        refine AllOk.cons ?_ ?_
        · exact fun γ => rfl
        refine AllOk.cons ?_ ?_
        · exact fun γ => rfl
        refine AllOk.cons ?_ ?_
        · exact fun γ => rfl
        refine AllOk.cons ?_ ?_
        · exact fun γ => rfl
        refine AllOk.cons ?_ ?_
        · exact fun γ => rfl
        refine AllOk.cons ?_ ?_
        · exact fun γ => rfl
        refine AllOk.cons ?_ ?_
        · exact fun γ => rfl
        refine AllOk.cons ?_ ?_
        · exact fun γ => rfl
        refine AllOk.cons ?_ ?_
        · exact fun γ => rfl
        refine AllOk.cons ?_ ?_
        · exact fun γ => rfl
        refine AllOk.cons ?_ ?_
        · exact fun γ => rfl
        refine AllOk.cons ?_ ?_
        · exact fun γ => rfl
        refine AllOk.cons ?_ ?_
        · exact fun γ => rfl
        refine AllOk.cons ?_ ?_
        · exact fun γ => rfl
        refine AllOk.cons ?_ ?_
        · exact fun γ => rfl
        refine AllOk.cons ?_ ?_
        · exact fun γ => rfl
        refine AllOk.cons ?_ ?_
        · exact fun γ => rfl
        refine AllOk.cons ?_ ?_
        · exact fun γ => rfl
        refine AllOk.cons ?_ ?_
        · exact fun γ => rfl
        refine AllOk.cons ?_ ?_
        · exact fun γ => rfl
        refine AllOk.cons ?_ ?_
        · exact fun γ => rfl
        refine AllOk.cons ?_ ?_
        · exact fun γ => rfl
        refine AllOk.cons ?_ ?_
        · exact fun γ => rfl
        refine AllOk.cons ?_ ?_
        · exact fun γ => rfl
        refine AllOk.cons ?_ ?_
        · exact fun γ => rfl
        refine AllOk.cons ?_ ?_
        · exact fun γ => rfl
        refine AllOk.cons ?_ ?_
        · (refine fun γ => ⟨rfl, fun w' h => ?_⟩; clear h; go_simp)
        refine AllOk.cons ?_ ?_
        · exact fun γ => ⟨rfl, fun w' _ => rfl⟩
        refine AllOk.cons ?_ ?_
        · exact fun γ => ⟨rfl, fun w' _ => rfl⟩
        refine AllOk.cons ?_ ?_
        · (refine fun γ => ⟨rfl, fun w' h => ?_⟩; clear h; go_simp)
        refine AllOk.cons ?_ ?_
        · exact fun γ => ⟨rfl, fun w' _ => rfl⟩
        refine AllOk.cons ?_ ?_
        · exact fun γ => ⟨rfl, fun w' _ => rfl⟩
        refine AllOk.cons ?_ ?_
        · (refine fun γ => ⟨rfl, fun w' h => ?_⟩; clear h; go_simp)
        refine AllOk.cons ?_ ?_
        · exact fun γ => ⟨rfl, fun w' _ => rfl⟩
        refine AllOk.cons ?_ ?_
        · exact fun γ => ⟨rfl, fun w' _ => rfl⟩
        refine AllOk.cons ?_ ?_
        · (refine fun γ => ⟨rfl, fun w' h => ?_⟩; clear h; go_simp)
        refine AllOk.cons ?_ ?_
        · (refine fun γ => ⟨rfl, fun w' h => ?_⟩; clear h; go_simp)
        refine AllOk.cons ?_ ?_
        · (refine fun γ => ⟨rfl, fun w' h => ?_⟩; clear h; go_simp)
        refine AllOk.cons ?_ ?_
        · (refine fun γ => ⟨rfl, fun w' h => ?_⟩; clear h; go_simp)
        exact trivial
      intro γ w48 l hM hl
      have M48 : Mm w48 [(γ45_8, cells6 t1), (γ44_6, cells6 u1), (γ42_6, cells6 x1), (γ41_9, cells6 l1), (γ38_4, modc p1), (γs4, lec p0 (wd p1)), (γ1_0, cells6 a), (0, dtab)] := H47.out.1.grow hM (Nat.le_refl _) hl [] rfl (by decide)
      have B48 : Below w.heap.size w w48 := H47.out.2.trans (hM.below.mono H47.out.2.size)
      clear hM hl l H47
      clear γ
      have H48 : Hid (_ ∧ _) := ⟨M48, B48⟩
      clear M48 B48
      refine rest_at (l := []) rfl ?_
      refine rest_nil ?_
      refine then_normal ?_
      refine wp_cond_false rfl ?_
      refine wp_skip ?_
      refine block_normal ?_
      refine then_normal ?_
      refine walk_seq 2 [.quiet (.int .i64 1), .quiet (.int .i64 2)] (fun w' => Mm w' [(γ45_8, cells6 t1), (γ44_6, cells6 u1), (γ42_6, cells6 x1), (γ41_9, cells6 l1), (γ38_4, modc p1), (γs4, lec p0 (wd p1)), (γ1_0, cells6 a), (0, dtab)]) ?pre47 ?F47 ?hpre47 (fun γ => ?hF47) (by kernel_rfl) ?hL47 ?hS47 ?ho47 ?he47
      case hpre47 =>
        simp only [List.take_succ_cons, List.take_zero]
        exact rfl
      case hF47 =>
        simp only [fill, Kind.val, Act.put, List.setIfInBounds_toArray, List.set_cons_zero, List.set_cons_succ]
        exact rfl
      case hL47 => exact trivial
      case hS47 => exact fun w' hb => H48.out.1.below hb
      case ho47 =>
        refine AllOk.cons ?_ ?_
        · exact fun γ => ⟨rfl, fun w' _ => rfl⟩
        refine AllOk.cons ?_ ?_
        · (refine fun γ => ⟨rfl, fun w' h => ?_⟩; clear h; go_simp; rw [IntKind.wrap_i64]; omega)
        exact trivial
      intro γ w49 l hM hl
      have M49 : Mm w49 [(γ45_8, cells6 t1), (γ44_6, cells6 u1), (γ42_6, cells6 x1), (γ41_9, cells6 l1), (γ38_4, modc p1), (γs4, lec p0 (wd p1)), (γ1_0, cells6 a), (0, dtab)] := H48.out.1.grow hM (Nat.le_refl _) hl [] rfl (by decide)
      have B49 : Below w.heap.size w w49 := H48.out.2.trans (hM.below.mono H48.out.2.size)
      clear hM hl l H48
      clear γ
      have H49 : Hid (_ ∧ _) := ⟨M49, B49⟩
      clear M49 B49
      refine rest_at (l := [2]) rfl ?_
      refine rest_set (d := 5) rfl rfl rfl rfl ?_
      simp only [Act.put, List.setIfInBounds_toArray, List.set_cons_zero, List.set_cons_succ]
      refine rest_nil ?_
      refine then_normal ?_
      exact ⟨2, ⟨(slotfn [undef, undef, s0 2, undef, undef, undef, PT γ38_4 0, .int .i64 0, PT γ41_9 0, .bool b1, PT γ42_6 0, .int .i64 0, PT γ44_6 0, .int .i64 2, PT γ45_8 0, .int .i64 2, undef, undef, undef, undef, .int .i64 1, .bool true, .int .i64 1, .int .i64 2, .tuple #[PT γ38_4 0, .int .i64 0], .slice (some ⟨γs4, 0, none⟩) 2 2, .int .i64 1, PT γs4 6, N p1, .tuple #[PT γ38_4 0, .int .i64 0], PT γ38_4 0, .int .i64 0, .int .i64 0, .bool false, .bool false, PT γ38_4 0, .bool false, .bool false, PT γ38_4 0, N a, N r1, N 0, .bool false, .tuple #[N l1, .bool b1], .slice (some ⟨γs4, 0, none⟩) 2 2, .int .i64 1, PT γs4 6, N p1, N k1, .tuple #[N l1, .bool b1], N l1, .bool b1, .tuple #[N x1, .int .i64 0], PT γ38_4 0, N a, .tuple #[N x1, .int .i64 0], N x1, .int .i64 0, .int .i64 0, .bool false, .bool false, PT γ38_4 0, N x1, N a, N k1, N k1, .bool false, .bool false, .bool false, PT γ38_4 0, N a, N l1, N k1, N k1, .bool false, .bool false, .tuple #[N u1, .int .i64 2], PT γ38_4 0, N a, .tuple #[N u1, .int .i64 2], N u1, .int .i64 2, .tuple #[N t1, .int .i64 2], PT γ38_4 0, PT γ38_4 0, N a, N n1, .tuple #[N t1, .int .i64 2], N t1, .int .i64 2, .int .i64 1, .bool false, .bool false, undef, undef, undef, undef, undef, undef, undef, undef, undef, undef, undef, undef, undef, undef, undef, undef, undef, undef, undef, undef, undef, undef, undef, undef, undef, undef, undef, undef, undef, undef, undef, undef, undef, .bool false, .bool false, .int .i64 1, .bool true, .bool true, .int .i64 2, .bool false, .bool false, .int .i64 2, .bool false, .bool false, .bool false, .bool false]), rfl, ⟨H49.out.1.tail.tail.tail.tail.tail, H49.out.2⟩, by omega⟩, by omega⟩
  have hi2 : i = 2 := by omega
  subst hi2
  refine wp_seq ?_
  refine wp_seq ?_
  refine walk_seq 2 [.quiet (.int .i64 2), .quiet (.bool false)] (fun w' => Mm w' [(γs4, lec p0 (wd p1)), (γ1_0, cells6 a), (0, dtab)]) ?pre48 ?F48 ?hpre48 (fun γ => ?hF48) (by kernel_rfl) ?hL48 ?hS48 ?ho48 ?he48
  case hpre48 =>
    simp only [List.take_succ_cons, List.take_zero]
    exact rfl
  case hF48 =>
    simp only [fill, Kind.val, Act.put, List.setIfInBounds_toArray, List.set_cons_zero, List.set_cons_succ]
    exact rfl
  case hL48 => exact trivial
  case hS48 => exact fun w' hb => H6.out.1.below hb
  case ho48 =>
    refine AllOk.cons ?_ ?_
    · exact fun γ => ⟨rfl, fun w' _ => rfl⟩
    refine AllOk.cons ?_ ?_
    · (refine fun γ => ⟨rfl, fun w' h => ?_⟩; clear h; go_simp)
    exact trivial
  intro γ w50 l hM hl
  have M50 : Mm w50 [(γs4, lec p0 (wd p1)), (γ1_0, cells6 a), (0, dtab)] := H6.out.1.grow hM (Nat.le_refl _) hl [] rfl (by decide)
  have B50 : Below w.heap.size w w50 := H6.out.2.trans (hM.below.mono H6.out.2.size)
  clear hM hl l H6
  clear γ
  have H50 : Hid (_ ∧ _) := ⟨M50, B50⟩
  clear M50 B50
  refine rest_at (l := []) rfl ?_
  refine rest_nil ?_
  refine then_normal ?_
  refine wp_cond_false rfl ?_
  refine wp_exit ?_
  repeat refine then_exit ?_
  refine block_exit ?_
  refine then_normal ?_
  refine wp_seq ?_
  refine walk_seq 2 [.quiet (.bool true), .quiet (.bool true)] (fun w' => Mm w' [(γs4, lec p0 (wd p1)), (γ1_0, cells6 a), (0, dtab)]) ?pre49 ?F49 ?hpre49 (fun γ => ?hF49) (by kernel_rfl) ?hL49 ?hS49 ?ho49 ?he49
  case hpre49 =>
    simp only [List.take_succ_cons, List.take_zero]
    exact rfl
  case hF49 =>
    simp only [fill, Kind.val, Act.put, List.setIfInBounds_toArray, List.set_cons_zero, List.set_cons_succ]
    exact rfl
  case hL49 => exact trivial
  case hS49 => exact fun w' hb => H50.out.1.below hb
  case ho49 =>
    refine AllOk.cons ?_ ?_
    · exact fun γ => ⟨rfl, fun w' _ => rfl⟩
    refine AllOk.cons ?_ ?_
    · exact fun γ => ⟨rfl, fun w' _ => rfl⟩
    exact trivial
  intro γ w51 l hM hl
  have M51 : Mm w51 [(γs4, lec p0 (wd p1)), (γ1_0, cells6 a), (0, dtab)] := H50.out.1.grow hM (Nat.le_refl _) hl [] rfl (by decide)
  have B51 : Below w.heap.size w w51 := H50.out.2.trans (hM.below.mono H50.out.2.size)
  clear hM hl l H50
  clear γ
  have H51 : Hid (_ ∧ _) := ⟨M51, B51⟩
  clear M51 B51
  refine rest_at (l := []) rfl ?_
  refine rest_nil ?_
  refine then_normal ?_
  refine wp_ret ?_
  repeat (first | refine then_ret ?_ | refine block_ret ?_)
  refine bodyPost_ret (v := .bool true) (by simp [results, Tryd.results3, go_sem, *]) rfl ?_
  exact ⟨rfl, H51.out.2⟩
end Rg
end Go.Proofs.YtoagmdgmbkpghabDoor
