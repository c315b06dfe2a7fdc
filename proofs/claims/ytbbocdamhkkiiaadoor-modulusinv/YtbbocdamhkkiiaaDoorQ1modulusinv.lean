/- Texts of the proof, joined. -/
import Derived.Test.YtbbocdamhkkiiaaDoorP6
section
namespace Go.Proofs.YtbbocdamhkkiiaaDoor
open Go.RowKit
namespace Rg
theorem call17 : ∀ args w, (callFunc 17 args).run Tryd.prog w = .ok (.enter 17 args) w := by intro args w; go_simp
theorem eq_refl7 {v : Nat} (h : v < big) (w : World) : (Op.equalIn 10000 24 (N v) (N v)).run Tryd.prog w = .ok true w := by
  rw [run_eqN v v h h, decide_eq_true rfl]
set_option maxHeartbeats 4000000 in
set_option maxRecDepth 100000 in
theorem invl_bad (n a : Nat)
    (c0 : ∀ w, Mm w [(0, dtab)] → Calls Tryd.prog 17 #[] w fun e w' => e = .returned (.bool true) ∧ Below w.heap.size w w')
    (c1 : ∀ w, Calls Tryd.prog 18 #[N n] w fun e w' => e = .returned (.tuple #[.pointer none, .int .i64 2]) ∧ Below w.heap.size w w') (w : World) (hm : Mm w [(0, dtab)]) :
    Calls Tryd.prog 5 #[N n, N a] w fun e w' => e = .returned (.bool true) ∧ Below w.heap.size w w' := by
  have H0 : Hid (_ ∧ _) := ⟨hm, Below.refl w.heap.size w⟩
  clear hm
  have C0 : Hid _ := c0
  have C1 : Hid _ := c1
  clear c0 c1
  go_enter Tryd.func5, Tryd.ntmps5
  refine wp_seq ?_
  refine walk_seq 3 [.made (cells6 n) 24, .made (cells6 a) 24, .quiet (.bool false)] (fun w' => Mm w' [(0, dtab)]) ?pre1 ?F1 ?hpre1 (fun γ => ?hF1) (by kernel_rfl) ?hL1 ?hS1 ?ho1 ?he1
  case hpre1 =>
    simp only [List.take_succ_cons, List.take_zero]
    exact rfl
  case hF1 =>
    simp only [fill, Kind.val, Act.put, List.setIfInBounds_toArray, List.set_cons_zero, List.set_cons_succ]
    exact rfl
  case hL1 => exact trivial
  case hS1 => exact fun w' hb => H0.out.1.below hb
  case ho1 =>
    refine AllOk.cons ?_ ?_
    · exact fun γ => ⟨rfl, fun w' => ex_box6 rfl rfl⟩
    refine AllOk.cons ?_ ?_
    · exact fun γ => ⟨rfl, fun w' => ex_box6 rfl rfl⟩
    refine AllOk.cons ?_ ?_
    · exact fun γ => ⟨rfl, fun w' _ => rfl⟩
    exact trivial
  intro γ w1 l hM hl
  have M1 : Mm w1 [(γ 0, cells6 n), (γ 1, cells6 a), (0, dtab)] := H0.out.1.grow hM (Nat.le_refl _) hl [0, 1] rfl (by decide)
  have B1 : Below w.heap.size w w1 := H0.out.2.trans (hM.below.mono H0.out.2.size)
  have o1_0 : Hid (w.heap.size ≤ γ 0) := Nat.le_trans H0.out.2.size (hM.fin (Nat.le_refl _) hl (i := 0) rfl).2.1
  have o1_1 : Hid (w.heap.size ≤ γ 1) := Nat.le_trans H0.out.2.size (hM.fin (Nat.le_refl _) hl (i := 1) rfl).2.1
  clear hM hl l
  generalize γ 0 = γ1_0 at M1 o1_0 ⊢
  generalize γ 1 = γ1_1 at M1 o1_1 ⊢
  clear γ
  have H1 : Hid (_ ∧ _) := ⟨M1, B1⟩
  clear M1 B1
  refine rest_at (l := []) rfl ?_
  refine rest_nil ?_
  refine then_normal ?_
  refine wp_seq ?_
  refine walk_seq 2 [.call (.bool true), .quiet (.bool true)] (fun w' => Mm w' [(γ1_0, cells6 n), (γ1_1, cells6 a), (0, dtab)]) ?pre2 ?F2 ?hpre2 (fun γ => ?hF2) (by kernel_rfl) ?hL2 ?hS2 ?ho2 ?he2
  case hpre2 =>
    simp only [List.take_succ_cons, List.take_zero]
    exact rfl
  case hF2 =>
    simp only [fill, Kind.val, Act.put, List.setIfInBounds_toArray, List.set_cons_zero, List.set_cons_succ]
    exact rfl
  case hL2 => exact trivial
  case hS2 => exact fun w' hb => H1.out.1.below hb
  case ho2 =>
    refine AllOk.cons ?_ ?_
    · exact fun γ => ⟨rfl, fun w' h => ⟨17, #[], exec_call rfl call17 rfl (by simp only [List.map_toArray, List.map_nil]), C0.out w' (h.one 2 rfl)⟩⟩
    refine AllOk.cons ?_ ?_
    · exact fun γ => ⟨rfl, fun w' _ => rfl⟩
    exact trivial
  intro γ w2 l hM hl
  have M2 : Mm w2 [(γ1_0, cells6 n), (γ1_1, cells6 a), (0, dtab)] := H1.out.1.grow hM (Nat.le_refl _) hl [] rfl (by decide)
  have B2 : Below w.heap.size w w2 := H1.out.2.trans (hM.below.mono H1.out.2.size)
  clear hM hl l H1
  clear γ
  have H2 : Hid (_ ∧ _) := ⟨M2, B2⟩
  clear M2 B2
  refine rest_at (l := []) rfl ?_
  refine rest_nil ?_
  refine then_normal ?_
  refine wp_seq ?_
  refine walk_seq 7 [.quiet (N n), .call (.tuple #[.pointer none, .int .i64 2]), .quiet (.tuple #[.pointer none, .int .i64 2]), .quiet (.pointer none), .quiet (.int .i64 2), .quiet (.pointer none), .quiet (.int .i64 2)] (fun w' => Mm w' [(γ1_0, cells6 n), (γ1_1, cells6 a), (0, dtab)]) ?pre3 ?F3 ?hpre3 (fun γ => ?hF3) (by kernel_rfl) ?hL3 ?hS3 ?ho3 ?he3
  case hpre3 =>
    simp only [List.take_succ_cons, List.take_zero]
    exact rfl
  case hF3 =>
    simp only [fill, Kind.val, Act.put, List.setIfInBounds_toArray, List.set_cons_zero, List.set_cons_succ]
    exact rfl
  case hL3 => exact trivial
  case hS3 => exact fun w' hb => H2.out.1.below hb
  case ho3 =>
    refine AllOk.cons ?_ ?_
    · exact fun γ => ⟨rfl, fun w' h => ex_load6 h 0 rfl rfl rfl rfl⟩
    refine AllOk.cons ?_ ?_
    · exact fun γ => ⟨rfl, fun w' h => ⟨18, #[N n], exec_call rfl call18 rfl (by simp only [List.map_toArray, List.map_cons, List.map_nil]; rfl), C1.out w'⟩⟩
    refine AllOk.cons ?_ ?_
    · exact fun γ => ⟨rfl, fun w' _ => rfl⟩
    refine AllOk.cons ?_ ?_
    · (refine fun γ => ⟨rfl, fun w' h => ?_⟩; clear h; go_simp)
    refine AllOk.cons ?_ ?_
    · (refine fun γ => ⟨rfl, fun w' h => ?_⟩; clear h; go_simp)
    refine AllOk.cons ?_ ?_
    · exact fun γ => ⟨rfl, fun w' _ => rfl⟩
    refine AllOk.cons ?_ ?_
    · exact fun γ => ⟨rfl, fun w' _ => rfl⟩
    exact trivial
  intro γ w3 l hM hl
  have M3 : Mm w3 [(γ1_0, cells6 n), (γ1_1, cells6 a), (0, dtab)] := H2.out.1.grow hM (Nat.le_refl _) hl [] rfl (by decide)
  have B3 : Below w.heap.size w w3 := H2.out.2.trans (hM.below.mono H2.out.2.size)
  clear hM hl l H2
  clear γ
  have H3 : Hid (_ ∧ _) := ⟨M3, B3⟩
  clear M3 B3
  refine rest_at (l := []) rfl ?_
  refine rest_nil ?_
  refine then_normal ?_
  refine wp_seq ?_
  refine wp_seq ?_
  refine walk_seq 6 [.quiet (.int .i64 2), .quiet (.bool true), .quiet (.bool true), .gone, .gone, .quiet (.bool true)] (fun w' => Mm w' [(γ1_0, cells6 n), (γ1_1, cells6 a), (0, dtab)]) ?pre4 ?F4 ?hpre4 (fun γ => ?hF4) (by kernel_rfl) ?hL4 ?hS4 ?ho4 ?he4
  case hpre4 =>
    simp only [List.take_succ_cons, List.take_zero]
    exact rfl
  case hF4 =>
    simp only [fill, Kind.val, Act.put, List.setIfInBounds_toArray, List.set_cons_zero, List.set_cons_succ]
    exact rfl
  case hL4 => exact trivial
  case hS4 => exact fun w' hb => H3.out.1.below hb
  case ho4 =>
    refine AllOk.cons ?_ ?_
    · exact fun γ => ⟨rfl, fun w' _ => rfl⟩
    refine AllOk.cons ?_ ?_
    · (refine fun γ => ⟨rfl, fun w' h => ?_⟩; clear h; go_simp)
    refine AllOk.cons ?_ ?_
    · exact fun γ => ⟨rfl, fun w' _ => rfl⟩
    refine AllOk.cons ?_ ?_
    · exact fun γ => rfl
    refine AllOk.cons ?_ ?_
    · exact fun γ => rfl
    refine AllOk.cons ?_ ?_
    · (refine fun γ => ⟨rfl, fun w' h => ?_⟩; clear h; go_simp)
    exact trivial
  intro γ w4 l hM hl
  have M4 : Mm w4 [(γ1_0, cells6 n), (γ1_1, cells6 a), (0, dtab)] := H3.out.1.grow hM (Nat.le_refl _) hl [] rfl (by decide)
  have B4 : Below w.heap.size w w4 := H3.out.2.trans (hM.below.mono H3.out.2.size)
  clear hM hl l H3
  clear γ
  have H4 : Hid (_ ∧ _) := ⟨M4, B4⟩
  clear M4 B4
  refine rest_at (l := []) rfl ?_
  refine rest_nil ?_
  refine then_normal ?_
  refine wp_cond_true rfl ?_
  refine wp_seq ?_
  refine walk_seq 2 [.quiet (.bool true), .quiet (.bool true)] (fun w' => Mm w' [(γ1_0, cells6 n), (γ1_1, cells6 a), (0, dtab)]) ?pre5 ?F5 ?hpre5 (fun γ => ?hF5) (by kernel_rfl) ?hL5 ?hS5 ?ho5 ?he5
  case hpre5 =>
    simp only [List.take_succ_cons, List.take_zero]
    exact rfl
  case hF5 =>
    simp only [fill, Kind.val, Act.put, List.setIfInBounds_toArray, List.set_cons_zero, List.set_cons_succ]
    exact rfl
  case hL5 => exact trivial
  case hS5 => exact fun w' hb => H4.out.1.below hb
  case ho5 =>
    refine AllOk.cons ?_ ?_
    · exact fun γ => ⟨rfl, fun w' _ => rfl⟩
    refine AllOk.cons ?_ ?_
    · exact fun γ => ⟨rfl, fun w' _ => rfl⟩
    exact trivial
  intro γ w5 l hM hl
  have M5 : Mm w5 [(γ1_0, cells6 n), (γ1_1, cells6 a), (0, dtab)] := H4.out.1.grow hM (Nat.le_refl _) hl [] rfl (by decide)
  have B5 : Below w.heap.size w w5 := H4.out.2.trans (hM.below.mono H4.out.2.size)
  clear hM hl l H4
  clear γ
  have H5 : Hid (_ ∧ _) := ⟨M5, B5⟩
  clear M5 B5
  refine rest_at (l := []) rfl ?_
  refine rest_nil ?_
  refine then_normal ?_
  refine wp_ret ?_
  repeat (first | refine then_ret ?_ | refine block_ret ?_)
  refine bodyPost_ret (v := .bool true) (by simp [results, Tryd.results5, go_sem, *]) rfl ?_
  exact ⟨rfl, H5.out.2⟩
set_option maxHeartbeats 4000000 in
set_option maxRecDepth 100000 in
theorem invl_one (n a x k1 : Nat) (e_k1 : ∀ w, (Op.equalIn 10000 24 (N k1) (N k1)).run Tryd.prog w = .ok true w)
    (c0 : ∀ w, Mm w [(0, dtab)] → Calls Tryd.prog 17 #[] w fun e w' => e = .returned (.bool true) ∧ Below w.heap.size w w')
    (c1 : ∀ w, Calls Tryd.prog 18 #[N n] w fun e w' => Below w.heap.size w w' ∧ ∃ g, e = .returned (.tuple #[PT g 0, .int .i64 0]) ∧ w.heap.size ≤ g ∧ g < w'.heap.size ∧ Blk w' g (modc n))
    (c2 : ∀ g w, Mm w [(g, modc n), (0, dtab)] → Calls Tryd.prog 7 #[PT g 0, N a] w fun e w' => e = .returned (.tuple #[N x, .int .i64 0]) ∧ Below w.heap.size w w')
    (c3 : ∀ g w, Mm w [(g, modc n)] → Calls Tryd.prog 15 #[PT g 0, N x, N a] w fun e w' => e = .returned (N k1) ∧ Below w.heap.size w w')
    (c4 : ∀ w, Calls Tryd.prog 19 #[.int .u64 1] w fun e w' => e = .returned (N k1) ∧ Below w.heap.size w w')
    (c5 : ∀ g w, Mm w [(g, modc n)] → Calls Tryd.prog 10 #[PT g 0, N k1] w fun e w' => e = .returned (N k1) ∧ Below w.heap.size w w')
    (c6 : ∀ w, Calls Tryd.prog 21 #[N x, N n] w fun e w' => e = .returned (.int .i64 (-1)) ∧ Below w.heap.size w w') (w : World) (hm : Mm w [(0, dtab)]) :
    Calls Tryd.prog 5 #[N n, N a] w fun e w' => e = .returned (.bool true) ∧ Below w.heap.size w w' := by
  have H0 : Hid (_ ∧ _) := ⟨hm, Below.refl w.heap.size w⟩
  clear hm
  have C0 : Hid _ := c0
  have C1 : Hid _ := c1
  have C2 : Hid _ := c2
  have C3 : Hid _ := c3
  have C4 : Hid _ := c4
  have C5 : Hid _ := c5
  have C6 : Hid _ := c6
  clear c0 c1 c2 c3 c4 c5 c6
  go_enter Tryd.func5, Tryd.ntmps5
  refine wp_seq ?_
  refine walk_seq 3 [.made (cells6 n) 24, .made (cells6 a) 24, .quiet (.bool false)] (fun w' => Mm w' [(0, dtab)]) ?pre1 ?F1 ?hpre1 (fun γ => ?hF1) (by kernel_rfl) ?hL1 ?hS1 ?ho1 ?he1
  case hpre1 =>
    simp only [List.take_succ_cons, List.take_zero]
    exact rfl
  case hF1 =>
    simp only [fill, Kind.val, Act.put, List.setIfInBounds_toArray, List.set_cons_zero, List.set_cons_succ]
    exact rfl
  case hL1 => exact trivial
  case hS1 => exact fun w' hb => H0.out.1.below hb
  case ho1 =>
    refine AllOk.cons ?_ ?_
    · exact fun γ => ⟨rfl, fun w' => ex_box6 rfl rfl⟩
    refine AllOk.cons ?_ ?_
    · exact fun γ => ⟨rfl, fun w' => ex_box6 rfl rfl⟩
    refine AllOk.cons ?_ ?_
    · exact fun γ => ⟨rfl, fun w' _ => rfl⟩
    exact trivial
  intro γ w1 l hM hl
  have M1 : Mm w1 [(γ 0, cells6 n), (γ 1, cells6 a), (0, dtab)] := H0.out.1.grow hM (Nat.le_refl _) hl [0, 1] rfl (by decide)
  have B1 : Below w.heap.size w w1 := H0.out.2.trans (hM.below.mono H0.out.2.size)
  have o1_0 : Hid (w.heap.size ≤ γ 0) := Nat.le_trans H0.out.2.size (hM.fin (Nat.le_refl _) hl (i := 0) rfl).2.1
  have o1_1 : Hid (w.heap.size ≤ γ 1) := Nat.le_trans H0.out.2.size (hM.fin (Nat.le_refl _) hl (i := 1) rfl).2.1
  clear hM hl l
  generalize γ 0 = γ1_0 at M1 o1_0 ⊢
  generalize γ 1 = γ1_1 at M1 o1_1 ⊢
  clear γ
  have H1 : Hid (_ ∧ _) := ⟨M1, B1⟩
  clear M1 B1
  refine rest_at (l := []) rfl ?_
  refine rest_nil ?_
  refine then_normal ?_
  refine wp_seq ?_
  refine walk_seq 2 [.call (.bool true), .quiet (.bool true)] (fun w' => Mm w' [(γ1_0, cells6 n), (γ1_1, cells6 a), (0, dtab)]) ?pre2 ?F2 ?hpre2 (fun γ => ?hF2) (by kernel_rfl) ?hL2 ?hS2 ?ho2 ?he2
  case hpre2 =>
    simp only [List.take_succ_cons, List.take_zero]
    exact rfl
  case hF2 =>
    simp only [fill, Kind.val, Act.put, List.setIfInBounds_toArray, List.set_cons_zero, List.set_cons_succ]
    exact rfl
  case hL2 => exact trivial
  case hS2 => exact fun w' hb => H1.out.1.below hb
  case ho2 =>
    refine AllOk.cons ?_ ?_
    · exact fun γ => ⟨rfl, fun w' h => ⟨17, #[], exec_call rfl call17 rfl (by simp only [List.map_toArray, List.map_nil]), C0.out w' (h.one 2 rfl)⟩⟩
    refine AllOk.cons ?_ ?_
    · exact fun γ => ⟨rfl, fun w' _ => rfl⟩
    exact trivial
  intro γ w2 l hM hl
  have M2 : Mm w2 [(γ1_0, cells6 n), (γ1_1, cells6 a), (0, dtab)] := H1.out.1.grow hM (Nat.le_refl _) hl [] rfl (by decide)
  have B2 : Below w.heap.size w w2 := H1.out.2.trans (hM.below.mono H1.out.2.size)
  clear hM hl l H1
  clear γ
  have H2 : Hid (_ ∧ _) := ⟨M2, B2⟩
  clear M2 B2
  refine rest_at (l := []) rfl ?_
  refine rest_nil ?_
  refine then_normal ?_
  refine wp_seq ?_
  refine walk_seq 2 [.quiet (N n), .born (fun g => .tuple #[PT g 0, .int .i64 0]) (modc n)] (fun w' => Mm w' [(γ1_0, cells6 n), (γ1_1, cells6 a), (0, dtab)]) ?pre3 ?F3 ?hpre3 (fun γ => ?hF3) (by kernel_rfl) ?hL3 ?hS3 ?ho3 ?he3
  case hpre3 =>
    simp only [List.take_succ_cons, List.take_zero]
    exact rfl
  case hF3 =>
    simp only [fill, Kind.val, Act.put, List.setIfInBounds_toArray, List.set_cons_zero, List.set_cons_succ]
    exact rfl
  case hL3 => exact trivial
  case hS3 => exact fun w' hb => H2.out.1.below hb
  case ho3 =>
    refine AllOk.cons ?_ ?_
    · exact fun γ => ⟨rfl, fun w' h => ex_load6 h 0 rfl rfl rfl rfl⟩
    refine AllOk.cons ?_ ?_
    · exact fun γ => ⟨rfl, fun w' h => ⟨18, #[N n], exec_call rfl call18 rfl (by simp only [List.map_toArray, List.map_cons, List.map_nil]; rfl), C1.out w'⟩⟩
    exact trivial
  intro γ w3 l hM hl
  have M3 : Mm w3 [(γ 1, modc n), (γ1_0, cells6 n), (γ1_1, cells6 a), (0, dtab)] := H2.out.1.grow hM (Nat.le_refl _) hl [1] rfl (by decide)
  have B3 : Below w.heap.size w w3 := H2.out.2.trans (hM.below.mono H2.out.2.size)
  have o3_1 : Hid (w.heap.size ≤ γ 1) := Nat.le_trans H2.out.2.size (hM.fin (Nat.le_refl _) hl (i := 1) rfl).2.1
  clear hM hl l H2
  generalize γ 1 = γ3_1 at M3 o3_1 ⊢
  clear γ
  have H3 : Hid (_ ∧ _) := ⟨M3, B3⟩
  clear M3 B3
  refine rest_at (l := [2, 3, 4, 5, 6]) rfl ?_
  refine rest_set (d := 17) rfl rfl rfl rfl ?_
  simp only [Act.put, List.setIfInBounds_toArray, List.set_cons_zero, List.set_cons_succ]
  refine rest_set (d := 20) (v := PT γ3_1 0) (w' := w3) rfl rfl rfl (by go_simp) ?_
  simp only [Act.put, List.setIfInBounds_toArray, List.set_cons_zero, List.set_cons_succ]
  refine rest_set (d := 21) (v := .int .i64 0) (w' := w3) rfl rfl rfl (by go_simp) ?_
  simp only [Act.put, List.setIfInBounds_toArray, List.set_cons_zero, List.set_cons_succ]
  refine rest_set (d := 6) rfl rfl rfl rfl ?_
  simp only [Act.put, List.setIfInBounds_toArray, List.set_cons_zero, List.set_cons_succ]
  refine rest_set (d := 7) rfl rfl rfl rfl ?_
  simp only [Act.put, List.setIfInBounds_toArray, List.set_cons_zero, List.set_cons_succ]
  refine rest_nil ?_
  refine then_normal ?_
  refine wp_seq ?_
  refine wp_seq ?_
  refine walk_seq 6 [.quiet (.int .i64 0), .quiet (.bool false), .quiet (.bool false), .quiet (PT γ3_1 0), .quiet (.bool false), .quiet (.bool false)] (fun w' => Mm w' [(γ3_1, modc n), (γ1_0, cells6 n), (γ1_1, cells6 a), (0, dtab)]) ?pre4 ?F4 ?hpre4 (fun γ => ?hF4) (by kernel_rfl) ?hL4 ?hS4 ?ho4 ?he4
  case hpre4 =>
    simp only [List.take_succ_cons, List.take_zero]
    exact rfl
  case hF4 =>
    simp only [fill, Kind.val, Act.put, List.setIfInBounds_toArray, List.set_cons_zero, List.set_cons_succ]
    exact rfl
  case hL4 => exact trivial
  case hS4 => exact fun w' hb => H3.out.1.below hb
  case ho4 =>
    refine AllOk.cons ?_ ?_
    · exact fun γ => ⟨rfl, fun w' _ => rfl⟩
    refine AllOk.cons ?_ ?_
    · (refine fun γ => ⟨rfl, fun w' h => ?_⟩; clear h; go_simp)
    refine AllOk.cons ?_ ?_
    · exact fun γ => ⟨rfl, fun w' _ => rfl⟩
    refine AllOk.cons ?_ ?_
    · exact fun γ => ⟨rfl, fun w' _ => rfl⟩
    refine AllOk.cons ?_ ?_
    · (refine fun γ => ⟨rfl, fun w' h => ?_⟩; clear h; go_simp)
    refine AllOk.cons ?_ ?_
    · (refine fun γ => ⟨rfl, fun w' h => ?_⟩; clear h; go_simp)
    exact trivial
  intro γ w4 l hM hl
  have M4 : Mm w4 [(γ3_1, modc n), (γ1_0, cells6 n), (γ1_1, cells6 a), (0, dtab)] := H3.out.1.grow hM (Nat.le_refl _) hl [] rfl (by decide)
  have B4 : Below w.heap.size w w4 := H3.out.2.trans (hM.below.mono H3.out.2.size)
  clear hM hl l H3
  clear γ
  have H4 : Hid (_ ∧ _) := ⟨M4, B4⟩
  clear M4 B4
  refine rest_at (l := []) rfl ?_
  refine rest_nil ?_
  refine then_normal ?_
  refine wp_cond_false rfl ?_
  refine wp_skip ?_
  refine then_normal ?_
  refine wp_seq ?_
  refine walk_seq 9 [.quiet (PT γ3_1 0), .quiet (N a), .call (.tuple #[N x, .int .i64 0]), .quiet (.tuple #[N x, .int .i64 0]), .quiet (N x), .quiet (.int .i64 0), .made zero6 24, .laid 6 zero6 (cells6 x), .quiet (.int .i64 0)] (fun w' => Mm w' [(γ3_1, modc n), (γ1_0, cells6 n), (γ1_1, cells6 a), (0, dtab)]) ?pre5 ?F5 ?hpre5 (fun γ => ?hF5) (by kernel_rfl) ?hL5 ?hS5 ?ho5 ?he5
  case hpre5 =>
    simp only [List.take_succ_cons, List.take_zero]
    exact rfl
  case hF5 =>
    simp only [fill, Kind.val, Act.put, List.setIfInBounds_toArray, List.set_cons_zero, List.set_cons_succ]
    exact rfl
  case hL5 => exact ⟨⟨_, rfl⟩, trivial⟩
  case hS5 => exact fun w' hb => H4.out.1.below hb
  case ho5 =>
    refine AllOk.cons ?_ ?_
    · exact fun γ => ⟨rfl, fun w' _ => rfl⟩
    refine AllOk.cons ?_ ?_
    · exact fun γ => ⟨rfl, fun w' h => ex_load6 h 2 rfl rfl rfl rfl⟩
    refine AllOk.cons ?_ ?_
    · exact fun γ => ⟨rfl, fun w' h => ⟨7, #[PT γ3_1 0, N a], exec_call rfl call7 rfl (by simp only [List.map_toArray, List.map_cons, List.map_nil]; rfl), C2.out _ w' (h.two 0 3 rfl rfl (by decide))⟩⟩
    refine AllOk.cons ?_ ?_
    · exact fun γ => ⟨rfl, fun w' _ => rfl⟩
    refine AllOk.cons ?_ ?_
    · (refine fun γ => ⟨rfl, fun w' h => ?_⟩; clear h; go_simp)
    refine AllOk.cons ?_ ?_
    · (refine fun γ => ⟨rfl, fun w' h => ?_⟩; clear h; go_simp)
    refine AllOk.cons ?_ ?_
    · exact fun γ => ⟨rfl, fun w' => exec_made6 rfl⟩
    refine AllOk.cons ?_ ?_
    · exact fun γ => ⟨rfl, rfl, rfl, fun w' h => exec_laid6 h rfl rfl rfl⟩
    refine AllOk.cons ?_ ?_
    · exact fun γ => ⟨rfl, fun w' _ => rfl⟩
    exact trivial
  intro γ w5 l hM hl
  have M5 : Mm w5 [(γ 6, cells6 x), (γ3_1, modc n), (γ1_0, cells6 n), (γ1_1, cells6 a), (0, dtab)] := H4.out.1.grow hM (Nat.le_refl _) hl [6] rfl (by decide)
  have B5 : Below w.heap.size w w5 := H4.out.2.trans (hM.below.mono H4.out.2.size)
  have o5_6 : Hid (w.heap.size ≤ γ 6) := Nat.le_trans H4.out.2.size (hM.fin (Nat.le_refl _) hl (i := 6) rfl).2.1
  clear hM hl l H4
  generalize γ 6 = γ5_6 at M5 o5_6 ⊢
  clear γ
  have H5 : Hid (_ ∧ _) := ⟨M5, B5⟩
  clear M5 B5
  refine rest_at (l := []) rfl ?_
  refine rest_nil ?_
  refine then_normal ?_
  refine wp_seq ?_
  refine wp_seq ?_
  refine walk_seq 2 [.quiet (.int .i64 0), .quiet (.bool true)] (fun w' => Mm w' [(γ5_6, cells6 x), (γ3_1, modc n), (γ1_0, cells6 n), (γ1_1, cells6 a), (0, dtab)]) ?pre6 ?F6 ?hpre6 (fun γ => ?hF6) (by kernel_rfl) ?hL6 ?hS6 ?ho6 ?he6
  case hpre6 =>
    simp only [List.take_succ_cons, List.take_zero]
    exact rfl
  case hF6 =>
    simp only [fill, Kind.val, Act.put, List.setIfInBounds_toArray, List.set_cons_zero, List.set_cons_succ]
    exact rfl
  case hL6 => exact trivial
  case hS6 => exact fun w' hb => H5.out.1.below hb
  case ho6 =>
    refine AllOk.cons ?_ ?_
    · exact fun γ => ⟨rfl, fun w' _ => rfl⟩
    refine AllOk.cons ?_ ?_
    · (refine fun γ => ⟨rfl, fun w' h => ?_⟩; clear h; go_simp)
    exact trivial
  intro γ w6 l hM hl
  have M6 : Mm w6 [(γ5_6, cells6 x), (γ3_1, modc n), (γ1_0, cells6 n), (γ1_1, cells6 a), (0, dtab)] := H5.out.1.grow hM (Nat.le_refl _) hl [] rfl (by decide)
  have B6 : Below w.heap.size w w6 := H5.out.2.trans (hM.below.mono H5.out.2.size)
  clear hM hl l H5
  clear γ
  have H6 : Hid (_ ∧ _) := ⟨M6, B6⟩
  clear M6 B6
  refine rest_at (l := []) rfl ?_
  refine rest_nil ?_
  refine then_normal ?_
  refine wp_cond_true rfl ?_
  refine wp_seq ?_
  refine walk_seq 18 [.quiet (.bool true), .quiet (.bool true), .quiet (PT γ3_1 0), .quiet (N x), .quiet (N a), .call (N k1), .quiet (PT γ3_1 0), .call (N k1), .call (N k1), .quiet (.bool true), .quiet (.bool true), .quiet (.bool true), .quiet (N x), .quiet (N n), .call (.int .i64 (-1)), .quiet (.bool true), .quiet (.bool true), .quiet (.bool true)] (fun w' => Mm w' [(γ5_6, cells6 x), (γ3_1, modc n), (γ1_0, cells6 n), (γ1_1, cells6 a), (0, dtab)]) ?pre7 ?F7 ?hpre7 (fun γ => ?hF7) (by kernel_rfl) ?hL7 ?hS7 ?ho7 ?he7
  case hpre7 =>
    simp only [List.take_succ_cons, List.take_zero]
    exact rfl
  case hF7 =>
    simp only [fill, Kind.val, Act.put, List.setIfInBounds_toArray, List.set_cons_zero, List.set_cons_succ]
    exact rfl
  case hL7 => exact trivial
  case hS7 => exact fun w' hb => H6.out.1.below hb
  case ho7 =>
    refine AllOk.cons ?_ ?_
    · exact fun γ => ⟨rfl, fun w' _ => rfl⟩
    refine AllOk.cons ?_ ?_
    · exact fun γ => ⟨rfl, fun w' _ => rfl⟩
    refine AllOk.cons ?_ ?_
    · exact fun γ => ⟨rfl, fun w' _ => rfl⟩
    refine AllOk.cons ?_ ?_
    · exact fun γ => ⟨rfl, fun w' h => ex_load6 h 0 rfl rfl rfl rfl⟩
    refine AllOk.cons ?_ ?_
    · exact fun γ => ⟨rfl, fun w' h => ex_load6 h 3 rfl rfl rfl rfl⟩
    refine AllOk.cons ?_ ?_
    · exact fun γ => ⟨rfl, fun w' h => ⟨15, #[PT γ3_1 0, N x, N a], exec_call rfl call15 rfl (by simp only [List.map_toArray, List.map_cons, List.map_nil]; rfl), C3.out _ w' (h.one 1 rfl)⟩⟩
    refine AllOk.cons ?_ ?_
    · exact fun γ => ⟨rfl, fun w' _ => rfl⟩
    refine AllOk.cons ?_ ?_
    · exact fun γ => ⟨rfl, fun w' h => ⟨19, #[.int .u64 1], exec_call rfl call19 rfl (by simp only [List.map_toArray, List.map_cons, List.map_nil]; rfl), C4.out w'⟩⟩
    refine AllOk.cons ?_ ?_
    · exact fun γ => ⟨rfl, fun w' h => ⟨10, #[PT γ3_1 0, N k1], exec_call rfl call10 rfl (by simp only [List.map_toArray, List.map_cons, List.map_nil]; rfl), C5.out _ w' (h.one 1 rfl)⟩⟩
    refine AllOk.cons ?_ ?_
    · exact fun γ => ⟨rfl, fun w' _ => exec_eq6 e_k1 rfl rfl rfl⟩
    refine AllOk.cons ?_ ?_
    · (refine fun γ => ⟨rfl, fun w' h => ?_⟩; clear h; go_simp)
    refine AllOk.cons ?_ ?_
    · exact fun γ => ⟨rfl, fun w' _ => rfl⟩
    refine AllOk.cons ?_ ?_
    · exact fun γ => ⟨rfl, fun w' h => ex_load6 h 0 rfl rfl rfl rfl⟩
    refine AllOk.cons ?_ ?_
    · exact fun γ => ⟨rfl, fun w' h => ex_load6 h 2 rfl rfl rfl rfl⟩
    refine AllOk.cons ?_ ?_
    · exact fun γ => ⟨rfl, fun w' h => ⟨21, #[N x, N n], exec_call rfl call21 rfl (by simp only [List.map_toArray, List.map_cons, List.map_nil]; rfl), C6.out w'⟩⟩
    refine AllOk.cons ?_ ?_
    · (refine fun γ => ⟨rfl, fun w' h => ?_⟩; clear h; go_simp)
    refine AllOk.cons ?_ ?_
    · (refine fun γ => ⟨rfl, fun w' h => ?_⟩; clear h; go_simp)
    refine AllOk.cons ?_ ?_
    · exact fun γ => ⟨rfl, fun w' _ => rfl⟩
    exact trivial
  intro γ w7 l hM hl
  have M7 : Mm w7 [(γ5_6, cells6 x), (γ3_1, modc n), (γ1_0, cells6 n), (γ1_1, cells6 a), (0, dtab)] := H6.out.1.grow hM (Nat.le_refl _) hl [] rfl (by decide)
  have B7 : Below w.heap.size w w7 := H6.out.2.trans (hM.below.mono H6.out.2.size)
  clear hM hl l H6
  clear γ
  have H7 : Hid (_ ∧ _) := ⟨M7, B7⟩
  clear M7 B7
  refine rest_at (l := []) rfl ?_
  refine rest_nil ?_
  refine then_normal ?_
  refine wp_ret ?_
  repeat (first | refine then_ret ?_ | refine block_ret ?_)
  refine bodyPost_ret (v := .bool true) (by simp [results, Tryd.results5, go_sem, *]) rfl ?_
  exact ⟨rfl, H7.out.2⟩
/-! The greatest common divisor, by dividing on and on. -/
def fib2 : Nat → Nat × Nat
  | 0 => (0, 1)
  | k + 1 => ((fib2 k).2, (fib2 k).1 + (fib2 k).2)
structure ES where
  i : Nat
  d : Nat
  r : Nat
structure EI (n a i d r : Nat) : Prop where
  rd : r < d
  dn : d ≤ n
  gcd : Nat.gcd d r = Nat.gcd n a
  fib : (fib2 i).2 * d + (fib2 i).1 * r ≤ n
theorem EI.start {n a : Nat} (ok : Ok n) : EI n a 0 n (a % n) := by
  refine ⟨Nat.mod_lt _ ok.pos, Nat.le_refl _, ?_, ?_⟩
  · rw [Nat.gcd_comm n (a % n), ← Nat.gcd_rec, Nat.gcd_comm]
  · show 1 * n + 0 * (a % n) ≤ n
    omega
theorem EI.next {n a i d r : Nat} (h : EI n a i d r) (hr : r ≠ 0) : EI n a (i + 1) r (d % r) := by
  have h1 := h.rd
  have h2 := h.dn
  refine ⟨Nat.mod_lt _ (by omega), by omega, ?_, ?_⟩
  · rw [Nat.gcd_comm r (d % r), ← Nat.gcd_rec, Nat.gcd_comm r d]; exact h.gcd
  · show ((fib2 i).1 + (fib2 i).2) * r + (fib2 i).2 * (d % r) ≤ n
    refine Nat.le_trans ?_ h.fib
    have h3 := Nat.div_add_mod d r
    have h4 : 1 ≤ d / r := Nat.div_pos (by omega) (by omega)
    have h5 : r * 1 ≤ r * (d / r) := Nat.mul_le_mul_left r h4
    have h6 : (fib2 i).2 * (r + d % r) ≤ (fib2 i).2 * d := Nat.mul_le_mul_left _ (by omega)
    rw [Nat.mul_add] at h6
    rw [Nat.add_mul]
    omega
theorem fib_mono : ∀ i j, i ≤ j → (fib2 i).2 ≤ (fib2 j).2 := by
  intro i j h
  induction j with
  | zero => rw [show i = 0 by omega]; exact Nat.le_refl _
  | succ j ih =>
    rcases Nat.lt_or_ge j i with h' | h'
    · rw [show i = j + 1 by omega]; exact Nat.le_refl _
    · have := ih h'
      show (fib2 i).2 ≤ (fib2 j).1 + (fib2 j).2
      omega
theorem fib_big : big ≤ (fib2 600).2 := by
  rw [big_eq]
  decide +kernel
theorem EI.lt {n a i d r : Nat} (ok : Ok n) (h : EI n a i d r) : i < 600 := by
  rcases Nat.lt_or_ge i 600 with h' | h'
  · exact h'
  · have h1 := fib_mono 600 i h'
    have h2 := fib_big
    have h3 := h.fib
    have h4 := h.rd
    have h5 : (fib2 i).2 * 1 ≤ (fib2 i).2 * d := Nat.mul_le_mul_left _ (by omega)
    have h6 := ok.big
    omega
theorem EI.last {n a i d r : Nat} (h : EI n a i d r) (hr : r = 0) : d = Nat.gcd n a := by
  have := h.gcd
  rwa [hr, Nat.gcd_zero_right] at this
set_option maxHeartbeats 4000000 in
set_option maxRecDepth 100000 in
theorem invl_none (n a r0 z0 k1 : Nat) (ok : Ok n) (hr0 : r0 = a % n) (hk1 : k1 = 1) (hg : Nat.gcd n a ≠ 1) (e_z : ∀ w, (Op.equalIn 10000 24 (N z0) (N 0)).run Tryd.prog w = .ok true w)
    (c0 : ∀ w, Mm w [(0, dtab)] → Calls Tryd.prog 17 #[] w fun e w' => e = .returned (.bool true) ∧ Below w.heap.size w w')
    (c1 : ∀ w, Calls Tryd.prog 18 #[N n] w fun e w' => Below w.heap.size w w' ∧ ∃ g, e = .returned (.tuple #[PT g 0, .int .i64 0]) ∧ w.heap.size ≤ g ∧ g < w'.heap.size ∧ Blk w' g (modc n))
    (c2 : ∀ g w, Mm w [(g, modc n), (0, dtab)] → Calls Tryd.prog 7 #[PT g 0, N a] w fun e w' => e = .returned (.tuple #[N z0, .int .i64 6]) ∧ Below w.heap.size w w')
    (c3 : ∀ g w, Mm w [(g, modc n)] → Calls Tryd.prog 10 #[PT g 0, N a] w fun e w' => e = .returned (N r0) ∧ Below w.heap.size w w')
    (c4 : ∀ w, Calls Tryd.prog 19 #[.int .u64 1] w fun e w' => e = .returned (N k1) ∧ Below w.heap.size w w') (w : World) (hm : Mm w [(0, dtab)]) :
    Calls Tryd.prog 5 #[N n, N a] w fun e w' => e = .returned (.bool true) ∧ Below w.heap.size w w' := by
  have H0 : Hid (_ ∧ _) := ⟨hm, Below.refl w.heap.size w⟩
  clear hm
  have C0 : Hid _ := c0
  have C1 : Hid _ := c1
  have C2 : Hid _ := c2
  have C3 : Hid _ := c3
  have C4 : Hid _ := c4
  clear c0 c1 c2 c3 c4
  have HR : Hid _ := hr0
  have HK : Hid _ := hk1
  clear hr0 hk1
  go_enter Tryd.func5, Tryd.ntmps5
  refine wp_seq ?_
  refine walk_seq 3 [.made (cells6 n) 24, .made (cells6 a) 24, .quiet (.bool false)] (fun w' => Mm w' [(0, dtab)]) ?pre1 ?F1 ?hpre1 (fun γ => ?hF1) (by kernel_rfl) ?hL1 ?hS1 ?ho1 ?he1
  case hpre1 =>
    simp only [List.take_succ_cons, List.take_zero]
    exact rfl
  case hF1 =>
    simp only [fill, Kind.val, Act.put, List.setIfInBounds_toArray, List.set_cons_zero, List.set_cons_succ]
    exact rfl
  case hL1 => exact trivial
  case hS1 => exact fun w' hb => H0.out.1.below hb
  case ho1 =>
    refine AllOk.cons ?_ ?_
    · exact fun γ => ⟨rfl, fun w' => ex_box6 rfl rfl⟩
    refine AllOk.cons ?_ ?_
    · exact fun γ => ⟨rfl, fun w' => ex_box6 rfl rfl⟩
    refine AllOk.cons ?_ ?_
    · exact fun γ => ⟨rfl, fun w' _ => rfl⟩
    exact trivial
  intro γ w1 l hM hl
  have M1 : Mm w1 [(γ 0, cells6 n), (γ 1, cells6 a), (0, dtab)] := H0.out.1.grow hM (Nat.le_refl _) hl [0, 1] rfl (by decide)
  have B1 : Below w.heap.size w w1 := H0.out.2.trans (hM.below.mono H0.out.2.size)
  have o1_0 : Hid (w.heap.size ≤ γ 0) := Nat.le_trans H0.out.2.size (hM.fin (Nat.le_refl _) hl (i := 0) rfl).2.1
  have o1_1 : Hid (w.heap.size ≤ γ 1) := Nat.le_trans H0.out.2.size (hM.fin (Nat.le_refl _) hl (i := 1) rfl).2.1
  clear hM hl l
  generalize γ 0 = γ1_0 at M1 o1_0 ⊢
  generalize γ 1 = γ1_1 at M1 o1_1 ⊢
  clear γ
  have H1 : Hid (_ ∧ _) := ⟨M1, B1⟩
  clear M1 B1
  refine rest_at (l := []) rfl ?_
  refine rest_nil ?_
  refine then_normal ?_
  refine wp_seq ?_
  refine walk_seq 2 [.call (.bool true), .quiet (.bool true)] (fun w' => Mm w' [(γ1_0, cells6 n), (γ1_1, cells6 a), (0, dtab)]) ?pre2 ?F2 ?hpre2 (fun γ => ?hF2) (by kernel_rfl) ?hL2 ?hS2 ?ho2 ?he2
  case hpre2 =>
    simp only [List.take_succ_cons, List.take_zero]
    exact rfl
  case hF2 =>
    simp only [fill, Kind.val, Act.put, List.setIfInBounds_toArray, List.set_cons_zero, List.set_cons_succ]
    exact rfl
  case hL2 => exact trivial
  case hS2 => exact fun w' hb => H1.out.1.below hb
  case ho2 =>
    refine AllOk.cons ?_ ?_
    · exact fun γ => ⟨rfl, fun w' h => ⟨17, #[], exec_call rfl call17 rfl (by simp only [List.map_toArray, List.map_nil]), C0.out w' (h.one 2 rfl)⟩⟩
    refine AllOk.cons ?_ ?_
    · exact fun γ => ⟨rfl, fun w' _ => rfl⟩
    exact trivial
  intro γ w2 l hM hl
  have M2 : Mm w2 [(γ1_0, cells6 n), (γ1_1, cells6 a), (0, dtab)] := H1.out.1.grow hM (Nat.le_refl _) hl [] rfl (by decide)
  have B2 : Below w.heap.size w w2 := H1.out.2.trans (hM.below.mono H1.out.2.size)
  clear hM hl l H1
  clear γ
  have H2 : Hid (_ ∧ _) := ⟨M2, B2⟩
  clear M2 B2
  refine rest_at (l := []) rfl ?_
  refine rest_nil ?_
  refine then_normal ?_
  refine wp_seq ?_
  refine walk_seq 2 [.quiet (N n), .born (fun g => .tuple #[PT g 0, .int .i64 0]) (modc n)] (fun w' => Mm w' [(γ1_0, cells6 n), (γ1_1, cells6 a), (0, dtab)]) ?pre3 ?F3 ?hpre3 (fun γ => ?hF3) (by kernel_rfl) ?hL3 ?hS3 ?ho3 ?he3
  case hpre3 =>
    simp only [List.take_succ_cons, List.take_zero]
    exact rfl
  case hF3 =>
    simp only [fill, Kind.val, Act.put, List.setIfInBounds_toArray, List.set_cons_zero, List.set_cons_succ]
    exact rfl
  case hL3 => exact trivial
  case hS3 => exact fun w' hb => H2.out.1.below hb
  case ho3 =>
    refine AllOk.cons ?_ ?_
    · exact fun γ => ⟨rfl, fun w' h => ex_load6 h 0 rfl rfl rfl rfl⟩
    refine AllOk.cons ?_ ?_
    · exact fun γ => ⟨rfl, fun w' h => ⟨18, #[N n], exec_call rfl call18 rfl (by simp only [List.map_toArray, List.map_cons, List.map_nil]; rfl), C1.out w'⟩⟩
    exact trivial
  intro γ w3 l hM hl
  have M3 : Mm w3 [(γ 1, modc n), (γ1_0, cells6 n), (γ1_1, cells6 a), (0, dtab)] := H2.out.1.grow hM (Nat.le_refl _) hl [1] rfl (by decide)
  have B3 : Below w.heap.size w w3 := H2.out.2.trans (hM.below.mono H2.out.2.size)
  have o3_1 : Hid (w.heap.size ≤ γ 1) := Nat.le_trans H2.out.2.size (hM.fin (Nat.le_refl _) hl (i := 1) rfl).2.1
  clear hM hl l H2
  generalize γ 1 = γ3_1 at M3 o3_1 ⊢
  clear γ
  have H3 : Hid (_ ∧ _) := ⟨M3, B3⟩
  clear M3 B3
  refine rest_at (l := [2, 3, 4, 5, 6]) rfl ?_
  refine rest_set (d := 17) rfl rfl rfl rfl ?_
  simp only [Act.put, List.setIfInBounds_toArray, List.set_cons_zero, List.set_cons_succ]
  refine rest_set (d := 20) (v := PT γ3_1 0) (w' := w3) rfl rfl rfl (by go_simp) ?_
  simp only [Act.put, List.setIfInBounds_toArray, List.set_cons_zero, List.set_cons_succ]
  refine rest_set (d := 21) (v := .int .i64 0) (w' := w3) rfl rfl rfl (by go_simp) ?_
  simp only [Act.put, List.setIfInBounds_toArray, List.set_cons_zero, List.set_cons_succ]
  refine rest_set (d := 6) rfl rfl rfl rfl ?_
  simp only [Act.put, List.setIfInBounds_toArray, List.set_cons_zero, List.set_cons_succ]
  refine rest_set (d := 7) rfl rfl rfl rfl ?_
  simp only [Act.put, List.setIfInBounds_toArray, List.set_cons_zero, List.set_cons_succ]
  refine rest_nil ?_
  refine then_normal ?_
  refine wp_seq ?_
  refine wp_seq ?_
  refine walk_seq 6 [.quiet (.int .i64 0), .quiet (.bool false), .quiet (.bool false), .quiet (PT γ3_1 0), .quiet (.bool false), .quiet (.bool false)] (fun w' => Mm w' [(γ3_1, modc n), (γ1_0, cells6 n), (γ1_1, cells6 a), (0, dtab)]) ?pre4 ?F4 ?hpre4 (fun γ => ?hF4) (by kernel_rfl) ?hL4 ?hS4 ?ho4 ?he4
  case hpre4 =>
    simp only [List.take_succ_cons, List.take_zero]
    exact rfl
  case hF4 =>
    simp only [fill, Kind.val, Act.put, List.setIfInBounds_toArray, List.set_cons_zero, List.set_cons_succ]
    exact rfl
  case hL4 => exact trivial
  case hS4 => exact fun w' hb => H3.out.1.below hb
  case ho4 =>
    refine AllOk.cons ?_ ?_
    · exact fun γ => ⟨rfl, fun w' _ => rfl⟩
    refine AllOk.cons ?_ ?_
    · (refine fun γ => ⟨rfl, fun w' h => ?_⟩; clear h; go_simp)
    refine AllOk.cons ?_ ?_
    · exact fun γ => ⟨rfl, fun w' _ => rfl⟩
    refine AllOk.cons ?_ ?_
    · exact fun γ => ⟨rfl, fun w' _ => rfl⟩
    refine AllOk.cons ?_ ?_
    · (refine fun γ => ⟨rfl, fun w' h => ?_⟩; clear h; go_simp)
    refine AllOk.cons ?_ ?_
    · (refine fun γ => ⟨rfl, fun w' h => ?_⟩; clear h; go_simp)
    exact trivial
  intro γ w4 l hM hl
  have M4 : Mm w4 [(γ3_1, modc n), (γ1_0, cells6 n), (γ1_1, cells6 a), (0, dtab)] := H3.out.1.grow hM (Nat.le_refl _) hl [] rfl (by decide)
  have B4 : Below w.heap.size w w4 := H3.out.2.trans (hM.below.mono H3.out.2.size)
  clear hM hl l H3
  clear γ
  have H4 : Hid (_ ∧ _) := ⟨M4, B4⟩
  clear M4 B4
  refine rest_at (l := []) rfl ?_
  refine rest_nil ?_
  refine then_normal ?_
  refine wp_cond_false rfl ?_
  refine wp_skip ?_
  refine then_normal ?_
  refine wp_seq ?_
  refine walk_seq 9 [.quiet (PT γ3_1 0), .quiet (N a), .call (.tuple #[N z0, .int .i64 6]), .quiet (.tuple #[N z0, .int .i64 6]), .quiet (N z0), .quiet (.int .i64 6), .made zero6 24, .laid 6 zero6 (cells6 z0), .quiet (.int .i64 6)] (fun w' => Mm w' [(γ3_1, modc n), (γ1_0, cells6 n), (γ1_1, cells6 a), (0, dtab)]) ?pre5 ?F5 ?hpre5 (fun γ => ?hF5) (by kernel_rfl) ?hL5 ?hS5 ?ho5 ?he5
  case hpre5 =>
    simp only [List.take_succ_cons, List.take_zero]
    exact rfl
  case hF5 =>
    simp only [fill, Kind.val, Act.put, List.setIfInBounds_toArray, List.set_cons_zero, List.set_cons_succ]
    exact rfl
  case hL5 => exact ⟨⟨_, rfl⟩, trivial⟩
  case hS5 => exact fun w' hb => H4.out.1.below hb
  case ho5 =>
    refine AllOk.cons ?_ ?_
    · exact fun γ => ⟨rfl, fun w' _ => rfl⟩
    refine AllOk.cons ?_ ?_
    · exact fun γ => ⟨rfl, fun w' h => ex_load6 h 2 rfl rfl rfl rfl⟩
    refine AllOk.cons ?_ ?_
    · exact fun γ => ⟨rfl, fun w' h => ⟨7, #[PT γ3_1 0, N a], exec_call rfl call7 rfl (by simp only [List.map_toArray, List.map_cons, List.map_nil]; rfl), C2.out _ w' (h.two 0 3 rfl rfl (by decide))⟩⟩
    refine AllOk.cons ?_ ?_
    · exact fun γ => ⟨rfl, fun w' _ => rfl⟩
    refine AllOk.cons ?_ ?_
    · (refine fun γ => ⟨rfl, fun w' h => ?_⟩; clear h; go_simp)
    refine AllOk.cons ?_ ?_
    · (refine fun γ => ⟨rfl, fun w' h => ?_⟩; clear h; go_simp)
    refine AllOk.cons ?_ ?_
    · exact fun γ => ⟨rfl, fun w' => exec_made6 rfl⟩
    refine AllOk.cons ?_ ?_
    · exact fun γ => ⟨rfl, rfl, rfl, fun w' h => exec_laid6 h rfl rfl rfl⟩
    refine AllOk.cons ?_ ?_
    · exact fun γ => ⟨rfl, fun w' _ => rfl⟩
    exact trivial
  intro γ w5 l hM hl
  have M5 : Mm w5 [(γ 6, cells6 z0), (γ3_1, modc n), (γ1_0, cells6 n), (γ1_1, cells6 a), (0, dtab)] := H4.out.1.grow hM (Nat.le_refl _) hl [6] rfl (by decide)
  have B5 : Below w.heap.size w w5 := H4.out.2.trans (hM.below.mono H4.out.2.size)
  have o5_6 : Hid (w.heap.size ≤ γ 6) := Nat.le_trans H4.out.2.size (hM.fin (Nat.le_refl _) hl (i := 6) rfl).2.1
  clear hM hl l H4
  generalize γ 6 = γ5_6 at M5 o5_6 ⊢
  clear γ
  have H5 : Hid (_ ∧ _) := ⟨M5, B5⟩
  clear M5 B5
  refine rest_at (l := []) rfl ?_
  refine rest_nil ?_
  refine then_normal ?_
  refine wp_seq ?_
  refine wp_seq ?_
  refine walk_seq 2 [.quiet (.int .i64 6), .quiet (.bool false)] (fun w' => Mm w' [(γ5_6, cells6 z0), (γ3_1, modc n), (γ1_0, cells6 n), (γ1_1, cells6 a), (0, dtab)]) ?pre6 ?F6 ?hpre6 (fun γ => ?hF6) (by kernel_rfl) ?hL6 ?hS6 ?ho6 ?he6
  case hpre6 =>
    simp only [List.take_succ_cons, List.take_zero]
    exact rfl
  case hF6 =>
    simp only [fill, Kind.val, Act.put, List.setIfInBounds_toArray, List.set_cons_zero, List.set_cons_succ]
    exact rfl
  case hL6 => exact trivial
  case hS6 => exact fun w' hb => H5.out.1.below hb
  case ho6 =>
    refine AllOk.cons ?_ ?_
    · exact fun γ => ⟨rfl, fun w' _ => rfl⟩
    refine AllOk.cons ?_ ?_
    · (refine fun γ => ⟨rfl, fun w' h => ?_⟩; clear h; go_simp)
    exact trivial
  intro γ w6 l hM hl
  have M6 : Mm w6 [(γ5_6, cells6 z0), (γ3_1, modc n), (γ1_0, cells6 n), (γ1_1, cells6 a), (0, dtab)] := H5.out.1.grow hM (Nat.le_refl _) hl [] rfl (by decide)
  have B6 : Below w.heap.size w w6 := H5.out.2.trans (hM.below.mono H5.out.2.size)
  clear hM hl l H5
  clear γ
  have H6 : Hid (_ ∧ _) := ⟨M6, B6⟩
  clear M6 B6
  refine rest_at (l := []) rfl ?_
  refine rest_nil ?_
  refine then_normal ?_
  refine wp_cond_false rfl ?_
  refine wp_skip ?_
  refine then_normal ?_
  refine wp_seq ?_
  refine walk_any (by kernel_rfl) 8 [.quiet (N n), .quiet (PT γ3_1 0), .quiet (N a), .call (N r0), .made zero6 24, .made zero6 24, .laid 4 zero6 (cells6 n), .laid 5 zero6 (cells6 r0)] (fun w' => Mm w' [(γ5_6, cells6 z0), (γ3_1, modc n), (γ1_0, cells6 n), (γ1_1, cells6 a), (0, dtab)]) ?pre7 ?F7 ?hpre7 (fun γ => ?hF7) (by kernel_rfl) ?hL7 ?hS7 ?ho7 ?he7
  case hpre7 =>
    simp only [List.take_succ_cons, List.take_zero]
    exact rfl
  case hF7 =>
    simp only [fill, Kind.val, Act.put, List.setIfInBounds_toArray, List.set_cons_zero, List.set_cons_succ]
    exact rfl
  case hL7 => exact ⟨⟨_, rfl⟩, ⟨_, rfl⟩, trivial⟩
  case hS7 => exact fun w' hb => H6.out.1.below hb
  case ho7 =>
    refine AllOk.cons ?_ ?_
    · exact fun γ => ⟨rfl, fun w' h => ex_load6 h 2 rfl rfl rfl rfl⟩
    refine AllOk.cons ?_ ?_
    · exact fun γ => ⟨rfl, fun w' _ => rfl⟩
    refine AllOk.cons ?_ ?_
    · exact fun γ => ⟨rfl, fun w' h => ex_load6 h 3 rfl rfl rfl rfl⟩
    refine AllOk.cons ?_ ?_
    · exact fun γ => ⟨rfl, fun w' h => ⟨10, #[PT γ3_1 0, N a], exec_call rfl call10 rfl (by simp only [List.map_toArray, List.map_cons, List.map_nil]; rfl), C3.out _ w' (h.one 1 rfl)⟩⟩
    refine AllOk.cons ?_ ?_
    · exact fun γ => ⟨rfl, fun w' => exec_made6 rfl⟩
    refine AllOk.cons ?_ ?_
    · exact fun γ => ⟨rfl, fun w' => exec_made6 rfl⟩
    refine AllOk.cons ?_ ?_
    · exact fun γ => ⟨rfl, rfl, rfl, fun w' h => exec_laid6 h rfl rfl rfl⟩
    refine AllOk.cons ?_ ?_
    · exact fun γ => ⟨rfl, rfl, rfl, fun w' h => exec_laid6 h rfl rfl rfl⟩
    exact trivial
  intro γ w7 l hM hl
  have M7 : Mm w7 [(γ 4, cells6 n), (γ 5, cells6 r0), (γ5_6, cells6 z0), (γ3_1, modc n), (γ1_0, cells6 n), (γ1_1, cells6 a), (0, dtab)] := H6.out.1.grow hM (Nat.le_refl _) hl [4, 5] rfl (by decide)
  have B7 : Below w.heap.size w w7 := H6.out.2.trans (hM.below.mono H6.out.2.size)
  have o7_4 : Hid (w.heap.size ≤ γ 4) := Nat.le_trans H6.out.2.size (hM.fin (Nat.le_refl _) hl (i := 4) rfl).2.1
  have o7_5 : Hid (w.heap.size ≤ γ 5) := Nat.le_trans H6.out.2.size (hM.fin (Nat.le_refl _) hl (i := 5) rfl).2.1
  clear hM hl l H6
  generalize γ 4 = γ7_4 at M7 o7_4 ⊢
  generalize γ 5 = γ7_5 at M7 o7_5 ⊢
  clear γ
  have H7 : Hid (_ ∧ _) := ⟨M7, B7⟩
  clear M7 B7
  refine rest_at (l := []) rfl ?_
  refine rest_nil ?_
  refine then_normal ?_
  refine wp_seq ?_
  refine wp_seq ?_
  refine walk_seq 1 [.quiet (.int .i64 0)] (fun w' => Mm w' [(γ7_4, cells6 n), (γ7_5, cells6 r0), (γ5_6, cells6 z0), (γ3_1, modc n), (γ1_0, cells6 n), (γ1_1, cells6 a), (0, dtab)]) ?pre8 ?F8 ?hpre8 (fun γ => ?hF8) (by kernel_rfl) ?hL8 ?hS8 ?ho8 ?he8
  case hpre8 =>
    simp only [List.take_succ_cons, List.take_zero]
    exact rfl
  case hF8 =>
    simp only [fill, Kind.val, Act.put, List.setIfInBounds_toArray, List.set_cons_zero, List.set_cons_succ]
    exact rfl
  case hL8 => exact trivial
  case hS8 => exact fun w' hb => H7.out.1.below hb
  case ho8 =>
    refine AllOk.cons ?_ ?_
    · exact fun γ => ⟨rfl, fun w' _ => rfl⟩
    exact trivial
  intro γ w8 l hM hl
  have M8 : Mm w8 [(γ7_4, cells6 n), (γ7_5, cells6 r0), (γ5_6, cells6 z0), (γ3_1, modc n), (γ1_0, cells6 n), (γ1_1, cells6 a), (0, dtab)] := H7.out.1.grow hM (Nat.le_refl _) hl [] rfl (by decide)
  have B8 : Below w.heap.size w w8 := H7.out.2.trans (hM.below.mono H7.out.2.size)
  clear hM hl l H7
  clear γ
  have H8 : Hid (_ ∧ _) := ⟨M8, B8⟩
  clear M8 B8
  refine rest_at (l := []) rfl ?_
  refine rest_nil ?_
  refine then_normal ?_
  refine wp_block ?_
  refine loop_ghost (α := ES) (fun z a' w' => ∃ s0 : Nat → Value, a' = ⟨#[N n, N a, PT γ1_0 0, PT γ1_1 0, .bool false, .bool true, PT γ3_1 0, .int .i64 0, PT γ5_6 0, .int .i64 6, PT γ7_4 0, PT γ7_5 0, .int .i64 ((z.i : Nat) : Int), s0 13, s0 14, s0 15, .bool true, .tuple #[PT γ3_1 0, .int .i64 0], N n, .tuple #[PT γ3_1 0, .int .i64 0], PT γ3_1 0, .int .i64 0, .int .i64 0, .bool false, .bool false, PT γ3_1 0, .bool false, .bool false, undef, .tuple #[N z0, .int .i64 6], PT γ3_1 0, N a, .tuple #[N z0, .int .i64 6], N z0, .int .i64 6, .int .i64 6, .bool false, undef, undef, undef, undef, undef, undef, undef, undef, undef, undef, undef, undef, undef, undef, undef, undef, undef, N n, PT γ3_1 0, N a, N r0, s0 58, s0 59, s0 60, s0 61, s0 62, s0 63, s0 64, s0 65, s0 66, s0 67, s0 68, s0 69, s0 70, s0 71, s0 72, s0 73, s0 74, s0 75, undef, undef, undef, undef, undef, undef, undef, undef, undef, undef, undef, undef, undef, undef, undef, undef, undef, undef, undef, undef], []⟩ ∧ (Mm w' [(γ7_4, cells6 z.d), (γ7_5, cells6 z.r), (γ5_6, cells6 z0), (γ3_1, modc n), (γ1_0, cells6 n), (γ1_1, cells6 a), (0, dtab)] ∧ Below w.heap.size w w') ∧ EI n a z.i z.d z.r) (fun z => 600 - z.i) ⟨0, n, r0⟩ ?st0 ?rd0
  case st0 => exact ⟨(slotfn [undef, undef, undef, undef, undef, undef, undef, undef, undef, undef, undef, undef, undef, undef, undef, undef, undef, undef, undef, undef, undef, undef, undef, undef, undef, undef, undef, undef, undef, undef, undef, undef, undef, undef, undef, undef, undef, undef, undef, undef, undef, undef, undef, undef, undef, undef, undef, undef, undef, undef, undef, undef, undef, undef, undef, undef, undef, undef, undef, undef, undef, undef, undef, undef, undef, undef, undef, undef, undef, undef, undef, undef, undef, undef, undef, undef]), rfl, ⟨H8.out.1, H8.out.2⟩, by rw [HR.out]; exact EI.start ok⟩
  intro z a' w9 hI
  obtain ⟨s0, rfl, hMB, hk0⟩ := hI
  have H9 : Hid (_ ∧ _) := hMB
  clear hMB H8
  by_cases hlt : z.r ≠ 0
  · have hrd : True := trivial
    clear hrd
    obtain ⟨i, d, r⟩ := z
    have hE : EI n a i d r := hk0
    have hr : r ≠ 0 := hlt
    have hi6 : i < 600 := hE.lt ok
    have hbn := ok.big
    have e0 := fun w => run_eqN r 0 (by have := hE.rd; have := hE.dn; omega) big_pos w
    rw [decide_eq_false hr] at e0
    have cv := fun w => divide_some d r (by have := hE.dn; omega) (by have := hE.rd; have := hE.dn; omega) hr w
    have HN : Hid _ := hE.next hr
    have CV : Hid _ := cv
    clear cv hE hk0
    refine wp_seq ?_
    refine wp_seq ?_
    refine walk_seq 7 [.quiet (.int .i64 ((i : Nat) : Int)), .quiet (.bool true), .quiet (.bool true), .quiet (N r), .quiet (N 0), .quiet (.bool true), .quiet (.bool true)] (fun w' => Mm w' [(γ7_4, cells6 d), (γ7_5, cells6 r), (γ5_6, cells6 z0), (γ3_1, modc n), (γ1_0, cells6 n), (γ1_1, cells6 a), (0, dtab)]) ?pre9 ?F9 ?hpre9 (fun γ => ?hF9) (by kernel_rfl) ?hL9 ?hS9 ?ho9 ?he9
    case hpre9 =>
      simp only [List.take_succ_cons, List.take_zero]
      exact rfl
    case hF9 =>
      simp only [fill, Kind.val, Act.put, List.setIfInBounds_toArray, List.set_cons_zero, List.set_cons_succ]
      exact rfl
    case hL9 => exact trivial
    case hS9 => exact fun w' hb => H9.out.1.below hb
    case ho9 =>
      refine AllOk.cons ?_ ?_
      · exact fun γ => ⟨rfl, fun w' _ => rfl⟩
      refine AllOk.cons ?_ ?_
      · (refine fun γ => ⟨rfl, fun w' h => ?_⟩; clear h; go_simp <;> omega)
      refine AllOk.cons ?_ ?_
      · exact fun γ => ⟨rfl, fun w' _ => rfl⟩
      refine AllOk.cons ?_ ?_
      · exact fun γ => ⟨rfl, fun w' h => ex_load6 h 1 rfl rfl rfl rfl⟩
      refine AllOk.cons ?_ ?_
      · (refine fun γ => ⟨rfl, fun w' h => ?_⟩; clear h; exact ex_zero6 rfl)
      refine AllOk.cons ?_ ?_
      · exact fun γ => ⟨rfl, fun w' _ => exec_neq6 e0 rfl rfl rfl⟩
      refine AllOk.cons ?_ ?_
      · (refine fun γ => ⟨rfl, fun w' h => ?_⟩; clear h; go_simp)
      exact trivial
    intro γ w10 l hM hl
    have M10 : Mm w10 [(γ7_4, cells6 d), (γ7_5, cells6 r), (γ5_6, cells6 z0), (γ3_1, modc n), (γ1_0, cells6 n), (γ1_1, cells6 a), (0, dtab)] := H9.out.1.grow hM (Nat.le_refl _) hl [] rfl (by decide)
    have B10 : Below w.heap.size w w10 := H9.out.2.trans (hM.below.mono H9.out.2.size)
    clear hM hl l H9
    clear γ
    have H10 : Hid (_ ∧ _) := ⟨M10, B10⟩
    clear M10 B10
    refine rest_at (l := []) rfl ?_
    refine rest_nil ?_
    refine then_normal ?_
    refine wp_cond_true rfl ?_
    refine wp_skip ?_
    refine then_normal ?_
    refine wp_seq ?_
    refine wp_block ?_
    refine wp_seq ?_
    refine walk_seq 12 [.quiet (N d), .quiet (N r), .call (.tuple #[N (d / r), N (d % r), .int .i64 0]), .quiet (.tuple #[N (d / r), N (d % r), .int .i64 0]), .quiet (N (d / r)), .quiet (N (d % r)), .quiet (.int .i64 0), .made zero6 24, .made zero6 24, .laid 7 zero6 (cells6 (d / r)), .laid 8 zero6 (cells6 (d % r)), .quiet (.int .i64 0)] (fun w' => Mm w' [(γ7_4, cells6 d), (γ7_5, cells6 r), (γ5_6, cells6 z0), (γ3_1, modc n), (γ1_0, cells6 n), (γ1_1, cells6 a), (0, dtab)]) ?pre10 ?F10 ?hpre10 (fun γ => ?hF10) (by kernel_rfl) ?hL10 ?hS10 ?ho10 ?he10
    case hpre10 =>
      simp only [List.take_succ_cons, List.take_zero]
      exact rfl
    case hF10 =>
      simp only [fill, Kind.val, Act.put, List.setIfInBounds_toArray, List.set_cons_zero, List.set_cons_succ]
      exact rfl
    case hL10 => exact ⟨⟨_, rfl⟩, ⟨_, rfl⟩, trivial⟩
    case hS10 => exact fun w' hb => H10.out.1.below hb
    case ho10 =>
      refine AllOk.cons ?_ ?_
      · exact fun γ => ⟨rfl, fun w' h => ex_load6 h 0 rfl rfl rfl rfl⟩
      refine AllOk.cons ?_ ?_
      · exact fun γ => ⟨rfl, fun w' h => ex_load6 h 1 rfl rfl rfl rfl⟩
      refine AllOk.cons ?_ ?_
      · exact fun γ => ⟨rfl, fun w' h => ⟨22, #[N d, N r], exec_call rfl call22 rfl (by simp only [List.map_toArray, List.map_cons, List.map_nil]; rfl), CV.out w'⟩⟩
      refine AllOk.cons ?_ ?_
      · exact fun γ => ⟨rfl, fun w' _ => rfl⟩
      refine AllOk.cons ?_ ?_
      · (refine fun γ => ⟨rfl, fun w' h => ?_⟩; clear h; go_simp)
      refine AllOk.cons ?_ ?_
      · (refine fun γ => ⟨rfl, fun w' h => ?_⟩; clear h; go_simp)
      refine AllOk.cons ?_ ?_
      · (refine fun γ => ⟨rfl, fun w' h => ?_⟩; clear h; go_simp)
      refine AllOk.cons ?_ ?_
      · exact fun γ => ⟨rfl, fun w' => exec_made6 rfl⟩
      refine AllOk.cons ?_ ?_
      · exact fun γ => ⟨rfl, fun w' => exec_made6 rfl⟩
      refine AllOk.cons ?_ ?_
      · exact fun γ => ⟨rfl, rfl, rfl, fun w' h => exec_laid6 h rfl rfl rfl⟩
      refine AllOk.cons ?_ ?_
      · exact fun γ => ⟨rfl, rfl, rfl, fun w' h => exec_laid6 h rfl rfl rfl⟩
      refine AllOk.cons ?_ ?_
      · exact fun γ => ⟨rfl, fun w' _ => rfl⟩
      exact trivial
    intro γ w11 l hM hl
    have M11 : Mm w11 [(γ 7, cells6 (d / r)), (γ 8, cells6 (d % r)), (γ7_4, cells6 d), (γ7_5, cells6 r), (γ5_6, cells6 z0), (γ3_1, modc n), (γ1_0, cells6 n), (γ1_1, cells6 a), (0, dtab)] := H10.out.1.grow hM (Nat.le_refl _) hl [7, 8] rfl (by decide)
    have B11 : Below w.heap.size w w11 := H10.out.2.trans (hM.below.mono H10.out.2.size)
    have o10_7 : Hid (w.heap.size ≤ γ 7) := Nat.le_trans H10.out.2.size (hM.fin (Nat.le_refl _) hl (i := 7) rfl).2.1
    have o10_8 : Hid (w.heap.size ≤ γ 8) := Nat.le_trans H10.out.2.size (hM.fin (Nat.le_refl _) hl (i := 8) rfl).2.1
    clear hM hl l H10
    generalize γ 7 = γ10_7 at M11 o10_7 ⊢
    generalize γ 8 = γ10_8 at M11 o10_8 ⊢
    clear γ
    have H11 : Hid (_ ∧ _) := ⟨M11, B11⟩
    clear M11 B11
    refine rest_at (l := []) rfl ?_
    refine rest_nil ?_
    refine then_normal ?_
    refine walk_put2 (by kernel_rfl) 2 [1] [.quiet (N r), .quiet (N (d % r))] (fun w' => Mm w' [(γ10_7, cells6 (d / r)), (γ10_8, cells6 (d % r)), (γ7_4, cells6 d), (γ7_5, cells6 r), (γ5_6, cells6 z0), (γ3_1, modc n), (γ1_0, cells6 n), (γ1_1, cells6 a), (0, dtab)]) ?pre11 ?F11 _ ?hpre11 (fun γ => ?hF11) (by kernel_rfl) rfl ?hL11 ?hS11 ?ho11 ?hla11 ?he11
    case hpre11 =>
      simp only [List.take_succ_cons, List.take_zero]
      exact rfl
    case hF11 =>
      simp only [fill, Kind.val, Act.put, List.setIfInBounds_toArray, List.set_cons_zero, List.set_cons_succ]
      exact rfl
    case hL11 => exact trivial
    case hS11 => exact fun w' hb => H11.out.1.below hb
    case ho11 =>
      refine AllOk.cons ?_ ?_
      · exact fun γ => ⟨rfl, fun w' h => ex_load6 h 3 rfl rfl rfl rfl⟩
      refine AllOk.cons ?_ ?_
      · exact fun γ => ⟨rfl, fun w' h => ex_load6 h 1 rfl rfl rfl rfl⟩
      exact trivial
    case hla11 => exact rfl
    intro γ w12 l hM hl
    have M12 : Mm w12 [(γ10_7, cells6 (d / r)), (γ10_8, cells6 (d % r)), (γ7_4, cells6 d), (γ7_5, cells6 r), (γ5_6, cells6 z0), (γ3_1, modc n), (γ1_0, cells6 n), (γ1_1, cells6 a), (0, dtab)] := H11.out.1.grow hM (Nat.le_refl _) hl [] rfl (by decide)
    have B12 : Below w.heap.size w w12 := H11.out.2.trans (hM.below.mono H11.out.2.size)
    clear hM hl l H11
    clear γ
    have H12 : Hid (_ ∧ _) := ⟨M12, B12⟩
    clear M12 B12
    have H13 : Hid (Mm (w12.setCells γ7_4 0 (cells6 r)) [(γ10_7, cells6 (d / r)), (γ10_8, cells6 (d % r)), (γ7_4, cells6 r), (γ7_5, cells6 r), (γ5_6, cells6 z0), (γ3_1, modc n), (γ1_0, cells6 n), (γ1_1, cells6 a), (0, dtab)] ∧ Below w.heap.size w (w12.setCells γ7_4 0 (cells6 r))) := ⟨H12.out.1.put 2 (off := 0) (vs := cells6 r) rfl (Nat.le_of_ble_eq_true rfl), below_setCells _ o7_4.out _ _ _ H12.out.2⟩
    refine ⟨_, ex_store6 H12.out.1 2 rfl rfl rfl rfl (Nat.le_of_ble_eq_true rfl), ⟨⟨_, _, rfl, rfl, rfl, ex_load6 H13.out.1 1 rfl rfl rfl rfl⟩, trivial⟩, ?_⟩
    clear H12
    generalize hgw : World.setCells _ _ _ _ = w13 at H13 ⊢
    clear hgw
    refine rest_at (l := [3]) rfl ?_
    refine rest_store rfl rfl rfl (ex_store6 H13.out.1 3 rfl rfl rfl rfl (Nat.le_of_ble_eq_true rfl)) ?_
    have H14 : Hid (Mm (w13.setCells γ7_5 0 (cells6 (d % r))) [(γ10_7, cells6 (d / r)), (γ10_8, cells6 (d % r)), (γ7_4, cells6 r), (γ7_5, cells6 (d % r)), (γ5_6, cells6 z0), (γ3_1, modc n), (γ1_0, cells6 n), (γ1_1, cells6 a), (0, dtab)] ∧ Below w.heap.size w (w13.setCells γ7_5 0 (cells6 (d % r)))) := ⟨H13.out.1.put 3 (off := 0) (vs := cells6 (d % r)) rfl (Nat.le_of_ble_eq_true rfl), below_setCells _ o7_5.out _ _ _ H13.out.2⟩
    clear H13
    generalize hgw : World.setCells _ _ _ _ = w14 at H14 ⊢
    clear hgw
    refine rest_nil ?_
    refine block_normal ?_
    refine then_normal ?_
    refine walk_seq 2 [.quiet (.int .i64 ((i : Nat) : Int)), .quiet (.int .i64 ((i + 1 : Nat) : Int))] (fun w' => Mm w' [(γ10_7, cells6 (d / r)), (γ10_8, cells6 (d % r)), (γ7_4, cells6 r), (γ7_5, cells6 (d % r)), (γ5_6, cells6 z0), (γ3_1, modc n), (γ1_0, cells6 n), (γ1_1, cells6 a), (0, dtab)]) ?pre12 ?F12 ?hpre12 (fun γ => ?hF12) (by kernel_rfl) ?hL12 ?hS12 ?ho12 ?he12
    case hpre12 =>
      simp only [List.take_succ_cons, List.take_zero]
      exact rfl
    case hF12 =>
      simp only [fill, Kind.val, Act.put, List.setIfInBounds_toArray, List.set_cons_zero, List.set_cons_succ]
      exact rfl
    case hL12 => exact trivial
    case hS12 => exact fun w' hb => H14.out.1.below hb
    case ho12 =>
      refine AllOk.cons ?_ ?_
      · exact fun γ => ⟨rfl, fun w' _ => rfl⟩
      refine AllOk.cons ?_ ?_
      · (refine fun γ => ⟨rfl, fun w' h => ?_⟩; clear h; go_simp; rw [IntKind.wrap_i64]; omega)
      exact trivial
    intro γ w15 l hM hl
    have M15 : Mm w15 [(γ10_7, cells6 (d / r)), (γ10_8, cells6 (d % r)), (γ7_4, cells6 r), (γ7_5, cells6 (d % r)), (γ5_6, cells6 z0), (γ3_1, modc n), (γ1_0, cells6 n), (γ1_1, cells6 a), (0, dtab)] := H14.out.1.grow hM (Nat.le_refl _) hl [] rfl (by decide)
    have B15 : Below w.heap.size w w15 := H14.out.2.trans (hM.below.mono H14.out.2.size)
    clear hM hl l H14
    clear γ
    have H15 : Hid (_ ∧ _) := ⟨M15, B15⟩
    clear M15 B15
    refine rest_at (l := [2]) rfl ?_
    refine rest_set (d := 12) rfl rfl rfl rfl ?_
    simp only [Act.put, List.setIfInBounds_toArray, List.set_cons_zero, List.set_cons_succ]
    refine rest_nil ?_
    refine then_normal ?_
    exact ⟨⟨i + 1, r, d % r⟩, ⟨(slotfn [undef, undef, undef, undef, undef, undef, undef, undef, undef, undef, undef, undef, undef, PT γ10_7 0, PT γ10_8 0, .int .i64 0, undef, undef, undef, undef, undef, undef, undef, undef, undef, undef, undef, undef, undef, undef, undef, undef, undef, undef, undef, undef, undef, undef, undef, undef, undef, undef, undef, undef, undef, undef, undef, undef, undef, undef, undef, undef, undef, undef, undef, undef, undef, undef, .int .i64 ((i : Nat) : Int), .bool true, .bool true, N r, N 0, .bool true, .bool true, .int .i64 ((i : Nat) : Int), .int .i64 ((i + 1 : Nat) : Int), .tuple #[N (d / r), N (d % r), .int .i64 0], N d, N r, .tuple #[N (d / r), N (d % r), .int .i64 0], N (d / r), N (d % r), .int .i64 0, N r, N (d % r)]), rfl, ⟨H15.out.1.tail.tail, H15.out.2⟩, HN.out⟩, (by show 600 - (i + 1) < 600 - i; omega)⟩
  obtain ⟨i, d, r⟩ := z
  have hE : EI n a i d r := hk0
  have hr : r = 0 := Classical.byContradiction hlt
  have hi6 : i < 600 := hE.lt ok
  have e0 := fun w => run_eqN r 0 (by rw [hr]; exact big_pos) big_pos w
  rw [decide_eq_true hr] at e0
  have e9 := fun w => run_eqN d k1 (by have := hE.dn; have := ok.big; omega) (by rw [HK.out]; exact small_big 1 (by decide)) w
  rw [decide_eq_false (by rw [HK.out, hE.last hr]; exact hg)] at e9
  clear hE hk0 hlt hr
  refine wp_seq ?_
  refine wp_seq ?_
  refine walk_seq 7 [.quiet (.int .i64 ((i : Nat) : Int)), .quiet (.bool true), .quiet (.bool true), .quiet (N r), .quiet (N 0), .quiet (.bool false), .quiet (.bool false)] (fun w' => Mm w' [(γ7_4, cells6 d), (γ7_5, cells6 r), (γ5_6, cells6 z0), (γ3_1, modc n), (γ1_0, cells6 n), (γ1_1, cells6 a), (0, dtab)]) ?pre13 ?F13 ?hpre13 (fun γ => ?hF13) (by kernel_rfl) ?hL13 ?hS13 ?ho13 ?he13
  case hpre13 =>
    simp only [List.take_succ_cons, List.take_zero]
    exact rfl
  case hF13 =>
    simp only [fill, Kind.val, Act.put, List.setIfInBounds_toArray, List.set_cons_zero, List.set_cons_succ]
    exact rfl
  case hL13 => exact trivial
  case hS13 => exact fun w' hb => H9.out.1.below hb
  case ho13 =>
    refine AllOk.cons ?_ ?_
    · exact fun γ => ⟨rfl, fun w' _ => rfl⟩
    refine AllOk.cons ?_ ?_
    · (refine fun γ => ⟨rfl, fun w' h => ?_⟩; clear h; go_simp <;> omega)
    refine AllOk.cons ?_ ?_
    · exact fun γ => ⟨rfl, fun w' _ => rfl⟩
    refine AllOk.cons ?_ ?_
    · exact fun γ => ⟨rfl, fun w' h => ex_load6 h 1 rfl rfl rfl rfl⟩
    refine AllOk.cons ?_ ?_
    · (refine fun γ => ⟨rfl, fun w' h => ?_⟩; clear h; exact ex_zero6 rfl)
    refine AllOk.cons ?_ ?_
    · exact fun γ => ⟨rfl, fun w' _ => exec_neq6 e0 rfl rfl rfl⟩
    refine AllOk.cons ?_ ?_
    · (refine fun γ => ⟨rfl, fun w' h => ?_⟩; clear h; go_simp)
    exact trivial
  intro γ w16 l hM hl
  have M16 : Mm w16 [(γ7_4, cells6 d), (γ7_5, cells6 r), (γ5_6, cells6 z0), (γ3_1, modc n), (γ1_0, cells6 n), (γ1_1, cells6 a), (0, dtab)] := H9.out.1.grow hM (Nat.le_refl _) hl [] rfl (by decide)
  have B16 : Below w.heap.size w w16 := H9.out.2.trans (hM.below.mono H9.out.2.size)
  clear hM hl l H9
  clear γ
  have H16 : Hid (_ ∧ _) := ⟨M16, B16⟩
  clear M16 B16
  refine rest_at (l := []) rfl ?_
  refine rest_nil ?_
  refine then_normal ?_
  refine wp_cond_false rfl ?_
  refine wp_exit ?_
  repeat refine then_exit ?_
  refine block_exit ?_
  refine then_normal ?_
  refine wp_seq ?_
  refine walk_any (by kernel_rfl) 21 [.quiet (.bool true), .quiet (.bool true), .quiet (.int .i64 6), .quiet (.bool true), .quiet (.bool true), .quiet (.bool true), .quiet (N z0), .quiet (N 0), .quiet (.bool true), .quiet (.bool true), .quiet (.bool true), .quiet (N r), .quiet (N 0), .quiet (.bool true), .quiet (.bool true), .quiet (.bool true), .quiet (N d), .call (N k1), .quiet (.bool true), .quiet (.bool true), .quiet (.bool true)] (fun w' => Mm w' [(γ7_4, cells6 d), (γ7_5, cells6 r), (γ5_6, cells6 z0), (γ3_1, modc n), (γ1_0, cells6 n), (γ1_1, cells6 a), (0, dtab)]) ?pre14 ?F14 ?hpre14 (fun γ => ?hF14) (by kernel_rfl) ?hL14 ?hS14 ?ho14 ?he14
  case hpre14 =>
    simp only [List.take_succ_cons, List.take_zero]
    exact rfl
  case hF14 =>
    simp only [fill, Kind.val, Act.put, List.setIfInBounds_toArray, List.set_cons_zero, List.set_cons_succ]
    exact rfl
  case hL14 => exact trivial
  case hS14 => exact fun w' hb => H16.out.1.below hb
  case ho14 =>
    refine AllOk.cons ?_ ?_
    · exact fun γ => ⟨rfl, fun w' _ => rfl⟩
    refine AllOk.cons ?_ ?_
    · exact fun γ => ⟨rfl, fun w' _ => rfl⟩
    refine AllOk.cons ?_ ?_
    · exact fun γ => ⟨rfl, fun w' _ => rfl⟩
    refine AllOk.cons ?_ ?_
    · (refine fun γ => ⟨rfl, fun w' h => ?_⟩; clear h; go_simp)
    refine AllOk.cons ?_ ?_
    · (refine fun γ => ⟨rfl, fun w' h => ?_⟩; clear h; go_simp)
    refine AllOk.cons ?_ ?_
    · exact fun γ => ⟨rfl, fun w' _ => rfl⟩
    refine AllOk.cons ?_ ?_
    · exact fun γ => ⟨rfl, fun w' h => ex_load6 h 2 rfl rfl rfl rfl⟩
    refine AllOk.cons ?_ ?_
    · (refine fun γ => ⟨rfl, fun w' h => ?_⟩; clear h; exact ex_zero6 rfl)
    refine AllOk.cons ?_ ?_
    · exact fun γ => ⟨rfl, fun w' _ => exec_eq6 e_z rfl rfl rfl⟩
    refine AllOk.cons ?_ ?_
    · (refine fun γ => ⟨rfl, fun w' h => ?_⟩; clear h; go_simp)
    refine AllOk.cons ?_ ?_
    · exact fun γ => ⟨rfl, fun w' _ => rfl⟩
    refine AllOk.cons ?_ ?_
    · exact fun γ => ⟨rfl, fun w' h => ex_load6 h 1 rfl rfl rfl rfl⟩
    refine AllOk.cons ?_ ?_
    · (refine fun γ => ⟨rfl, fun w' h => ?_⟩; clear h; exact ex_zero6 rfl)
    refine AllOk.cons ?_ ?_
    · exact fun γ => ⟨rfl, fun w' _ => exec_eq6 e0 rfl rfl rfl⟩
    refine AllOk.cons ?_ ?_
    · (refine fun γ => ⟨rfl, fun w' h => ?_⟩; clear h; go_simp)
    refine AllOk.cons ?_ ?_
    · exact fun γ => ⟨rfl, fun w' _ => rfl⟩
    refine AllOk.cons ?_ ?_
    · exact fun γ => ⟨rfl, fun w' h => ex_load6 h 0 rfl rfl rfl rfl⟩
    refine AllOk.cons ?_ ?_
    · exact fun γ => ⟨rfl, fun w' h => ⟨19, #[.int .u64 1], exec_call rfl call19 rfl (by simp only [List.map_toArray, List.map_cons, List.map_nil]; rfl), C4.out w'⟩⟩
    refine AllOk.cons ?_ ?_
    · exact fun γ => ⟨rfl, fun w' _ => exec_neq6 e9 rfl rfl rfl⟩
    refine AllOk.cons ?_ ?_
    · (refine fun γ => ⟨rfl, fun w' h => ?_⟩; clear h; go_simp)
    refine AllOk.cons ?_ ?_
    · exact fun γ => ⟨rfl, fun w' _ => rfl⟩
    exact trivial
  intro γ w17 l hM hl
  have M17 : Mm w17 [(γ7_4, cells6 d), (γ7_5, cells6 r), (γ5_6, cells6 z0), (γ3_1, modc n), (γ1_0, cells6 n), (γ1_1, cells6 a), (0, dtab)] := H16.out.1.grow hM (Nat.le_refl _) hl [] rfl (by decide)
  have B17 : Below w.heap.size w w17 := H16.out.2.trans (hM.below.mono H16.out.2.size)
  clear hM hl l H16
  clear γ
  have H17 : Hid (_ ∧ _) := ⟨M17, B17⟩
  clear M17 B17
  refine rest_at (l := []) rfl ?_
  refine rest_nil ?_
  refine then_normal ?_
  refine wp_ret ?_
  repeat (first | refine then_ret ?_ | refine block_ret ?_)
  refine bodyPost_ret (v := .bool true) (by simp [results, Tryd.results5, go_sem, *]) rfl ?_
  exact ⟨rfl, H17.out.2⟩
theorem inv_ex {n a : Nat} (ok : Ok n) (hg : Nat.gcd n a = 1) : ∃ x, x < n ∧ x * a % n = 1 := by
  have key : ∀ (m : Nat) (z : WS), z.o + z.r = m → WI n a z → ∃ x, x < n ∧ x * a % n = 1 := by
    intro m
    induction m using Nat.strongRecOn with
    | _ m ih =>
      intro z hz I
      obtain ⟨o, r, u, v, h, t⟩ := z
      simp only at hz
      by_cases hr : r = 0
      · subst hr
        have ho : o = 1 := by
          have h1 : Nat.gcd o 0 = Nat.gcd n a := I.gcd
          rw [Nat.gcd_zero_right] at h1
          rw [h1]; exact hg
        cases t with
        | true => exact ⟨_, Nat.mod_lt _ ok.pos, end_true ok I ho⟩
        | false => exact ⟨_, Nat.mod_lt _ ok.pos, end_false ok I ho⟩
      · have hrb : r < big := by have h1 : r ≤ n := I.rn; have := ok.big; omega
        obtain ⟨k, r1, hk, er, hr1, _⟩ := trailing_any hrb hr
        obtain ⟨p1, p2, _⟩ := I.facts hr er
        obtain ⟨i1, i2⟩ := I.next hr er hr1
        have hle : r1 ≤ r := by rw [er]; exact Nat.le_mul_of_pos_right _ (Nat.two_pow_pos k)
        by_cases hl : r1 < o
        · exact ih (r1 + (o - r1)) (by omega) _ rfl (i1 hl)
        · exact ih (o + (r1 - o)) (by omega) _ rfl (i2 hl)
  exact key _ ⟨n, a % n, 0, 1, 0, false⟩ rfl (WI.start ok)
theorem invm_spec {n a : Nat} (ok : Ok n) (hg : Nat.gcd n a = 1) : invm n a < n ∧ invm n a * a % n = 1 := by
  obtain ⟨x, hx, h1⟩ := inv_ex ok hg
  rw [invm_eq hx h1]
  exact ⟨hx, h1⟩
theorem inv_law (n a : Nat) (hn : n < big) (ha : a < big) (w : World) (hm : Mm w [(0, dtab)]) :
    Calls Tryd.prog 5 #[N n, N a] w fun e w' => e = .returned (.bool true) ∧ Below w.heap.size w w' := by
  by_cases ok : Ok n
  · by_cases hg : Nat.gcd n a = 1
    · have hex : invm n a < n ∧ invm n a * a % n = 1 := invm_spec ok hg
      have hl : 1 % n = 1 := Nat.mod_eq_of_lt (by have := ok.three; omega)
      refine invl_one n a (invm n a) 1 (eq_refl7 (small_big 1 (by decide))) awake_any (fun w => new_ok ok w) (fun g w hm => inv_ok ok ha hg w hm) (fun g w hm => ?_) (fun w => of_any 1 (by decide) w) (fun g w hm => ?_) (fun w => ?_) w hm
      · have h := mulm_any (g := g) ok (Nat.lt_trans hex.1 ok.big) ha w hm
        rw [hex.2] at h
        exact h
      · have h := reduce_any (g := g) ok (small_big 1 (by decide)) w hm
        rw [hl] at h
        exact h
      · have h := compare_any (invm n a) n (Nat.lt_trans hex.1 ok.big) hn w
        rw [cmp_lt hex.1] at h
        exact h
    · exact invl_none n a (a % n) 0 1 ok rfl rfl hg (fun w => by rw [run_eqN 0 0 big_pos big_pos, decide_eq_true rfl]) awake_any (fun w => new_ok ok w) (fun g w hm => inv_bad ok ha hg w hm) (fun g w hm => reduce_any ok ha w hm) (fun w => of_any 1 (by decide) w) w hm
  · exact invl_bad n a awake_any (fun w => new_bad hn ok w) w hm
end Rg
end Go.Proofs.YtbbocdamhkkiiaaDoor
end
