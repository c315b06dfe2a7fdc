/- The law ModulusRoots -/
import Derived.Test.YtoagmdgmbkpghaaL8
import Derived.Test.YtoagmdgmbkpghaaM27
import Derived.Test.YtoagmdgmbkpghaaD4
import Derived.Test.YtoagmdgmbkpghaaPR
namespace Go.Proofs.Ytoagmdgmbkpghaa
open Go.RowKit
namespace Rg
set_option maxHeartbeats 1000000 in
set_option maxRecDepth 100000 in
theorem rroot_1 (n a : Nat) (hr : bits BinOp.and IntKind.u64 (wd n 0) 3 = 1) (w : World) :
    Calls Try.prog 8 #[N n, N a] w fun e w' => e = .returned (.tuple #[N 0, .int .i64 2]) ∧ Below w.heap.size w w' := by
  have H0 : Hid (_ ∧ _) := ⟨Mm.nil w, Below.refl w.heap.size w⟩
  go_enter Try.func8, Try.ntmps8
  refine wp_seq ?_
  refine walk_seq 4 [.made (cells6 n) 24, .made (cells6 a) 24, .made zero6 24, .quiet (.int .i64 0)] (fun w' => Mm w' []) ?pre1 ?F1 ?hpre1 (fun γ => ?hF1) (by kernel_rfl) ?hL1 ?hS1 ?ho1 ?he1
  case hpre1 =>
    simp only [List.take_succ_cons, List.take_zero]
    exact rfl
  case hF1 =>
    simp only [fill, Kind.val, Act.put, List.setIfInBounds_toArray, List.set_cons_zero, List.set_cons_succ]
    exact rfl
  case hL1 => exact trivial
  case hS1 => exact fun w' hb => H0.out.1.below hb
  case ho1 =>
    refine AllOk.cons ?_ ?_
    · exact fun γ => ⟨rfl, fun w' => ex_box6 rfl rfl⟩
    refine AllOk.cons ?_ ?_
    · exact fun γ => ⟨rfl, fun w' => ex_box6 rfl rfl⟩
    refine AllOk.cons ?_ ?_
    · exact fun γ => ⟨rfl, fun w' => exec_made6 rfl⟩
    refine AllOk.cons ?_ ?_
    · exact fun γ => ⟨rfl, fun w' _ => rfl⟩
    exact trivial
  intro γ w1 l hM hl
  have M1 : Mm w1 [(γ 0, cells6 n), (γ 1, cells6 a), (γ 2, zero6)] := H0.out.1.grow hM (Nat.le_refl _) hl [0, 1, 2] rfl (by decide)
  have B1 : Below w.heap.size w w1 := H0.out.2.trans (hM.below.mono H0.out.2.size)
  have o1_0 : Hid (w.heap.size ≤ γ 0) := Nat.le_trans H0.out.2.size (hM.fin (Nat.le_refl _) hl (i := 0) rfl).2.1
  have o1_1 : Hid (w.heap.size ≤ γ 1) := Nat.le_trans H0.out.2.size (hM.fin (Nat.le_refl _) hl (i := 1) rfl).2.1
  have o1_2 : Hid (w.heap.size ≤ γ 2) := Nat.le_trans H0.out.2.size (hM.fin (Nat.le_refl _) hl (i := 2) rfl).2.1
  clear hM hl l
  generalize γ 0 = γ1_0 at M1 o1_0 ⊢
  generalize γ 1 = γ1_1 at M1 o1_1 ⊢
  generalize γ 2 = γ1_2 at M1 o1_2 ⊢
  clear γ
  have H1 : Hid (_ ∧ _) := ⟨M1, B1⟩
  clear M1 B1
  refine rest_at (l := []) rfl ?_
  refine rest_nil ?_
  refine then_normal ?_
  refine wp_seq ?_
  refine wp_seq ?_
  refine walk_seq 4 [.quiet (PT γ1_0 0), .quiet (.int .u64 (wd n 0)), .quiet (.int .u64 1), .quiet (.bool true)] (fun w' => Mm w' [(γ1_0, cells6 n), (γ1_1, cells6 a), (γ1_2, zero6)]) ?pre2 ?F2 ?hpre2 (fun γ => ?hF2) (by kernel_rfl) ?hL2 ?hS2 ?ho2 ?he2
  case hpre2 =>
    simp only [List.take_succ_cons, List.take_zero]
    exact rfl
  case hF2 =>
    simp only [fill, Kind.val, Act.put, List.setIfInBounds_toArray, List.set_cons_zero, List.set_cons_succ]
    exact rfl
  case hL2 => exact trivial
  case hS2 => exact fun w' hb => H1.out.1.below hb
  case ho2 =>
    refine AllOk.cons ?_ ?_
    · (refine fun γ => ⟨rfl, fun w' h => ?_⟩; clear h; go_simp)
    refine AllOk.cons ?_ ?_
    · exact fun γ => ⟨rfl, fun w' h => ex_load1 h 0 rfl rfl rfl rfl⟩
    refine AllOk.cons ?_ ?_
    · (refine fun γ => ⟨rfl, fun w' h => ?_⟩; clear h; go_simp)
    refine AllOk.cons ?_ ?_
    · (refine fun γ => ⟨rfl, fun w' h => ?_⟩; clear h; go_simp)
    exact trivial
  intro γ w2 l hM hl
  have M2 : Mm w2 [(γ1_0, cells6 n), (γ1_1, cells6 a), (γ1_2, zero6)] := H1.out.1.grow hM (Nat.le_refl _) hl [] rfl (by decide)
  have B2 : Below w.heap.size w w2 := H1.out.2.trans (hM.below.mono H1.out.2.size)
  clear hM hl l H1
  clear γ
  have H2 : Hid (_ ∧ _) := ⟨M2, B2⟩
  clear M2 B2
  refine rest_at (l := []) rfl ?_
  refine rest_nil ?_
  refine then_normal ?_
  refine wp_cond_true rfl ?_
  refine wp_seq ?_
  refine walk_seq 1 [.quiet (N 0)] (fun w' => Mm w' [(γ1_0, cells6 n), (γ1_1, cells6 a), (γ1_2, zero6)]) ?pre3 ?F3 ?hpre3 (fun γ => ?hF3) (by kernel_rfl) ?hL3 ?hS3 ?ho3 ?he3
  case hpre3 =>
    simp only [List.take_succ_cons, List.take_zero]
    exact rfl
  case hF3 =>
    simp only [fill, Kind.val, Act.put, List.setIfInBounds_toArray, List.set_cons_zero, List.set_cons_succ]
    exact rfl
  case hL3 => exact trivial
  case hS3 => exact fun w' hb => H2.out.1.below hb
  case ho3 =>
    refine AllOk.cons ?_ ?_
    · exact fun γ => ⟨rfl, fun w' _ => ex_zero6 rfl⟩
    exact trivial
  intro γ w3 l hM hl
  have M3 : Mm w3 [(γ1_0, cells6 n), (γ1_1, cells6 a), (γ1_2, zero6)] := H2.out.1.grow hM (Nat.le_refl _) hl [] rfl (by decide)
  have B3 : Below w.heap.size w w3 := H2.out.2.trans (hM.below.mono H2.out.2.size)
  clear hM hl l H2
  clear γ
  have H3 : Hid (_ ∧ _) := ⟨M3, B3⟩
  clear M3 B3
  refine rest_at (l := [1, 2]) rfl ?_
  refine rest_store rfl rfl rfl (ex_store6 H3.out.1 2 rfl rfl rfl rfl (Nat.le_of_ble_eq_true rfl)) ?_
  have H4 : Hid (Mm (w3.setCells γ1_2 0 (cells6 0)) [(γ1_0, cells6 n), (γ1_1, cells6 a), (γ1_2, cells6 0)] ∧ Below w.heap.size w (w3.setCells γ1_2 0 (cells6 0))) := ⟨H3.out.1.put 2 (off := 0) (vs := cells6 0) rfl (Nat.le_of_ble_eq_true rfl), below_setCells _ o1_2.out _ _ _ H3.out.2⟩
  clear H3
  generalize hgw : World.setCells _ _ _ _ = w4 at H4 ⊢
  clear hgw
  refine rest_set (d := 5) rfl rfl rfl rfl ?_
  simp only [Act.put, List.setIfInBounds_toArray, List.set_cons_zero, List.set_cons_succ]
  refine rest_nil ?_
  refine then_normal ?_
  refine wp_ret ?_
  repeat (first | refine then_ret ?_ | refine block_ret ?_)
  have c0 := H4.out.1.get 2 rfl 0 rfl
  have c1 := H4.out.1.get 2 rfl 1 rfl
  have c2 := H4.out.1.get 2 rfl 2 rfl
  have c3 := H4.out.1.get 2 rfl 3 rfl
  have c4 := H4.out.1.get 2 rfl 4 rfl
  have c5 := H4.out.1.get 2 rfl 5 rfl
  refine bodyPost_ret (v := .tuple #[N 0, .int .i64 2]) (by simp [results, Try.results8, go_sem, *]) rfl ?_
  exact ⟨rfl, H4.out.2⟩
set_option maxHeartbeats 1000000 in
set_option maxRecDepth 100000 in
theorem rroot_2 (n a k1 x ee c q r : Nat) (hr : bits BinOp.and IntKind.u64 (wd n 0) 3 = 3) (hk1 : k1 = 1) (cx : Bool) (e1 : ∀ w, (Op.equalIn 10000 24 (N q) (N r)).run Try.prog w = .ok false w)
    (c0 : ∀ w, Calls Try.prog 23 #[N n, N k1] w fun e w' => e = .returned (.tuple #[N x, .bool cx]) ∧ Below w.heap.size w w')
    (c1 : ∀ w, Calls Try.prog 25 #[N x, .int .i64 (-2)] w fun e w' => e = .returned (N ee) ∧ Below w.heap.size w w')
    (c2 : ∀ w, Calls Try.prog 24 #[N n, N a, N ee] w fun e w' => e = .returned (N c) ∧ Below w.heap.size w w')
    (c3 : ∀ w, Calls Try.prog 26 #[N n, N c, N c] w fun e w' => e = .returned (N q) ∧ Below w.heap.size w w')
    (c4 : ∀ w, Calls Try.prog 27 #[N n, N a] w fun e w' => e = .returned (N r) ∧ Below w.heap.size w w') (w : World) :
    Calls Try.prog 8 #[N n, N a] w fun e w' => e = .returned (.tuple #[N 0, .int .i64 6]) ∧ Below w.heap.size w w' := by
  have H0 : Hid (_ ∧ _) := ⟨Mm.nil w, Below.refl w.heap.size w⟩
  have C0 : Hid _ := c0
  have C1 : Hid _ := c1
  have C2 : Hid _ := c2
  have C3 : Hid _ := c3
  have C4 : Hid _ := c4
  clear c0 c1 c2 c3 c4
  have HK : Hid _ := hk1
  clear hk1
  go_enter Try.func8, Try.ntmps8
  refine wp_seq ?_
  refine walk_seq 4 [.made (cells6 n) 24, .made (cells6 a) 24, .made zero6 24, .quiet (.int .i64 0)] (fun w' => Mm w' []) ?pre1 ?F1 ?hpre1 (fun γ => ?hF1) (by kernel_rfl) ?hL1 ?hS1 ?ho1 ?he1
  case hpre1 =>
    simp only [List.take_succ_cons, List.take_zero]
    exact rfl
  case hF1 =>
    simp only [fill, Kind.val, Act.put, List.setIfInBounds_toArray, List.set_cons_zero, List.set_cons_succ]
    exact rfl
  case hL1 => exact trivial
  case hS1 => exact fun w' hb => H0.out.1.below hb
  case ho1 =>
    refine AllOk.cons ?_ ?_
    · exact fun γ => ⟨rfl, fun w' => ex_box6 rfl rfl⟩
    refine AllOk.cons ?_ ?_
    · exact fun γ => ⟨rfl, fun w' => ex_box6 rfl rfl⟩
    refine AllOk.cons ?_ ?_
    · exact fun γ => ⟨rfl, fun w' => exec_made6 rfl⟩
    refine AllOk.cons ?_ ?_
    · exact fun γ => ⟨rfl, fun w' _ => rfl⟩
    exact trivial
  intro γ w1 l hM hl
  have M1 : Mm w1 [(γ 0, cells6 n), (γ 1, cells6 a), (γ 2, zero6)] := H0.out.1.grow hM (Nat.le_refl _) hl [0, 1, 2] rfl (by decide)
  have B1 : Below w.heap.size w w1 := H0.out.2.trans (hM.below.mono H0.out.2.size)
  have o1_0 : Hid (w.heap.size ≤ γ 0) := Nat.le_trans H0.out.2.size (hM.fin (Nat.le_refl _) hl (i := 0) rfl).2.1
  have o1_1 : Hid (w.heap.size ≤ γ 1) := Nat.le_trans H0.out.2.size (hM.fin (Nat.le_refl _) hl (i := 1) rfl).2.1
  have o1_2 : Hid (w.heap.size ≤ γ 2) := Nat.le_trans H0.out.2.size (hM.fin (Nat.le_refl _) hl (i := 2) rfl).2.1
  clear hM hl l
  generalize γ 0 = γ1_0 at M1 o1_0 ⊢
  generalize γ 1 = γ1_1 at M1 o1_1 ⊢
  generalize γ 2 = γ1_2 at M1 o1_2 ⊢
  clear γ
  have H1 : Hid (_ ∧ _) := ⟨M1, B1⟩
  clear M1 B1
  refine rest_at (l := []) rfl ?_
  refine rest_nil ?_
  refine then_normal ?_
  refine wp_seq ?_
  refine wp_seq ?_
  refine walk_seq 4 [.quiet (PT γ1_0 0), .quiet (.int .u64 (wd n 0)), .quiet (.int .u64 3), .quiet (.bool false)] (fun w' => Mm w' [(γ1_0, cells6 n), (γ1_1, cells6 a), (γ1_2, zero6)]) ?pre2 ?F2 ?hpre2 (fun γ => ?hF2) (by kernel_rfl) ?hL2 ?hS2 ?ho2 ?he2
  case hpre2 =>
    simp only [List.take_succ_cons, List.take_zero]
    exact rfl
  case hF2 =>
    simp only [fill, Kind.val, Act.put, List.setIfInBounds_toArray, List.set_cons_zero, List.set_cons_succ]
    exact rfl
  case hL2 => exact trivial
  case hS2 => exact fun w' hb => H1.out.1.below hb
  case ho2 =>
    refine AllOk.cons ?_ ?_
    · (refine fun γ => ⟨rfl, fun w' h => ?_⟩; clear h; go_simp)
    refine AllOk.cons ?_ ?_
    · exact fun γ => ⟨rfl, fun w' h => ex_load1 h 0 rfl rfl rfl rfl⟩
    refine AllOk.cons ?_ ?_
    · (refine fun γ => ⟨rfl, fun w' h => ?_⟩; clear h; go_simp)
    refine AllOk.cons ?_ ?_
    · (refine fun γ => ⟨rfl, fun w' h => ?_⟩; clear h; go_simp)
    exact trivial
  intro γ w2 l hM hl
  have M2 : Mm w2 [(γ1_0, cells6 n), (γ1_1, cells6 a), (γ1_2, zero6)] := H1.out.1.grow hM (Nat.le_refl _) hl [] rfl (by decide)
  have B2 : Below w.heap.size w w2 := H1.out.2.trans (hM.below.mono H1.out.2.size)
  clear hM hl l H1
  clear γ
  have H2 : Hid (_ ∧ _) := ⟨M2, B2⟩
  clear M2 B2
  refine rest_at (l := []) rfl ?_
  refine rest_nil ?_
  refine then_normal ?_
  refine wp_cond_false rfl ?_
  refine wp_skip ?_
  refine then_normal ?_
  refine wp_seq ?_
  refine walk_seq 9 [.quiet (N n), .quiet (N k1), .call (.tuple #[N x, .bool cx]), .quiet (.tuple #[N x, .bool cx]), .quiet (N x), .quiet (.bool cx), .made zero6 24, .laid 6 zero6 (cells6 x), .quiet (.bool cx)] (fun w' => Mm w' [(γ1_0, cells6 n), (γ1_1, cells6 a), (γ1_2, zero6)]) ?pre3 ?F3 ?hpre3 (fun γ => ?hF3) (by kernel_rfl) ?hL3 ?hS3 ?ho3 ?he3
  case hpre3 =>
    simp only [List.take_succ_cons, List.take_zero]
    exact rfl
  case hF3 =>
    simp only [fill, Kind.val, Act.put, List.setIfInBounds_toArray, List.set_cons_zero, List.set_cons_succ]
    exact rfl
  case hL3 => exact ⟨⟨_, rfl⟩, trivial⟩
  case hS3 => exact fun w' hb => H2.out.1.below hb
  case ho3 =>
    refine AllOk.cons ?_ ?_
    · exact fun γ => ⟨rfl, fun w' h => ex_load6 h 0 rfl rfl rfl rfl⟩
    refine AllOk.cons ?_ ?_
    · exact fun γ => ⟨rfl, fun w' _ => ex_build1' HK.out rfl rfl⟩
    refine AllOk.cons ?_ ?_
    · exact fun γ => ⟨rfl, fun w' h => ⟨23, #[N n, N k1], exec_call rfl call23 rfl (by simp only [List.map_toArray, List.map_cons, List.map_nil]; rfl), C0.out w'⟩⟩
    refine AllOk.cons ?_ ?_
    · exact fun γ => ⟨rfl, fun w' _ => rfl⟩
    refine AllOk.cons ?_ ?_
    · (refine fun γ => ⟨rfl, fun w' h => ?_⟩; clear h; go_simp)
    refine AllOk.cons ?_ ?_
    · (refine fun γ => ⟨rfl, fun w' h => ?_⟩; clear h; go_simp)
    refine AllOk.cons ?_ ?_
    · exact fun γ => ⟨rfl, fun w' => exec_made6 rfl⟩
    refine AllOk.cons ?_ ?_
    · exact fun γ => ⟨rfl, rfl, rfl, fun w' h => exec_laid6 h rfl rfl rfl⟩
    refine AllOk.cons ?_ ?_
    · exact fun γ => ⟨rfl, fun w' _ => rfl⟩
    exact trivial
  intro γ w3 l hM hl
  have M3 : Mm w3 [(γ 6, cells6 x), (γ1_0, cells6 n), (γ1_1, cells6 a), (γ1_2, zero6)] := H2.out.1.grow hM (Nat.le_refl _) hl [6] rfl (by decide)
  have B3 : Below w.heap.size w w3 := H2.out.2.trans (hM.below.mono H2.out.2.size)
  have o3_6 : Hid (w.heap.size ≤ γ 6) := Nat.le_trans H2.out.2.size (hM.fin (Nat.le_refl _) hl (i := 6) rfl).2.1
  clear hM hl l H2
  generalize γ 6 = γ3_6 at M3 o3_6 ⊢
  clear γ
  have H3 : Hid (_ ∧ _) := ⟨M3, B3⟩
  clear M3 B3
  refine rest_at (l := []) rfl ?_
  refine rest_nil ?_
  refine then_normal ?_
  refine wp_seq ?_
  refine walk_any (by kernel_rfl) 7 [.quiet (N n), .quiet (N a), .quiet (N x), .call (N ee), .call (N c), .made zero6 24, .laid 5 zero6 (cells6 c)] (fun w' => Mm w' [(γ3_6, cells6 x), (γ1_0, cells6 n), (γ1_1, cells6 a), (γ1_2, zero6)]) ?pre4 ?F4 ?hpre4 (fun γ => ?hF4) (by kernel_rfl) ?hL4 ?hS4 ?ho4 ?he4
  case hpre4 =>
    simp only [List.take_succ_cons, List.take_zero]
    exact rfl
  case hF4 =>
    simp only [fill, Kind.val, Act.put, List.setIfInBounds_toArray, List.set_cons_zero, List.set_cons_succ]
    exact rfl
  case hL4 => exact ⟨⟨_, rfl⟩, trivial⟩
  case hS4 => exact fun w' hb => H3.out.1.below hb
  case ho4 =>
    refine AllOk.cons ?_ ?_
    · exact fun γ => ⟨rfl, fun w' h => ex_load6 h 1 rfl rfl rfl rfl⟩
    refine AllOk.cons ?_ ?_
    · exact fun γ => ⟨rfl, fun w' h => ex_load6 h 2 rfl rfl rfl rfl⟩
    refine AllOk.cons ?_ ?_
    · exact fun γ => ⟨rfl, fun w' h => ex_load6 h 0 rfl rfl rfl rfl⟩
    refine AllOk.cons ?_ ?_
    · exact fun γ => ⟨rfl, fun w' h => ⟨25, #[N x, .int .i64 (-2)], exec_call rfl call25 rfl (by simp only [List.map_toArray, List.map_cons, List.map_nil]; rfl), C1.out w'⟩⟩
    refine AllOk.cons ?_ ?_
    · exact fun γ => ⟨rfl, fun w' h => ⟨24, #[N n, N a, N ee], exec_call rfl call24 rfl (by simp only [List.map_toArray, List.map_cons, List.map_nil]; rfl), C2.out w'⟩⟩
    refine AllOk.cons ?_ ?_
    · exact fun γ => ⟨rfl, fun w' => exec_made6 rfl⟩
    refine AllOk.cons ?_ ?_
    · exact fun γ => ⟨rfl, rfl, rfl, fun w' h => exec_laid6 h rfl rfl rfl⟩
    exact trivial
  intro γ w4 l hM hl
  have M4 : Mm w4 [(γ 5, cells6 c), (γ3_6, cells6 x), (γ1_0, cells6 n), (γ1_1, cells6 a), (γ1_2, zero6)] := H3.out.1.grow hM (Nat.le_refl _) hl [5] rfl (by decide)
  have B4 : Below w.heap.size w w4 := H3.out.2.trans (hM.below.mono H3.out.2.size)
  have o4_5 : Hid (w.heap.size ≤ γ 5) := Nat.le_trans H3.out.2.size (hM.fin (Nat.le_refl _) hl (i := 5) rfl).2.1
  clear hM hl l H3
  generalize γ 5 = γ4_5 at M4 o4_5 ⊢
  clear γ
  have H4 : Hid (_ ∧ _) := ⟨M4, B4⟩
  clear M4 B4
  refine rest_at (l := []) rfl ?_
  refine rest_nil ?_
  refine then_normal ?_
  refine wp_seq ?_
  refine wp_seq ?_
  refine walk_any (by kernel_rfl) 8 [.quiet (N n), .quiet (N c), .quiet (N c), .call (N q), .quiet (N n), .quiet (N a), .call (N r), .quiet (.bool true)] (fun w' => Mm w' [(γ4_5, cells6 c), (γ3_6, cells6 x), (γ1_0, cells6 n), (γ1_1, cells6 a), (γ1_2, zero6)]) ?pre5 ?F5 ?hpre5 (fun γ => ?hF5) (by kernel_rfl) ?hL5 ?hS5 ?ho5 ?he5
  case hpre5 =>
    simp only [List.take_succ_cons, List.take_zero]
    exact rfl
  case hF5 =>
    simp only [fill, Kind.val, Act.put, List.setIfInBounds_toArray, List.set_cons_zero, List.set_cons_succ]
    exact rfl
  case hL5 => exact trivial
  case hS5 => exact fun w' hb => H4.out.1.below hb
  case ho5 =>
    refine AllOk.cons ?_ ?_
    · exact fun γ => ⟨rfl, fun w' h => ex_load6 h 2 rfl rfl rfl rfl⟩
    refine AllOk.cons ?_ ?_
    · exact fun γ => ⟨rfl, fun w' h => ex_load6 h 0 rfl rfl rfl rfl⟩
    refine AllOk.cons ?_ ?_
    · exact fun γ => ⟨rfl, fun w' h => ex_load6 h 0 rfl rfl rfl rfl⟩
    refine AllOk.cons ?_ ?_
    · exact fun γ => ⟨rfl, fun w' h => ⟨26, #[N n, N c, N c], exec_call rfl call26 rfl (by simp only [List.map_toArray, List.map_cons, List.map_nil]; rfl), C3.out w'⟩⟩
    refine AllOk.cons ?_ ?_
    · exact fun γ => ⟨rfl, fun w' h => ex_load6 h 2 rfl rfl rfl rfl⟩
    refine AllOk.cons ?_ ?_
    · exact fun γ => ⟨rfl, fun w' h => ex_load6 h 3 rfl rfl rfl rfl⟩
    refine AllOk.cons ?_ ?_
    · exact fun γ => ⟨rfl, fun w' h => ⟨27, #[N n, N a], exec_call rfl call27 rfl (by simp only [List.map_toArray, List.map_cons, List.map_nil]; rfl), C4.out w'⟩⟩
    refine AllOk.cons ?_ ?_
    · exact fun γ => ⟨rfl, fun w' _ => exec_neq6 e1 rfl rfl rfl⟩
    exact trivial
  intro γ w5 l hM hl
  have M5 : Mm w5 [(γ4_5, cells6 c), (γ3_6, cells6 x), (γ1_0, cells6 n), (γ1_1, cells6 a), (γ1_2, zero6)] := H4.out.1.grow hM (Nat.le_refl _) hl [] rfl (by decide)
  have B5 : Below w.heap.size w w5 := H4.out.2.trans (hM.below.mono H4.out.2.size)
  clear hM hl l H4
  clear γ
  have H5 : Hid (_ ∧ _) := ⟨M5, B5⟩
  clear M5 B5
  refine rest_at (l := []) rfl ?_
  refine rest_nil ?_
  refine then_normal ?_
  refine wp_cond_true rfl ?_
  refine wp_seq ?_
  refine walk_seq 1 [.quiet (N 0)] (fun w' => Mm w' [(γ4_5, cells6 c), (γ3_6, cells6 x), (γ1_0, cells6 n), (γ1_1, cells6 a), (γ1_2, zero6)]) ?pre6 ?F6 ?hpre6 (fun γ => ?hF6) (by kernel_rfl) ?hL6 ?hS6 ?ho6 ?he6
  case hpre6 =>
    simp only [List.take_succ_cons, List.take_zero]
    exact rfl
  case hF6 =>
    simp only [fill, Kind.val, Act.put, List.setIfInBounds_toArray, List.set_cons_zero, List.set_cons_succ]
    exact rfl
  case hL6 => exact trivial
  case hS6 => exact fun w' hb => H5.out.1.below hb
  case ho6 =>
    refine AllOk.cons ?_ ?_
    · exact fun γ => ⟨rfl, fun w' _ => ex_zero6 rfl⟩
    exact trivial
  intro γ w6 l hM hl
  have M6 : Mm w6 [(γ4_5, cells6 c), (γ3_6, cells6 x), (γ1_0, cells6 n), (γ1_1, cells6 a), (γ1_2, zero6)] := H5.out.1.grow hM (Nat.le_refl _) hl [] rfl (by decide)
  have B6 : Below w.heap.size w w6 := H5.out.2.trans (hM.below.mono H5.out.2.size)
  clear hM hl l H5
  clear γ
  have H6 : Hid (_ ∧ _) := ⟨M6, B6⟩
  clear M6 B6
  refine rest_at (l := [1, 2]) rfl ?_
  refine rest_store rfl rfl rfl (ex_store6 H6.out.1 4 rfl rfl rfl rfl (Nat.le_of_ble_eq_true rfl)) ?_
  have H7 : Hid (Mm (w6.setCells γ1_2 0 (cells6 0)) [(γ4_5, cells6 c), (γ3_6, cells6 x), (γ1_0, cells6 n), (γ1_1, cells6 a), (γ1_2, cells6 0)] ∧ Below w.heap.size w (w6.setCells γ1_2 0 (cells6 0))) := ⟨H6.out.1.put 4 (off := 0) (vs := cells6 0) rfl (Nat.le_of_ble_eq_true rfl), below_setCells _ o1_2.out _ _ _ H6.out.2⟩
  clear H6
  generalize hgw : World.setCells _ _ _ _ = w7 at H7 ⊢
  clear hgw
  refine rest_set (d := 5) rfl rfl rfl rfl ?_
  simp only [Act.put, List.setIfInBounds_toArray, List.set_cons_zero, List.set_cons_succ]
  refine rest_nil ?_
  refine then_normal ?_
  refine wp_ret ?_
  repeat (first | refine then_ret ?_ | refine block_ret ?_)
  have c0 := H7.out.1.get 4 rfl 0 rfl
  have c1 := H7.out.1.get 4 rfl 1 rfl
  have c2 := H7.out.1.get 4 rfl 2 rfl
  have c3 := H7.out.1.get 4 rfl 3 rfl
  have c4 := H7.out.1.get 4 rfl 4 rfl
  have c5 := H7.out.1.get 4 rfl 5 rfl
  refine bodyPost_ret (v := .tuple #[N 0, .int .i64 6]) (by simp [results, Try.results8, go_sem, *]) rfl ?_
  exact ⟨rfl, H7.out.2⟩
set_option maxHeartbeats 1000000 in
set_option maxRecDepth 100000 in
theorem rroot_3 (n a k1 x ee c q r d : Nat) (hr : bits BinOp.and IntKind.u64 (wd n 0) 3 = 3) (hk1 : k1 = 1) (cx : Bool) (e1 : ∀ w, (Op.equalIn 10000 24 (N q) (N r)).run Try.prog w = .ok true w) (z : Int) (hz : z < 0)
    (c0 : ∀ w, Calls Try.prog 23 #[N n, N k1] w fun e w' => e = .returned (.tuple #[N x, .bool cx]) ∧ Below w.heap.size w w')
    (c1 : ∀ w, Calls Try.prog 25 #[N x, .int .i64 (-2)] w fun e w' => e = .returned (N ee) ∧ Below w.heap.size w w')
    (c2 : ∀ w, Calls Try.prog 24 #[N n, N a, N ee] w fun e w' => e = .returned (N c) ∧ Below w.heap.size w w')
    (c3 : ∀ w, Calls Try.prog 26 #[N n, N c, N c] w fun e w' => e = .returned (N q) ∧ Below w.heap.size w w')
    (c4 : ∀ w, Calls Try.prog 27 #[N n, N a] w fun e w' => e = .returned (N r) ∧ Below w.heap.size w w')
    (c5 : ∀ w, Calls Try.prog 28 #[N n, N c] w fun e w' => e = .returned (N d) ∧ Below w.heap.size w w')
    (c6 : ∀ w, Calls Try.prog 10 #[N d, N c] w fun e w' => e = .returned (.int .i64 z) ∧ Below w.heap.size w w') (w : World) :
    Calls Try.prog 8 #[N n, N a] w fun e w' => e = .returned (.tuple #[N d, .int .i64 0]) ∧ Below w.heap.size w w' := by
  have H0 : Hid (_ ∧ _) := ⟨Mm.nil w, Below.refl w.heap.size w⟩
  have C0 : Hid _ := c0
  have C1 : Hid _ := c1
  have C2 : Hid _ := c2
  have C3 : Hid _ := c3
  have C4 : Hid _ := c4
  have C5 : Hid _ := c5
  have C6 : Hid _ := c6
  clear c0 c1 c2 c3 c4 c5 c6
  have HK : Hid _ := hk1
  clear hk1
  go_enter Try.func8, Try.ntmps8
  refine wp_seq ?_
  refine walk_seq 4 [.made (cells6 n) 24, .made (cells6 a) 24, .made zero6 24, .quiet (.int .i64 0)] (fun w' => Mm w' []) ?pre1 ?F1 ?hpre1 (fun γ => ?hF1) (by kernel_rfl) ?hL1 ?hS1 ?ho1 ?he1
  case hpre1 =>
    simp only [List.take_succ_cons, List.take_zero]
    exact rfl
  case hF1 =>
    simp only [fill, Kind.val, Act.put, List.setIfInBounds_toArray, List.set_cons_zero, List.set_cons_succ]
    exact rfl
  case hL1 => exact trivial
  case hS1 => exact fun w' hb => H0.out.1.below hb
  case ho1 =>
    refine AllOk.cons ?_ ?_
    · exact fun γ => ⟨rfl, fun w' => ex_box6 rfl rfl⟩
    refine AllOk.cons ?_ ?_
    · exact fun γ => ⟨rfl, fun w' => ex_box6 rfl rfl⟩
    refine AllOk.cons ?_ ?_
    · exact fun γ => ⟨rfl, fun w' => exec_made6 rfl⟩
    refine AllOk.cons ?_ ?_
    · exact fun γ => ⟨rfl, fun w' _ => rfl⟩
    exact trivial
  intro γ w1 l hM hl
  have M1 : Mm w1 [(γ 0, cells6 n), (γ 1, cells6 a), (γ 2, zero6)] := H0.out.1.grow hM (Nat.le_refl _) hl [0, 1, 2] rfl (by decide)
  have B1 : Below w.heap.size w w1 := H0.out.2.trans (hM.below.mono H0.out.2.size)
  have o1_0 : Hid (w.heap.size ≤ γ 0) := Nat.le_trans H0.out.2.size (hM.fin (Nat.le_refl _) hl (i := 0) rfl).2.1
  have o1_1 : Hid (w.heap.size ≤ γ 1) := Nat.le_trans H0.out.2.size (hM.fin (Nat.le_refl _) hl (i := 1) rfl).2.1
  have o1_2 : Hid (w.heap.size ≤ γ 2) := Nat.le_trans H0.out.2.size (hM.fin (Nat.le_refl _) hl (i := 2) rfl).2.1
  clear hM hl l
  generalize γ 0 = γ1_0 at M1 o1_0 ⊢
  generalize γ 1 = γ1_1 at M1 o1_1 ⊢
  generalize γ 2 = γ1_2 at M1 o1_2 ⊢
  clear γ
  have H1 : Hid (_ ∧ _) := ⟨M1, B1⟩
  clear M1 B1
  refine rest_at (l := []) rfl ?_
  refine rest_nil ?_
  refine then_normal ?_
  refine wp_seq ?_
  refine wp_seq ?_
  refine walk_seq 4 [.quiet (PT γ1_0 0), .quiet (.int .u64 (wd n 0)), .quiet (.int .u64 3), .quiet (.bool false)] (fun w' => Mm w' [(γ1_0, cells6 n), (γ1_1, cells6 a), (γ1_2, zero6)]) ?pre2 ?F2 ?hpre2 (fun γ => ?hF2) (by kernel_rfl) ?hL2 ?hS2 ?ho2 ?he2
  case hpre2 =>
    simp only [List.take_succ_cons, List.take_zero]
    exact rfl
  case hF2 =>
    simp only [fill, Kind.val, Act.put, List.setIfInBounds_toArray, List.set_cons_zero, List.set_cons_succ]
    exact rfl
  case hL2 => exact trivial
  case hS2 => exact fun w' hb => H1.out.1.below hb
  case ho2 =>
    refine AllOk.cons ?_ ?_
    · (refine fun γ => ⟨rfl, fun w' h => ?_⟩; clear h; go_simp)
    refine AllOk.cons ?_ ?_
    · exact fun γ => ⟨rfl, fun w' h => ex_load1 h 0 rfl rfl rfl rfl⟩
    refine AllOk.cons ?_ ?_
    · (refine fun γ => ⟨rfl, fun w' h => ?_⟩; clear h; go_simp)
    refine AllOk.cons ?_ ?_
    · (refine fun γ => ⟨rfl, fun w' h => ?_⟩; clear h; go_simp)
    exact trivial
  intro γ w2 l hM hl
  have M2 : Mm w2 [(γ1_0, cells6 n), (γ1_1, cells6 a), (γ1_2, zero6)] := H1.out.1.grow hM (Nat.le_refl _) hl [] rfl (by decide)
  have B2 : Below w.heap.size w w2 := H1.out.2.trans (hM.below.mono H1.out.2.size)
  clear hM hl l H1
  clear γ
  have H2 : Hid (_ ∧ _) := ⟨M2, B2⟩
  clear M2 B2
  refine rest_at (l := []) rfl ?_
  refine rest_nil ?_
  refine then_normal ?_
  refine wp_cond_false rfl ?_
  refine wp_skip ?_
  refine then_normal ?_
  refine wp_seq ?_
  refine walk_seq 9 [.quiet (N n), .quiet (N k1), .call (.tuple #[N x, .bool cx]), .quiet (.tuple #[N x, .bool cx]), .quiet (N x), .quiet (.bool cx), .made zero6 24, .laid 6 zero6 (cells6 x), .quiet (.bool cx)] (fun w' => Mm w' [(γ1_0, cells6 n), (γ1_1, cells6 a), (γ1_2, zero6)]) ?pre3 ?F3 ?hpre3 (fun γ => ?hF3) (by kernel_rfl) ?hL3 ?hS3 ?ho3 ?he3
  case hpre3 =>
    simp only [List.take_succ_cons, List.take_zero]
    exact rfl
  case hF3 =>
    simp only [fill, Kind.val, Act.put, List.setIfInBounds_toArray, List.set_cons_zero, List.set_cons_succ]
    exact rfl
  case hL3 => exact ⟨⟨_, rfl⟩, trivial⟩
  case hS3 => exact fun w' hb => H2.out.1.below hb
  case ho3 =>
    refine AllOk.cons ?_ ?_
    · exact fun γ => ⟨rfl, fun w' h => ex_load6 h 0 rfl rfl rfl rfl⟩
    refine AllOk.cons ?_ ?_
    · exact fun γ => ⟨rfl, fun w' _ => ex_build1' HK.out rfl rfl⟩
    refine AllOk.cons ?_ ?_
    · exact fun γ => ⟨rfl, fun w' h => ⟨23, #[N n, N k1], exec_call rfl call23 rfl (by simp only [List.map_toArray, List.map_cons, List.map_nil]; rfl), C0.out w'⟩⟩
    refine AllOk.cons ?_ ?_
    · exact fun γ => ⟨rfl, fun w' _ => rfl⟩
    refine AllOk.cons ?_ ?_
    · (refine fun γ => ⟨rfl, fun w' h => ?_⟩; clear h; go_simp)
    refine AllOk.cons ?_ ?_
    · (refine fun γ => ⟨rfl, fun w' h => ?_⟩; clear h; go_simp)
    refine AllOk.cons ?_ ?_
    · exact fun γ => ⟨rfl, fun w' => exec_made6 rfl⟩
    refine AllOk.cons ?_ ?_
    · exact fun γ => ⟨rfl, rfl, rfl, fun w' h => exec_laid6 h rfl rfl rfl⟩
    refine AllOk.cons ?_ ?_
    · exact fun γ => ⟨rfl, fun w' _ => rfl⟩
    exact trivial
  intro γ w3 l hM hl
  have M3 : Mm w3 [(γ 6, cells6 x), (γ1_0, cells6 n), (γ1_1, cells6 a), (γ1_2, zero6)] := H2.out.1.grow hM (Nat.le_refl _) hl [6] rfl (by decide)
  have B3 : Below w.heap.size w w3 := H2.out.2.trans (hM.below.mono H2.out.2.size)
  have o3_6 : Hid (w.heap.size ≤ γ 6) := Nat.le_trans H2.out.2.size (hM.fin (Nat.le_refl _) hl (i := 6) rfl).2.1
  clear hM hl l H2
  generalize γ 6 = γ3_6 at M3 o3_6 ⊢
  clear γ
  have H3 : Hid (_ ∧ _) := ⟨M3, B3⟩
  clear M3 B3
  refine rest_at (l := []) rfl ?_
  refine rest_nil ?_
  refine then_normal ?_
  refine wp_seq ?_
  refine walk_any (by kernel_rfl) 7 [.quiet (N n), .quiet (N a), .quiet (N x), .call (N ee), .call (N c), .made zero6 24, .laid 5 zero6 (cells6 c)] (fun w' => Mm w' [(γ3_6, cells6 x), (γ1_0, cells6 n), (γ1_1, cells6 a), (γ1_2, zero6)]) ?pre4 ?F4 ?hpre4 (fun γ => ?hF4) (by kernel_rfl) ?hL4 ?hS4 ?ho4 ?he4
  case hpre4 =>
    simp only [List.take_succ_cons, List.take_zero]
    exact rfl
  case hF4 =>
    simp only [fill, Kind.val, Act.put, List.setIfInBounds_toArray, List.set_cons_zero, List.set_cons_succ]
    exact rfl
  case hL4 => exact ⟨⟨_, rfl⟩, trivial⟩
  case hS4 => exact fun w' hb => H3.out.1.below hb
  case ho4 =>
    refine AllOk.cons ?_ ?_
    · exact fun γ => ⟨rfl, fun w' h => ex_load6 h 1 rfl rfl rfl rfl⟩
    refine AllOk.cons ?_ ?_
    · exact fun γ => ⟨rfl, fun w' h => ex_load6 h 2 rfl rfl rfl rfl⟩
    refine AllOk.cons ?_ ?_
    · exact fun γ => ⟨rfl, fun w' h => ex_load6 h 0 rfl rfl rfl rfl⟩
    refine AllOk.cons ?_ ?_
    · exact fun γ => ⟨rfl, fun w' h => ⟨25, #[N x, .int .i64 (-2)], exec_call rfl call25 rfl (by simp only [List.map_toArray, List.map_cons, List.map_nil]; rfl), C1.out w'⟩⟩
    refine AllOk.cons ?_ ?_
    · exact fun γ => ⟨rfl, fun w' h => ⟨24, #[N n, N a, N ee], exec_call rfl call24 rfl (by simp only [List.map_toArray, List.map_cons, List.map_nil]; rfl), C2.out w'⟩⟩
    refine AllOk.cons ?_ ?_
    · exact fun γ => ⟨rfl, fun w' => exec_made6 rfl⟩
    refine AllOk.cons ?_ ?_
    · exact fun γ => ⟨rfl, rfl, rfl, fun w' h => exec_laid6 h rfl rfl rfl⟩
    exact trivial
  intro γ w4 l hM hl
  have M4 : Mm w4 [(γ 5, cells6 c), (γ3_6, cells6 x), (γ1_0, cells6 n), (γ1_1, cells6 a), (γ1_2, zero6)] := H3.out.1.grow hM (Nat.le_refl _) hl [5] rfl (by decide)
  have B4 : Below w.heap.size w w4 := H3.out.2.trans (hM.below.mono H3.out.2.size)
  have o4_5 : Hid (w.heap.size ≤ γ 5) := Nat.le_trans H3.out.2.size (hM.fin (Nat.le_refl _) hl (i := 5) rfl).2.1
  clear hM hl l H3
  generalize γ 5 = γ4_5 at M4 o4_5 ⊢
  clear γ
  have H4 : Hid (_ ∧ _) := ⟨M4, B4⟩
  clear M4 B4
  refine rest_at (l := []) rfl ?_
  refine rest_nil ?_
  refine then_normal ?_
  refine wp_seq ?_
  refine wp_seq ?_
  refine walk_any (by kernel_rfl) 8 [.quiet (N n), .quiet (N c), .quiet (N c), .call (N q), .quiet (N n), .quiet (N a), .call (N r), .quiet (.bool false)] (fun w' => Mm w' [(γ4_5, cells6 c), (γ3_6, cells6 x), (γ1_0, cells6 n), (γ1_1, cells6 a), (γ1_2, zero6)]) ?pre5 ?F5 ?hpre5 (fun γ => ?hF5) (by kernel_rfl) ?hL5 ?hS5 ?ho5 ?he5
  case hpre5 =>
    simp only [List.take_succ_cons, List.take_zero]
    exact rfl
  case hF5 =>
    simp only [fill, Kind.val, Act.put, List.setIfInBounds_toArray, List.set_cons_zero, List.set_cons_succ]
    exact rfl
  case hL5 => exact trivial
  case hS5 => exact fun w' hb => H4.out.1.below hb
  case ho5 =>
    refine AllOk.cons ?_ ?_
    · exact fun γ => ⟨rfl, fun w' h => ex_load6 h 2 rfl rfl rfl rfl⟩
    refine AllOk.cons ?_ ?_
    · exact fun γ => ⟨rfl, fun w' h => ex_load6 h 0 rfl rfl rfl rfl⟩
    refine AllOk.cons ?_ ?_
    · exact fun γ => ⟨rfl, fun w' h => ex_load6 h 0 rfl rfl rfl rfl⟩
    refine AllOk.cons ?_ ?_
    · exact fun γ => ⟨rfl, fun w' h => ⟨26, #[N n, N c, N c], exec_call rfl call26 rfl (by simp only [List.map_toArray, List.map_cons, List.map_nil]; rfl), C3.out w'⟩⟩
    refine AllOk.cons ?_ ?_
    · exact fun γ => ⟨rfl, fun w' h => ex_load6 h 2 rfl rfl rfl rfl⟩
    refine AllOk.cons ?_ ?_
    · exact fun γ => ⟨rfl, fun w' h => ex_load6 h 3 rfl rfl rfl rfl⟩
    refine AllOk.cons ?_ ?_
    · exact fun γ => ⟨rfl, fun w' h => ⟨27, #[N n, N a], exec_call rfl call27 rfl (by simp only [List.map_toArray, List.map_cons, List.map_nil]; rfl), C4.out w'⟩⟩
    refine AllOk.cons ?_ ?_
    · exact fun γ => ⟨rfl, fun w' _ => exec_neq6 e1 rfl rfl rfl⟩
    exact trivial
  intro γ w5 l hM hl
  have M5 : Mm w5 [(γ4_5, cells6 c), (γ3_6, cells6 x), (γ1_0, cells6 n), (γ1_1, cells6 a), (γ1_2, zero6)] := H4.out.1.grow hM (Nat.le_refl _) hl [] rfl (by decide)
  have B5 : Below w.heap.size w w5 := H4.out.2.trans (hM.below.mono H4.out.2.size)
  clear hM hl l H4
  clear γ
  have H5 : Hid (_ ∧ _) := ⟨M5, B5⟩
  clear M5 B5
  refine rest_at (l := []) rfl ?_
  refine rest_nil ?_
  refine then_normal ?_
  refine wp_cond_false rfl ?_
  refine wp_skip ?_
  refine then_normal ?_
  refine wp_seq ?_
  refine walk_seq 5 [.quiet (N n), .quiet (N c), .call (N d), .made zero6 24, .laid 3 zero6 (cells6 d)] (fun w' => Mm w' [(γ4_5, cells6 c), (γ3_6, cells6 x), (γ1_0, cells6 n), (γ1_1, cells6 a), (γ1_2, zero6)]) ?pre6 ?F6 ?hpre6 (fun γ => ?hF6) (by kernel_rfl) ?hL6 ?hS6 ?ho6 ?he6
  case hpre6 =>
    simp only [List.take_succ_cons, List.take_zero]
    exact rfl
  case hF6 =>
    simp only [fill, Kind.val, Act.put, List.setIfInBounds_toArray, List.set_cons_zero, List.set_cons_succ]
    exact rfl
  case hL6 => exact ⟨⟨_, rfl⟩, trivial⟩
  case hS6 => exact fun w' hb => H5.out.1.below hb
  case ho6 =>
    refine AllOk.cons ?_ ?_
    · exact fun γ => ⟨rfl, fun w' h => ex_load6 h 2 rfl rfl rfl rfl⟩
    refine AllOk.cons ?_ ?_
    · exact fun γ => ⟨rfl, fun w' h => ex_load6 h 0 rfl rfl rfl rfl⟩
    refine AllOk.cons ?_ ?_
    · exact fun γ => ⟨rfl, fun w' h => ⟨28, #[N n, N c], exec_call rfl call28 rfl (by simp only [List.map_toArray, List.map_cons, List.map_nil]; rfl), C5.out w'⟩⟩
    refine AllOk.cons ?_ ?_
    · exact fun γ => ⟨rfl, fun w' => exec_made6 rfl⟩
    refine AllOk.cons ?_ ?_
    · exact fun γ => ⟨rfl, rfl, rfl, fun w' h => exec_laid6 h rfl rfl rfl⟩
    exact trivial
  intro γ w6 l hM hl
  have M6 : Mm w6 [(γ 3, cells6 d), (γ4_5, cells6 c), (γ3_6, cells6 x), (γ1_0, cells6 n), (γ1_1, cells6 a), (γ1_2, zero6)] := H5.out.1.grow hM (Nat.le_refl _) hl [3] rfl (by decide)
  have B6 : Below w.heap.size w w6 := H5.out.2.trans (hM.below.mono H5.out.2.size)
  have o6_3 : Hid (w.heap.size ≤ γ 3) := Nat.le_trans H5.out.2.size (hM.fin (Nat.le_refl _) hl (i := 3) rfl).2.1
  clear hM hl l H5
  generalize γ 3 = γ6_3 at M6 o6_3 ⊢
  clear γ
  have H6 : Hid (_ ∧ _) := ⟨M6, B6⟩
  clear M6 B6
  refine rest_at (l := []) rfl ?_
  refine rest_nil ?_
  refine then_normal ?_
  refine wp_seq ?_
  refine wp_seq ?_
  refine walk_seq 4 [.quiet (N d), .quiet (N c), .call (.int .i64 z), .quiet (.bool true)] (fun w' => Mm w' [(γ6_3, cells6 d), (γ4_5, cells6 c), (γ3_6, cells6 x), (γ1_0, cells6 n), (γ1_1, cells6 a), (γ1_2, zero6)]) ?pre7 ?F7 ?hpre7 (fun γ => ?hF7) (by kernel_rfl) ?hL7 ?hS7 ?ho7 ?he7
  case hpre7 =>
    simp only [List.take_succ_cons, List.take_zero]
    exact rfl
  case hF7 =>
    simp only [fill, Kind.val, Act.put, List.setIfInBounds_toArray, List.set_cons_zero, List.set_cons_succ]
    exact rfl
  case hL7 => exact trivial
  case hS7 => exact fun w' hb => H6.out.1.below hb
  case ho7 =>
    refine AllOk.cons ?_ ?_
    · exact fun γ => ⟨rfl, fun w' h => ex_load6 h 0 rfl rfl rfl rfl⟩
    refine AllOk.cons ?_ ?_
    · exact fun γ => ⟨rfl, fun w' h => ex_load6 h 1 rfl rfl rfl rfl⟩
    refine AllOk.cons ?_ ?_
    · exact fun γ => ⟨rfl, fun w' h => ⟨10, #[N d, N c], exec_call rfl call10 rfl (by simp only [List.map_toArray, List.map_cons, List.map_nil]; rfl), C6.out w'⟩⟩
    refine AllOk.cons ?_ ?_
    · (refine fun γ => ⟨rfl, fun w' h => ?_⟩; clear h; go_simp <;> omega)
    exact trivial
  intro γ w7 l hM hl
  have M7 : Mm w7 [(γ6_3, cells6 d), (γ4_5, cells6 c), (γ3_6, cells6 x), (γ1_0, cells6 n), (γ1_1, cells6 a), (γ1_2, zero6)] := H6.out.1.grow hM (Nat.le_refl _) hl [] rfl (by decide)
  have B7 : Below w.heap.size w w7 := H6.out.2.trans (hM.below.mono H6.out.2.size)
  clear hM hl l H6
  clear γ
  have H7 : Hid (_ ∧ _) := ⟨M7, B7⟩
  clear M7 B7
  refine rest_at (l := []) rfl ?_
  refine rest_nil ?_
  refine then_normal ?_
  refine wp_cond_true rfl ?_
  refine wp_seq ?_
  refine walk_seq 1 [.quiet (N d)] (fun w' => Mm w' [(γ6_3, cells6 d), (γ4_5, cells6 c), (γ3_6, cells6 x), (γ1_0, cells6 n), (γ1_1, cells6 a), (γ1_2, zero6)]) ?pre8 ?F8 ?hpre8 (fun γ => ?hF8) (by kernel_rfl) ?hL8 ?hS8 ?ho8 ?he8
  case hpre8 =>
    simp only [List.take_succ_cons, List.take_zero]
    exact rfl
  case hF8 =>
    simp only [fill, Kind.val, Act.put, List.setIfInBounds_toArray, List.set_cons_zero, List.set_cons_succ]
    exact rfl
  case hL8 => exact trivial
  case hS8 => exact fun w' hb => H7.out.1.below hb
  case ho8 =>
    refine AllOk.cons ?_ ?_
    · exact fun γ => ⟨rfl, fun w' h => ex_load6 h 0 rfl rfl rfl rfl⟩
    exact trivial
  intro γ w8 l hM hl
  have M8 : Mm w8 [(γ6_3, cells6 d), (γ4_5, cells6 c), (γ3_6, cells6 x), (γ1_0, cells6 n), (γ1_1, cells6 a), (γ1_2, zero6)] := H7.out.1.grow hM (Nat.le_refl _) hl [] rfl (by decide)
  have B8 : Below w.heap.size w w8 := H7.out.2.trans (hM.below.mono H7.out.2.size)
  clear hM hl l H7
  clear γ
  have H8 : Hid (_ ∧ _) := ⟨M8, B8⟩
  clear M8 B8
  refine rest_at (l := [1, 2]) rfl ?_
  refine rest_store rfl rfl rfl (ex_store6 H8.out.1 5 rfl rfl rfl rfl (Nat.le_of_ble_eq_true rfl)) ?_
  have H9 : Hid (Mm (w8.setCells γ1_2 0 (cells6 d)) [(γ6_3, cells6 d), (γ4_5, cells6 c), (γ3_6, cells6 x), (γ1_0, cells6 n), (γ1_1, cells6 a), (γ1_2, cells6 d)] ∧ Below w.heap.size w (w8.setCells γ1_2 0 (cells6 d))) := ⟨H8.out.1.put 5 (off := 0) (vs := cells6 d) rfl (Nat.le_of_ble_eq_true rfl), below_setCells _ o1_2.out _ _ _ H8.out.2⟩
  clear H8
  generalize hgw : World.setCells _ _ _ _ = w9 at H9 ⊢
  clear hgw
  refine rest_set (d := 5) rfl rfl rfl rfl ?_
  simp only [Act.put, List.setIfInBounds_toArray, List.set_cons_zero, List.set_cons_succ]
  refine rest_nil ?_
  refine then_normal ?_
  refine wp_ret ?_
  repeat (first | refine then_ret ?_ | refine block_ret ?_)
  have c0 := H9.out.1.get 5 rfl 0 rfl
  have c1 := H9.out.1.get 5 rfl 1 rfl
  have c2 := H9.out.1.get 5 rfl 2 rfl
  have c3 := H9.out.1.get 5 rfl 3 rfl
  have c4 := H9.out.1.get 5 rfl 4 rfl
  have c5 := H9.out.1.get 5 rfl 5 rfl
  refine bodyPost_ret (v := .tuple #[N d, .int .i64 0]) (by simp [results, Try.results8, go_sem, *]) rfl ?_
  exact ⟨rfl, H9.out.2⟩
set_option maxHeartbeats 1000000 in
set_option maxRecDepth 100000 in
theorem rroot_4 (n a k1 x ee c q r d : Nat) (hr : bits BinOp.and IntKind.u64 (wd n 0) 3 = 3) (hk1 : k1 = 1) (cx : Bool) (e1 : ∀ w, (Op.equalIn 10000 24 (N q) (N r)).run Try.prog w = .ok true w) (z : Int) (hz : ¬ z < 0)
    (c0 : ∀ w, Calls Try.prog 23 #[N n, N k1] w fun e w' => e = .returned (.tuple #[N x, .bool cx]) ∧ Below w.heap.size w w')
    (c1 : ∀ w, Calls Try.prog 25 #[N x, .int .i64 (-2)] w fun e w' => e = .returned (N ee) ∧ Below w.heap.size w w')
    (c2 : ∀ w, Calls Try.prog 24 #[N n, N a, N ee] w fun e w' => e = .returned (N c) ∧ Below w.heap.size w w')
    (c3 : ∀ w, Calls Try.prog 26 #[N n, N c, N c] w fun e w' => e = .returned (N q) ∧ Below w.heap.size w w')
    (c4 : ∀ w, Calls Try.prog 27 #[N n, N a] w fun e w' => e = .returned (N r) ∧ Below w.heap.size w w')
    (c5 : ∀ w, Calls Try.prog 28 #[N n, N c] w fun e w' => e = .returned (N d) ∧ Below w.heap.size w w')
    (c6 : ∀ w, Calls Try.prog 10 #[N d, N c] w fun e w' => e = .returned (.int .i64 z) ∧ Below w.heap.size w w') (w : World) :
    Calls Try.prog 8 #[N n, N a] w fun e w' => e = .returned (.tuple #[N c, .int .i64 0]) ∧ Below w.heap.size w w' := by
  have H0 : Hid (_ ∧ _) := ⟨Mm.nil w, Below.refl w.heap.size w⟩
  have C0 : Hid _ := c0
  have C1 : Hid _ := c1
  have C2 : Hid _ := c2
  have C3 : Hid _ := c3
  have C4 : Hid _ := c4
  have C5 : Hid _ := c5
  have C6 : Hid _ := c6
  clear c0 c1 c2 c3 c4 c5 c6
  have HK : Hid _ := hk1
  clear hk1
  go_enter Try.func8, Try.ntmps8
  refine wp_seq ?_
  refine walk_seq 4 [.made (cells6 n) 24, .made (cells6 a) 24, .made zero6 24, .quiet (.int .i64 0)] (fun w' => Mm w' []) ?pre1 ?F1 ?hpre1 (fun γ => ?hF1) (by kernel_rfl) ?hL1 ?hS1 ?ho1 ?he1
  case hpre1 =>
    simp only [List.take_succ_cons, List.take_zero]
    exact rfl
  case hF1 =>
    simp only [fill, Kind.val, Act.put, List.setIfInBounds_toArray, List.set_cons_zero, List.set_cons_succ]
    exact rfl
  case hL1 => exact trivial
  case hS1 => exact fun w' hb => H0.out.1.below hb
  case ho1 =>
    refine AllOk.cons ?_ ?_
    · exact fun γ => ⟨rfl, fun w' => ex_box6 rfl rfl⟩
    refine AllOk.cons ?_ ?_
    · exact fun γ => ⟨rfl, fun w' => ex_box6 rfl rfl⟩
    refine AllOk.cons ?_ ?_
    · exact fun γ => ⟨rfl, fun w' => exec_made6 rfl⟩
    refine AllOk.cons ?_ ?_
    · exact fun γ => ⟨rfl, fun w' _ => rfl⟩
    exact trivial
  intro γ w1 l hM hl
  have M1 : Mm w1 [(γ 0, cells6 n), (γ 1, cells6 a), (γ 2, zero6)] := H0.out.1.grow hM (Nat.le_refl _) hl [0, 1, 2] rfl (by decide)
  have B1 : Below w.heap.size w w1 := H0.out.2.trans (hM.below.mono H0.out.2.size)
  have o1_0 : Hid (w.heap.size ≤ γ 0) := Nat.le_trans H0.out.2.size (hM.fin (Nat.le_refl _) hl (i := 0) rfl).2.1
  have o1_1 : Hid (w.heap.size ≤ γ 1) := Nat.le_trans H0.out.2.size (hM.fin (Nat.le_refl _) hl (i := 1) rfl).2.1
  have o1_2 : Hid (w.heap.size ≤ γ 2) := Nat.le_trans H0.out.2.size (hM.fin (Nat.le_refl _) hl (i := 2) rfl).2.1
  clear hM hl l
  generalize γ 0 = γ1_0 at M1 o1_0 ⊢
  generalize γ 1 = γ1_1 at M1 o1_1 ⊢
  generalize γ 2 = γ1_2 at M1 o1_2 ⊢
  clear γ
  have H1 : Hid (_ ∧ _) := ⟨M1, B1⟩
  clear M1 B1
  refine rest_at (l := []) rfl ?_
  refine rest_nil ?_
  refine then_normal ?_
  refine wp_seq ?_
  refine wp_seq ?_
  refine walk_seq 4 [.quiet (PT γ1_0 0), .quiet (.int .u64 (wd n 0)), .quiet (.int .u64 3), .quiet (.bool false)] (fun w' => Mm w' [(γ1_0, cells6 n), (γ1_1, cells6 a), (γ1_2, zero6)]) ?pre2 ?F2 ?hpre2 (fun γ => ?hF2) (by kernel_rfl) ?hL2 ?hS2 ?ho2 ?he2
  case hpre2 =>
    simp only [List.take_succ_cons, List.take_zero]
    exact rfl
  case hF2 =>
    simp only [fill, Kind.val, Act.put, List.setIfInBounds_toArray, List.set_cons_zero, List.set_cons_succ]
    exact rfl
  case hL2 => exact trivial
  case hS2 => exact fun w' hb => H1.out.1.below hb
  case ho2 =>
    refine AllOk.cons ?_ ?_
    · (refine fun γ => ⟨rfl, fun w' h => ?_⟩; clear h; go_simp)
    refine AllOk.cons ?_ ?_
    · exact fun γ => ⟨rfl, fun w' h => ex_load1 h 0 rfl rfl rfl rfl⟩
    refine AllOk.cons ?_ ?_
    · (refine fun γ => ⟨rfl, fun w' h => ?_⟩; clear h; go_simp)
    refine AllOk.cons ?_ ?_
    · (refine fun γ => ⟨rfl, fun w' h => ?_⟩; clear h; go_simp)
    exact trivial
  intro γ w2 l hM hl
  have M2 : Mm w2 [(γ1_0, cells6 n), (γ1_1, cells6 a), (γ1_2, zero6)] := H1.out.1.grow hM (Nat.le_refl _) hl [] rfl (by decide)
  have B2 : Below w.heap.size w w2 := H1.out.2.trans (hM.below.mono H1.out.2.size)
  clear hM hl l H1
  clear γ
  have H2 : Hid (_ ∧ _) := ⟨M2, B2⟩
  clear M2 B2
  refine rest_at (l := []) rfl ?_
  refine rest_nil ?_
  refine then_normal ?_
  refine wp_cond_false rfl ?_
  refine wp_skip ?_
  refine then_normal ?_
  refine wp_seq ?_
  refine walk_seq 9 [.quiet (N n), .quiet (N k1), .call (.tuple #[N x, .bool cx]), .quiet (.tuple #[N x, .bool cx]), .quiet (N x), .quiet (.bool cx), .made zero6 24, .laid 6 zero6 (cells6 x), .quiet (.bool cx)] (fun w' => Mm w' [(γ1_0, cells6 n), (γ1_1, cells6 a), (γ1_2, zero6)]) ?pre3 ?F3 ?hpre3 (fun γ => ?hF3) (by kernel_rfl) ?hL3 ?hS3 ?ho3 ?he3
  case hpre3 =>
    simp only [List.take_succ_cons, List.take_zero]
    exact rfl
  case hF3 =>
    simp only [fill, Kind.val, Act.put, List.setIfInBounds_toArray, List.set_cons_zero, List.set_cons_succ]
    exact rfl
  case hL3 => exact ⟨⟨_, rfl⟩, trivial⟩
  case hS3 => exact fun w' hb => H2.out.1.below hb
  case ho3 =>
    refine AllOk.cons ?_ ?_
    · exact fun γ => ⟨rfl, fun w' h => ex_load6 h 0 rfl rfl rfl rfl⟩
    refine AllOk.cons ?_ ?_
    · exact fun γ => ⟨rfl, fun w' _ => ex_build1' HK.out rfl rfl⟩
    refine AllOk.cons ?_ ?_
    · exact fun γ => ⟨rfl, fun w' h => ⟨23, #[N n, N k1], exec_call rfl call23 rfl (by simp only [List.map_toArray, List.map_cons, List.map_nil]; rfl), C0.out w'⟩⟩
    refine AllOk.cons ?_ ?_
    · exact fun γ => ⟨rfl, fun w' _ => rfl⟩
    refine AllOk.cons ?_ ?_
    · (refine fun γ => ⟨rfl, fun w' h => ?_⟩; clear h; go_simp)
    refine AllOk.cons ?_ ?_
    · (refine fun γ => ⟨rfl, fun w' h => ?_⟩; clear h; go_simp)
    refine AllOk.cons ?_ ?_
    · exact fun γ => ⟨rfl, fun w' => exec_made6 rfl⟩
    refine AllOk.cons ?_ ?_
    · exact fun γ => ⟨rfl, rfl, rfl, fun w' h => exec_laid6 h rfl rfl rfl⟩
    refine AllOk.cons ?_ ?_
    · exact fun γ => ⟨rfl, fun w' _ => rfl⟩
    exact trivial
  intro γ w3 l hM hl
  have M3 : Mm w3 [(γ 6, cells6 x), (γ1_0, cells6 n), (γ1_1, cells6 a), (γ1_2, zero6)] := H2.out.1.grow hM (Nat.le_refl _) hl [6] rfl (by decide)
  have B3 : Below w.heap.size w w3 := H2.out.2.trans (hM.below.mono H2.out.2.size)
  have o3_6 : Hid (w.heap.size ≤ γ 6) := Nat.le_trans H2.out.2.size (hM.fin (Nat.le_refl _) hl (i := 6) rfl).2.1
  clear hM hl l H2
  generalize γ 6 = γ3_6 at M3 o3_6 ⊢
  clear γ
  have H3 : Hid (_ ∧ _) := ⟨M3, B3⟩
  clear M3 B3
  refine rest_at (l := []) rfl ?_
  refine rest_nil ?_
  refine then_normal ?_
  refine wp_seq ?_
  refine walk_any (by kernel_rfl) 7 [.quiet (N n), .quiet (N a), .quiet (N x), .call (N ee), .call (N c), .made zero6 24, .laid 5 zero6 (cells6 c)] (fun w' => Mm w' [(γ3_6, cells6 x), (γ1_0, cells6 n), (γ1_1, cells6 a), (γ1_2, zero6)]) ?pre4 ?F4 ?hpre4 (fun γ => ?hF4) (by kernel_rfl) ?hL4 ?hS4 ?ho4 ?he4
  case hpre4 =>
    simp only [List.take_succ_cons, List.take_zero]
    exact rfl
  case hF4 =>
    simp only [fill, Kind.val, Act.put, List.setIfInBounds_toArray, List.set_cons_zero, List.set_cons_succ]
    exact rfl
  case hL4 => exact ⟨⟨_, rfl⟩, trivial⟩
  case hS4 => exact fun w' hb => H3.out.1.below hb
  case ho4 =>
    refine AllOk.cons ?_ ?_
    · exact fun γ => ⟨rfl, fun w' h => ex_load6 h 1 rfl rfl rfl rfl⟩
    refine AllOk.cons ?_ ?_
    · exact fun γ => ⟨rfl, fun w' h => ex_load6 h 2 rfl rfl rfl rfl⟩
    refine AllOk.cons ?_ ?_
    · exact fun γ => ⟨rfl, fun w' h => ex_load6 h 0 rfl rfl rfl rfl⟩
    refine AllOk.cons ?_ ?_
    · exact fun γ => ⟨rfl, fun w' h => ⟨25, #[N x, .int .i64 (-2)], exec_call rfl call25 rfl (by simp only [List.map_toArray, List.map_cons, List.map_nil]; rfl), C1.out w'⟩⟩
    refine AllOk.cons ?_ ?_
    · exact fun γ => ⟨rfl, fun w' h => ⟨24, #[N n, N a, N ee], exec_call rfl call24 rfl (by simp only [List.map_toArray, List.map_cons, List.map_nil]; rfl), C2.out w'⟩⟩
    refine AllOk.cons ?_ ?_
    · exact fun γ => ⟨rfl, fun w' => exec_made6 rfl⟩
    refine AllOk.cons ?_ ?_
    · exact fun γ => ⟨rfl, rfl, rfl, fun w' h => exec_laid6 h rfl rfl rfl⟩
    exact trivial
  intro γ w4 l hM hl
  have M4 : Mm w4 [(γ 5, cells6 c), (γ3_6, cells6 x), (γ1_0, cells6 n), (γ1_1, cells6 a), (γ1_2, zero6)] := H3.out.1.grow hM (Nat.le_refl _) hl [5] rfl (by decide)
  have B4 : Below w.heap.size w w4 := H3.out.2.trans (hM.below.mono H3.out.2.size)
  have o4_5 : Hid (w.heap.size ≤ γ 5) := Nat.le_trans H3.out.2.size (hM.fin (Nat.le_refl _) hl (i := 5) rfl).2.1
  clear hM hl l H3
  generalize γ 5 = γ4_5 at M4 o4_5 ⊢
  clear γ
  have H4 : Hid (_ ∧ _) := ⟨M4, B4⟩
  clear M4 B4
  refine rest_at (l := []) rfl ?_
  refine rest_nil ?_
  refine then_normal ?_
  refine wp_seq ?_
  refine wp_seq ?_
  refine walk_any (by kernel_rfl) 8 [.quiet (N n), .quiet (N c), .quiet (N c), .call (N q), .quiet (N n), .quiet (N a), .call (N r), .quiet (.bool false)] (fun w' => Mm w' [(γ4_5, cells6 c), (γ3_6, cells6 x), (γ1_0, cells6 n), (γ1_1, cells6 a), (γ1_2, zero6)]) ?pre5 ?F5 ?hpre5 (fun γ => ?hF5) (by kernel_rfl) ?hL5 ?hS5 ?ho5 ?he5
  case hpre5 =>
    simp only [List.take_succ_cons, List.take_zero]
    exact rfl
  case hF5 =>
    simp only [fill, Kind.val, Act.put, List.setIfInBounds_toArray, List.set_cons_zero, List.set_cons_succ]
    exact rfl
  case hL5 => exact trivial
  case hS5 => exact fun w' hb => H4.out.1.below hb
  case ho5 =>
    refine AllOk.cons ?_ ?_
    · exact fun γ => ⟨rfl, fun w' h => ex_load6 h 2 rfl rfl rfl rfl⟩
    refine AllOk.cons ?_ ?_
    · exact fun γ => ⟨rfl, fun w' h => ex_load6 h 0 rfl rfl rfl rfl⟩
    refine AllOk.cons ?_ ?_
    · exact fun γ => ⟨rfl, fun w' h => ex_load6 h 0 rfl rfl rfl rfl⟩
    refine AllOk.cons ?_ ?_
    · exact fun γ => ⟨rfl, fun w' h => ⟨26, #[N n, N c, N c], exec_call rfl call26 rfl (by simp only [List.map_toArray, List.map_cons, List.map_nil]; rfl), C3.out w'⟩⟩
    refine AllOk.cons ?_ ?_
    · exact fun γ => ⟨rfl, fun w' h => ex_load6 h 2 rfl rfl rfl rfl⟩
    refine AllOk.cons ?_ ?_
    · exact fun γ => ⟨rfl, fun w' h => ex_load6 h 3 rfl rfl rfl rfl⟩
    refine AllOk.cons ?_ ?_
    · exact fun γ => ⟨rfl, fun w' h => ⟨27, #[N n, N a], exec_call rfl call27 rfl (by simp only [List.map_toArray, List.map_cons, List.map_nil]; rfl), C4.out w'⟩⟩
    refine AllOk.cons ?_ ?_
    · exact fun γ => ⟨rfl, fun w' _ => exec_neq6 e1 rfl rfl rfl⟩
    exact trivial
  intro γ w5 l hM hl
  have M5 : Mm w5 [(γ4_5, cells6 c), (γ3_6, cells6 x), (γ1_0, cells6 n), (γ1_1, cells6 a), (γ1_2, zero6)] := H4.out.1.grow hM (Nat.le_refl _) hl [] rfl (by decide)
  have B5 : Below w.heap.size w w5 := H4.out.2.trans (hM.below.mono H4.out.2.size)
  clear hM hl l H4
  clear γ
  have H5 : Hid (_ ∧ _) := ⟨M5, B5⟩
  clear M5 B5
  refine rest_at (l := []) rfl ?_
  refine rest_nil ?_
  refine then_normal ?_
  refine wp_cond_false rfl ?_
  refine wp_skip ?_
  refine then_normal ?_
  refine wp_seq ?_
  refine walk_seq 5 [.quiet (N n), .quiet (N c), .call (N d), .made zero6 24, .laid 3 zero6 (cells6 d)] (fun w' => Mm w' [(γ4_5, cells6 c), (γ3_6, cells6 x), (γ1_0, cells6 n), (γ1_1, cells6 a), (γ1_2, zero6)]) ?pre6 ?F6 ?hpre6 (fun γ => ?hF6) (by kernel_rfl) ?hL6 ?hS6 ?ho6 ?he6
  case hpre6 =>
    simp only [List.take_succ_cons, List.take_zero]
    exact rfl
  case hF6 =>
    simp only [fill, Kind.val, Act.put, List.setIfInBounds_toArray, List.set_cons_zero, List.set_cons_succ]
    exact rfl
  case hL6 => exact ⟨⟨_, rfl⟩, trivial⟩
  case hS6 => exact fun w' hb => H5.out.1.below hb
  case ho6 =>
    refine AllOk.cons ?_ ?_
    · exact fun γ => ⟨rfl, fun w' h => ex_load6 h 2 rfl rfl rfl rfl⟩
    refine AllOk.cons ?_ ?_
    · exact fun γ => ⟨rfl, fun w' h => ex_load6 h 0 rfl rfl rfl rfl⟩
    refine AllOk.cons ?_ ?_
    · exact fun γ => ⟨rfl, fun w' h => ⟨28, #[N n, N c], exec_call rfl call28 rfl (by simp only [List.map_toArray, List.map_cons, List.map_nil]; rfl), C5.out w'⟩⟩
    refine AllOk.cons ?_ ?_
    · exact fun γ => ⟨rfl, fun w' => exec_made6 rfl⟩
    refine AllOk.cons ?_ ?_
    · exact fun γ => ⟨rfl, rfl, rfl, fun w' h => exec_laid6 h rfl rfl rfl⟩
    exact trivial
  intro γ w6 l hM hl
  have M6 : Mm w6 [(γ 3, cells6 d), (γ4_5, cells6 c), (γ3_6, cells6 x), (γ1_0, cells6 n), (γ1_1, cells6 a), (γ1_2, zero6)] := H5.out.1.grow hM (Nat.le_refl _) hl [3] rfl (by decide)
  have B6 : Below w.heap.size w w6 := H5.out.2.trans (hM.below.mono H5.out.2.size)
  have o6_3 : Hid (w.heap.size ≤ γ 3) := Nat.le_trans H5.out.2.size (hM.fin (Nat.le_refl _) hl (i := 3) rfl).2.1
  clear hM hl l H5
  generalize γ 3 = γ6_3 at M6 o6_3 ⊢
  clear γ
  have H6 : Hid (_ ∧ _) := ⟨M6, B6⟩
  clear M6 B6
  refine rest_at (l := []) rfl ?_
  refine rest_nil ?_
  refine then_normal ?_
  refine wp_seq ?_
  refine wp_seq ?_
  refine walk_seq 4 [.quiet (N d), .quiet (N c), .call (.int .i64 z), .quiet (.bool false)] (fun w' => Mm w' [(γ6_3, cells6 d), (γ4_5, cells6 c), (γ3_6, cells6 x), (γ1_0, cells6 n), (γ1_1, cells6 a), (γ1_2, zero6)]) ?pre7 ?F7 ?hpre7 (fun γ => ?hF7) (by kernel_rfl) ?hL7 ?hS7 ?ho7 ?he7
  case hpre7 =>
    simp only [List.take_succ_cons, List.take_zero]
    exact rfl
  case hF7 =>
    simp only [fill, Kind.val, Act.put, List.setIfInBounds_toArray, List.set_cons_zero, List.set_cons_succ]
    exact rfl
  case hL7 => exact trivial
  case hS7 => exact fun w' hb => H6.out.1.below hb
  case ho7 =>
    refine AllOk.cons ?_ ?_
    · exact fun γ => ⟨rfl, fun w' h => ex_load6 h 0 rfl rfl rfl rfl⟩
    refine AllOk.cons ?_ ?_
    · exact fun γ => ⟨rfl, fun w' h => ex_load6 h 1 rfl rfl rfl rfl⟩
    refine AllOk.cons ?_ ?_
    · exact fun γ => ⟨rfl, fun w' h => ⟨10, #[N d, N c], exec_call rfl call10 rfl (by simp only [List.map_toArray, List.map_cons, List.map_nil]; rfl), C6.out w'⟩⟩
    refine AllOk.cons ?_ ?_
    · (refine fun γ => ⟨rfl, fun w' h => ?_⟩; clear h; go_simp <;> omega)
    exact trivial
  intro γ w7 l hM hl
  have M7 : Mm w7 [(γ6_3, cells6 d), (γ4_5, cells6 c), (γ3_6, cells6 x), (γ1_0, cells6 n), (γ1_1, cells6 a), (γ1_2, zero6)] := H6.out.1.grow hM (Nat.le_refl _) hl [] rfl (by decide)
  have B7 : Below w.heap.size w w7 := H6.out.2.trans (hM.below.mono H6.out.2.size)
  clear hM hl l H6
  clear γ
  have H7 : Hid (_ ∧ _) := ⟨M7, B7⟩
  clear M7 B7
  refine rest_at (l := []) rfl ?_
  refine rest_nil ?_
  refine then_normal ?_
  refine wp_cond_false rfl ?_
  refine wp_skip ?_
  refine then_normal ?_
  refine wp_seq ?_
  refine walk_seq 1 [.quiet (N c)] (fun w' => Mm w' [(γ6_3, cells6 d), (γ4_5, cells6 c), (γ3_6, cells6 x), (γ1_0, cells6 n), (γ1_1, cells6 a), (γ1_2, zero6)]) ?pre8 ?F8 ?hpre8 (fun γ => ?hF8) (by kernel_rfl) ?hL8 ?hS8 ?ho8 ?he8
  case hpre8 =>
    simp only [List.take_succ_cons, List.take_zero]
    exact rfl
  case hF8 =>
    simp only [fill, Kind.val, Act.put, List.setIfInBounds_toArray, List.set_cons_zero, List.set_cons_succ]
    exact rfl
  case hL8 => exact trivial
  case hS8 => exact fun w' hb => H7.out.1.below hb
  case ho8 =>
    refine AllOk.cons ?_ ?_
    · exact fun γ => ⟨rfl, fun w' h => ex_load6 h 1 rfl rfl rfl rfl⟩
    exact trivial
  intro γ w8 l hM hl
  have M8 : Mm w8 [(γ6_3, cells6 d), (γ4_5, cells6 c), (γ3_6, cells6 x), (γ1_0, cells6 n), (γ1_1, cells6 a), (γ1_2, zero6)] := H7.out.1.grow hM (Nat.le_refl _) hl [] rfl (by decide)
  have B8 : Below w.heap.size w w8 := H7.out.2.trans (hM.below.mono H7.out.2.size)
  clear hM hl l H7
  clear γ
  have H8 : Hid (_ ∧ _) := ⟨M8, B8⟩
  clear M8 B8
  refine rest_at (l := [1, 2]) rfl ?_
  refine rest_store rfl rfl rfl (ex_store6 H8.out.1 5 rfl rfl rfl rfl (Nat.le_of_ble_eq_true rfl)) ?_
  have H9 : Hid (Mm (w8.setCells γ1_2 0 (cells6 c)) [(γ6_3, cells6 d), (γ4_5, cells6 c), (γ3_6, cells6 x), (γ1_0, cells6 n), (γ1_1, cells6 a), (γ1_2, cells6 c)] ∧ Below w.heap.size w (w8.setCells γ1_2 0 (cells6 c))) := ⟨H8.out.1.put 5 (off := 0) (vs := cells6 c) rfl (Nat.le_of_ble_eq_true rfl), below_setCells _ o1_2.out _ _ _ H8.out.2⟩
  clear H8
  generalize hgw : World.setCells _ _ _ _ = w9 at H9 ⊢
  clear hgw
  refine rest_set (d := 5) rfl rfl rfl rfl ?_
  simp only [Act.put, List.setIfInBounds_toArray, List.set_cons_zero, List.set_cons_succ]
  refine rest_nil ?_
  refine then_normal ?_
  refine wp_ret ?_
  repeat (first | refine then_ret ?_ | refine block_ret ?_)
  have c0 := H9.out.1.get 5 rfl 0 rfl
  have c1 := H9.out.1.get 5 rfl 1 rfl
  have c2 := H9.out.1.get 5 rfl 2 rfl
  have c3 := H9.out.1.get 5 rfl 3 rfl
  have c4 := H9.out.1.get 5 rfl 4 rfl
  have c5 := H9.out.1.get 5 rfl 5 rfl
  refine bodyPost_ret (v := .tuple #[N c, .int .i64 0]) (by simp [results, Try.results8, go_sem, *]) rfl ?_
  exact ⟨rfl, H9.out.2⟩

theorem low_two (n : Nat) : bits BinOp.and IntKind.u64 (wd n 0) 3 = ((n % 4 : Nat) : Int) := by
  have h0 : wd n 0 = ((n % 18446744073709551616 : Nat) : Int) := by unfold wd; rw [Nat.mul_zero, Nat.pow_zero, Nat.div_one]
  rw [h0]
  have h := bits_and_u64_nat (n % 18446744073709551616) 3 (Nat.mod_lt _ (by decide)) (by decide)
  rw [show (3 : Int) = ((3 : Nat) : Int) from rfl, h]
  have e : (n % 18446744073709551616) &&& 3 = n % 18446744073709551616 % 4 := Nat.and_two_pow_sub_one_eq_mod _ 2
  rw [e]; omega
theorem rroot_any {n : Nat} (ok : Ok n) {a : Nat} (ha : a < big) (w : World) : Calls Try.prog 8 #[N n, N a] w fun e w' => e = .returned (.tuple #[N (rtv n a), .int .i64 (rte n a)]) ∧ Below w.heap.size w w' := by
  have hw := low_two n
  unfold rtv rte
  by_cases h : n % 4 = 1
  · rw [if_pos h, if_pos h]
    rw [h] at hw
    exact rroot_1 n a hw w
  · rw [if_neg h, if_neg h]
    rw [show n % 4 = 3 by have := ok.odd; omega] at hw
    have ht := ok.top
    have ht3 := ok.three
    have ca := fun w => add_ref n 1 ok.big (small_big 1 (by decide)) w
    rw [Nat.mod_eq_of_lt (show n + 1 < big by omega)] at ca
    have cs := fun w => shift_ref (n + 1) (-2) (by omega) w
    have e4 : shv (n + 1) (-2) = (n + 1) / 4 := by
      unfold shv
      rw [if_neg (by omega), if_pos (by omega)]; rfl
    rw [e4] at cs
    have he : (n + 1) / 4 < big := by omega
    have cp := fun w => rpow_any ok ha he w
    have hc : rtc n a < n := Nat.mod_lt _ ok.pos
    have hcb : rtc n a < big := Nat.lt_trans hc ok.big
    have e5 : a ^ ((n + 1) / 4) % n = rtc n a := rfl
    rw [e5] at cp
    have cq := fun w => rmul_any ok hcb hcb w
    have cr := fun w => rreduce_any ok ha w
    have cn := fun w => rneg_any ok hcb w
    have e1 := fun w => run_eqN (rtc n a * rtc n a % n) (a % n) (okLt ok _) (okLt ok _) w
    by_cases h2 : rtc n a * rtc n a % n = a % n
    · rw [if_pos h2, if_pos h2]
      rw [decide_eq_true h2] at e1
      have cc := fun w => compare_ref (subm n 0 (rtc n a)) (rtc n a) (Nat.lt_trans (subm_lt_n ok.pos _ _) ok.big) hcb w
      by_cases h3 : subm n 0 (rtc n a) < rtc n a
      · rw [if_pos h3]
        rw [cmp_lt h3] at cc
        exact rroot_3 n a 1 _ _ _ _ _ _ hw rfl _ e1 _ (by decide) ca cs cp cq cr cn cc w
      · rw [if_neg h3]
        exact rroot_4 n a 1 _ _ _ _ _ _ hw rfl _ e1 _ (cmp_ge h3) ca cs cp cq cr cn cc w
    · rw [if_neg h2, if_neg h2]
      rw [decide_eq_false h2] at e1
      exact rroot_2 n a 1 _ _ _ _ _ hw rfl _ e1 ca cs cp cq cr w
set_option maxHeartbeats 4000000 in
set_option maxRecDepth 100000 in
theorem roots_1 (n a : Nat) (L : Int) (hL : 130 < L)
    (c0 : ∀ w, Calls Try.prog 4 #[N n] w fun e w' => e = .returned (.int .i64 L) ∧ Below w.heap.size w w') (w : World) :
    Calls Try.prog 3 #[N n, N a] w fun e w' => e = .returned (.bool true) ∧ Below w.heap.size w w' := by
  have H0 : Hid (_ ∧ _) := ⟨Mm.nil w, Below.refl w.heap.size w⟩
  have C0 : Hid _ := c0
  clear c0
  go_enter Try.func3, Try.ntmps3
  refine wp_seq ?_
  refine walk_seq 3 [.made (cells6 n) 24, .made (cells6 a) 24, .quiet (.bool false)] (fun w' => Mm w' []) ?pre1 ?F1 ?hpre1 (fun γ => ?hF1) (by kernel_rfl) ?hL1 ?hS1 ?ho1 ?he1
  case hpre1 =>
    simp only [List.take_succ_cons, List.take_zero]
    exact rfl
  case hF1 =>
    simp only [fill, Kind.val, Act.put, List.setIfInBounds_toArray, List.set_cons_zero, List.set_cons_succ]
    exact rfl
  case hL1 => exact trivial
  case hS1 => exact fun w' hb => H0.out.1.below hb
  case ho1 =>
    refine AllOk.cons ?_ ?_
    · exact fun γ => ⟨rfl, fun w' => ex_box6 rfl rfl⟩
    refine AllOk.cons ?_ ?_
    · exact fun γ => ⟨rfl, fun w' => ex_box6 rfl rfl⟩
    refine AllOk.cons ?_ ?_
    · exact fun γ => ⟨rfl, fun w' _ => rfl⟩
    exact trivial
  intro γ w1 l hM hl
  have M1 : Mm w1 [(γ 0, cells6 n), (γ 1, cells6 a)] := H0.out.1.grow hM (Nat.le_refl _) hl [0, 1] rfl (by decide)
  have B1 : Below w.heap.size w w1 := H0.out.2.trans (hM.below.mono H0.out.2.size)
  have o1_0 : Hid (w.heap.size ≤ γ 0) := Nat.le_trans H0.out.2.size (hM.fin (Nat.le_refl _) hl (i := 0) rfl).2.1
  have o1_1 : Hid (w.heap.size ≤ γ 1) := Nat.le_trans H0.out.2.size (hM.fin (Nat.le_refl _) hl (i := 1) rfl).2.1
  clear hM hl l
  generalize γ 0 = γ1_0 at M1 o1_0 ⊢
  generalize γ 1 = γ1_1 at M1 o1_1 ⊢
  clear γ
  have H1 : Hid (_ ∧ _) := ⟨M1, B1⟩
  clear M1 B1
  refine rest_at (l := []) rfl ?_
  refine rest_nil ?_
  refine then_normal ?_
  refine wp_seq ?_
  refine wp_seq ?_
  refine walk_seq 8 [.quiet (N n), .call (.int .i64 L), .quiet (.bool true), .quiet (.bool true), .gone, .gone, .gone, .quiet (.bool true)] (fun w' => Mm w' [(γ1_0, cells6 n), (γ1_1, cells6 a)]) ?pre2 ?F2 ?hpre2 (fun γ => ?hF2) (by kernel_rfl) ?hL2 ?hS2 ?ho2 ?he2
  case hpre2 =>
    simp only [List.take_succ_cons, List.take_zero]
    exact rfl
  case hF2 =>
    simp only [fill, Kind.val, Act.put, List.setIfInBounds_toArray, List.set_cons_zero, List.set_cons_succ]
    exact rfl
  case hL2 => exact trivial
  case hS2 => exact fun w' hb => H1.out.1.below hb
  case ho2 =>
    refine AllOk.cons ?_ ?_
    · exact fun γ => ⟨rfl, fun w' h => ex_load6 h 0 rfl rfl rfl rfl⟩
    refine AllOk.cons ?_ ?_
    · exact fun γ => ⟨rfl, fun w' h => ⟨4, #[N n], exec_call rfl call4 rfl (by simp only [List.map_toArray, List.map_cons, List.map_nil]; rfl), C0.out w'⟩⟩
    refine AllOk.cons ?_ ?_
    · (refine fun γ => ⟨rfl, fun w' h => ?_⟩; clear h; go_simp <;> omega)
    refine AllOk.cons ?_ ?_
    · exact fun γ => ⟨rfl, fun w' _ => rfl⟩
    refine AllOk.cons ?_ ?_
    · exact fun γ => rfl
    refine AllOk.cons ?_ ?_
    · exact fun γ => rfl
    refine AllOk.cons ?_ ?_
    · exact fun γ => rfl
    refine AllOk.cons ?_ ?_
    · (refine fun γ => ⟨rfl, fun w' h => ?_⟩; clear h; go_simp)
    exact trivial
  intro γ w2 l hM hl
  have M2 : Mm w2 [(γ1_0, cells6 n), (γ1_1, cells6 a)] := H1.out.1.grow hM (Nat.le_refl _) hl [] rfl (by decide)
  have B2 : Below w.heap.size w w2 := H1.out.2.trans (hM.below.mono H1.out.2.size)
  clear hM hl l H1
  clear γ
  have H2 : Hid (_ ∧ _) := ⟨M2, B2⟩
  clear M2 B2
  refine rest_at (l := []) rfl ?_
  refine rest_nil ?_
  refine then_normal ?_
  refine wp_cond_true rfl ?_
  refine wp_seq ?_
  refine walk_seq 1 [.quiet (.bool true)] (fun w' => Mm w' [(γ1_0, cells6 n), (γ1_1, cells6 a)]) ?pre3 ?F3 ?hpre3 (fun γ => ?hF3) (by kernel_rfl) ?hL3 ?hS3 ?ho3 ?he3
  case hpre3 =>
    simp only [List.take_succ_cons, List.take_zero]
    exact rfl
  case hF3 =>
    simp only [fill, Kind.val, Act.put, List.setIfInBounds_toArray, List.set_cons_zero, List.set_cons_succ]
    exact rfl
  case hL3 => exact trivial
  case hS3 => exact fun w' hb => H2.out.1.below hb
  case ho3 =>
    refine AllOk.cons ?_ ?_
    · exact fun γ => ⟨rfl, fun w' _ => rfl⟩
    exact trivial
  intro γ w3 l hM hl
  have M3 : Mm w3 [(γ1_0, cells6 n), (γ1_1, cells6 a)] := H2.out.1.grow hM (Nat.le_refl _) hl [] rfl (by decide)
  have B3 : Below w.heap.size w w3 := H2.out.2.trans (hM.below.mono H2.out.2.size)
  clear hM hl l H2
  clear γ
  have H3 : Hid (_ ∧ _) := ⟨M3, B3⟩
  clear M3 B3
  refine rest_at (l := []) rfl ?_
  refine rest_nil ?_
  refine then_normal ?_
  refine wp_ret ?_
  repeat (first | refine then_ret ?_ | refine block_ret ?_)
  refine bodyPost_ret (v := .bool true) (by simp [results, Try.results3, go_sem, *]) rfl ?_
  exact ⟨rfl, H3.out.2⟩
set_option maxHeartbeats 4000000 in
set_option maxRecDepth 100000 in
theorem roots_2 (n a : Nat) (L : Int) (hL : ¬ 130 < L)
    (c0 : ∀ w, Calls Try.prog 4 #[N n] w fun e w' => e = .returned (.int .i64 L) ∧ Below w.heap.size w w')
    (c1 : ∀ w, Calls Try.prog 5 #[N n] w fun e w' => e = .returned (.bool false) ∧ Below w.heap.size w w') (w : World) :
    Calls Try.prog 3 #[N n, N a] w fun e w' => e = .returned (.bool true) ∧ Below w.heap.size w w' := by
  have H0 : Hid (_ ∧ _) := ⟨Mm.nil w, Below.refl w.heap.size w⟩
  have C0 : Hid _ := c0
  have C1 : Hid _ := c1
  clear c0 c1
  go_enter Try.func3, Try.ntmps3
  refine wp_seq ?_
  refine walk_seq 3 [.made (cells6 n) 24, .made (cells6 a) 24, .quiet (.bool false)] (fun w' => Mm w' []) ?pre1 ?F1 ?hpre1 (fun γ => ?hF1) (by kernel_rfl) ?hL1 ?hS1 ?ho1 ?he1
  case hpre1 =>
    simp only [List.take_succ_cons, List.take_zero]
    exact rfl
  case hF1 =>
    simp only [fill, Kind.val, Act.put, List.setIfInBounds_toArray, List.set_cons_zero, List.set_cons_succ]
    exact rfl
  case hL1 => exact trivial
  case hS1 => exact fun w' hb => H0.out.1.below hb
  case ho1 =>
    refine AllOk.cons ?_ ?_
    · exact fun γ => ⟨rfl, fun w' => ex_box6 rfl rfl⟩
    refine AllOk.cons ?_ ?_
    · exact fun γ => ⟨rfl, fun w' => ex_box6 rfl rfl⟩
    refine AllOk.cons ?_ ?_
    · exact fun γ => ⟨rfl, fun w' _ => rfl⟩
    exact trivial
  intro γ w1 l hM hl
  have M1 : Mm w1 [(γ 0, cells6 n), (γ 1, cells6 a)] := H0.out.1.grow hM (Nat.le_refl _) hl [0, 1] rfl (by decide)
  have B1 : Below w.heap.size w w1 := H0.out.2.trans (hM.below.mono H0.out.2.size)
  have o1_0 : Hid (w.heap.size ≤ γ 0) := Nat.le_trans H0.out.2.size (hM.fin (Nat.le_refl _) hl (i := 0) rfl).2.1
  have o1_1 : Hid (w.heap.size ≤ γ 1) := Nat.le_trans H0.out.2.size (hM.fin (Nat.le_refl _) hl (i := 1) rfl).2.1
  clear hM hl l
  generalize γ 0 = γ1_0 at M1 o1_0 ⊢
  generalize γ 1 = γ1_1 at M1 o1_1 ⊢
  clear γ
  have H1 : Hid (_ ∧ _) := ⟨M1, B1⟩
  clear M1 B1
  refine rest_at (l := []) rfl ?_
  refine rest_nil ?_
  refine then_normal ?_
  refine wp_seq ?_
  refine wp_seq ?_
  refine walk_seq 8 [.quiet (N n), .call (.int .i64 L), .quiet (.bool false), .quiet (.bool false), .quiet (N n), .call (.bool false), .quiet (.bool true), .quiet (.bool true)] (fun w' => Mm w' [(γ1_0, cells6 n), (γ1_1, cells6 a)]) ?pre2 ?F2 ?hpre2 (fun γ => ?hF2) (by kernel_rfl) ?hL2 ?hS2 ?ho2 ?he2
  case hpre2 =>
    simp only [List.take_succ_cons, List.take_zero]
    exact rfl
  case hF2 =>
    simp only [fill, Kind.val, Act.put, List.setIfInBounds_toArray, List.set_cons_zero, List.set_cons_succ]
    exact rfl
  case hL2 => exact trivial
  case hS2 => exact fun w' hb => H1.out.1.below hb
  case ho2 =>
    refine AllOk.cons ?_ ?_
    · exact fun γ => ⟨rfl, fun w' h => ex_load6 h 0 rfl rfl rfl rfl⟩
    refine AllOk.cons ?_ ?_
    · exact fun γ => ⟨rfl, fun w' h => ⟨4, #[N n], exec_call rfl call4 rfl (by simp only [List.map_toArray, List.map_cons, List.map_nil]; rfl), C0.out w'⟩⟩
    refine AllOk.cons ?_ ?_
    · (refine fun γ => ⟨rfl, fun w' h => ?_⟩; clear h; go_simp <;> omega)
    refine AllOk.cons ?_ ?_
    · exact fun γ => ⟨rfl, fun w' _ => rfl⟩
    refine AllOk.cons ?_ ?_
    · exact fun γ => ⟨rfl, fun w' h => ex_load6 h 0 rfl rfl rfl rfl⟩
    refine AllOk.cons ?_ ?_
    · exact fun γ => ⟨rfl, fun w' h => ⟨5, #[N n], exec_call rfl call5 rfl (by simp only [List.map_toArray, List.map_cons, List.map_nil]; rfl), C1.out w'⟩⟩
    refine AllOk.cons ?_ ?_
    · (refine fun γ => ⟨rfl, fun w' h => ?_⟩; clear h; go_simp)
    refine AllOk.cons ?_ ?_
    · (refine fun γ => ⟨rfl, fun w' h => ?_⟩; clear h; go_simp)
    exact trivial
  intro γ w2 l hM hl
  have M2 : Mm w2 [(γ1_0, cells6 n), (γ1_1, cells6 a)] := H1.out.1.grow hM (Nat.le_refl _) hl [] rfl (by decide)
  have B2 : Below w.heap.size w w2 := H1.out.2.trans (hM.below.mono H1.out.2.size)
  clear hM hl l H1
  clear γ
  have H2 : Hid (_ ∧ _) := ⟨M2, B2⟩
  clear M2 B2
  refine rest_at (l := []) rfl ?_
  refine rest_nil ?_
  refine then_normal ?_
  refine wp_cond_true rfl ?_
  refine wp_seq ?_
  refine walk_seq 1 [.quiet (.bool true)] (fun w' => Mm w' [(γ1_0, cells6 n), (γ1_1, cells6 a)]) ?pre3 ?F3 ?hpre3 (fun γ => ?hF3) (by kernel_rfl) ?hL3 ?hS3 ?ho3 ?he3
  case hpre3 =>
    simp only [List.take_succ_cons, List.take_zero]
    exact rfl
  case hF3 =>
    simp only [fill, Kind.val, Act.put, List.setIfInBounds_toArray, List.set_cons_zero, List.set_cons_succ]
    exact rfl
  case hL3 => exact trivial
  case hS3 => exact fun w' hb => H2.out.1.below hb
  case ho3 =>
    refine AllOk.cons ?_ ?_
    · exact fun γ => ⟨rfl, fun w' _ => rfl⟩
    exact trivial
  intro γ w3 l hM hl
  have M3 : Mm w3 [(γ1_0, cells6 n), (γ1_1, cells6 a)] := H2.out.1.grow hM (Nat.le_refl _) hl [] rfl (by decide)
  have B3 : Below w.heap.size w w3 := H2.out.2.trans (hM.below.mono H2.out.2.size)
  clear hM hl l H2
  clear γ
  have H3 : Hid (_ ∧ _) := ⟨M3, B3⟩
  clear M3 B3
  refine rest_at (l := []) rfl ?_
  refine rest_nil ?_
  refine then_normal ?_
  refine wp_ret ?_
  repeat (first | refine then_ret ?_ | refine block_ret ?_)
  refine bodyPost_ret (v := .bool true) (by simp [results, Try.results3, go_sem, *]) rfl ?_
  exact ⟨rfl, H3.out.2⟩
set_option maxHeartbeats 4000000 in
set_option maxRecDepth 100000 in
theorem roots_3 (n a x : Nat) (L z : Int) (hL : ¬ 130 < L) (e1 : ∀ w, (Op.equalIn 10000 24 (N x) (N x)).run Try.prog w = .ok true w)
    (c0 : ∀ w, Calls Try.prog 4 #[N n] w fun e w' => e = .returned (.int .i64 L) ∧ Below w.heap.size w w')
    (c1 : ∀ w, Calls Try.prog 5 #[N n] w fun e w' => e = .returned (.bool true) ∧ Below w.heap.size w w')
    (c2 : ∀ w, Calls Try.prog 6 #[N n] w fun e w' => Below w.heap.size w w' ∧ ∃ g, e = .returned (.tuple #[PT g 0, .int .i64 0]) ∧ w.heap.size ≤ g ∧ g < w'.heap.size ∧ Blk w' g (modc n))
    (c3 : ∀ g w, Mm w [(g, modc n)] → Calls Try.prog 7 #[PT g 0, N a] w fun e w' => e = .returned (.tuple #[N x, .int .i64 z]) ∧ Below w.heap.size w w')
    (c4 : ∀ w, Calls Try.prog 8 #[N n, N a] w fun e w' => e = .returned (.tuple #[N x, .int .i64 z]) ∧ Below w.heap.size w w') (w : World) :
    Calls Try.prog 3 #[N n, N a] w fun e w' => e = .returned (.bool true) ∧ Below w.heap.size w w' := by
  have H0 : Hid (_ ∧ _) := ⟨Mm.nil w, Below.refl w.heap.size w⟩
  have C0 : Hid _ := c0
  have C1 : Hid _ := c1
  have C2 : Hid _ := c2
  have C3 : Hid _ := c3
  have C4 : Hid _ := c4
  clear c0 c1 c2 c3 c4
  go_enter Try.func3, Try.ntmps3
  refine wp_seq ?_
  refine walk_seq 3 [.made (cells6 n) 24, .made (cells6 a) 24, .quiet (.bool false)] (fun w' => Mm w' []) ?pre1 ?F1 ?hpre1 (fun γ => ?hF1) (by kernel_rfl) ?hL1 ?hS1 ?ho1 ?he1
  case hpre1 =>
    simp only [List.take_succ_cons, List.take_zero]
    exact rfl
  case hF1 =>
    simp only [fill, Kind.val, Act.put, List.setIfInBounds_toArray, List.set_cons_zero, List.set_cons_succ]
    exact rfl
  case hL1 => exact trivial
  case hS1 => exact fun w' hb => H0.out.1.below hb
  case ho1 =>
    refine AllOk.cons ?_ ?_
    · exact fun γ => ⟨rfl, fun w' => ex_box6 rfl rfl⟩
    refine AllOk.cons ?_ ?_
    · exact fun γ => ⟨rfl, fun w' => ex_box6 rfl rfl⟩
    refine AllOk.cons ?_ ?_
    · exact fun γ => ⟨rfl, fun w' _ => rfl⟩
    exact trivial
  intro γ w1 l hM hl
  have M1 : Mm w1 [(γ 0, cells6 n), (γ 1, cells6 a)] := H0.out.1.grow hM (Nat.le_refl _) hl [0, 1] rfl (by decide)
  have B1 : Below w.heap.size w w1 := H0.out.2.trans (hM.below.mono H0.out.2.size)
  have o1_0 : Hid (w.heap.size ≤ γ 0) := Nat.le_trans H0.out.2.size (hM.fin (Nat.le_refl _) hl (i := 0) rfl).2.1
  have o1_1 : Hid (w.heap.size ≤ γ 1) := Nat.le_trans H0.out.2.size (hM.fin (Nat.le_refl _) hl (i := 1) rfl).2.1
  clear hM hl l
  generalize γ 0 = γ1_0 at M1 o1_0 ⊢
  generalize γ 1 = γ1_1 at M1 o1_1 ⊢
  clear γ
  have H1 : Hid (_ ∧ _) := ⟨M1, B1⟩
  clear M1 B1
  refine rest_at (l := []) rfl ?_
  refine rest_nil ?_
  refine then_normal ?_
  refine wp_seq ?_
  refine wp_seq ?_
  refine walk_seq 8 [.quiet (N n), .call (.int .i64 L), .quiet (.bool false), .quiet (.bool false), .quiet (N n), .call (.bool true), .quiet (.bool false), .quiet (.bool false)] (fun w' => Mm w' [(γ1_0, cells6 n), (γ1_1, cells6 a)]) ?pre2 ?F2 ?hpre2 (fun γ => ?hF2) (by kernel_rfl) ?hL2 ?hS2 ?ho2 ?he2
  case hpre2 =>
    simp only [List.take_succ_cons, List.take_zero]
    exact rfl
  case hF2 =>
    simp only [fill, Kind.val, Act.put, List.setIfInBounds_toArray, List.set_cons_zero, List.set_cons_succ]
    exact rfl
  case hL2 => exact trivial
  case hS2 => exact fun w' hb => H1.out.1.below hb
  case ho2 =>
    refine AllOk.cons ?_ ?_
    · exact fun γ => ⟨rfl, fun w' h => ex_load6 h 0 rfl rfl rfl rfl⟩
    refine AllOk.cons ?_ ?_
    · exact fun γ => ⟨rfl, fun w' h => ⟨4, #[N n], exec_call rfl call4 rfl (by simp only [List.map_toArray, List.map_cons, List.map_nil]; rfl), C0.out w'⟩⟩
    refine AllOk.cons ?_ ?_
    · (refine fun γ => ⟨rfl, fun w' h => ?_⟩; clear h; go_simp <;> omega)
    refine AllOk.cons ?_ ?_
    · exact fun γ => ⟨rfl, fun w' _ => rfl⟩
    refine AllOk.cons ?_ ?_
    · exact fun γ => ⟨rfl, fun w' h => ex_load6 h 0 rfl rfl rfl rfl⟩
    refine AllOk.cons ?_ ?_
    · exact fun γ => ⟨rfl, fun w' h => ⟨5, #[N n], exec_call rfl call5 rfl (by simp only [List.map_toArray, List.map_cons, List.map_nil]; rfl), C1.out w'⟩⟩
    refine AllOk.cons ?_ ?_
    · (refine fun γ => ⟨rfl, fun w' h => ?_⟩; clear h; go_simp)
    refine AllOk.cons ?_ ?_
    · (refine fun γ => ⟨rfl, fun w' h => ?_⟩; clear h; go_simp)
    exact trivial
  intro γ w2 l hM hl
  have M2 : Mm w2 [(γ1_0, cells6 n), (γ1_1, cells6 a)] := H1.out.1.grow hM (Nat.le_refl _) hl [] rfl (by decide)
  have B2 : Below w.heap.size w w2 := H1.out.2.trans (hM.below.mono H1.out.2.size)
  clear hM hl l H1
  clear γ
  have H2 : Hid (_ ∧ _) := ⟨M2, B2⟩
  clear M2 B2
  refine rest_at (l := []) rfl ?_
  refine rest_nil ?_
  refine then_normal ?_
  refine wp_cond_false rfl ?_
  refine wp_skip ?_
  refine then_normal ?_
  refine wp_seq ?_
  refine walk_seq 2 [.quiet (N n), .born (fun g => .tuple #[PT g 0, .int .i64 0]) (modc n)] (fun w' => Mm w' [(γ1_0, cells6 n), (γ1_1, cells6 a)]) ?pre3 ?F3 ?hpre3 (fun γ => ?hF3) (by kernel_rfl) ?hL3 ?hS3 ?ho3 ?he3
  case hpre3 =>
    simp only [List.take_succ_cons, List.take_zero]
    exact rfl
  case hF3 =>
    simp only [fill, Kind.val, Act.put, List.setIfInBounds_toArray, List.set_cons_zero, List.set_cons_succ]
    exact rfl
  case hL3 => exact trivial
  case hS3 => exact fun w' hb => H2.out.1.below hb
  case ho3 =>
    refine AllOk.cons ?_ ?_
    · exact fun γ => ⟨rfl, fun w' h => ex_load6 h 0 rfl rfl rfl rfl⟩
    refine AllOk.cons ?_ ?_
    · exact fun γ => ⟨rfl, fun w' h => ⟨6, #[N n], exec_call rfl call6 rfl (by simp only [List.map_toArray, List.map_cons, List.map_nil]; rfl), C2.out w'⟩⟩
    exact trivial
  intro γ w3 l hM hl
  have M3 : Mm w3 [(γ 1, modc n), (γ1_0, cells6 n), (γ1_1, cells6 a)] := H2.out.1.grow hM (Nat.le_refl _) hl [1] rfl (by decide)
  have B3 : Below w.heap.size w w3 := H2.out.2.trans (hM.below.mono H2.out.2.size)
  have o3_1 : Hid (w.heap.size ≤ γ 1) := Nat.le_trans H2.out.2.size (hM.fin (Nat.le_refl _) hl (i := 1) rfl).2.1
  clear hM hl l H2
  generalize γ 1 = γ3_1 at M3 o3_1 ⊢
  clear γ
  have H3 : Hid (_ ∧ _) := ⟨M3, B3⟩
  clear M3 B3
  refine rest_at (l := [2, 3, 4, 5, 6]) rfl ?_
  refine rest_set (d := 19) rfl rfl rfl rfl ?_
  simp only [Act.put, List.setIfInBounds_toArray, List.set_cons_zero, List.set_cons_succ]
  refine rest_set (d := 22) (v := PT γ3_1 0) (w' := w3) rfl rfl rfl (by go_simp) ?_
  simp only [Act.put, List.setIfInBounds_toArray, List.set_cons_zero, List.set_cons_succ]
  refine rest_set (d := 23) (v := .int .i64 0) (w' := w3) rfl rfl rfl (by go_simp) ?_
  simp only [Act.put, List.setIfInBounds_toArray, List.set_cons_zero, List.set_cons_succ]
  refine rest_set (d := 5) rfl rfl rfl rfl ?_
  simp only [Act.put, List.setIfInBounds_toArray, List.set_cons_zero, List.set_cons_succ]
  refine rest_set (d := 6) rfl rfl rfl rfl ?_
  simp only [Act.put, List.setIfInBounds_toArray, List.set_cons_zero, List.set_cons_succ]
  refine rest_nil ?_
  refine then_normal ?_
  refine wp_seq ?_
  refine wp_seq ?_
  refine walk_seq 6 [.quiet (PT γ3_1 0), .quiet (.bool false), .quiet (.bool false), .quiet (.int .i64 0), .quiet (.bool false), .quiet (.bool false)] (fun w' => Mm w' [(γ3_1, modc n), (γ1_0, cells6 n), (γ1_1, cells6 a)]) ?pre4 ?F4 ?hpre4 (fun γ => ?hF4) (by kernel_rfl) ?hL4 ?hS4 ?ho4 ?he4
  case hpre4 =>
    simp only [List.take_succ_cons, List.take_zero]
    exact rfl
  case hF4 =>
    simp only [fill, Kind.val, Act.put, List.setIfInBounds_toArray, List.set_cons_zero, List.set_cons_succ]
    exact rfl
  case hL4 => exact trivial
  case hS4 => exact fun w' hb => H3.out.1.below hb
  case ho4 =>
    refine AllOk.cons ?_ ?_
    · exact fun γ => ⟨rfl, fun w' _ => rfl⟩
    refine AllOk.cons ?_ ?_
    · (refine fun γ => ⟨rfl, fun w' h => ?_⟩; clear h; go_simp)
    refine AllOk.cons ?_ ?_
    · exact fun γ => ⟨rfl, fun w' _ => rfl⟩
    refine AllOk.cons ?_ ?_
    · exact fun γ => ⟨rfl, fun w' _ => rfl⟩
    refine AllOk.cons ?_ ?_
    · (refine fun γ => ⟨rfl, fun w' h => ?_⟩; clear h; go_simp)
    refine AllOk.cons ?_ ?_
    · (refine fun γ => ⟨rfl, fun w' h => ?_⟩; clear h; go_simp)
    exact trivial
  intro γ w4 l hM hl
  have M4 : Mm w4 [(γ3_1, modc n), (γ1_0, cells6 n), (γ1_1, cells6 a)] := H3.out.1.grow hM (Nat.le_refl _) hl [] rfl (by decide)
  have B4 : Below w.heap.size w w4 := H3.out.2.trans (hM.below.mono H3.out.2.size)
  clear hM hl l H3
  clear γ
  have H4 : Hid (_ ∧ _) := ⟨M4, B4⟩
  clear M4 B4
  refine rest_at (l := []) rfl ?_
  refine rest_nil ?_
  refine then_normal ?_
  refine wp_cond_false rfl ?_
  refine wp_skip ?_
  refine then_normal ?_
  refine wp_seq ?_
  refine walk_seq 9 [.quiet (PT γ3_1 0), .quiet (N a), .call (.tuple #[N x, .int .i64 z]), .quiet (.tuple #[N x, .int .i64 z]), .quiet (N x), .quiet (.int .i64 z), .made zero6 24, .laid 6 zero6 (cells6 x), .quiet (.int .i64 z)] (fun w' => Mm w' [(γ3_1, modc n), (γ1_0, cells6 n), (γ1_1, cells6 a)]) ?pre5 ?F5 ?hpre5 (fun γ => ?hF5) (by kernel_rfl) ?hL5 ?hS5 ?ho5 ?he5
  case hpre5 =>
    simp only [List.take_succ_cons, List.take_zero]
    exact rfl
  case hF5 =>
    simp only [fill, Kind.val, Act.put, List.setIfInBounds_toArray, List.set_cons_zero, List.set_cons_succ]
    exact rfl
  case hL5 => exact ⟨⟨_, rfl⟩, trivial⟩
  case hS5 => exact fun w' hb => H4.out.1.below hb
  case ho5 =>
    refine AllOk.cons ?_ ?_
    · exact fun γ => ⟨rfl, fun w' _ => rfl⟩
    refine AllOk.cons ?_ ?_
    · exact fun γ => ⟨rfl, fun w' h => ex_load6 h 2 rfl rfl rfl rfl⟩
    refine AllOk.cons ?_ ?_
    · exact fun γ => ⟨rfl, fun w' h => ⟨7, #[PT γ3_1 0, N a], exec_call rfl call7 rfl (by simp only [List.map_toArray, List.map_cons, List.map_nil]; rfl), C3.out _ w' (h.one 0 rfl)⟩⟩
    refine AllOk.cons ?_ ?_
    · exact fun γ => ⟨rfl, fun w' _ => rfl⟩
    refine AllOk.cons ?_ ?_
    · (refine fun γ => ⟨rfl, fun w' h => ?_⟩; clear h; go_simp)
    refine AllOk.cons ?_ ?_
    · (refine fun γ => ⟨rfl, fun w' h => ?_⟩; clear h; go_simp)
    refine AllOk.cons ?_ ?_
    · exact fun γ => ⟨rfl, fun w' => exec_made6 rfl⟩
    refine AllOk.cons ?_ ?_
    · exact fun γ => ⟨rfl, rfl, rfl, fun w' h => exec_laid6 h rfl rfl rfl⟩
    refine AllOk.cons ?_ ?_
    · exact fun γ => ⟨rfl, fun w' _ => rfl⟩
    exact trivial
  intro γ w5 l hM hl
  have M5 : Mm w5 [(γ 6, cells6 x), (γ3_1, modc n), (γ1_0, cells6 n), (γ1_1, cells6 a)] := H4.out.1.grow hM (Nat.le_refl _) hl [6] rfl (by decide)
  have B5 : Below w.heap.size w w5 := H4.out.2.trans (hM.below.mono H4.out.2.size)
  have o5_6 : Hid (w.heap.size ≤ γ 6) := Nat.le_trans H4.out.2.size (hM.fin (Nat.le_refl _) hl (i := 6) rfl).2.1
  clear hM hl l H4
  generalize γ 6 = γ5_6 at M5 o5_6 ⊢
  clear γ
  have H5 : Hid (_ ∧ _) := ⟨M5, B5⟩
  clear M5 B5
  refine rest_at (l := []) rfl ?_
  refine rest_nil ?_
  refine then_normal ?_
  refine wp_seq ?_
  refine walk_seq 9 [.quiet (N n), .quiet (N a), .call (.tuple #[N x, .int .i64 z]), .quiet (.tuple #[N x, .int .i64 z]), .quiet (N x), .quiet (.int .i64 z), .made zero6 24, .laid 6 zero6 (cells6 x), .quiet (.int .i64 z)] (fun w' => Mm w' [(γ5_6, cells6 x), (γ3_1, modc n), (γ1_0, cells6 n), (γ1_1, cells6 a)]) ?pre6 ?F6 ?hpre6 (fun γ => ?hF6) (by kernel_rfl) ?hL6 ?hS6 ?ho6 ?he6
  case hpre6 =>
    simp only [List.take_succ_cons, List.take_zero]
    exact rfl
  case hF6 =>
    simp only [fill, Kind.val, Act.put, List.setIfInBounds_toArray, List.set_cons_zero, List.set_cons_succ]
    exact rfl
  case hL6 => exact ⟨⟨_, rfl⟩, trivial⟩
  case hS6 => exact fun w' hb => H5.out.1.below hb
  case ho6 =>
    refine AllOk.cons ?_ ?_
    · exact fun γ => ⟨rfl, fun w' h => ex_load6 h 2 rfl rfl rfl rfl⟩
    refine AllOk.cons ?_ ?_
    · exact fun γ => ⟨rfl, fun w' h => ex_load6 h 3 rfl rfl rfl rfl⟩
    refine AllOk.cons ?_ ?_
    · exact fun γ => ⟨rfl, fun w' h => ⟨8, #[N n, N a], exec_call rfl call8 rfl (by simp only [List.map_toArray, List.map_cons, List.map_nil]; rfl), C4.out w'⟩⟩
    refine AllOk.cons ?_ ?_
    · exact fun γ => ⟨rfl, fun w' _ => rfl⟩
    refine AllOk.cons ?_ ?_
    · (refine fun γ => ⟨rfl, fun w' h => ?_⟩; clear h; go_simp)
    refine AllOk.cons ?_ ?_
    · (refine fun γ => ⟨rfl, fun w' h => ?_⟩; clear h; go_simp)
    refine AllOk.cons ?_ ?_
    · exact fun γ => ⟨rfl, fun w' => exec_made6 rfl⟩
    refine AllOk.cons ?_ ?_
    · exact fun γ => ⟨rfl, rfl, rfl, fun w' h => exec_laid6 h rfl rfl rfl⟩
    refine AllOk.cons ?_ ?_
    · exact fun γ => ⟨rfl, fun w' _ => rfl⟩
    exact trivial
  intro γ w6 l hM hl
  have M6 : Mm w6 [(γ 6, cells6 x), (γ5_6, cells6 x), (γ3_1, modc n), (γ1_0, cells6 n), (γ1_1, cells6 a)] := H5.out.1.grow hM (Nat.le_refl _) hl [6] rfl (by decide)
  have B6 : Below w.heap.size w w6 := H5.out.2.trans (hM.below.mono H5.out.2.size)
  have o6_6 : Hid (w.heap.size ≤ γ 6) := Nat.le_trans H5.out.2.size (hM.fin (Nat.le_refl _) hl (i := 6) rfl).2.1
  clear hM hl l H5
  generalize γ 6 = γ6_6 at M6 o6_6 ⊢
  clear γ
  have H6 : Hid (_ ∧ _) := ⟨M6, B6⟩
  clear M6 B6
  refine rest_at (l := []) rfl ?_
  refine rest_nil ?_
  refine then_normal ?_
  refine wp_seq ?_
  refine walk_seq 9 [.quiet (N x), .quiet (N x), .quiet (.bool true), .quiet (.bool true), .quiet (.int .i64 z), .quiet (.int .i64 z), .quiet (.bool true), .quiet (.bool true), .quiet (.bool true)] (fun w' => Mm w' [(γ6_6, cells6 x), (γ5_6, cells6 x), (γ3_1, modc n), (γ1_0, cells6 n), (γ1_1, cells6 a)]) ?pre7 ?F7 ?hpre7 (fun γ => ?hF7) (by kernel_rfl) ?hL7 ?hS7 ?ho7 ?he7
  case hpre7 =>
    simp only [List.take_succ_cons, List.take_zero]
    exact rfl
  case hF7 =>
    simp only [fill, Kind.val, Act.put, List.setIfInBounds_toArray, List.set_cons_zero, List.set_cons_succ]
    exact rfl
  case hL7 => exact trivial
  case hS7 => exact fun w' hb => H6.out.1.below hb
  case ho7 =>
    refine AllOk.cons ?_ ?_
    · exact fun γ => ⟨rfl, fun w' h => ex_load6 h 1 rfl rfl rfl rfl⟩
    refine AllOk.cons ?_ ?_
    · exact fun γ => ⟨rfl, fun w' h => ex_load6 h 0 rfl rfl rfl rfl⟩
    refine AllOk.cons ?_ ?_
    · exact fun γ => ⟨rfl, fun w' _ => exec_eq6 e1 rfl rfl rfl⟩
    refine AllOk.cons ?_ ?_
    · exact fun γ => ⟨rfl, fun w' _ => rfl⟩
    refine AllOk.cons ?_ ?_
    · exact fun γ => ⟨rfl, fun w' _ => rfl⟩
    refine AllOk.cons ?_ ?_
    · exact fun γ => ⟨rfl, fun w' _ => rfl⟩
    refine AllOk.cons ?_ ?_
    · (refine fun γ => ⟨rfl, fun w' h => ?_⟩; clear h; go_simp)
    refine AllOk.cons ?_ ?_
    · (refine fun γ => ⟨rfl, fun w' h => ?_⟩; clear h; go_simp)
    refine AllOk.cons ?_ ?_
    · exact fun γ => ⟨rfl, fun w' _ => rfl⟩
    exact trivial
  intro γ w7 l hM hl
  have M7 : Mm w7 [(γ6_6, cells6 x), (γ5_6, cells6 x), (γ3_1, modc n), (γ1_0, cells6 n), (γ1_1, cells6 a)] := H6.out.1.grow hM (Nat.le_refl _) hl [] rfl (by decide)
  have B7 : Below w.heap.size w w7 := H6.out.2.trans (hM.below.mono H6.out.2.size)
  clear hM hl l H6
  clear γ
  have H7 : Hid (_ ∧ _) := ⟨M7, B7⟩
  clear M7 B7
  refine rest_at (l := []) rfl ?_
  refine rest_nil ?_
  refine then_normal ?_
  refine wp_ret ?_
  repeat (first | refine then_ret ?_ | refine block_ret ?_)
  refine bodyPost_ret (v := .bool true) (by simp [results, Try.results3, go_sem, *]) rfl ?_
  exact ⟨rfl, H7.out.2⟩

theorem rtv_lt {n a : Nat} (ok : Ok n) : rtv n a < big := by
  have hb := ok.big
  have hc : rtc n a < n := Nat.mod_lt _ ok.pos
  have hs := subm_lt_n ok.pos 0 (rtc n a)
  unfold rtv
  split
  · exact big_pos
  · split
    · split <;> omega
    · exact big_pos
theorem roots_any (n a : Nat) (hn : n < big) (ha : a < big) (w : World) : Calls Try.prog 3 #[N n, N a] w fun e w' => e = .returned (.bool true) ∧ Below w.heap.size w w' := by
  by_cases h : (130 : Int) < (bl n : Nat)
  · exact roots_1 n a _ h (fun w => len_ref n hn w) w
  · by_cases ok : Ok n
    · exact roots_3 n a (rtv n a) _ (rte n a) h (fun w => by rw [run_eqN _ _ (rtv_lt ok) (rtv_lt ok), decide_eq_true rfl]) (fun w => len_ref n hn w) (fun w => may_ok ok w) (fun w => new_ok ok w) (fun g w hm => root_any ok ha w hm) (fun w => rroot_any ok ha w) w
    · exact roots_2 n a _ h (fun w => len_ref n hn w) (fun w => may_no hn ok w) w
end Rg
end Go.Proofs.Ytoagmdgmbkpghaa
