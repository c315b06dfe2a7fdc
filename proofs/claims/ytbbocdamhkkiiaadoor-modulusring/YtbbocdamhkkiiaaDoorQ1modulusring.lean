/- Texts of the proof, joined. -/
import Derived.Test.YtbbocdamhkkiiaaDoorP6
section
namespace Go.Proofs.YtbbocdamhkkiiaaDoor
open Go.RowKit
namespace Rg
theorem call11 : ∀ args w, (callFunc 11 args).run Tryd.prog w = .ok (.enter 11 args) w := by intro args w; go_simp
theorem call17 : ∀ args w, (callFunc 17 args).run Tryd.prog w = .ok (.enter 17 args) w := by intro args w; go_simp
theorem call20 : ∀ args w, (callFunc 20 args).run Tryd.prog w = .ok (.enter 20 args) w := by intro args w; go_simp
set_option maxHeartbeats 4000000 in
set_option maxRecDepth 100000 in
theorem ring_bad (n a b c : Nat)
    (c0 : ∀ w, Mm w [(0, dtab)] → Calls Tryd.prog 17 #[] w fun e w' => e = .returned (.bool true) ∧ Below w.heap.size w w')
    (c1 : ∀ w, Calls Tryd.prog 18 #[N n] w fun e w' => e = .returned (.tuple #[.pointer none, .int .i64 2]) ∧ Below w.heap.size w w') (w : World) (hm : Mm w [(0, dtab)]) :
    Calls Tryd.prog 4 #[N n, N a, N b, N c] w fun e w' => e = .returned (.bool true) ∧ Below w.heap.size w w' := by
  have H0 : Hid (_ ∧ _) := ⟨hm, Below.refl w.heap.size w⟩
  clear hm
  have C0 : Hid _ := c0
  have C1 : Hid _ := c1
  clear c0 c1
  go_enter Tryd.func4, Tryd.ntmps4
  refine wp_seq ?_
  refine walk_seq 5 [.made (cells6 n) 24, .made (cells6 a) 24, .made (cells6 b) 24, .made (cells6 c) 24, .quiet (.bool false)] (fun w' => Mm w' [(0, dtab)]) ?pre1 ?F1 ?hpre1 (fun γ => ?hF1) (by kernel_rfl) ?hL1 ?hS1 ?ho1 ?he1
  case hpre1 =>
    simp only [List.take_succ_cons, List.take_zero]
    exact rfl
  case hF1 =>
    simp only [fill, Kind.val, Act.put, List.setIfInBounds_toArray, List.set_cons_zero, List.set_cons_succ]
    exact rfl
  case hL1 => exact trivial
  case hS1 => exact fun w' hb => H0.out.1.below hb
  case ho1 =>
    refine AllOk.cons ?_ ?_
    · exact fun γ => ⟨rfl, fun w' => ex_box6 rfl rfl⟩
    refine AllOk.cons ?_ ?_
    · exact fun γ => ⟨rfl, fun w' => ex_box6 rfl rfl⟩
    refine AllOk.cons ?_ ?_
    · exact fun γ => ⟨rfl, fun w' => ex_box6 rfl rfl⟩
    refine AllOk.cons ?_ ?_
    · exact fun γ => ⟨rfl, fun w' => ex_box6 rfl rfl⟩
    refine AllOk.cons ?_ ?_
    · exact fun γ => ⟨rfl, fun w' _ => rfl⟩
    exact trivial
  intro γ w1 l hM hl
  have M1 : Mm w1 [(γ 0, cells6 n), (γ 1, cells6 a), (γ 2, cells6 b), (γ 3, cells6 c), (0, dtab)] := H0.out.1.grow hM (Nat.le_refl _) hl [0, 1, 2, 3] rfl (by decide)
  have B1 : Below w.heap.size w w1 := H0.out.2.trans (hM.below.mono H0.out.2.size)
  have o1_0 : Hid (w.heap.size ≤ γ 0) := Nat.le_trans H0.out.2.size (hM.fin (Nat.le_refl _) hl (i := 0) rfl).2.1
  have o1_1 : Hid (w.heap.size ≤ γ 1) := Nat.le_trans H0.out.2.size (hM.fin (Nat.le_refl _) hl (i := 1) rfl).2.1
  have o1_2 : Hid (w.heap.size ≤ γ 2) := Nat.le_trans H0.out.2.size (hM.fin (Nat.le_refl _) hl (i := 2) rfl).2.1
  have o1_3 : Hid (w.heap.size ≤ γ 3) := Nat.le_trans H0.out.2.size (hM.fin (Nat.le_refl _) hl (i := 3) rfl).2.1
  clear hM hl l
  generalize γ 0 = γ1_0 at M1 o1_0 ⊢
  generalize γ 1 = γ1_1 at M1 o1_1 ⊢
  generalize γ 2 = γ1_2 at M1 o1_2 ⊢
  generalize γ 3 = γ1_3 at M1 o1_3 ⊢
  clear γ
  have H1 : Hid (_ ∧ _) := ⟨M1, B1⟩
  clear M1 B1
  refine rest_at (l := []) rfl ?_
  refine rest_nil ?_
  refine then_normal ?_
  refine wp_seq ?_
  refine walk_seq 2 [.call (.bool true), .quiet (.bool true)] (fun w' => Mm w' [(γ1_0, cells6 n), (γ1_1, cells6 a), (γ1_2, cells6 b), (γ1_3, cells6 c), (0, dtab)]) ?pre2 ?F2 ?hpre2 (fun γ => ?hF2) (by kernel_rfl) ?hL2 ?hS2 ?ho2 ?he2
  case hpre2 =>
    simp only [List.take_succ_cons, List.take_zero]
    exact rfl
  case hF2 =>
    simp only [fill, Kind.val, Act.put, List.setIfInBounds_toArray, List.set_cons_zero, List.set_cons_succ]
    exact rfl
  case hL2 => exact trivial
  case hS2 => exact fun w' hb => H1.out.1.below hb
  case ho2 =>
    refine AllOk.cons ?_ ?_
    · exact fun γ => ⟨rfl, fun w' h => ⟨17, #[], exec_call rfl call17 rfl (by simp only [List.map_toArray, List.map_nil]), C0.out w' (h.one 4 rfl)⟩⟩
    refine AllOk.cons ?_ ?_
    · exact fun γ => ⟨rfl, fun w' _ => rfl⟩
    exact trivial
  intro γ w2 l hM hl
  have M2 : Mm w2 [(γ1_0, cells6 n), (γ1_1, cells6 a), (γ1_2, cells6 b), (γ1_3, cells6 c), (0, dtab)] := H1.out.1.grow hM (Nat.le_refl _) hl [] rfl (by decide)
  have B2 : Below w.heap.size w w2 := H1.out.2.trans (hM.below.mono H1.out.2.size)
  clear hM hl l H1
  clear γ
  have H2 : Hid (_ ∧ _) := ⟨M2, B2⟩
  clear M2 B2
  refine rest_at (l := []) rfl ?_
  refine rest_nil ?_
  refine then_normal ?_
  refine wp_seq ?_
  refine walk_seq 7 [.quiet (N n), .call (.tuple #[.pointer none, .int .i64 2]), .quiet (.tuple #[.pointer none, .int .i64 2]), .quiet (.pointer none), .quiet (.int .i64 2), .quiet (.pointer none), .quiet (.int .i64 2)] (fun w' => Mm w' [(γ1_0, cells6 n), (γ1_1, cells6 a), (γ1_2, cells6 b), (γ1_3, cells6 c), (0, dtab)]) ?pre3 ?F3 ?hpre3 (fun γ => ?hF3) (by kernel_rfl) ?hL3 ?hS3 ?ho3 ?he3
  case hpre3 =>
    simp only [List.take_succ_cons, List.take_zero]
    exact rfl
  case hF3 =>
    simp only [fill, Kind.val, Act.put, List.setIfInBounds_toArray, List.set_cons_zero, List.set_cons_succ]
    exact rfl
  case hL3 => exact trivial
  case hS3 => exact fun w' hb => H2.out.1.below hb
  case ho3 =>
    refine AllOk.cons ?_ ?_
    · exact fun γ => ⟨rfl, fun w' h => ex_load6 h 0 rfl rfl rfl rfl⟩
    refine AllOk.cons ?_ ?_
    · exact fun γ => ⟨rfl, fun w' h => ⟨18, #[N n], exec_call rfl call18 rfl (by simp only [List.map_toArray, List.map_cons, List.map_nil]; rfl), C1.out w'⟩⟩
    refine AllOk.cons ?_ ?_
    · exact fun γ => ⟨rfl, fun w' _ => rfl⟩
    refine AllOk.cons ?_ ?_
    · (refine fun γ => ⟨rfl, fun w' h => ?_⟩; clear h; go_simp)
    refine AllOk.cons ?_ ?_
    · (refine fun γ => ⟨rfl, fun w' h => ?_⟩; clear h; go_simp)
    refine AllOk.cons ?_ ?_
    · exact fun γ => ⟨rfl, fun w' _ => rfl⟩
    refine AllOk.cons ?_ ?_
    · exact fun γ => ⟨rfl, fun w' _ => rfl⟩
    exact trivial
  intro γ w3 l hM hl
  have M3 : Mm w3 [(γ1_0, cells6 n), (γ1_1, cells6 a), (γ1_2, cells6 b), (γ1_3, cells6 c), (0, dtab)] := H2.out.1.grow hM (Nat.le_refl _) hl [] rfl (by decide)
  have B3 : Below w.heap.size w w3 := H2.out.2.trans (hM.below.mono H2.out.2.size)
  clear hM hl l H2
  clear γ
  have H3 : Hid (_ ∧ _) := ⟨M3, B3⟩
  clear M3 B3
  refine rest_at (l := []) rfl ?_
  refine rest_nil ?_
  refine then_normal ?_
  refine wp_seq ?_
  refine wp_seq ?_
  refine walk_seq 6 [.quiet (.int .i64 2), .quiet (.bool true), .quiet (.bool true), .gone, .gone, .quiet (.bool true)] (fun w' => Mm w' [(γ1_0, cells6 n), (γ1_1, cells6 a), (γ1_2, cells6 b), (γ1_3, cells6 c), (0, dtab)]) ?pre4 ?F4 ?hpre4 (fun γ => ?hF4) (by kernel_rfl) ?hL4 ?hS4 ?ho4 ?he4
  case hpre4 =>
    simp only [List.take_succ_cons, List.take_zero]
    exact rfl
  case hF4 =>
    simp only [fill, Kind.val, Act.put, List.setIfInBounds_toArray, List.set_cons_zero, List.set_cons_succ]
    exact rfl
  case hL4 => exact trivial
  case hS4 => exact fun w' hb => H3.out.1.below hb
  case ho4 =>
    refine AllOk.cons ?_ ?_
    · exact fun γ => ⟨rfl, fun w' _ => rfl⟩
    refine AllOk.cons ?_ ?_
    · (refine fun γ => ⟨rfl, fun w' h => ?_⟩; clear h; go_simp)
    refine AllOk.cons ?_ ?_
    · exact fun γ => ⟨rfl, fun w' _ => rfl⟩
    refine AllOk.cons ?_ ?_
    · exact fun γ => rfl
    refine AllOk.cons ?_ ?_
    · exact fun γ => rfl
    refine AllOk.cons ?_ ?_
    · (refine fun γ => ⟨rfl, fun w' h => ?_⟩; clear h; go_simp)
    exact trivial
  intro γ w4 l hM hl
  have M4 : Mm w4 [(γ1_0, cells6 n), (γ1_1, cells6 a), (γ1_2, cells6 b), (γ1_3, cells6 c), (0, dtab)] := H3.out.1.grow hM (Nat.le_refl _) hl [] rfl (by decide)
  have B4 : Below w.heap.size w w4 := H3.out.2.trans (hM.below.mono H3.out.2.size)
  clear hM hl l H3
  clear γ
  have H4 : Hid (_ ∧ _) := ⟨M4, B4⟩
  clear M4 B4
  refine rest_at (l := []) rfl ?_
  refine rest_nil ?_
  refine then_normal ?_
  refine wp_cond_true rfl ?_
  refine wp_seq ?_
  refine walk_seq 6 [.quiet (.bool true), .quiet (.bool true), .quiet (.pointer none), .quiet (.bool true), .quiet (.bool true), .quiet (.bool true)] (fun w' => Mm w' [(γ1_0, cells6 n), (γ1_1, cells6 a), (γ1_2, cells6 b), (γ1_3, cells6 c), (0, dtab)]) ?pre5 ?F5 ?hpre5 (fun γ => ?hF5) (by kernel_rfl) ?hL5 ?hS5 ?ho5 ?he5
  case hpre5 =>
    simp only [List.take_succ_cons, List.take_zero]
    exact rfl
  case hF5 =>
    simp only [fill, Kind.val, Act.put, List.setIfInBounds_toArray, List.set_cons_zero, List.set_cons_succ]
    exact rfl
  case hL5 => exact trivial
  case hS5 => exact fun w' hb => H4.out.1.below hb
  case ho5 =>
    refine AllOk.cons ?_ ?_
    · exact fun γ => ⟨rfl, fun w' _ => rfl⟩
    refine AllOk.cons ?_ ?_
    · exact fun γ => ⟨rfl, fun w' _ => rfl⟩
    refine AllOk.cons ?_ ?_
    · exact fun γ => ⟨rfl, fun w' _ => rfl⟩
    refine AllOk.cons ?_ ?_
    · (refine fun γ => ⟨rfl, fun w' h => ?_⟩; clear h; go_simp)
    refine AllOk.cons ?_ ?_
    · (refine fun γ => ⟨rfl, fun w' h => ?_⟩; clear h; go_simp)
    refine AllOk.cons ?_ ?_
    · exact fun γ => ⟨rfl, fun w' _ => rfl⟩
    exact trivial
  intro γ w5 l hM hl
  have M5 : Mm w5 [(γ1_0, cells6 n), (γ1_1, cells6 a), (γ1_2, cells6 b), (γ1_3, cells6 c), (0, dtab)] := H4.out.1.grow hM (Nat.le_refl _) hl [] rfl (by decide)
  have B5 : Below w.heap.size w w5 := H4.out.2.trans (hM.below.mono H4.out.2.size)
  clear hM hl l H4
  clear γ
  have H5 : Hid (_ ∧ _) := ⟨M5, B5⟩
  clear M5 B5
  refine rest_at (l := []) rfl ?_
  refine rest_nil ?_
  refine then_normal ?_
  refine wp_ret ?_
  repeat (first | refine then_ret ?_ | refine block_ret ?_)
  refine bodyPost_ret (v := .bool true) (by simp [results, Tryd.results4, go_sem, *]) rfl ?_
  exact ⟨rfl, H5.out.2⟩
set_option maxHeartbeats 4000000 in
set_option maxRecDepth 100000 in
theorem ring_good (n a b c ab su m3 bc d ac ra k1 s3 bs na nb sb lo hi : Nat)
    (e_ab : ∀ w, (Op.equalIn 10000 24 (N ab) (N ab)).run Tryd.prog w = .ok true w)
    (e_su : ∀ w, (Op.equalIn 10000 24 (N su) (N su)).run Tryd.prog w = .ok true w)
    (e_m3 : ∀ w, (Op.equalIn 10000 24 (N m3) (N m3)).run Tryd.prog w = .ok true w)
    (e_s3 : ∀ w, (Op.equalIn 10000 24 (N s3) (N s3)).run Tryd.prog w = .ok true w)
    (e_d : ∀ w, (Op.equalIn 10000 24 (N d) (N d)).run Tryd.prog w = .ok true w)
    (e_sb : ∀ w, (Op.equalIn 10000 24 (N sb) (N sb)).run Tryd.prog w = .ok true w)
    (e_ra : ∀ w, (Op.equalIn 10000 24 (N ra) (N ra)).run Tryd.prog w = .ok true w)
    (e_0 : ∀ w, (Op.equalIn 10000 24 (N 0) (N 0)).run Tryd.prog w = .ok true w)
    (c0 : ∀ w, Mm w [(0, dtab)] → Calls Tryd.prog 17 #[] w fun e w' => e = .returned (.bool true) ∧ Below w.heap.size w w')
    (c1 : ∀ w, Calls Tryd.prog 18 #[N n] w fun e w' => Below w.heap.size w w' ∧ ∃ g, e = .returned (.tuple #[PT g 0, .int .i64 0]) ∧ w.heap.size ≤ g ∧ g < w'.heap.size ∧ Blk w' g (modc n))
    (c2 : ∀ g w, Mm w [(g, modc n)] → Calls Tryd.prog 15 #[PT g 0, N a, N b] w fun e w' => e = .returned (N ab) ∧ Below w.heap.size w w')
    (c3 : ∀ g w, Mm w [(g, modc n)] → Calls Tryd.prog 15 #[PT g 0, N b, N a] w fun e w' => e = .returned (N ab) ∧ Below w.heap.size w w')
    (c4 : ∀ g w, Mm w [(g, modc n)] → Calls Tryd.prog 15 #[PT g 0, N ab, N c] w fun e w' => e = .returned (N m3) ∧ Below w.heap.size w w')
    (c5 : ∀ g w, Mm w [(g, modc n)] → Calls Tryd.prog 15 #[PT g 0, N b, N c] w fun e w' => e = .returned (N bc) ∧ Below w.heap.size w w')
    (c6 : ∀ g w, Mm w [(g, modc n)] → Calls Tryd.prog 15 #[PT g 0, N a, N bc] w fun e w' => e = .returned (N m3) ∧ Below w.heap.size w w')
    (c7 : ∀ g w, Mm w [(g, modc n)] → Calls Tryd.prog 15 #[PT g 0, N su, N c] w fun e w' => e = .returned (N d) ∧ Below w.heap.size w w')
    (c8 : ∀ g w, Mm w [(g, modc n)] → Calls Tryd.prog 15 #[PT g 0, N a, N c] w fun e w' => e = .returned (N ac) ∧ Below w.heap.size w w')
    (c9 : ∀ g w, Mm w [(g, modc n)] → Calls Tryd.prog 15 #[PT g 0, N a, N k1] w fun e w' => e = .returned (N ra) ∧ Below w.heap.size w w')
    (c10 : ∀ g w, Mm w [(g, modc n)] → Calls Tryd.prog 12 #[PT g 0, N a, N b] w fun e w' => e = .returned (N su) ∧ Below w.heap.size w w')
    (c11 : ∀ g w, Mm w [(g, modc n)] → Calls Tryd.prog 12 #[PT g 0, N b, N a] w fun e w' => e = .returned (N su) ∧ Below w.heap.size w w')
    (c12 : ∀ g w, Mm w [(g, modc n)] → Calls Tryd.prog 12 #[PT g 0, N su, N c] w fun e w' => e = .returned (N s3) ∧ Below w.heap.size w w')
    (c13 : ∀ g w, Mm w [(g, modc n)] → Calls Tryd.prog 12 #[PT g 0, N b, N c] w fun e w' => e = .returned (N bs) ∧ Below w.heap.size w w')
    (c14 : ∀ g w, Mm w [(g, modc n)] → Calls Tryd.prog 12 #[PT g 0, N a, N bs] w fun e w' => e = .returned (N s3) ∧ Below w.heap.size w w')
    (c15 : ∀ g w, Mm w [(g, modc n)] → Calls Tryd.prog 12 #[PT g 0, N ac, N bc] w fun e w' => e = .returned (N d) ∧ Below w.heap.size w w')
    (c16 : ∀ g w, Mm w [(g, modc n)] → Calls Tryd.prog 12 #[PT g 0, N a, N na] w fun e w' => e = .returned (N 0) ∧ Below w.heap.size w w')
    (c17 : ∀ g w, Mm w [(g, modc n)] → Calls Tryd.prog 12 #[PT g 0, N a, N nb] w fun e w' => e = .returned (N sb) ∧ Below w.heap.size w w')
    (c18 : ∀ g w, Mm w [(g, modc n)] → Calls Tryd.prog 14 #[PT g 0, N a] w fun e w' => e = .returned (N na) ∧ Below w.heap.size w w')
    (c19 : ∀ g w, Mm w [(g, modc n)] → Calls Tryd.prog 14 #[PT g 0, N b] w fun e w' => e = .returned (N nb) ∧ Below w.heap.size w w')
    (c20 : ∀ g w, Mm w [(g, modc n)] → Calls Tryd.prog 13 #[PT g 0, N a, N b] w fun e w' => e = .returned (N sb) ∧ Below w.heap.size w w')
    (c21 : ∀ g w, Mm w [(g, modc n)] → Calls Tryd.prog 10 #[PT g 0, N a] w fun e w' => e = .returned (N ra) ∧ Below w.heap.size w w')
    (c22 : ∀ w, Calls Tryd.prog 19 #[.int .u64 1] w fun e w' => e = .returned (N k1) ∧ Below w.heap.size w w')
    (c23 : ∀ w, Calls Tryd.prog 20 #[N a, N b] w fun e w' => e = .returned (.tuple #[N lo, N hi]) ∧ Below w.heap.size w w')
    (c24 : ∀ g w, Mm w [(g, modc n)] → Calls Tryd.prog 11 #[PT g 0, N lo, N hi] w fun e w' => e = .returned (N ab) ∧ Below w.heap.size w w')
    (c25 : ∀ w, Calls Tryd.prog 21 #[N ab, N n] w fun e w' => e = .returned (.int .i64 (-1)) ∧ Below w.heap.size w w')
    (c26 : ∀ w, Calls Tryd.prog 21 #[N su, N n] w fun e w' => e = .returned (.int .i64 (-1)) ∧ Below w.heap.size w w') (w : World) (hm : Mm w [(0, dtab)]) :
    Calls Tryd.prog 4 #[N n, N a, N b, N c] w fun e w' => e = .returned (.bool true) ∧ Below w.heap.size w w' := by
  have H0 : Hid (_ ∧ _) := ⟨hm, Below.refl w.heap.size w⟩
  clear hm
  have C0 : Hid _ := c0
  have C1 : Hid _ := c1
  have C2 : Hid _ := c2
  have C3 : Hid _ := c3
  have C4 : Hid _ := c4
  have C5 : Hid _ := c5
  have C6 : Hid _ := c6
  have C7 : Hid _ := c7
  have C8 : Hid _ := c8
  have C9 : Hid _ := c9
  have C10 : Hid _ := c10
  have C11 : Hid _ := c11
  have C12 : Hid _ := c12
  have C13 : Hid _ := c13
  have C14 : Hid _ := c14
  have C15 : Hid _ := c15
  have C16 : Hid _ := c16
  have C17 : Hid _ := c17
  have C18 : Hid _ := c18
  have C19 : Hid _ := c19
  have C20 : Hid _ := c20
  have C21 : Hid _ := c21
  have C22 : Hid _ := c22
  have C23 : Hid _ := c23
  have C24 : Hid _ := c24
  have C25 : Hid _ := c25
  have C26 : Hid _ := c26
  clear c0 c1 c2 c3 c4 c5 c6 c7 c8 c9 c10 c11 c12 c13 c14 c15 c16 c17 c18 c19 c20 c21 c22 c23 c24 c25 c26
  go_enter Tryd.func4, Tryd.ntmps4
  refine wp_seq ?_
  refine walk_seq 5 [.made (cells6 n) 24, .made (cells6 a) 24, .made (cells6 b) 24, .made (cells6 c) 24, .quiet (.bool false)] (fun w' => Mm w' [(0, dtab)]) ?pre1 ?F1 ?hpre1 (fun γ => ?hF1) (by kernel_rfl) ?hL1 ?hS1 ?ho1 ?he1
  case hpre1 =>
    simp only [List.take_succ_cons, List.take_zero]
    exact rfl
  case hF1 =>
    simp only [fill, Kind.val, Act.put, List.setIfInBounds_toArray, List.set_cons_zero, List.set_cons_succ]
    exact rfl
  case hL1 => exact trivial
  case hS1 => exact fun w' hb => H0.out.1.below hb
  case ho1 =>
    refine AllOk.cons ?_ ?_
    · exact fun γ => ⟨rfl, fun w' => ex_box6 rfl rfl⟩
    refine AllOk.cons ?_ ?_
    · exact fun γ => ⟨rfl, fun w' => ex_box6 rfl rfl⟩
    refine AllOk.cons ?_ ?_
    · exact fun γ => ⟨rfl, fun w' => ex_box6 rfl rfl⟩
    refine AllOk.cons ?_ ?_
    · exact fun γ => ⟨rfl, fun w' => ex_box6 rfl rfl⟩
    refine AllOk.cons ?_ ?_
    · exact fun γ => ⟨rfl, fun w' _ => rfl⟩
    exact trivial
  intro γ w1 l hM hl
  have M1 : Mm w1 [(γ 0, cells6 n), (γ 1, cells6 a), (γ 2, cells6 b), (γ 3, cells6 c), (0, dtab)] := H0.out.1.grow hM (Nat.le_refl _) hl [0, 1, 2, 3] rfl (by decide)
  have B1 : Below w.heap.size w w1 := H0.out.2.trans (hM.below.mono H0.out.2.size)
  have o1_0 : Hid (w.heap.size ≤ γ 0) := Nat.le_trans H0.out.2.size (hM.fin (Nat.le_refl _) hl (i := 0) rfl).2.1
  have o1_1 : Hid (w.heap.size ≤ γ 1) := Nat.le_trans H0.out.2.size (hM.fin (Nat.le_refl _) hl (i := 1) rfl).2.1
  have o1_2 : Hid (w.heap.size ≤ γ 2) := Nat.le_trans H0.out.2.size (hM.fin (Nat.le_refl _) hl (i := 2) rfl).2.1
  have o1_3 : Hid (w.heap.size ≤ γ 3) := Nat.le_trans H0.out.2.size (hM.fin (Nat.le_refl _) hl (i := 3) rfl).2.1
  clear hM hl l
  generalize γ 0 = γ1_0 at M1 o1_0 ⊢
  generalize γ 1 = γ1_1 at M1 o1_1 ⊢
  generalize γ 2 = γ1_2 at M1 o1_2 ⊢
  generalize γ 3 = γ1_3 at M1 o1_3 ⊢
  clear γ
  have H1 : Hid (_ ∧ _) := ⟨M1, B1⟩
  clear M1 B1
  refine rest_at (l := []) rfl ?_
  refine rest_nil ?_
  refine then_normal ?_
  refine wp_seq ?_
  refine walk_seq 2 [.call (.bool true), .quiet (.bool true)] (fun w' => Mm w' [(γ1_0, cells6 n), (γ1_1, cells6 a), (γ1_2, cells6 b), (γ1_3, cells6 c), (0, dtab)]) ?pre2 ?F2 ?hpre2 (fun γ => ?hF2) (by kernel_rfl) ?hL2 ?hS2 ?ho2 ?he2
  case hpre2 =>
    simp only [List.take_succ_cons, List.take_zero]
    exact rfl
  case hF2 =>
    simp only [fill, Kind.val, Act.put, List.setIfInBounds_toArray, List.set_cons_zero, List.set_cons_succ]
    exact rfl
  case hL2 => exact trivial
  case hS2 => exact fun w' hb => H1.out.1.below hb
  case ho2 =>
    refine AllOk.cons ?_ ?_
    · exact fun γ => ⟨rfl, fun w' h => ⟨17, #[], exec_call rfl call17 rfl (by simp only [List.map_toArray, List.map_nil]), C0.out w' (h.one 4 rfl)⟩⟩
    refine AllOk.cons ?_ ?_
    · exact fun γ => ⟨rfl, fun w' _ => rfl⟩
    exact trivial
  intro γ w2 l hM hl
  have M2 : Mm w2 [(γ1_0, cells6 n), (γ1_1, cells6 a), (γ1_2, cells6 b), (γ1_3, cells6 c), (0, dtab)] := H1.out.1.grow hM (Nat.le_refl _) hl [] rfl (by decide)
  have B2 : Below w.heap.size w w2 := H1.out.2.trans (hM.below.mono H1.out.2.size)
  clear hM hl l H1
  clear γ
  have H2 : Hid (_ ∧ _) := ⟨M2, B2⟩
  clear M2 B2
  refine rest_at (l := []) rfl ?_
  refine rest_nil ?_
  refine then_normal ?_
  refine wp_seq ?_
  refine walk_seq 2 [.quiet (N n), .born (fun g => .tuple #[PT g 0, .int .i64 0]) (modc n)] (fun w' => Mm w' [(γ1_0, cells6 n), (γ1_1, cells6 a), (γ1_2, cells6 b), (γ1_3, cells6 c), (0, dtab)]) ?pre3 ?F3 ?hpre3 (fun γ => ?hF3) (by kernel_rfl) ?hL3 ?hS3 ?ho3 ?he3
  case hpre3 =>
    simp only [List.take_succ_cons, List.take_zero]
    exact rfl
  case hF3 =>
    simp only [fill, Kind.val, Act.put, List.setIfInBounds_toArray, List.set_cons_zero, List.set_cons_succ]
    exact rfl
  case hL3 => exact trivial
  case hS3 => exact fun w' hb => H2.out.1.below hb
  case ho3 =>
    refine AllOk.cons ?_ ?_
    · exact fun γ => ⟨rfl, fun w' h => ex_load6 h 0 rfl rfl rfl rfl⟩
    refine AllOk.cons ?_ ?_
    · exact fun γ => ⟨rfl, fun w' h => ⟨18, #[N n], exec_call rfl call18 rfl (by simp only [List.map_toArray, List.map_cons, List.map_nil]; rfl), C1.out w'⟩⟩
    exact trivial
  intro γ w3 l hM hl
  have M3 : Mm w3 [(γ 1, modc n), (γ1_0, cells6 n), (γ1_1, cells6 a), (γ1_2, cells6 b), (γ1_3, cells6 c), (0, dtab)] := H2.out.1.grow hM (Nat.le_refl _) hl [1] rfl (by decide)
  have B3 : Below w.heap.size w w3 := H2.out.2.trans (hM.below.mono H2.out.2.size)
  have o3_1 : Hid (w.heap.size ≤ γ 1) := Nat.le_trans H2.out.2.size (hM.fin (Nat.le_refl _) hl (i := 1) rfl).2.1
  clear hM hl l H2
  generalize γ 1 = γ3_1 at M3 o3_1 ⊢
  clear γ
  have H3 : Hid (_ ∧ _) := ⟨M3, B3⟩
  clear M3 B3
  refine rest_at (l := [2, 3, 4, 5, 6]) rfl ?_
  refine rest_set (d := 20) rfl rfl rfl rfl ?_
  simp only [Act.put, List.setIfInBounds_toArray, List.set_cons_zero, List.set_cons_succ]
  refine rest_set (d := 23) (v := PT γ3_1 0) (w' := w3) rfl rfl rfl (by go_simp) ?_
  simp only [Act.put, List.setIfInBounds_toArray, List.set_cons_zero, List.set_cons_succ]
  refine rest_set (d := 24) (v := .int .i64 0) (w' := w3) rfl rfl rfl (by go_simp) ?_
  simp only [Act.put, List.setIfInBounds_toArray, List.set_cons_zero, List.set_cons_succ]
  refine rest_set (d := 10) rfl rfl rfl rfl ?_
  simp only [Act.put, List.setIfInBounds_toArray, List.set_cons_zero, List.set_cons_succ]
  refine rest_set (d := 11) rfl rfl rfl rfl ?_
  simp only [Act.put, List.setIfInBounds_toArray, List.set_cons_zero, List.set_cons_succ]
  refine rest_nil ?_
  refine then_normal ?_
  refine wp_seq ?_
  refine wp_seq ?_
  refine walk_seq 6 [.quiet (.int .i64 0), .quiet (.bool false), .quiet (.bool false), .quiet (PT γ3_1 0), .quiet (.bool false), .quiet (.bool false)] (fun w' => Mm w' [(γ3_1, modc n), (γ1_0, cells6 n), (γ1_1, cells6 a), (γ1_2, cells6 b), (γ1_3, cells6 c), (0, dtab)]) ?pre4 ?F4 ?hpre4 (fun γ => ?hF4) (by kernel_rfl) ?hL4 ?hS4 ?ho4 ?he4
  case hpre4 =>
    simp only [List.take_succ_cons, List.take_zero]
    exact rfl
  case hF4 =>
    simp only [fill, Kind.val, Act.put, List.setIfInBounds_toArray, List.set_cons_zero, List.set_cons_succ]
    exact rfl
  case hL4 => exact trivial
  case hS4 => exact fun w' hb => H3.out.1.below hb
  case ho4 =>
    refine AllOk.cons ?_ ?_
    · exact fun γ => ⟨rfl, fun w' _ => rfl⟩
    refine AllOk.cons ?_ ?_
    · (refine fun γ => ⟨rfl, fun w' h => ?_⟩; clear h; go_simp)
    refine AllOk.cons ?_ ?_
    · exact fun γ => ⟨rfl, fun w' _ => rfl⟩
    refine AllOk.cons ?_ ?_
    · exact fun γ => ⟨rfl, fun w' _ => rfl⟩
    refine AllOk.cons ?_ ?_
    · (refine fun γ => ⟨rfl, fun w' h => ?_⟩; clear h; go_simp)
    refine AllOk.cons ?_ ?_
    · (refine fun γ => ⟨rfl, fun w' h => ?_⟩; clear h; go_simp)
    exact trivial
  intro γ w4 l hM hl
  have M4 : Mm w4 [(γ3_1, modc n), (γ1_0, cells6 n), (γ1_1, cells6 a), (γ1_2, cells6 b), (γ1_3, cells6 c), (0, dtab)] := H3.out.1.grow hM (Nat.le_refl _) hl [] rfl (by decide)
  have B4 : Below w.heap.size w w4 := H3.out.2.trans (hM.below.mono H3.out.2.size)
  clear hM hl l H3
  clear γ
  have H4 : Hid (_ ∧ _) := ⟨M4, B4⟩
  clear M4 B4
  refine rest_at (l := []) rfl ?_
  refine rest_nil ?_
  refine then_normal ?_
  refine wp_cond_false rfl ?_
  refine wp_skip ?_
  refine then_normal ?_
  refine wp_seq ?_
  refine walk_any (by kernel_rfl) 12 [.quiet (PT γ3_1 0), .quiet (N a), .quiet (N b), .call (N ab), .quiet (PT γ3_1 0), .quiet (N b), .quiet (N a), .call (N ab), .made zero6 24, .made zero6 24, .laid 8 zero6 (cells6 ab), .laid 9 zero6 (cells6 ab)] (fun w' => Mm w' [(γ3_1, modc n), (γ1_0, cells6 n), (γ1_1, cells6 a), (γ1_2, cells6 b), (γ1_3, cells6 c), (0, dtab)]) ?pre5 ?F5 ?hpre5 (fun γ => ?hF5) (by kernel_rfl) ?hL5 ?hS5 ?ho5 ?he5
  case hpre5 =>
    simp only [List.take_succ_cons, List.take_zero]
    exact rfl
  case hF5 =>
    simp only [fill, Kind.val, Act.put, List.setIfInBounds_toArray, List.set_cons_zero, List.set_cons_succ]
    exact rfl
  case hL5 => exact ⟨⟨_, rfl⟩, ⟨_, rfl⟩, trivial⟩
  case hS5 => exact fun w' hb => H4.out.1.below hb
  case ho5 =>
    refine AllOk.cons ?_ ?_
    · exact fun γ => ⟨rfl, fun w' _ => rfl⟩
    refine AllOk.cons ?_ ?_
    · exact fun γ => ⟨rfl, fun w' h => ex_load6 h 2 rfl rfl rfl rfl⟩
    refine AllOk.cons ?_ ?_
    · exact fun γ => ⟨rfl, fun w' h => ex_load6 h 3 rfl rfl rfl rfl⟩
    refine AllOk.cons ?_ ?_
    · exact fun γ => ⟨rfl, fun w' h => ⟨15, #[PT γ3_1 0, N a, N b], exec_call rfl call15 rfl (by simp only [List.map_toArray, List.map_cons, List.map_nil]; rfl), C2.out _ w' (h.one 0 rfl)⟩⟩
    refine AllOk.cons ?_ ?_
    · exact fun γ => ⟨rfl, fun w' _ => rfl⟩
    refine AllOk.cons ?_ ?_
    · exact fun γ => ⟨rfl, fun w' h => ex_load6 h 3 rfl rfl rfl rfl⟩
    refine AllOk.cons ?_ ?_
    · exact fun γ => ⟨rfl, fun w' h => ex_load6 h 2 rfl rfl rfl rfl⟩
    refine AllOk.cons ?_ ?_
    · exact fun γ => ⟨rfl, fun w' h => ⟨15, #[PT γ3_1 0, N b, N a], exec_call rfl call15 rfl (by simp only [List.map_toArray, List.map_cons, List.map_nil]; rfl), C3.out _ w' (h.one 0 rfl)⟩⟩
    refine AllOk.cons ?_ ?_
    · exact fun γ => ⟨rfl, fun w' => exec_made6 rfl⟩
    refine AllOk.cons ?_ ?_
    · exact fun γ => ⟨rfl, fun w' => exec_made6 rfl⟩
    refine AllOk.cons ?_ ?_
    · exact fun γ => ⟨rfl, rfl, rfl, fun w' h => exec_laid6 h rfl rfl rfl⟩
    refine AllOk.cons ?_ ?_
    · exact fun γ => ⟨rfl, rfl, rfl, fun w' h => exec_laid6 h rfl rfl rfl⟩
    exact trivial
  intro γ w5 l hM hl
  have M5 : Mm w5 [(γ 8, cells6 ab), (γ 9, cells6 ab), (γ3_1, modc n), (γ1_0, cells6 n), (γ1_1, cells6 a), (γ1_2, cells6 b), (γ1_3, cells6 c), (0, dtab)] := H4.out.1.grow hM (Nat.le_refl _) hl [8, 9] rfl (by decide)
  have B5 : Below w.heap.size w w5 := H4.out.2.trans (hM.below.mono H4.out.2.size)
  have o5_8 : Hid (w.heap.size ≤ γ 8) := Nat.le_trans H4.out.2.size (hM.fin (Nat.le_refl _) hl (i := 8) rfl).2.1
  have o5_9 : Hid (w.heap.size ≤ γ 9) := Nat.le_trans H4.out.2.size (hM.fin (Nat.le_refl _) hl (i := 9) rfl).2.1
  clear hM hl l H4
  generalize γ 8 = γ5_8 at M5 o5_8 ⊢
  generalize γ 9 = γ5_9 at M5 o5_9 ⊢
  clear γ
  have H5 : Hid (_ ∧ _) := ⟨M5, B5⟩
  clear M5 B5
  refine rest_at (l := []) rfl ?_
  refine rest_nil ?_
  refine then_normal ?_
  refine wp_seq ?_
  refine walk_seq 6 [.quiet (PT γ3_1 0), .quiet (N a), .quiet (N b), .call (N su), .made zero6 24, .laid 4 zero6 (cells6 su)] (fun w' => Mm w' [(γ5_8, cells6 ab), (γ5_9, cells6 ab), (γ3_1, modc n), (γ1_0, cells6 n), (γ1_1, cells6 a), (γ1_2, cells6 b), (γ1_3, cells6 c), (0, dtab)]) ?pre6 ?F6 ?hpre6 (fun γ => ?hF6) (by kernel_rfl) ?hL6 ?hS6 ?ho6 ?he6
  case hpre6 =>
    simp only [List.take_succ_cons, List.take_zero]
    exact rfl
  case hF6 =>
    simp only [fill, Kind.val, Act.put, List.setIfInBounds_toArray, List.set_cons_zero, List.set_cons_succ]
    exact rfl
  case hL6 => exact ⟨⟨_, rfl⟩, trivial⟩
  case hS6 => exact fun w' hb => H5.out.1.below hb
  case ho6 =>
    refine AllOk.cons ?_ ?_
    · exact fun γ => ⟨rfl, fun w' _ => rfl⟩
    refine AllOk.cons ?_ ?_
    · exact fun γ => ⟨rfl, fun w' h => ex_load6 h 4 rfl rfl rfl rfl⟩
    refine AllOk.cons ?_ ?_
    · exact fun γ => ⟨rfl, fun w' h => ex_load6 h 5 rfl rfl rfl rfl⟩
    refine AllOk.cons ?_ ?_
    · exact fun γ => ⟨rfl, fun w' h => ⟨12, #[PT γ3_1 0, N a, N b], exec_call rfl call12 rfl (by simp only [List.map_toArray, List.map_cons, List.map_nil]; rfl), C10.out _ w' (h.one 2 rfl)⟩⟩
    refine AllOk.cons ?_ ?_
    · exact fun γ => ⟨rfl, fun w' => exec_made6 rfl⟩
    refine AllOk.cons ?_ ?_
    · exact fun γ => ⟨rfl, rfl, rfl, fun w' h => exec_laid6 h rfl rfl rfl⟩
    exact trivial
  intro γ w6 l hM hl
  have M6 : Mm w6 [(γ 4, cells6 su), (γ5_8, cells6 ab), (γ5_9, cells6 ab), (γ3_1, modc n), (γ1_0, cells6 n), (γ1_1, cells6 a), (γ1_2, cells6 b), (γ1_3, cells6 c), (0, dtab)] := H5.out.1.grow hM (Nat.le_refl _) hl [4] rfl (by decide)
  have B6 : Below w.heap.size w w6 := H5.out.2.trans (hM.below.mono H5.out.2.size)
  have o6_4 : Hid (w.heap.size ≤ γ 4) := Nat.le_trans H5.out.2.size (hM.fin (Nat.le_refl _) hl (i := 4) rfl).2.1
  clear hM hl l H5
  generalize γ 4 = γ6_4 at M6 o6_4 ⊢
  clear γ
  have H6 : Hid (_ ∧ _) := ⟨M6, B6⟩
  clear M6 B6
  refine rest_at (l := []) rfl ?_
  refine rest_nil ?_
  refine then_normal ?_
  refine wp_seq ?_
  refine walk_any (by kernel_rfl) 57 [.quiet (N ab), .quiet (N ab), .quiet (.bool true), .quiet (.bool true), .quiet (N su), .quiet (PT γ3_1 0), .quiet (N b), .quiet (N a), .call (N su), .quiet (.bool true), .quiet (.bool true), .quiet (.bool true), .quiet (PT γ3_1 0), .quiet (N ab), .quiet (N c), .call (N m3), .quiet (PT γ3_1 0), .quiet (N a), .quiet (PT γ3_1 0), .quiet (N b), .quiet (N c), .call (N bc), .call (N m3), .quiet (.bool true), .quiet (.bool true), .quiet (.bool true), .quiet (PT γ3_1 0), .quiet (N su), .quiet (N c), .call (N s3), .quiet (PT γ3_1 0), .quiet (N a), .quiet (PT γ3_1 0), .quiet (N b), .quiet (N c), .call (N bs), .call (N s3), .quiet (.bool true), .quiet (.bool true), .quiet (.bool true), .quiet (PT γ3_1 0), .quiet (N su), .quiet (N c), .call (N d), .quiet (PT γ3_1 0), .quiet (PT γ3_1 0), .quiet (N a), .quiet (N c), .call (N ac), .quiet (PT γ3_1 0), .quiet (N b), .quiet (N c), .call (N bc), .call (N d), .quiet (.bool true), .quiet (.bool true), .quiet (.bool true)] (fun w' => Mm w' [(γ6_4, cells6 su), (γ5_8, cells6 ab), (γ5_9, cells6 ab), (γ3_1, modc n), (γ1_0, cells6 n), (γ1_1, cells6 a), (γ1_2, cells6 b), (γ1_3, cells6 c), (0, dtab)]) ?pre7 ?F7 ?hpre7 (fun γ => ?hF7) (by kernel_rfl) ?hL7 ?hS7 ?ho7 ?he7
  case hpre7 =>
    simp only [List.take_succ_cons, List.take_zero]
    exact rfl
  case hF7 =>
    simp only [fill, Kind.val, Act.put, List.setIfInBounds_toArray, List.set_cons_zero, List.set_cons_succ]
    exact rfl
  case hL7 => exact trivial
  case hS7 => exact fun w' hb => H6.out.1.below hb
  case ho7 =>
    refine AllOk.cons ?_ ?_
    · exact fun γ => ⟨rfl, fun w' h => ex_load6 h 1 rfl rfl rfl rfl⟩
    refine AllOk.cons ?_ ?_
    · exact fun γ => ⟨rfl, fun w' h => ex_load6 h 2 rfl rfl rfl rfl⟩
    refine AllOk.cons ?_ ?_
    · exact fun γ => ⟨rfl, fun w' _ => exec_eq6 e_ab rfl rfl rfl⟩
    refine AllOk.cons ?_ ?_
    · exact fun γ => ⟨rfl, fun w' _ => rfl⟩
    refine AllOk.cons ?_ ?_
    · exact fun γ => ⟨rfl, fun w' h => ex_load6 h 0 rfl rfl rfl rfl⟩
    refine AllOk.cons ?_ ?_
    · exact fun γ => ⟨rfl, fun w' _ => rfl⟩
    refine AllOk.cons ?_ ?_
    · exact fun γ => ⟨rfl, fun w' h => ex_load6 h 6 rfl rfl rfl rfl⟩
    refine AllOk.cons ?_ ?_
    · exact fun γ => ⟨rfl, fun w' h => ex_load6 h 5 rfl rfl rfl rfl⟩
    refine AllOk.cons ?_ ?_
    · exact fun γ => ⟨rfl, fun w' h => ⟨12, #[PT γ3_1 0, N b, N a], exec_call rfl call12 rfl (by simp only [List.map_toArray, List.map_cons, List.map_nil]; rfl), C11.out _ w' (h.one 3 rfl)⟩⟩
    refine AllOk.cons ?_ ?_
    · exact fun γ => ⟨rfl, fun w' _ => exec_eq6 e_su rfl rfl rfl⟩
    refine AllOk.cons ?_ ?_
    · (refine fun γ => ⟨rfl, fun w' h => ?_⟩; clear h; go_simp)
    refine AllOk.cons ?_ ?_
    · exact fun γ => ⟨rfl, fun w' _ => rfl⟩
    refine AllOk.cons ?_ ?_
    · exact fun γ => ⟨rfl, fun w' _ => rfl⟩
    refine AllOk.cons ?_ ?_
    · exact fun γ => ⟨rfl, fun w' h => ex_load6 h 1 rfl rfl rfl rfl⟩
    refine AllOk.cons ?_ ?_
    · exact fun γ => ⟨rfl, fun w' h => ex_load6 h 7 rfl rfl rfl rfl⟩
    refine AllOk.cons ?_ ?_
    · exact fun γ => ⟨rfl, fun w' h => ⟨15, #[PT γ3_1 0, N ab, N c], exec_call rfl call15 rfl (by simp only [List.map_toArray, List.map_cons, List.map_nil]; rfl), C4.out _ w' (h.one 3 rfl)⟩⟩
    refine AllOk.cons ?_ ?_
    · exact fun γ => ⟨rfl, fun w' _ => rfl⟩
    refine AllOk.cons ?_ ?_
    · exact fun γ => ⟨rfl, fun w' h => ex_load6 h 5 rfl rfl rfl rfl⟩
    refine AllOk.cons ?_ ?_
    · exact fun γ => ⟨rfl, fun w' _ => rfl⟩
    refine AllOk.cons ?_ ?_
    · exact fun γ => ⟨rfl, fun w' h => ex_load6 h 6 rfl rfl rfl rfl⟩
    refine AllOk.cons ?_ ?_
    · exact fun γ => ⟨rfl, fun w' h => ex_load6 h 7 rfl rfl rfl rfl⟩
    refine AllOk.cons ?_ ?_
    · exact fun γ => ⟨rfl, fun w' h => ⟨15, #[PT γ3_1 0, N b, N c], exec_call rfl call15 rfl (by simp only [List.map_toArray, List.map_cons, List.map_nil]; rfl), C5.out _ w' (h.one 3 rfl)⟩⟩
    refine AllOk.cons ?_ ?_
    · exact fun γ => ⟨rfl, fun w' h => ⟨15, #[PT γ3_1 0, N a, N bc], exec_call rfl call15 rfl (by simp only [List.map_toArray, List.map_cons, List.map_nil]; rfl), C6.out _ w' (h.one 3 rfl)⟩⟩
    refine AllOk.cons ?_ ?_
    · exact fun γ => ⟨rfl, fun w' _ => exec_eq6 e_m3 rfl rfl rfl⟩
    refine AllOk.cons ?_ ?_
    · (refine fun γ => ⟨rfl, fun w' h => ?_⟩; clear h; go_simp)
    refine AllOk.cons ?_ ?_
    · exact fun γ => ⟨rfl, fun w' _ => rfl⟩
    refine AllOk.cons ?_ ?_
    · exact fun γ => ⟨rfl, fun w' _ => rfl⟩
    refine AllOk.cons ?_ ?_
    · exact fun γ => ⟨rfl, fun w' h => ex_load6 h 0 rfl rfl rfl rfl⟩
    refine AllOk.cons ?_ ?_
    · exact fun γ => ⟨rfl, fun w' h => ex_load6 h 7 rfl rfl rfl rfl⟩
    refine AllOk.cons ?_ ?_
    · exact fun γ => ⟨rfl, fun w' h => ⟨12, #[PT γ3_1 0, N su, N c], exec_call rfl call12 rfl (by simp only [List.map_toArray, List.map_cons, List.map_nil]; rfl), C12.out _ w' (h.one 3 rfl)⟩⟩
    refine AllOk.cons ?_ ?_
    · exact fun γ => ⟨rfl, fun w' _ => rfl⟩
    refine AllOk.cons ?_ ?_
    · exact fun γ => ⟨rfl, fun w' h => ex_load6 h 5 rfl rfl rfl rfl⟩
    refine AllOk.cons ?_ ?_
    · exact fun γ => ⟨rfl, fun w' _ => rfl⟩
    refine AllOk.cons ?_ ?_
    · exact fun γ => ⟨rfl, fun w' h => ex_load6 h 6 rfl rfl rfl rfl⟩
    refine AllOk.cons ?_ ?_
    · exact fun γ => ⟨rfl, fun w' h => ex_load6 h 7 rfl rfl rfl rfl⟩
    refine AllOk.cons ?_ ?_
    · exact fun γ => ⟨rfl, fun w' h => ⟨12, #[PT γ3_1 0, N b, N c], exec_call rfl call12 rfl (by simp only [List.map_toArray, List.map_cons, List.map_nil]; rfl), C13.out _ w' (h.one 3 rfl)⟩⟩
    refine AllOk.cons ?_ ?_
    · exact fun γ => ⟨rfl, fun w' h => ⟨12, #[PT γ3_1 0, N a, N bs], exec_call rfl call12 rfl (by simp only [List.map_toArray, List.map_cons, List.map_nil]; rfl), C14.out _ w' (h.one 3 rfl)⟩⟩
    refine AllOk.cons ?_ ?_
    · exact fun γ => ⟨rfl, fun w' _ => exec_eq6 e_s3 rfl rfl rfl⟩
    refine AllOk.cons ?_ ?_
    · (refine fun γ => ⟨rfl, fun w' h => ?_⟩; clear h; go_simp)
    refine AllOk.cons ?_ ?_
    · exact fun γ => ⟨rfl, fun w' _ => rfl⟩
    refine AllOk.cons ?_ ?_
    · exact fun γ => ⟨rfl, fun w' _ => rfl⟩
    refine AllOk.cons ?_ ?_
    · exact fun γ => ⟨rfl, fun w' h => ex_load6 h 0 rfl rfl rfl rfl⟩
    refine AllOk.cons ?_ ?_
    · exact fun γ => ⟨rfl, fun w' h => ex_load6 h 7 rfl rfl rfl rfl⟩
    refine AllOk.cons ?_ ?_
    · exact fun γ => ⟨rfl, fun w' h => ⟨15, #[PT γ3_1 0, N su, N c], exec_call rfl call15 rfl (by simp only [List.map_toArray, List.map_cons, List.map_nil]; rfl), C7.out _ w' (h.one 3 rfl)⟩⟩
    refine AllOk.cons ?_ ?_
    · exact fun γ => ⟨rfl, fun w' _ => rfl⟩
    refine AllOk.cons ?_ ?_
    · exact fun γ => ⟨rfl, fun w' _ => rfl⟩
    refine AllOk.cons ?_ ?_
    · exact fun γ => ⟨rfl, fun w' h => ex_load6 h 5 rfl rfl rfl rfl⟩
    refine AllOk.cons ?_ ?_
    · exact fun γ => ⟨rfl, fun w' h => ex_load6 h 7 rfl rfl rfl rfl⟩
    refine AllOk.cons ?_ ?_
    · exact fun γ => ⟨rfl, fun w' h => ⟨15, #[PT γ3_1 0, N a, N c], exec_call rfl call15 rfl (by simp only [List.map_toArray, List.map_cons, List.map_nil]; rfl), C8.out _ w' (h.one 3 rfl)⟩⟩
    refine AllOk.cons ?_ ?_
    · exact fun γ => ⟨rfl, fun w' _ => rfl⟩
    refine AllOk.cons ?_ ?_
    · exact fun γ => ⟨rfl, fun w' h => ex_load6 h 6 rfl rfl rfl rfl⟩
    refine AllOk.cons ?_ ?_
    · exact fun γ => ⟨rfl, fun w' h => ex_load6 h 7 rfl rfl rfl rfl⟩
    refine AllOk.cons ?_ ?_
    · exact fun γ => ⟨rfl, fun w' h => ⟨15, #[PT γ3_1 0, N b, N c], exec_call rfl call15 rfl (by simp only [List.map_toArray, List.map_cons, List.map_nil]; rfl), C5.out _ w' (h.one 3 rfl)⟩⟩
    refine AllOk.cons ?_ ?_
    · exact fun γ => ⟨rfl, fun w' h => ⟨12, #[PT γ3_1 0, N ac, N bc], exec_call rfl call12 rfl (by simp only [List.map_toArray, List.map_cons, List.map_nil]; rfl), C15.out _ w' (h.one 3 rfl)⟩⟩
    refine AllOk.cons ?_ ?_
    · exact fun γ => ⟨rfl, fun w' _ => exec_eq6 e_d rfl rfl rfl⟩
    refine AllOk.cons ?_ ?_
    · (refine fun γ => ⟨rfl, fun w' h => ?_⟩; clear h; go_simp)
    refine AllOk.cons ?_ ?_
    · exact fun γ => ⟨rfl, fun w' _ => rfl⟩
    exact trivial
  intro γ w7 l hM hl
  have M7 : Mm w7 [(γ6_4, cells6 su), (γ5_8, cells6 ab), (γ5_9, cells6 ab), (γ3_1, modc n), (γ1_0, cells6 n), (γ1_1, cells6 a), (γ1_2, cells6 b), (γ1_3, cells6 c), (0, dtab)] := H6.out.1.grow hM (Nat.le_refl _) hl [] rfl (by decide)
  have B7 : Below w.heap.size w w7 := H6.out.2.trans (hM.below.mono H6.out.2.size)
  clear hM hl l H6
  clear γ
  have H7 : Hid (_ ∧ _) := ⟨M7, B7⟩
  clear M7 B7
  refine rest_at (l := []) rfl ?_
  refine rest_nil ?_
  refine then_normal ?_
  refine wp_seq ?_
  refine walk_any (by kernel_rfl) 32 [.quiet (PT γ3_1 0), .quiet (N a), .quiet (PT γ3_1 0), .quiet (N a), .call (N na), .call (N 0), .quiet (N 0), .quiet (.bool true), .quiet (.bool true), .quiet (PT γ3_1 0), .quiet (N a), .quiet (N b), .call (N sb), .quiet (PT γ3_1 0), .quiet (N a), .quiet (PT γ3_1 0), .quiet (N b), .call (N nb), .call (N sb), .quiet (.bool true), .quiet (.bool true), .quiet (.bool true), .quiet (PT γ3_1 0), .quiet (N a), .call (N k1), .call (N ra), .quiet (PT γ3_1 0), .quiet (N a), .call (N ra), .quiet (.bool true), .quiet (.bool true), .quiet (.bool true)] (fun w' => Mm w' [(γ6_4, cells6 su), (γ5_8, cells6 ab), (γ5_9, cells6 ab), (γ3_1, modc n), (γ1_0, cells6 n), (γ1_1, cells6 a), (γ1_2, cells6 b), (γ1_3, cells6 c), (0, dtab)]) ?pre8 ?F8 ?hpre8 (fun γ => ?hF8) (by kernel_rfl) ?hL8 ?hS8 ?ho8 ?he8
  case hpre8 =>
    simp only [List.take_succ_cons, List.take_zero]
    exact rfl
  case hF8 =>
    simp only [fill, Kind.val, Act.put, List.setIfInBounds_toArray, List.set_cons_zero, List.set_cons_succ]
    exact rfl
  case hL8 => exact trivial
  case hS8 => exact fun w' hb => H7.out.1.below hb
  case ho8 =>
    refine AllOk.cons ?_ ?_
    · exact fun γ => ⟨rfl, fun w' _ => rfl⟩
    refine AllOk.cons ?_ ?_
    · exact fun γ => ⟨rfl, fun w' h => ex_load6 h 5 rfl rfl rfl rfl⟩
    refine AllOk.cons ?_ ?_
    · exact fun γ => ⟨rfl, fun w' _ => rfl⟩
    refine AllOk.cons ?_ ?_
    · exact fun γ => ⟨rfl, fun w' h => ex_load6 h 5 rfl rfl rfl rfl⟩
    refine AllOk.cons ?_ ?_
    · exact fun γ => ⟨rfl, fun w' h => ⟨14, #[PT γ3_1 0, N a], exec_call rfl call14 rfl (by simp only [List.map_toArray, List.map_cons, List.map_nil]; rfl), C18.out _ w' (h.one 3 rfl)⟩⟩
    refine AllOk.cons ?_ ?_
    · exact fun γ => ⟨rfl, fun w' h => ⟨12, #[PT γ3_1 0, N a, N na], exec_call rfl call12 rfl (by simp only [List.map_toArray, List.map_cons, List.map_nil]; rfl), C16.out _ w' (h.one 3 rfl)⟩⟩
    refine AllOk.cons ?_ ?_
    · (refine fun γ => ⟨rfl, fun w' h => ?_⟩; clear h; exact ex_zero6 rfl)
    refine AllOk.cons ?_ ?_
    · exact fun γ => ⟨rfl, fun w' _ => exec_eq6 e_0 rfl rfl rfl⟩
    refine AllOk.cons ?_ ?_
    · exact fun γ => ⟨rfl, fun w' _ => rfl⟩
    refine AllOk.cons ?_ ?_
    · exact fun γ => ⟨rfl, fun w' _ => rfl⟩
    refine AllOk.cons ?_ ?_
    · exact fun γ => ⟨rfl, fun w' h => ex_load6 h 5 rfl rfl rfl rfl⟩
    refine AllOk.cons ?_ ?_
    · exact fun γ => ⟨rfl, fun w' h => ex_load6 h 6 rfl rfl rfl rfl⟩
    refine AllOk.cons ?_ ?_
    · exact fun γ => ⟨rfl, fun w' h => ⟨13, #[PT γ3_1 0, N a, N b], exec_call rfl call13 rfl (by simp only [List.map_toArray, List.map_cons, List.map_nil]; rfl), C20.out _ w' (h.one 3 rfl)⟩⟩
    refine AllOk.cons ?_ ?_
    · exact fun γ => ⟨rfl, fun w' _ => rfl⟩
    refine AllOk.cons ?_ ?_
    · exact fun γ => ⟨rfl, fun w' h => ex_load6 h 5 rfl rfl rfl rfl⟩
    refine AllOk.cons ?_ ?_
    · exact fun γ => ⟨rfl, fun w' _ => rfl⟩
    refine AllOk.cons ?_ ?_
    · exact fun γ => ⟨rfl, fun w' h => ex_load6 h 6 rfl rfl rfl rfl⟩
    refine AllOk.cons ?_ ?_
    · exact fun γ => ⟨rfl, fun w' h => ⟨14, #[PT γ3_1 0, N b], exec_call rfl call14 rfl (by simp only [List.map_toArray, List.map_cons, List.map_nil]; rfl), C19.out _ w' (h.one 3 rfl)⟩⟩
    refine AllOk.cons ?_ ?_
    · exact fun γ => ⟨rfl, fun w' h => ⟨12, #[PT γ3_1 0, N a, N nb], exec_call rfl call12 rfl (by simp only [List.map_toArray, List.map_cons, List.map_nil]; rfl), C17.out _ w' (h.one 3 rfl)⟩⟩
    refine AllOk.cons ?_ ?_
    · exact fun γ => ⟨rfl, fun w' _ => exec_eq6 e_sb rfl rfl rfl⟩
    refine AllOk.cons ?_ ?_
    · (refine fun γ => ⟨rfl, fun w' h => ?_⟩; clear h; go_simp)
    refine AllOk.cons ?_ ?_
    · exact fun γ => ⟨rfl, fun w' _ => rfl⟩
    refine AllOk.cons ?_ ?_
    · exact fun γ => ⟨rfl, fun w' _ => rfl⟩
    refine AllOk.cons ?_ ?_
    · exact fun γ => ⟨rfl, fun w' h => ex_load6 h 5 rfl rfl rfl rfl⟩
    refine AllOk.cons ?_ ?_
    · exact fun γ => ⟨rfl, fun w' h => ⟨19, #[.int .u64 1], exec_call rfl call19 rfl (by simp only [List.map_toArray, List.map_cons, List.map_nil]; rfl), C22.out w'⟩⟩
    refine AllOk.cons ?_ ?_
    · exact fun γ => ⟨rfl, fun w' h => ⟨15, #[PT γ3_1 0, N a, N k1], exec_call rfl call15 rfl (by simp only [List.map_toArray, List.map_cons, List.map_nil]; rfl), C9.out _ w' (h.one 3 rfl)⟩⟩
    refine AllOk.cons ?_ ?_
    · exact fun γ => ⟨rfl, fun w' _ => rfl⟩
    refine AllOk.cons ?_ ?_
    · exact fun γ => ⟨rfl, fun w' h => ex_load6 h 5 rfl rfl rfl rfl⟩
    refine AllOk.cons ?_ ?_
    · exact fun γ => ⟨rfl, fun w' h => ⟨10, #[PT γ3_1 0, N a], exec_call rfl call10 rfl (by simp only [List.map_toArray, List.map_cons, List.map_nil]; rfl), C21.out _ w' (h.one 3 rfl)⟩⟩
    refine AllOk.cons ?_ ?_
    · exact fun γ => ⟨rfl, fun w' _ => exec_eq6 e_ra rfl rfl rfl⟩
    refine AllOk.cons ?_ ?_
    · (refine fun γ => ⟨rfl, fun w' h => ?_⟩; clear h; go_simp)
    refine AllOk.cons ?_ ?_
    · exact fun γ => ⟨rfl, fun w' _ => rfl⟩
    exact trivial
  intro γ w8 l hM hl
  have M8 : Mm w8 [(γ6_4, cells6 su), (γ5_8, cells6 ab), (γ5_9, cells6 ab), (γ3_1, modc n), (γ1_0, cells6 n), (γ1_1, cells6 a), (γ1_2, cells6 b), (γ1_3, cells6 c), (0, dtab)] := H7.out.1.grow hM (Nat.le_refl _) hl [] rfl (by decide)
  have B8 : Below w.heap.size w w8 := H7.out.2.trans (hM.below.mono H7.out.2.size)
  clear hM hl l H7
  clear γ
  have H8 : Hid (_ ∧ _) := ⟨M8, B8⟩
  clear M8 B8
  refine rest_at (l := []) rfl ?_
  refine rest_nil ?_
  refine then_normal ?_
  refine wp_seq ?_
  refine walk_seq 10 [.quiet (N a), .quiet (N b), .call (.tuple #[N lo, N hi]), .quiet (.tuple #[N lo, N hi]), .quiet (N lo), .quiet (N hi), .made zero6 24, .made zero6 24, .laid 6 zero6 (cells6 lo), .laid 7 zero6 (cells6 hi)] (fun w' => Mm w' [(γ6_4, cells6 su), (γ5_8, cells6 ab), (γ5_9, cells6 ab), (γ3_1, modc n), (γ1_0, cells6 n), (γ1_1, cells6 a), (γ1_2, cells6 b), (γ1_3, cells6 c), (0, dtab)]) ?pre9 ?F9 ?hpre9 (fun γ => ?hF9) (by kernel_rfl) ?hL9 ?hS9 ?ho9 ?he9
  case hpre9 =>
    simp only [List.take_succ_cons, List.take_zero]
    exact rfl
  case hF9 =>
    simp only [fill, Kind.val, Act.put, List.setIfInBounds_toArray, List.set_cons_zero, List.set_cons_succ]
    exact rfl
  case hL9 => exact ⟨⟨_, rfl⟩, ⟨_, rfl⟩, trivial⟩
  case hS9 => exact fun w' hb => H8.out.1.below hb
  case ho9 =>
    refine AllOk.cons ?_ ?_
    · exact fun γ => ⟨rfl, fun w' h => ex_load6 h 5 rfl rfl rfl rfl⟩
    refine AllOk.cons ?_ ?_
    · exact fun γ => ⟨rfl, fun w' h => ex_load6 h 6 rfl rfl rfl rfl⟩
    refine AllOk.cons ?_ ?_
    · exact fun γ => ⟨rfl, fun w' h => ⟨20, #[N a, N b], exec_call rfl call20 rfl (by simp only [List.map_toArray, List.map_cons, List.map_nil]; rfl), C23.out w'⟩⟩
    refine AllOk.cons ?_ ?_
    · exact fun γ => ⟨rfl, fun w' _ => rfl⟩
    refine AllOk.cons ?_ ?_
    · (refine fun γ => ⟨rfl, fun w' h => ?_⟩; clear h; go_simp)
    refine AllOk.cons ?_ ?_
    · (refine fun γ => ⟨rfl, fun w' h => ?_⟩; clear h; go_simp)
    refine AllOk.cons ?_ ?_
    · exact fun γ => ⟨rfl, fun w' => exec_made6 rfl⟩
    refine AllOk.cons ?_ ?_
    · exact fun γ => ⟨rfl, fun w' => exec_made6 rfl⟩
    refine AllOk.cons ?_ ?_
    · exact fun γ => ⟨rfl, rfl, rfl, fun w' h => exec_laid6 h rfl rfl rfl⟩
    refine AllOk.cons ?_ ?_
    · exact fun γ => ⟨rfl, rfl, rfl, fun w' h => exec_laid6 h rfl rfl rfl⟩
    exact trivial
  intro γ w9 l hM hl
  have M9 : Mm w9 [(γ 6, cells6 lo), (γ 7, cells6 hi), (γ6_4, cells6 su), (γ5_8, cells6 ab), (γ5_9, cells6 ab), (γ3_1, modc n), (γ1_0, cells6 n), (γ1_1, cells6 a), (γ1_2, cells6 b), (γ1_3, cells6 c), (0, dtab)] := H8.out.1.grow hM (Nat.le_refl _) hl [6, 7] rfl (by decide)
  have B9 : Below w.heap.size w w9 := H8.out.2.trans (hM.below.mono H8.out.2.size)
  have o9_6 : Hid (w.heap.size ≤ γ 6) := Nat.le_trans H8.out.2.size (hM.fin (Nat.le_refl _) hl (i := 6) rfl).2.1
  have o9_7 : Hid (w.heap.size ≤ γ 7) := Nat.le_trans H8.out.2.size (hM.fin (Nat.le_refl _) hl (i := 7) rfl).2.1
  clear hM hl l H8
  generalize γ 6 = γ9_6 at M9 o9_6 ⊢
  generalize γ 7 = γ9_7 at M9 o9_7 ⊢
  clear γ
  have H9 : Hid (_ ∧ _) := ⟨M9, B9⟩
  clear M9 B9
  refine rest_at (l := []) rfl ?_
  refine rest_nil ?_
  refine then_normal ?_
  refine wp_seq ?_
  refine walk_any (by kernel_rfl) 28 [.quiet (.bool true), .quiet (.bool true), .quiet (.bool true), .quiet (.bool true), .quiet (.bool true), .quiet (.bool true), .quiet (.bool true), .quiet (.bool true), .quiet (PT γ3_1 0), .quiet (N lo), .quiet (N hi), .call (N ab), .quiet (N ab), .quiet (.bool true), .quiet (.bool true), .quiet (.bool true), .quiet (N ab), .quiet (N n), .call (.int .i64 (-1)), .quiet (.bool true), .quiet (.bool true), .quiet (.bool true), .quiet (N su), .quiet (N n), .call (.int .i64 (-1)), .quiet (.bool true), .quiet (.bool true), .quiet (.bool true)] (fun w' => Mm w' [(γ9_6, cells6 lo), (γ9_7, cells6 hi), (γ6_4, cells6 su), (γ5_8, cells6 ab), (γ5_9, cells6 ab), (γ3_1, modc n), (γ1_0, cells6 n), (γ1_1, cells6 a), (γ1_2, cells6 b), (γ1_3, cells6 c), (0, dtab)]) ?pre10 ?F10 ?hpre10 (fun γ => ?hF10) (by kernel_rfl) ?hL10 ?hS10 ?ho10 ?he10
  case hpre10 =>
    simp only [List.take_succ_cons, List.take_zero]
    exact rfl
  case hF10 =>
    simp only [fill, Kind.val, Act.put, List.setIfInBounds_toArray, List.set_cons_zero, List.set_cons_succ]
    exact rfl
  case hL10 => exact trivial
  case hS10 => exact fun w' hb => H9.out.1.below hb
  case ho10 =>
    refine AllOk.cons ?_ ?_
    · exact fun γ => ⟨rfl, fun w' _ => rfl⟩
    refine AllOk.cons ?_ ?_
    · exact fun γ => ⟨rfl, fun w' _ => rfl⟩
    refine AllOk.cons ?_ ?_
    · exact fun γ => ⟨rfl, fun w' _ => rfl⟩
    refine AllOk.cons ?_ ?_
    · (refine fun γ => ⟨rfl, fun w' h => ?_⟩; clear h; go_simp)
    refine AllOk.cons ?_ ?_
    · exact fun γ => ⟨rfl, fun w' _ => rfl⟩
    refine AllOk.cons ?_ ?_
    · exact fun γ => ⟨rfl, fun w' _ => rfl⟩
    refine AllOk.cons ?_ ?_
    · (refine fun γ => ⟨rfl, fun w' h => ?_⟩; clear h; go_simp)
    refine AllOk.cons ?_ ?_
    · exact fun γ => ⟨rfl, fun w' _ => rfl⟩
    refine AllOk.cons ?_ ?_
    · exact fun γ => ⟨rfl, fun w' _ => rfl⟩
    refine AllOk.cons ?_ ?_
    · exact fun γ => ⟨rfl, fun w' h => ex_load6 h 0 rfl rfl rfl rfl⟩
    refine AllOk.cons ?_ ?_
    · exact fun γ => ⟨rfl, fun w' h => ex_load6 h 1 rfl rfl rfl rfl⟩
    refine AllOk.cons ?_ ?_
    · exact fun γ => ⟨rfl, fun w' h => ⟨11, #[PT γ3_1 0, N lo, N hi], exec_call rfl call11 rfl (by simp only [List.map_toArray, List.map_cons, List.map_nil]; rfl), C24.out _ w' (h.one 5 rfl)⟩⟩
    refine AllOk.cons ?_ ?_
    · exact fun γ => ⟨rfl, fun w' h => ex_load6 h 3 rfl rfl rfl rfl⟩
    refine AllOk.cons ?_ ?_
    · exact fun γ => ⟨rfl, fun w' _ => exec_eq6 e_ab rfl rfl rfl⟩
    refine AllOk.cons ?_ ?_
    · (refine fun γ => ⟨rfl, fun w' h => ?_⟩; clear h; go_simp)
    refine AllOk.cons ?_ ?_
    · exact fun γ => ⟨rfl, fun w' _ => rfl⟩
    refine AllOk.cons ?_ ?_
    · exact fun γ => ⟨rfl, fun w' h => ex_load6 h 3 rfl rfl rfl rfl⟩
    refine AllOk.cons ?_ ?_
    · exact fun γ => ⟨rfl, fun w' h => ex_load6 h 6 rfl rfl rfl rfl⟩
    refine AllOk.cons ?_ ?_
    · exact fun γ => ⟨rfl, fun w' h => ⟨21, #[N ab, N n], exec_call rfl call21 rfl (by simp only [List.map_toArray, List.map_cons, List.map_nil]; rfl), C25.out w'⟩⟩
    refine AllOk.cons ?_ ?_
    · (refine fun γ => ⟨rfl, fun w' h => ?_⟩; clear h; go_simp)
    refine AllOk.cons ?_ ?_
    · (refine fun γ => ⟨rfl, fun w' h => ?_⟩; clear h; go_simp)
    refine AllOk.cons ?_ ?_
    · exact fun γ => ⟨rfl, fun w' _ => rfl⟩
    refine AllOk.cons ?_ ?_
    · exact fun γ => ⟨rfl, fun w' h => ex_load6 h 2 rfl rfl rfl rfl⟩
    refine AllOk.cons ?_ ?_
    · exact fun γ => ⟨rfl, fun w' h => ex_load6 h 6 rfl rfl rfl rfl⟩
    refine AllOk.cons ?_ ?_
    · exact fun γ => ⟨rfl, fun w' h => ⟨21, #[N su, N n], exec_call rfl call21 rfl (by simp only [List.map_toArray, List.map_cons, List.map_nil]; rfl), C26.out w'⟩⟩
    refine AllOk.cons ?_ ?_
    · (refine fun γ => ⟨rfl, fun w' h => ?_⟩; clear h; go_simp)
    refine AllOk.cons ?_ ?_
    · (refine fun γ => ⟨rfl, fun w' h => ?_⟩; clear h; go_simp)
    refine AllOk.cons ?_ ?_
    · exact fun γ => ⟨rfl, fun w' _ => rfl⟩
    exact trivial
  intro γ w10 l hM hl
  have M10 : Mm w10 [(γ9_6, cells6 lo), (γ9_7, cells6 hi), (γ6_4, cells6 su), (γ5_8, cells6 ab), (γ5_9, cells6 ab), (γ3_1, modc n), (γ1_0, cells6 n), (γ1_1, cells6 a), (γ1_2, cells6 b), (γ1_3, cells6 c), (0, dtab)] := H9.out.1.grow hM (Nat.le_refl _) hl [] rfl (by decide)
  have B10 : Below w.heap.size w w10 := H9.out.2.trans (hM.below.mono H9.out.2.size)
  clear hM hl l H9
  clear γ
  have H10 : Hid (_ ∧ _) := ⟨M10, B10⟩
  clear M10 B10
  refine rest_at (l := []) rfl ?_
  refine rest_nil ?_
  refine then_normal ?_
  refine wp_ret ?_
  repeat (first | refine then_ret ?_ | refine block_ret ?_)
  refine bodyPost_ret (v := .bool true) (by simp [results, Tryd.results4, go_sem, *]) rfl ?_
  exact ⟨rfl, H10.out.2⟩
theorem eq_refl6 {v : Nat} (h : v < big) (w : World) : (Op.equalIn 10000 24 (N v) (N v)).run Tryd.prog w = .ok true w := by
  rw [run_eqN v v h h, decide_eq_true rfl]
theorem ring_any (n a b c : Nat) (hn : n < big) (ha : a < big) (hb : b < big) (hc : c < big) (w : World) (hm : Mm w [(0, dtab)]) :
    Calls Tryd.prog 4 #[N n, N a, N b, N c] w fun e w' => e = .returned (.bool true) ∧ Below w.heap.size w w' := by
  by_cases ok : Ok n
  · have l := okLt ok
    have hp := ok.pos
    have hs : ∀ x y, subm n x y < big := fun x y => Nat.lt_trans (subm_lt_n hp x y) ok.big
    have hlo : a * b % big < big := Nat.mod_lt _ big_pos
    have hhi : a * b / big < big := Nat.div_lt_of_lt_mul (Nat.mul_lt_mul_of_lt_of_lt ha hb)
    refine ring_good n a b c (a * b % n) ((a + b) % n) (a * b * c % n) (b * c % n) ((a + b) * c % n) (a * c % n) (a % n) 1 ((a + b + c) % n) ((b + c) % n) (subm n 0 a) (subm n 0 b) (subm n a b) (a * b % big) (a * b / big)
      (eq_refl6 (l _)) (eq_refl6 (l _)) (eq_refl6 (l _)) (eq_refl6 (l _)) (eq_refl6 (l _)) (eq_refl6 (hs _ _)) (eq_refl6 (l _)) (eq_refl6 big_pos)
      awake_any (fun w => new_ok ok w)
      (fun g w hm => mulm_any ok ha hb w hm) (fun g w hm => by rw [Nat.mul_comm a b]; exact mulm_any ok hb ha w hm) (fun g w hm => ?_) (fun g w hm => mulm_any ok hb hc w hm) (fun g w hm => ?_) (fun g w hm => ?_) (fun g w hm => mulm_any ok ha hc w hm) (fun g w hm => ?_)
      (fun g w hm => addm_any ok ha hb w hm) (fun g w hm => by rw [Nat.add_comm a b]; exact addm_any ok hb ha w hm) (fun g w hm => ?_) (fun g w hm => addm_any ok hb hc w hm) (fun g w hm => ?_) (fun g w hm => ?_) (fun g w hm => ?_) (fun g w hm => ?_)
      (fun g w hm => negm_any ok ha w hm) (fun g w hm => negm_any ok hb w hm) (fun g w hm => subm_any ok ha hb w hm) (fun g w hm => reduce_any ok ha w hm) (fun w => of_any 1 (by decide) w)
      (fun w => mul_any a b ha hb w) (fun g w hm => ?_) (fun w => ?_) (fun w => ?_) w hm
    · have h := mulm_any (g := g) ok (l (a * b)) hc w hm
      rw [Nat.mod_mul_mod] at h
      exact h
    · have h := mulm_any (g := g) ok ha (l (b * c)) w hm
      rw [Nat.mul_mod_mod, ← Nat.mul_assoc] at h
      exact h
    · have h := mulm_any (g := g) ok (l (a + b)) hc w hm
      rw [Nat.mod_mul_mod] at h
      exact h
    · have h := mulm_any (g := g) ok ha (small_big 1 (by decide)) w hm
      rw [Nat.mul_one] at h
      exact h
    · have h := addm_any (g := g) ok (l (a + b)) hc w hm
      rw [Nat.mod_add_mod] at h
      exact h
    · have h := addm_any (g := g) ok ha (l (b + c)) w hm
      rw [Nat.add_mod_mod, ← Nat.add_assoc] at h
      exact h
    · have h := addm_any (g := g) ok (l (a * c)) (l (b * c)) w hm
      rw [← Nat.add_mod, ← Nat.add_mul] at h
      exact h
    · have h := addm_any (g := g) ok ha (hs 0 a) w hm
      have e : (a + subm n 0 a) % n = 0 := by
        unfold subm
        rw [Nat.add_mod_mod, Nat.zero_add]
        have h1 := Nat.div_add_mod a n
        have h2 := Nat.mod_lt a hp
        rw [show a + (n - a % n) = n * (a / n + 1) by rw [Nat.mul_add]; omega, Nat.mul_mod_right]
      rw [e] at h
      exact h
    · have h := addm_any (g := g) ok ha (hs 0 b) w hm
      have e : (a + subm n 0 b) % n = subm n a b := by
        unfold subm
        rw [Nat.add_mod_mod, Nat.zero_add]
      rw [e] at h
      exact h
    · have h := wide_any (g := g) ok hlo hhi w hm
      rw [show a * b % big + a * b / big * big = a * b by rw [Nat.mul_comm (a * b / big)]; exact Nat.mod_add_div _ _] at h
      exact h
    · have h := compare_any (a * b % n) n (l _) hn w
      rw [cmp_lt (Nat.mod_lt _ hp)] at h
      exact h
    · have h := compare_any ((a + b) % n) n (l _) hn w
      rw [cmp_lt (Nat.mod_lt _ hp)] at h
      exact h
  · exact ring_bad n a b c awake_any (fun w => new_bad hn ok w) w hm
end Rg
end Go.Proofs.YtbbocdamhkkiiaaDoor
end
