/- The law LittleTells -/
import Derived.Test.YtjmbgchoioepjaaM3
namespace Go.Proofs.Ytjmbgchoioepjaa
open Go.RowKit
namespace Rg
open NT
theorem ex_eqB {ρ : Operand → Value} {o : Oper} {x y : Operand} {t : Bool} {w : World} (ho : o.op = .binOp .eql 4 x y 4) (hx : ρ x = .bool t) (hy : ρ y = .bool t) : (execOp ρ o).run Try.prog w = .ok (.value (.bool true)) w := by
  simp only [execOp, ho, hx, hy]
  clear ho hx hy
  cases t <;> go_simp
theorem ex_neB {ρ : Operand → Value} {o : Oper} {x y : Operand} {t : Bool} {w : World} (ho : o.op = .binOp .neq 4 x y 4) (hx : ρ x = .bool t) (hy : ρ y = .bool t) : (execOp ρ o).run Try.prog w = .ok (.value (.bool false)) w := by
  simp only [execOp, ho, hx, hy]
  clear ho hx hy
  cases t <;> go_simp
/-- A suite of which the document knows the same, and whose p is a prime. -/
structure Kq (s : Int) (p r c gx gy : Nat) : Prop where
  k : Kd s p r c gx gy
  prm : Prm p
  of : ∀ w, Calls Try.prog 10 #[.int .i64 s] w fun e w' => e = .returned (.tuple #[V (kd p r c gx gy), .bool true]) ∧ Below w.heap.size w w'
theorem kq_1 : Kq 1 786251 65521 12 9723 164643 := ⟨kd_1, prm_786251, Of_1⟩
theorem kq_2 : Kq 2 1152921504606846223 72057594037927889 16 613740293506734924 666621259561003659 := ⟨kd_2, prm_1152921504606846223, Of_2⟩
theorem Kq.ne {s : Int} {p r c gx gy : Nat} (k : Kq s p r c gx gy) : NeZero p := ⟨Nat.ne_of_gt (zero_lt k.k.pr)⟩
theorem call10 : ∀ args w, (callFunc 10 args).run Try.prog w = .ok (.enter 10 args) w := by intro args w; go_simp
theorem call11 : ∀ args w, (callFunc 11 args).run Try.prog w = .ok (.enter 11 args) w := by intro args w; go_simp
theorem call12 : ∀ args w, (callFunc 12 args).run Try.prog w = .ok (.enter 12 args) w := by intro args w; go_simp
theorem call13 : ∀ args w, (callFunc 13 args).run Try.prog w = .ok (.enter 13 args) w := by intro args w; go_simp
theorem call14 : ∀ args w, (callFunc 14 args).run Try.prog w = .ok (.enter 14 args) w := by intro args w; go_simp
theorem call15 : ∀ args w, (callFunc 15 args).run Try.prog w = .ok (.enter 15 args) w := by intro args w; go_simp
theorem call16 : ∀ args w, (callFunc 16 args).run Try.prog w = .ok (.enter 16 args) w := by intro args w; go_simp
theorem call17 : ∀ args w, (callFunc 17 args).run Try.prog w = .ok (.enter 17 args) w := by intro args w; go_simp
theorem call18 : ∀ args w, (callFunc 18 args).run Try.prog w = .ok (.enter 18 args) w := by intro args w; go_simp
theorem call19 : ∀ args w, (callFunc 19 args).run Try.prog w = .ok (.enter 19 args) w := by intro args w; go_simp
theorem call20 : ∀ args w, (callFunc 20 args).run Try.prog w = .ok (.enter 20 args) w := by intro args w; go_simp
theorem call21 : ∀ args w, (callFunc 21 args).run Try.prog w = .ok (.enter 21 args) w := by intro args w; go_simp
theorem call23 : ∀ args w, (callFunc 23 args).run Try.prog w = .ok (.enter 23 args) w := by intro args w; go_simp
section
variable {s : Int} {p r c gx gy : Nat}
theorem Mul_dc (k : Kq s p r c gx gy) (X Y : Nat) (Z : Bool) (n : Nat) (hn : n < 18446744073709551616) (h1 : oc p X Y Z = true) (w : World) : Calls Try.prog 15 #[.int .i64 s, .agg (pt X Y Z).toArray, U n] w fun e w' => e = .returned (.tuple #[V (pc (dM p (X, Y, Z) n)), .int .i64 0]) ∧ Below w.heap.size w w' := by
  have := k.ne
  rw [← mt_is k.k.pr k.prm h1 n]
  exact Mul_ok k.k X Y Z n hn h1 w
theorem Clear_dc (k : Kq s p r c gx gy) (X Y : Nat) (Z : Bool) (h1 : oc p X Y Z = true) (w : World) : Calls Try.prog 16 #[.int .i64 s, .agg (pt X Y Z).toArray] w fun e w' => e = .returned (.tuple #[V (pc (dM p (X, Y, Z) c)), .int .i64 0]) ∧ Below w.heap.size w w' := by
  have := k.ne
  rw [← mt_is k.k.pr k.prm h1 c]
  exact Clear_ok k.k X Y Z h1 w
theorem Add_dc (k : Kq s p r c gx gy) (X Y : Nat) (Z : Bool) (X' Y' : Nat) (Z' : Bool) (h1 : oc p X Y Z = true) (h2 : oc p X' Y' Z' = true) (w : World) : Calls Try.prog 14 #[.int .i64 s, .agg (pt X Y Z).toArray, .agg (pt X' Y' Z').toArray] w fun e w' => e = .returned (.tuple #[V (pc (dA p (X, Y, Z) (X', Y', Z'))), .int .i64 0]) ∧ Below w.heap.size w w' := by
  have := k.ne
  rw [← add_is k.k.pr k.prm h1 h2]
  exact Add_ok k.k X Y Z X' Y' Z' h1 h2 w
theorem In_dc (k : Kq s p r c gx gy) (X Y : Nat) (Z : Bool) (w : World) : Calls Try.prog 20 #[.int .i64 s, .agg (pt X Y Z).toArray] w fun e w' => e = .returned (.bool (di p r X Y Z)) ∧ Below w.heap.size w w' := by
  have := k.ne
  rw [← ig_is k.k.pr k.prm r X Y Z]
  exact In_ok k.k X Y Z w
theorem Check_is (k : Kq s p r c gx gy) (X Y : Nat) (Z : Bool) (t : Bool) (h : oc p X Y Z = t) (w : World) : Calls Try.prog 19 #[.int .i64 s, .agg (pt X Y Z).toArray] w fun e w' => e = .returned (.bool t) ∧ Below w.heap.size w w' := by
  rw [← h]
  exact Check_ok k.k X Y Z w
set_option maxHeartbeats 4000000 in
set_option maxRecDepth 100000 in
theorem tells_f (k : Kq s p r c gx gy) (X Y : Nat) (Z : Bool) (X' Y' : Nat) (Z' : Bool) (n : Nat) (hn : n < 18446744073709551616) (h1 : oc p X Y Z = false) (w : World) :
    Calls Try.prog 3 #[.int .i64 s, .agg (pt X Y Z).toArray, .agg (pt X' Y' Z').toArray, U n] w fun e w' => e = .returned (.bool true) ∧ Below w.heap.size w w' := by
  have H0 : Hid (_ ∧ _) := ⟨Mm.nil w, Below.refl w.heap.size w⟩
  go_enter Try.func3, Try.ntmps3
  refine wp_seq ?_
  refine walk_seqA 3 [.made (pt X Y Z) 25, .made (pt X' Y' Z') 25, .quiet (.bool false)] (sB H0) ?ho1 ?he1
  case ho1 => exact ak (fun γ => ⟨rfl, fun w' => ex_boxT rfl rfl⟩) (ak (fun γ => ⟨rfl, fun w' => ex_boxT rfl rfl⟩) (ak (fun _ => ⟨rfl, fun _ _ => rfl⟩) trivial))
  intro γ w1 l hM hl
  have H1 : Hid (Mm w1 [(γ 0, pt X Y Z), (γ 1, pt X' Y' Z')] ∧ _) := growB H0 hM (Nat.le_refl _) hl [0, 1] rfl (by decide)
  have o1_0 := ownB H0 hM (Nat.le_refl _) hl (i := 0) rfl
  have o1_1 := ownB H0 hM (Nat.le_refl _) hl (i := 1) rfl
  clear hM hl l
  generalize γ 0 = γ1_0 at H1 o1_0 ⊢
  generalize γ 1 = γ1_1 at H1 o1_1 ⊢
  clear γ
  refine rest0 rfl (then_normal (wp_seq ?_))
  refine walk_seqA 8 [.quiet (.int .i64 s), .call (.tuple #[.agg (kd p r c gx gy).toArray, .bool true]), .quiet (.tuple #[.agg (kd p r c gx gy).toArray, .bool true]), .quiet (.agg (kd p r c gx gy).toArray), .quiet (.bool true), .made (kd 0 0 0 0 0) 27, .laid 5 (kd 0 0 0 0 0) (kd p r c gx gy), .quiet (.bool true)] (sB H1) ?ho2 ?he2 (hL := ?hL2)
  case hL2 => exact ⟨⟨_, rfl⟩, trivial⟩
  case ho2 => exact ak (fun _ => ⟨rfl, fun _ _ => rfl⟩) (ak (fun γ => ⟨rfl, fun w' h => ⟨10, #[.int .i64 s], exec_call rfl call10 rfl (mpn rfl), k.of w'⟩⟩) (ak (fun _ => ⟨rfl, fun _ _ => rfl⟩) (ak (by refine fun γ => ⟨rfl, fun w' h => ?_⟩; clear h; go_simp) (ak (by refine fun γ => ⟨rfl, fun w' h => ?_⟩; clear h; go_simp) (ak (fun γ => ⟨rfl, fun w' => ex_made27 rfl⟩) (ak (fun γ => ⟨rfl, rfl, rfl, fun w' h => ex_laidT h rfl rfl Try.sizeOf27 rfl rfl rfl⟩) (ak (fun _ => ⟨rfl, fun _ _ => rfl⟩) trivial)))))))
  intro γ w2 l hM hl
  have H2 : Hid (Mm w2 [(γ 5, kd p r c gx gy), (γ1_0, pt X Y Z), (γ1_1, pt X' Y' Z')] ∧ _) := growB H1 hM (Nat.le_refl _) hl [5] rfl (by decide)
  have o2_5 := ownB H1 hM (Nat.le_refl _) hl (i := 5) rfl
  clear hM hl l H1
  generalize γ 5 = γ2_5 at H2 o2_5 ⊢
  clear γ
  refine rest0 rfl (then_normal (wp_seq ?_))
  refine walk_seqB 7 [.quiet (.int .i64 s), .call (.tuple #[U p, .int .i64 0]), .quiet (.tuple #[U p, .int .i64 0]), .quiet (U p), .quiet (.int .i64 0), .quiet (U p), .quiet (.int .i64 0)] H2 ?ho3 ?he3
  case ho3 => exact ak (fun _ => ⟨rfl, fun _ _ => rfl⟩) (ak (fun γ => ⟨rfl, fun w' h => ⟨11, #[.int .i64 s], exec_call rfl call11 rfl (mpn rfl), Prime_ok k.k w'⟩⟩) (ak (fun _ => ⟨rfl, fun _ _ => rfl⟩) (ak (by refine fun γ => ⟨rfl, fun w' h => ?_⟩; clear h; go_simp) (ak (by refine fun γ => ⟨rfl, fun w' h => ?_⟩; clear h; go_simp) (ak (fun _ => ⟨rfl, fun _ _ => rfl⟩) (ak (fun _ => ⟨rfl, fun _ _ => rfl⟩) trivial))))))
  intro _ w3 H3
  clear H2
  refine rest0 rfl (then_normal (wp_seq ?_))
  refine walk_seqB 7 [.quiet (.int .i64 s), .call (.tuple #[U r, .int .i64 0]), .quiet (.tuple #[U r, .int .i64 0]), .quiet (U r), .quiet (.int .i64 0), .quiet (U r), .quiet (.int .i64 0)] H3 ?ho4 ?he4
  case ho4 => exact ak (fun _ => ⟨rfl, fun _ _ => rfl⟩) (ak (fun γ => ⟨rfl, fun w' h => ⟨12, #[.int .i64 s], exec_call rfl call12 rfl (mpn rfl), Order_ok k.k w'⟩⟩) (ak (fun _ => ⟨rfl, fun _ _ => rfl⟩) (ak (by refine fun γ => ⟨rfl, fun w' h => ?_⟩; clear h; go_simp) (ak (by refine fun γ => ⟨rfl, fun w' h => ?_⟩; clear h; go_simp) (ak (fun _ => ⟨rfl, fun _ _ => rfl⟩) (ak (fun _ => ⟨rfl, fun _ _ => rfl⟩) trivial))))))
  intro _ w4 H4
  clear H3
  refine rest0 rfl (then_normal (wp_seq ?_))
  refine walk_seqA 8 [.quiet (.int .i64 s), .call (.tuple #[.agg (pt gx gy false).toArray, .int .i64 0]), .quiet (.tuple #[.agg (pt gx gy false).toArray, .int .i64 0]), .quiet (.agg (pt gx gy false).toArray), .quiet (.int .i64 0), .made (pt 0 0 false) 25, .laid 5 (pt 0 0 false) (pt gx gy false), .quiet (.int .i64 0)] (sB H4) ?ho5 ?he5 (hL := ?hL5)
  case hL5 => exact ⟨⟨_, rfl⟩, trivial⟩
  case ho5 => exact ak (fun _ => ⟨rfl, fun _ _ => rfl⟩) (ak (fun γ => ⟨rfl, fun w' h => ⟨13, #[.int .i64 s], exec_call rfl call13 rfl (mpn rfl), Gen_ok k.k w'⟩⟩) (ak (fun _ => ⟨rfl, fun _ _ => rfl⟩) (ak (by refine fun γ => ⟨rfl, fun w' h => ?_⟩; clear h; go_simp) (ak (by refine fun γ => ⟨rfl, fun w' h => ?_⟩; clear h; go_simp) (ak (fun γ => ⟨rfl, fun w' => ex_made25 rfl⟩) (ak (fun γ => ⟨rfl, rfl, rfl, fun w' h => ex_laidT h rfl rfl Try.sizeOf25 rfl rfl rfl⟩) (ak (fun _ => ⟨rfl, fun _ _ => rfl⟩) trivial)))))))
  intro γ w5 l hM hl
  have H5 : Hid (Mm w5 [(γ 5, pt gx gy false), (γ2_5, kd p r c gx gy), (γ1_0, pt X Y Z), (γ1_1, pt X' Y' Z')] ∧ _) := growB H4 hM (Nat.le_refl _) hl [5] rfl (by decide)
  have o5_5 := ownB H4 hM (Nat.le_refl _) hl (i := 5) rfl
  clear hM hl l H4
  generalize γ 5 = γ5_5 at H5 o5_5 ⊢
  clear γ
  refine rest0 rfl (then_normal (wp_seq ?_))
  refine walk_seqA 10 [.quiet (.int .i64 s), .quiet (.agg (pt X Y Z).toArray), .quiet (.agg (pt X' Y' Z').toArray), .call (.tuple #[.agg (pt 0 0 false).toArray, .int .i64 5]), .quiet (.tuple #[.agg (pt 0 0 false).toArray, .int .i64 5]), .quiet (.agg (pt 0 0 false).toArray), .quiet (.int .i64 5), .made (pt 0 0 false) 25, .laid 7 (pt 0 0 false) (pt 0 0 false), .quiet (.int .i64 5)] (sB H5) ?ho6 ?he6 (hL := ?hL6)
  case hL6 => exact ⟨⟨_, rfl⟩, trivial⟩
  case ho6 => exact ak (fun _ => ⟨rfl, fun _ _ => rfl⟩) (ak (fun γ => ⟨rfl, fun w' h => ex_loadT h 2 rfl rfl rfl Try.isAgg25 Try.sizeOf25 rfl rfl⟩) (ak (fun γ => ⟨rfl, fun w' h => ex_loadT h 3 rfl rfl rfl Try.isAgg25 Try.sizeOf25 rfl rfl⟩) (ak (fun γ => ⟨rfl, fun w' h => ⟨14, #[.int .i64 s, .agg (pt X Y Z).toArray, .agg (pt X' Y' Z').toArray], exec_call rfl call14 rfl (mpn rfl), Add_pt k.k X Y Z X' Y' Z' h1 w'⟩⟩) (ak (fun _ => ⟨rfl, fun _ _ => rfl⟩) (ak (by refine fun γ => ⟨rfl, fun w' h => ?_⟩; clear h; go_simp) (ak (by refine fun γ => ⟨rfl, fun w' h => ?_⟩; clear h; go_simp) (ak (fun γ => ⟨rfl, fun w' => ex_made25 rfl⟩) (ak (fun γ => ⟨rfl, rfl, rfl, fun w' h => ex_laidT h rfl rfl Try.sizeOf25 rfl rfl rfl⟩) (ak (fun _ => ⟨rfl, fun _ _ => rfl⟩) trivial)))))))))
  intro γ w6 l hM hl
  have H6 : Hid (Mm w6 [(γ 7, pt 0 0 false), (γ5_5, pt gx gy false), (γ2_5, kd p r c gx gy), (γ1_0, pt X Y Z), (γ1_1, pt X' Y' Z')] ∧ _) := growB H5 hM (Nat.le_refl _) hl [7] rfl (by decide)
  have o6_7 := ownB H5 hM (Nat.le_refl _) hl (i := 7) rfl
  clear hM hl l H5
  generalize γ 7 = γ6_7 at H6 o6_7 ⊢
  clear γ
  refine rest0 rfl (then_normal (wp_seq ?_))
  refine walk_seqA 10 [.quiet (.int .i64 s), .quiet (.agg (pt X Y Z).toArray), .quiet (U n), .call (.tuple #[.agg (pt 0 0 false).toArray, .int .i64 5]), .quiet (.tuple #[.agg (pt 0 0 false).toArray, .int .i64 5]), .quiet (.agg (pt 0 0 false).toArray), .quiet (.int .i64 5), .made (pt 0 0 false) 25, .laid 7 (pt 0 0 false) (pt 0 0 false), .quiet (.int .i64 5)] (sB H6) ?ho7 ?he7 (hL := ?hL7)
  case hL7 => exact ⟨⟨_, rfl⟩, trivial⟩
  case ho7 => exact ak (fun _ => ⟨rfl, fun _ _ => rfl⟩) (ak (fun γ => ⟨rfl, fun w' h => ex_loadT h 3 rfl rfl rfl Try.isAgg25 Try.sizeOf25 rfl rfl⟩) (ak (fun _ => ⟨rfl, fun _ _ => rfl⟩) (ak (fun γ => ⟨rfl, fun w' h => ⟨15, #[.int .i64 s, .agg (pt X Y Z).toArray, U n], exec_call rfl call15 rfl (mpn rfl), Mul_pt k.k X Y Z n hn h1 w'⟩⟩) (ak (fun _ => ⟨rfl, fun _ _ => rfl⟩) (ak (by refine fun γ => ⟨rfl, fun w' h => ?_⟩; clear h; go_simp) (ak (by refine fun γ => ⟨rfl, fun w' h => ?_⟩; clear h; go_simp) (ak (fun γ => ⟨rfl, fun w' => ex_made25 rfl⟩) (ak (fun γ => ⟨rfl, rfl, rfl, fun w' h => ex_laidT h rfl rfl Try.sizeOf25 rfl rfl rfl⟩) (ak (fun _ => ⟨rfl, fun _ _ => rfl⟩) trivial)))))))))
  intro γ w7 l hM hl
  have H7 : Hid (Mm w7 [(γ 7, pt 0 0 false), (γ6_7, pt 0 0 false), (γ5_5, pt gx gy false), (γ2_5, kd p r c gx gy), (γ1_0, pt X Y Z), (γ1_1, pt X' Y' Z')] ∧ _) := growB H6 hM (Nat.le_refl _) hl [7] rfl (by decide)
  have o7_7 := ownB H6 hM (Nat.le_refl _) hl (i := 7) rfl
  clear hM hl l H6
  generalize γ 7 = γ7_7 at H7 o7_7 ⊢
  clear γ
  refine rest0 rfl (then_normal (wp_seq ?_))
  refine walk_seqA 9 [.quiet (.int .i64 s), .quiet (.agg (pt X Y Z).toArray), .call (.tuple #[.agg (pt 0 0 false).toArray, .int .i64 5]), .quiet (.tuple #[.agg (pt 0 0 false).toArray, .int .i64 5]), .quiet (.agg (pt 0 0 false).toArray), .quiet (.int .i64 5), .made (pt 0 0 false) 25, .laid 6 (pt 0 0 false) (pt 0 0 false), .quiet (.int .i64 5)] (sB H7) ?ho8 ?he8 (hL := ?hL8)
  case hL8 => exact ⟨⟨_, rfl⟩, trivial⟩
  case ho8 => exact ak (fun _ => ⟨rfl, fun _ _ => rfl⟩) (ak (fun γ => ⟨rfl, fun w' h => ex_loadT h 4 rfl rfl rfl Try.isAgg25 Try.sizeOf25 rfl rfl⟩) (ak (fun γ => ⟨rfl, fun w' h => ⟨16, #[.int .i64 s, .agg (pt X Y Z).toArray], exec_call rfl call16 rfl (mpn rfl), Clear_pt k.k X Y Z h1 w'⟩⟩) (ak (fun _ => ⟨rfl, fun _ _ => rfl⟩) (ak (by refine fun γ => ⟨rfl, fun w' h => ?_⟩; clear h; go_simp) (ak (by refine fun γ => ⟨rfl, fun w' h => ?_⟩; clear h; go_simp) (ak (fun γ => ⟨rfl, fun w' => ex_made25 rfl⟩) (ak (fun γ => ⟨rfl, rfl, rfl, fun w' h => ex_laidT h rfl rfl Try.sizeOf25 rfl rfl rfl⟩) (ak (fun _ => ⟨rfl, fun _ _ => rfl⟩) trivial))))))))
  intro γ w8 l hM hl
  have H8 : Hid (Mm w8 [(γ 6, pt 0 0 false), (γ7_7, pt 0 0 false), (γ6_7, pt 0 0 false), (γ5_5, pt gx gy false), (γ2_5, kd p r c gx gy), (γ1_0, pt X Y Z), (γ1_1, pt X' Y' Z')] ∧ _) := growB H7 hM (Nat.le_refl _) hl [6] rfl (by decide)
  have o8_6 := ownB H7 hM (Nat.le_refl _) hl (i := 6) rfl
  clear hM hl l H7
  generalize γ 6 = γ8_6 at H8 o8_6 ⊢
  clear γ
  refine rest0 rfl (then_normal (wp_seq ?_))
  refine walk_seqA 9 [.quiet (.int .i64 s), .quiet (.agg (pt X Y Z).toArray), .call (.tuple #[.agg (pt 0 0 false).toArray, .int .i64 5]), .quiet (.tuple #[.agg (pt 0 0 false).toArray, .int .i64 5]), .quiet (.agg (pt 0 0 false).toArray), .quiet (.int .i64 5), .made (pt 0 0 false) 25, .laid 6 (pt 0 0 false) (pt 0 0 false), .quiet (.int .i64 5)] (sB H8) ?ho9 ?he9 (hL := ?hL9)
  case hL9 => exact ⟨⟨_, rfl⟩, trivial⟩
  case ho9 => exact ak (fun _ => ⟨rfl, fun _ _ => rfl⟩) (ak (fun γ => ⟨rfl, fun w' h => ex_loadT h 5 rfl rfl rfl Try.isAgg25 Try.sizeOf25 rfl rfl⟩) (ak (fun γ => ⟨rfl, fun w' h => ⟨17, #[.int .i64 s, .agg (pt X Y Z).toArray], exec_call rfl call17 rfl (mpn rfl), Neg_pt k.k X Y Z h1 w'⟩⟩) (ak (fun _ => ⟨rfl, fun _ _ => rfl⟩) (ak (by refine fun γ => ⟨rfl, fun w' h => ?_⟩; clear h; go_simp) (ak (by refine fun γ => ⟨rfl, fun w' h => ?_⟩; clear h; go_simp) (ak (fun γ => ⟨rfl, fun w' => ex_made25 rfl⟩) (ak (fun γ => ⟨rfl, rfl, rfl, fun w' h => ex_laidT h rfl rfl Try.sizeOf25 rfl rfl rfl⟩) (ak (fun _ => ⟨rfl, fun _ _ => rfl⟩) trivial))))))))
  intro γ w9 l hM hl
  have H9 : Hid (Mm w9 [(γ 6, pt 0 0 false), (γ8_6, pt 0 0 false), (γ7_7, pt 0 0 false), (γ6_7, pt 0 0 false), (γ5_5, pt gx gy false), (γ2_5, kd p r c gx gy), (γ1_0, pt X Y Z), (γ1_1, pt X' Y' Z')] ∧ _) := growB H8 hM (Nat.le_refl _) hl [6] rfl (by decide)
  have o9_6 := ownB H8 hM (Nat.le_refl _) hl (i := 6) rfl
  clear hM hl l H8
  generalize γ 6 = γ9_6 at H9 o9_6 ⊢
  clear γ
  refine rest0 rfl (then_normal (wp_seq ?_))
  refine walk_seqA 11 [.quiet (.int .i64 s), .quiet (U n), .call (.tuple #[.agg (pt ((n + nk p n) % p) (rt p (cb p ((n + nk p n) % p))) false).toArray, .int .i64 ((nk p n : Nat) : Int), .int .i64 0]), .quiet (.tuple #[.agg (pt ((n + nk p n) % p) (rt p (cb p ((n + nk p n) % p))) false).toArray, .int .i64 ((nk p n : Nat) : Int), .int .i64 0]), .quiet (.agg (pt ((n + nk p n) % p) (rt p (cb p ((n + nk p n) % p))) false).toArray), .quiet (.int .i64 ((nk p n : Nat) : Int)), .quiet (.int .i64 0), .made (pt 0 0 false) 25, .laid 7 (pt 0 0 false) (pt ((n + nk p n) % p) (rt p (cb p ((n + nk p n) % p))) false), .quiet (.int .i64 ((nk p n : Nat) : Int)), .quiet (.int .i64 0)] (sB H9) ?ho10 ?he10 (hL := ?hL10)
  case hL10 => exact ⟨⟨_, rfl⟩, trivial⟩
  case ho10 => exact ak (fun _ => ⟨rfl, fun _ _ => rfl⟩) (ak (fun _ => ⟨rfl, fun _ _ => rfl⟩) (ak (fun γ => ⟨rfl, fun w' h => ⟨18, #[.int .i64 s, U n], exec_call rfl call18 rfl (mpn rfl), Near_ok k.k n w'⟩⟩) (ak (fun _ => ⟨rfl, fun _ _ => rfl⟩) (ak (by refine fun γ => ⟨rfl, fun w' h => ?_⟩; clear h; go_simp) (ak (by refine fun γ => ⟨rfl, fun w' h => ?_⟩; clear h; go_simp) (ak (by refine fun γ => ⟨rfl, fun w' h => ?_⟩; clear h; go_simp) (ak (fun γ => ⟨rfl, fun w' => ex_made25 rfl⟩) (ak (fun γ => ⟨rfl, rfl, rfl, fun w' h => ex_laidT h rfl rfl Try.sizeOf25 rfl rfl rfl⟩) (ak (fun _ => ⟨rfl, fun _ _ => rfl⟩) (ak (fun _ => ⟨rfl, fun _ _ => rfl⟩) trivial))))))))))
  intro γ w10 l hM hl
  have H10 : Hid (Mm w10 [(γ 7, pt ((n + nk p n) % p) (rt p (cb p ((n + nk p n) % p))) false), (γ9_6, pt 0 0 false), (γ8_6, pt 0 0 false), (γ7_7, pt 0 0 false), (γ6_7, pt 0 0 false), (γ5_5, pt gx gy false), (γ2_5, kd p r c gx gy), (γ1_0, pt X Y Z), (γ1_1, pt X' Y' Z')] ∧ _) := growB H9 hM (Nat.le_refl _) hl [7] rfl (by decide)
  have o10_7 := ownB H9 hM (Nat.le_refl _) hl (i := 7) rfl
  clear hM hl l H9
  generalize γ 7 = γ10_7 at H10 o10_7 ⊢
  clear γ
  refine rest0 rfl (then_normal (wp_seq ?_))
  refine walk_seqA 1 [.made (pt 0 0 false) 25] (sB H10) ?ho11 ?he11
  case ho11 => exact ak (fun γ => ⟨rfl, fun w' => ex_made25 rfl⟩) trivial
  intro γ w11 l hM hl
  have H11 : Hid (Mm w11 [(γ 0, pt 0 0 false), (γ10_7, pt ((n + nk p n) % p) (rt p (cb p ((n + nk p n) % p))) false), (γ9_6, pt 0 0 false), (γ8_6, pt 0 0 false), (γ7_7, pt 0 0 false), (γ6_7, pt 0 0 false), (γ5_5, pt gx gy false), (γ2_5, kd p r c gx gy), (γ1_0, pt X Y Z), (γ1_1, pt X' Y' Z')] ∧ _) := growB H10 hM (Nat.le_refl _) hl [0] rfl (by decide)
  have o11_0 := ownB H10 hM (Nat.le_refl _) hl (i := 0) rfl
  clear hM hl l H10
  generalize γ 0 = γ11_0 at H11 o11_0 ⊢
  clear γ
  refine rest0 rfl (then_normal (wp_seq (wp_seq ?_)))
  refine walk_seqB 2 [.quiet (.bool true), .quiet (.bool false)] H11 ?ho12 ?he12
  case ho12 => exact ak (fun _ => ⟨rfl, fun _ _ => rfl⟩) (ak (by refine fun γ => ⟨rfl, fun w' h => ?_⟩; clear h; go_simp) trivial)
  intro _ w12 H12
  clear H11
  refine rest0 rfl (then_normal (wp_cond_false rfl ?_))
  refine wp_skip (then_normal (wp_seq ?_))
  refine walk_seqA 9 [.quiet (.agg (kd p r c gx gy).toArray), .quiet (U n), .call (.tuple #[.agg (pt ((n + nk p n) % p) (rt p (cb p ((n + nk p n) % p))) false).toArray, .int .i64 ((nk p n : Nat) : Int)]), .quiet (.tuple #[.agg (pt ((n + nk p n) % p) (rt p (cb p ((n + nk p n) % p))) false).toArray, .int .i64 ((nk p n : Nat) : Int)]), .quiet (.agg (pt ((n + nk p n) % p) (rt p (cb p ((n + nk p n) % p))) false).toArray), .quiet (.int .i64 ((nk p n : Nat) : Int)), .made (pt 0 0 false) 25, .laid 6 (pt 0 0 false) (pt ((n + nk p n) % p) (rt p (cb p ((n + nk p n) % p))) false), .quiet (.int .i64 ((nk p n : Nat) : Int))] (sB H12) ?ho13 ?he13 (hL := ?hL13)
  case hL13 => exact ⟨⟨_, rfl⟩, trivial⟩
  case ho13 => exact ak (fun γ => ⟨rfl, fun w' h => ex_loadT h 7 rfl rfl rfl Try.isAgg27 Try.sizeOf27 rfl rfl⟩) (ak (fun _ => ⟨rfl, fun _ _ => rfl⟩) (ak (fun γ => ⟨rfl, fun w' h => ⟨21, #[.agg (kd p r c gx gy).toArray, U n], exec_call rfl call21 rfl (mpn rfl), dNear_any k.k.pr n w'⟩⟩) (ak (fun _ => ⟨rfl, fun _ _ => rfl⟩) (ak (by refine fun γ => ⟨rfl, fun w' h => ?_⟩; clear h; go_simp) (ak (by refine fun γ => ⟨rfl, fun w' h => ?_⟩; clear h; go_simp) (ak (fun γ => ⟨rfl, fun w' => ex_made25 rfl⟩) (ak (fun γ => ⟨rfl, rfl, rfl, fun w' h => ex_laidT h rfl rfl Try.sizeOf25 rfl rfl rfl⟩) (ak (fun _ => ⟨rfl, fun _ _ => rfl⟩) trivial))))))))
  intro γ w13 l hM hl
  have H13 : Hid (Mm w13 [(γ 6, pt ((n + nk p n) % p) (rt p (cb p ((n + nk p n) % p))) false), (γ11_0, pt 0 0 false), (γ10_7, pt ((n + nk p n) % p) (rt p (cb p ((n + nk p n) % p))) false), (γ9_6, pt 0 0 false), (γ8_6, pt 0 0 false), (γ7_7, pt 0 0 false), (γ6_7, pt 0 0 false), (γ5_5, pt gx gy false), (γ2_5, kd p r c gx gy), (γ1_0, pt X Y Z), (γ1_1, pt X' Y' Z')] ∧ _) := growB H12 hM (Nat.le_refl _) hl [6] rfl (by decide)
  have o13_6 := ownB H12 hM (Nat.le_refl _) hl (i := 6) rfl
  clear hM hl l H12
  generalize γ 6 = γ13_6 at H13 o13_6 ⊢
  clear γ
  refine rest0 rfl (then_normal (wp_seq (wp_seq ?_)))
  refine walk_anyB 60 [.quiet (U p), .quiet (PT γ2_5 0), .quiet (U p), .quiet (.bool false), .quiet (.bool false), .quiet (.int .i64 0), .quiet (.bool false), .quiet (.bool false), .quiet (.bool false), .quiet (U r), .quiet (PT γ2_5 1), .quiet (U r), .quiet (.bool false), .quiet (.bool false), .quiet (.bool false), .quiet (.int .i64 0), .quiet (.bool false), .quiet (.bool false), .quiet (.bool false), .quiet (.agg (pt gx gy false).toArray), .quiet (PT γ2_5 3), .quiet (.agg (pt gx gy false).toArray), .quiet (.bool false), .quiet (.bool false), .quiet (.bool false), .quiet (.int .i64 0), .quiet (.bool false), .quiet (.bool false), .quiet (.bool false), .quiet (.agg (pt ((n + nk p n) % p) (rt p (cb p ((n + nk p n) % p))) false).toArray), .quiet (.agg (pt ((n + nk p n) % p) (rt p (cb p ((n + nk p n) % p))) false).toArray), .quiet (.bool false), .quiet (.bool false), .quiet (.bool false), .quiet (.int .i64 ((nk p n : Nat) : Int)), .quiet (.int .i64 ((nk p n : Nat) : Int)), .quiet (.bool false), .quiet (.bool false), .quiet (.bool false), .quiet (.int .i64 0), .quiet (.bool false), .quiet (.bool false), .quiet (.bool false), .quiet (.int .i64 s), .quiet (.agg (pt X Y Z).toArray), .call (.bool false), .quiet (.agg (kd p r c gx gy).toArray), .quiet (.agg (pt X Y Z).toArray), .call (.bool false), .quiet (.bool false), .quiet (.bool false), .quiet (.bool false), .quiet (.int .i64 s), .quiet (.agg (pt X Y Z).toArray), .call (.bool (di p r X Y Z)), .quiet (.agg (kd p r c gx gy).toArray), .quiet (.agg (pt X Y Z).toArray), .call (.bool (di p r X Y Z)), .quiet (.bool false), .quiet (.bool false)] H13 ?ho14 ?he14 (hL := ?hL14)
  case hL14 => exact trivial
  case ho14 => exact ak (fun _ => ⟨rfl, fun _ _ => rfl⟩) (ak (by refine fun γ => ⟨rfl, fun w' h => ?_⟩; clear h; go_simp) (ak (fun γ => ⟨rfl, fun w' h => ex_loadC h 8 rfl rfl rfl Try.isAgg23 rfl⟩) (ak (fun γ => ⟨rfl, fun w' _ => ex_neU rfl rfl rfl (decide_eq_false (fun h => h rfl))⟩) (ak (fun _ => ⟨rfl, fun _ _ => rfl⟩) (ak (fun _ => ⟨rfl, fun _ _ => rfl⟩) (ak (by refine fun γ => ⟨rfl, fun w' h => ?_⟩; clear h; go_simp) (ak (by refine fun γ => ⟨rfl, fun w' h => ?_⟩; clear h; go_simp) (ak (fun _ => ⟨rfl, fun _ _ => rfl⟩) (ak (fun _ => ⟨rfl, fun _ _ => rfl⟩) (ak (by refine fun γ => ⟨rfl, fun w' h => ?_⟩; clear h; go_simp) (ak (fun γ => ⟨rfl, fun w' h => ex_loadC h 8 rfl rfl rfl Try.isAgg23 rfl⟩) (ak (fun γ => ⟨rfl, fun w' _ => ex_neU rfl rfl rfl (decide_eq_false (fun h => h rfl))⟩) (ak (by refine fun γ => ⟨rfl, fun w' h => ?_⟩; clear h; go_simp) (ak (fun _ => ⟨rfl, fun _ _ => rfl⟩) (ak (fun _ => ⟨rfl, fun _ _ => rfl⟩) (ak (by refine fun γ => ⟨rfl, fun w' h => ?_⟩; clear h; go_simp) (ak (by refine fun γ => ⟨rfl, fun w' h => ?_⟩; clear h; go_simp) (ak (fun _ => ⟨rfl, fun _ _ => rfl⟩) (ak (fun γ => ⟨rfl, fun w' h => ex_loadT h 7 rfl rfl rfl Try.isAgg25 Try.sizeOf25 rfl rfl⟩) (ak (by refine fun γ => ⟨rfl, fun w' h => ?_⟩; clear h; go_simp) (ak (fun γ => ⟨rfl, fun w' h => ex_loadT h 8 rfl rfl rfl Try.isAgg25 Try.sizeOf25 rfl rfl⟩) (ak (fun γ => ⟨rfl, fun w' _ => exec_neqT25 (fun w => eq_self _ _ _ w) rfl rfl rfl⟩) (ak (by refine fun γ => ⟨rfl, fun w' h => ?_⟩; clear h; go_simp) (ak (fun _ => ⟨rfl, fun _ _ => rfl⟩) (ak (fun _ => ⟨rfl, fun _ _ => rfl⟩) (ak (by refine fun γ => ⟨rfl, fun w' h => ?_⟩; clear h; go_simp) (ak (by refine fun γ => ⟨rfl, fun w' h => ?_⟩; clear h; go_simp) (ak (fun _ => ⟨rfl, fun _ _ => rfl⟩) (ak (fun γ => ⟨rfl, fun w' h => ex_loadT h 2 rfl rfl rfl Try.isAgg25 Try.sizeOf25 rfl rfl⟩) (ak (fun γ => ⟨rfl, fun w' h => ex_loadT h 0 rfl rfl rfl Try.isAgg25 Try.sizeOf25 rfl rfl⟩) (ak (fun γ => ⟨rfl, fun w' _ => exec_neqT25 (fun w => eq_self _ _ _ w) rfl rfl rfl⟩) (ak (by refine fun γ => ⟨rfl, fun w' h => ?_⟩; clear h; go_simp) (ak (fun _ => ⟨rfl, fun _ _ => rfl⟩) (ak (fun _ => ⟨rfl, fun _ _ => rfl⟩) (ak (fun _ => ⟨rfl, fun _ _ => rfl⟩) (ak (by refine fun γ => ⟨rfl, fun w' h => ?_⟩; clear h; go_simp) (ak (by refine fun γ => ⟨rfl, fun w' h => ?_⟩; clear h; go_simp) (ak (fun _ => ⟨rfl, fun _ _ => rfl⟩) (ak (fun _ => ⟨rfl, fun _ _ => rfl⟩) (ak (by refine fun γ => ⟨rfl, fun w' h => ?_⟩; clear h; go_simp) (ak (by refine fun γ => ⟨rfl, fun w' h => ?_⟩; clear h; go_simp) (ak (fun _ => ⟨rfl, fun _ _ => rfl⟩) (ak (fun _ => ⟨rfl, fun _ _ => rfl⟩) (ak (fun γ => ⟨rfl, fun w' h => ex_loadT h 9 rfl rfl rfl Try.isAgg25 Try.sizeOf25 rfl rfl⟩) (ak (fun γ => ⟨rfl, fun w' h => ⟨19, #[.int .i64 s, .agg (pt X Y Z).toArray], exec_call rfl call19 rfl (mpn rfl), Check_is k X Y Z _ h1 w'⟩⟩) (ak (fun γ => ⟨rfl, fun w' h => ex_loadT h 8 rfl rfl rfl Try.isAgg27 Try.sizeOf27 rfl rfl⟩) (ak (fun γ => ⟨rfl, fun w' h => ex_loadT h 9 rfl rfl rfl Try.isAgg25 Try.sizeOf25 rfl rfl⟩) (ak (fun γ => ⟨rfl, fun w' h => ⟨22, #[.agg (kd p r c gx gy).toArray, .agg (pt X Y Z).toArray], exec_call rfl call22 rfl (mpn rfl), dc_is k.k.pr X Y Z _ h1 w'⟩⟩) (ak (by refine fun γ => ⟨rfl, fun w' h => ?_⟩; clear h; go_simp) (ak (by refine fun γ => ⟨rfl, fun w' h => ?_⟩; clear h; go_simp) (ak (fun _ => ⟨rfl, fun _ _ => rfl⟩) (ak (fun _ => ⟨rfl, fun _ _ => rfl⟩) (ak (fun γ => ⟨rfl, fun w' h => ex_loadT h 9 rfl rfl rfl Try.isAgg25 Try.sizeOf25 rfl rfl⟩) (ak (fun γ => ⟨rfl, fun w' h => ⟨20, #[.int .i64 s, .agg (pt X Y Z).toArray], exec_call rfl call20 rfl (mpn rfl), In_dc k X Y Z w'⟩⟩) (ak (fun γ => ⟨rfl, fun w' h => ex_loadT h 8 rfl rfl rfl Try.isAgg27 Try.sizeOf27 rfl rfl⟩) (ak (fun γ => ⟨rfl, fun w' h => ex_loadT h 9 rfl rfl rfl Try.isAgg25 Try.sizeOf25 rfl rfl⟩) (ak (fun γ => ⟨rfl, fun w' h => ⟨23, #[.agg (kd p r c gx gy).toArray, .agg (pt X Y Z).toArray], exec_call rfl call23 rfl (mpn rfl), dIn_any k.k.pr k.k.rb X Y Z w'⟩⟩) (ak (fun γ => ⟨rfl, fun w' _ => ex_neB rfl rfl rfl⟩) (ak (by refine fun γ => ⟨rfl, fun w' h => ?_⟩; clear h; go_simp) trivial)))))))))))))))))))))))))))))))))))))))))))))))))))))))))))
  intro _ w14 H14
  clear H13
  refine rest0 rfl (then_normal (wp_cond_false rfl ?_))
  refine wp_skip (then_normal ?_)
  refine wp_seq (wp_seq ?_)
  refine walk_seqB 4 [.quiet (.agg (kd p r c gx gy).toArray), .quiet (.agg (pt X Y Z).toArray), .call (.bool false), .quiet (.bool true)] H14 ?ho15 ?he15
  case ho15 => exact ak (fun γ => ⟨rfl, fun w' h => ex_loadT h 8 rfl rfl rfl Try.isAgg27 Try.sizeOf27 rfl rfl⟩) (ak (fun γ => ⟨rfl, fun w' h => ex_loadT h 9 rfl rfl rfl Try.isAgg25 Try.sizeOf25 rfl rfl⟩) (ak (fun γ => ⟨rfl, fun w' h => ⟨22, #[.agg (kd p r c gx gy).toArray, .agg (pt X Y Z).toArray], exec_call rfl call22 rfl (mpn rfl), dc_is k.k.pr X Y Z _ h1 w'⟩⟩) (ak (by refine fun γ => ⟨rfl, fun w' h => ?_⟩; clear h; go_simp) trivial)))
  intro _ w15 H15
  clear H14
  refine rest0 rfl (then_normal (wp_cond_true rfl (wp_seq ?_)))
  refine walk_seqB 35 [.quiet (.agg (pt 0 0 false).toArray), .quiet (.agg (pt 0 0 false).toArray), .quiet (.bool true), .quiet (.bool true), .quiet (.int .i64 5), .quiet (.bool true), .quiet (.bool true), .quiet (.bool true), .quiet (.agg (pt 0 0 false).toArray), .quiet (.agg (pt 0 0 false).toArray), .quiet (.bool true), .quiet (.bool true), .quiet (.bool true), .quiet (.int .i64 5), .quiet (.bool true), .quiet (.bool true), .quiet (.bool true), .quiet (.agg (pt 0 0 false).toArray), .quiet (.agg (pt 0 0 false).toArray), .quiet (.bool true), .quiet (.bool true), .quiet (.bool true), .quiet (.int .i64 5), .quiet (.bool true), .quiet (.bool true), .quiet (.bool true), .quiet (.agg (pt 0 0 false).toArray), .quiet (.agg (pt 0 0 false).toArray), .quiet (.bool true), .quiet (.bool true), .quiet (.bool true), .quiet (.int .i64 5), .quiet (.bool true), .quiet (.bool true), .quiet (.bool true)] H15 ?ho16 ?he16 (hL := ?hL16)
  case hL16 => exact trivial
  case ho16 => exact ak (fun γ => ⟨rfl, fun w' h => ex_loadT h 6 rfl rfl rfl Try.isAgg25 Try.sizeOf25 rfl rfl⟩) (ak (fun γ => ⟨rfl, fun w' h => ex_loadT h 1 rfl rfl rfl Try.isAgg25 Try.sizeOf25 rfl rfl⟩) (ak (fun γ => ⟨rfl, fun w' _ => exec_eqT25 (fun w => eq_self _ _ _ w) rfl rfl rfl⟩) (ak (fun _ => ⟨rfl, fun _ _ => rfl⟩) (ak (fun _ => ⟨rfl, fun _ _ => rfl⟩) (ak (by refine fun γ => ⟨rfl, fun w' h => ?_⟩; clear h; go_simp) (ak (by refine fun γ => ⟨rfl, fun w' h => ?_⟩; clear h; go_simp) (ak (fun _ => ⟨rfl, fun _ _ => rfl⟩) (ak (fun γ => ⟨rfl, fun w' h => ex_loadT h 5 rfl rfl rfl Try.isAgg25 Try.sizeOf25 rfl rfl⟩) (ak (fun γ => ⟨rfl, fun w' h => ex_loadT h 1 rfl rfl rfl Try.isAgg25 Try.sizeOf25 rfl rfl⟩) (ak (fun γ => ⟨rfl, fun w' _ => exec_eqT25 (fun w => eq_self _ _ _ w) rfl rfl rfl⟩) (ak (by refine fun γ => ⟨rfl, fun w' h => ?_⟩; clear h; go_simp) (ak (fun _ => ⟨rfl, fun _ _ => rfl⟩) (ak (fun _ => ⟨rfl, fun _ _ => rfl⟩) (ak (by refine fun γ => ⟨rfl, fun w' h => ?_⟩; clear h; go_simp) (ak (by refine fun γ => ⟨rfl, fun w' h => ?_⟩; clear h; go_simp) (ak (fun _ => ⟨rfl, fun _ _ => rfl⟩) (ak (fun γ => ⟨rfl, fun w' h => ex_loadT h 4 rfl rfl rfl Try.isAgg25 Try.sizeOf25 rfl rfl⟩) (ak (fun γ => ⟨rfl, fun w' h => ex_loadT h 1 rfl rfl rfl Try.isAgg25 Try.sizeOf25 rfl rfl⟩) (ak (fun γ => ⟨rfl, fun w' _ => exec_eqT25 (fun w => eq_self _ _ _ w) rfl rfl rfl⟩) (ak (by refine fun γ => ⟨rfl, fun w' h => ?_⟩; clear h; go_simp) (ak (fun _ => ⟨rfl, fun _ _ => rfl⟩) (ak (fun _ => ⟨rfl, fun _ _ => rfl⟩) (ak (by refine fun γ => ⟨rfl, fun w' h => ?_⟩; clear h; go_simp) (ak (by refine fun γ => ⟨rfl, fun w' h => ?_⟩; clear h; go_simp) (ak (fun _ => ⟨rfl, fun _ _ => rfl⟩) (ak (fun γ => ⟨rfl, fun w' h => ex_loadT h 3 rfl rfl rfl Try.isAgg25 Try.sizeOf25 rfl rfl⟩) (ak (fun γ => ⟨rfl, fun w' h => ex_loadT h 1 rfl rfl rfl Try.isAgg25 Try.sizeOf25 rfl rfl⟩) (ak (fun γ => ⟨rfl, fun w' _ => exec_eqT25 (fun w => eq_self _ _ _ w) rfl rfl rfl⟩) (ak (by refine fun γ => ⟨rfl, fun w' h => ?_⟩; clear h; go_simp) (ak (fun _ => ⟨rfl, fun _ _ => rfl⟩) (ak (fun _ => ⟨rfl, fun _ _ => rfl⟩) (ak (by refine fun γ => ⟨rfl, fun w' h => ?_⟩; clear h; go_simp) (ak (by refine fun γ => ⟨rfl, fun w' h => ?_⟩; clear h; go_simp) (ak (fun _ => ⟨rfl, fun _ _ => rfl⟩) trivial))))))))))))))))))))))))))))))))))
  intro _ w16 H16
  clear H15
  refine rest0 rfl (then_normal (wp_ret ?_))
  repeat (first | refine then_ret ?_ | refine block_ret ?_)
  refine bodyPost_ret (v := .bool true) (by simp [results, Try.results3, go_sem, *]) rfl ?_
  exact ⟨rfl, H16.out.2⟩
set_option maxHeartbeats 4000000 in
set_option maxRecDepth 100000 in
theorem tells_tf (k : Kq s p r c gx gy) (X Y : Nat) (Z : Bool) (X' Y' : Nat) (Z' : Bool) (n : Nat) (hn : n < 18446744073709551616) (h1 : oc p X Y Z = true) (h2 : oc p X' Y' Z' = false) (w : World) :
    Calls Try.prog 3 #[.int .i64 s, .agg (pt X Y Z).toArray, .agg (pt X' Y' Z').toArray, U n] w fun e w' => e = .returned (.bool true) ∧ Below w.heap.size w w' := by
  have H0 : Hid (_ ∧ _) := ⟨Mm.nil w, Below.refl w.heap.size w⟩
  go_enter Try.func3, Try.ntmps3
  refine wp_seq ?_
  refine walk_seqA 3 [.made (pt X Y Z) 25, .made (pt X' Y' Z') 25, .quiet (.bool false)] (sB H0) ?ho1 ?he1
  case ho1 => exact ak (fun γ => ⟨rfl, fun w' => ex_boxT rfl rfl⟩) (ak (fun γ => ⟨rfl, fun w' => ex_boxT rfl rfl⟩) (ak (fun _ => ⟨rfl, fun _ _ => rfl⟩) trivial))
  intro γ w1 l hM hl
  have H1 : Hid (Mm w1 [(γ 0, pt X Y Z), (γ 1, pt X' Y' Z')] ∧ _) := growB H0 hM (Nat.le_refl _) hl [0, 1] rfl (by decide)
  have o1_0 := ownB H0 hM (Nat.le_refl _) hl (i := 0) rfl
  have o1_1 := ownB H0 hM (Nat.le_refl _) hl (i := 1) rfl
  clear hM hl l
  generalize γ 0 = γ1_0 at H1 o1_0 ⊢
  generalize γ 1 = γ1_1 at H1 o1_1 ⊢
  clear γ
  refine rest0 rfl (then_normal (wp_seq ?_))
  refine walk_seqA 8 [.quiet (.int .i64 s), .call (.tuple #[.agg (kd p r c gx gy).toArray, .bool true]), .quiet (.tuple #[.agg (kd p r c gx gy).toArray, .bool true]), .quiet (.agg (kd p r c gx gy).toArray), .quiet (.bool true), .made (kd 0 0 0 0 0) 27, .laid 5 (kd 0 0 0 0 0) (kd p r c gx gy), .quiet (.bool true)] (sB H1) ?ho2 ?he2 (hL := ?hL2)
  case hL2 => exact ⟨⟨_, rfl⟩, trivial⟩
  case ho2 => exact ak (fun _ => ⟨rfl, fun _ _ => rfl⟩) (ak (fun γ => ⟨rfl, fun w' h => ⟨10, #[.int .i64 s], exec_call rfl call10 rfl (mpn rfl), k.of w'⟩⟩) (ak (fun _ => ⟨rfl, fun _ _ => rfl⟩) (ak (by refine fun γ => ⟨rfl, fun w' h => ?_⟩; clear h; go_simp) (ak (by refine fun γ => ⟨rfl, fun w' h => ?_⟩; clear h; go_simp) (ak (fun γ => ⟨rfl, fun w' => ex_made27 rfl⟩) (ak (fun γ => ⟨rfl, rfl, rfl, fun w' h => ex_laidT h rfl rfl Try.sizeOf27 rfl rfl rfl⟩) (ak (fun _ => ⟨rfl, fun _ _ => rfl⟩) trivial)))))))
  intro γ w2 l hM hl
  have H2 : Hid (Mm w2 [(γ 5, kd p r c gx gy), (γ1_0, pt X Y Z), (γ1_1, pt X' Y' Z')] ∧ _) := growB H1 hM (Nat.le_refl _) hl [5] rfl (by decide)
  have o2_5 := ownB H1 hM (Nat.le_refl _) hl (i := 5) rfl
  clear hM hl l H1
  generalize γ 5 = γ2_5 at H2 o2_5 ⊢
  clear γ
  refine rest0 rfl (then_normal (wp_seq ?_))
  refine walk_seqB 7 [.quiet (.int .i64 s), .call (.tuple #[U p, .int .i64 0]), .quiet (.tuple #[U p, .int .i64 0]), .quiet (U p), .quiet (.int .i64 0), .quiet (U p), .quiet (.int .i64 0)] H2 ?ho3 ?he3
  case ho3 => exact ak (fun _ => ⟨rfl, fun _ _ => rfl⟩) (ak (fun γ => ⟨rfl, fun w' h => ⟨11, #[.int .i64 s], exec_call rfl call11 rfl (mpn rfl), Prime_ok k.k w'⟩⟩) (ak (fun _ => ⟨rfl, fun _ _ => rfl⟩) (ak (by refine fun γ => ⟨rfl, fun w' h => ?_⟩; clear h; go_simp) (ak (by refine fun γ => ⟨rfl, fun w' h => ?_⟩; clear h; go_simp) (ak (fun _ => ⟨rfl, fun _ _ => rfl⟩) (ak (fun _ => ⟨rfl, fun _ _ => rfl⟩) trivial))))))
  intro _ w3 H3
  clear H2
  refine rest0 rfl (then_normal (wp_seq ?_))
  refine walk_seqB 7 [.quiet (.int .i64 s), .call (.tuple #[U r, .int .i64 0]), .quiet (.tuple #[U r, .int .i64 0]), .quiet (U r), .quiet (.int .i64 0), .quiet (U r), .quiet (.int .i64 0)] H3 ?ho4 ?he4
  case ho4 => exact ak (fun _ => ⟨rfl, fun _ _ => rfl⟩) (ak (fun γ => ⟨rfl, fun w' h => ⟨12, #[.int .i64 s], exec_call rfl call12 rfl (mpn rfl), Order_ok k.k w'⟩⟩) (ak (fun _ => ⟨rfl, fun _ _ => rfl⟩) (ak (by refine fun γ => ⟨rfl, fun w' h => ?_⟩; clear h; go_simp) (ak (by refine fun γ => ⟨rfl, fun w' h => ?_⟩; clear h; go_simp) (ak (fun _ => ⟨rfl, fun _ _ => rfl⟩) (ak (fun _ => ⟨rfl, fun _ _ => rfl⟩) trivial))))))
  intro _ w4 H4
  clear H3
  refine rest0 rfl (then_normal (wp_seq ?_))
  refine walk_seqA 8 [.quiet (.int .i64 s), .call (.tuple #[.agg (pt gx gy false).toArray, .int .i64 0]), .quiet (.tuple #[.agg (pt gx gy false).toArray, .int .i64 0]), .quiet (.agg (pt gx gy false).toArray), .quiet (.int .i64 0), .made (pt 0 0 false) 25, .laid 5 (pt 0 0 false) (pt gx gy false), .quiet (.int .i64 0)] (sB H4) ?ho5 ?he5 (hL := ?hL5)
  case hL5 => exact ⟨⟨_, rfl⟩, trivial⟩
  case ho5 => exact ak (fun _ => ⟨rfl, fun _ _ => rfl⟩) (ak (fun γ => ⟨rfl, fun w' h => ⟨13, #[.int .i64 s], exec_call rfl call13 rfl (mpn rfl), Gen_ok k.k w'⟩⟩) (ak (fun _ => ⟨rfl, fun _ _ => rfl⟩) (ak (by refine fun γ => ⟨rfl, fun w' h => ?_⟩; clear h; go_simp) (ak (by refine fun γ => ⟨rfl, fun w' h => ?_⟩; clear h; go_simp) (ak (fun γ => ⟨rfl, fun w' => ex_made25 rfl⟩) (ak (fun γ => ⟨rfl, rfl, rfl, fun w' h => ex_laidT h rfl rfl Try.sizeOf25 rfl rfl rfl⟩) (ak (fun _ => ⟨rfl, fun _ _ => rfl⟩) trivial)))))))
  intro γ w5 l hM hl
  have H5 : Hid (Mm w5 [(γ 5, pt gx gy false), (γ2_5, kd p r c gx gy), (γ1_0, pt X Y Z), (γ1_1, pt X' Y' Z')] ∧ _) := growB H4 hM (Nat.le_refl _) hl [5] rfl (by decide)
  have o5_5 := ownB H4 hM (Nat.le_refl _) hl (i := 5) rfl
  clear hM hl l H4
  generalize γ 5 = γ5_5 at H5 o5_5 ⊢
  clear γ
  refine rest0 rfl (then_normal (wp_seq ?_))
  refine walk_seqA 10 [.quiet (.int .i64 s), .quiet (.agg (pt X Y Z).toArray), .quiet (.agg (pt X' Y' Z').toArray), .call (.tuple #[.agg (pt 0 0 false).toArray, .int .i64 5]), .quiet (.tuple #[.agg (pt 0 0 false).toArray, .int .i64 5]), .quiet (.agg (pt 0 0 false).toArray), .quiet (.int .i64 5), .made (pt 0 0 false) 25, .laid 7 (pt 0 0 false) (pt 0 0 false), .quiet (.int .i64 5)] (sB H5) ?ho6 ?he6 (hL := ?hL6)
  case hL6 => exact ⟨⟨_, rfl⟩, trivial⟩
  case ho6 => exact ak (fun _ => ⟨rfl, fun _ _ => rfl⟩) (ak (fun γ => ⟨rfl, fun w' h => ex_loadT h 2 rfl rfl rfl Try.isAgg25 Try.sizeOf25 rfl rfl⟩) (ak (fun γ => ⟨rfl, fun w' h => ex_loadT h 3 rfl rfl rfl Try.isAgg25 Try.sizeOf25 rfl rfl⟩) (ak (fun γ => ⟨rfl, fun w' h => ⟨14, #[.int .i64 s, .agg (pt X Y Z).toArray, .agg (pt X' Y' Z').toArray], exec_call rfl call14 rfl (mpn rfl), Add_px k.k X Y Z X' Y' Z' h1 h2 w'⟩⟩) (ak (fun _ => ⟨rfl, fun _ _ => rfl⟩) (ak (by refine fun γ => ⟨rfl, fun w' h => ?_⟩; clear h; go_simp) (ak (by refine fun γ => ⟨rfl, fun w' h => ?_⟩; clear h; go_simp) (ak (fun γ => ⟨rfl, fun w' => ex_made25 rfl⟩) (ak (fun γ => ⟨rfl, rfl, rfl, fun w' h => ex_laidT h rfl rfl Try.sizeOf25 rfl rfl rfl⟩) (ak (fun _ => ⟨rfl, fun _ _ => rfl⟩) trivial)))))))))
  intro γ w6 l hM hl
  have H6 : Hid (Mm w6 [(γ 7, pt 0 0 false), (γ5_5, pt gx gy false), (γ2_5, kd p r c gx gy), (γ1_0, pt X Y Z), (γ1_1, pt X' Y' Z')] ∧ _) := growB H5 hM (Nat.le_refl _) hl [7] rfl (by decide)
  have o6_7 := ownB H5 hM (Nat.le_refl _) hl (i := 7) rfl
  clear hM hl l H5
  generalize γ 7 = γ6_7 at H6 o6_7 ⊢
  clear γ
  refine rest0 rfl (then_normal (wp_seq ?_))
  refine walk_seqA 10 [.quiet (.int .i64 s), .quiet (.agg (pt X Y Z).toArray), .quiet (U n), .call (.tuple #[.agg (pt ((dM p (X, Y, Z) n).1) ((dM p (X, Y, Z) n).2.1) ((dM p (X, Y, Z) n).2.2)).toArray, .int .i64 0]), .quiet (.tuple #[.agg (pt ((dM p (X, Y, Z) n).1) ((dM p (X, Y, Z) n).2.1) ((dM p (X, Y, Z) n).2.2)).toArray, .int .i64 0]), .quiet (.agg (pt ((dM p (X, Y, Z) n).1) ((dM p (X, Y, Z) n).2.1) ((dM p (X, Y, Z) n).2.2)).toArray), .quiet (.int .i64 0), .made (pt 0 0 false) 25, .laid 7 (pt 0 0 false) (pt ((dM p (X, Y, Z) n).1) ((dM p (X, Y, Z) n).2.1) ((dM p (X, Y, Z) n).2.2)), .quiet (.int .i64 0)] (sB H6) ?ho7 ?he7 (hL := ?hL7)
  case hL7 => exact ⟨⟨_, rfl⟩, trivial⟩
  case ho7 => exact ak (fun _ => ⟨rfl, fun _ _ => rfl⟩) (ak (fun γ => ⟨rfl, fun w' h => ex_loadT h 3 rfl rfl rfl Try.isAgg25 Try.sizeOf25 rfl rfl⟩) (ak (fun _ => ⟨rfl, fun _ _ => rfl⟩) (ak (fun γ => ⟨rfl, fun w' h => ⟨15, #[.int .i64 s, .agg (pt X Y Z).toArray, U n], exec_call rfl call15 rfl (mpn rfl), Mul_dc k X Y Z n hn h1 w'⟩⟩) (ak (fun _ => ⟨rfl, fun _ _ => rfl⟩) (ak (by refine fun γ => ⟨rfl, fun w' h => ?_⟩; clear h; go_simp) (ak (by refine fun γ => ⟨rfl, fun w' h => ?_⟩; clear h; go_simp) (ak (fun γ => ⟨rfl, fun w' => ex_made25 rfl⟩) (ak (fun γ => ⟨rfl, rfl, rfl, fun w' h => ex_laidT h rfl rfl Try.sizeOf25 rfl rfl rfl⟩) (ak (fun _ => ⟨rfl, fun _ _ => rfl⟩) trivial)))))))))
  intro γ w7 l hM hl
  have H7 : Hid (Mm w7 [(γ 7, pt ((dM p (X, Y, Z) n).1) ((dM p (X, Y, Z) n).2.1) ((dM p (X, Y, Z) n).2.2)), (γ6_7, pt 0 0 false), (γ5_5, pt gx gy false), (γ2_5, kd p r c gx gy), (γ1_0, pt X Y Z), (γ1_1, pt X' Y' Z')] ∧ _) := growB H6 hM (Nat.le_refl _) hl [7] rfl (by decide)
  have o7_7 := ownB H6 hM (Nat.le_refl _) hl (i := 7) rfl
  clear hM hl l H6
  generalize γ 7 = γ7_7 at H7 o7_7 ⊢
  clear γ
  refine rest0 rfl (then_normal (wp_seq ?_))
  refine walk_seqA 9 [.quiet (.int .i64 s), .quiet (.agg (pt X Y Z).toArray), .call (.tuple #[.agg (pt ((dM p (X, Y, Z) c).1) ((dM p (X, Y, Z) c).2.1) ((dM p (X, Y, Z) c).2.2)).toArray, .int .i64 0]), .quiet (.tuple #[.agg (pt ((dM p (X, Y, Z) c).1) ((dM p (X, Y, Z) c).2.1) ((dM p (X, Y, Z) c).2.2)).toArray, .int .i64 0]), .quiet (.agg (pt ((dM p (X, Y, Z) c).1) ((dM p (X, Y, Z) c).2.1) ((dM p (X, Y, Z) c).2.2)).toArray), .quiet (.int .i64 0), .made (pt 0 0 false) 25, .laid 6 (pt 0 0 false) (pt ((dM p (X, Y, Z) c).1) ((dM p (X, Y, Z) c).2.1) ((dM p (X, Y, Z) c).2.2)), .quiet (.int .i64 0)] (sB H7) ?ho8 ?he8 (hL := ?hL8)
  case hL8 => exact ⟨⟨_, rfl⟩, trivial⟩
  case ho8 => exact ak (fun _ => ⟨rfl, fun _ _ => rfl⟩) (ak (fun γ => ⟨rfl, fun w' h => ex_loadT h 4 rfl rfl rfl Try.isAgg25 Try.sizeOf25 rfl rfl⟩) (ak (fun γ => ⟨rfl, fun w' h => ⟨16, #[.int .i64 s, .agg (pt X Y Z).toArray], exec_call rfl call16 rfl (mpn rfl), Clear_dc k X Y Z h1 w'⟩⟩) (ak (fun _ => ⟨rfl, fun _ _ => rfl⟩) (ak (by refine fun γ => ⟨rfl, fun w' h => ?_⟩; clear h; go_simp) (ak (by refine fun γ => ⟨rfl, fun w' h => ?_⟩; clear h; go_simp) (ak (fun γ => ⟨rfl, fun w' => ex_made25 rfl⟩) (ak (fun γ => ⟨rfl, rfl, rfl, fun w' h => ex_laidT h rfl rfl Try.sizeOf25 rfl rfl rfl⟩) (ak (fun _ => ⟨rfl, fun _ _ => rfl⟩) trivial))))))))
  intro γ w8 l hM hl
  have H8 : Hid (Mm w8 [(γ 6, pt ((dM p (X, Y, Z) c).1) ((dM p (X, Y, Z) c).2.1) ((dM p (X, Y, Z) c).2.2)), (γ7_7, pt ((dM p (X, Y, Z) n).1) ((dM p (X, Y, Z) n).2.1) ((dM p (X, Y, Z) n).2.2)), (γ6_7, pt 0 0 false), (γ5_5, pt gx gy false), (γ2_5, kd p r c gx gy), (γ1_0, pt X Y Z), (γ1_1, pt X' Y' Z')] ∧ _) := growB H7 hM (Nat.le_refl _) hl [6] rfl (by decide)
  have o8_6 := ownB H7 hM (Nat.le_refl _) hl (i := 6) rfl
  clear hM hl l H7
  generalize γ 6 = γ8_6 at H8 o8_6 ⊢
  clear γ
  refine rest0 rfl (then_normal (wp_seq ?_))
  refine walk_seqA 9 [.quiet (.int .i64 s), .quiet (.agg (pt X Y Z).toArray), .call (.tuple #[.agg (pt X (mi p 0 Y) Z).toArray, .int .i64 0]), .quiet (.tuple #[.agg (pt X (mi p 0 Y) Z).toArray, .int .i64 0]), .quiet (.agg (pt X (mi p 0 Y) Z).toArray), .quiet (.int .i64 0), .made (pt 0 0 false) 25, .laid 6 (pt 0 0 false) (pt X (mi p 0 Y) Z), .quiet (.int .i64 0)] (sB H8) ?ho9 ?he9 (hL := ?hL9)
  case hL9 => exact ⟨⟨_, rfl⟩, trivial⟩
  case ho9 => exact ak (fun _ => ⟨rfl, fun _ _ => rfl⟩) (ak (fun γ => ⟨rfl, fun w' h => ex_loadT h 5 rfl rfl rfl Try.isAgg25 Try.sizeOf25 rfl rfl⟩) (ak (fun γ => ⟨rfl, fun w' h => ⟨17, #[.int .i64 s, .agg (pt X Y Z).toArray], exec_call rfl call17 rfl (mpn rfl), Neg_ok k.k X Y Z h1 w'⟩⟩) (ak (fun _ => ⟨rfl, fun _ _ => rfl⟩) (ak (by refine fun γ => ⟨rfl, fun w' h => ?_⟩; clear h; go_simp) (ak (by refine fun γ => ⟨rfl, fun w' h => ?_⟩; clear h; go_simp) (ak (fun γ => ⟨rfl, fun w' => ex_made25 rfl⟩) (ak (fun γ => ⟨rfl, rfl, rfl, fun w' h => ex_laidT h rfl rfl Try.sizeOf25 rfl rfl rfl⟩) (ak (fun _ => ⟨rfl, fun _ _ => rfl⟩) trivial))))))))
  intro γ w9 l hM hl
  have H9 : Hid (Mm w9 [(γ 6, pt X (mi p 0 Y) Z), (γ8_6, pt ((dM p (X, Y, Z) c).1) ((dM p (X, Y, Z) c).2.1) ((dM p (X, Y, Z) c).2.2)), (γ7_7, pt ((dM p (X, Y, Z) n).1) ((dM p (X, Y, Z) n).2.1) ((dM p (X, Y, Z) n).2.2)), (γ6_7, pt 0 0 false), (γ5_5, pt gx gy false), (γ2_5, kd p r c gx gy), (γ1_0, pt X Y Z), (γ1_1, pt X' Y' Z')] ∧ _) := growB H8 hM (Nat.le_refl _) hl [6] rfl (by decide)
  have o9_6 := ownB H8 hM (Nat.le_refl _) hl (i := 6) rfl
  clear hM hl l H8
  generalize γ 6 = γ9_6 at H9 o9_6 ⊢
  clear γ
  refine rest0 rfl (then_normal (wp_seq ?_))
  refine walk_seqA 11 [.quiet (.int .i64 s), .quiet (U n), .call (.tuple #[.agg (pt ((n + nk p n) % p) (rt p (cb p ((n + nk p n) % p))) false).toArray, .int .i64 ((nk p n : Nat) : Int), .int .i64 0]), .quiet (.tuple #[.agg (pt ((n + nk p n) % p) (rt p (cb p ((n + nk p n) % p))) false).toArray, .int .i64 ((nk p n : Nat) : Int), .int .i64 0]), .quiet (.agg (pt ((n + nk p n) % p) (rt p (cb p ((n + nk p n) % p))) false).toArray), .quiet (.int .i64 ((nk p n : Nat) : Int)), .quiet (.int .i64 0), .made (pt 0 0 false) 25, .laid 7 (pt 0 0 false) (pt ((n + nk p n) % p) (rt p (cb p ((n + nk p n) % p))) false), .quiet (.int .i64 ((nk p n : Nat) : Int)), .quiet (.int .i64 0)] (sB H9) ?ho10 ?he10 (hL := ?hL10)
  case hL10 => exact ⟨⟨_, rfl⟩, trivial⟩
  case ho10 => exact ak (fun _ => ⟨rfl, fun _ _ => rfl⟩) (ak (fun _ => ⟨rfl, fun _ _ => rfl⟩) (ak (fun γ => ⟨rfl, fun w' h => ⟨18, #[.int .i64 s, U n], exec_call rfl call18 rfl (mpn rfl), Near_ok k.k n w'⟩⟩) (ak (fun _ => ⟨rfl, fun _ _ => rfl⟩) (ak (by refine fun γ => ⟨rfl, fun w' h => ?_⟩; clear h; go_simp) (ak (by refine fun γ => ⟨rfl, fun w' h => ?_⟩; clear h; go_simp) (ak (by refine fun γ => ⟨rfl, fun w' h => ?_⟩; clear h; go_simp) (ak (fun γ => ⟨rfl, fun w' => ex_made25 rfl⟩) (ak (fun γ => ⟨rfl, rfl, rfl, fun w' h => ex_laidT h rfl rfl Try.sizeOf25 rfl rfl rfl⟩) (ak (fun _ => ⟨rfl, fun _ _ => rfl⟩) (ak (fun _ => ⟨rfl, fun _ _ => rfl⟩) trivial))))))))))
  intro γ w10 l hM hl
  have H10 : Hid (Mm w10 [(γ 7, pt ((n + nk p n) % p) (rt p (cb p ((n + nk p n) % p))) false), (γ9_6, pt X (mi p 0 Y) Z), (γ8_6, pt ((dM p (X, Y, Z) c).1) ((dM p (X, Y, Z) c).2.1) ((dM p (X, Y, Z) c).2.2)), (γ7_7, pt ((dM p (X, Y, Z) n).1) ((dM p (X, Y, Z) n).2.1) ((dM p (X, Y, Z) n).2.2)), (γ6_7, pt 0 0 false), (γ5_5, pt gx gy false), (γ2_5, kd p r c gx gy), (γ1_0, pt X Y Z), (γ1_1, pt X' Y' Z')] ∧ _) := growB H9 hM (Nat.le_refl _) hl [7] rfl (by decide)
  have o10_7 := ownB H9 hM (Nat.le_refl _) hl (i := 7) rfl
  clear hM hl l H9
  generalize γ 7 = γ10_7 at H10 o10_7 ⊢
  clear γ
  refine rest0 rfl (then_normal (wp_seq ?_))
  refine walk_seqA 1 [.made (pt 0 0 false) 25] (sB H10) ?ho11 ?he11
  case ho11 => exact ak (fun γ => ⟨rfl, fun w' => ex_made25 rfl⟩) trivial
  intro γ w11 l hM hl
  have H11 : Hid (Mm w11 [(γ 0, pt 0 0 false), (γ10_7, pt ((n + nk p n) % p) (rt p (cb p ((n + nk p n) % p))) false), (γ9_6, pt X (mi p 0 Y) Z), (γ8_6, pt ((dM p (X, Y, Z) c).1) ((dM p (X, Y, Z) c).2.1) ((dM p (X, Y, Z) c).2.2)), (γ7_7, pt ((dM p (X, Y, Z) n).1) ((dM p (X, Y, Z) n).2.1) ((dM p (X, Y, Z) n).2.2)), (γ6_7, pt 0 0 false), (γ5_5, pt gx gy false), (γ2_5, kd p r c gx gy), (γ1_0, pt X Y Z), (γ1_1, pt X' Y' Z')] ∧ _) := growB H10 hM (Nat.le_refl _) hl [0] rfl (by decide)
  have o11_0 := ownB H10 hM (Nat.le_refl _) hl (i := 0) rfl
  clear hM hl l H10
  generalize γ 0 = γ11_0 at H11 o11_0 ⊢
  clear γ
  refine rest0 rfl (then_normal (wp_seq (wp_seq ?_)))
  refine walk_seqB 2 [.quiet (.bool true), .quiet (.bool false)] H11 ?ho12 ?he12
  case ho12 => exact ak (fun _ => ⟨rfl, fun _ _ => rfl⟩) (ak (by refine fun γ => ⟨rfl, fun w' h => ?_⟩; clear h; go_simp) trivial)
  intro _ w12 H12
  clear H11
  refine rest0 rfl (then_normal (wp_cond_false rfl ?_))
  refine wp_skip (then_normal (wp_seq ?_))
  refine walk_seqA 9 [.quiet (.agg (kd p r c gx gy).toArray), .quiet (U n), .call (.tuple #[.agg (pt ((n + nk p n) % p) (rt p (cb p ((n + nk p n) % p))) false).toArray, .int .i64 ((nk p n : Nat) : Int)]), .quiet (.tuple #[.agg (pt ((n + nk p n) % p) (rt p (cb p ((n + nk p n) % p))) false).toArray, .int .i64 ((nk p n : Nat) : Int)]), .quiet (.agg (pt ((n + nk p n) % p) (rt p (cb p ((n + nk p n) % p))) false).toArray), .quiet (.int .i64 ((nk p n : Nat) : Int)), .made (pt 0 0 false) 25, .laid 6 (pt 0 0 false) (pt ((n + nk p n) % p) (rt p (cb p ((n + nk p n) % p))) false), .quiet (.int .i64 ((nk p n : Nat) : Int))] (sB H12) ?ho13 ?he13 (hL := ?hL13)
  case hL13 => exact ⟨⟨_, rfl⟩, trivial⟩
  case ho13 => exact ak (fun γ => ⟨rfl, fun w' h => ex_loadT h 7 rfl rfl rfl Try.isAgg27 Try.sizeOf27 rfl rfl⟩) (ak (fun _ => ⟨rfl, fun _ _ => rfl⟩) (ak (fun γ => ⟨rfl, fun w' h => ⟨21, #[.agg (kd p r c gx gy).toArray, U n], exec_call rfl call21 rfl (mpn rfl), dNear_any k.k.pr n w'⟩⟩) (ak (fun _ => ⟨rfl, fun _ _ => rfl⟩) (ak (by refine fun γ => ⟨rfl, fun w' h => ?_⟩; clear h; go_simp) (ak (by refine fun γ => ⟨rfl, fun w' h => ?_⟩; clear h; go_simp) (ak (fun γ => ⟨rfl, fun w' => ex_made25 rfl⟩) (ak (fun γ => ⟨rfl, rfl, rfl, fun w' h => ex_laidT h rfl rfl Try.sizeOf25 rfl rfl rfl⟩) (ak (fun _ => ⟨rfl, fun _ _ => rfl⟩) trivial))))))))
  intro γ w13 l hM hl
  have H13 : Hid (Mm w13 [(γ 6, pt ((n + nk p n) % p) (rt p (cb p ((n + nk p n) % p))) false), (γ11_0, pt 0 0 false), (γ10_7, pt ((n + nk p n) % p) (rt p (cb p ((n + nk p n) % p))) false), (γ9_6, pt X (mi p 0 Y) Z), (γ8_6, pt ((dM p (X, Y, Z) c).1) ((dM p (X, Y, Z) c).2.1) ((dM p (X, Y, Z) c).2.2)), (γ7_7, pt ((dM p (X, Y, Z) n).1) ((dM p (X, Y, Z) n).2.1) ((dM p (X, Y, Z) n).2.2)), (γ6_7, pt 0 0 false), (γ5_5, pt gx gy false), (γ2_5, kd p r c gx gy), (γ1_0, pt X Y Z), (γ1_1, pt X' Y' Z')] ∧ _) := growB H12 hM (Nat.le_refl _) hl [6] rfl (by decide)
  have o13_6 := ownB H12 hM (Nat.le_refl _) hl (i := 6) rfl
  clear hM hl l H12
  generalize γ 6 = γ13_6 at H13 o13_6 ⊢
  clear γ
  refine rest0 rfl (then_normal (wp_seq (wp_seq ?_)))
  refine walk_anyB 60 [.quiet (U p), .quiet (PT γ2_5 0), .quiet (U p), .quiet (.bool false), .quiet (.bool false), .quiet (.int .i64 0), .quiet (.bool false), .quiet (.bool false), .quiet (.bool false), .quiet (U r), .quiet (PT γ2_5 1), .quiet (U r), .quiet (.bool false), .quiet (.bool false), .quiet (.bool false), .quiet (.int .i64 0), .quiet (.bool false), .quiet (.bool false), .quiet (.bool false), .quiet (.agg (pt gx gy false).toArray), .quiet (PT γ2_5 3), .quiet (.agg (pt gx gy false).toArray), .quiet (.bool false), .quiet (.bool false), .quiet (.bool false), .quiet (.int .i64 0), .quiet (.bool false), .quiet (.bool false), .quiet (.bool false), .quiet (.agg (pt ((n + nk p n) % p) (rt p (cb p ((n + nk p n) % p))) false).toArray), .quiet (.agg (pt ((n + nk p n) % p) (rt p (cb p ((n + nk p n) % p))) false).toArray), .quiet (.bool false), .quiet (.bool false), .quiet (.bool false), .quiet (.int .i64 ((nk p n : Nat) : Int)), .quiet (.int .i64 ((nk p n : Nat) : Int)), .quiet (.bool false), .quiet (.bool false), .quiet (.bool false), .quiet (.int .i64 0), .quiet (.bool false), .quiet (.bool false), .quiet (.bool false), .quiet (.int .i64 s), .quiet (.agg (pt X Y Z).toArray), .call (.bool true), .quiet (.agg (kd p r c gx gy).toArray), .quiet (.agg (pt X Y Z).toArray), .call (.bool true), .quiet (.bool false), .quiet (.bool false), .quiet (.bool false), .quiet (.int .i64 s), .quiet (.agg (pt X Y Z).toArray), .call (.bool (di p r X Y Z)), .quiet (.agg (kd p r c gx gy).toArray), .quiet (.agg (pt X Y Z).toArray), .call (.bool (di p r X Y Z)), .quiet (.bool false), .quiet (.bool false)] H13 ?ho14 ?he14 (hL := ?hL14)
  case hL14 => exact trivial
  case ho14 => exact ak (fun _ => ⟨rfl, fun _ _ => rfl⟩) (ak (by refine fun γ => ⟨rfl, fun w' h => ?_⟩; clear h; go_simp) (ak (fun γ => ⟨rfl, fun w' h => ex_loadC h 8 rfl rfl rfl Try.isAgg23 rfl⟩) (ak (fun γ => ⟨rfl, fun w' _ => ex_neU rfl rfl rfl (decide_eq_false (fun h => h rfl))⟩) (ak (fun _ => ⟨rfl, fun _ _ => rfl⟩) (ak (fun _ => ⟨rfl, fun _ _ => rfl⟩) (ak (by refine fun γ => ⟨rfl, fun w' h => ?_⟩; clear h; go_simp) (ak (by refine fun γ => ⟨rfl, fun w' h => ?_⟩; clear h; go_simp) (ak (fun _ => ⟨rfl, fun _ _ => rfl⟩) (ak (fun _ => ⟨rfl, fun _ _ => rfl⟩) (ak (by refine fun γ => ⟨rfl, fun w' h => ?_⟩; clear h; go_simp) (ak (fun γ => ⟨rfl, fun w' h => ex_loadC h 8 rfl rfl rfl Try.isAgg23 rfl⟩) (ak (fun γ => ⟨rfl, fun w' _ => ex_neU rfl rfl rfl (decide_eq_false (fun h => h rfl))⟩) (ak (by refine fun γ => ⟨rfl, fun w' h => ?_⟩; clear h; go_simp) (ak (fun _ => ⟨rfl, fun _ _ => rfl⟩) (ak (fun _ => ⟨rfl, fun _ _ => rfl⟩) (ak (by refine fun γ => ⟨rfl, fun w' h => ?_⟩; clear h; go_simp) (ak (by refine fun γ => ⟨rfl, fun w' h => ?_⟩; clear h; go_simp) (ak (fun _ => ⟨rfl, fun _ _ => rfl⟩) (ak (fun γ => ⟨rfl, fun w' h => ex_loadT h 7 rfl rfl rfl Try.isAgg25 Try.sizeOf25 rfl rfl⟩) (ak (by refine fun γ => ⟨rfl, fun w' h => ?_⟩; clear h; go_simp) (ak (fun γ => ⟨rfl, fun w' h => ex_loadT h 8 rfl rfl rfl Try.isAgg25 Try.sizeOf25 rfl rfl⟩) (ak (fun γ => ⟨rfl, fun w' _ => exec_neqT25 (fun w => eq_self _ _ _ w) rfl rfl rfl⟩) (ak (by refine fun γ => ⟨rfl, fun w' h => ?_⟩; clear h; go_simp) (ak (fun _ => ⟨rfl, fun _ _ => rfl⟩) (ak (fun _ => ⟨rfl, fun _ _ => rfl⟩) (ak (by refine fun γ => ⟨rfl, fun w' h => ?_⟩; clear h; go_simp) (ak (by refine fun γ => ⟨rfl, fun w' h => ?_⟩; clear h; go_simp) (ak (fun _ => ⟨rfl, fun _ _ => rfl⟩) (ak (fun γ => ⟨rfl, fun w' h => ex_loadT h 2 rfl rfl rfl Try.isAgg25 Try.sizeOf25 rfl rfl⟩) (ak (fun γ => ⟨rfl, fun w' h => ex_loadT h 0 rfl rfl rfl Try.isAgg25 Try.sizeOf25 rfl rfl⟩) (ak (fun γ => ⟨rfl, fun w' _ => exec_neqT25 (fun w => eq_self _ _ _ w) rfl rfl rfl⟩) (ak (by refine fun γ => ⟨rfl, fun w' h => ?_⟩; clear h; go_simp) (ak (fun _ => ⟨rfl, fun _ _ => rfl⟩) (ak (fun _ => ⟨rfl, fun _ _ => rfl⟩) (ak (fun _ => ⟨rfl, fun _ _ => rfl⟩) (ak (by refine fun γ => ⟨rfl, fun w' h => ?_⟩; clear h; go_simp) (ak (by refine fun γ => ⟨rfl, fun w' h => ?_⟩; clear h; go_simp) (ak (fun _ => ⟨rfl, fun _ _ => rfl⟩) (ak (fun _ => ⟨rfl, fun _ _ => rfl⟩) (ak (by refine fun γ => ⟨rfl, fun w' h => ?_⟩; clear h; go_simp) (ak (by refine fun γ => ⟨rfl, fun w' h => ?_⟩; clear h; go_simp) (ak (fun _ => ⟨rfl, fun _ _ => rfl⟩) (ak (fun _ => ⟨rfl, fun _ _ => rfl⟩) (ak (fun γ => ⟨rfl, fun w' h => ex_loadT h 9 rfl rfl rfl Try.isAgg25 Try.sizeOf25 rfl rfl⟩) (ak (fun γ => ⟨rfl, fun w' h => ⟨19, #[.int .i64 s, .agg (pt X Y Z).toArray], exec_call rfl call19 rfl (mpn rfl), Check_is k X Y Z _ h1 w'⟩⟩) (ak (fun γ => ⟨rfl, fun w' h => ex_loadT h 8 rfl rfl rfl Try.isAgg27 Try.sizeOf27 rfl rfl⟩) (ak (fun γ => ⟨rfl, fun w' h => ex_loadT h 9 rfl rfl rfl Try.isAgg25 Try.sizeOf25 rfl rfl⟩) (ak (fun γ => ⟨rfl, fun w' h => ⟨22, #[.agg (kd p r c gx gy).toArray, .agg (pt X Y Z).toArray], exec_call rfl call22 rfl (mpn rfl), dc_is k.k.pr X Y Z _ h1 w'⟩⟩) (ak (by refine fun γ => ⟨rfl, fun w' h => ?_⟩; clear h; go_simp) (ak (by refine fun γ => ⟨rfl, fun w' h => ?_⟩; clear h; go_simp) (ak (fun _ => ⟨rfl, fun _ _ => rfl⟩) (ak (fun _ => ⟨rfl, fun _ _ => rfl⟩) (ak (fun γ => ⟨rfl, fun w' h => ex_loadT h 9 rfl rfl rfl Try.isAgg25 Try.sizeOf25 rfl rfl⟩) (ak (fun γ => ⟨rfl, fun w' h => ⟨20, #[.int .i64 s, .agg (pt X Y Z).toArray], exec_call rfl call20 rfl (mpn rfl), In_dc k X Y Z w'⟩⟩) (ak (fun γ => ⟨rfl, fun w' h => ex_loadT h 8 rfl rfl rfl Try.isAgg27 Try.sizeOf27 rfl rfl⟩) (ak (fun γ => ⟨rfl, fun w' h => ex_loadT h 9 rfl rfl rfl Try.isAgg25 Try.sizeOf25 rfl rfl⟩) (ak (fun γ => ⟨rfl, fun w' h => ⟨23, #[.agg (kd p r c gx gy).toArray, .agg (pt X Y Z).toArray], exec_call rfl call23 rfl (mpn rfl), dIn_any k.k.pr k.k.rb X Y Z w'⟩⟩) (ak (fun γ => ⟨rfl, fun w' _ => ex_neB rfl rfl rfl⟩) (ak (by refine fun γ => ⟨rfl, fun w' h => ?_⟩; clear h; go_simp) trivial)))))))))))))))))))))))))))))))))))))))))))))))))))))))))))
  intro _ w14 H14
  clear H13
  refine rest0 rfl (then_normal (wp_cond_false rfl ?_))
  refine wp_skip (then_normal ?_)
  refine wp_seq (wp_seq ?_)
  refine walk_seqB 4 [.quiet (.agg (kd p r c gx gy).toArray), .quiet (.agg (pt X Y Z).toArray), .call (.bool true), .quiet (.bool false)] H14 ?ho15 ?he15
  case ho15 => exact ak (fun γ => ⟨rfl, fun w' h => ex_loadT h 8 rfl rfl rfl Try.isAgg27 Try.sizeOf27 rfl rfl⟩) (ak (fun γ => ⟨rfl, fun w' h => ex_loadT h 9 rfl rfl rfl Try.isAgg25 Try.sizeOf25 rfl rfl⟩) (ak (fun γ => ⟨rfl, fun w' h => ⟨22, #[.agg (kd p r c gx gy).toArray, .agg (pt X Y Z).toArray], exec_call rfl call22 rfl (mpn rfl), dc_is k.k.pr X Y Z _ h1 w'⟩⟩) (ak (by refine fun γ => ⟨rfl, fun w' h => ?_⟩; clear h; go_simp) trivial)))
  intro _ w15 H15
  clear H14
  refine rest0 rfl (then_normal (wp_cond_false rfl ?_))
  refine wp_skip (then_normal ?_)
  refine wp_seq (wp_seq ?_)
  refine walk_anyB 34 [.quiet (.agg (pt ((dM p (X, Y, Z) n).1) ((dM p (X, Y, Z) n).2.1) ((dM p (X, Y, Z) n).2.2)).toArray), .quiet (.agg (kd p r c gx gy).toArray), .quiet (.agg (pt X Y Z).toArray), .quiet (U n), .call (.agg (pt ((dM p (X, Y, Z) n).1) ((dM p (X, Y, Z) n).2.1) ((dM p (X, Y, Z) n).2.2)).toArray), .quiet (.bool false), .quiet (.bool false), .quiet (.int .i64 0), .quiet (.bool false), .quiet (.bool false), .quiet (.bool false), .quiet (.agg (pt ((dM p (X, Y, Z) c).1) ((dM p (X, Y, Z) c).2.1) ((dM p (X, Y, Z) c).2.2)).toArray), .quiet (.agg (kd p r c gx gy).toArray), .quiet (.agg (pt X Y Z).toArray), .quiet (PT γ2_5 2), .quiet (U c), .call (.agg (pt ((dM p (X, Y, Z) c).1) ((dM p (X, Y, Z) c).2.1) ((dM p (X, Y, Z) c).2.2)).toArray), .quiet (.bool false), .quiet (.bool false), .quiet (.bool false), .quiet (.int .i64 0), .quiet (.bool false), .quiet (.bool false), .quiet (.bool false), .quiet (.agg (pt X (mi p 0 Y) Z).toArray), .quiet (.agg (kd p r c gx gy).toArray), .quiet (.agg (pt X Y Z).toArray), .call (.agg (pt X (mi p 0 Y) Z).toArray), .quiet (.bool false), .quiet (.bool false), .quiet (.bool false), .quiet (.int .i64 0), .quiet (.bool false), .quiet (.bool false)] H15 ?ho16 ?he16 (hL := ?hL16)
  case hL16 => exact trivial
  case ho16 => exact ak (fun γ => ⟨rfl, fun w' h => ex_loadT h 5 rfl rfl rfl Try.isAgg25 Try.sizeOf25 rfl rfl⟩) (ak (fun γ => ⟨rfl, fun w' h => ex_loadT h 8 rfl rfl rfl Try.isAgg27 Try.sizeOf27 rfl rfl⟩) (ak (fun γ => ⟨rfl, fun w' h => ex_loadT h 9 rfl rfl rfl Try.isAgg25 Try.sizeOf25 rfl rfl⟩) (ak (fun _ => ⟨rfl, fun _ _ => rfl⟩) (ak (fun γ => ⟨rfl, fun w' h => ⟨24, #[.agg (kd p r c gx gy).toArray, .agg (pt X Y Z).toArray, U n], exec_call rfl call24 rfl (mpn rfl), dMul_any k.k.pr X Y Z (oc_lt k.k.pr h1).1 (oc_lt k.k.pr h1).2 n hn w'⟩⟩) (ak (fun γ => ⟨rfl, fun w' _ => exec_neqT25 (fun w => eq_self _ _ _ w) rfl rfl rfl⟩) (ak (fun _ => ⟨rfl, fun _ _ => rfl⟩) (ak (fun _ => ⟨rfl, fun _ _ => rfl⟩) (ak (by refine fun γ => ⟨rfl, fun w' h => ?_⟩; clear h; go_simp) (ak (by refine fun γ => ⟨rfl, fun w' h => ?_⟩; clear h; go_simp) (ak (fun _ => ⟨rfl, fun _ _ => rfl⟩) (ak (fun γ => ⟨rfl, fun w' h => ex_loadT h 4 rfl rfl rfl Try.isAgg25 Try.sizeOf25 rfl rfl⟩) (ak (fun γ => ⟨rfl, fun w' h => ex_loadT h 8 rfl rfl rfl Try.isAgg27 Try.sizeOf27 rfl rfl⟩) (ak (fun γ => ⟨rfl, fun w' h => ex_loadT h 9 rfl rfl rfl Try.isAgg25 Try.sizeOf25 rfl rfl⟩) (ak (by refine fun γ => ⟨rfl, fun w' h => ?_⟩; clear h; go_simp) (ak (fun γ => ⟨rfl, fun w' h => ex_loadC h 8 rfl rfl rfl Try.isAgg23 rfl⟩) (ak (fun γ => ⟨rfl, fun w' h => ⟨24, #[.agg (kd p r c gx gy).toArray, .agg (pt X Y Z).toArray, U c], exec_call rfl call24 rfl (mpn rfl), dMul_any k.k.pr X Y Z (oc_lt k.k.pr h1).1 (oc_lt k.k.pr h1).2 c k.k.cb w'⟩⟩) (ak (fun γ => ⟨rfl, fun w' _ => exec_neqT25 (fun w => eq_self _ _ _ w) rfl rfl rfl⟩) (ak (by refine fun γ => ⟨rfl, fun w' h => ?_⟩; clear h; go_simp) (ak (fun _ => ⟨rfl, fun _ _ => rfl⟩) (ak (fun _ => ⟨rfl, fun _ _ => rfl⟩) (ak (by refine fun γ => ⟨rfl, fun w' h => ?_⟩; clear h; go_simp) (ak (by refine fun γ => ⟨rfl, fun w' h => ?_⟩; clear h; go_simp) (ak (fun _ => ⟨rfl, fun _ _ => rfl⟩) (ak (fun γ => ⟨rfl, fun w' h => ex_loadT h 3 rfl rfl rfl Try.isAgg25 Try.sizeOf25 rfl rfl⟩) (ak (fun γ => ⟨rfl, fun w' h => ex_loadT h 8 rfl rfl rfl Try.isAgg27 Try.sizeOf27 rfl rfl⟩) (ak (fun γ => ⟨rfl, fun w' h => ex_loadT h 9 rfl rfl rfl Try.isAgg25 Try.sizeOf25 rfl rfl⟩) (ak (fun γ => ⟨rfl, fun w' h => ⟨25, #[.agg (kd p r c gx gy).toArray, .agg (pt X Y Z).toArray], exec_call rfl call25 rfl (mpn rfl), dNeg_any k.k.pr X Y Z (oc_lt k.k.pr h1).2 w'⟩⟩) (ak (fun γ => ⟨rfl, fun w' _ => exec_neqT25 (fun w => eq_self _ _ _ w) rfl rfl rfl⟩) (ak (by refine fun γ => ⟨rfl, fun w' h => ?_⟩; clear h; go_simp) (ak (fun _ => ⟨rfl, fun _ _ => rfl⟩) (ak (fun _ => ⟨rfl, fun _ _ => rfl⟩) (ak (by refine fun γ => ⟨rfl, fun w' h => ?_⟩; clear h; go_simp) (ak (by refine fun γ => ⟨rfl, fun w' h => ?_⟩; clear h; go_simp) trivial)))))))))))))))))))))))))))))))))
  intro _ w16 H16
  clear H15
  refine rest0 rfl (then_normal (wp_cond_false rfl ?_))
  refine wp_skip (then_normal ?_)
  refine wp_seq (wp_seq ?_)
  refine walk_seqB 4 [.quiet (.agg (kd p r c gx gy).toArray), .quiet (.agg (pt X' Y' Z').toArray), .call (.bool false), .quiet (.bool true)] H16 ?ho17 ?he17
  case ho17 => exact ak (fun γ => ⟨rfl, fun w' h => ex_loadT h 8 rfl rfl rfl Try.isAgg27 Try.sizeOf27 rfl rfl⟩) (ak (fun γ => ⟨rfl, fun w' h => ex_loadT h 10 rfl rfl rfl Try.isAgg25 Try.sizeOf25 rfl rfl⟩) (ak (fun γ => ⟨rfl, fun w' h => ⟨22, #[.agg (kd p r c gx gy).toArray, .agg (pt X' Y' Z').toArray], exec_call rfl call22 rfl (mpn rfl), dc_is k.k.pr X' Y' Z' _ h2 w'⟩⟩) (ak (by refine fun γ => ⟨rfl, fun w' h => ?_⟩; clear h; go_simp) trivial)))
  intro _ w17 H17
  clear H16
  refine rest0 rfl (then_normal (wp_cond_true rfl (wp_seq ?_)))
  refine walk_seqB 8 [.quiet (.agg (pt 0 0 false).toArray), .quiet (.agg (pt 0 0 false).toArray), .quiet (.bool true), .quiet (.bool true), .quiet (.int .i64 5), .quiet (.bool true), .quiet (.bool true), .quiet (.bool true)] H17 ?ho18 ?he18
  case ho18 => exact ak (fun γ => ⟨rfl, fun w' h => ex_loadT h 6 rfl rfl rfl Try.isAgg25 Try.sizeOf25 rfl rfl⟩) (ak (fun γ => ⟨rfl, fun w' h => ex_loadT h 1 rfl rfl rfl Try.isAgg25 Try.sizeOf25 rfl rfl⟩) (ak (fun γ => ⟨rfl, fun w' _ => exec_eqT25 (fun w => eq_self _ _ _ w) rfl rfl rfl⟩) (ak (fun _ => ⟨rfl, fun _ _ => rfl⟩) (ak (fun _ => ⟨rfl, fun _ _ => rfl⟩) (ak (by refine fun γ => ⟨rfl, fun w' h => ?_⟩; clear h; go_simp) (ak (by refine fun γ => ⟨rfl, fun w' h => ?_⟩; clear h; go_simp) (ak (fun _ => ⟨rfl, fun _ _ => rfl⟩) trivial)))))))
  intro _ w18 H18
  clear H17
  refine rest0 rfl (then_normal (wp_ret ?_))
  repeat (first | refine then_ret ?_ | refine block_ret ?_)
  refine bodyPost_ret (v := .bool true) (by simp [results, Try.results3, go_sem, *]) rfl ?_
  exact ⟨rfl, H18.out.2⟩
set_option maxHeartbeats 4000000 in
set_option maxRecDepth 100000 in
theorem tells_tt (k : Kq s p r c gx gy) (X Y : Nat) (Z : Bool) (X' Y' : Nat) (Z' : Bool) (n : Nat) (hn : n < 18446744073709551616) (h1 : oc p X Y Z = true) (h2 : oc p X' Y' Z' = true) (w : World) :
    Calls Try.prog 3 #[.int .i64 s, .agg (pt X Y Z).toArray, .agg (pt X' Y' Z').toArray, U n] w fun e w' => e = .returned (.bool true) ∧ Below w.heap.size w w' := by
  have H0 : Hid (_ ∧ _) := ⟨Mm.nil w, Below.refl w.heap.size w⟩
  go_enter Try.func3, Try.ntmps3
  refine wp_seq ?_
  refine walk_seqA 3 [.made (pt X Y Z) 25, .made (pt X' Y' Z') 25, .quiet (.bool false)] (sB H0) ?ho1 ?he1
  case ho1 => exact ak (fun γ => ⟨rfl, fun w' => ex_boxT rfl rfl⟩) (ak (fun γ => ⟨rfl, fun w' => ex_boxT rfl rfl⟩) (ak (fun _ => ⟨rfl, fun _ _ => rfl⟩) trivial))
  intro γ w1 l hM hl
  have H1 : Hid (Mm w1 [(γ 0, pt X Y Z), (γ 1, pt X' Y' Z')] ∧ _) := growB H0 hM (Nat.le_refl _) hl [0, 1] rfl (by decide)
  have o1_0 := ownB H0 hM (Nat.le_refl _) hl (i := 0) rfl
  have o1_1 := ownB H0 hM (Nat.le_refl _) hl (i := 1) rfl
  clear hM hl l
  generalize γ 0 = γ1_0 at H1 o1_0 ⊢
  generalize γ 1 = γ1_1 at H1 o1_1 ⊢
  clear γ
  refine rest0 rfl (then_normal (wp_seq ?_))
  refine walk_seqA 8 [.quiet (.int .i64 s), .call (.tuple #[.agg (kd p r c gx gy).toArray, .bool true]), .quiet (.tuple #[.agg (kd p r c gx gy).toArray, .bool true]), .quiet (.agg (kd p r c gx gy).toArray), .quiet (.bool true), .made (kd 0 0 0 0 0) 27, .laid 5 (kd 0 0 0 0 0) (kd p r c gx gy), .quiet (.bool true)] (sB H1) ?ho2 ?he2 (hL := ?hL2)
  case hL2 => exact ⟨⟨_, rfl⟩, trivial⟩
  case ho2 => exact ak (fun _ => ⟨rfl, fun _ _ => rfl⟩) (ak (fun γ => ⟨rfl, fun w' h => ⟨10, #[.int .i64 s], exec_call rfl call10 rfl (mpn rfl), k.of w'⟩⟩) (ak (fun _ => ⟨rfl, fun _ _ => rfl⟩) (ak (by refine fun γ => ⟨rfl, fun w' h => ?_⟩; clear h; go_simp) (ak (by refine fun γ => ⟨rfl, fun w' h => ?_⟩; clear h; go_simp) (ak (fun γ => ⟨rfl, fun w' => ex_made27 rfl⟩) (ak (fun γ => ⟨rfl, rfl, rfl, fun w' h => ex_laidT h rfl rfl Try.sizeOf27 rfl rfl rfl⟩) (ak (fun _ => ⟨rfl, fun _ _ => rfl⟩) trivial)))))))
  intro γ w2 l hM hl
  have H2 : Hid (Mm w2 [(γ 5, kd p r c gx gy), (γ1_0, pt X Y Z), (γ1_1, pt X' Y' Z')] ∧ _) := growB H1 hM (Nat.le_refl _) hl [5] rfl (by decide)
  have o2_5 := ownB H1 hM (Nat.le_refl _) hl (i := 5) rfl
  clear hM hl l H1
  generalize γ 5 = γ2_5 at H2 o2_5 ⊢
  clear γ
  refine rest0 rfl (then_normal (wp_seq ?_))
  refine walk_seqB 7 [.quiet (.int .i64 s), .call (.tuple #[U p, .int .i64 0]), .quiet (.tuple #[U p, .int .i64 0]), .quiet (U p), .quiet (.int .i64 0), .quiet (U p), .quiet (.int .i64 0)] H2 ?ho3 ?he3
  case ho3 => exact ak (fun _ => ⟨rfl, fun _ _ => rfl⟩) (ak (fun γ => ⟨rfl, fun w' h => ⟨11, #[.int .i64 s], exec_call rfl call11 rfl (mpn rfl), Prime_ok k.k w'⟩⟩) (ak (fun _ => ⟨rfl, fun _ _ => rfl⟩) (ak (by refine fun γ => ⟨rfl, fun w' h => ?_⟩; clear h; go_simp) (ak (by refine fun γ => ⟨rfl, fun w' h => ?_⟩; clear h; go_simp) (ak (fun _ => ⟨rfl, fun _ _ => rfl⟩) (ak (fun _ => ⟨rfl, fun _ _ => rfl⟩) trivial))))))
  intro _ w3 H3
  clear H2
  refine rest0 rfl (then_normal (wp_seq ?_))
  refine walk_seqB 7 [.quiet (.int .i64 s), .call (.tuple #[U r, .int .i64 0]), .quiet (.tuple #[U r, .int .i64 0]), .quiet (U r), .quiet (.int .i64 0), .quiet (U r), .quiet (.int .i64 0)] H3 ?ho4 ?he4
  case ho4 => exact ak (fun _ => ⟨rfl, fun _ _ => rfl⟩) (ak (fun γ => ⟨rfl, fun w' h => ⟨12, #[.int .i64 s], exec_call rfl call12 rfl (mpn rfl), Order_ok k.k w'⟩⟩) (ak (fun _ => ⟨rfl, fun _ _ => rfl⟩) (ak (by refine fun γ => ⟨rfl, fun w' h => ?_⟩; clear h; go_simp) (ak (by refine fun γ => ⟨rfl, fun w' h => ?_⟩; clear h; go_simp) (ak (fun _ => ⟨rfl, fun _ _ => rfl⟩) (ak (fun _ => ⟨rfl, fun _ _ => rfl⟩) trivial))))))
  intro _ w4 H4
  clear H3
  refine rest0 rfl (then_normal (wp_seq ?_))
  refine walk_seqA 8 [.quiet (.int .i64 s), .call (.tuple #[.agg (pt gx gy false).toArray, .int .i64 0]), .quiet (.tuple #[.agg (pt gx gy false).toArray, .int .i64 0]), .quiet (.agg (pt gx gy false).toArray), .quiet (.int .i64 0), .made (pt 0 0 false) 25, .laid 5 (pt 0 0 false) (pt gx gy false), .quiet (.int .i64 0)] (sB H4) ?ho5 ?he5 (hL := ?hL5)
  case hL5 => exact ⟨⟨_, rfl⟩, trivial⟩
  case ho5 => exact ak (fun _ => ⟨rfl, fun _ _ => rfl⟩) (ak (fun γ => ⟨rfl, fun w' h => ⟨13, #[.int .i64 s], exec_call rfl call13 rfl (mpn rfl), Gen_ok k.k w'⟩⟩) (ak (fun _ => ⟨rfl, fun _ _ => rfl⟩) (ak (by refine fun γ => ⟨rfl, fun w' h => ?_⟩; clear h; go_simp) (ak (by refine fun γ => ⟨rfl, fun w' h => ?_⟩; clear h; go_simp) (ak (fun γ => ⟨rfl, fun w' => ex_made25 rfl⟩) (ak (fun γ => ⟨rfl, rfl, rfl, fun w' h => ex_laidT h rfl rfl Try.sizeOf25 rfl rfl rfl⟩) (ak (fun _ => ⟨rfl, fun _ _ => rfl⟩) trivial)))))))
  intro γ w5 l hM hl
  have H5 : Hid (Mm w5 [(γ 5, pt gx gy false), (γ2_5, kd p r c gx gy), (γ1_0, pt X Y Z), (γ1_1, pt X' Y' Z')] ∧ _) := growB H4 hM (Nat.le_refl _) hl [5] rfl (by decide)
  have o5_5 := ownB H4 hM (Nat.le_refl _) hl (i := 5) rfl
  clear hM hl l H4
  generalize γ 5 = γ5_5 at H5 o5_5 ⊢
  clear γ
  refine rest0 rfl (then_normal (wp_seq ?_))
  refine walk_seqA 10 [.quiet (.int .i64 s), .quiet (.agg (pt X Y Z).toArray), .quiet (.agg (pt X' Y' Z').toArray), .call (.tuple #[.agg (pt ((dA p (X, Y, Z) (X', Y', Z')).1) ((dA p (X, Y, Z) (X', Y', Z')).2.1) ((dA p (X, Y, Z) (X', Y', Z')).2.2)).toArray, .int .i64 0]), .quiet (.tuple #[.agg (pt ((dA p (X, Y, Z) (X', Y', Z')).1) ((dA p (X, Y, Z) (X', Y', Z')).2.1) ((dA p (X, Y, Z) (X', Y', Z')).2.2)).toArray, .int .i64 0]), .quiet (.agg (pt ((dA p (X, Y, Z) (X', Y', Z')).1) ((dA p (X, Y, Z) (X', Y', Z')).2.1) ((dA p (X, Y, Z) (X', Y', Z')).2.2)).toArray), .quiet (.int .i64 0), .made (pt 0 0 false) 25, .laid 7 (pt 0 0 false) (pt ((dA p (X, Y, Z) (X', Y', Z')).1) ((dA p (X, Y, Z) (X', Y', Z')).2.1) ((dA p (X, Y, Z) (X', Y', Z')).2.2)), .quiet (.int .i64 0)] (sB H5) ?ho6 ?he6 (hL := ?hL6)
  case hL6 => exact ⟨⟨_, rfl⟩, trivial⟩
  case ho6 => exact ak (fun _ => ⟨rfl, fun _ _ => rfl⟩) (ak (fun γ => ⟨rfl, fun w' h => ex_loadT h 2 rfl rfl rfl Try.isAgg25 Try.sizeOf25 rfl rfl⟩) (ak (fun γ => ⟨rfl, fun w' h => ex_loadT h 3 rfl rfl rfl Try.isAgg25 Try.sizeOf25 rfl rfl⟩) (ak (fun γ => ⟨rfl, fun w' h => ⟨14, #[.int .i64 s, .agg (pt X Y Z).toArray, .agg (pt X' Y' Z').toArray], exec_call rfl call14 rfl (mpn rfl), Add_dc k X Y Z X' Y' Z' h1 h2 w'⟩⟩) (ak (fun _ => ⟨rfl, fun _ _ => rfl⟩) (ak (by refine fun γ => ⟨rfl, fun w' h => ?_⟩; clear h; go_simp) (ak (by refine fun γ => ⟨rfl, fun w' h => ?_⟩; clear h; go_simp) (ak (fun γ => ⟨rfl, fun w' => ex_made25 rfl⟩) (ak (fun γ => ⟨rfl, rfl, rfl, fun w' h => ex_laidT h rfl rfl Try.sizeOf25 rfl rfl rfl⟩) (ak (fun _ => ⟨rfl, fun _ _ => rfl⟩) trivial)))))))))
  intro γ w6 l hM hl
  have H6 : Hid (Mm w6 [(γ 7, pt ((dA p (X, Y, Z) (X', Y', Z')).1) ((dA p (X, Y, Z) (X', Y', Z')).2.1) ((dA p (X, Y, Z) (X', Y', Z')).2.2)), (γ5_5, pt gx gy false), (γ2_5, kd p r c gx gy), (γ1_0, pt X Y Z), (γ1_1, pt X' Y' Z')] ∧ _) := growB H5 hM (Nat.le_refl _) hl [7] rfl (by decide)
  have o6_7 := ownB H5 hM (Nat.le_refl _) hl (i := 7) rfl
  clear hM hl l H5
  generalize γ 7 = γ6_7 at H6 o6_7 ⊢
  clear γ
  refine rest0 rfl (then_normal (wp_seq ?_))
  refine walk_seqA 10 [.quiet (.int .i64 s), .quiet (.agg (pt X Y Z).toArray), .quiet (U n), .call (.tuple #[.agg (pt ((dM p (X, Y, Z) n).1) ((dM p (X, Y, Z) n).2.1) ((dM p (X, Y, Z) n).2.2)).toArray, .int .i64 0]), .quiet (.tuple #[.agg (pt ((dM p (X, Y, Z) n).1) ((dM p (X, Y, Z) n).2.1) ((dM p (X, Y, Z) n).2.2)).toArray, .int .i64 0]), .quiet (.agg (pt ((dM p (X, Y, Z) n).1) ((dM p (X, Y, Z) n).2.1) ((dM p (X, Y, Z) n).2.2)).toArray), .quiet (.int .i64 0), .made (pt 0 0 false) 25, .laid 7 (pt 0 0 false) (pt ((dM p (X, Y, Z) n).1) ((dM p (X, Y, Z) n).2.1) ((dM p (X, Y, Z) n).2.2)), .quiet (.int .i64 0)] (sB H6) ?ho7 ?he7 (hL := ?hL7)
  case hL7 => exact ⟨⟨_, rfl⟩, trivial⟩
  case ho7 => exact ak (fun _ => ⟨rfl, fun _ _ => rfl⟩) (ak (fun γ => ⟨rfl, fun w' h => ex_loadT h 3 rfl rfl rfl Try.isAgg25 Try.sizeOf25 rfl rfl⟩) (ak (fun _ => ⟨rfl, fun _ _ => rfl⟩) (ak (fun γ => ⟨rfl, fun w' h => ⟨15, #[.int .i64 s, .agg (pt X Y Z).toArray, U n], exec_call rfl call15 rfl (mpn rfl), Mul_dc k X Y Z n hn h1 w'⟩⟩) (ak (fun _ => ⟨rfl, fun _ _ => rfl⟩) (ak (by refine fun γ => ⟨rfl, fun w' h => ?_⟩; clear h; go_simp) (ak (by refine fun γ => ⟨rfl, fun w' h => ?_⟩; clear h; go_simp) (ak (fun γ => ⟨rfl, fun w' => ex_made25 rfl⟩) (ak (fun γ => ⟨rfl, rfl, rfl, fun w' h => ex_laidT h rfl rfl Try.sizeOf25 rfl rfl rfl⟩) (ak (fun _ => ⟨rfl, fun _ _ => rfl⟩) trivial)))))))))
  intro γ w7 l hM hl
  have H7 : Hid (Mm w7 [(γ 7, pt ((dM p (X, Y, Z) n).1) ((dM p (X, Y, Z) n).2.1) ((dM p (X, Y, Z) n).2.2)), (γ6_7, pt ((dA p (X, Y, Z) (X', Y', Z')).1) ((dA p (X, Y, Z) (X', Y', Z')).2.1) ((dA p (X, Y, Z) (X', Y', Z')).2.2)), (γ5_5, pt gx gy false), (γ2_5, kd p r c gx gy), (γ1_0, pt X Y Z), (γ1_1, pt X' Y' Z')] ∧ _) := growB H6 hM (Nat.le_refl _) hl [7] rfl (by decide)
  have o7_7 := ownB H6 hM (Nat.le_refl _) hl (i := 7) rfl
  clear hM hl l H6
  generalize γ 7 = γ7_7 at H7 o7_7 ⊢
  clear γ
  refine rest0 rfl (then_normal (wp_seq ?_))
  refine walk_seqA 9 [.quiet (.int .i64 s), .quiet (.agg (pt X Y Z).toArray), .call (.tuple #[.agg (pt ((dM p (X, Y, Z) c).1) ((dM p (X, Y, Z) c).2.1) ((dM p (X, Y, Z) c).2.2)).toArray, .int .i64 0]), .quiet (.tuple #[.agg (pt ((dM p (X, Y, Z) c).1) ((dM p (X, Y, Z) c).2.1) ((dM p (X, Y, Z) c).2.2)).toArray, .int .i64 0]), .quiet (.agg (pt ((dM p (X, Y, Z) c).1) ((dM p (X, Y, Z) c).2.1) ((dM p (X, Y, Z) c).2.2)).toArray), .quiet (.int .i64 0), .made (pt 0 0 false) 25, .laid 6 (pt 0 0 false) (pt ((dM p (X, Y, Z) c).1) ((dM p (X, Y, Z) c).2.1) ((dM p (X, Y, Z) c).2.2)), .quiet (.int .i64 0)] (sB H7) ?ho8 ?he8 (hL := ?hL8)
  case hL8 => exact ⟨⟨_, rfl⟩, trivial⟩
  case ho8 => exact ak (fun _ => ⟨rfl, fun _ _ => rfl⟩) (ak (fun γ => ⟨rfl, fun w' h => ex_loadT h 4 rfl rfl rfl Try.isAgg25 Try.sizeOf25 rfl rfl⟩) (ak (fun γ => ⟨rfl, fun w' h => ⟨16, #[.int .i64 s, .agg (pt X Y Z).toArray], exec_call rfl call16 rfl (mpn rfl), Clear_dc k X Y Z h1 w'⟩⟩) (ak (fun _ => ⟨rfl, fun _ _ => rfl⟩) (ak (by refine fun γ => ⟨rfl, fun w' h => ?_⟩; clear h; go_simp) (ak (by refine fun γ => ⟨rfl, fun w' h => ?_⟩; clear h; go_simp) (ak (fun γ => ⟨rfl, fun w' => ex_made25 rfl⟩) (ak (fun γ => ⟨rfl, rfl, rfl, fun w' h => ex_laidT h rfl rfl Try.sizeOf25 rfl rfl rfl⟩) (ak (fun _ => ⟨rfl, fun _ _ => rfl⟩) trivial))))))))
  intro γ w8 l hM hl
  have H8 : Hid (Mm w8 [(γ 6, pt ((dM p (X, Y, Z) c).1) ((dM p (X, Y, Z) c).2.1) ((dM p (X, Y, Z) c).2.2)), (γ7_7, pt ((dM p (X, Y, Z) n).1) ((dM p (X, Y, Z) n).2.1) ((dM p (X, Y, Z) n).2.2)), (γ6_7, pt ((dA p (X, Y, Z) (X', Y', Z')).1) ((dA p (X, Y, Z) (X', Y', Z')).2.1) ((dA p (X, Y, Z) (X', Y', Z')).2.2)), (γ5_5, pt gx gy false), (γ2_5, kd p r c gx gy), (γ1_0, pt X Y Z), (γ1_1, pt X' Y' Z')] ∧ _) := growB H7 hM (Nat.le_refl _) hl [6] rfl (by decide)
  have o8_6 := ownB H7 hM (Nat.le_refl _) hl (i := 6) rfl
  clear hM hl l H7
  generalize γ 6 = γ8_6 at H8 o8_6 ⊢
  clear γ
  refine rest0 rfl (then_normal (wp_seq ?_))
  refine walk_seqA 9 [.quiet (.int .i64 s), .quiet (.agg (pt X Y Z).toArray), .call (.tuple #[.agg (pt X (mi p 0 Y) Z).toArray, .int .i64 0]), .quiet (.tuple #[.agg (pt X (mi p 0 Y) Z).toArray, .int .i64 0]), .quiet (.agg (pt X (mi p 0 Y) Z).toArray), .quiet (.int .i64 0), .made (pt 0 0 false) 25, .laid 6 (pt 0 0 false) (pt X (mi p 0 Y) Z), .quiet (.int .i64 0)] (sB H8) ?ho9 ?he9 (hL := ?hL9)
  case hL9 => exact ⟨⟨_, rfl⟩, trivial⟩
  case ho9 => exact ak (fun _ => ⟨rfl, fun _ _ => rfl⟩) (ak (fun γ => ⟨rfl, fun w' h => ex_loadT h 5 rfl rfl rfl Try.isAgg25 Try.sizeOf25 rfl rfl⟩) (ak (fun γ => ⟨rfl, fun w' h => ⟨17, #[.int .i64 s, .agg (pt X Y Z).toArray], exec_call rfl call17 rfl (mpn rfl), Neg_ok k.k X Y Z h1 w'⟩⟩) (ak (fun _ => ⟨rfl, fun _ _ => rfl⟩) (ak (by refine fun γ => ⟨rfl, fun w' h => ?_⟩; clear h; go_simp) (ak (by refine fun γ => ⟨rfl, fun w' h => ?_⟩; clear h; go_simp) (ak (fun γ => ⟨rfl, fun w' => ex_made25 rfl⟩) (ak (fun γ => ⟨rfl, rfl, rfl, fun w' h => ex_laidT h rfl rfl Try.sizeOf25 rfl rfl rfl⟩) (ak (fun _ => ⟨rfl, fun _ _ => rfl⟩) trivial))))))))
  intro γ w9 l hM hl
  have H9 : Hid (Mm w9 [(γ 6, pt X (mi p 0 Y) Z), (γ8_6, pt ((dM p (X, Y, Z) c).1) ((dM p (X, Y, Z) c).2.1) ((dM p (X, Y, Z) c).2.2)), (γ7_7, pt ((dM p (X, Y, Z) n).1) ((dM p (X, Y, Z) n).2.1) ((dM p (X, Y, Z) n).2.2)), (γ6_7, pt ((dA p (X, Y, Z) (X', Y', Z')).1) ((dA p (X, Y, Z) (X', Y', Z')).2.1) ((dA p (X, Y, Z) (X', Y', Z')).2.2)), (γ5_5, pt gx gy false), (γ2_5, kd p r c gx gy), (γ1_0, pt X Y Z), (γ1_1, pt X' Y' Z')] ∧ _) := growB H8 hM (Nat.le_refl _) hl [6] rfl (by decide)
  have o9_6 := ownB H8 hM (Nat.le_refl _) hl (i := 6) rfl
  clear hM hl l H8
  generalize γ 6 = γ9_6 at H9 o9_6 ⊢
  clear γ
  refine rest0 rfl (then_normal (wp_seq ?_))
  refine walk_seqA 11 [.quiet (.int .i64 s), .quiet (U n), .call (.tuple #[.agg (pt ((n + nk p n) % p) (rt p (cb p ((n + nk p n) % p))) false).toArray, .int .i64 ((nk p n : Nat) : Int), .int .i64 0]), .quiet (.tuple #[.agg (pt ((n + nk p n) % p) (rt p (cb p ((n + nk p n) % p))) false).toArray, .int .i64 ((nk p n : Nat) : Int), .int .i64 0]), .quiet (.agg (pt ((n + nk p n) % p) (rt p (cb p ((n + nk p n) % p))) false).toArray), .quiet (.int .i64 ((nk p n : Nat) : Int)), .quiet (.int .i64 0), .made (pt 0 0 false) 25, .laid 7 (pt 0 0 false) (pt ((n + nk p n) % p) (rt p (cb p ((n + nk p n) % p))) false), .quiet (.int .i64 ((nk p n : Nat) : Int)), .quiet (.int .i64 0)] (sB H9) ?ho10 ?he10 (hL := ?hL10)
  case hL10 => exact ⟨⟨_, rfl⟩, trivial⟩
  case ho10 => exact ak (fun _ => ⟨rfl, fun _ _ => rfl⟩) (ak (fun _ => ⟨rfl, fun _ _ => rfl⟩) (ak (fun γ => ⟨rfl, fun w' h => ⟨18, #[.int .i64 s, U n], exec_call rfl call18 rfl (mpn rfl), Near_ok k.k n w'⟩⟩) (ak (fun _ => ⟨rfl, fun _ _ => rfl⟩) (ak (by refine fun γ => ⟨rfl, fun w' h => ?_⟩; clear h; go_simp) (ak (by refine fun γ => ⟨rfl, fun w' h => ?_⟩; clear h; go_simp) (ak (by refine fun γ => ⟨rfl, fun w' h => ?_⟩; clear h; go_simp) (ak (fun γ => ⟨rfl, fun w' => ex_made25 rfl⟩) (ak (fun γ => ⟨rfl, rfl, rfl, fun w' h => ex_laidT h rfl rfl Try.sizeOf25 rfl rfl rfl⟩) (ak (fun _ => ⟨rfl, fun _ _ => rfl⟩) (ak (fun _ => ⟨rfl, fun _ _ => rfl⟩) trivial))))))))))
  intro γ w10 l hM hl
  have H10 : Hid (Mm w10 [(γ 7, pt ((n + nk p n) % p) (rt p (cb p ((n + nk p n) % p))) false), (γ9_6, pt X (mi p 0 Y) Z), (γ8_6, pt ((dM p (X, Y, Z) c).1) ((dM p (X, Y, Z) c).2.1) ((dM p (X, Y, Z) c).2.2)), (γ7_7, pt ((dM p (X, Y, Z) n).1) ((dM p (X, Y, Z) n).2.1) ((dM p (X, Y, Z) n).2.2)), (γ6_7, pt ((dA p (X, Y, Z) (X', Y', Z')).1) ((dA p (X, Y, Z) (X', Y', Z')).2.1) ((dA p (X, Y, Z) (X', Y', Z')).2.2)), (γ5_5, pt gx gy false), (γ2_5, kd p r c gx gy), (γ1_0, pt X Y Z), (γ1_1, pt X' Y' Z')] ∧ _) := growB H9 hM (Nat.le_refl _) hl [7] rfl (by decide)
  have o10_7 := ownB H9 hM (Nat.le_refl _) hl (i := 7) rfl
  clear hM hl l H9
  generalize γ 7 = γ10_7 at H10 o10_7 ⊢
  clear γ
  refine rest0 rfl (then_normal (wp_seq ?_))
  refine walk_seqA 1 [.made (pt 0 0 false) 25] (sB H10) ?ho11 ?he11
  case ho11 => exact ak (fun γ => ⟨rfl, fun w' => ex_made25 rfl⟩) trivial
  intro γ w11 l hM hl
  have H11 : Hid (Mm w11 [(γ 0, pt 0 0 false), (γ10_7, pt ((n + nk p n) % p) (rt p (cb p ((n + nk p n) % p))) false), (γ9_6, pt X (mi p 0 Y) Z), (γ8_6, pt ((dM p (X, Y, Z) c).1) ((dM p (X, Y, Z) c).2.1) ((dM p (X, Y, Z) c).2.2)), (γ7_7, pt ((dM p (X, Y, Z) n).1) ((dM p (X, Y, Z) n).2.1) ((dM p (X, Y, Z) n).2.2)), (γ6_7, pt ((dA p (X, Y, Z) (X', Y', Z')).1) ((dA p (X, Y, Z) (X', Y', Z')).2.1) ((dA p (X, Y, Z) (X', Y', Z')).2.2)), (γ5_5, pt gx gy false), (γ2_5, kd p r c gx gy), (γ1_0, pt X Y Z), (γ1_1, pt X' Y' Z')] ∧ _) := growB H10 hM (Nat.le_refl _) hl [0] rfl (by decide)
  have o11_0 := ownB H10 hM (Nat.le_refl _) hl (i := 0) rfl
  clear hM hl l H10
  generalize γ 0 = γ11_0 at H11 o11_0 ⊢
  clear γ
  refine rest0 rfl (then_normal (wp_seq (wp_seq ?_)))
  refine walk_seqB 2 [.quiet (.bool true), .quiet (.bool false)] H11 ?ho12 ?he12
  case ho12 => exact ak (fun _ => ⟨rfl, fun _ _ => rfl⟩) (ak (by refine fun γ => ⟨rfl, fun w' h => ?_⟩; clear h; go_simp) trivial)
  intro _ w12 H12
  clear H11
  refine rest0 rfl (then_normal (wp_cond_false rfl ?_))
  refine wp_skip (then_normal (wp_seq ?_))
  refine walk_seqA 9 [.quiet (.agg (kd p r c gx gy).toArray), .quiet (U n), .call (.tuple #[.agg (pt ((n + nk p n) % p) (rt p (cb p ((n + nk p n) % p))) false).toArray, .int .i64 ((nk p n : Nat) : Int)]), .quiet (.tuple #[.agg (pt ((n + nk p n) % p) (rt p (cb p ((n + nk p n) % p))) false).toArray, .int .i64 ((nk p n : Nat) : Int)]), .quiet (.agg (pt ((n + nk p n) % p) (rt p (cb p ((n + nk p n) % p))) false).toArray), .quiet (.int .i64 ((nk p n : Nat) : Int)), .made (pt 0 0 false) 25, .laid 6 (pt 0 0 false) (pt ((n + nk p n) % p) (rt p (cb p ((n + nk p n) % p))) false), .quiet (.int .i64 ((nk p n : Nat) : Int))] (sB H12) ?ho13 ?he13 (hL := ?hL13)
  case hL13 => exact ⟨⟨_, rfl⟩, trivial⟩
  case ho13 => exact ak (fun γ => ⟨rfl, fun w' h => ex_loadT h 7 rfl rfl rfl Try.isAgg27 Try.sizeOf27 rfl rfl⟩) (ak (fun _ => ⟨rfl, fun _ _ => rfl⟩) (ak (fun γ => ⟨rfl, fun w' h => ⟨21, #[.agg (kd p r c gx gy).toArray, U n], exec_call rfl call21 rfl (mpn rfl), dNear_any k.k.pr n w'⟩⟩) (ak (fun _ => ⟨rfl, fun _ _ => rfl⟩) (ak (by refine fun γ => ⟨rfl, fun w' h => ?_⟩; clear h; go_simp) (ak (by refine fun γ => ⟨rfl, fun w' h => ?_⟩; clear h; go_simp) (ak (fun γ => ⟨rfl, fun w' => ex_made25 rfl⟩) (ak (fun γ => ⟨rfl, rfl, rfl, fun w' h => ex_laidT h rfl rfl Try.sizeOf25 rfl rfl rfl⟩) (ak (fun _ => ⟨rfl, fun _ _ => rfl⟩) trivial))))))))
  intro γ w13 l hM hl
  have H13 : Hid (Mm w13 [(γ 6, pt ((n + nk p n) % p) (rt p (cb p ((n + nk p n) % p))) false), (γ11_0, pt 0 0 false), (γ10_7, pt ((n + nk p n) % p) (rt p (cb p ((n + nk p n) % p))) false), (γ9_6, pt X (mi p 0 Y) Z), (γ8_6, pt ((dM p (X, Y, Z) c).1) ((dM p (X, Y, Z) c).2.1) ((dM p (X, Y, Z) c).2.2)), (γ7_7, pt ((dM p (X, Y, Z) n).1) ((dM p (X, Y, Z) n).2.1) ((dM p (X, Y, Z) n).2.2)), (γ6_7, pt ((dA p (X, Y, Z) (X', Y', Z')).1) ((dA p (X, Y, Z) (X', Y', Z')).2.1) ((dA p (X, Y, Z) (X', Y', Z')).2.2)), (γ5_5, pt gx gy false), (γ2_5, kd p r c gx gy), (γ1_0, pt X Y Z), (γ1_1, pt X' Y' Z')] ∧ _) := growB H12 hM (Nat.le_refl _) hl [6] rfl (by decide)
  have o13_6 := ownB H12 hM (Nat.le_refl _) hl (i := 6) rfl
  clear hM hl l H12
  generalize γ 6 = γ13_6 at H13 o13_6 ⊢
  clear γ
  refine rest0 rfl (then_normal (wp_seq (wp_seq ?_)))
  refine walk_anyB 60 [.quiet (U p), .quiet (PT γ2_5 0), .quiet (U p), .quiet (.bool false), .quiet (.bool false), .quiet (.int .i64 0), .quiet (.bool false), .quiet (.bool false), .quiet (.bool false), .quiet (U r), .quiet (PT γ2_5 1), .quiet (U r), .quiet (.bool false), .quiet (.bool false), .quiet (.bool false), .quiet (.int .i64 0), .quiet (.bool false), .quiet (.bool false), .quiet (.bool false), .quiet (.agg (pt gx gy false).toArray), .quiet (PT γ2_5 3), .quiet (.agg (pt gx gy false).toArray), .quiet (.bool false), .quiet (.bool false), .quiet (.bool false), .quiet (.int .i64 0), .quiet (.bool false), .quiet (.bool false), .quiet (.bool false), .quiet (.agg (pt ((n + nk p n) % p) (rt p (cb p ((n + nk p n) % p))) false).toArray), .quiet (.agg (pt ((n + nk p n) % p) (rt p (cb p ((n + nk p n) % p))) false).toArray), .quiet (.bool false), .quiet (.bool false), .quiet (.bool false), .quiet (.int .i64 ((nk p n : Nat) : Int)), .quiet (.int .i64 ((nk p n : Nat) : Int)), .quiet (.bool false), .quiet (.bool false), .quiet (.bool false), .quiet (.int .i64 0), .quiet (.bool false), .quiet (.bool false), .quiet (.bool false), .quiet (.int .i64 s), .quiet (.agg (pt X Y Z).toArray), .call (.bool true), .quiet (.agg (kd p r c gx gy).toArray), .quiet (.agg (pt X Y Z).toArray), .call (.bool true), .quiet (.bool false), .quiet (.bool false), .quiet (.bool false), .quiet (.int .i64 s), .quiet (.agg (pt X Y Z).toArray), .call (.bool (di p r X Y Z)), .quiet (.agg (kd p r c gx gy).toArray), .quiet (.agg (pt X Y Z).toArray), .call (.bool (di p r X Y Z)), .quiet (.bool false), .quiet (.bool false)] H13 ?ho14 ?he14 (hL := ?hL14)
  case hL14 => exact trivial
  case ho14 => exact ak (fun _ => ⟨rfl, fun _ _ => rfl⟩) (ak (by refine fun γ => ⟨rfl, fun w' h => ?_⟩; clear h; go_simp) (ak (fun γ => ⟨rfl, fun w' h => ex_loadC h 8 rfl rfl rfl Try.isAgg23 rfl⟩) (ak (fun γ => ⟨rfl, fun w' _ => ex_neU rfl rfl rfl (decide_eq_false (fun h => h rfl))⟩) (ak (fun _ => ⟨rfl, fun _ _ => rfl⟩) (ak (fun _ => ⟨rfl, fun _ _ => rfl⟩) (ak (by refine fun γ => ⟨rfl, fun w' h => ?_⟩; clear h; go_simp) (ak (by refine fun γ => ⟨rfl, fun w' h => ?_⟩; clear h; go_simp) (ak (fun _ => ⟨rfl, fun _ _ => rfl⟩) (ak (fun _ => ⟨rfl, fun _ _ => rfl⟩) (ak (by refine fun γ => ⟨rfl, fun w' h => ?_⟩; clear h; go_simp) (ak (fun γ => ⟨rfl, fun w' h => ex_loadC h 8 rfl rfl rfl Try.isAgg23 rfl⟩) (ak (fun γ => ⟨rfl, fun w' _ => ex_neU rfl rfl rfl (decide_eq_false (fun h => h rfl))⟩) (ak (by refine fun γ => ⟨rfl, fun w' h => ?_⟩; clear h; go_simp) (ak (fun _ => ⟨rfl, fun _ _ => rfl⟩) (ak (fun _ => ⟨rfl, fun _ _ => rfl⟩) (ak (by refine fun γ => ⟨rfl, fun w' h => ?_⟩; clear h; go_simp) (ak (by refine fun γ => ⟨rfl, fun w' h => ?_⟩; clear h; go_simp) (ak (fun _ => ⟨rfl, fun _ _ => rfl⟩) (ak (fun γ => ⟨rfl, fun w' h => ex_loadT h 7 rfl rfl rfl Try.isAgg25 Try.sizeOf25 rfl rfl⟩) (ak (by refine fun γ => ⟨rfl, fun w' h => ?_⟩; clear h; go_simp) (ak (fun γ => ⟨rfl, fun w' h => ex_loadT h 8 rfl rfl rfl Try.isAgg25 Try.sizeOf25 rfl rfl⟩) (ak (fun γ => ⟨rfl, fun w' _ => exec_neqT25 (fun w => eq_self _ _ _ w) rfl rfl rfl⟩) (ak (by refine fun γ => ⟨rfl, fun w' h => ?_⟩; clear h; go_simp) (ak (fun _ => ⟨rfl, fun _ _ => rfl⟩) (ak (fun _ => ⟨rfl, fun _ _ => rfl⟩) (ak (by refine fun γ => ⟨rfl, fun w' h => ?_⟩; clear h; go_simp) (ak (by refine fun γ => ⟨rfl, fun w' h => ?_⟩; clear h; go_simp) (ak (fun _ => ⟨rfl, fun _ _ => rfl⟩) (ak (fun γ => ⟨rfl, fun w' h => ex_loadT h 2 rfl rfl rfl Try.isAgg25 Try.sizeOf25 rfl rfl⟩) (ak (fun γ => ⟨rfl, fun w' h => ex_loadT h 0 rfl rfl rfl Try.isAgg25 Try.sizeOf25 rfl rfl⟩) (ak (fun γ => ⟨rfl, fun w' _ => exec_neqT25 (fun w => eq_self _ _ _ w) rfl rfl rfl⟩) (ak (by refine fun γ => ⟨rfl, fun w' h => ?_⟩; clear h; go_simp) (ak (fun _ => ⟨rfl, fun _ _ => rfl⟩) (ak (fun _ => ⟨rfl, fun _ _ => rfl⟩) (ak (fun _ => ⟨rfl, fun _ _ => rfl⟩) (ak (by refine fun γ => ⟨rfl, fun w' h => ?_⟩; clear h; go_simp) (ak (by refine fun γ => ⟨rfl, fun w' h => ?_⟩; clear h; go_simp) (ak (fun _ => ⟨rfl, fun _ _ => rfl⟩) (ak (fun _ => ⟨rfl, fun _ _ => rfl⟩) (ak (by refine fun γ => ⟨rfl, fun w' h => ?_⟩; clear h; go_simp) (ak (by refine fun γ => ⟨rfl, fun w' h => ?_⟩; clear h; go_simp) (ak (fun _ => ⟨rfl, fun _ _ => rfl⟩) (ak (fun _ => ⟨rfl, fun _ _ => rfl⟩) (ak (fun γ => ⟨rfl, fun w' h => ex_loadT h 9 rfl rfl rfl Try.isAgg25 Try.sizeOf25 rfl rfl⟩) (ak (fun γ => ⟨rfl, fun w' h => ⟨19, #[.int .i64 s, .agg (pt X Y Z).toArray], exec_call rfl call19 rfl (mpn rfl), Check_is k X Y Z _ h1 w'⟩⟩) (ak (fun γ => ⟨rfl, fun w' h => ex_loadT h 8 rfl rfl rfl Try.isAgg27 Try.sizeOf27 rfl rfl⟩) (ak (fun γ => ⟨rfl, fun w' h => ex_loadT h 9 rfl rfl rfl Try.isAgg25 Try.sizeOf25 rfl rfl⟩) (ak (fun γ => ⟨rfl, fun w' h => ⟨22, #[.agg (kd p r c gx gy).toArray, .agg (pt X Y Z).toArray], exec_call rfl call22 rfl (mpn rfl), dc_is k.k.pr X Y Z _ h1 w'⟩⟩) (ak (by refine fun γ => ⟨rfl, fun w' h => ?_⟩; clear h; go_simp) (ak (by refine fun γ => ⟨rfl, fun w' h => ?_⟩; clear h; go_simp) (ak (fun _ => ⟨rfl, fun _ _ => rfl⟩) (ak (fun _ => ⟨rfl, fun _ _ => rfl⟩) (ak (fun γ => ⟨rfl, fun w' h => ex_loadT h 9 rfl rfl rfl Try.isAgg25 Try.sizeOf25 rfl rfl⟩) (ak (fun γ => ⟨rfl, fun w' h => ⟨20, #[.int .i64 s, .agg (pt X Y Z).toArray], exec_call rfl call20 rfl (mpn rfl), In_dc k X Y Z w'⟩⟩) (ak (fun γ => ⟨rfl, fun w' h => ex_loadT h 8 rfl rfl rfl Try.isAgg27 Try.sizeOf27 rfl rfl⟩) (ak (fun γ => ⟨rfl, fun w' h => ex_loadT h 9 rfl rfl rfl Try.isAgg25 Try.sizeOf25 rfl rfl⟩) (ak (fun γ => ⟨rfl, fun w' h => ⟨23, #[.agg (kd p r c gx gy).toArray, .agg (pt X Y Z).toArray], exec_call rfl call23 rfl (mpn rfl), dIn_any k.k.pr k.k.rb X Y Z w'⟩⟩) (ak (fun γ => ⟨rfl, fun w' _ => ex_neB rfl rfl rfl⟩) (ak (by refine fun γ => ⟨rfl, fun w' h => ?_⟩; clear h; go_simp) trivial)))))))))))))))))))))))))))))))))))))))))))))))))))))))))))
  intro _ w14 H14
  clear H13
  refine rest0 rfl (then_normal (wp_cond_false rfl ?_))
  refine wp_skip (then_normal ?_)
  refine wp_seq (wp_seq ?_)
  refine walk_seqB 4 [.quiet (.agg (kd p r c gx gy).toArray), .quiet (.agg (pt X Y Z).toArray), .call (.bool true), .quiet (.bool false)] H14 ?ho15 ?he15
  case ho15 => exact ak (fun γ => ⟨rfl, fun w' h => ex_loadT h 8 rfl rfl rfl Try.isAgg27 Try.sizeOf27 rfl rfl⟩) (ak (fun γ => ⟨rfl, fun w' h => ex_loadT h 9 rfl rfl rfl Try.isAgg25 Try.sizeOf25 rfl rfl⟩) (ak (fun γ => ⟨rfl, fun w' h => ⟨22, #[.agg (kd p r c gx gy).toArray, .agg (pt X Y Z).toArray], exec_call rfl call22 rfl (mpn rfl), dc_is k.k.pr X Y Z _ h1 w'⟩⟩) (ak (by refine fun γ => ⟨rfl, fun w' h => ?_⟩; clear h; go_simp) trivial)))
  intro _ w15 H15
  clear H14
  refine rest0 rfl (then_normal (wp_cond_false rfl ?_))
  refine wp_skip (then_normal ?_)
  refine wp_seq (wp_seq ?_)
  refine walk_anyB 34 [.quiet (.agg (pt ((dM p (X, Y, Z) n).1) ((dM p (X, Y, Z) n).2.1) ((dM p (X, Y, Z) n).2.2)).toArray), .quiet (.agg (kd p r c gx gy).toArray), .quiet (.agg (pt X Y Z).toArray), .quiet (U n), .call (.agg (pt ((dM p (X, Y, Z) n).1) ((dM p (X, Y, Z) n).2.1) ((dM p (X, Y, Z) n).2.2)).toArray), .quiet (.bool false), .quiet (.bool false), .quiet (.int .i64 0), .quiet (.bool false), .quiet (.bool false), .quiet (.bool false), .quiet (.agg (pt ((dM p (X, Y, Z) c).1) ((dM p (X, Y, Z) c).2.1) ((dM p (X, Y, Z) c).2.2)).toArray), .quiet (.agg (kd p r c gx gy).toArray), .quiet (.agg (pt X Y Z).toArray), .quiet (PT γ2_5 2), .quiet (U c), .call (.agg (pt ((dM p (X, Y, Z) c).1) ((dM p (X, Y, Z) c).2.1) ((dM p (X, Y, Z) c).2.2)).toArray), .quiet (.bool false), .quiet (.bool false), .quiet (.bool false), .quiet (.int .i64 0), .quiet (.bool false), .quiet (.bool false), .quiet (.bool false), .quiet (.agg (pt X (mi p 0 Y) Z).toArray), .quiet (.agg (kd p r c gx gy).toArray), .quiet (.agg (pt X Y Z).toArray), .call (.agg (pt X (mi p 0 Y) Z).toArray), .quiet (.bool false), .quiet (.bool false), .quiet (.bool false), .quiet (.int .i64 0), .quiet (.bool false), .quiet (.bool false)] H15 ?ho16 ?he16 (hL := ?hL16)
  case hL16 => exact trivial
  case ho16 => exact ak (fun γ => ⟨rfl, fun w' h => ex_loadT h 5 rfl rfl rfl Try.isAgg25 Try.sizeOf25 rfl rfl⟩) (ak (fun γ => ⟨rfl, fun w' h => ex_loadT h 8 rfl rfl rfl Try.isAgg27 Try.sizeOf27 rfl rfl⟩) (ak (fun γ => ⟨rfl, fun w' h => ex_loadT h 9 rfl rfl rfl Try.isAgg25 Try.sizeOf25 rfl rfl⟩) (ak (fun _ => ⟨rfl, fun _ _ => rfl⟩) (ak (fun γ => ⟨rfl, fun w' h => ⟨24, #[.agg (kd p r c gx gy).toArray, .agg (pt X Y Z).toArray, U n], exec_call rfl call24 rfl (mpn rfl), dMul_any k.k.pr X Y Z (oc_lt k.k.pr h1).1 (oc_lt k.k.pr h1).2 n hn w'⟩⟩) (ak (fun γ => ⟨rfl, fun w' _ => exec_neqT25 (fun w => eq_self _ _ _ w) rfl rfl rfl⟩) (ak (fun _ => ⟨rfl, fun _ _ => rfl⟩) (ak (fun _ => ⟨rfl, fun _ _ => rfl⟩) (ak (by refine fun γ => ⟨rfl, fun w' h => ?_⟩; clear h; go_simp) (ak (by refine fun γ => ⟨rfl, fun w' h => ?_⟩; clear h; go_simp) (ak (fun _ => ⟨rfl, fun _ _ => rfl⟩) (ak (fun γ => ⟨rfl, fun w' h => ex_loadT h 4 rfl rfl rfl Try.isAgg25 Try.sizeOf25 rfl rfl⟩) (ak (fun γ => ⟨rfl, fun w' h => ex_loadT h 8 rfl rfl rfl Try.isAgg27 Try.sizeOf27 rfl rfl⟩) (ak (fun γ => ⟨rfl, fun w' h => ex_loadT h 9 rfl rfl rfl Try.isAgg25 Try.sizeOf25 rfl rfl⟩) (ak (by refine fun γ => ⟨rfl, fun w' h => ?_⟩; clear h; go_simp) (ak (fun γ => ⟨rfl, fun w' h => ex_loadC h 8 rfl rfl rfl Try.isAgg23 rfl⟩) (ak (fun γ => ⟨rfl, fun w' h => ⟨24, #[.agg (kd p r c gx gy).toArray, .agg (pt X Y Z).toArray, U c], exec_call rfl call24 rfl (mpn rfl), dMul_any k.k.pr X Y Z (oc_lt k.k.pr h1).1 (oc_lt k.k.pr h1).2 c k.k.cb w'⟩⟩) (ak (fun γ => ⟨rfl, fun w' _ => exec_neqT25 (fun w => eq_self _ _ _ w) rfl rfl rfl⟩) (ak (by refine fun γ => ⟨rfl, fun w' h => ?_⟩; clear h; go_simp) (ak (fun _ => ⟨rfl, fun _ _ => rfl⟩) (ak (fun _ => ⟨rfl, fun _ _ => rfl⟩) (ak (by refine fun γ => ⟨rfl, fun w' h => ?_⟩; clear h; go_simp) (ak (by refine fun γ => ⟨rfl, fun w' h => ?_⟩; clear h; go_simp) (ak (fun _ => ⟨rfl, fun _ _ => rfl⟩) (ak (fun γ => ⟨rfl, fun w' h => ex_loadT h 3 rfl rfl rfl Try.isAgg25 Try.sizeOf25 rfl rfl⟩) (ak (fun γ => ⟨rfl, fun w' h => ex_loadT h 8 rfl rfl rfl Try.isAgg27 Try.sizeOf27 rfl rfl⟩) (ak (fun γ => ⟨rfl, fun w' h => ex_loadT h 9 rfl rfl rfl Try.isAgg25 Try.sizeOf25 rfl rfl⟩) (ak (fun γ => ⟨rfl, fun w' h => ⟨25, #[.agg (kd p r c gx gy).toArray, .agg (pt X Y Z).toArray], exec_call rfl call25 rfl (mpn rfl), dNeg_any k.k.pr X Y Z (oc_lt k.k.pr h1).2 w'⟩⟩) (ak (fun γ => ⟨rfl, fun w' _ => exec_neqT25 (fun w => eq_self _ _ _ w) rfl rfl rfl⟩) (ak (by refine fun γ => ⟨rfl, fun w' h => ?_⟩; clear h; go_simp) (ak (fun _ => ⟨rfl, fun _ _ => rfl⟩) (ak (fun _ => ⟨rfl, fun _ _ => rfl⟩) (ak (by refine fun γ => ⟨rfl, fun w' h => ?_⟩; clear h; go_simp) (ak (by refine fun γ => ⟨rfl, fun w' h => ?_⟩; clear h; go_simp) trivial)))))))))))))))))))))))))))))))))
  intro _ w16 H16
  clear H15
  refine rest0 rfl (then_normal (wp_cond_false rfl ?_))
  refine wp_skip (then_normal ?_)
  refine wp_seq (wp_seq ?_)
  refine walk_seqB 4 [.quiet (.agg (kd p r c gx gy).toArray), .quiet (.agg (pt X' Y' Z').toArray), .call (.bool true), .quiet (.bool false)] H16 ?ho17 ?he17
  case ho17 => exact ak (fun γ => ⟨rfl, fun w' h => ex_loadT h 8 rfl rfl rfl Try.isAgg27 Try.sizeOf27 rfl rfl⟩) (ak (fun γ => ⟨rfl, fun w' h => ex_loadT h 10 rfl rfl rfl Try.isAgg25 Try.sizeOf25 rfl rfl⟩) (ak (fun γ => ⟨rfl, fun w' h => ⟨22, #[.agg (kd p r c gx gy).toArray, .agg (pt X' Y' Z').toArray], exec_call rfl call22 rfl (mpn rfl), dc_is k.k.pr X' Y' Z' _ h2 w'⟩⟩) (ak (by refine fun γ => ⟨rfl, fun w' h => ?_⟩; clear h; go_simp) trivial)))
  intro _ w17 H17
  clear H16
  refine rest0 rfl (then_normal (wp_cond_false rfl ?_))
  refine wp_skip (then_normal (wp_seq ?_))
  refine walk_anyB 11 [.quiet (.agg (pt ((dA p (X, Y, Z) (X', Y', Z')).1) ((dA p (X, Y, Z) (X', Y', Z')).2.1) ((dA p (X, Y, Z) (X', Y', Z')).2.2)).toArray), .quiet (.agg (kd p r c gx gy).toArray), .quiet (.agg (pt X Y Z).toArray), .quiet (.agg (pt X' Y' Z').toArray), .call (.agg (pt ((dA p (X, Y, Z) (X', Y', Z')).1) ((dA p (X, Y, Z) (X', Y', Z')).2.1) ((dA p (X, Y, Z) (X', Y', Z')).2.2)).toArray), .quiet (.bool true), .quiet (.bool true), .quiet (.int .i64 0), .quiet (.bool true), .quiet (.bool true), .quiet (.bool true)] H17 ?ho18 ?he18
  case ho18 => exact ak (fun γ => ⟨rfl, fun w' h => ex_loadT h 6 rfl rfl rfl Try.isAgg25 Try.sizeOf25 rfl rfl⟩) (ak (fun γ => ⟨rfl, fun w' h => ex_loadT h 8 rfl rfl rfl Try.isAgg27 Try.sizeOf27 rfl rfl⟩) (ak (fun γ => ⟨rfl, fun w' h => ex_loadT h 9 rfl rfl rfl Try.isAgg25 Try.sizeOf25 rfl rfl⟩) (ak (fun γ => ⟨rfl, fun w' h => ex_loadT h 10 rfl rfl rfl Try.isAgg25 Try.sizeOf25 rfl rfl⟩) (ak (fun γ => ⟨rfl, fun w' h => ⟨26, #[.agg (kd p r c gx gy).toArray, .agg (pt X Y Z).toArray, .agg (pt X' Y' Z').toArray], exec_call rfl call26 rfl (mpn rfl), dAdd_any k.k.pr (X, Y, Z) (X', Y', Z') ⟨(oc_lt k.k.pr h1).1, (oc_lt k.k.pr h1).2⟩ ⟨(oc_lt k.k.pr h2).1, (oc_lt k.k.pr h2).2⟩ w'⟩⟩) (ak (fun γ => ⟨rfl, fun w' _ => exec_eqT25 (fun w => eq_self _ _ _ w) rfl rfl rfl⟩) (ak (fun _ => ⟨rfl, fun _ _ => rfl⟩) (ak (fun _ => ⟨rfl, fun _ _ => rfl⟩) (ak (by refine fun γ => ⟨rfl, fun w' h => ?_⟩; clear h; go_simp) (ak (by refine fun γ => ⟨rfl, fun w' h => ?_⟩; clear h; go_simp) (ak (fun _ => ⟨rfl, fun _ _ => rfl⟩) trivial))))))))))
  intro _ w18 H18
  clear H17
  refine rest0 rfl (then_normal (wp_ret ?_))
  repeat (first | refine then_ret ?_ | refine block_ret ?_)
  refine bodyPost_ret (v := .bool true) (by simp [results, Try.results3, go_sem, *]) rfl ?_
  exact ⟨rfl, H18.out.2⟩
set_option maxHeartbeats 4000000 in
set_option maxRecDepth 100000 in
theorem tells_no (s : Int) (h1 : s ≠ 1) (h2 : s ≠ 2) (X Y : Nat) (Z : Bool) (X' Y' : Nat) (Z' : Bool) (n : Nat) (hn : n < 18446744073709551616) (w : World) :
    Calls Try.prog 3 #[.int .i64 s, .agg (pt X Y Z).toArray, .agg (pt X' Y' Z').toArray, U n] w fun e w' => e = .returned (.bool true) ∧ Below w.heap.size w w' := by
  have H0 : Hid (_ ∧ _) := ⟨Mm.nil w, Below.refl w.heap.size w⟩
  go_enter Try.func3, Try.ntmps3
  refine wp_seq ?_
  refine walk_seqA 3 [.made (pt X Y Z) 25, .made (pt X' Y' Z') 25, .quiet (.bool false)] (sB H0) ?ho1 ?he1
  case ho1 => exact ak (fun γ => ⟨rfl, fun w' => ex_boxT rfl rfl⟩) (ak (fun γ => ⟨rfl, fun w' => ex_boxT rfl rfl⟩) (ak (fun _ => ⟨rfl, fun _ _ => rfl⟩) trivial))
  intro γ w1 l hM hl
  have H1 : Hid (Mm w1 [(γ 0, pt X Y Z), (γ 1, pt X' Y' Z')] ∧ _) := growB H0 hM (Nat.le_refl _) hl [0, 1] rfl (by decide)
  have o1_0 := ownB H0 hM (Nat.le_refl _) hl (i := 0) rfl
  have o1_1 := ownB H0 hM (Nat.le_refl _) hl (i := 1) rfl
  clear hM hl l
  generalize γ 0 = γ1_0 at H1 o1_0 ⊢
  generalize γ 1 = γ1_1 at H1 o1_1 ⊢
  clear γ
  refine rest0 rfl (then_normal (wp_seq ?_))
  refine walk_seqA 8 [.quiet (.int .i64 s), .call (.tuple #[.agg (kd 0 0 0 0 0).toArray, .bool false]), .quiet (.tuple #[.agg (kd 0 0 0 0 0).toArray, .bool false]), .quiet (.agg (kd 0 0 0 0 0).toArray), .quiet (.bool false), .made (kd 0 0 0 0 0) 27, .laid 5 (kd 0 0 0 0 0) (kd 0 0 0 0 0), .quiet (.bool false)] (sB H1) ?ho2 ?he2 (hL := ?hL2)
  case hL2 => exact ⟨⟨_, rfl⟩, trivial⟩
  case ho2 => exact ak (fun _ => ⟨rfl, fun _ _ => rfl⟩) (ak (fun γ => ⟨rfl, fun w' h => ⟨10, #[.int .i64 s], exec_call rfl call10 rfl (mpn rfl), Of_no s h1 h2 w'⟩⟩) (ak (fun _ => ⟨rfl, fun _ _ => rfl⟩) (ak (by refine fun γ => ⟨rfl, fun w' h => ?_⟩; clear h; go_simp) (ak (by refine fun γ => ⟨rfl, fun w' h => ?_⟩; clear h; go_simp) (ak (fun γ => ⟨rfl, fun w' => ex_made27 rfl⟩) (ak (fun γ => ⟨rfl, rfl, rfl, fun w' h => ex_laidT h rfl rfl Try.sizeOf27 rfl rfl rfl⟩) (ak (fun _ => ⟨rfl, fun _ _ => rfl⟩) trivial)))))))
  intro γ w2 l hM hl
  have H2 : Hid (Mm w2 [(γ 5, kd 0 0 0 0 0), (γ1_0, pt X Y Z), (γ1_1, pt X' Y' Z')] ∧ _) := growB H1 hM (Nat.le_refl _) hl [5] rfl (by decide)
  have o2_5 := ownB H1 hM (Nat.le_refl _) hl (i := 5) rfl
  clear hM hl l H1
  generalize γ 5 = γ2_5 at H2 o2_5 ⊢
  clear γ
  refine rest0 rfl (then_normal (wp_seq ?_))
  refine walk_seqB 7 [.quiet (.int .i64 s), .call (.tuple #[U 0, .int .i64 2]), .quiet (.tuple #[U 0, .int .i64 2]), .quiet (U 0), .quiet (.int .i64 2), .quiet (U 0), .quiet (.int .i64 2)] H2 ?ho3 ?he3
  case ho3 => exact ak (fun _ => ⟨rfl, fun _ _ => rfl⟩) (ak (fun γ => ⟨rfl, fun w' h => ⟨11, #[.int .i64 s], exec_call rfl call11 rfl (mpn rfl), Prime_no s h1 h2 w'⟩⟩) (ak (fun _ => ⟨rfl, fun _ _ => rfl⟩) (ak (by refine fun γ => ⟨rfl, fun w' h => ?_⟩; clear h; go_simp) (ak (by refine fun γ => ⟨rfl, fun w' h => ?_⟩; clear h; go_simp) (ak (fun _ => ⟨rfl, fun _ _ => rfl⟩) (ak (fun _ => ⟨rfl, fun _ _ => rfl⟩) trivial))))))
  intro _ w3 H3
  clear H2
  refine rest0 rfl (then_normal (wp_seq ?_))
  refine walk_seqB 7 [.quiet (.int .i64 s), .call (.tuple #[U 0, .int .i64 2]), .quiet (.tuple #[U 0, .int .i64 2]), .quiet (U 0), .quiet (.int .i64 2), .quiet (U 0), .quiet (.int .i64 2)] H3 ?ho4 ?he4
  case ho4 => exact ak (fun _ => ⟨rfl, fun _ _ => rfl⟩) (ak (fun γ => ⟨rfl, fun w' h => ⟨12, #[.int .i64 s], exec_call rfl call12 rfl (mpn rfl), Order_no s h1 h2 w'⟩⟩) (ak (fun _ => ⟨rfl, fun _ _ => rfl⟩) (ak (by refine fun γ => ⟨rfl, fun w' h => ?_⟩; clear h; go_simp) (ak (by refine fun γ => ⟨rfl, fun w' h => ?_⟩; clear h; go_simp) (ak (fun _ => ⟨rfl, fun _ _ => rfl⟩) (ak (fun _ => ⟨rfl, fun _ _ => rfl⟩) trivial))))))
  intro _ w4 H4
  clear H3
  refine rest0 rfl (then_normal (wp_seq ?_))
  refine walk_seqA 8 [.quiet (.int .i64 s), .call (.tuple #[.agg (pt 0 0 false).toArray, .int .i64 2]), .quiet (.tuple #[.agg (pt 0 0 false).toArray, .int .i64 2]), .quiet (.agg (pt 0 0 false).toArray), .quiet (.int .i64 2), .made (pt 0 0 false) 25, .laid 5 (pt 0 0 false) (pt 0 0 false), .quiet (.int .i64 2)] (sB H4) ?ho5 ?he5 (hL := ?hL5)
  case hL5 => exact ⟨⟨_, rfl⟩, trivial⟩
  case ho5 => exact ak (fun _ => ⟨rfl, fun _ _ => rfl⟩) (ak (fun γ => ⟨rfl, fun w' h => ⟨13, #[.int .i64 s], exec_call rfl call13 rfl (mpn rfl), Gen_no s h1 h2 w'⟩⟩) (ak (fun _ => ⟨rfl, fun _ _ => rfl⟩) (ak (by refine fun γ => ⟨rfl, fun w' h => ?_⟩; clear h; go_simp) (ak (by refine fun γ => ⟨rfl, fun w' h => ?_⟩; clear h; go_simp) (ak (fun γ => ⟨rfl, fun w' => ex_made25 rfl⟩) (ak (fun γ => ⟨rfl, rfl, rfl, fun w' h => ex_laidT h rfl rfl Try.sizeOf25 rfl rfl rfl⟩) (ak (fun _ => ⟨rfl, fun _ _ => rfl⟩) trivial)))))))
  intro γ w5 l hM hl
  have H5 : Hid (Mm w5 [(γ 5, pt 0 0 false), (γ2_5, kd 0 0 0 0 0), (γ1_0, pt X Y Z), (γ1_1, pt X' Y' Z')] ∧ _) := growB H4 hM (Nat.le_refl _) hl [5] rfl (by decide)
  have o5_5 := ownB H4 hM (Nat.le_refl _) hl (i := 5) rfl
  clear hM hl l H4
  generalize γ 5 = γ5_5 at H5 o5_5 ⊢
  clear γ
  refine rest0 rfl (then_normal (wp_seq ?_))
  refine walk_seqA 10 [.quiet (.int .i64 s), .quiet (.agg (pt X Y Z).toArray), .quiet (.agg (pt X' Y' Z').toArray), .call (.tuple #[.agg (pt 0 0 false).toArray, .int .i64 2]), .quiet (.tuple #[.agg (pt 0 0 false).toArray, .int .i64 2]), .quiet (.agg (pt 0 0 false).toArray), .quiet (.int .i64 2), .made (pt 0 0 false) 25, .laid 7 (pt 0 0 false) (pt 0 0 false), .quiet (.int .i64 2)] (sB H5) ?ho6 ?he6 (hL := ?hL6)
  case hL6 => exact ⟨⟨_, rfl⟩, trivial⟩
  case ho6 => exact ak (fun _ => ⟨rfl, fun _ _ => rfl⟩) (ak (fun γ => ⟨rfl, fun w' h => ex_loadT h 2 rfl rfl rfl Try.isAgg25 Try.sizeOf25 rfl rfl⟩) (ak (fun γ => ⟨rfl, fun w' h => ex_loadT h 3 rfl rfl rfl Try.isAgg25 Try.sizeOf25 rfl rfl⟩) (ak (fun γ => ⟨rfl, fun w' h => ⟨14, #[.int .i64 s, .agg (pt X Y Z).toArray, .agg (pt X' Y' Z').toArray], exec_call rfl call14 rfl (mpn rfl), Add_no s h1 h2 X Y Z X' Y' Z' w'⟩⟩) (ak (fun _ => ⟨rfl, fun _ _ => rfl⟩) (ak (by refine fun γ => ⟨rfl, fun w' h => ?_⟩; clear h; go_simp) (ak (by refine fun γ => ⟨rfl, fun w' h => ?_⟩; clear h; go_simp) (ak (fun γ => ⟨rfl, fun w' => ex_made25 rfl⟩) (ak (fun γ => ⟨rfl, rfl, rfl, fun w' h => ex_laidT h rfl rfl Try.sizeOf25 rfl rfl rfl⟩) (ak (fun _ => ⟨rfl, fun _ _ => rfl⟩) trivial)))))))))
  intro γ w6 l hM hl
  have H6 : Hid (Mm w6 [(γ 7, pt 0 0 false), (γ5_5, pt 0 0 false), (γ2_5, kd 0 0 0 0 0), (γ1_0, pt X Y Z), (γ1_1, pt X' Y' Z')] ∧ _) := growB H5 hM (Nat.le_refl _) hl [7] rfl (by decide)
  have o6_7 := ownB H5 hM (Nat.le_refl _) hl (i := 7) rfl
  clear hM hl l H5
  generalize γ 7 = γ6_7 at H6 o6_7 ⊢
  clear γ
  refine rest0 rfl (then_normal (wp_seq ?_))
  refine walk_seqA 10 [.quiet (.int .i64 s), .quiet (.agg (pt X Y Z).toArray), .quiet (U n), .call (.tuple #[.agg (pt 0 0 false).toArray, .int .i64 2]), .quiet (.tuple #[.agg (pt 0 0 false).toArray, .int .i64 2]), .quiet (.agg (pt 0 0 false).toArray), .quiet (.int .i64 2), .made (pt 0 0 false) 25, .laid 7 (pt 0 0 false) (pt 0 0 false), .quiet (.int .i64 2)] (sB H6) ?ho7 ?he7 (hL := ?hL7)
  case hL7 => exact ⟨⟨_, rfl⟩, trivial⟩
  case ho7 => exact ak (fun _ => ⟨rfl, fun _ _ => rfl⟩) (ak (fun γ => ⟨rfl, fun w' h => ex_loadT h 3 rfl rfl rfl Try.isAgg25 Try.sizeOf25 rfl rfl⟩) (ak (fun _ => ⟨rfl, fun _ _ => rfl⟩) (ak (fun γ => ⟨rfl, fun w' h => ⟨15, #[.int .i64 s, .agg (pt X Y Z).toArray, U n], exec_call rfl call15 rfl (mpn rfl), Mul_no s h1 h2 X Y Z n hn w'⟩⟩) (ak (fun _ => ⟨rfl, fun _ _ => rfl⟩) (ak (by refine fun γ => ⟨rfl, fun w' h => ?_⟩; clear h; go_simp) (ak (by refine fun γ => ⟨rfl, fun w' h => ?_⟩; clear h; go_simp) (ak (fun γ => ⟨rfl, fun w' => ex_made25 rfl⟩) (ak (fun γ => ⟨rfl, rfl, rfl, fun w' h => ex_laidT h rfl rfl Try.sizeOf25 rfl rfl rfl⟩) (ak (fun _ => ⟨rfl, fun _ _ => rfl⟩) trivial)))))))))
  intro γ w7 l hM hl
  have H7 : Hid (Mm w7 [(γ 7, pt 0 0 false), (γ6_7, pt 0 0 false), (γ5_5, pt 0 0 false), (γ2_5, kd 0 0 0 0 0), (γ1_0, pt X Y Z), (γ1_1, pt X' Y' Z')] ∧ _) := growB H6 hM (Nat.le_refl _) hl [7] rfl (by decide)
  have o7_7 := ownB H6 hM (Nat.le_refl _) hl (i := 7) rfl
  clear hM hl l H6
  generalize γ 7 = γ7_7 at H7 o7_7 ⊢
  clear γ
  refine rest0 rfl (then_normal (wp_seq ?_))
  refine walk_seqA 9 [.quiet (.int .i64 s), .quiet (.agg (pt X Y Z).toArray), .call (.tuple #[.agg (pt 0 0 false).toArray, .int .i64 2]), .quiet (.tuple #[.agg (pt 0 0 false).toArray, .int .i64 2]), .quiet (.agg (pt 0 0 false).toArray), .quiet (.int .i64 2), .made (pt 0 0 false) 25, .laid 6 (pt 0 0 false) (pt 0 0 false), .quiet (.int .i64 2)] (sB H7) ?ho8 ?he8 (hL := ?hL8)
  case hL8 => exact ⟨⟨_, rfl⟩, trivial⟩
  case ho8 => exact ak (fun _ => ⟨rfl, fun _ _ => rfl⟩) (ak (fun γ => ⟨rfl, fun w' h => ex_loadT h 4 rfl rfl rfl Try.isAgg25 Try.sizeOf25 rfl rfl⟩) (ak (fun γ => ⟨rfl, fun w' h => ⟨16, #[.int .i64 s, .agg (pt X Y Z).toArray], exec_call rfl call16 rfl (mpn rfl), Clear_no s h1 h2 X Y Z w'⟩⟩) (ak (fun _ => ⟨rfl, fun _ _ => rfl⟩) (ak (by refine fun γ => ⟨rfl, fun w' h => ?_⟩; clear h; go_simp) (ak (by refine fun γ => ⟨rfl, fun w' h => ?_⟩; clear h; go_simp) (ak (fun γ => ⟨rfl, fun w' => ex_made25 rfl⟩) (ak (fun γ => ⟨rfl, rfl, rfl, fun w' h => ex_laidT h rfl rfl Try.sizeOf25 rfl rfl rfl⟩) (ak (fun _ => ⟨rfl, fun _ _ => rfl⟩) trivial))))))))
  intro γ w8 l hM hl
  have H8 : Hid (Mm w8 [(γ 6, pt 0 0 false), (γ7_7, pt 0 0 false), (γ6_7, pt 0 0 false), (γ5_5, pt 0 0 false), (γ2_5, kd 0 0 0 0 0), (γ1_0, pt X Y Z), (γ1_1, pt X' Y' Z')] ∧ _) := growB H7 hM (Nat.le_refl _) hl [6] rfl (by decide)
  have o8_6 := ownB H7 hM (Nat.le_refl _) hl (i := 6) rfl
  clear hM hl l H7
  generalize γ 6 = γ8_6 at H8 o8_6 ⊢
  clear γ
  refine rest0 rfl (then_normal (wp_seq ?_))
  refine walk_seqA 9 [.quiet (.int .i64 s), .quiet (.agg (pt X Y Z).toArray), .call (.tuple #[.agg (pt 0 0 false).toArray, .int .i64 2]), .quiet (.tuple #[.agg (pt 0 0 false).toArray, .int .i64 2]), .quiet (.agg (pt 0 0 false).toArray), .quiet (.int .i64 2), .made (pt 0 0 false) 25, .laid 6 (pt 0 0 false) (pt 0 0 false), .quiet (.int .i64 2)] (sB H8) ?ho9 ?he9 (hL := ?hL9)
  case hL9 => exact ⟨⟨_, rfl⟩, trivial⟩
  case ho9 => exact ak (fun _ => ⟨rfl, fun _ _ => rfl⟩) (ak (fun γ => ⟨rfl, fun w' h => ex_loadT h 5 rfl rfl rfl Try.isAgg25 Try.sizeOf25 rfl rfl⟩) (ak (fun γ => ⟨rfl, fun w' h => ⟨17, #[.int .i64 s, .agg (pt X Y Z).toArray], exec_call rfl call17 rfl (mpn rfl), Neg_no s h1 h2 X Y Z w'⟩⟩) (ak (fun _ => ⟨rfl, fun _ _ => rfl⟩) (ak (by refine fun γ => ⟨rfl, fun w' h => ?_⟩; clear h; go_simp) (ak (by refine fun γ => ⟨rfl, fun w' h => ?_⟩; clear h; go_simp) (ak (fun γ => ⟨rfl, fun w' => ex_made25 rfl⟩) (ak (fun γ => ⟨rfl, rfl, rfl, fun w' h => ex_laidT h rfl rfl Try.sizeOf25 rfl rfl rfl⟩) (ak (fun _ => ⟨rfl, fun _ _ => rfl⟩) trivial))))))))
  intro γ w9 l hM hl
  have H9 : Hid (Mm w9 [(γ 6, pt 0 0 false), (γ8_6, pt 0 0 false), (γ7_7, pt 0 0 false), (γ6_7, pt 0 0 false), (γ5_5, pt 0 0 false), (γ2_5, kd 0 0 0 0 0), (γ1_0, pt X Y Z), (γ1_1, pt X' Y' Z')] ∧ _) := growB H8 hM (Nat.le_refl _) hl [6] rfl (by decide)
  have o9_6 := ownB H8 hM (Nat.le_refl _) hl (i := 6) rfl
  clear hM hl l H8
  generalize γ 6 = γ9_6 at H9 o9_6 ⊢
  clear γ
  refine rest0 rfl (then_normal (wp_seq ?_))
  refine walk_seqA 11 [.quiet (.int .i64 s), .quiet (U n), .call (.tuple #[.agg (pt 0 0 false).toArray, .int .i64 0, .int .i64 2]), .quiet (.tuple #[.agg (pt 0 0 false).toArray, .int .i64 0, .int .i64 2]), .quiet (.agg (pt 0 0 false).toArray), .quiet (.int .i64 0), .quiet (.int .i64 2), .made (pt 0 0 false) 25, .laid 7 (pt 0 0 false) (pt 0 0 false), .quiet (.int .i64 0), .quiet (.int .i64 2)] (sB H9) ?ho10 ?he10 (hL := ?hL10)
  case hL10 => exact ⟨⟨_, rfl⟩, trivial⟩
  case ho10 => exact ak (fun _ => ⟨rfl, fun _ _ => rfl⟩) (ak (fun _ => ⟨rfl, fun _ _ => rfl⟩) (ak (fun γ => ⟨rfl, fun w' h => ⟨18, #[.int .i64 s, U n], exec_call rfl call18 rfl (mpn rfl), Near_no s h1 h2 n w'⟩⟩) (ak (fun _ => ⟨rfl, fun _ _ => rfl⟩) (ak (by refine fun γ => ⟨rfl, fun w' h => ?_⟩; clear h; go_simp) (ak (by refine fun γ => ⟨rfl, fun w' h => ?_⟩; clear h; go_simp) (ak (by refine fun γ => ⟨rfl, fun w' h => ?_⟩; clear h; go_simp) (ak (fun γ => ⟨rfl, fun w' => ex_made25 rfl⟩) (ak (fun γ => ⟨rfl, rfl, rfl, fun w' h => ex_laidT h rfl rfl Try.sizeOf25 rfl rfl rfl⟩) (ak (fun _ => ⟨rfl, fun _ _ => rfl⟩) (ak (fun _ => ⟨rfl, fun _ _ => rfl⟩) trivial))))))))))
  intro γ w10 l hM hl
  have H10 : Hid (Mm w10 [(γ 7, pt 0 0 false), (γ9_6, pt 0 0 false), (γ8_6, pt 0 0 false), (γ7_7, pt 0 0 false), (γ6_7, pt 0 0 false), (γ5_5, pt 0 0 false), (γ2_5, kd 0 0 0 0 0), (γ1_0, pt X Y Z), (γ1_1, pt X' Y' Z')] ∧ _) := growB H9 hM (Nat.le_refl _) hl [7] rfl (by decide)
  have o10_7 := ownB H9 hM (Nat.le_refl _) hl (i := 7) rfl
  clear hM hl l H9
  generalize γ 7 = γ10_7 at H10 o10_7 ⊢
  clear γ
  refine rest0 rfl (then_normal (wp_seq ?_))
  refine walk_seqA 1 [.made (pt 0 0 false) 25] (sB H10) ?ho11 ?he11
  case ho11 => exact ak (fun γ => ⟨rfl, fun w' => ex_made25 rfl⟩) trivial
  intro γ w11 l hM hl
  have H11 : Hid (Mm w11 [(γ 0, pt 0 0 false), (γ10_7, pt 0 0 false), (γ9_6, pt 0 0 false), (γ8_6, pt 0 0 false), (γ7_7, pt 0 0 false), (γ6_7, pt 0 0 false), (γ5_5, pt 0 0 false), (γ2_5, kd 0 0 0 0 0), (γ1_0, pt X Y Z), (γ1_1, pt X' Y' Z')] ∧ _) := growB H10 hM (Nat.le_refl _) hl [0] rfl (by decide)
  have o11_0 := ownB H10 hM (Nat.le_refl _) hl (i := 0) rfl
  clear hM hl l H10
  generalize γ 0 = γ11_0 at H11 o11_0 ⊢
  clear γ
  refine rest0 rfl (then_normal (wp_seq (wp_seq ?_)))
  refine walk_seqB 2 [.quiet (.bool false), .quiet (.bool true)] H11 ?ho12 ?he12
  case ho12 => exact ak (fun _ => ⟨rfl, fun _ _ => rfl⟩) (ak (by refine fun γ => ⟨rfl, fun w' h => ?_⟩; clear h; go_simp) trivial)
  intro _ w12 H12
  clear H11
  refine rest0 rfl (then_normal (wp_cond_true rfl (wp_seq ?_)))
  refine walk_seqB 31 [.quiet (.int .i64 2), .quiet (.bool true), .quiet (.bool true), .quiet (.int .i64 2), .quiet (.bool true), .quiet (.bool true), .quiet (.bool true), .quiet (.int .i64 2), .quiet (.bool true), .quiet (.bool true), .quiet (.bool true), .quiet (.int .i64 2), .quiet (.bool true), .quiet (.bool true), .quiet (.bool true), .quiet (.int .i64 2), .quiet (.bool true), .quiet (.bool true), .quiet (.bool true), .quiet (.int .i64 2), .quiet (.bool true), .quiet (.bool true), .quiet (.bool true), .quiet (.int .i64 2), .quiet (.bool true), .quiet (.bool true), .quiet (.bool true), .quiet (.int .i64 2), .quiet (.bool true), .quiet (.bool true), .quiet (.bool true)] H12 ?ho13 ?he13 (hL := ?hL13)
  case hL13 => exact trivial
  case ho13 => exact ak (fun _ => ⟨rfl, fun _ _ => rfl⟩) (ak (by refine fun γ => ⟨rfl, fun w' h => ?_⟩; clear h; go_simp) (ak (fun _ => ⟨rfl, fun _ _ => rfl⟩) (ak (fun _ => ⟨rfl, fun _ _ => rfl⟩) (ak (by refine fun γ => ⟨rfl, fun w' h => ?_⟩; clear h; go_simp) (ak (by refine fun γ => ⟨rfl, fun w' h => ?_⟩; clear h; go_simp) (ak (fun _ => ⟨rfl, fun _ _ => rfl⟩) (ak (fun _ => ⟨rfl, fun _ _ => rfl⟩) (ak (by refine fun γ => ⟨rfl, fun w' h => ?_⟩; clear h; go_simp) (ak (by refine fun γ => ⟨rfl, fun w' h => ?_⟩; clear h; go_simp) (ak (fun _ => ⟨rfl, fun _ _ => rfl⟩) (ak (fun _ => ⟨rfl, fun _ _ => rfl⟩) (ak (by refine fun γ => ⟨rfl, fun w' h => ?_⟩; clear h; go_simp) (ak (by refine fun γ => ⟨rfl, fun w' h => ?_⟩; clear h; go_simp) (ak (fun _ => ⟨rfl, fun _ _ => rfl⟩) (ak (fun _ => ⟨rfl, fun _ _ => rfl⟩) (ak (by refine fun γ => ⟨rfl, fun w' h => ?_⟩; clear h; go_simp) (ak (by refine fun γ => ⟨rfl, fun w' h => ?_⟩; clear h; go_simp) (ak (fun _ => ⟨rfl, fun _ _ => rfl⟩) (ak (fun _ => ⟨rfl, fun _ _ => rfl⟩) (ak (by refine fun γ => ⟨rfl, fun w' h => ?_⟩; clear h; go_simp) (ak (by refine fun γ => ⟨rfl, fun w' h => ?_⟩; clear h; go_simp) (ak (fun _ => ⟨rfl, fun _ _ => rfl⟩) (ak (fun _ => ⟨rfl, fun _ _ => rfl⟩) (ak (by refine fun γ => ⟨rfl, fun w' h => ?_⟩; clear h; go_simp) (ak (by refine fun γ => ⟨rfl, fun w' h => ?_⟩; clear h; go_simp) (ak (fun _ => ⟨rfl, fun _ _ => rfl⟩) (ak (fun _ => ⟨rfl, fun _ _ => rfl⟩) (ak (by refine fun γ => ⟨rfl, fun w' h => ?_⟩; clear h; go_simp) (ak (by refine fun γ => ⟨rfl, fun w' h => ?_⟩; clear h; go_simp) (ak (fun _ => ⟨rfl, fun _ _ => rfl⟩) trivial))))))))))))))))))))))))))))))
  intro _ w13 H13
  clear H12
  refine rest0 rfl (then_normal (wp_seq ?_))
  refine walk_seqB 56 [.quiet (.bool true), .quiet (.bool true), .quiet (U 0), .quiet (.bool true), .quiet (.bool true), .quiet (.bool true), .quiet (U 0), .quiet (.bool true), .quiet (.bool true), .quiet (.bool true), .quiet (.agg (pt 0 0 false).toArray), .quiet (.agg (pt 0 0 false).toArray), .quiet (.bool true), .quiet (.bool true), .quiet (.bool true), .quiet (.agg (pt 0 0 false).toArray), .quiet (.agg (pt 0 0 false).toArray), .quiet (.bool true), .quiet (.bool true), .quiet (.bool true), .quiet (.agg (pt 0 0 false).toArray), .quiet (.agg (pt 0 0 false).toArray), .quiet (.bool true), .quiet (.bool true), .quiet (.bool true), .quiet (.agg (pt 0 0 false).toArray), .quiet (.agg (pt 0 0 false).toArray), .quiet (.bool true), .quiet (.bool true), .quiet (.bool true), .quiet (.agg (pt 0 0 false).toArray), .quiet (.agg (pt 0 0 false).toArray), .quiet (.bool true), .quiet (.bool true), .quiet (.bool true), .quiet (.agg (pt 0 0 false).toArray), .quiet (.agg (pt 0 0 false).toArray), .quiet (.bool true), .quiet (.bool true), .quiet (.bool true), .quiet (.int .i64 0), .quiet (.bool true), .quiet (.bool true), .quiet (.bool true), .quiet (.int .i64 s), .quiet (.agg (pt X Y Z).toArray), .call (.bool false), .quiet (.bool true), .quiet (.bool true), .quiet (.bool true), .quiet (.int .i64 s), .quiet (.agg (pt X Y Z).toArray), .call (.bool false), .quiet (.bool true), .quiet (.bool true), .quiet (.bool true)] H13 ?ho14 ?he14 (hL := ?hL14)
  case hL14 => exact trivial
  case ho14 => exact ak (fun _ => ⟨rfl, fun _ _ => rfl⟩) (ak (fun _ => ⟨rfl, fun _ _ => rfl⟩) (ak (fun _ => ⟨rfl, fun _ _ => rfl⟩) (ak (fun γ => ⟨rfl, fun w' _ => ex_eqU rfl rfl rfl rfl⟩) (ak (by refine fun γ => ⟨rfl, fun w' h => ?_⟩; clear h; go_simp) (ak (fun _ => ⟨rfl, fun _ _ => rfl⟩) (ak (fun _ => ⟨rfl, fun _ _ => rfl⟩) (ak (fun γ => ⟨rfl, fun w' _ => ex_eqU rfl rfl rfl rfl⟩) (ak (by refine fun γ => ⟨rfl, fun w' h => ?_⟩; clear h; go_simp) (ak (fun _ => ⟨rfl, fun _ _ => rfl⟩) (ak (fun γ => ⟨rfl, fun w' h => ex_loadT h 6 rfl rfl rfl Try.isAgg25 Try.sizeOf25 rfl rfl⟩) (ak (fun γ => ⟨rfl, fun w' h => ex_loadT h 0 rfl rfl rfl Try.isAgg25 Try.sizeOf25 rfl rfl⟩) (ak (fun γ => ⟨rfl, fun w' _ => exec_eqT25 (fun w => eq_self _ _ _ w) rfl rfl rfl⟩) (ak (by refine fun γ => ⟨rfl, fun w' h => ?_⟩; clear h; go_simp) (ak (fun _ => ⟨rfl, fun _ _ => rfl⟩) (ak (fun γ => ⟨rfl, fun w' h => ex_loadT h 5 rfl rfl rfl Try.isAgg25 Try.sizeOf25 rfl rfl⟩) (ak (fun γ => ⟨rfl, fun w' h => ex_loadT h 0 rfl rfl rfl Try.isAgg25 Try.sizeOf25 rfl rfl⟩) (ak (fun γ => ⟨rfl, fun w' _ => exec_eqT25 (fun w => eq_self _ _ _ w) rfl rfl rfl⟩) (ak (by refine fun γ => ⟨rfl, fun w' h => ?_⟩; clear h; go_simp) (ak (fun _ => ⟨rfl, fun _ _ => rfl⟩) (ak (fun γ => ⟨rfl, fun w' h => ex_loadT h 4 rfl rfl rfl Try.isAgg25 Try.sizeOf25 rfl rfl⟩) (ak (fun γ => ⟨rfl, fun w' h => ex_loadT h 0 rfl rfl rfl Try.isAgg25 Try.sizeOf25 rfl rfl⟩) (ak (fun γ => ⟨rfl, fun w' _ => exec_eqT25 (fun w => eq_self _ _ _ w) rfl rfl rfl⟩) (ak (by refine fun γ => ⟨rfl, fun w' h => ?_⟩; clear h; go_simp) (ak (fun _ => ⟨rfl, fun _ _ => rfl⟩) (ak (fun γ => ⟨rfl, fun w' h => ex_loadT h 3 rfl rfl rfl Try.isAgg25 Try.sizeOf25 rfl rfl⟩) (ak (fun γ => ⟨rfl, fun w' h => ex_loadT h 0 rfl rfl rfl Try.isAgg25 Try.sizeOf25 rfl rfl⟩) (ak (fun γ => ⟨rfl, fun w' _ => exec_eqT25 (fun w => eq_self _ _ _ w) rfl rfl rfl⟩) (ak (by refine fun γ => ⟨rfl, fun w' h => ?_⟩; clear h; go_simp) (ak (fun _ => ⟨rfl, fun _ _ => rfl⟩) (ak (fun γ => ⟨rfl, fun w' h => ex_loadT h 2 rfl rfl rfl Try.isAgg25 Try.sizeOf25 rfl rfl⟩) (ak (fun γ => ⟨rfl, fun w' h => ex_loadT h 0 rfl rfl rfl Try.isAgg25 Try.sizeOf25 rfl rfl⟩) (ak (fun γ => ⟨rfl, fun w' _ => exec_eqT25 (fun w => eq_self _ _ _ w) rfl rfl rfl⟩) (ak (by refine fun γ => ⟨rfl, fun w' h => ?_⟩; clear h; go_simp) (ak (fun _ => ⟨rfl, fun _ _ => rfl⟩) (ak (fun γ => ⟨rfl, fun w' h => ex_loadT h 1 rfl rfl rfl Try.isAgg25 Try.sizeOf25 rfl rfl⟩) (ak (fun γ => ⟨rfl, fun w' h => ex_loadT h 0 rfl rfl rfl Try.isAgg25 Try.sizeOf25 rfl rfl⟩) (ak (fun γ => ⟨rfl, fun w' _ => exec_eqT25 (fun w => eq_self _ _ _ w) rfl rfl rfl⟩) (ak (by refine fun γ => ⟨rfl, fun w' h => ?_⟩; clear h; go_simp) (ak (fun _ => ⟨rfl, fun _ _ => rfl⟩) (ak (fun _ => ⟨rfl, fun _ _ => rfl⟩) (ak (by refine fun γ => ⟨rfl, fun w' h => ?_⟩; clear h; go_simp) (ak (by refine fun γ => ⟨rfl, fun w' h => ?_⟩; clear h; go_simp) (ak (fun _ => ⟨rfl, fun _ _ => rfl⟩) (ak (fun _ => ⟨rfl, fun _ _ => rfl⟩) (ak (fun γ => ⟨rfl, fun w' h => ex_loadT h 8 rfl rfl rfl Try.isAgg25 Try.sizeOf25 rfl rfl⟩) (ak (fun γ => ⟨rfl, fun w' h => ⟨19, #[.int .i64 s, .agg (pt X Y Z).toArray], exec_call rfl call19 rfl (mpn rfl), Check_no s h1 h2 X Y Z w'⟩⟩) (ak (by refine fun γ => ⟨rfl, fun w' h => ?_⟩; clear h; go_simp) (ak (by refine fun γ => ⟨rfl, fun w' h => ?_⟩; clear h; go_simp) (ak (fun _ => ⟨rfl, fun _ _ => rfl⟩) (ak (fun _ => ⟨rfl, fun _ _ => rfl⟩) (ak (fun γ => ⟨rfl, fun w' h => ex_loadT h 8 rfl rfl rfl Try.isAgg25 Try.sizeOf25 rfl rfl⟩) (ak (fun γ => ⟨rfl, fun w' h => ⟨20, #[.int .i64 s, .agg (pt X Y Z).toArray], exec_call rfl call20 rfl (mpn rfl), In_no s h1 h2 X Y Z w'⟩⟩) (ak (by refine fun γ => ⟨rfl, fun w' h => ?_⟩; clear h; go_simp) (ak (by refine fun γ => ⟨rfl, fun w' h => ?_⟩; clear h; go_simp) (ak (fun _ => ⟨rfl, fun _ _ => rfl⟩) trivial)))))))))))))))))))))))))))))))))))))))))))))))))))))))
  intro _ w14 H14
  clear H13
  refine rest0 rfl (then_normal (wp_ret ?_))
  repeat (first | refine then_ret ?_ | refine block_ret ?_)
  refine bodyPost_ret (v := .bool true) (by simp [results, Try.results3, go_sem, *]) rfl ?_
  exact ⟨rfl, H14.out.2⟩
theorem tells_kq (k : Kq s p r c gx gy) (X Y : Nat) (Z : Bool) (X' Y' : Nat) (Z' : Bool) (n : Nat) (hn : n < 18446744073709551616) (w : World) : Calls Try.prog 3 #[.int .i64 s, .agg (pt X Y Z).toArray, .agg (pt X' Y' Z').toArray, U n] w fun e w' => e = .returned (.bool true) ∧ Below w.heap.size w w' := by
  cases h1 : oc p X Y Z
  · exact tells_f k X Y Z X' Y' Z' n hn h1 w
  · cases h2 : oc p X' Y' Z'
    · exact tells_tf k X Y Z X' Y' Z' n hn h1 h2 w
    · exact tells_tt k X Y Z X' Y' Z' n hn h1 h2 w
end
theorem tells_any (s : Int) (X Y : Nat) (Z : Bool) (X' Y' : Nat) (Z' : Bool) (n : Nat) (hn : n < 18446744073709551616) (w : World) : Calls Try.prog 3 #[.int .i64 s, .agg (pt X Y Z).toArray, .agg (pt X' Y' Z').toArray, U n] w fun e w' => e = .returned (.bool true) ∧ Below w.heap.size w w' := by
  by_cases h1 : s = 1
  · subst h1; exact tells_kq kq_1 X Y Z X' Y' Z' n hn w
  · by_cases h2 : s = 2
    · subst h2; exact tells_kq kq_2 X Y Z X' Y' Z' n hn w
    · exact tells_no s h1 h2 X Y Z X' Y' Z' n hn w
end Rg
end Go.Proofs.Ytjmbgchoioepjaa
