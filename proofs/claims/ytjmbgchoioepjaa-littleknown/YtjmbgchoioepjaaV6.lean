/- The law LittleKnown -/
import Derived.Test.YtjmbgchoioepjaaV4
import Derived.Test.YtjmbgchoioepjaaY1
namespace Go.Proofs.Ytjmbgchoioepjaa
open Go.RowKit
namespace Rg
open NT
theorem pr_ff (p r c X Y X' Y' : Nat) : pr p r c X Y X' Y' false false = ls p c (wk p r X Y X' Y' false) := if_neg (by decide)
theorem ig_g2 : ig 1152921504606846223 72057594037927889 613740293506734924 666621259561003659 false = true := by decide +kernel
theorem pr_g2 : pr 1152921504606846223 72057594037927889 16 613740293506734924 666621259561003659 613740293506734924 666621259561003659 false false = (1031928651028551423, 152963554084142207) := by
  rw [pr_ff, ls_pm _ _ _ (by decide)]
  decide +kernel
theorem Pair_g2 (w : World) : Calls Try.prog 27 #[.int .i64 2, .agg (pt 613740293506734924 666621259561003659 false).toArray, .agg (pt 613740293506734924 666621259561003659 false).toArray] w fun e w' => e = .returned (.tuple #[V (l2 1031928651028551423 152963554084142207), .int .i64 0]) ∧ Below w.heap.size w w' := by
  have h := Pair_ok kd_2 613740293506734924 666621259561003659 false 613740293506734924 666621259561003659 false (by rw [ig_g2]; rfl) w
  rw [pr_g2] at h
  exact h
theorem rb_pm (p a : Nat) (hp : p + 1 < 2 ^ 64) : rb p a = pm p 64 a ((p + 1) / 4) 1 % p := pw_pm p a _ (Nat.lt_of_le_of_lt (Nat.div_le_self _ _) hp)
theorem sq_pm (p a : Nat) (hp : p + 1 < 2 ^ 64) : sq p a = decide (tm p (pm p 64 a ((p + 1) / 4) 1 % p) (pm p 64 a ((p + 1) / 4) 1 % p) = a) := by
  unfold sq
  rw [rb_pm p a hp]
theorem sq_k (k : Nat) (t : Bool) (h : decide (tm 786251 (pm 786251 64 (cb 786251 ((1 + k) % 786251)) ((786251 + 1) / 4) 1 % 786251) (pm 786251 64 (cb 786251 ((1 + k) % 786251)) ((786251 + 1) / 4) 1 % 786251) = cb 786251 ((1 + k) % 786251)) = t) : sq 786251 (cb 786251 ((1 + k) % 786251)) = t := by
  rw [sq_pm _ _ (by decide)]
  exact h
theorem nk_1 : nk 786251 1 = 3 := by
  obtain ⟨h1, h2, -⟩ := nk_spec kd_1.pr 1
  have f0 := sq_k 0 false (by decide +kernel)
  have f1 := sq_k 1 false (by decide +kernel)
  have f2 := sq_k 2 false (by decide +kernel)
  have f3 := sq_k 3 true (by decide +kernel)
  generalize nk 786251 1 = n at *
  rcases Nat.lt_trichotomy n 3 with h | h | h
  · have : n = 0 ∨ n = 1 ∨ n = 2 := by omega
    rcases this with rfl | rfl | rfl
    · rw [f0] at h1; cases h1
    · rw [f1] at h1; cases h1
    · rw [f2] at h1; cases h1
  · exact h
  · rw [h2 3 h] at f3
    cases f3
theorem rt_4 : rt 786251 (cb 786251 4) = 204503 := by
  unfold rt
  rw [rb_pm _ _ (by decide)]
  decide +kernel
theorem Near_1 (w : World) : Calls Try.prog 18 #[.int .i64 1, U 1] w fun e w' => e = .returned (.tuple #[V (pt 4 204503 false), .int .i64 3, .int .i64 0]) ∧ Below w.heap.size w w' := by
  have h := Near_ok kd_1 1 w
  rw [nk_1, show (1 + 3) % 786251 = 4 by decide, rt_4] at h
  exact h
theorem oc_g1 : oc 786251 9723 164643 false = true := by decide +kernel
theorem Mul_1 (w : World) : Calls Try.prog 15 #[.int .i64 1, .agg (pt 9723 164643 false).toArray, U 65521] w fun e w' => e = .returned (.tuple #[V (pt 0 0 true), .int .i64 0]) ∧ Below w.heap.size w w' := by
  have h := Mul_ok kd_1 9723 164643 false 65521 (by decide) oc_g1 w
  have hz : (mt 786251 9723 164643 false 65521).2.2 = 0 := by decide +kernel
  rw [show pX 786251 (mt 786251 9723 164643 false 65521) = 0 from if_pos hz, show pY 786251 (mt 786251 9723 164643 false 65521) = 0 from if_pos hz, show pZ (mt 786251 9723 164643 false 65521) = true from decide_eq_true hz] at h
  exact h
theorem Neg_1 (w : World) : Calls Try.prog 17 #[.int .i64 1, .agg (pt 9723 164643 false).toArray] w fun e w' => e = .returned (.tuple #[V (pt 9723 621608 false), .int .i64 0]) ∧ Below w.heap.size w w' := Neg_ok kd_1 9723 164643 false oc_g1 w
theorem Add_1 (w : World) : Calls Try.prog 14 #[.int .i64 1, .agg (pt 9723 164643 false).toArray, .agg (pt 9723 621608 false).toArray] w fun e w' => e = .returned (.tuple #[V (pt 0 0 true), .int .i64 0]) ∧ Below w.heap.size w w' := by
  have h := Add_ok kd_1 9723 164643 false 9723 621608 false oc_g1 (by decide +kernel) w
  have hz : (jnT 786251 (tO 9723 164643 false) 9723 621608 false).2.2 = 0 := by decide +kernel
  rw [show pX 786251 (jnT 786251 (tO 9723 164643 false) 9723 621608 false) = 0 from if_pos hz, show pY 786251 (jnT 786251 (tO 9723 164643 false) 9723 621608 false) = 0 from if_pos hz, show pZ (jnT 786251 (tO 9723 164643 false) 9723 621608 false) = true from decide_eq_true hz] at h
  exact h
theorem Add_2 (w : World) : Calls Try.prog 14 #[.int .i64 1, .agg (pt 9723 164643 false).toArray, .agg (pt 1 1 false).toArray] w fun e w' => e = .returned (.tuple #[V (pt 0 0 false), .int .i64 5]) ∧ Below w.heap.size w w' := Add_px kd_1 9723 164643 false 1 1 false oc_g1 (by decide +kernel) w
theorem Check_1 (w : World) : Calls Try.prog 19 #[.int .i64 1, .agg (pt 0 0 false).toArray] w fun e w' => e = .returned (.bool true) ∧ Below w.heap.size w w' := by
  have h := Check_ok kd_1 0 0 false w
  rw [show oc 786251 0 0 false = true by decide +kernel] at h
  exact h
theorem In_1 (w : World) : Calls Try.prog 20 #[.int .i64 1, .agg (pt 0 0 false).toArray] w fun e w' => e = .returned (.bool false) ∧ Below w.heap.size w w' := by
  have h := In_ok kd_1 0 0 false w
  rw [show ig 786251 65521 0 0 false = false by decide +kernel] at h
  exact h
def zb : Nat → Int := pb 0 0 true
theorem zb_0 : zb 0 = 1 := rfl
theorem Bytes_1 (w : World) : Calls Try.prog 35 #[.int .i64 1, V (pt 0 0 true)] w fun e w' => Below w.heap.size w w' ∧ ∃ g, e = .returned (.tuple #[.slice (some ⟨g, 0, none⟩) 17 17, .int .i64 0]) ∧ w.heap.size ≤ g ∧ g < w'.heap.size ∧ Blk w' g (by8 zb 17) := Bytes_ok kd_1 0 0 true (by decide +kernel) w
theorem ex_eq8 {ρ : Operand → Value} {o : Oper} {x y : Operand} {a : Int} {w : World} (ho : o.op = .binOp .eql 5 x y 5) (hx : ρ x = .int .u8 a) (hy : ρ y = .int .u8 1) (h : a = 1) : (execOp ρ o).run Try.prog w = .ok (.value (.bool true)) w := by
  subst h
  simp only [execOp, ho, hx, hy]
  clear ho hx hy
  go_simp
theorem call11 : ∀ args w, (callFunc 11 args).run Try.prog w = .ok (.enter 11 args) w := by intro args w; go_simp
theorem call14 : ∀ args w, (callFunc 14 args).run Try.prog w = .ok (.enter 14 args) w := by intro args w; go_simp
theorem call15 : ∀ args w, (callFunc 15 args).run Try.prog w = .ok (.enter 15 args) w := by intro args w; go_simp
theorem call17 : ∀ args w, (callFunc 17 args).run Try.prog w = .ok (.enter 17 args) w := by intro args w; go_simp
theorem call18 : ∀ args w, (callFunc 18 args).run Try.prog w = .ok (.enter 18 args) w := by intro args w; go_simp
theorem call19 : ∀ args w, (callFunc 19 args).run Try.prog w = .ok (.enter 19 args) w := by intro args w; go_simp
theorem call20 : ∀ args w, (callFunc 20 args).run Try.prog w = .ok (.enter 20 args) w := by intro args w; go_simp
theorem call35 : ∀ args w, (callFunc 35 args).run Try.prog w = .ok (.enter 35 args) w := by intro args w; go_simp
theorem call41 : ∀ args w, (callFunc 41 args).run Try.prog w = .ok (.enter 41 args) w := by intro args w; go_simp
set_option maxHeartbeats 4000000 in
set_option maxRecDepth 100000 in
theorem known_any  (w : World) :
    Calls Try.prog 9 #[] w fun e w' => e = .returned (.bool true) ∧ Below w.heap.size w w' := by
  have H0 : Hid (_ ∧ _) := ⟨Mm.nil w, Below.refl w.heap.size w⟩
  go_enter Try.func9, Try.ntmps9
  refine wp_seq ?_
  refine walk_seqB 1 [.quiet (.bool false)] H0 ?ho1 ?he1
  case ho1 => exact ak (fun _ => ⟨rfl, fun _ _ => rfl⟩) trivial
  intro _ w1 H1
  refine rest0 rfl (then_normal (wp_seq ?_))
  refine walk_seqA 7 [.call (.tuple #[.agg (pt 9723 164643 false).toArray, .int .i64 0]), .quiet (.tuple #[.agg (pt 9723 164643 false).toArray, .int .i64 0]), .quiet (.agg (pt 9723 164643 false).toArray), .quiet (.int .i64 0), .made (pt 0 0 false) 25, .laid 4 (pt 0 0 false) (pt 9723 164643 false), .quiet (.int .i64 0)] (sB H1) ?ho2 ?he2 (hL := ?hL2)
  case hL2 => exact ⟨⟨_, rfl⟩, trivial⟩
  case ho2 => exact ak (fun γ => ⟨rfl, fun w' h => ⟨13, #[.int .i64 1], exec_call rfl call13 rfl (mpn rfl), Gen_ok kd_1 w'⟩⟩) (ak (fun _ => ⟨rfl, fun _ _ => rfl⟩) (ak (by refine fun γ => ⟨rfl, fun w' h => ?_⟩; clear h; go_simp) (ak (by refine fun γ => ⟨rfl, fun w' h => ?_⟩; clear h; go_simp) (ak (fun γ => ⟨rfl, fun w' => ex_made25 rfl⟩) (ak (fun γ => ⟨rfl, rfl, rfl, fun w' h => ex_laidT h rfl rfl Try.sizeOf25 rfl rfl rfl⟩) (ak (fun _ => ⟨rfl, fun _ _ => rfl⟩) trivial))))))
  intro γ w2 l hM hl
  have H2 : Hid (Mm w2 [(γ 4, pt 9723 164643 false)] ∧ _) := growB H1 hM (Nat.le_refl _) hl [4] rfl (by decide)
  have o2_4 := ownB H1 hM (Nat.le_refl _) hl (i := 4) rfl
  clear hM hl l H1
  generalize γ 4 = γ2_4 at H2 o2_4 ⊢
  clear γ
  refine rest0 rfl (then_normal (wp_seq ?_))
  refine walk_seqA 7 [.call (.tuple #[.agg (pt 613740293506734924 666621259561003659 false).toArray, .int .i64 0]), .quiet (.tuple #[.agg (pt 613740293506734924 666621259561003659 false).toArray, .int .i64 0]), .quiet (.agg (pt 613740293506734924 666621259561003659 false).toArray), .quiet (.int .i64 0), .made (pt 0 0 false) 25, .laid 4 (pt 0 0 false) (pt 613740293506734924 666621259561003659 false), .quiet (.int .i64 0)] (sB H2) ?ho3 ?he3 (hL := ?hL3)
  case hL3 => exact ⟨⟨_, rfl⟩, trivial⟩
  case ho3 => exact ak (fun γ => ⟨rfl, fun w' h => ⟨13, #[.int .i64 2], exec_call rfl call13 rfl (mpn rfl), Gen_ok kd_2 w'⟩⟩) (ak (fun _ => ⟨rfl, fun _ _ => rfl⟩) (ak (by refine fun γ => ⟨rfl, fun w' h => ?_⟩; clear h; go_simp) (ak (by refine fun γ => ⟨rfl, fun w' h => ?_⟩; clear h; go_simp) (ak (fun γ => ⟨rfl, fun w' => ex_made25 rfl⟩) (ak (fun γ => ⟨rfl, rfl, rfl, fun w' h => ex_laidT h rfl rfl Try.sizeOf25 rfl rfl rfl⟩) (ak (fun _ => ⟨rfl, fun _ _ => rfl⟩) trivial))))))
  intro γ w3 l hM hl
  have H3 : Hid (Mm w3 [(γ 4, pt 613740293506734924 666621259561003659 false), (γ2_4, pt 9723 164643 false)] ∧ _) := growB H2 hM (Nat.le_refl _) hl [4] rfl (by decide)
  have o3_4 := ownB H2 hM (Nat.le_refl _) hl (i := 4) rfl
  clear hM hl l H2
  generalize γ 4 = γ3_4 at H3 o3_4 ⊢
  clear γ
  refine rest0 rfl (then_normal (wp_seq ?_))
  refine walk_seqA 9 [.quiet (.agg (pt 613740293506734924 666621259561003659 false).toArray), .quiet (.agg (pt 613740293506734924 666621259561003659 false).toArray), .call (.tuple #[.agg (l2 1031928651028551423 152963554084142207).toArray, .int .i64 0]), .quiet (.tuple #[.agg (l2 1031928651028551423 152963554084142207).toArray, .int .i64 0]), .quiet (.agg (l2 1031928651028551423 152963554084142207).toArray), .quiet (.int .i64 0), .made (l2 0 0) 49, .laid 6 (l2 0 0) (l2 1031928651028551423 152963554084142207), .quiet (.int .i64 0)] (sB H3) ?ho4 ?he4 (hL := ?hL4)
  case hL4 => exact ⟨⟨_, rfl⟩, trivial⟩
  case ho4 => exact ak (fun γ => ⟨rfl, fun w' h => ex_loadT h 0 rfl rfl rfl Try.isAgg25 Try.sizeOf25 rfl rfl⟩) (ak (fun γ => ⟨rfl, fun w' h => ex_loadT h 0 rfl rfl rfl Try.isAgg25 Try.sizeOf25 rfl rfl⟩) (ak (fun γ => ⟨rfl, fun w' h => ⟨27, #[.int .i64 2, .agg (pt 613740293506734924 666621259561003659 false).toArray, .agg (pt 613740293506734924 666621259561003659 false).toArray], exec_call rfl call27 rfl (mpn rfl), Pair_g2 w'⟩⟩) (ak (fun _ => ⟨rfl, fun _ _ => rfl⟩) (ak (by refine fun γ => ⟨rfl, fun w' h => ?_⟩; clear h; go_simp) (ak (by refine fun γ => ⟨rfl, fun w' h => ?_⟩; clear h; go_simp) (ak (fun γ => ⟨rfl, fun w' => ex_made49 rfl⟩) (ak (fun γ => ⟨rfl, rfl, rfl, fun w' h => ex_laidT h rfl rfl Try.sizeOf49 rfl rfl rfl⟩) (ak (fun _ => ⟨rfl, fun _ _ => rfl⟩) trivial))))))))
  intro γ w4 l hM hl
  have H4 : Hid (Mm w4 [(γ 6, l2 1031928651028551423 152963554084142207), (γ3_4, pt 613740293506734924 666621259561003659 false), (γ2_4, pt 9723 164643 false)] ∧ _) := growB H3 hM (Nat.le_refl _) hl [6] rfl (by decide)
  have o4_6 := ownB H3 hM (Nat.le_refl _) hl (i := 6) rfl
  clear hM hl l H3
  generalize γ 6 = γ4_6 at H4 o4_6 ⊢
  clear γ
  refine rest0 rfl (then_normal (wp_seq ?_))
  refine walk_seqA 9 [.call (.tuple #[.agg (pt 4 204503 false).toArray, .int .i64 3, .int .i64 0]), .quiet (.tuple #[.agg (pt 4 204503 false).toArray, .int .i64 3, .int .i64 0]), .quiet (.agg (pt 4 204503 false).toArray), .quiet (.int .i64 3), .quiet (.int .i64 0), .made (pt 0 0 false) 25, .laid 5 (pt 0 0 false) (pt 4 204503 false), .quiet (.int .i64 3), .quiet (.int .i64 0)] (sB H4) ?ho5 ?he5 (hL := ?hL5)
  case hL5 => exact ⟨⟨_, rfl⟩, trivial⟩
  case ho5 => exact ak (fun γ => ⟨rfl, fun w' h => ⟨18, #[.int .i64 1, U 1], exec_call rfl call18 rfl (mpn rfl), Near_1 w'⟩⟩) (ak (fun _ => ⟨rfl, fun _ _ => rfl⟩) (ak (by refine fun γ => ⟨rfl, fun w' h => ?_⟩; clear h; go_simp) (ak (by refine fun γ => ⟨rfl, fun w' h => ?_⟩; clear h; go_simp) (ak (by refine fun γ => ⟨rfl, fun w' h => ?_⟩; clear h; go_simp) (ak (fun γ => ⟨rfl, fun w' => ex_made25 rfl⟩) (ak (fun γ => ⟨rfl, rfl, rfl, fun w' h => ex_laidT h rfl rfl Try.sizeOf25 rfl rfl rfl⟩) (ak (fun _ => ⟨rfl, fun _ _ => rfl⟩) (ak (fun _ => ⟨rfl, fun _ _ => rfl⟩) trivial))))))))
  intro γ w5 l hM hl
  have H5 : Hid (Mm w5 [(γ 5, pt 4 204503 false), (γ4_6, l2 1031928651028551423 152963554084142207), (γ3_4, pt 613740293506734924 666621259561003659 false), (γ2_4, pt 9723 164643 false)] ∧ _) := growB H4 hM (Nat.le_refl _) hl [5] rfl (by decide)
  have o5_5 := ownB H4 hM (Nat.le_refl _) hl (i := 5) rfl
  clear hM hl l H4
  generalize γ 5 = γ5_5 at H5 o5_5 ⊢
  clear γ
  refine rest0 rfl (then_normal (wp_seq ?_))
  refine walk_seqA 8 [.quiet (.agg (pt 9723 164643 false).toArray), .call (.tuple #[.agg (pt 0 0 true).toArray, .int .i64 0]), .quiet (.tuple #[.agg (pt 0 0 true).toArray, .int .i64 0]), .quiet (.agg (pt 0 0 true).toArray), .quiet (.int .i64 0), .made (pt 0 0 false) 25, .laid 5 (pt 0 0 false) (pt 0 0 true), .quiet (.int .i64 0)] (sB H5) ?ho6 ?he6 (hL := ?hL6)
  case hL6 => exact ⟨⟨_, rfl⟩, trivial⟩
  case ho6 => exact ak (fun γ => ⟨rfl, fun w' h => ex_loadT h 3 rfl rfl rfl Try.isAgg25 Try.sizeOf25 rfl rfl⟩) (ak (fun γ => ⟨rfl, fun w' h => ⟨15, #[.int .i64 1, .agg (pt 9723 164643 false).toArray, U 65521], exec_call rfl call15 rfl (mpn rfl), Mul_1 w'⟩⟩) (ak (fun _ => ⟨rfl, fun _ _ => rfl⟩) (ak (by refine fun γ => ⟨rfl, fun w' h => ?_⟩; clear h; go_simp) (ak (by refine fun γ => ⟨rfl, fun w' h => ?_⟩; clear h; go_simp) (ak (fun γ => ⟨rfl, fun w' => ex_made25 rfl⟩) (ak (fun γ => ⟨rfl, rfl, rfl, fun w' h => ex_laidT h rfl rfl Try.sizeOf25 rfl rfl rfl⟩) (ak (fun _ => ⟨rfl, fun _ _ => rfl⟩) trivial)))))))
  intro γ w6 l hM hl
  have H6 : Hid (Mm w6 [(γ 5, pt 0 0 true), (γ5_5, pt 4 204503 false), (γ4_6, l2 1031928651028551423 152963554084142207), (γ3_4, pt 613740293506734924 666621259561003659 false), (γ2_4, pt 9723 164643 false)] ∧ _) := growB H5 hM (Nat.le_refl _) hl [5] rfl (by decide)
  have o6_5 := ownB H5 hM (Nat.le_refl _) hl (i := 5) rfl
  clear hM hl l H5
  generalize γ 5 = γ6_5 at H6 o6_5 ⊢
  clear γ
  refine rest0 rfl (then_normal (wp_seq ?_))
  refine walk_seqA 8 [.quiet (.agg (pt 9723 164643 false).toArray), .call (.tuple #[.agg (pt 9723 621608 false).toArray, .int .i64 0]), .quiet (.tuple #[.agg (pt 9723 621608 false).toArray, .int .i64 0]), .quiet (.agg (pt 9723 621608 false).toArray), .quiet (.int .i64 0), .made (pt 0 0 false) 25, .laid 5 (pt 0 0 false) (pt 9723 621608 false), .quiet (.int .i64 0)] (sB H6) ?ho7 ?he7 (hL := ?hL7)
  case hL7 => exact ⟨⟨_, rfl⟩, trivial⟩
  case ho7 => exact ak (fun γ => ⟨rfl, fun w' h => ex_loadT h 4 rfl rfl rfl Try.isAgg25 Try.sizeOf25 rfl rfl⟩) (ak (fun γ => ⟨rfl, fun w' h => ⟨17, #[.int .i64 1, .agg (pt 9723 164643 false).toArray], exec_call rfl call17 rfl (mpn rfl), Neg_1 w'⟩⟩) (ak (fun _ => ⟨rfl, fun _ _ => rfl⟩) (ak (by refine fun γ => ⟨rfl, fun w' h => ?_⟩; clear h; go_simp) (ak (by refine fun γ => ⟨rfl, fun w' h => ?_⟩; clear h; go_simp) (ak (fun γ => ⟨rfl, fun w' => ex_made25 rfl⟩) (ak (fun γ => ⟨rfl, rfl, rfl, fun w' h => ex_laidT h rfl rfl Try.sizeOf25 rfl rfl rfl⟩) (ak (fun _ => ⟨rfl, fun _ _ => rfl⟩) trivial)))))))
  intro γ w7 l hM hl
  have H7 : Hid (Mm w7 [(γ 5, pt 9723 621608 false), (γ6_5, pt 0 0 true), (γ5_5, pt 4 204503 false), (γ4_6, l2 1031928651028551423 152963554084142207), (γ3_4, pt 613740293506734924 666621259561003659 false), (γ2_4, pt 9723 164643 false)] ∧ _) := growB H6 hM (Nat.le_refl _) hl [5] rfl (by decide)
  have o7_5 := ownB H6 hM (Nat.le_refl _) hl (i := 5) rfl
  clear hM hl l H6
  generalize γ 5 = γ7_5 at H7 o7_5 ⊢
  clear γ
  refine rest0 rfl (then_normal (wp_seq ?_))
  refine walk_seqA 9 [.quiet (.agg (pt 9723 164643 false).toArray), .quiet (.agg (pt 9723 621608 false).toArray), .call (.tuple #[.agg (pt 0 0 true).toArray, .int .i64 0]), .quiet (.tuple #[.agg (pt 0 0 true).toArray, .int .i64 0]), .quiet (.agg (pt 0 0 true).toArray), .quiet (.int .i64 0), .made (pt 0 0 false) 25, .laid 6 (pt 0 0 false) (pt 0 0 true), .quiet (.int .i64 0)] (sB H7) ?ho8 ?he8 (hL := ?hL8)
  case hL8 => exact ⟨⟨_, rfl⟩, trivial⟩
  case ho8 => exact ak (fun γ => ⟨rfl, fun w' h => ex_loadT h 5 rfl rfl rfl Try.isAgg25 Try.sizeOf25 rfl rfl⟩) (ak (fun γ => ⟨rfl, fun w' h => ex_loadT h 0 rfl rfl rfl Try.isAgg25 Try.sizeOf25 rfl rfl⟩) (ak (fun γ => ⟨rfl, fun w' h => ⟨14, #[.int .i64 1, .agg (pt 9723 164643 false).toArray, .agg (pt 9723 621608 false).toArray], exec_call rfl call14 rfl (mpn rfl), Add_1 w'⟩⟩) (ak (fun _ => ⟨rfl, fun _ _ => rfl⟩) (ak (by refine fun γ => ⟨rfl, fun w' h => ?_⟩; clear h; go_simp) (ak (by refine fun γ => ⟨rfl, fun w' h => ?_⟩; clear h; go_simp) (ak (fun γ => ⟨rfl, fun w' => ex_made25 rfl⟩) (ak (fun γ => ⟨rfl, rfl, rfl, fun w' h => ex_laidT h rfl rfl Try.sizeOf25 rfl rfl rfl⟩) (ak (fun _ => ⟨rfl, fun _ _ => rfl⟩) trivial))))))))
  intro γ w8 l hM hl
  have H8 : Hid (Mm w8 [(γ 6, pt 0 0 true), (γ7_5, pt 9723 621608 false), (γ6_5, pt 0 0 true), (γ5_5, pt 4 204503 false), (γ4_6, l2 1031928651028551423 152963554084142207), (γ3_4, pt 613740293506734924 666621259561003659 false), (γ2_4, pt 9723 164643 false)] ∧ _) := growB H7 hM (Nat.le_refl _) hl [6] rfl (by decide)
  have o8_6 := ownB H7 hM (Nat.le_refl _) hl (i := 6) rfl
  clear hM hl l H7
  generalize γ 6 = γ8_6 at H8 o8_6 ⊢
  clear γ
  refine rest0 rfl (then_normal (wp_seq ?_))
  refine walk_seqB 6 [.call (.tuple #[U 0, .int .i64 2]), .quiet (.tuple #[U 0, .int .i64 2]), .quiet (U 0), .quiet (.int .i64 2), .quiet (U 0), .quiet (.int .i64 2)] H8 ?ho9 ?he9
  case ho9 => exact ak (fun γ => ⟨rfl, fun w' h => ⟨11, #[.int .i64 0], exec_call rfl call11 rfl (mpn rfl), Prime_no 0 (by decide) (by decide) w'⟩⟩) (ak (fun _ => ⟨rfl, fun _ _ => rfl⟩) (ak (by refine fun γ => ⟨rfl, fun w' h => ?_⟩; clear h; go_simp) (ak (by refine fun γ => ⟨rfl, fun w' h => ?_⟩; clear h; go_simp) (ak (fun _ => ⟨rfl, fun _ _ => rfl⟩) (ak (fun _ => ⟨rfl, fun _ _ => rfl⟩) trivial)))))
  intro _ w9 H9
  clear H8
  refine rest0 rfl (then_normal (wp_seq ?_))
  refine walk_seqA 9 [.quiet (.agg (pt 9723 164643 false).toArray), .quiet (.agg (pt 1 1 false).toArray), .call (.tuple #[.agg (pt 0 0 false).toArray, .int .i64 5]), .quiet (.tuple #[.agg (pt 0 0 false).toArray, .int .i64 5]), .quiet (.agg (pt 0 0 false).toArray), .quiet (.int .i64 5), .made (pt 0 0 false) 25, .laid 6 (pt 0 0 false) (pt 0 0 false), .quiet (.int .i64 5)] (sB H9) ?ho10 ?he10 (hL := ?hL10)
  case hL10 => exact ⟨⟨_, rfl⟩, trivial⟩
  case ho10 => exact ak (fun γ => ⟨rfl, fun w' h => ex_loadT h 6 rfl rfl rfl Try.isAgg25 Try.sizeOf25 rfl rfl⟩) (ak (fun γ => ⟨rfl, fun w' _ => ex_build25_01 rfl rfl rfl⟩) (ak (fun γ => ⟨rfl, fun w' h => ⟨14, #[.int .i64 1, .agg (pt 9723 164643 false).toArray, .agg (pt 1 1 false).toArray], exec_call rfl call14 rfl (mpn rfl), Add_2 w'⟩⟩) (ak (fun _ => ⟨rfl, fun _ _ => rfl⟩) (ak (by refine fun γ => ⟨rfl, fun w' h => ?_⟩; clear h; go_simp) (ak (by refine fun γ => ⟨rfl, fun w' h => ?_⟩; clear h; go_simp) (ak (fun γ => ⟨rfl, fun w' => ex_made25 rfl⟩) (ak (fun γ => ⟨rfl, rfl, rfl, fun w' h => ex_laidT h rfl rfl Try.sizeOf25 rfl rfl rfl⟩) (ak (fun _ => ⟨rfl, fun _ _ => rfl⟩) trivial))))))))
  intro γ w10 l hM hl
  have H10 : Hid (Mm w10 [(γ 6, pt 0 0 false), (γ8_6, pt 0 0 true), (γ7_5, pt 9723 621608 false), (γ6_5, pt 0 0 true), (γ5_5, pt 4 204503 false), (γ4_6, l2 1031928651028551423 152963554084142207), (γ3_4, pt 613740293506734924 666621259561003659 false), (γ2_4, pt 9723 164643 false)] ∧ _) := growB H9 hM (Nat.le_refl _) hl [6] rfl (by decide)
  have o10_6 := ownB H9 hM (Nat.le_refl _) hl (i := 6) rfl
  clear hM hl l H9
  generalize γ 6 = γ10_6 at H10 o10_6 ⊢
  clear γ
  refine rest0 rfl (then_normal (wp_seq ?_))
  refine walk_seqA 2 [.quiet (.agg (pt 0 0 true).toArray), .born (fun g => .tuple #[.slice (some ⟨g, 0, none⟩) 17 17, .int .i64 0]) (by8 zb 17)] (sB H10) ?ho11 ?he11
  case ho11 => exact ak (fun γ => ⟨rfl, fun w' _ => ex_build25_2 rfl rfl⟩) (ak (fun γ => ⟨rfl, fun w' h => ⟨35, #[.int .i64 1, .agg (pt 0 0 true).toArray], exec_call rfl call35 rfl (mpn rfl), Bytes_1 w'⟩⟩) trivial)
  intro γ w11 l hM hl
  have H11 : Hid (Mm w11 [(γ 1, by8 zb 17), (γ10_6, pt 0 0 false), (γ8_6, pt 0 0 true), (γ7_5, pt 9723 621608 false), (γ6_5, pt 0 0 true), (γ5_5, pt 4 204503 false), (γ4_6, l2 1031928651028551423 152963554084142207), (γ3_4, pt 613740293506734924 666621259561003659 false), (γ2_4, pt 9723 164643 false)] ∧ _) := growB H10 hM (Nat.le_refl _) hl [1] rfl (by decide)
  have o11_1 := ownB H10 hM (Nat.le_refl _) hl (i := 1) rfl
  clear hM hl l H10
  generalize γ 1 = γ11_1 at H11 o11_1 ⊢
  clear γ
  refine rest_at (l := [2, 3, 4, 5, 6]) rfl ?_
  refine rest_set (d := 70) rfl rfl rfl rfl ?_
  simp only [Act.put, sa, sz, ss]
  refine rest_set (d := 73) (v := .slice (some ⟨γ11_1, 0, none⟩) 17 17) (w' := w11) rfl rfl rfl (by go_simp) ?_
  simp only [Act.put, sa, sz, ss]
  refine rest_set (d := 74) (v := .int .i64 0) (w' := w11) rfl rfl rfl (by go_simp) ?_
  simp only [Act.put, sa, sz, ss]
  refine rest_set (d := 20) rfl rfl rfl rfl ?_
  simp only [Act.put, sa, sz, ss]
  refine rest_set (d := 21) rfl rfl rfl rfl ?_
  simp only [Act.put, sa, sz, ss]
  refine rest_nil (then_normal (wp_seq ?_))
  refine walk_seqB 13 [.quiet (.agg (l2 1031928651028551423 152963554084142207).toArray), .quiet (.agg (l2 1031928651028551423 152963554084142207).toArray), .quiet (.bool true), .quiet (.bool true), .quiet (.agg (pt 4 204503 false).toArray), .quiet (.agg (pt 4 204503 false).toArray), .quiet (.bool true), .quiet (.bool true), .quiet (.bool true), .quiet (.int .i64 3), .quiet (.bool true), .quiet (.bool true), .quiet (.bool true)] H11 ?ho12 ?he12
  case ho12 => exact ak (fun γ => ⟨rfl, fun w' h => ex_loadT h 6 rfl rfl rfl Try.isAgg49 Try.sizeOf49 rfl rfl⟩) (ak (fun γ => ⟨rfl, fun w' _ => ex_build49_01 rfl rfl rfl⟩) (ak (fun γ => ⟨rfl, fun w' _ => exec_eqT49 (fun w => run_eqL 1031928651028551423 152963554084142207 1031928651028551423 152963554084142207 w) rfl rfl rfl⟩) (ak (fun _ => ⟨rfl, fun _ _ => rfl⟩) (ak (fun γ => ⟨rfl, fun w' h => ex_loadT h 5 rfl rfl rfl Try.isAgg25 Try.sizeOf25 rfl rfl⟩) (ak (fun γ => ⟨rfl, fun w' _ => ex_build25_01 rfl rfl rfl⟩) (ak (fun γ => ⟨rfl, fun w' _ => exec_eqT25 (fun w => eq_self _ _ _ w) rfl rfl rfl⟩) (ak (by refine fun γ => ⟨rfl, fun w' h => ?_⟩; clear h; go_simp) (ak (fun _ => ⟨rfl, fun _ _ => rfl⟩) (ak (fun _ => ⟨rfl, fun _ _ => rfl⟩) (ak (by refine fun γ => ⟨rfl, fun w' h => ?_⟩; clear h; go_simp) (ak (by refine fun γ => ⟨rfl, fun w' h => ?_⟩; clear h; go_simp) (ak (fun _ => ⟨rfl, fun _ _ => rfl⟩) trivial))))))))))))
  intro _ w12 H12
  clear H11
  refine rest0 rfl (then_normal (wp_seq ?_))
  refine walk_seqB 6 [.call (.tuple #[U 1152921504606846223, .int .i64 0]), .quiet (.tuple #[U 1152921504606846223, .int .i64 0]), .quiet (U 1152921504606846223), .quiet (.int .i64 0), .quiet (U 1152921504606846223), .quiet (.int .i64 0)] H12 ?ho13 ?he13
  case ho13 => exact ak (fun γ => ⟨rfl, fun w' h => ⟨11, #[.int .i64 2], exec_call rfl call11 rfl (mpn rfl), Prime_ok kd_2 w'⟩⟩) (ak (fun _ => ⟨rfl, fun _ _ => rfl⟩) (ak (by refine fun γ => ⟨rfl, fun w' h => ?_⟩; clear h; go_simp) (ak (by refine fun γ => ⟨rfl, fun w' h => ?_⟩; clear h; go_simp) (ak (fun _ => ⟨rfl, fun _ _ => rfl⟩) (ak (fun _ => ⟨rfl, fun _ _ => rfl⟩) trivial)))))
  intro _ w13 H13
  clear H12
  refine rest0 rfl (then_normal (wp_seq ?_))
  refine walk_seqB 75 [.call (.bool true), .quiet (.bool true), .quiet (.int .i64 0), .quiet (.bool true), .quiet (.bool true), .quiet (.bool true), .quiet (.int .i64 0), .quiet (.bool true), .quiet (.bool true), .quiet (.bool true), .quiet (.int .i64 0), .quiet (.bool true), .quiet (.bool true), .quiet (.bool true), .quiet (.agg (pt 0 0 true).toArray), .quiet (.agg (pt 0 0 true).toArray), .quiet (.bool true), .quiet (.bool true), .quiet (.bool true), .quiet (.int .i64 0), .quiet (.bool true), .quiet (.bool true), .quiet (.bool true), .quiet (.agg (pt 0 0 true).toArray), .quiet (.agg (pt 0 0 true).toArray), .quiet (.bool true), .quiet (.bool true), .quiet (.bool true), .quiet (.int .i64 0), .quiet (.bool true), .quiet (.bool true), .quiet (.bool true), .quiet (.agg (pt 0 0 false).toArray), .call (.bool true), .quiet (.bool true), .quiet (.bool true), .quiet (.agg (pt 0 0 false).toArray), .call (.bool false), .quiet (.bool true), .quiet (.bool true), .quiet (.bool true), .quiet (.int .i64 2), .quiet (.bool true), .quiet (.bool true), .quiet (.bool true), .quiet (.int .i64 5), .quiet (.bool true), .quiet (.bool true), .quiet (.bool true), .quiet (.slice (some ⟨γ11_1, 0, none⟩) 17 17), .quiet (.int .i64 17), .quiet (.bool true), .quiet (.bool true), .quiet (.bool true), .quiet (.slice (some ⟨γ11_1, 0, none⟩) 17 17), .quiet (PT γ11_1 0), .quiet (.int .u8 (zb 0)), .quiet (.bool true), .quiet (.bool true), .quiet (.bool true), .quiet (.int .i64 0), .quiet (.bool true), .quiet (.bool true), .quiet (.bool true), .quiet (.bool true), .quiet (.bool true), .quiet (.bool true), .quiet (U 1152921504606846223), .quiet (.bool true), .quiet (.bool true), .quiet (.bool true), .quiet (.int .i64 0), .quiet (.bool true), .quiet (.bool true), .quiet (.bool true)] H13 ?ho14 ?he14 (hL := ?hL14)
  case hL14 => exact trivial
  case ho14 => exact ak (fun γ => ⟨rfl, fun w' h => ⟨41, #[], exec_call rfl call41 rfl (mpn rfl), awake_any w'⟩⟩) (ak (fun _ => ⟨rfl, fun _ _ => rfl⟩) (ak (fun _ => ⟨rfl, fun _ _ => rfl⟩) (ak (by refine fun γ => ⟨rfl, fun w' h => ?_⟩; clear h; go_simp) (ak (by refine fun γ => ⟨rfl, fun w' h => ?_⟩; clear h; go_simp) (ak (fun _ => ⟨rfl, fun _ _ => rfl⟩) (ak (fun _ => ⟨rfl, fun _ _ => rfl⟩) (ak (by refine fun γ => ⟨rfl, fun w' h => ?_⟩; clear h; go_simp) (ak (by refine fun γ => ⟨rfl, fun w' h => ?_⟩; clear h; go_simp) (ak (fun _ => ⟨rfl, fun _ _ => rfl⟩) (ak (fun _ => ⟨rfl, fun _ _ => rfl⟩) (ak (by refine fun γ => ⟨rfl, fun w' h => ?_⟩; clear h; go_simp) (ak (by refine fun γ => ⟨rfl, fun w' h => ?_⟩; clear h; go_simp) (ak (fun _ => ⟨rfl, fun _ _ => rfl⟩) (ak (fun γ => ⟨rfl, fun w' h => ex_loadT h 4 rfl rfl rfl Try.isAgg25 Try.sizeOf25 rfl rfl⟩) (ak (fun γ => ⟨rfl, fun w' _ => ex_build25_2 rfl rfl⟩) (ak (fun γ => ⟨rfl, fun w' _ => exec_eqT25 (fun w => eq_self _ _ _ w) rfl rfl rfl⟩) (ak (by refine fun γ => ⟨rfl, fun w' h => ?_⟩; clear h; go_simp) (ak (fun _ => ⟨rfl, fun _ _ => rfl⟩) (ak (fun _ => ⟨rfl, fun _ _ => rfl⟩) (ak (by refine fun γ => ⟨rfl, fun w' h => ?_⟩; clear h; go_simp) (ak (by refine fun γ => ⟨rfl, fun w' h => ?_⟩; clear h; go_simp) (ak (fun _ => ⟨rfl, fun _ _ => rfl⟩) (ak (fun γ => ⟨rfl, fun w' h => ex_loadT h 2 rfl rfl rfl Try.isAgg25 Try.sizeOf25 rfl rfl⟩) (ak (fun γ => ⟨rfl, fun w' _ => ex_build25_2 rfl rfl⟩) (ak (fun γ => ⟨rfl, fun w' _ => exec_eqT25 (fun w => eq_self _ _ _ w) rfl rfl rfl⟩) (ak (by refine fun γ => ⟨rfl, fun w' h => ?_⟩; clear h; go_simp) (ak (fun _ => ⟨rfl, fun _ _ => rfl⟩) (ak (fun _ => ⟨rfl, fun _ _ => rfl⟩) (ak (by refine fun γ => ⟨rfl, fun w' h => ?_⟩; clear h; go_simp) (ak (by refine fun γ => ⟨rfl, fun w' h => ?_⟩; clear h; go_simp) (ak (fun _ => ⟨rfl, fun _ _ => rfl⟩) (ak (fun γ => ⟨rfl, fun w' _ => ex_build25_ rfl⟩) (ak (fun γ => ⟨rfl, fun w' h => ⟨19, #[.int .i64 1, .agg (pt 0 0 false).toArray], exec_call rfl call19 rfl (mpn rfl), Check_1 w'⟩⟩) (ak (by refine fun γ => ⟨rfl, fun w' h => ?_⟩; clear h; go_simp) (ak (fun _ => ⟨rfl, fun _ _ => rfl⟩) (ak (fun γ => ⟨rfl, fun w' _ => ex_build25_ rfl⟩) (ak (fun γ => ⟨rfl, fun w' h => ⟨20, #[.int .i64 1, .agg (pt 0 0 false).toArray], exec_call rfl call20 rfl (mpn rfl), In_1 w'⟩⟩) (ak (by refine fun γ => ⟨rfl, fun w' h => ?_⟩; clear h; go_simp) (ak (by refine fun γ => ⟨rfl, fun w' h => ?_⟩; clear h; go_simp) (ak (fun _ => ⟨rfl, fun _ _ => rfl⟩) (ak (fun _ => ⟨rfl, fun _ _ => rfl⟩) (ak (by refine fun γ => ⟨rfl, fun w' h => ?_⟩; clear h; go_simp) (ak (by refine fun γ => ⟨rfl, fun w' h => ?_⟩; clear h; go_simp) (ak (fun _ => ⟨rfl, fun _ _ => rfl⟩) (ak (fun _ => ⟨rfl, fun _ _ => rfl⟩) (ak (by refine fun γ => ⟨rfl, fun w' h => ?_⟩; clear h; go_simp) (ak (by refine fun γ => ⟨rfl, fun w' h => ?_⟩; clear h; go_simp) (ak (fun _ => ⟨rfl, fun _ _ => rfl⟩) (ak (fun _ => ⟨rfl, fun _ _ => rfl⟩) (ak (by refine fun γ => ⟨rfl, fun w' h => ?_⟩; clear h; go_simp) (ak (by refine fun γ => ⟨rfl, fun w' h => ?_⟩; clear h; go_simp) (ak (by refine fun γ => ⟨rfl, fun w' h => ?_⟩; clear h; go_simp) (ak (fun _ => ⟨rfl, fun _ _ => rfl⟩) (ak (fun _ => ⟨rfl, fun _ _ => rfl⟩) (ak (by refine fun γ => ⟨rfl, fun w' h => ?_⟩; clear h; go_simp) (ak (fun γ => ⟨rfl, fun w' h => ex_loadC h 0 rfl rfl rfl Try.isAgg5 (by8_get _ (by decide))⟩) (ak (fun γ => ⟨rfl, fun w' _ => ex_eq8 rfl rfl rfl zb_0⟩) (ak (by refine fun γ => ⟨rfl, fun w' h => ?_⟩; clear h; go_simp) (ak (fun _ => ⟨rfl, fun _ _ => rfl⟩) (ak (fun _ => ⟨rfl, fun _ _ => rfl⟩) (ak (by refine fun γ => ⟨rfl, fun w' h => ?_⟩; clear h; go_simp) (ak (by refine fun γ => ⟨rfl, fun w' h => ?_⟩; clear h; go_simp) (ak (fun _ => ⟨rfl, fun _ _ => rfl⟩) (ak (fun _ => ⟨rfl, fun _ _ => rfl⟩) (ak (by refine fun γ => ⟨rfl, fun w' h => ?_⟩; clear h; go_simp) (ak (fun _ => ⟨rfl, fun _ _ => rfl⟩) (ak (fun _ => ⟨rfl, fun _ _ => rfl⟩) (ak (fun γ => ⟨rfl, fun w' _ => ex_eqU rfl rfl rfl rfl⟩) (ak (by refine fun γ => ⟨rfl, fun w' h => ?_⟩; clear h; go_simp) (ak (fun _ => ⟨rfl, fun _ _ => rfl⟩) (ak (fun _ => ⟨rfl, fun _ _ => rfl⟩) (ak (by refine fun γ => ⟨rfl, fun w' h => ?_⟩; clear h; go_simp) (ak (by refine fun γ => ⟨rfl, fun w' h => ?_⟩; clear h; go_simp) (ak (fun _ => ⟨rfl, fun _ _ => rfl⟩) trivial))))))))))))))))))))))))))))))))))))))))))))))))))))))))))))))))))))))))))
  intro _ w14 H14
  clear H13
  refine rest0 rfl (then_normal (wp_ret ?_))
  repeat (first | refine then_ret ?_ | refine block_ret ?_)
  refine bodyPost_ret (v := .bool true) (by simp [results, Try.results9, go_sem, *]) rfl ?_
  exact ⟨rfl, H14.out.2⟩
end Rg
end Go.Proofs.Ytjmbgchoioepjaa
