/- The law LittleGroup -/
import Derived.Test.YtjmbgchoioepjaaV4
import Derived.Test.YtjmbgchoioepjaaU8
import Derived.Test.YtjmbgchoioepjaaM7
namespace Go.Proofs.Ytjmbgchoioepjaa
open Go.RowKit
namespace Rg
open NT
abbrev W32 (n : Nat) : Value := .int .u32 (n : Int)
theorem ex_cv32 {ρ : Operand → Value} {o : Oper} {x : Operand} {a : Nat} {w : World} (h : a < 4294967296) (ho : o.op = .convert 68 23 x) (hx : ρ x = W32 a) : (execOp ρ o).run Try.prog w = .ok (.value (U a)) w := by
  simp only [execOp, ho, hx]
  clear ho hx
  go_simp
  first | (rw [IntKind.wrap_u64]; omega) | omega
theorem mul32 {a b : Nat} (ha : a < 4294967296) (hb : b < 4294967296) : a * b < 18446744073709551616 := Nat.lt_of_le_of_lt (Nat.mul_le_mul (by omega : a ≤ 4294967295) (by omega : b ≤ 4294967295)) (by decide)
/-- A suite whose points are a group. -/
structure Kf (s : Int) (p r c gx gy : Nat) : Prop where
  q : Kq s p r c gx gy
  three : p % 4 = 3
theorem kf_1 : Kf 1 786251 65521 12 9723 164643 := ⟨kq_1, by decide⟩
theorem kf_2 : Kf 2 1152921504606846223 72057594037927889 16 613740293506734924 666621259561003659 := ⟨kq_2, by decide⟩
def neP (p : Nat) (a : P3) : P3 := (a.1, mi p 0 a.2.1, a.2.2)
theorem call41 : ∀ args w, (callFunc 41 args).run Try.prog w = .ok (.enter 41 args) w := by intro args w; go_simp
section
variable {s : Int} {p r c gx gy : Nat}
theorem Kf.fd (k : Kf s p r c gx gy) [NeZero p] : Fd p := ⟨k.q.k.pr, k.q.prm, k.three⟩
theorem Add_gr (k : Kf s p r c gx gy) [NeZero p] {a b d : P3} (ha : On p a) (hb : On p b) (e : dA p a b = d) (w : World) : Calls Try.prog 14 #[.int .i64 s, .agg (pt a.1 a.2.1 a.2.2).toArray, .agg (pt b.1 b.2.1 b.2.2).toArray] w fun e w' => e = .returned (.tuple #[V (pc d), .int .i64 0]) ∧ Below w.heap.size w w' := by
  rw [← e]
  exact Add_dc k.q _ _ _ _ _ _ (oc_of k.q.k.pr ha) (oc_of k.q.k.pr hb) w
theorem Mul_gr (k : Kf s p r c gx gy) [NeZero p] {a d : P3} (ha : On p a) {n : Nat} (hn : n < 18446744073709551616) (e : dN p a n = d) (w : World) : Calls Try.prog 15 #[.int .i64 s, .agg (pt a.1 a.2.1 a.2.2).toArray, U n] w fun e w' => e = .returned (.tuple #[V (pc d), .int .i64 0]) ∧ Below w.heap.size w w' := by
  rw [← e, ← dM_dN k.fd ha n hn]
  exact Mul_dc k.q _ _ _ n hn (oc_of k.q.k.pr ha) w
theorem Neg_gr (k : Kf s p r c gx gy) [NeZero p] {a : P3} (ha : On p a) (w : World) : Calls Try.prog 17 #[.int .i64 s, .agg (pt a.1 a.2.1 a.2.2).toArray] w fun e w' => e = .returned (.tuple #[V (pc (neP p a)), .int .i64 0]) ∧ Below w.heap.size w w' := Neg_ok k.q.k _ _ _ (oc_of k.q.k.pr ha) w
theorem Check_gr (k : Kf s p r c gx gy) (a : P3) (t : Bool) (h : oc p a.1 a.2.1 a.2.2 = t) (w : World) : Calls Try.prog 19 #[.int .i64 s, .agg (pt a.1 a.2.1 a.2.2).toArray] w fun e w' => e = .returned (.bool t) ∧ Below w.heap.size w w' := Check_is k.q _ _ _ t h w
set_option maxHeartbeats 1000000 in
set_option maxRecDepth 100000 in
theorem group_f (k : Kf s p r c gx gy) (a b d : P3) (m n : Nat) (ha : oc p a.1 a.2.1 a.2.2 = false) (w : World) :
    Calls Try.prog 6 #[.int .i64 s, .agg (pt a.1 a.2.1 a.2.2).toArray, .agg (pt b.1 b.2.1 b.2.2).toArray, .agg (pt d.1 d.2.1 d.2.2).toArray, W32 m, W32 n] w fun e w' => e = .returned (.bool true) ∧ Below w.heap.size w w' := by
  have H0 : Hid (_ ∧ _) := ⟨Mm.nil w, Below.refl w.heap.size w⟩
  go_enter Try.func6, Try.ntmps6
  refine wp_seq ?_
  refine walk_seqA 4 [.made (pt a.1 a.2.1 a.2.2) 25, .made (pt b.1 b.2.1 b.2.2) 25, .made (pt d.1 d.2.1 d.2.2) 25, .quiet (.bool false)] (sB H0) ?ho1 ?he1
  case ho1 => exact ak (fun γ => ⟨rfl, fun w' => ex_boxT rfl rfl⟩) (ak (fun γ => ⟨rfl, fun w' => ex_boxT rfl rfl⟩) (ak (fun γ => ⟨rfl, fun w' => ex_boxT rfl rfl⟩) (ak (fun _ => ⟨rfl, fun _ _ => rfl⟩) trivial)))
  intro γ w1 l hM hl
  have H1 : Hid (Mm w1 [(γ 0, pt a.1 a.2.1 a.2.2), (γ 1, pt b.1 b.2.1 b.2.2), (γ 2, pt d.1 d.2.1 d.2.2)] ∧ _) := growB H0 hM (Nat.le_refl _) hl [0, 1, 2] rfl (by decide)
  have o1_0 := ownB H0 hM (Nat.le_refl _) hl (i := 0) rfl
  have o1_1 := ownB H0 hM (Nat.le_refl _) hl (i := 1) rfl
  have o1_2 := ownB H0 hM (Nat.le_refl _) hl (i := 2) rfl
  clear hM hl l
  generalize γ 0 = γ1_0 at H1 o1_0 ⊢
  generalize γ 1 = γ1_1 at H1 o1_1 ⊢
  generalize γ 2 = γ1_2 at H1 o1_2 ⊢
  clear γ
  refine rest0 rfl (then_normal (wp_seq ?_))
  refine walk_seqB 2 [.call (.bool true), .quiet (.bool true)] H1 ?ho2 ?he2
  case ho2 => exact ak (fun γ => ⟨rfl, fun w' h => ⟨41, #[], exec_call rfl call41 rfl (mpn rfl), awake_any w'⟩⟩) (ak (fun _ => ⟨rfl, fun _ _ => rfl⟩) trivial)
  intro _ w2 H2
  clear H1
  refine rest0 rfl (then_normal (wp_seq (wp_seq ?_)))
  refine walk_seqB 16 [.quiet (.int .i64 s), .quiet (.agg (pt a.1 a.2.1 a.2.2).toArray), .call (.bool false), .quiet (.bool true), .quiet (.bool true), .gone, .gone, .gone, .gone, .quiet (.bool true), .quiet (.bool true), .gone, .gone, .gone, .gone, .quiet (.bool true)] H2 ?ho3 ?he3
  case ho3 => exact ak (fun _ => ⟨rfl, fun _ _ => rfl⟩) (ak (fun γ => ⟨rfl, fun w' h => ex_loadT h 0 rfl rfl rfl Try.isAgg25 Try.sizeOf25 rfl rfl⟩) (ak (fun γ => ⟨rfl, fun w' h => ⟨19, #[.int .i64 s, .agg (pt a.1 a.2.1 a.2.2).toArray], exec_call rfl call19 rfl (mpn rfl), Check_gr k a _ ha w'⟩⟩) (ak (by refine fun γ => ⟨rfl, fun w' h => ?_⟩; clear h; go_simp) (ak (fun _ => ⟨rfl, fun _ _ => rfl⟩) (ak (fun γ => rfl) (ak (fun γ => rfl) (ak (fun γ => rfl) (ak (fun γ => rfl) (ak (by refine fun γ => ⟨rfl, fun w' h => ?_⟩; clear h; go_simp) (ak (fun _ => ⟨rfl, fun _ _ => rfl⟩) (ak (fun γ => rfl) (ak (fun γ => rfl) (ak (fun γ => rfl) (ak (fun γ => rfl) (ak (by refine fun γ => ⟨rfl, fun w' h => ?_⟩; clear h; go_simp) trivial)))))))))))))))
  intro _ w3 H3
  clear H2
  refine rest0 rfl (then_normal (wp_cond_true rfl (wp_seq ?_)))
  refine walk_seqB 2 [.quiet (.bool true), .quiet (.bool true)] H3 ?ho4 ?he4
  case ho4 => exact ak (fun _ => ⟨rfl, fun _ _ => rfl⟩) (ak (fun _ => ⟨rfl, fun _ _ => rfl⟩) trivial)
  intro _ w4 H4
  clear H3
  refine rest0 rfl (then_normal (wp_ret ?_))
  repeat (first | refine then_ret ?_ | refine block_ret ?_)
  refine bodyPost_ret (v := .bool true) (by simp [results, Try.results6, go_sem, *]) rfl ?_
  exact ⟨rfl, H4.out.2⟩
set_option maxHeartbeats 1000000 in
set_option maxRecDepth 100000 in
theorem group_tf (k : Kf s p r c gx gy) (a b d : P3) (m n : Nat) (ha : oc p a.1 a.2.1 a.2.2 = true) (hb : oc p b.1 b.2.1 b.2.2 = false) (w : World) :
    Calls Try.prog 6 #[.int .i64 s, .agg (pt a.1 a.2.1 a.2.2).toArray, .agg (pt b.1 b.2.1 b.2.2).toArray, .agg (pt d.1 d.2.1 d.2.2).toArray, W32 m, W32 n] w fun e w' => e = .returned (.bool true) ∧ Below w.heap.size w w' := by
  have H0 : Hid (_ ∧ _) := ⟨Mm.nil w, Below.refl w.heap.size w⟩
  go_enter Try.func6, Try.ntmps6
  refine wp_seq ?_
  refine walk_seqA 4 [.made (pt a.1 a.2.1 a.2.2) 25, .made (pt b.1 b.2.1 b.2.2) 25, .made (pt d.1 d.2.1 d.2.2) 25, .quiet (.bool false)] (sB H0) ?ho1 ?he1
  case ho1 => exact ak (fun γ => ⟨rfl, fun w' => ex_boxT rfl rfl⟩) (ak (fun γ => ⟨rfl, fun w' => ex_boxT rfl rfl⟩) (ak (fun γ => ⟨rfl, fun w' => ex_boxT rfl rfl⟩) (ak (fun _ => ⟨rfl, fun _ _ => rfl⟩) trivial)))
  intro γ w1 l hM hl
  have H1 : Hid (Mm w1 [(γ 0, pt a.1 a.2.1 a.2.2), (γ 1, pt b.1 b.2.1 b.2.2), (γ 2, pt d.1 d.2.1 d.2.2)] ∧ _) := growB H0 hM (Nat.le_refl _) hl [0, 1, 2] rfl (by decide)
  have o1_0 := ownB H0 hM (Nat.le_refl _) hl (i := 0) rfl
  have o1_1 := ownB H0 hM (Nat.le_refl _) hl (i := 1) rfl
  have o1_2 := ownB H0 hM (Nat.le_refl _) hl (i := 2) rfl
  clear hM hl l
  generalize γ 0 = γ1_0 at H1 o1_0 ⊢
  generalize γ 1 = γ1_1 at H1 o1_1 ⊢
  generalize γ 2 = γ1_2 at H1 o1_2 ⊢
  clear γ
  refine rest0 rfl (then_normal (wp_seq ?_))
  refine walk_seqB 2 [.call (.bool true), .quiet (.bool true)] H1 ?ho2 ?he2
  case ho2 => exact ak (fun γ => ⟨rfl, fun w' h => ⟨41, #[], exec_call rfl call41 rfl (mpn rfl), awake_any w'⟩⟩) (ak (fun _ => ⟨rfl, fun _ _ => rfl⟩) trivial)
  intro _ w2 H2
  clear H1
  refine rest0 rfl (then_normal (wp_seq (wp_seq ?_)))
  refine walk_seqB 16 [.quiet (.int .i64 s), .quiet (.agg (pt a.1 a.2.1 a.2.2).toArray), .call (.bool true), .quiet (.bool false), .quiet (.bool false), .quiet (.int .i64 s), .quiet (.agg (pt b.1 b.2.1 b.2.2).toArray), .call (.bool false), .quiet (.bool true), .quiet (.bool true), .quiet (.bool true), .gone, .gone, .gone, .gone, .quiet (.bool true)] H2 ?ho3 ?he3
  case ho3 => exact ak (fun _ => ⟨rfl, fun _ _ => rfl⟩) (ak (fun γ => ⟨rfl, fun w' h => ex_loadT h 0 rfl rfl rfl Try.isAgg25 Try.sizeOf25 rfl rfl⟩) (ak (fun γ => ⟨rfl, fun w' h => ⟨19, #[.int .i64 s, .agg (pt a.1 a.2.1 a.2.2).toArray], exec_call rfl call19 rfl (mpn rfl), Check_gr k a _ ha w'⟩⟩) (ak (by refine fun γ => ⟨rfl, fun w' h => ?_⟩; clear h; go_simp) (ak (fun _ => ⟨rfl, fun _ _ => rfl⟩) (ak (fun _ => ⟨rfl, fun _ _ => rfl⟩) (ak (fun γ => ⟨rfl, fun w' h => ex_loadT h 1 rfl rfl rfl Try.isAgg25 Try.sizeOf25 rfl rfl⟩) (ak (fun γ => ⟨rfl, fun w' h => ⟨19, #[.int .i64 s, .agg (pt b.1 b.2.1 b.2.2).toArray], exec_call rfl call19 rfl (mpn rfl), Check_gr k b _ hb w'⟩⟩) (ak (by refine fun γ => ⟨rfl, fun w' h => ?_⟩; clear h; go_simp) (ak (by refine fun γ => ⟨rfl, fun w' h => ?_⟩; clear h; go_simp) (ak (fun _ => ⟨rfl, fun _ _ => rfl⟩) (ak (fun γ => rfl) (ak (fun γ => rfl) (ak (fun γ => rfl) (ak (fun γ => rfl) (ak (by refine fun γ => ⟨rfl, fun w' h => ?_⟩; clear h; go_simp) trivial)))))))))))))))
  intro _ w3 H3
  clear H2
  refine rest0 rfl (then_normal (wp_cond_true rfl (wp_seq ?_)))
  refine walk_seqB 2 [.quiet (.bool true), .quiet (.bool true)] H3 ?ho4 ?he4
  case ho4 => exact ak (fun _ => ⟨rfl, fun _ _ => rfl⟩) (ak (fun _ => ⟨rfl, fun _ _ => rfl⟩) trivial)
  intro _ w4 H4
  clear H3
  refine rest0 rfl (then_normal (wp_ret ?_))
  repeat (first | refine then_ret ?_ | refine block_ret ?_)
  refine bodyPost_ret (v := .bool true) (by simp [results, Try.results6, go_sem, *]) rfl ?_
  exact ⟨rfl, H4.out.2⟩
set_option maxHeartbeats 1000000 in
set_option maxRecDepth 100000 in
theorem group_ttf (k : Kf s p r c gx gy) (a b d : P3) (m n : Nat) (ha : oc p a.1 a.2.1 a.2.2 = true) (hb : oc p b.1 b.2.1 b.2.2 = true) (hd : oc p d.1 d.2.1 d.2.2 = false) (w : World) :
    Calls Try.prog 6 #[.int .i64 s, .agg (pt a.1 a.2.1 a.2.2).toArray, .agg (pt b.1 b.2.1 b.2.2).toArray, .agg (pt d.1 d.2.1 d.2.2).toArray, W32 m, W32 n] w fun e w' => e = .returned (.bool true) ∧ Below w.heap.size w w' := by
  have H0 : Hid (_ ∧ _) := ⟨Mm.nil w, Below.refl w.heap.size w⟩
  go_enter Try.func6, Try.ntmps6
  refine wp_seq ?_
  refine walk_seqA 4 [.made (pt a.1 a.2.1 a.2.2) 25, .made (pt b.1 b.2.1 b.2.2) 25, .made (pt d.1 d.2.1 d.2.2) 25, .quiet (.bool false)] (sB H0) ?ho1 ?he1
  case ho1 => exact ak (fun γ => ⟨rfl, fun w' => ex_boxT rfl rfl⟩) (ak (fun γ => ⟨rfl, fun w' => ex_boxT rfl rfl⟩) (ak (fun γ => ⟨rfl, fun w' => ex_boxT rfl rfl⟩) (ak (fun _ => ⟨rfl, fun _ _ => rfl⟩) trivial)))
  intro γ w1 l hM hl
  have H1 : Hid (Mm w1 [(γ 0, pt a.1 a.2.1 a.2.2), (γ 1, pt b.1 b.2.1 b.2.2), (γ 2, pt d.1 d.2.1 d.2.2)] ∧ _) := growB H0 hM (Nat.le_refl _) hl [0, 1, 2] rfl (by decide)
  have o1_0 := ownB H0 hM (Nat.le_refl _) hl (i := 0) rfl
  have o1_1 := ownB H0 hM (Nat.le_refl _) hl (i := 1) rfl
  have o1_2 := ownB H0 hM (Nat.le_refl _) hl (i := 2) rfl
  clear hM hl l
  generalize γ 0 = γ1_0 at H1 o1_0 ⊢
  generalize γ 1 = γ1_1 at H1 o1_1 ⊢
  generalize γ 2 = γ1_2 at H1 o1_2 ⊢
  clear γ
  refine rest0 rfl (then_normal (wp_seq ?_))
  refine walk_seqB 2 [.call (.bool true), .quiet (.bool true)] H1 ?ho2 ?he2
  case ho2 => exact ak (fun γ => ⟨rfl, fun w' h => ⟨41, #[], exec_call rfl call41 rfl (mpn rfl), awake_any w'⟩⟩) (ak (fun _ => ⟨rfl, fun _ _ => rfl⟩) trivial)
  intro _ w2 H2
  clear H1
  refine rest0 rfl (then_normal (wp_seq (wp_seq ?_)))
  refine walk_seqB 16 [.quiet (.int .i64 s), .quiet (.agg (pt a.1 a.2.1 a.2.2).toArray), .call (.bool true), .quiet (.bool false), .quiet (.bool false), .quiet (.int .i64 s), .quiet (.agg (pt b.1 b.2.1 b.2.2).toArray), .call (.bool true), .quiet (.bool false), .quiet (.bool false), .quiet (.bool false), .quiet (.int .i64 s), .quiet (.agg (pt d.1 d.2.1 d.2.2).toArray), .call (.bool false), .quiet (.bool true), .quiet (.bool true)] H2 ?ho3 ?he3
  case ho3 => exact ak (fun _ => ⟨rfl, fun _ _ => rfl⟩) (ak (fun γ => ⟨rfl, fun w' h => ex_loadT h 0 rfl rfl rfl Try.isAgg25 Try.sizeOf25 rfl rfl⟩) (ak (fun γ => ⟨rfl, fun w' h => ⟨19, #[.int .i64 s, .agg (pt a.1 a.2.1 a.2.2).toArray], exec_call rfl call19 rfl (mpn rfl), Check_gr k a _ ha w'⟩⟩) (ak (by refine fun γ => ⟨rfl, fun w' h => ?_⟩; clear h; go_simp) (ak (fun _ => ⟨rfl, fun _ _ => rfl⟩) (ak (fun _ => ⟨rfl, fun _ _ => rfl⟩) (ak (fun γ => ⟨rfl, fun w' h => ex_loadT h 1 rfl rfl rfl Try.isAgg25 Try.sizeOf25 rfl rfl⟩) (ak (fun γ => ⟨rfl, fun w' h => ⟨19, #[.int .i64 s, .agg (pt b.1 b.2.1 b.2.2).toArray], exec_call rfl call19 rfl (mpn rfl), Check_gr k b _ hb w'⟩⟩) (ak (by refine fun γ => ⟨rfl, fun w' h => ?_⟩; clear h; go_simp) (ak (by refine fun γ => ⟨rfl, fun w' h => ?_⟩; clear h; go_simp) (ak (fun _ => ⟨rfl, fun _ _ => rfl⟩) (ak (fun _ => ⟨rfl, fun _ _ => rfl⟩) (ak (fun γ => ⟨rfl, fun w' h => ex_loadT h 2 rfl rfl rfl Try.isAgg25 Try.sizeOf25 rfl rfl⟩) (ak (fun γ => ⟨rfl, fun w' h => ⟨19, #[.int .i64 s, .agg (pt d.1 d.2.1 d.2.2).toArray], exec_call rfl call19 rfl (mpn rfl), Check_gr k d _ hd w'⟩⟩) (ak (by refine fun γ => ⟨rfl, fun w' h => ?_⟩; clear h; go_simp) (ak (by refine fun γ => ⟨rfl, fun w' h => ?_⟩; clear h; go_simp) trivial)))))))))))))))
  intro _ w3 H3
  clear H2
  refine rest0 rfl (then_normal (wp_cond_true rfl (wp_seq ?_)))
  refine walk_seqB 2 [.quiet (.bool true), .quiet (.bool true)] H3 ?ho4 ?he4
  case ho4 => exact ak (fun _ => ⟨rfl, fun _ _ => rfl⟩) (ak (fun _ => ⟨rfl, fun _ _ => rfl⟩) trivial)
  intro _ w4 H4
  clear H3
  refine rest0 rfl (then_normal (wp_ret ?_))
  repeat (first | refine then_ret ?_ | refine block_ret ?_)
  refine bodyPost_ret (v := .bool true) (by simp [results, Try.results6, go_sem, *]) rfl ?_
  exact ⟨rfl, H4.out.2⟩
set_option maxHeartbeats 1000000 in
set_option maxRecDepth 100000 in
theorem group_no (s : Int) (h1 : s ≠ 1) (h2 : s ≠ 2) (a b d : P3) (m n : Nat) (w : World) :
    Calls Try.prog 6 #[.int .i64 s, .agg (pt a.1 a.2.1 a.2.2).toArray, .agg (pt b.1 b.2.1 b.2.2).toArray, .agg (pt d.1 d.2.1 d.2.2).toArray, W32 m, W32 n] w fun e w' => e = .returned (.bool true) ∧ Below w.heap.size w w' := by
  have H0 : Hid (_ ∧ _) := ⟨Mm.nil w, Below.refl w.heap.size w⟩
  go_enter Try.func6, Try.ntmps6
  refine wp_seq ?_
  refine walk_seqA 4 [.made (pt a.1 a.2.1 a.2.2) 25, .made (pt b.1 b.2.1 b.2.2) 25, .made (pt d.1 d.2.1 d.2.2) 25, .quiet (.bool false)] (sB H0) ?ho1 ?he1
  case ho1 => exact ak (fun γ => ⟨rfl, fun w' => ex_boxT rfl rfl⟩) (ak (fun γ => ⟨rfl, fun w' => ex_boxT rfl rfl⟩) (ak (fun γ => ⟨rfl, fun w' => ex_boxT rfl rfl⟩) (ak (fun _ => ⟨rfl, fun _ _ => rfl⟩) trivial)))
  intro γ w1 l hM hl
  have H1 : Hid (Mm w1 [(γ 0, pt a.1 a.2.1 a.2.2), (γ 1, pt b.1 b.2.1 b.2.2), (γ 2, pt d.1 d.2.1 d.2.2)] ∧ _) := growB H0 hM (Nat.le_refl _) hl [0, 1, 2] rfl (by decide)
  have o1_0 := ownB H0 hM (Nat.le_refl _) hl (i := 0) rfl
  have o1_1 := ownB H0 hM (Nat.le_refl _) hl (i := 1) rfl
  have o1_2 := ownB H0 hM (Nat.le_refl _) hl (i := 2) rfl
  clear hM hl l
  generalize γ 0 = γ1_0 at H1 o1_0 ⊢
  generalize γ 1 = γ1_1 at H1 o1_1 ⊢
  generalize γ 2 = γ1_2 at H1 o1_2 ⊢
  clear γ
  refine rest0 rfl (then_normal (wp_seq ?_))
  refine walk_seqB 2 [.call (.bool true), .quiet (.bool true)] H1 ?ho2 ?he2
  case ho2 => exact ak (fun γ => ⟨rfl, fun w' h => ⟨41, #[], exec_call rfl call41 rfl (mpn rfl), awake_any w'⟩⟩) (ak (fun _ => ⟨rfl, fun _ _ => rfl⟩) trivial)
  intro _ w2 H2
  clear H1
  refine rest0 rfl (then_normal (wp_seq (wp_seq ?_)))
  refine walk_seqB 16 [.quiet (.int .i64 s), .quiet (.agg (pt a.1 a.2.1 a.2.2).toArray), .call (.bool false), .quiet (.bool true), .quiet (.bool true), .gone, .gone, .gone, .gone, .quiet (.bool true), .quiet (.bool true), .gone, .gone, .gone, .gone, .quiet (.bool true)] H2 ?ho3 ?he3
  case ho3 => exact ak (fun _ => ⟨rfl, fun _ _ => rfl⟩) (ak (fun γ => ⟨rfl, fun w' h => ex_loadT h 0 rfl rfl rfl Try.isAgg25 Try.sizeOf25 rfl rfl⟩) (ak (fun γ => ⟨rfl, fun w' h => ⟨19, #[.int .i64 s, .agg (pt a.1 a.2.1 a.2.2).toArray], exec_call rfl call19 rfl (mpn rfl), Check_no s h1 h2 _ _ _ w'⟩⟩) (ak (by refine fun γ => ⟨rfl, fun w' h => ?_⟩; clear h; go_simp) (ak (fun _ => ⟨rfl, fun _ _ => rfl⟩) (ak (fun γ => rfl) (ak (fun γ => rfl) (ak (fun γ => rfl) (ak (fun γ => rfl) (ak (by refine fun γ => ⟨rfl, fun w' h => ?_⟩; clear h; go_simp) (ak (fun _ => ⟨rfl, fun _ _ => rfl⟩) (ak (fun γ => rfl) (ak (fun γ => rfl) (ak (fun γ => rfl) (ak (fun γ => rfl) (ak (by refine fun γ => ⟨rfl, fun w' h => ?_⟩; clear h; go_simp) trivial)))))))))))))))
  intro _ w3 H3
  clear H2
  refine rest0 rfl (then_normal (wp_cond_true rfl (wp_seq ?_)))
  refine walk_seqB 2 [.quiet (.bool true), .quiet (.bool true)] H3 ?ho4 ?he4
  case ho4 => exact ak (fun _ => ⟨rfl, fun _ _ => rfl⟩) (ak (fun _ => ⟨rfl, fun _ _ => rfl⟩) trivial)
  intro _ w4 H4
  clear H3
  refine rest0 rfl (then_normal (wp_ret ?_))
  repeat (first | refine then_ret ?_ | refine block_ret ?_)
  refine bodyPost_ret (v := .bool true) (by simp [results, Try.results6, go_sem, *]) rfl ?_
  exact ⟨rfl, H4.out.2⟩
set_option maxHeartbeats 4000000 in
set_option maxRecDepth 100000 in
theorem group_ttt (k : Kf s p r c gx gy) [NeZero p] (a b d : P3) (m n : Nat) (hm : m < 4294967296) (hn : n < 4294967296) (ha : oc p a.1 a.2.1 a.2.2 = true) (oa : On p a) (hb : oc p b.1 b.2.1 b.2.2 = true) (ob : On p b) (hd : oc p d.1 d.2.1 d.2.2 = true) (od : On p d) (w : World) :
    Calls Try.prog 6 #[.int .i64 s, .agg (pt a.1 a.2.1 a.2.2).toArray, .agg (pt b.1 b.2.1 b.2.2).toArray, .agg (pt d.1 d.2.1 d.2.2).toArray, W32 m, W32 n] w fun e w' => e = .returned (.bool true) ∧ Below w.heap.size w w' := by
  have H0 : Hid (_ ∧ _) := ⟨Mm.nil w, Below.refl w.heap.size w⟩
  go_enter Try.func6, Try.ntmps6
  refine wp_seq ?_
  refine walk_seqA 4 [.made (pt a.1 a.2.1 a.2.2) 25, .made (pt b.1 b.2.1 b.2.2) 25, .made (pt d.1 d.2.1 d.2.2) 25, .quiet (.bool false)] (sB H0) ?ho1 ?he1
  case ho1 => exact ak (fun γ => ⟨rfl, fun w' => ex_boxT rfl rfl⟩) (ak (fun γ => ⟨rfl, fun w' => ex_boxT rfl rfl⟩) (ak (fun γ => ⟨rfl, fun w' => ex_boxT rfl rfl⟩) (ak (fun _ => ⟨rfl, fun _ _ => rfl⟩) trivial)))
  intro γ w1 l hM hl
  have H1 : Hid (Mm w1 [(γ 0, pt a.1 a.2.1 a.2.2), (γ 1, pt b.1 b.2.1 b.2.2), (γ 2, pt d.1 d.2.1 d.2.2)] ∧ _) := growB H0 hM (Nat.le_refl _) hl [0, 1, 2] rfl (by decide)
  have o1_0 := ownB H0 hM (Nat.le_refl _) hl (i := 0) rfl
  have o1_1 := ownB H0 hM (Nat.le_refl _) hl (i := 1) rfl
  have o1_2 := ownB H0 hM (Nat.le_refl _) hl (i := 2) rfl
  clear hM hl l
  generalize γ 0 = γ1_0 at H1 o1_0 ⊢
  generalize γ 1 = γ1_1 at H1 o1_1 ⊢
  generalize γ 2 = γ1_2 at H1 o1_2 ⊢
  clear γ
  refine rest0 rfl (then_normal (wp_seq ?_))
  refine walk_seqB 2 [.call (.bool true), .quiet (.bool true)] H1 ?ho2 ?he2
  case ho2 => exact ak (fun γ => ⟨rfl, fun w' h => ⟨41, #[], exec_call rfl call41 rfl (mpn rfl), awake_any w'⟩⟩) (ak (fun _ => ⟨rfl, fun _ _ => rfl⟩) trivial)
  intro _ w2 H2
  clear H1
  refine rest0 rfl (then_normal (wp_seq (wp_seq ?_)))
  refine walk_seqB 16 [.quiet (.int .i64 s), .quiet (.agg (pt a.1 a.2.1 a.2.2).toArray), .call (.bool true), .quiet (.bool false), .quiet (.bool false), .quiet (.int .i64 s), .quiet (.agg (pt b.1 b.2.1 b.2.2).toArray), .call (.bool true), .quiet (.bool false), .quiet (.bool false), .quiet (.bool false), .quiet (.int .i64 s), .quiet (.agg (pt d.1 d.2.1 d.2.2).toArray), .call (.bool true), .quiet (.bool false), .quiet (.bool false)] H2 ?ho3 ?he3
  case ho3 => exact ak (fun _ => ⟨rfl, fun _ _ => rfl⟩) (ak (fun γ => ⟨rfl, fun w' h => ex_loadT h 0 rfl rfl rfl Try.isAgg25 Try.sizeOf25 rfl rfl⟩) (ak (fun γ => ⟨rfl, fun w' h => ⟨19, #[.int .i64 s, .agg (pt a.1 a.2.1 a.2.2).toArray], exec_call rfl call19 rfl (mpn rfl), Check_gr k a _ ha w'⟩⟩) (ak (by refine fun γ => ⟨rfl, fun w' h => ?_⟩; clear h; go_simp) (ak (fun _ => ⟨rfl, fun _ _ => rfl⟩) (ak (fun _ => ⟨rfl, fun _ _ => rfl⟩) (ak (fun γ => ⟨rfl, fun w' h => ex_loadT h 1 rfl rfl rfl Try.isAgg25 Try.sizeOf25 rfl rfl⟩) (ak (fun γ => ⟨rfl, fun w' h => ⟨19, #[.int .i64 s, .agg (pt b.1 b.2.1 b.2.2).toArray], exec_call rfl call19 rfl (mpn rfl), Check_gr k b _ hb w'⟩⟩) (ak (by refine fun γ => ⟨rfl, fun w' h => ?_⟩; clear h; go_simp) (ak (by refine fun γ => ⟨rfl, fun w' h => ?_⟩; clear h; go_simp) (ak (fun _ => ⟨rfl, fun _ _ => rfl⟩) (ak (fun _ => ⟨rfl, fun _ _ => rfl⟩) (ak (fun γ => ⟨rfl, fun w' h => ex_loadT h 2 rfl rfl rfl Try.isAgg25 Try.sizeOf25 rfl rfl⟩) (ak (fun γ => ⟨rfl, fun w' h => ⟨19, #[.int .i64 s, .agg (pt d.1 d.2.1 d.2.2).toArray], exec_call rfl call19 rfl (mpn rfl), Check_gr k d _ hd w'⟩⟩) (ak (by refine fun γ => ⟨rfl, fun w' h => ?_⟩; clear h; go_simp) (ak (by refine fun γ => ⟨rfl, fun w' h => ?_⟩; clear h; go_simp) trivial)))))))))))))))
  intro _ w3 H3
  clear H2
  refine rest0 rfl (then_normal (wp_cond_false rfl ?_))
  refine wp_skip (then_normal (wp_seq ?_))
  refine walk_seqA 10 [.quiet (.int .i64 s), .quiet (.agg (pt a.1 a.2.1 a.2.2).toArray), .quiet (.agg (pt b.1 b.2.1 b.2.2).toArray), .call (.tuple #[.agg (pt ((dA p a b).1) ((dA p a b).2.1) ((dA p a b).2.2)).toArray, .int .i64 0]), .quiet (.tuple #[.agg (pt ((dA p a b).1) ((dA p a b).2.1) ((dA p a b).2.2)).toArray, .int .i64 0]), .quiet (.agg (pt ((dA p a b).1) ((dA p a b).2.1) ((dA p a b).2.2)).toArray), .quiet (.int .i64 0), .made (pt 0 0 false) 25, .laid 7 (pt 0 0 false) (pt ((dA p a b).1) ((dA p a b).2.1) ((dA p a b).2.2)), .quiet (.int .i64 0)] (sB H3) ?ho4 ?he4 (hL := ?hL4)
  case hL4 => exact ⟨⟨_, rfl⟩, trivial⟩
  case ho4 => exact ak (fun _ => ⟨rfl, fun _ _ => rfl⟩) (ak (fun γ => ⟨rfl, fun w' h => ex_loadT h 0 rfl rfl rfl Try.isAgg25 Try.sizeOf25 rfl rfl⟩) (ak (fun γ => ⟨rfl, fun w' h => ex_loadT h 1 rfl rfl rfl Try.isAgg25 Try.sizeOf25 rfl rfl⟩) (ak (fun γ => ⟨rfl, fun w' h => ⟨14, #[.int .i64 s, .agg (pt a.1 a.2.1 a.2.2).toArray, .agg (pt b.1 b.2.1 b.2.2).toArray], exec_call rfl call14 rfl (mpn rfl), Add_gr k oa ob (rfl) w'⟩⟩) (ak (fun _ => ⟨rfl, fun _ _ => rfl⟩) (ak (by refine fun γ => ⟨rfl, fun w' h => ?_⟩; clear h; go_simp) (ak (by refine fun γ => ⟨rfl, fun w' h => ?_⟩; clear h; go_simp) (ak (fun γ => ⟨rfl, fun w' => ex_made25 rfl⟩) (ak (fun γ => ⟨rfl, rfl, rfl, fun w' h => ex_laidT h rfl rfl Try.sizeOf25 rfl rfl rfl⟩) (ak (fun _ => ⟨rfl, fun _ _ => rfl⟩) trivial)))))))))
  intro γ w4 l hM hl
  have H4 : Hid (Mm w4 [(γ 7, pt ((dA p a b).1) ((dA p a b).2.1) ((dA p a b).2.2)), (γ1_0, pt a.1 a.2.1 a.2.2), (γ1_1, pt b.1 b.2.1 b.2.2), (γ1_2, pt d.1 d.2.1 d.2.2)] ∧ _) := growB H3 hM (Nat.le_refl _) hl [7] rfl (by decide)
  have o4_7 := ownB H3 hM (Nat.le_refl _) hl (i := 7) rfl
  clear hM hl l H3
  generalize γ 7 = γ4_7 at H4 o4_7 ⊢
  clear γ
  refine rest0 rfl (then_normal (wp_seq ?_))
  refine walk_seqA 10 [.quiet (.int .i64 s), .quiet (.agg (pt b.1 b.2.1 b.2.2).toArray), .quiet (.agg (pt a.1 a.2.1 a.2.2).toArray), .call (.tuple #[.agg (pt ((dA p a b).1) ((dA p a b).2.1) ((dA p a b).2.2)).toArray, .int .i64 0]), .quiet (.tuple #[.agg (pt ((dA p a b).1) ((dA p a b).2.1) ((dA p a b).2.2)).toArray, .int .i64 0]), .quiet (.agg (pt ((dA p a b).1) ((dA p a b).2.1) ((dA p a b).2.2)).toArray), .quiet (.int .i64 0), .made (pt 0 0 false) 25, .laid 7 (pt 0 0 false) (pt ((dA p a b).1) ((dA p a b).2.1) ((dA p a b).2.2)), .quiet (.int .i64 0)] (sB H4) ?ho5 ?he5 (hL := ?hL5)
  case hL5 => exact ⟨⟨_, rfl⟩, trivial⟩
  case ho5 => exact ak (fun _ => ⟨rfl, fun _ _ => rfl⟩) (ak (fun γ => ⟨rfl, fun w' h => ex_loadT h 2 rfl rfl rfl Try.isAgg25 Try.sizeOf25 rfl rfl⟩) (ak (fun γ => ⟨rfl, fun w' h => ex_loadT h 1 rfl rfl rfl Try.isAgg25 Try.sizeOf25 rfl rfl⟩) (ak (fun γ => ⟨rfl, fun w' h => ⟨14, #[.int .i64 s, .agg (pt b.1 b.2.1 b.2.2).toArray, .agg (pt a.1 a.2.1 a.2.2).toArray], exec_call rfl call14 rfl (mpn rfl), Add_gr k ob oa (dA_comm k.fd ob oa) w'⟩⟩) (ak (fun _ => ⟨rfl, fun _ _ => rfl⟩) (ak (by refine fun γ => ⟨rfl, fun w' h => ?_⟩; clear h; go_simp) (ak (by refine fun γ => ⟨rfl, fun w' h => ?_⟩; clear h; go_simp) (ak (fun γ => ⟨rfl, fun w' => ex_made25 rfl⟩) (ak (fun γ => ⟨rfl, rfl, rfl, fun w' h => ex_laidT h rfl rfl Try.sizeOf25 rfl rfl rfl⟩) (ak (fun _ => ⟨rfl, fun _ _ => rfl⟩) trivial)))))))))
  intro γ w5 l hM hl
  have H5 : Hid (Mm w5 [(γ 7, pt ((dA p a b).1) ((dA p a b).2.1) ((dA p a b).2.2)), (γ4_7, pt ((dA p a b).1) ((dA p a b).2.1) ((dA p a b).2.2)), (γ1_0, pt a.1 a.2.1 a.2.2), (γ1_1, pt b.1 b.2.1 b.2.2), (γ1_2, pt d.1 d.2.1 d.2.2)] ∧ _) := growB H4 hM (Nat.le_refl _) hl [7] rfl (by decide)
  have o5_7 := ownB H4 hM (Nat.le_refl _) hl (i := 7) rfl
  clear hM hl l H4
  generalize γ 7 = γ5_7 at H5 o5_7 ⊢
  clear γ
  refine rest0 rfl (then_normal (wp_seq ?_))
  refine walk_seqA 10 [.quiet (.int .i64 s), .quiet (.agg (pt b.1 b.2.1 b.2.2).toArray), .quiet (.agg (pt d.1 d.2.1 d.2.2).toArray), .call (.tuple #[.agg (pt ((dA p b d).1) ((dA p b d).2.1) ((dA p b d).2.2)).toArray, .int .i64 0]), .quiet (.tuple #[.agg (pt ((dA p b d).1) ((dA p b d).2.1) ((dA p b d).2.2)).toArray, .int .i64 0]), .quiet (.agg (pt ((dA p b d).1) ((dA p b d).2.1) ((dA p b d).2.2)).toArray), .quiet (.int .i64 0), .made (pt 0 0 false) 25, .laid 7 (pt 0 0 false) (pt ((dA p b d).1) ((dA p b d).2.1) ((dA p b d).2.2)), .quiet (.int .i64 0)] (sB H5) ?ho6 ?he6 (hL := ?hL6)
  case hL6 => exact ⟨⟨_, rfl⟩, trivial⟩
  case ho6 => exact ak (fun _ => ⟨rfl, fun _ _ => rfl⟩) (ak (fun γ => ⟨rfl, fun w' h => ex_loadT h 3 rfl rfl rfl Try.isAgg25 Try.sizeOf25 rfl rfl⟩) (ak (fun γ => ⟨rfl, fun w' h => ex_loadT h 4 rfl rfl rfl Try.isAgg25 Try.sizeOf25 rfl rfl⟩) (ak (fun γ => ⟨rfl, fun w' h => ⟨14, #[.int .i64 s, .agg (pt b.1 b.2.1 b.2.2).toArray, .agg (pt d.1 d.2.1 d.2.2).toArray], exec_call rfl call14 rfl (mpn rfl), Add_gr k ob od (rfl) w'⟩⟩) (ak (fun _ => ⟨rfl, fun _ _ => rfl⟩) (ak (by refine fun γ => ⟨rfl, fun w' h => ?_⟩; clear h; go_simp) (ak (by refine fun γ => ⟨rfl, fun w' h => ?_⟩; clear h; go_simp) (ak (fun γ => ⟨rfl, fun w' => ex_made25 rfl⟩) (ak (fun γ => ⟨rfl, rfl, rfl, fun w' h => ex_laidT h rfl rfl Try.sizeOf25 rfl rfl rfl⟩) (ak (fun _ => ⟨rfl, fun _ _ => rfl⟩) trivial)))))))))
  intro γ w6 l hM hl
  have H6 : Hid (Mm w6 [(γ 7, pt ((dA p b d).1) ((dA p b d).2.1) ((dA p b d).2.2)), (γ5_7, pt ((dA p a b).1) ((dA p a b).2.1) ((dA p a b).2.2)), (γ4_7, pt ((dA p a b).1) ((dA p a b).2.1) ((dA p a b).2.2)), (γ1_0, pt a.1 a.2.1 a.2.2), (γ1_1, pt b.1 b.2.1 b.2.2), (γ1_2, pt d.1 d.2.1 d.2.2)] ∧ _) := growB H5 hM (Nat.le_refl _) hl [7] rfl (by decide)
  have o6_7 := ownB H5 hM (Nat.le_refl _) hl (i := 7) rfl
  clear hM hl l H5
  generalize γ 7 = γ6_7 at H6 o6_7 ⊢
  clear γ
  refine rest0 rfl (then_normal (wp_seq ?_))
  refine walk_seqA 10 [.quiet (.int .i64 s), .quiet (.agg (pt ((dA p a b).1) ((dA p a b).2.1) ((dA p a b).2.2)).toArray), .quiet (.agg (pt d.1 d.2.1 d.2.2).toArray), .call (.tuple #[.agg (pt ((dA p (dA p a b) d).1) ((dA p (dA p a b) d).2.1) ((dA p (dA p a b) d).2.2)).toArray, .int .i64 0]), .quiet (.tuple #[.agg (pt ((dA p (dA p a b) d).1) ((dA p (dA p a b) d).2.1) ((dA p (dA p a b) d).2.2)).toArray, .int .i64 0]), .quiet (.agg (pt ((dA p (dA p a b) d).1) ((dA p (dA p a b) d).2.1) ((dA p (dA p a b) d).2.2)).toArray), .quiet (.int .i64 0), .made (pt 0 0 false) 25, .laid 7 (pt 0 0 false) (pt ((dA p (dA p a b) d).1) ((dA p (dA p a b) d).2.1) ((dA p (dA p a b) d).2.2)), .quiet (.int .i64 0)] (sB H6) ?ho7 ?he7 (hL := ?hL7)
  case hL7 => exact ⟨⟨_, rfl⟩, trivial⟩
  case ho7 => exact ak (fun _ => ⟨rfl, fun _ _ => rfl⟩) (ak (fun γ => ⟨rfl, fun w' h => ex_loadT h 2 rfl rfl rfl Try.isAgg25 Try.sizeOf25 rfl rfl⟩) (ak (fun γ => ⟨rfl, fun w' h => ex_loadT h 5 rfl rfl rfl Try.isAgg25 Try.sizeOf25 rfl rfl⟩) (ak (fun γ => ⟨rfl, fun w' h => ⟨14, #[.int .i64 s, .agg (pt ((dA p a b).1) ((dA p a b).2.1) ((dA p a b).2.2)).toArray, .agg (pt d.1 d.2.1 d.2.2).toArray], exec_call rfl call14 rfl (mpn rfl), Add_gr k (on_add k.q.k.pr k.q.prm oa ob) od (rfl) w'⟩⟩) (ak (fun _ => ⟨rfl, fun _ _ => rfl⟩) (ak (by refine fun γ => ⟨rfl, fun w' h => ?_⟩; clear h; go_simp) (ak (by refine fun γ => ⟨rfl, fun w' h => ?_⟩; clear h; go_simp) (ak (fun γ => ⟨rfl, fun w' => ex_made25 rfl⟩) (ak (fun γ => ⟨rfl, rfl, rfl, fun w' h => ex_laidT h rfl rfl Try.sizeOf25 rfl rfl rfl⟩) (ak (fun _ => ⟨rfl, fun _ _ => rfl⟩) trivial)))))))))
  intro γ w7 l hM hl
  have H7 : Hid (Mm w7 [(γ 7, pt ((dA p (dA p a b) d).1) ((dA p (dA p a b) d).2.1) ((dA p (dA p a b) d).2.2)), (γ6_7, pt ((dA p b d).1) ((dA p b d).2.1) ((dA p b d).2.2)), (γ5_7, pt ((dA p a b).1) ((dA p a b).2.1) ((dA p a b).2.2)), (γ4_7, pt ((dA p a b).1) ((dA p a b).2.1) ((dA p a b).2.2)), (γ1_0, pt a.1 a.2.1 a.2.2), (γ1_1, pt b.1 b.2.1 b.2.2), (γ1_2, pt d.1 d.2.1 d.2.2)] ∧ _) := growB H6 hM (Nat.le_refl _) hl [7] rfl (by decide)
  have o7_7 := ownB H6 hM (Nat.le_refl _) hl (i := 7) rfl
  clear hM hl l H6
  generalize γ 7 = γ7_7 at H7 o7_7 ⊢
  clear γ
  refine rest0 rfl (then_normal (wp_seq ?_))
  refine walk_seqA 10 [.quiet (.int .i64 s), .quiet (.agg (pt a.1 a.2.1 a.2.2).toArray), .quiet (.agg (pt ((dA p b d).1) ((dA p b d).2.1) ((dA p b d).2.2)).toArray), .call (.tuple #[.agg (pt ((dA p (dA p a b) d).1) ((dA p (dA p a b) d).2.1) ((dA p (dA p a b) d).2.2)).toArray, .int .i64 0]), .quiet (.tuple #[.agg (pt ((dA p (dA p a b) d).1) ((dA p (dA p a b) d).2.1) ((dA p (dA p a b) d).2.2)).toArray, .int .i64 0]), .quiet (.agg (pt ((dA p (dA p a b) d).1) ((dA p (dA p a b) d).2.1) ((dA p (dA p a b) d).2.2)).toArray), .quiet (.int .i64 0), .made (pt 0 0 false) 25, .laid 7 (pt 0 0 false) (pt ((dA p (dA p a b) d).1) ((dA p (dA p a b) d).2.1) ((dA p (dA p a b) d).2.2)), .quiet (.int .i64 0)] (sB H7) ?ho8 ?he8 (hL := ?hL8)
  case hL8 => exact ⟨⟨_, rfl⟩, trivial⟩
  case ho8 => exact ak (fun _ => ⟨rfl, fun _ _ => rfl⟩) (ak (fun γ => ⟨rfl, fun w' h => ex_loadT h 4 rfl rfl rfl Try.isAgg25 Try.sizeOf25 rfl rfl⟩) (ak (fun γ => ⟨rfl, fun w' h => ex_loadT h 1 rfl rfl rfl Try.isAgg25 Try.sizeOf25 rfl rfl⟩) (ak (fun γ => ⟨rfl, fun w' h => ⟨14, #[.int .i64 s, .agg (pt a.1 a.2.1 a.2.2).toArray, .agg (pt ((dA p b d).1) ((dA p b d).2.1) ((dA p b d).2.2)).toArray], exec_call rfl call14 rfl (mpn rfl), Add_gr k oa (on_add k.q.k.pr k.q.prm ob od) ((dA_assoc k.fd oa ob od).symm) w'⟩⟩) (ak (fun _ => ⟨rfl, fun _ _ => rfl⟩) (ak (by refine fun γ => ⟨rfl, fun w' h => ?_⟩; clear h; go_simp) (ak (by refine fun γ => ⟨rfl, fun w' h => ?_⟩; clear h; go_simp) (ak (fun γ => ⟨rfl, fun w' => ex_made25 rfl⟩) (ak (fun γ => ⟨rfl, rfl, rfl, fun w' h => ex_laidT h rfl rfl Try.sizeOf25 rfl rfl rfl⟩) (ak (fun _ => ⟨rfl, fun _ _ => rfl⟩) trivial)))))))))
  intro γ w8 l hM hl
  have H8 : Hid (Mm w8 [(γ 7, pt ((dA p (dA p a b) d).1) ((dA p (dA p a b) d).2.1) ((dA p (dA p a b) d).2.2)), (γ7_7, pt ((dA p (dA p a b) d).1) ((dA p (dA p a b) d).2.1) ((dA p (dA p a b) d).2.2)), (γ6_7, pt ((dA p b d).1) ((dA p b d).2.1) ((dA p b d).2.2)), (γ5_7, pt ((dA p a b).1) ((dA p a b).2.1) ((dA p a b).2.2)), (γ4_7, pt ((dA p a b).1) ((dA p a b).2.1) ((dA p a b).2.2)), (γ1_0, pt a.1 a.2.1 a.2.2), (γ1_1, pt b.1 b.2.1 b.2.2), (γ1_2, pt d.1 d.2.1 d.2.2)] ∧ _) := growB H7 hM (Nat.le_refl _) hl [7] rfl (by decide)
  have o8_7 := ownB H7 hM (Nat.le_refl _) hl (i := 7) rfl
  clear hM hl l H7
  generalize γ 7 = γ8_7 at H8 o8_7 ⊢
  clear γ
  refine rest0 rfl (then_normal (wp_seq ?_))
  refine walk_seqA 9 [.quiet (.int .i64 s), .quiet (.agg (pt a.1 a.2.1 a.2.2).toArray), .call (.tuple #[.agg (pt ((neP p a).1) ((neP p a).2.1) ((neP p a).2.2)).toArray, .int .i64 0]), .quiet (.tuple #[.agg (pt ((neP p a).1) ((neP p a).2.1) ((neP p a).2.2)).toArray, .int .i64 0]), .quiet (.agg (pt ((neP p a).1) ((neP p a).2.1) ((neP p a).2.2)).toArray), .quiet (.int .i64 0), .made (pt 0 0 false) 25, .laid 6 (pt 0 0 false) (pt ((neP p a).1) ((neP p a).2.1) ((neP p a).2.2)), .quiet (.int .i64 0)] (sB H8) ?ho9 ?he9 (hL := ?hL9)
  case hL9 => exact ⟨⟨_, rfl⟩, trivial⟩
  case ho9 => exact ak (fun _ => ⟨rfl, fun _ _ => rfl⟩) (ak (fun γ => ⟨rfl, fun w' h => ex_loadT h 5 rfl rfl rfl Try.isAgg25 Try.sizeOf25 rfl rfl⟩) (ak (fun γ => ⟨rfl, fun w' h => ⟨17, #[.int .i64 s, .agg (pt a.1 a.2.1 a.2.2).toArray], exec_call rfl call17 rfl (mpn rfl), Neg_gr k oa w'⟩⟩) (ak (fun _ => ⟨rfl, fun _ _ => rfl⟩) (ak (by refine fun γ => ⟨rfl, fun w' h => ?_⟩; clear h; go_simp) (ak (by refine fun γ => ⟨rfl, fun w' h => ?_⟩; clear h; go_simp) (ak (fun γ => ⟨rfl, fun w' => ex_made25 rfl⟩) (ak (fun γ => ⟨rfl, rfl, rfl, fun w' h => ex_laidT h rfl rfl Try.sizeOf25 rfl rfl rfl⟩) (ak (fun _ => ⟨rfl, fun _ _ => rfl⟩) trivial))))))))
  intro γ w9 l hM hl
  have H9 : Hid (Mm w9 [(γ 6, pt ((neP p a).1) ((neP p a).2.1) ((neP p a).2.2)), (γ8_7, pt ((dA p (dA p a b) d).1) ((dA p (dA p a b) d).2.1) ((dA p (dA p a b) d).2.2)), (γ7_7, pt ((dA p (dA p a b) d).1) ((dA p (dA p a b) d).2.1) ((dA p (dA p a b) d).2.2)), (γ6_7, pt ((dA p b d).1) ((dA p b d).2.1) ((dA p b d).2.2)), (γ5_7, pt ((dA p a b).1) ((dA p a b).2.1) ((dA p a b).2.2)), (γ4_7, pt ((dA p a b).1) ((dA p a b).2.1) ((dA p a b).2.2)), (γ1_0, pt a.1 a.2.1 a.2.2), (γ1_1, pt b.1 b.2.1 b.2.2), (γ1_2, pt d.1 d.2.1 d.2.2)] ∧ _) := growB H8 hM (Nat.le_refl _) hl [6] rfl (by decide)
  have o9_6 := ownB H8 hM (Nat.le_refl _) hl (i := 6) rfl
  clear hM hl l H8
  generalize γ 6 = γ9_6 at H9 o9_6 ⊢
  clear γ
  refine rest0 rfl (then_normal (wp_seq ?_))
  refine walk_seqA 10 [.quiet (.int .i64 s), .quiet (.agg (pt a.1 a.2.1 a.2.2).toArray), .quiet (.agg (pt ((neP p a).1) ((neP p a).2.1) ((neP p a).2.2)).toArray), .call (.tuple #[.agg (pt 0 0 true).toArray, .int .i64 0]), .quiet (.tuple #[.agg (pt 0 0 true).toArray, .int .i64 0]), .quiet (.agg (pt 0 0 true).toArray), .quiet (.int .i64 0), .made (pt 0 0 false) 25, .laid 7 (pt 0 0 false) (pt 0 0 true), .quiet (.int .i64 0)] (sB H9) ?ho10 ?he10 (hL := ?hL10)
  case hL10 => exact ⟨⟨_, rfl⟩, trivial⟩
  case ho10 => exact ak (fun _ => ⟨rfl, fun _ _ => rfl⟩) (ak (fun γ => ⟨rfl, fun w' h => ex_loadT h 6 rfl rfl rfl Try.isAgg25 Try.sizeOf25 rfl rfl⟩) (ak (fun γ => ⟨rfl, fun w' h => ex_loadT h 0 rfl rfl rfl Try.isAgg25 Try.sizeOf25 rfl rfl⟩) (ak (fun γ => ⟨rfl, fun w' h => ⟨14, #[.int .i64 s, .agg (pt a.1 a.2.1 a.2.2).toArray, .agg (pt ((neP p a).1) ((neP p a).2.1) ((neP p a).2.2)).toArray], exec_call rfl call14 rfl (mpn rfl), Add_gr k oa (on_neg k.q.k.pr oa) (dA_inv k.fd oa) w'⟩⟩) (ak (fun _ => ⟨rfl, fun _ _ => rfl⟩) (ak (by refine fun γ => ⟨rfl, fun w' h => ?_⟩; clear h; go_simp) (ak (by refine fun γ => ⟨rfl, fun w' h => ?_⟩; clear h; go_simp) (ak (fun γ => ⟨rfl, fun w' => ex_made25 rfl⟩) (ak (fun γ => ⟨rfl, rfl, rfl, fun w' h => ex_laidT h rfl rfl Try.sizeOf25 rfl rfl rfl⟩) (ak (fun _ => ⟨rfl, fun _ _ => rfl⟩) trivial)))))))))
  intro γ w10 l hM hl
  have H10 : Hid (Mm w10 [(γ 7, pt 0 0 true), (γ9_6, pt ((neP p a).1) ((neP p a).2.1) ((neP p a).2.2)), (γ8_7, pt ((dA p (dA p a b) d).1) ((dA p (dA p a b) d).2.1) ((dA p (dA p a b) d).2.2)), (γ7_7, pt ((dA p (dA p a b) d).1) ((dA p (dA p a b) d).2.1) ((dA p (dA p a b) d).2.2)), (γ6_7, pt ((dA p b d).1) ((dA p b d).2.1) ((dA p b d).2.2)), (γ5_7, pt ((dA p a b).1) ((dA p a b).2.1) ((dA p a b).2.2)), (γ4_7, pt ((dA p a b).1) ((dA p a b).2.1) ((dA p a b).2.2)), (γ1_0, pt a.1 a.2.1 a.2.2), (γ1_1, pt b.1 b.2.1 b.2.2), (γ1_2, pt d.1 d.2.1 d.2.2)] ∧ _) := growB H9 hM (Nat.le_refl _) hl [7] rfl (by decide)
  have o10_7 := ownB H9 hM (Nat.le_refl _) hl (i := 7) rfl
  clear hM hl l H9
  generalize γ 7 = γ10_7 at H10 o10_7 ⊢
  clear γ
  refine rest0 rfl (then_normal (wp_seq ?_))
  refine walk_seqA 11 [.quiet (.int .i64 s), .quiet (.agg (pt a.1 a.2.1 a.2.2).toArray), .quiet (W32 m), .quiet (U m), .call (.tuple #[.agg (pt ((dN p a m).1) ((dN p a m).2.1) ((dN p a m).2.2)).toArray, .int .i64 0]), .quiet (.tuple #[.agg (pt ((dN p a m).1) ((dN p a m).2.1) ((dN p a m).2.2)).toArray, .int .i64 0]), .quiet (.agg (pt ((dN p a m).1) ((dN p a m).2.1) ((dN p a m).2.2)).toArray), .quiet (.int .i64 0), .made (pt 0 0 false) 25, .laid 8 (pt 0 0 false) (pt ((dN p a m).1) ((dN p a m).2.1) ((dN p a m).2.2)), .quiet (.int .i64 0)] (sB H10) ?ho11 ?he11 (hL := ?hL11)
  case hL11 => exact ⟨⟨_, rfl⟩, trivial⟩
  case ho11 => exact ak (fun _ => ⟨rfl, fun _ _ => rfl⟩) (ak (fun γ => ⟨rfl, fun w' h => ex_loadT h 7 rfl rfl rfl Try.isAgg25 Try.sizeOf25 rfl rfl⟩) (ak (fun _ => ⟨rfl, fun _ _ => rfl⟩) (ak (fun γ => ⟨rfl, fun w' _ => ex_cv32 hm rfl rfl⟩) (ak (fun γ => ⟨rfl, fun w' h => ⟨15, #[.int .i64 s, .agg (pt a.1 a.2.1 a.2.2).toArray, U m], exec_call rfl call15 rfl (mpn rfl), Mul_gr k oa (by omega) rfl w'⟩⟩) (ak (fun _ => ⟨rfl, fun _ _ => rfl⟩) (ak (by refine fun γ => ⟨rfl, fun w' h => ?_⟩; clear h; go_simp) (ak (by refine fun γ => ⟨rfl, fun w' h => ?_⟩; clear h; go_simp) (ak (fun γ => ⟨rfl, fun w' => ex_made25 rfl⟩) (ak (fun γ => ⟨rfl, rfl, rfl, fun w' h => ex_laidT h rfl rfl Try.sizeOf25 rfl rfl rfl⟩) (ak (fun _ => ⟨rfl, fun _ _ => rfl⟩) trivial))))))))))
  intro γ w11 l hM hl
  have H11 : Hid (Mm w11 [(γ 8, pt ((dN p a m).1) ((dN p a m).2.1) ((dN p a m).2.2)), (γ10_7, pt 0 0 true), (γ9_6, pt ((neP p a).1) ((neP p a).2.1) ((neP p a).2.2)), (γ8_7, pt ((dA p (dA p a b) d).1) ((dA p (dA p a b) d).2.1) ((dA p (dA p a b) d).2.2)), (γ7_7, pt ((dA p (dA p a b) d).1) ((dA p (dA p a b) d).2.1) ((dA p (dA p a b) d).2.2)), (γ6_7, pt ((dA p b d).1) ((dA p b d).2.1) ((dA p b d).2.2)), (γ5_7, pt ((dA p a b).1) ((dA p a b).2.1) ((dA p a b).2.2)), (γ4_7, pt ((dA p a b).1) ((dA p a b).2.1) ((dA p a b).2.2)), (γ1_0, pt a.1 a.2.1 a.2.2), (γ1_1, pt b.1 b.2.1 b.2.2), (γ1_2, pt d.1 d.2.1 d.2.2)] ∧ _) := growB H10 hM (Nat.le_refl _) hl [8] rfl (by decide)
  have o11_8 := ownB H10 hM (Nat.le_refl _) hl (i := 8) rfl
  clear hM hl l H10
  generalize γ 8 = γ11_8 at H11 o11_8 ⊢
  clear γ
  refine rest0 rfl (then_normal (wp_seq ?_))
  refine walk_seqA 11 [.quiet (.int .i64 s), .quiet (.agg (pt a.1 a.2.1 a.2.2).toArray), .quiet (W32 n), .quiet (U n), .call (.tuple #[.agg (pt ((dN p a n).1) ((dN p a n).2.1) ((dN p a n).2.2)).toArray, .int .i64 0]), .quiet (.tuple #[.agg (pt ((dN p a n).1) ((dN p a n).2.1) ((dN p a n).2.2)).toArray, .int .i64 0]), .quiet (.agg (pt ((dN p a n).1) ((dN p a n).2.1) ((dN p a n).2.2)).toArray), .quiet (.int .i64 0), .made (pt 0 0 false) 25, .laid 8 (pt 0 0 false) (pt ((dN p a n).1) ((dN p a n).2.1) ((dN p a n).2.2)), .quiet (.int .i64 0)] (sB H11) ?ho12 ?he12 (hL := ?hL12)
  case hL12 => exact ⟨⟨_, rfl⟩, trivial⟩
  case ho12 => exact ak (fun _ => ⟨rfl, fun _ _ => rfl⟩) (ak (fun γ => ⟨rfl, fun w' h => ex_loadT h 8 rfl rfl rfl Try.isAgg25 Try.sizeOf25 rfl rfl⟩) (ak (fun _ => ⟨rfl, fun _ _ => rfl⟩) (ak (fun γ => ⟨rfl, fun w' _ => ex_cv32 hn rfl rfl⟩) (ak (fun γ => ⟨rfl, fun w' h => ⟨15, #[.int .i64 s, .agg (pt a.1 a.2.1 a.2.2).toArray, U n], exec_call rfl call15 rfl (mpn rfl), Mul_gr k oa (by omega) rfl w'⟩⟩) (ak (fun _ => ⟨rfl, fun _ _ => rfl⟩) (ak (by refine fun γ => ⟨rfl, fun w' h => ?_⟩; clear h; go_simp) (ak (by refine fun γ => ⟨rfl, fun w' h => ?_⟩; clear h; go_simp) (ak (fun γ => ⟨rfl, fun w' => ex_made25 rfl⟩) (ak (fun γ => ⟨rfl, rfl, rfl, fun w' h => ex_laidT h rfl rfl Try.sizeOf25 rfl rfl rfl⟩) (ak (fun _ => ⟨rfl, fun _ _ => rfl⟩) trivial))))))))))
  intro γ w12 l hM hl
  have H12 : Hid (Mm w12 [(γ 8, pt ((dN p a n).1) ((dN p a n).2.1) ((dN p a n).2.2)), (γ11_8, pt ((dN p a m).1) ((dN p a m).2.1) ((dN p a m).2.2)), (γ10_7, pt 0 0 true), (γ9_6, pt ((neP p a).1) ((neP p a).2.1) ((neP p a).2.2)), (γ8_7, pt ((dA p (dA p a b) d).1) ((dA p (dA p a b) d).2.1) ((dA p (dA p a b) d).2.2)), (γ7_7, pt ((dA p (dA p a b) d).1) ((dA p (dA p a b) d).2.1) ((dA p (dA p a b) d).2.2)), (γ6_7, pt ((dA p b d).1) ((dA p b d).2.1) ((dA p b d).2.2)), (γ5_7, pt ((dA p a b).1) ((dA p a b).2.1) ((dA p a b).2.2)), (γ4_7, pt ((dA p a b).1) ((dA p a b).2.1) ((dA p a b).2.2)), (γ1_0, pt a.1 a.2.1 a.2.2), (γ1_1, pt b.1 b.2.1 b.2.2), (γ1_2, pt d.1 d.2.1 d.2.2)] ∧ _) := growB H11 hM (Nat.le_refl _) hl [8] rfl (by decide)
  have o12_8 := ownB H11 hM (Nat.le_refl _) hl (i := 8) rfl
  clear hM hl l H11
  generalize γ 8 = γ12_8 at H12 o12_8 ⊢
  clear γ
  refine rest0 rfl (then_normal (wp_seq ?_))
  refine walk_seqA 10 [.quiet (.int .i64 s), .quiet (.agg (pt ((dN p a m).1) ((dN p a m).2.1) ((dN p a m).2.2)).toArray), .quiet (.agg (pt ((dN p a n).1) ((dN p a n).2.1) ((dN p a n).2.2)).toArray), .call (.tuple #[.agg (pt ((dN p a (m + n)).1) ((dN p a (m + n)).2.1) ((dN p a (m + n)).2.2)).toArray, .int .i64 0]), .quiet (.tuple #[.agg (pt ((dN p a (m + n)).1) ((dN p a (m + n)).2.1) ((dN p a (m + n)).2.2)).toArray, .int .i64 0]), .quiet (.agg (pt ((dN p a (m + n)).1) ((dN p a (m + n)).2.1) ((dN p a (m + n)).2.2)).toArray), .quiet (.int .i64 0), .made (pt 0 0 false) 25, .laid 7 (pt 0 0 false) (pt ((dN p a (m + n)).1) ((dN p a (m + n)).2.1) ((dN p a (m + n)).2.2)), .quiet (.int .i64 0)] (sB H12) ?ho13 ?he13 (hL := ?hL13)
  case hL13 => exact ⟨⟨_, rfl⟩, trivial⟩
  case ho13 => exact ak (fun _ => ⟨rfl, fun _ _ => rfl⟩) (ak (fun γ => ⟨rfl, fun w' h => ex_loadT h 1 rfl rfl rfl Try.isAgg25 Try.sizeOf25 rfl rfl⟩) (ak (fun γ => ⟨rfl, fun w' h => ex_loadT h 0 rfl rfl rfl Try.isAgg25 Try.sizeOf25 rfl rfl⟩) (ak (fun γ => ⟨rfl, fun w' h => ⟨14, #[.int .i64 s, .agg (pt ((dN p a m).1) ((dN p a m).2.1) ((dN p a m).2.2)).toArray, .agg (pt ((dN p a n).1) ((dN p a n).2.1) ((dN p a n).2.2)).toArray], exec_call rfl call14 rfl (mpn rfl), Add_gr k (dN_on k.fd oa m) (dN_on k.fd oa n) ((dN_add k.fd oa m n).symm) w'⟩⟩) (ak (fun _ => ⟨rfl, fun _ _ => rfl⟩) (ak (by refine fun γ => ⟨rfl, fun w' h => ?_⟩; clear h; go_simp) (ak (by refine fun γ => ⟨rfl, fun w' h => ?_⟩; clear h; go_simp) (ak (fun γ => ⟨rfl, fun w' => ex_made25 rfl⟩) (ak (fun γ => ⟨rfl, rfl, rfl, fun w' h => ex_laidT h rfl rfl Try.sizeOf25 rfl rfl rfl⟩) (ak (fun _ => ⟨rfl, fun _ _ => rfl⟩) trivial)))))))))
  intro γ w13 l hM hl
  have H13 : Hid (Mm w13 [(γ 7, pt ((dN p a (m + n)).1) ((dN p a (m + n)).2.1) ((dN p a (m + n)).2.2)), (γ12_8, pt ((dN p a n).1) ((dN p a n).2.1) ((dN p a n).2.2)), (γ11_8, pt ((dN p a m).1) ((dN p a m).2.1) ((dN p a m).2.2)), (γ10_7, pt 0 0 true), (γ9_6, pt ((neP p a).1) ((neP p a).2.1) ((neP p a).2.2)), (γ8_7, pt ((dA p (dA p a b) d).1) ((dA p (dA p a b) d).2.1) ((dA p (dA p a b) d).2.2)), (γ7_7, pt ((dA p (dA p a b) d).1) ((dA p (dA p a b) d).2.1) ((dA p (dA p a b) d).2.2)), (γ6_7, pt ((dA p b d).1) ((dA p b d).2.1) ((dA p b d).2.2)), (γ5_7, pt ((dA p a b).1) ((dA p a b).2.1) ((dA p a b).2.2)), (γ4_7, pt ((dA p a b).1) ((dA p a b).2.1) ((dA p a b).2.2)), (γ1_0, pt a.1 a.2.1 a.2.2), (γ1_1, pt b.1 b.2.1 b.2.2), (γ1_2, pt d.1 d.2.1 d.2.2)] ∧ _) := growB H12 hM (Nat.le_refl _) hl [7] rfl (by decide)
  have o13_7 := ownB H12 hM (Nat.le_refl _) hl (i := 7) rfl
  clear hM hl l H12
  generalize γ 7 = γ13_7 at H13 o13_7 ⊢
  clear γ
  refine rest0 rfl (then_normal (wp_seq ?_))
  refine walk_seqA 14 [.quiet (.int .i64 s), .quiet (.agg (pt a.1 a.2.1 a.2.2).toArray), .quiet (W32 m), .quiet (U m), .quiet (W32 n), .quiet (U n), .quiet (U (m + n)), .call (.tuple #[.agg (pt ((dN p a (m + n)).1) ((dN p a (m + n)).2.1) ((dN p a (m + n)).2.2)).toArray, .int .i64 0]), .quiet (.tuple #[.agg (pt ((dN p a (m + n)).1) ((dN p a (m + n)).2.1) ((dN p a (m + n)).2.2)).toArray, .int .i64 0]), .quiet (.agg (pt ((dN p a (m + n)).1) ((dN p a (m + n)).2.1) ((dN p a (m + n)).2.2)).toArray), .quiet (.int .i64 0), .made (pt 0 0 false) 25, .laid 11 (pt 0 0 false) (pt ((dN p a (m + n)).1) ((dN p a (m + n)).2.1) ((dN p a (m + n)).2.2)), .quiet (.int .i64 0)] (sB H13) ?ho14 ?he14 (hL := ?hL14)
  case hL14 => exact ⟨⟨_, rfl⟩, trivial⟩
  case ho14 => exact ak (fun _ => ⟨rfl, fun _ _ => rfl⟩) (ak (fun γ => ⟨rfl, fun w' h => ex_loadT h 10 rfl rfl rfl Try.isAgg25 Try.sizeOf25 rfl rfl⟩) (ak (fun _ => ⟨rfl, fun _ _ => rfl⟩) (ak (fun γ => ⟨rfl, fun w' _ => ex_cv32 hm rfl rfl⟩) (ak (fun _ => ⟨rfl, fun _ _ => rfl⟩) (ak (fun γ => ⟨rfl, fun w' _ => ex_cv32 hn rfl rfl⟩) (ak (fun γ => ⟨rfl, fun w' _ => ex_addU (by omega) rfl rfl rfl⟩) (ak (fun γ => ⟨rfl, fun w' h => ⟨15, #[.int .i64 s, .agg (pt a.1 a.2.1 a.2.2).toArray, U (m + n)], exec_call rfl call15 rfl (mpn rfl), Mul_gr k oa (by omega) rfl w'⟩⟩) (ak (fun _ => ⟨rfl, fun _ _ => rfl⟩) (ak (by refine fun γ => ⟨rfl, fun w' h => ?_⟩; clear h; go_simp) (ak (by refine fun γ => ⟨rfl, fun w' h => ?_⟩; clear h; go_simp) (ak (fun γ => ⟨rfl, fun w' => ex_made25 rfl⟩) (ak (fun γ => ⟨rfl, rfl, rfl, fun w' h => ex_laidT h rfl rfl Try.sizeOf25 rfl rfl rfl⟩) (ak (fun _ => ⟨rfl, fun _ _ => rfl⟩) trivial)))))))))))))
  intro γ w14 l hM hl
  have H14 : Hid (Mm w14 [(γ 11, pt ((dN p a (m + n)).1) ((dN p a (m + n)).2.1) ((dN p a (m + n)).2.2)), (γ13_7, pt ((dN p a (m + n)).1) ((dN p a (m + n)).2.1) ((dN p a (m + n)).2.2)), (γ12_8, pt ((dN p a n).1) ((dN p a n).2.1) ((dN p a n).2.2)), (γ11_8, pt ((dN p a m).1) ((dN p a m).2.1) ((dN p a m).2.2)), (γ10_7, pt 0 0 true), (γ9_6, pt ((neP p a).1) ((neP p a).2.1) ((neP p a).2.2)), (γ8_7, pt ((dA p (dA p a b) d).1) ((dA p (dA p a b) d).2.1) ((dA p (dA p a b) d).2.2)), (γ7_7, pt ((dA p (dA p a b) d).1) ((dA p (dA p a b) d).2.1) ((dA p (dA p a b) d).2.2)), (γ6_7, pt ((dA p b d).1) ((dA p b d).2.1) ((dA p b d).2.2)), (γ5_7, pt ((dA p a b).1) ((dA p a b).2.1) ((dA p a b).2.2)), (γ4_7, pt ((dA p a b).1) ((dA p a b).2.1) ((dA p a b).2.2)), (γ1_0, pt a.1 a.2.1 a.2.2), (γ1_1, pt b.1 b.2.1 b.2.2), (γ1_2, pt d.1 d.2.1 d.2.2)] ∧ _) := growB H13 hM (Nat.le_refl _) hl [11] rfl (by decide)
  have o14_11 := ownB H13 hM (Nat.le_refl _) hl (i := 11) rfl
  clear hM hl l H13
  generalize γ 11 = γ14_11 at H14 o14_11 ⊢
  clear γ
  refine rest0 rfl (then_normal (wp_seq ?_))
  refine walk_seqA 11 [.quiet (.int .i64 s), .quiet (.agg (pt ((dN p a m).1) ((dN p a m).2.1) ((dN p a m).2.2)).toArray), .quiet (W32 n), .quiet (U n), .call (.tuple #[.agg (pt ((dN p a (m * n)).1) ((dN p a (m * n)).2.1) ((dN p a (m * n)).2.2)).toArray, .int .i64 0]), .quiet (.tuple #[.agg (pt ((dN p a (m * n)).1) ((dN p a (m * n)).2.1) ((dN p a (m * n)).2.2)).toArray, .int .i64 0]), .quiet (.agg (pt ((dN p a (m * n)).1) ((dN p a (m * n)).2.1) ((dN p a (m * n)).2.2)).toArray), .quiet (.int .i64 0), .made (pt 0 0 false) 25, .laid 8 (pt 0 0 false) (pt ((dN p a (m * n)).1) ((dN p a (m * n)).2.1) ((dN p a (m * n)).2.2)), .quiet (.int .i64 0)] (sB H14) ?ho15 ?he15 (hL := ?hL15)
  case hL15 => exact ⟨⟨_, rfl⟩, trivial⟩
  case ho15 => exact ak (fun _ => ⟨rfl, fun _ _ => rfl⟩) (ak (fun γ => ⟨rfl, fun w' h => ex_loadT h 3 rfl rfl rfl Try.isAgg25 Try.sizeOf25 rfl rfl⟩) (ak (fun _ => ⟨rfl, fun _ _ => rfl⟩) (ak (fun γ => ⟨rfl, fun w' _ => ex_cv32 hn rfl rfl⟩) (ak (fun γ => ⟨rfl, fun w' h => ⟨15, #[.int .i64 s, .agg (pt ((dN p a m).1) ((dN p a m).2.1) ((dN p a m).2.2)).toArray, U n], exec_call rfl call15 rfl (mpn rfl), Mul_gr k (dN_on k.fd oa m) (by omega) (dN_mul k.fd oa m n) w'⟩⟩) (ak (fun _ => ⟨rfl, fun _ _ => rfl⟩) (ak (by refine fun γ => ⟨rfl, fun w' h => ?_⟩; clear h; go_simp) (ak (by refine fun γ => ⟨rfl, fun w' h => ?_⟩; clear h; go_simp) (ak (fun γ => ⟨rfl, fun w' => ex_made25 rfl⟩) (ak (fun γ => ⟨rfl, rfl, rfl, fun w' h => ex_laidT h rfl rfl Try.sizeOf25 rfl rfl rfl⟩) (ak (fun _ => ⟨rfl, fun _ _ => rfl⟩) trivial))))))))))
  intro γ w15 l hM hl
  have H15 : Hid (Mm w15 [(γ 8, pt ((dN p a (m * n)).1) ((dN p a (m * n)).2.1) ((dN p a (m * n)).2.2)), (γ14_11, pt ((dN p a (m + n)).1) ((dN p a (m + n)).2.1) ((dN p a (m + n)).2.2)), (γ13_7, pt ((dN p a (m + n)).1) ((dN p a (m + n)).2.1) ((dN p a (m + n)).2.2)), (γ12_8, pt ((dN p a n).1) ((dN p a n).2.1) ((dN p a n).2.2)), (γ11_8, pt ((dN p a m).1) ((dN p a m).2.1) ((dN p a m).2.2)), (γ10_7, pt 0 0 true), (γ9_6, pt ((neP p a).1) ((neP p a).2.1) ((neP p a).2.2)), (γ8_7, pt ((dA p (dA p a b) d).1) ((dA p (dA p a b) d).2.1) ((dA p (dA p a b) d).2.2)), (γ7_7, pt ((dA p (dA p a b) d).1) ((dA p (dA p a b) d).2.1) ((dA p (dA p a b) d).2.2)), (γ6_7, pt ((dA p b d).1) ((dA p b d).2.1) ((dA p b d).2.2)), (γ5_7, pt ((dA p a b).1) ((dA p a b).2.1) ((dA p a b).2.2)), (γ4_7, pt ((dA p a b).1) ((dA p a b).2.1) ((dA p a b).2.2)), (γ1_0, pt a.1 a.2.1 a.2.2), (γ1_1, pt b.1 b.2.1 b.2.2), (γ1_2, pt d.1 d.2.1 d.2.2)] ∧ _) := growB H14 hM (Nat.le_refl _) hl [8] rfl (by decide)
  have o15_8 := ownB H14 hM (Nat.le_refl _) hl (i := 8) rfl
  clear hM hl l H14
  generalize γ 8 = γ15_8 at H15 o15_8 ⊢
  clear γ
  refine rest0 rfl (then_normal (wp_seq ?_))
  refine walk_seqA 14 [.quiet (.int .i64 s), .quiet (.agg (pt a.1 a.2.1 a.2.2).toArray), .quiet (W32 m), .quiet (U m), .quiet (W32 n), .quiet (U n), .quiet (U (m * n)), .call (.tuple #[.agg (pt ((dN p a (m * n)).1) ((dN p a (m * n)).2.1) ((dN p a (m * n)).2.2)).toArray, .int .i64 0]), .quiet (.tuple #[.agg (pt ((dN p a (m * n)).1) ((dN p a (m * n)).2.1) ((dN p a (m * n)).2.2)).toArray, .int .i64 0]), .quiet (.agg (pt ((dN p a (m * n)).1) ((dN p a (m * n)).2.1) ((dN p a (m * n)).2.2)).toArray), .quiet (.int .i64 0), .made (pt 0 0 false) 25, .laid 11 (pt 0 0 false) (pt ((dN p a (m * n)).1) ((dN p a (m * n)).2.1) ((dN p a (m * n)).2.2)), .quiet (.int .i64 0)] (sB H15) ?ho16 ?he16 (hL := ?hL16)
  case hL16 => exact ⟨⟨_, rfl⟩, trivial⟩
  case ho16 => exact ak (fun _ => ⟨rfl, fun _ _ => rfl⟩) (ak (fun γ => ⟨rfl, fun w' h => ex_loadT h 12 rfl rfl rfl Try.isAgg25 Try.sizeOf25 rfl rfl⟩) (ak (fun _ => ⟨rfl, fun _ _ => rfl⟩) (ak (fun γ => ⟨rfl, fun w' _ => ex_cv32 hm rfl rfl⟩) (ak (fun _ => ⟨rfl, fun _ _ => rfl⟩) (ak (fun γ => ⟨rfl, fun w' _ => ex_cv32 hn rfl rfl⟩) (ak (fun γ => ⟨rfl, fun w' _ => ex_mulU (mul32 hm hn) rfl rfl rfl⟩) (ak (fun γ => ⟨rfl, fun w' h => ⟨15, #[.int .i64 s, .agg (pt a.1 a.2.1 a.2.2).toArray, U (m * n)], exec_call rfl call15 rfl (mpn rfl), Mul_gr k oa (mul32 hm hn) rfl w'⟩⟩) (ak (fun _ => ⟨rfl, fun _ _ => rfl⟩) (ak (by refine fun γ => ⟨rfl, fun w' h => ?_⟩; clear h; go_simp) (ak (by refine fun γ => ⟨rfl, fun w' h => ?_⟩; clear h; go_simp) (ak (fun γ => ⟨rfl, fun w' => ex_made25 rfl⟩) (ak (fun γ => ⟨rfl, rfl, rfl, fun w' h => ex_laidT h rfl rfl Try.sizeOf25 rfl rfl rfl⟩) (ak (fun _ => ⟨rfl, fun _ _ => rfl⟩) trivial)))))))))))))
  intro γ w16 l hM hl
  have H16 : Hid (Mm w16 [(γ 11, pt ((dN p a (m * n)).1) ((dN p a (m * n)).2.1) ((dN p a (m * n)).2.2)), (γ15_8, pt ((dN p a (m * n)).1) ((dN p a (m * n)).2.1) ((dN p a (m * n)).2.2)), (γ14_11, pt ((dN p a (m + n)).1) ((dN p a (m + n)).2.1) ((dN p a (m + n)).2.2)), (γ13_7, pt ((dN p a (m + n)).1) ((dN p a (m + n)).2.1) ((dN p a (m + n)).2.2)), (γ12_8, pt ((dN p a n).1) ((dN p a n).2.1) ((dN p a n).2.2)), (γ11_8, pt ((dN p a m).1) ((dN p a m).2.1) ((dN p a m).2.2)), (γ10_7, pt 0 0 true), (γ9_6, pt ((neP p a).1) ((neP p a).2.1) ((neP p a).2.2)), (γ8_7, pt ((dA p (dA p a b) d).1) ((dA p (dA p a b) d).2.1) ((dA p (dA p a b) d).2.2)), (γ7_7, pt ((dA p (dA p a b) d).1) ((dA p (dA p a b) d).2.1) ((dA p (dA p a b) d).2.2)), (γ6_7, pt ((dA p b d).1) ((dA p b d).2.1) ((dA p b d).2.2)), (γ5_7, pt ((dA p a b).1) ((dA p a b).2.1) ((dA p a b).2.2)), (γ4_7, pt ((dA p a b).1) ((dA p a b).2.1) ((dA p a b).2.2)), (γ1_0, pt a.1 a.2.1 a.2.2), (γ1_1, pt b.1 b.2.1 b.2.2), (γ1_2, pt d.1 d.2.1 d.2.2)] ∧ _) := growB H15 hM (Nat.le_refl _) hl [11] rfl (by decide)
  have o16_11 := ownB H15 hM (Nat.le_refl _) hl (i := 11) rfl
  clear hM hl l H15
  generalize γ 11 = γ16_11 at H16 o16_11 ⊢
  clear γ
  refine rest0 rfl (then_normal (wp_seq ?_))
  refine walk_seqB 40 [.quiet (.bool true), .quiet (.bool true), .quiet (.int .i64 0), .quiet (.bool true), .quiet (.bool true), .quiet (.bool true), .quiet (.int .i64 0), .quiet (.bool true), .quiet (.bool true), .quiet (.bool true), .quiet (.agg (pt ((dA p a b).1) ((dA p a b).2.1) ((dA p a b).2.2)).toArray), .quiet (.agg (pt ((dA p a b).1) ((dA p a b).2.1) ((dA p a b).2.2)).toArray), .quiet (.bool true), .quiet (.bool true), .quiet (.bool true), .quiet (.agg (pt ((dA p (dA p a b) d).1) ((dA p (dA p a b) d).2.1) ((dA p (dA p a b) d).2.2)).toArray), .quiet (.agg (pt ((dA p (dA p a b) d).1) ((dA p (dA p a b) d).2.1) ((dA p (dA p a b) d).2.2)).toArray), .quiet (.bool true), .quiet (.bool true), .quiet (.bool true), .quiet (.agg (pt 0 0 true).toArray), .quiet (.agg (pt 0 0 true).toArray), .quiet (.bool true), .quiet (.bool true), .quiet (.bool true), .quiet (.agg (pt ((dN p a (m + n)).1) ((dN p a (m + n)).2.1) ((dN p a (m + n)).2.2)).toArray), .quiet (.agg (pt ((dN p a (m + n)).1) ((dN p a (m + n)).2.1) ((dN p a (m + n)).2.2)).toArray), .quiet (.bool true), .quiet (.bool true), .quiet (.bool true), .quiet (.agg (pt ((dN p a (m * n)).1) ((dN p a (m * n)).2.1) ((dN p a (m * n)).2.2)).toArray), .quiet (.agg (pt ((dN p a (m * n)).1) ((dN p a (m * n)).2.1) ((dN p a (m * n)).2.2)).toArray), .quiet (.bool true), .quiet (.bool true), .quiet (.bool true), .quiet (.int .i64 s), .quiet (.agg (pt ((dA p (dA p a b) d).1) ((dA p (dA p a b) d).2.1) ((dA p (dA p a b) d).2.2)).toArray), .call (.bool true), .quiet (.bool true), .quiet (.bool true)] H16 ?ho17 ?he17 (hL := ?hL17)
  case hL17 => exact trivial
  case ho17 => exact ak (fun _ => ⟨rfl, fun _ _ => rfl⟩) (ak (fun _ => ⟨rfl, fun _ _ => rfl⟩) (ak (fun _ => ⟨rfl, fun _ _ => rfl⟩) (ak (by refine fun γ => ⟨rfl, fun w' h => ?_⟩; clear h; go_simp) (ak (by refine fun γ => ⟨rfl, fun w' h => ?_⟩; clear h; go_simp) (ak (fun _ => ⟨rfl, fun _ _ => rfl⟩) (ak (fun _ => ⟨rfl, fun _ _ => rfl⟩) (ak (by refine fun γ => ⟨rfl, fun w' h => ?_⟩; clear h; go_simp) (ak (by refine fun γ => ⟨rfl, fun w' h => ?_⟩; clear h; go_simp) (ak (fun _ => ⟨rfl, fun _ _ => rfl⟩) (ak (fun γ => ⟨rfl, fun w' h => ex_loadT h 12 rfl rfl rfl Try.isAgg25 Try.sizeOf25 rfl rfl⟩) (ak (fun γ => ⟨rfl, fun w' h => ex_loadT h 11 rfl rfl rfl Try.isAgg25 Try.sizeOf25 rfl rfl⟩) (ak (fun γ => ⟨rfl, fun w' _ => exec_eqT25 (fun w => eq_self _ _ _ w) rfl rfl rfl⟩) (ak (by refine fun γ => ⟨rfl, fun w' h => ?_⟩; clear h; go_simp) (ak (fun _ => ⟨rfl, fun _ _ => rfl⟩) (ak (fun γ => ⟨rfl, fun w' h => ex_loadT h 9 rfl rfl rfl Try.isAgg25 Try.sizeOf25 rfl rfl⟩) (ak (fun γ => ⟨rfl, fun w' h => ex_loadT h 8 rfl rfl rfl Try.isAgg25 Try.sizeOf25 rfl rfl⟩) (ak (fun γ => ⟨rfl, fun w' _ => exec_eqT25 (fun w => eq_self _ _ _ w) rfl rfl rfl⟩) (ak (by refine fun γ => ⟨rfl, fun w' h => ?_⟩; clear h; go_simp) (ak (fun _ => ⟨rfl, fun _ _ => rfl⟩) (ak (fun γ => ⟨rfl, fun w' h => ex_loadT h 6 rfl rfl rfl Try.isAgg25 Try.sizeOf25 rfl rfl⟩) (ak (fun γ => ⟨rfl, fun w' _ => ex_build25_2 rfl rfl⟩) (ak (fun γ => ⟨rfl, fun w' _ => exec_eqT25 (fun w => eq_self _ _ _ w) rfl rfl rfl⟩) (ak (by refine fun γ => ⟨rfl, fun w' h => ?_⟩; clear h; go_simp) (ak (fun _ => ⟨rfl, fun _ _ => rfl⟩) (ak (fun γ => ⟨rfl, fun w' h => ex_loadT h 3 rfl rfl rfl Try.isAgg25 Try.sizeOf25 rfl rfl⟩) (ak (fun γ => ⟨rfl, fun w' h => ex_loadT h 2 rfl rfl rfl Try.isAgg25 Try.sizeOf25 rfl rfl⟩) (ak (fun γ => ⟨rfl, fun w' _ => exec_eqT25 (fun w => eq_self _ _ _ w) rfl rfl rfl⟩) (ak (by refine fun γ => ⟨rfl, fun w' h => ?_⟩; clear h; go_simp) (ak (fun _ => ⟨rfl, fun _ _ => rfl⟩) (ak (fun γ => ⟨rfl, fun w' h => ex_loadT h 1 rfl rfl rfl Try.isAgg25 Try.sizeOf25 rfl rfl⟩) (ak (fun γ => ⟨rfl, fun w' h => ex_loadT h 0 rfl rfl rfl Try.isAgg25 Try.sizeOf25 rfl rfl⟩) (ak (fun γ => ⟨rfl, fun w' _ => exec_eqT25 (fun w => eq_self _ _ _ w) rfl rfl rfl⟩) (ak (by refine fun γ => ⟨rfl, fun w' h => ?_⟩; clear h; go_simp) (ak (fun _ => ⟨rfl, fun _ _ => rfl⟩) (ak (fun _ => ⟨rfl, fun _ _ => rfl⟩) (ak (fun γ => ⟨rfl, fun w' h => ex_loadT h 9 rfl rfl rfl Try.isAgg25 Try.sizeOf25 rfl rfl⟩) (ak (fun γ => ⟨rfl, fun w' h => ⟨19, #[.int .i64 s, .agg (pt ((dA p (dA p a b) d).1) ((dA p (dA p a b) d).2.1) ((dA p (dA p a b) d).2.2)).toArray], exec_call rfl call19 rfl (mpn rfl), Check_gr k (dA p (dA p a b) d) _ (oc_of k.q.k.pr (on_add k.q.k.pr k.q.prm (on_add k.q.k.pr k.q.prm oa ob) od)) w'⟩⟩) (ak (by refine fun γ => ⟨rfl, fun w' h => ?_⟩; clear h; go_simp) (ak (fun _ => ⟨rfl, fun _ _ => rfl⟩) trivial)))))))))))))))))))))))))))))))))))))))
  intro _ w17 H17
  clear H16
  refine rest0 rfl (then_normal (wp_ret ?_))
  repeat (first | refine then_ret ?_ | refine block_ret ?_)
  refine bodyPost_ret (v := .bool true) (by simp [results, Try.results6, go_sem, *]) rfl ?_
  exact ⟨rfl, H17.out.2⟩
theorem group_kf (k : Kf s p r c gx gy) (a b d : P3) (m n : Nat) (hm : m < 4294967296) (hn : n < 4294967296) (w : World) : Calls Try.prog 6 #[.int .i64 s, .agg (pt a.1 a.2.1 a.2.2).toArray, .agg (pt b.1 b.2.1 b.2.2).toArray, .agg (pt d.1 d.2.1 d.2.2).toArray, W32 m, W32 n] w fun e w' => e = .returned (.bool true) ∧ Below w.heap.size w w' := by
  have := k.q.ne
  cases ha : oc p a.1 a.2.1 a.2.2
  · exact group_f k a b d m n ha w
  · cases hb : oc p b.1 b.2.1 b.2.2
    · exact group_tf k a b d m n ha hb w
    · cases hd : oc p d.1 d.2.1 d.2.2
      · exact group_ttf k a b d m n ha hb hd w
      · exact group_ttt k a b d m n hm hn ha (on_of k.q.k.pr ha) hb (on_of k.q.k.pr hb) hd (on_of k.q.k.pr hd) w
end
theorem group_any (s : Int) (X Y : Nat) (Z : Bool) (X' Y' : Nat) (Z' : Bool) (X3 Y3 : Nat) (Z3 : Bool) (m : Nat) (hm : m < 4294967296) (n : Nat) (hn : n < 4294967296) (w : World) : Calls Try.prog 6 #[.int .i64 s, .agg (pt X Y Z).toArray, .agg (pt X' Y' Z').toArray, .agg (pt X3 Y3 Z3).toArray, W32 m, W32 n] w fun e w' => e = .returned (.bool true) ∧ Below w.heap.size w w' := by
  by_cases h1 : s = 1
  · subst h1; exact group_kf kf_1 (X, Y, Z) (X', Y', Z') (X3, Y3, Z3) m n hm hn w
  · by_cases h2 : s = 2
    · subst h2; exact group_kf kf_2 (X, Y, Z) (X', Y', Z') (X3, Y3, Z3) m n hm hn w
    · exact group_no s h1 h2 (X, Y, Z) (X', Y', Z') (X3, Y3, Z3) m n w
end Rg
end Go.Proofs.Ytjmbgchoioepjaa
