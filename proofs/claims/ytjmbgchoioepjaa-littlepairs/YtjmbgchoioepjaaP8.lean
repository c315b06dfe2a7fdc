/- Texts of the proof, joined. -/
import Derived.Test.YtjmbgchoioepjaaP7
import Derived.ProofKit
import Derived.OpenShut
import Derived.Test.YtjmbgchoioepjaaRows
section
namespace Go.Proofs.Ytjmbgchoioepjaa
open Go.RowKit
namespace Rg
open NT
theorem eqL_self (x y : Nat) (w : World) : (Op.equalIn 10000 49 (V (l2 x y)) (V (l2 x y))).run Try.prog w = .ok true w := by
  rw [run_eqL x y x y w, decide_eq_true rfl, decide_eq_true rfl]
  rfl
theorem exec_neqT49 {ρ : Operand → Value} {o : Oper} {x y : Operand} {v v' : Array Value} {t : Bool} {w : World} (he : ∀ w, (Op.equalIn 10000 49 (.agg v) (.agg v')).run Try.prog w = .ok t w) (ho : o.op = .binOp .neq 49 x y 49) (hx : ρ x = .agg v) (hy : ρ y = .agg v') :
    (execOp ρ o).run Try.prog w = .ok (.value (.bool (!t))) w := by
  simp only [execOp, ho, hx, hy]
  clear hx hy
  go_simp
/-- A suite whose order is an odd prime. -/
structure Kr (s : Int) (p r c gx gy : Nat) : Prop where
  f : Kf s p r c gx gy
  pr : Prm r
  odd : r % 2 = 1
theorem kr_1 : Kr 1 786251 65521 12 9723 164643 := ⟨kf_1, prm_65521, by decide⟩
theorem kr_2 : Kr 2 1152921504606846223 72057594037927889 16 613740293506734924 666621259561003659 := ⟨kf_2, prm_72057594037927889, by decide⟩
theorem call28 : ∀ args w, (callFunc 28 args).run Try.prog w = .ok (.enter 28 args) w := by intro args w; go_simp
theorem call29 : ∀ args w, (callFunc 29 args).run Try.prog w = .ok (.enter 29 args) w := by intro args w; go_simp
theorem call31 : ∀ args w, (callFunc 31 args).run Try.prog w = .ok (.enter 31 args) w := by intro args w; go_simp
theorem call33 : ∀ args w, (callFunc 33 args).run Try.prog w = .ok (.enter 33 args) w := by intro args w; go_simp
section
variable {s : Int} {p r c gx gy : Nat}
theorem In_ig (k : Kr s p r c gx gy) (X Y : Nat) (Z t : Bool) (h : ig p r X Y Z = t) (w : World) : Calls Try.prog 23 #[.agg (kd p r c gx gy).toArray, .agg (pt X Y Z).toArray] w fun e w' => e = .returned (.bool t) ∧ Below w.heap.size w w' := by
  have := k.f.q.ne
  rw [ig_is k.f.fd.pr k.f.fd.prm] at h
  rw [← h]
  exact dIn_any k.f.q.k.pr k.f.q.k.rb X Y Z w
theorem Pair_doc (k : Kr s p r c gx gy) (X Y : Nat) (Z : Bool) (X' Y' : Nat) (Z' : Bool) (h1 : ig p r X Y Z = true) (h2 : ig p r X' Y' Z' = true) (w : World) : Calls Try.prog 27 #[.int .i64 s, .agg (pt X Y Z).toArray, .agg (pt X' Y' Z').toArray] w fun e w' => e = .returned (.tuple #[V (lc (dpr p r c X Y X' Y' Z Z')), .int .i64 0]) ∧ Below w.heap.size w w' := by
  have := k.f.q.ne
  have F := k.f.fd
  have hd := h1
  rw [ig_is F.pr F.prm] at hd
  unfold di at hd
  rw [Bool.and_eq_true] at hd
  have ho := on_of F.pr hd.1
  have hz := hd.2
  rw [dM_dN F ho r k.f.q.k.rb] at hz
  rw [← pr_is F k.pr k.odd ho ((dN_on F ho r).zr hz) X' Y' Z' c k.f.q.k.cb]
  exact Pair_ok k.f.q.k X Y Z X' Y' Z' (by rw [h1, h2]; rfl) w
theorem Power_doc (k : Kr s p r c gx gy) (a : E2) (n : Nat) (hn : n < 18446744073709551616) (w : World) : Calls Try.prog 29 #[.int .i64 s, .agg (l2 a.1 a.2).toArray, U n] w fun e w' => e = .returned (.tuple #[V (lc (po p (a.1 % p, a.2 % p) n)), .int .i64 0]) ∧ Below w.heap.size w w' := by
  have := k.f.q.ne
  rw [← rs_po k.f.q.k.pr (a := (a.1 % p, a.2 % p)) ⟨(Nat.mod_lt _ (zero_lt k.f.q.k.pr)), (Nat.mod_lt _ (zero_lt k.f.q.k.pr))⟩ n hn]
  exact Power_ok k.f.q.k a n hn w
set_option maxHeartbeats 4000000 in
set_option maxRecDepth 100000 in
theorem pairs_f (k : Kr s p r c gx gy) (X Y : Nat) (Z : Bool) (X' Y' : Nat) (Z' : Bool) (a b : E2) (n : Nat) (hn : n < 18446744073709551616) (h1 : ig p r X Y Z = false) (w : World) :
    Calls Try.prog 4 #[.int .i64 s, .agg (pt X Y Z).toArray, .agg (pt X' Y' Z').toArray, .agg (l2 a.1 a.2).toArray, .agg (l2 b.1 b.2).toArray, U n] w fun e w' => e = .returned (.bool true) ∧ Below w.heap.size w w' := by
  have H0 : Hid (_ ∧ _) := ⟨Mm.nil w, Below.refl w.heap.size w⟩
  go_enter Try.func4, Try.ntmps4
  refine wp_seq ?_
  refine walk_seqA 5 [.made (pt X Y Z) 25, .made (pt X' Y' Z') 25, .made (l2 a.1 a.2) 49, .made (l2 b.1 b.2) 49, .quiet (.bool false)] (sB H0) ?ho1 ?he1
  case ho1 => exact ak (fun γ => ⟨rfl, fun w' => ex_boxT rfl rfl⟩) (ak (fun γ => ⟨rfl, fun w' => ex_boxT rfl rfl⟩) (ak (fun γ => ⟨rfl, fun w' => ex_boxT rfl rfl⟩) (ak (fun γ => ⟨rfl, fun w' => ex_boxT rfl rfl⟩) (ak (fun _ => ⟨rfl, fun _ _ => rfl⟩) trivial))))
  intro γ w1 l hM hl
  have H1 : Hid (Mm w1 [(γ 0, pt X Y Z), (γ 1, pt X' Y' Z'), (γ 2, l2 a.1 a.2), (γ 3, l2 b.1 b.2)] ∧ _) := growB H0 hM (Nat.le_refl _) hl [0, 1, 2, 3] rfl (by decide)
  have o1_0 := ownB H0 hM (Nat.le_refl _) hl (i := 0) rfl
  have o1_1 := ownB H0 hM (Nat.le_refl _) hl (i := 1) rfl
  have o1_2 := ownB H0 hM (Nat.le_refl _) hl (i := 2) rfl
  have o1_3 := ownB H0 hM (Nat.le_refl _) hl (i := 3) rfl
  clear hM hl l
  generalize γ 0 = γ1_0 at H1 o1_0 ⊢
  generalize γ 1 = γ1_1 at H1 o1_1 ⊢
  generalize γ 2 = γ1_2 at H1 o1_2 ⊢
  generalize γ 3 = γ1_3 at H1 o1_3 ⊢
  clear γ
  refine rest0 rfl (then_normal (wp_seq ?_))
  refine walk_seqA 8 [.quiet (.int .i64 s), .call (.tuple #[.agg (kd p r c gx gy).toArray, .bool true]), .quiet (.tuple #[.agg (kd p r c gx gy).toArray, .bool true]), .quiet (.agg (kd p r c gx gy).toArray), .quiet (.bool true), .made (kd 0 0 0 0 0) 27, .laid 5 (kd 0 0 0 0 0) (kd p r c gx gy), .quiet (.bool true)] (sB H1) ?ho2 ?he2 (hL := ?hL2)
  case hL2 => exact ⟨⟨_, rfl⟩, trivial⟩
  case ho2 => exact ak (fun _ => ⟨rfl, fun _ _ => rfl⟩) (ak (fun γ => ⟨rfl, fun w' h => ⟨10, #[.int .i64 s], exec_call rfl call10 rfl (mpn rfl), k.f.q.of w'⟩⟩) (ak (fun _ => ⟨rfl, fun _ _ => rfl⟩) (ak (by refine fun γ => ⟨rfl, fun w' h => ?_⟩; clear h; go_simp) (ak (by refine fun γ => ⟨rfl, fun w' h => ?_⟩; clear h; go_simp) (ak (fun γ => ⟨rfl, fun w' => ex_made27 rfl⟩) (ak (fun γ => ⟨rfl, rfl, rfl, fun w' h => ex_laidT h rfl rfl Try.sizeOf27 rfl rfl rfl⟩) (ak (fun _ => ⟨rfl, fun _ _ => rfl⟩) trivial)))))))
  intro γ w2 l hM hl
  have H2 : Hid (Mm w2 [(γ 5, kd p r c gx gy), (γ1_0, pt X Y Z), (γ1_1, pt X' Y' Z'), (γ1_2, l2 a.1 a.2), (γ1_3, l2 b.1 b.2)] ∧ _) := growB H1 hM (Nat.le_refl _) hl [5] rfl (by decide)
  have o2_5 := ownB H1 hM (Nat.le_refl _) hl (i := 5) rfl
  clear hM hl l H1
  generalize γ 5 = γ2_5 at H2 o2_5 ⊢
  clear γ
  refine rest0 rfl (then_normal (wp_seq ?_))
  refine walk_seqA 10 [.quiet (.int .i64 s), .quiet (.agg (pt X Y Z).toArray), .quiet (.agg (pt X' Y' Z').toArray), .call (.tuple #[.agg (l2 0 0).toArray, .int .i64 5]), .quiet (.tuple #[.agg (l2 0 0).toArray, .int .i64 5]), .quiet (.agg (l2 0 0).toArray), .quiet (.int .i64 5), .made (l2 0 0) 49, .laid 7 (l2 0 0) (l2 0 0), .quiet (.int .i64 5)] (sB H2) ?ho3 ?he3 (hL := ?hL3)
  case hL3 => exact ⟨⟨_, rfl⟩, trivial⟩
  case ho3 => exact ak (fun _ => ⟨rfl, fun _ _ => rfl⟩) (ak (fun γ => ⟨rfl, fun w' h => ex_loadT h 1 rfl rfl rfl Try.isAgg25 Try.sizeOf25 rfl rfl⟩) (ak (fun γ => ⟨rfl, fun w' h => ex_loadT h 2 rfl rfl rfl Try.isAgg25 Try.sizeOf25 rfl rfl⟩) (ak (fun γ => ⟨rfl, fun w' h => ⟨27, #[.int .i64 s, .agg (pt X Y Z).toArray, .agg (pt X' Y' Z').toArray], exec_call rfl call27 rfl (mpn rfl), Pair_pt k.f.q.k X Y Z X' Y' Z' (by rw [h1]; rfl) w'⟩⟩) (ak (fun _ => ⟨rfl, fun _ _ => rfl⟩) (ak (by refine fun γ => ⟨rfl, fun w' h => ?_⟩; clear h; go_simp) (ak (by refine fun γ => ⟨rfl, fun w' h => ?_⟩; clear h; go_simp) (ak (fun γ => ⟨rfl, fun w' => ex_made49 rfl⟩) (ak (fun γ => ⟨rfl, rfl, rfl, fun w' h => ex_laidT h rfl rfl Try.sizeOf49 rfl rfl rfl⟩) (ak (fun _ => ⟨rfl, fun _ _ => rfl⟩) trivial)))))))))
  intro γ w3 l hM hl
  have H3 : Hid (Mm w3 [(γ 7, l2 0 0), (γ2_5, kd p r c gx gy), (γ1_0, pt X Y Z), (γ1_1, pt X' Y' Z'), (γ1_2, l2 a.1 a.2), (γ1_3, l2 b.1 b.2)] ∧ _) := growB H2 hM (Nat.le_refl _) hl [7] rfl (by decide)
  have o3_7 := ownB H2 hM (Nat.le_refl _) hl (i := 7) rfl
  clear hM hl l H2
  generalize γ 7 = γ3_7 at H3 o3_7 ⊢
  clear γ
  refine rest0 rfl (then_normal (wp_seq ?_))
  refine walk_seqA 10 [.quiet (.int .i64 s), .quiet (.agg (l2 a.1 a.2).toArray), .quiet (.agg (l2 b.1 b.2).toArray), .call (.tuple #[.agg (l2 ((pd p (a.1 % p, a.2 % p) (b.1 % p, b.2 % p)).1) ((pd p (a.1 % p, a.2 % p) (b.1 % p, b.2 % p)).2)).toArray, .int .i64 0]), .quiet (.tuple #[.agg (l2 ((pd p (a.1 % p, a.2 % p) (b.1 % p, b.2 % p)).1) ((pd p (a.1 % p, a.2 % p) (b.1 % p, b.2 % p)).2)).toArray, .int .i64 0]), .quiet (.agg (l2 ((pd p (a.1 % p, a.2 % p) (b.1 % p, b.2 % p)).1) ((pd p (a.1 % p, a.2 % p) (b.1 % p, b.2 % p)).2)).toArray), .quiet (.int .i64 0), .made (l2 0 0) 49, .laid 7 (l2 0 0) (l2 ((pd p (a.1 % p, a.2 % p) (b.1 % p, b.2 % p)).1) ((pd p (a.1 % p, a.2 % p) (b.1 % p, b.2 % p)).2)), .quiet (.int .i64 0)] (sB H3) ?ho4 ?he4 (hL := ?hL4)
  case hL4 => exact ⟨⟨_, rfl⟩, trivial⟩
  case ho4 => exact ak (fun _ => ⟨rfl, fun _ _ => rfl⟩) (ak (fun γ => ⟨rfl, fun w' h => ex_loadT h 4 rfl rfl rfl Try.isAgg49 Try.sizeOf49 rfl rfl⟩) (ak (fun γ => ⟨rfl, fun w' h => ex_loadT h 5 rfl rfl rfl Try.isAgg49 Try.sizeOf49 rfl rfl⟩) (ak (fun γ => ⟨rfl, fun w' h => ⟨28, #[.int .i64 s, .agg (l2 a.1 a.2).toArray, .agg (l2 b.1 b.2).toArray], exec_call rfl call28 rfl (mpn rfl), Times_ok k.f.q.k a b w'⟩⟩) (ak (fun _ => ⟨rfl, fun _ _ => rfl⟩) (ak (by refine fun γ => ⟨rfl, fun w' h => ?_⟩; clear h; go_simp) (ak (by refine fun γ => ⟨rfl, fun w' h => ?_⟩; clear h; go_simp) (ak (fun γ => ⟨rfl, fun w' => ex_made49 rfl⟩) (ak (fun γ => ⟨rfl, rfl, rfl, fun w' h => ex_laidT h rfl rfl Try.sizeOf49 rfl rfl rfl⟩) (ak (fun _ => ⟨rfl, fun _ _ => rfl⟩) trivial)))))))))
  intro γ w4 l hM hl
  have H4 : Hid (Mm w4 [(γ 7, l2 ((pd p (a.1 % p, a.2 % p) (b.1 % p, b.2 % p)).1) ((pd p (a.1 % p, a.2 % p) (b.1 % p, b.2 % p)).2)), (γ3_7, l2 0 0), (γ2_5, kd p r c gx gy), (γ1_0, pt X Y Z), (γ1_1, pt X' Y' Z'), (γ1_2, l2 a.1 a.2), (γ1_3, l2 b.1 b.2)] ∧ _) := growB H3 hM (Nat.le_refl _) hl [7] rfl (by decide)
  have o4_7 := ownB H3 hM (Nat.le_refl _) hl (i := 7) rfl
  clear hM hl l H3
  generalize γ 7 = γ4_7 at H4 o4_7 ⊢
  clear γ
  refine rest0 rfl (then_normal (wp_seq ?_))
  refine walk_seqA 10 [.quiet (.int .i64 s), .quiet (.agg (l2 a.1 a.2).toArray), .quiet (U n), .call (.tuple #[.agg (l2 ((po p (a.1 % p, a.2 % p) n).1) ((po p (a.1 % p, a.2 % p) n).2)).toArray, .int .i64 0]), .quiet (.tuple #[.agg (l2 ((po p (a.1 % p, a.2 % p) n).1) ((po p (a.1 % p, a.2 % p) n).2)).toArray, .int .i64 0]), .quiet (.agg (l2 ((po p (a.1 % p, a.2 % p) n).1) ((po p (a.1 % p, a.2 % p) n).2)).toArray), .quiet (.int .i64 0), .made (l2 0 0) 49, .laid 7 (l2 0 0) (l2 ((po p (a.1 % p, a.2 % p) n).1) ((po p (a.1 % p, a.2 % p) n).2)), .quiet (.int .i64 0)] (sB H4) ?ho5 ?he5 (hL := ?hL5)
  case hL5 => exact ⟨⟨_, rfl⟩, trivial⟩
  case ho5 => exact ak (fun _ => ⟨rfl, fun _ _ => rfl⟩) (ak (fun γ => ⟨rfl, fun w' h => ex_loadT h 5 rfl rfl rfl Try.isAgg49 Try.sizeOf49 rfl rfl⟩) (ak (fun _ => ⟨rfl, fun _ _ => rfl⟩) (ak (fun γ => ⟨rfl, fun w' h => ⟨29, #[.int .i64 s, .agg (l2 a.1 a.2).toArray, U n], exec_call rfl call29 rfl (mpn rfl), Power_doc k a n hn w'⟩⟩) (ak (fun _ => ⟨rfl, fun _ _ => rfl⟩) (ak (by refine fun γ => ⟨rfl, fun w' h => ?_⟩; clear h; go_simp) (ak (by refine fun γ => ⟨rfl, fun w' h => ?_⟩; clear h; go_simp) (ak (fun γ => ⟨rfl, fun w' => ex_made49 rfl⟩) (ak (fun γ => ⟨rfl, rfl, rfl, fun w' h => ex_laidT h rfl rfl Try.sizeOf49 rfl rfl rfl⟩) (ak (fun _ => ⟨rfl, fun _ _ => rfl⟩) trivial)))))))))
  intro γ w5 l hM hl
  have H5 : Hid (Mm w5 [(γ 7, l2 ((po p (a.1 % p, a.2 % p) n).1) ((po p (a.1 % p, a.2 % p) n).2)), (γ4_7, l2 ((pd p (a.1 % p, a.2 % p) (b.1 % p, b.2 % p)).1) ((pd p (a.1 % p, a.2 % p) (b.1 % p, b.2 % p)).2)), (γ3_7, l2 0 0), (γ2_5, kd p r c gx gy), (γ1_0, pt X Y Z), (γ1_1, pt X' Y' Z'), (γ1_2, l2 a.1 a.2), (γ1_3, l2 b.1 b.2)] ∧ _) := growB H4 hM (Nat.le_refl _) hl [7] rfl (by decide)
  have o5_7 := ownB H4 hM (Nat.le_refl _) hl (i := 7) rfl
  clear hM hl l H4
  generalize γ 7 = γ5_7 at H5 o5_7 ⊢
  clear γ
  refine rest0 rfl (then_normal (wp_seq ?_))
  refine walk_seqA 1 [.made (l2 0 0) 49] (sB H5) ?ho6 ?he6
  case ho6 => exact ak (fun γ => ⟨rfl, fun w' => ex_made49 rfl⟩) trivial
  intro γ w6 l hM hl
  have H6 : Hid (Mm w6 [(γ 0, l2 0 0), (γ5_7, l2 ((po p (a.1 % p, a.2 % p) n).1) ((po p (a.1 % p, a.2 % p) n).2)), (γ4_7, l2 ((pd p (a.1 % p, a.2 % p) (b.1 % p, b.2 % p)).1) ((pd p (a.1 % p, a.2 % p) (b.1 % p, b.2 % p)).2)), (γ3_7, l2 0 0), (γ2_5, kd p r c gx gy), (γ1_0, pt X Y Z), (γ1_1, pt X' Y' Z'), (γ1_2, l2 a.1 a.2), (γ1_3, l2 b.1 b.2)] ∧ _) := growB H5 hM (Nat.le_refl _) hl [0] rfl (by decide)
  have o6_0 := ownB H5 hM (Nat.le_refl _) hl (i := 0) rfl
  clear hM hl l H5
  generalize γ 0 = γ6_0 at H6 o6_0 ⊢
  clear γ
  refine rest0 rfl (then_normal (wp_seq (wp_seq ?_)))
  refine walk_seqB 2 [.quiet (.bool true), .quiet (.bool false)] H6 ?ho7 ?he7
  case ho7 => exact ak (fun _ => ⟨rfl, fun _ _ => rfl⟩) (ak (by refine fun γ => ⟨rfl, fun w' h => ?_⟩; clear h; go_simp) trivial)
  intro _ w7 H7
  clear H6
  refine rest0 rfl (then_normal (wp_cond_false rfl ?_))
  refine wp_skip (then_normal ?_)
  refine wp_seq (wp_seq ?_)
  refine walk_anyB 28 [.quiet (.agg (l2 ((pd p (a.1 % p, a.2 % p) (b.1 % p, b.2 % p)).1) ((pd p (a.1 % p, a.2 % p) (b.1 % p, b.2 % p)).2)).toArray), .quiet (.agg (kd p r c gx gy).toArray), .quiet (.agg (kd p r c gx gy).toArray), .quiet (.agg (l2 a.1 a.2).toArray), .call (.agg (l2 (a.1 % p) (a.2 % p)).toArray), .quiet (.agg (kd p r c gx gy).toArray), .quiet (.agg (l2 b.1 b.2).toArray), .call (.agg (l2 (b.1 % p) (b.2 % p)).toArray), .call (.agg (l2 ((pd p (a.1 % p, a.2 % p) (b.1 % p, b.2 % p)).1) ((pd p (a.1 % p, a.2 % p) (b.1 % p, b.2 % p)).2)).toArray), .quiet (.bool false), .quiet (.bool false), .quiet (.int .i64 0), .quiet (.bool false), .quiet (.bool false), .quiet (.bool false), .quiet (.agg (l2 ((po p (a.1 % p, a.2 % p) n).1) ((po p (a.1 % p, a.2 % p) n).2)).toArray), .quiet (.agg (kd p r c gx gy).toArray), .quiet (.agg (kd p r c gx gy).toArray), .quiet (.agg (l2 a.1 a.2).toArray), .call (.agg (l2 (a.1 % p) (a.2 % p)).toArray), .quiet (U n), .call (.agg (l2 ((po p (a.1 % p, a.2 % p) n).1) ((po p (a.1 % p, a.2 % p) n).2)).toArray), .quiet (.bool false), .quiet (.bool false), .quiet (.bool false), .quiet (.int .i64 0), .quiet (.bool false), .quiet (.bool false)] H7 ?ho8 ?he8 (hL := ?hL8)
  case hL8 => exact trivial
  case ho8 => exact ak (fun γ => ⟨rfl, fun w' h => ex_loadT h 2 rfl rfl rfl Try.isAgg49 Try.sizeOf49 rfl rfl⟩) (ak (fun γ => ⟨rfl, fun w' h => ex_loadT h 4 rfl rfl rfl Try.isAgg27 Try.sizeOf27 rfl rfl⟩) (ak (fun γ => ⟨rfl, fun w' h => ex_loadT h 4 rfl rfl rfl Try.isAgg27 Try.sizeOf27 rfl rfl⟩) (ak (fun γ => ⟨rfl, fun w' h => ex_loadT h 7 rfl rfl rfl Try.isAgg49 Try.sizeOf49 rfl rfl⟩) (ak (fun γ => ⟨rfl, fun w' h => ⟨31, #[.agg (kd p r c gx gy).toArray, .agg (l2 a.1 a.2).toArray], exec_call rfl call31 rfl (mpn rfl), dOf2_any k.f.q.k.pr a w'⟩⟩) (ak (fun γ => ⟨rfl, fun w' h => ex_loadT h 4 rfl rfl rfl Try.isAgg27 Try.sizeOf27 rfl rfl⟩) (ak (fun γ => ⟨rfl, fun w' h => ex_loadT h 8 rfl rfl rfl Try.isAgg49 Try.sizeOf49 rfl rfl⟩) (ak (fun γ => ⟨rfl, fun w' h => ⟨31, #[.agg (kd p r c gx gy).toArray, .agg (l2 b.1 b.2).toArray], exec_call rfl call31 rfl (mpn rfl), dOf2_any k.f.q.k.pr b w'⟩⟩) (ak (fun γ => ⟨rfl, fun w' h => ⟨30, #[.agg (kd p r c gx gy).toArray, .agg (l2 (a.1 % p) (a.2 % p)).toArray, .agg (l2 (b.1 % p) (b.2 % p)).toArray], exec_call rfl call30 rfl (mpn rfl), dTimes_any k.f.q.k.pr (a.1 % p, a.2 % p) (b.1 % p, b.2 % p) ⟨(Nat.mod_lt _ (zero_lt k.f.q.k.pr)), (Nat.mod_lt _ (zero_lt k.f.q.k.pr))⟩ ⟨(Nat.mod_lt _ (zero_lt k.f.q.k.pr)), (Nat.mod_lt _ (zero_lt k.f.q.k.pr))⟩ w'⟩⟩) (ak (fun γ => ⟨rfl, fun w' _ => exec_neqT49 (fun w => eqL_self _ _ w) rfl rfl rfl⟩) (ak (fun _ => ⟨rfl, fun _ _ => rfl⟩) (ak (fun _ => ⟨rfl, fun _ _ => rfl⟩) (ak (by refine fun γ => ⟨rfl, fun w' h => ?_⟩; clear h; go_simp) (ak (by refine fun γ => ⟨rfl, fun w' h => ?_⟩; clear h; go_simp) (ak (fun _ => ⟨rfl, fun _ _ => rfl⟩) (ak (fun γ => ⟨rfl, fun w' h => ex_loadT h 1 rfl rfl rfl Try.isAgg49 Try.sizeOf49 rfl rfl⟩) (ak (fun γ => ⟨rfl, fun w' h => ex_loadT h 4 rfl rfl rfl Try.isAgg27 Try.sizeOf27 rfl rfl⟩) (ak (fun γ => ⟨rfl, fun w' h => ex_loadT h 4 rfl rfl rfl Try.isAgg27 Try.sizeOf27 rfl rfl⟩) (ak (fun γ => ⟨rfl, fun w' h => ex_loadT h 7 rfl rfl rfl Try.isAgg49 Try.sizeOf49 rfl rfl⟩) (ak (fun γ => ⟨rfl, fun w' h => ⟨31, #[.agg (kd p r c gx gy).toArray, .agg (l2 a.1 a.2).toArray], exec_call rfl call31 rfl (mpn rfl), dOf2_any k.f.q.k.pr a w'⟩⟩) (ak (fun _ => ⟨rfl, fun _ _ => rfl⟩) (ak (fun γ => ⟨rfl, fun w' h => ⟨32, #[.agg (kd p r c gx gy).toArray, .agg (l2 (a.1 % p) (a.2 % p)).toArray, U n], exec_call rfl call32 rfl (mpn rfl), (have := k.f.q.ne; dPower_any k.f.q.k.pr (a.1 % p, a.2 % p) ⟨(Nat.mod_lt _ (zero_lt k.f.q.k.pr)), (Nat.mod_lt _ (zero_lt k.f.q.k.pr))⟩ n hn w')⟩⟩) (ak (fun γ => ⟨rfl, fun w' _ => exec_neqT49 (fun w => eqL_self _ _ w) rfl rfl rfl⟩) (ak (by refine fun γ => ⟨rfl, fun w' h => ?_⟩; clear h; go_simp) (ak (fun _ => ⟨rfl, fun _ _ => rfl⟩) (ak (fun _ => ⟨rfl, fun _ _ => rfl⟩) (ak (by refine fun γ => ⟨rfl, fun w' h => ?_⟩; clear h; go_simp) (ak (by refine fun γ => ⟨rfl, fun w' h => ?_⟩; clear h; go_simp) trivial)))))))))))))))))))))))))))
  intro _ w8 H8
  clear H7
  refine rest0 rfl (then_normal (wp_cond_false rfl ?_))
  refine wp_skip (then_normal ?_)
  refine wp_seq (wp_seq ?_)
  refine walk_seqB 10 [.quiet (.agg (kd p r c gx gy).toArray), .quiet (.agg (pt X Y Z).toArray), .call (.bool false), .quiet (.bool true), .quiet (.bool true), .gone, .gone, .gone, .gone, .quiet (.bool true)] H8 ?ho9 ?he9
  case ho9 => exact ak (fun γ => ⟨rfl, fun w' h => ex_loadT h 4 rfl rfl rfl Try.isAgg27 Try.sizeOf27 rfl rfl⟩) (ak (fun γ => ⟨rfl, fun w' h => ex_loadT h 5 rfl rfl rfl Try.isAgg25 Try.sizeOf25 rfl rfl⟩) (ak (fun γ => ⟨rfl, fun w' h => ⟨23, #[.agg (kd p r c gx gy).toArray, .agg (pt X Y Z).toArray], exec_call rfl call23 rfl (mpn rfl), In_ig k X Y Z _ h1 w'⟩⟩) (ak (by refine fun γ => ⟨rfl, fun w' h => ?_⟩; clear h; go_simp) (ak (fun _ => ⟨rfl, fun _ _ => rfl⟩) (ak (fun γ => rfl) (ak (fun γ => rfl) (ak (fun γ => rfl) (ak (fun γ => rfl) (ak (by refine fun γ => ⟨rfl, fun w' h => ?_⟩; clear h; go_simp) trivial)))))))))
  intro _ w9 H9
  clear H8
  refine rest0 rfl (then_normal (wp_cond_true rfl (wp_seq ?_)))
  refine walk_seqB 8 [.quiet (.agg (l2 0 0).toArray), .quiet (.agg (l2 0 0).toArray), .quiet (.bool true), .quiet (.bool true), .quiet (.int .i64 5), .quiet (.bool true), .quiet (.bool true), .quiet (.bool true)] H9 ?ho10 ?he10
  case ho10 => exact ak (fun γ => ⟨rfl, fun w' h => ex_loadT h 3 rfl rfl rfl Try.isAgg49 Try.sizeOf49 rfl rfl⟩) (ak (fun γ => ⟨rfl, fun w' h => ex_loadT h 0 rfl rfl rfl Try.isAgg49 Try.sizeOf49 rfl rfl⟩) (ak (fun γ => ⟨rfl, fun w' _ => exec_eqT49 (fun w => eqL_self _ _ w) rfl rfl rfl⟩) (ak (fun _ => ⟨rfl, fun _ _ => rfl⟩) (ak (fun _ => ⟨rfl, fun _ _ => rfl⟩) (ak (by refine fun γ => ⟨rfl, fun w' h => ?_⟩; clear h; go_simp) (ak (by refine fun γ => ⟨rfl, fun w' h => ?_⟩; clear h; go_simp) (ak (fun _ => ⟨rfl, fun _ _ => rfl⟩) trivial)))))))
  intro _ w10 H10
  clear H9
  refine rest0 rfl (then_normal (wp_ret ?_))
  repeat (first | refine then_ret ?_ | refine block_ret ?_)
  refine bodyPost_ret (v := .bool true) (by simp [results, Try.results4, go_sem, *]) rfl ?_
  exact ⟨rfl, H10.out.2⟩
set_option maxHeartbeats 4000000 in
set_option maxRecDepth 100000 in
theorem pairs_tf (k : Kr s p r c gx gy) (X Y : Nat) (Z : Bool) (X' Y' : Nat) (Z' : Bool) (a b : E2) (n : Nat) (hn : n < 18446744073709551616) (h1 : ig p r X Y Z = true) (h2 : ig p r X' Y' Z' = false) (w : World) :
    Calls Try.prog 4 #[.int .i64 s, .agg (pt X Y Z).toArray, .agg (pt X' Y' Z').toArray, .agg (l2 a.1 a.2).toArray, .agg (l2 b.1 b.2).toArray, U n] w fun e w' => e = .returned (.bool true) ∧ Below w.heap.size w w' := by
  have H0 : Hid (_ ∧ _) := ⟨Mm.nil w, Below.refl w.heap.size w⟩
  go_enter Try.func4, Try.ntmps4
  refine wp_seq ?_
  refine walk_seqA 5 [.made (pt X Y Z) 25, .made (pt X' Y' Z') 25, .made (l2 a.1 a.2) 49, .made (l2 b.1 b.2) 49, .quiet (.bool false)] (sB H0) ?ho1 ?he1
  case ho1 => exact ak (fun γ => ⟨rfl, fun w' => ex_boxT rfl rfl⟩) (ak (fun γ => ⟨rfl, fun w' => ex_boxT rfl rfl⟩) (ak (fun γ => ⟨rfl, fun w' => ex_boxT rfl rfl⟩) (ak (fun γ => ⟨rfl, fun w' => ex_boxT rfl rfl⟩) (ak (fun _ => ⟨rfl, fun _ _ => rfl⟩) trivial))))
  intro γ w1 l hM hl
  have H1 : Hid (Mm w1 [(γ 0, pt X Y Z), (γ 1, pt X' Y' Z'), (γ 2, l2 a.1 a.2), (γ 3, l2 b.1 b.2)] ∧ _) := growB H0 hM (Nat.le_refl _) hl [0, 1, 2, 3] rfl (by decide)
  have o1_0 := ownB H0 hM (Nat.le_refl _) hl (i := 0) rfl
  have o1_1 := ownB H0 hM (Nat.le_refl _) hl (i := 1) rfl
  have o1_2 := ownB H0 hM (Nat.le_refl _) hl (i := 2) rfl
  have o1_3 := ownB H0 hM (Nat.le_refl _) hl (i := 3) rfl
  clear hM hl l
  generalize γ 0 = γ1_0 at H1 o1_0 ⊢
  generalize γ 1 = γ1_1 at H1 o1_1 ⊢
  generalize γ 2 = γ1_2 at H1 o1_2 ⊢
  generalize γ 3 = γ1_3 at H1 o1_3 ⊢
  clear γ
  refine rest0 rfl (then_normal (wp_seq ?_))
  refine walk_seqA 8 [.quiet (.int .i64 s), .call (.tuple #[.agg (kd p r c gx gy).toArray, .bool true]), .quiet (.tuple #[.agg (kd p r c gx gy).toArray, .bool true]), .quiet (.agg (kd p r c gx gy).toArray), .quiet (.bool true), .made (kd 0 0 0 0 0) 27, .laid 5 (kd 0 0 0 0 0) (kd p r c gx gy), .quiet (.bool true)] (sB H1) ?ho2 ?he2 (hL := ?hL2)
  case hL2 => exact ⟨⟨_, rfl⟩, trivial⟩
  case ho2 => exact ak (fun _ => ⟨rfl, fun _ _ => rfl⟩) (ak (fun γ => ⟨rfl, fun w' h => ⟨10, #[.int .i64 s], exec_call rfl call10 rfl (mpn rfl), k.f.q.of w'⟩⟩) (ak (fun _ => ⟨rfl, fun _ _ => rfl⟩) (ak (by refine fun γ => ⟨rfl, fun w' h => ?_⟩; clear h; go_simp) (ak (by refine fun γ => ⟨rfl, fun w' h => ?_⟩; clear h; go_simp) (ak (fun γ => ⟨rfl, fun w' => ex_made27 rfl⟩) (ak (fun γ => ⟨rfl, rfl, rfl, fun w' h => ex_laidT h rfl rfl Try.sizeOf27 rfl rfl rfl⟩) (ak (fun _ => ⟨rfl, fun _ _ => rfl⟩) trivial)))))))
  intro γ w2 l hM hl
  have H2 : Hid (Mm w2 [(γ 5, kd p r c gx gy), (γ1_0, pt X Y Z), (γ1_1, pt X' Y' Z'), (γ1_2, l2 a.1 a.2), (γ1_3, l2 b.1 b.2)] ∧ _) := growB H1 hM (Nat.le_refl _) hl [5] rfl (by decide)
  have o2_5 := ownB H1 hM (Nat.le_refl _) hl (i := 5) rfl
  clear hM hl l H1
  generalize γ 5 = γ2_5 at H2 o2_5 ⊢
  clear γ
  refine rest0 rfl (then_normal (wp_seq ?_))
  refine walk_seqA 10 [.quiet (.int .i64 s), .quiet (.agg (pt X Y Z).toArray), .quiet (.agg (pt X' Y' Z').toArray), .call (.tuple #[.agg (l2 0 0).toArray, .int .i64 5]), .quiet (.tuple #[.agg (l2 0 0).toArray, .int .i64 5]), .quiet (.agg (l2 0 0).toArray), .quiet (.int .i64 5), .made (l2 0 0) 49, .laid 7 (l2 0 0) (l2 0 0), .quiet (.int .i64 5)] (sB H2) ?ho3 ?he3 (hL := ?hL3)
  case hL3 => exact ⟨⟨_, rfl⟩, trivial⟩
  case ho3 => exact ak (fun _ => ⟨rfl, fun _ _ => rfl⟩) (ak (fun γ => ⟨rfl, fun w' h => ex_loadT h 1 rfl rfl rfl Try.isAgg25 Try.sizeOf25 rfl rfl⟩) (ak (fun γ => ⟨rfl, fun w' h => ex_loadT h 2 rfl rfl rfl Try.isAgg25 Try.sizeOf25 rfl rfl⟩) (ak (fun γ => ⟨rfl, fun w' h => ⟨27, #[.int .i64 s, .agg (pt X Y Z).toArray, .agg (pt X' Y' Z').toArray], exec_call rfl call27 rfl (mpn rfl), Pair_pt k.f.q.k X Y Z X' Y' Z' (by rw [h1, h2]; rfl) w'⟩⟩) (ak (fun _ => ⟨rfl, fun _ _ => rfl⟩) (ak (by refine fun γ => ⟨rfl, fun w' h => ?_⟩; clear h; go_simp) (ak (by refine fun γ => ⟨rfl, fun w' h => ?_⟩; clear h; go_simp) (ak (fun γ => ⟨rfl, fun w' => ex_made49 rfl⟩) (ak (fun γ => ⟨rfl, rfl, rfl, fun w' h => ex_laidT h rfl rfl Try.sizeOf49 rfl rfl rfl⟩) (ak (fun _ => ⟨rfl, fun _ _ => rfl⟩) trivial)))))))))
  intro γ w3 l hM hl
  have H3 : Hid (Mm w3 [(γ 7, l2 0 0), (γ2_5, kd p r c gx gy), (γ1_0, pt X Y Z), (γ1_1, pt X' Y' Z'), (γ1_2, l2 a.1 a.2), (γ1_3, l2 b.1 b.2)] ∧ _) := growB H2 hM (Nat.le_refl _) hl [7] rfl (by decide)
  have o3_7 := ownB H2 hM (Nat.le_refl _) hl (i := 7) rfl
  clear hM hl l H2
  generalize γ 7 = γ3_7 at H3 o3_7 ⊢
  clear γ
  refine rest0 rfl (then_normal (wp_seq ?_))
  refine walk_seqA 10 [.quiet (.int .i64 s), .quiet (.agg (l2 a.1 a.2).toArray), .quiet (.agg (l2 b.1 b.2).toArray), .call (.tuple #[.agg (l2 ((pd p (a.1 % p, a.2 % p) (b.1 % p, b.2 % p)).1) ((pd p (a.1 % p, a.2 % p) (b.1 % p, b.2 % p)).2)).toArray, .int .i64 0]), .quiet (.tuple #[.agg (l2 ((pd p (a.1 % p, a.2 % p) (b.1 % p, b.2 % p)).1) ((pd p (a.1 % p, a.2 % p) (b.1 % p, b.2 % p)).2)).toArray, .int .i64 0]), .quiet (.agg (l2 ((pd p (a.1 % p, a.2 % p) (b.1 % p, b.2 % p)).1) ((pd p (a.1 % p, a.2 % p) (b.1 % p, b.2 % p)).2)).toArray), .quiet (.int .i64 0), .made (l2 0 0) 49, .laid 7 (l2 0 0) (l2 ((pd p (a.1 % p, a.2 % p) (b.1 % p, b.2 % p)).1) ((pd p (a.1 % p, a.2 % p) (b.1 % p, b.2 % p)).2)), .quiet (.int .i64 0)] (sB H3) ?ho4 ?he4 (hL := ?hL4)
  case hL4 => exact ⟨⟨_, rfl⟩, trivial⟩
  case ho4 => exact ak (fun _ => ⟨rfl, fun _ _ => rfl⟩) (ak (fun γ => ⟨rfl, fun w' h => ex_loadT h 4 rfl rfl rfl Try.isAgg49 Try.sizeOf49 rfl rfl⟩) (ak (fun γ => ⟨rfl, fun w' h => ex_loadT h 5 rfl rfl rfl Try.isAgg49 Try.sizeOf49 rfl rfl⟩) (ak (fun γ => ⟨rfl, fun w' h => ⟨28, #[.int .i64 s, .agg (l2 a.1 a.2).toArray, .agg (l2 b.1 b.2).toArray], exec_call rfl call28 rfl (mpn rfl), Times_ok k.f.q.k a b w'⟩⟩) (ak (fun _ => ⟨rfl, fun _ _ => rfl⟩) (ak (by refine fun γ => ⟨rfl, fun w' h => ?_⟩; clear h; go_simp) (ak (by refine fun γ => ⟨rfl, fun w' h => ?_⟩; clear h; go_simp) (ak (fun γ => ⟨rfl, fun w' => ex_made49 rfl⟩) (ak (fun γ => ⟨rfl, rfl, rfl, fun w' h => ex_laidT h rfl rfl Try.sizeOf49 rfl rfl rfl⟩) (ak (fun _ => ⟨rfl, fun _ _ => rfl⟩) trivial)))))))))
  intro γ w4 l hM hl
  have H4 : Hid (Mm w4 [(γ 7, l2 ((pd p (a.1 % p, a.2 % p) (b.1 % p, b.2 % p)).1) ((pd p (a.1 % p, a.2 % p) (b.1 % p, b.2 % p)).2)), (γ3_7, l2 0 0), (γ2_5, kd p r c gx gy), (γ1_0, pt X Y Z), (γ1_1, pt X' Y' Z'), (γ1_2, l2 a.1 a.2), (γ1_3, l2 b.1 b.2)] ∧ _) := growB H3 hM (Nat.le_refl _) hl [7] rfl (by decide)
  have o4_7 := ownB H3 hM (Nat.le_refl _) hl (i := 7) rfl
  clear hM hl l H3
  generalize γ 7 = γ4_7 at H4 o4_7 ⊢
  clear γ
  refine rest0 rfl (then_normal (wp_seq ?_))
  refine walk_seqA 10 [.quiet (.int .i64 s), .quiet (.agg (l2 a.1 a.2).toArray), .quiet (U n), .call (.tuple #[.agg (l2 ((po p (a.1 % p, a.2 % p) n).1) ((po p (a.1 % p, a.2 % p) n).2)).toArray, .int .i64 0]), .quiet (.tuple #[.agg (l2 ((po p (a.1 % p, a.2 % p) n).1) ((po p (a.1 % p, a.2 % p) n).2)).toArray, .int .i64 0]), .quiet (.agg (l2 ((po p (a.1 % p, a.2 % p) n).1) ((po p (a.1 % p, a.2 % p) n).2)).toArray), .quiet (.int .i64 0), .made (l2 0 0) 49, .laid 7 (l2 0 0) (l2 ((po p (a.1 % p, a.2 % p) n).1) ((po p (a.1 % p, a.2 % p) n).2)), .quiet (.int .i64 0)] (sB H4) ?ho5 ?he5 (hL := ?hL5)
  case hL5 => exact ⟨⟨_, rfl⟩, trivial⟩
  case ho5 => exact ak (fun _ => ⟨rfl, fun _ _ => rfl⟩) (ak (fun γ => ⟨rfl, fun w' h => ex_loadT h 5 rfl rfl rfl Try.isAgg49 Try.sizeOf49 rfl rfl⟩) (ak (fun _ => ⟨rfl, fun _ _ => rfl⟩) (ak (fun γ => ⟨rfl, fun w' h => ⟨29, #[.int .i64 s, .agg (l2 a.1 a.2).toArray, U n], exec_call rfl call29 rfl (mpn rfl), Power_doc k a n hn w'⟩⟩) (ak (fun _ => ⟨rfl, fun _ _ => rfl⟩) (ak (by refine fun γ => ⟨rfl, fun w' h => ?_⟩; clear h; go_simp) (ak (by refine fun γ => ⟨rfl, fun w' h => ?_⟩; clear h; go_simp) (ak (fun γ => ⟨rfl, fun w' => ex_made49 rfl⟩) (ak (fun γ => ⟨rfl, rfl, rfl, fun w' h => ex_laidT h rfl rfl Try.sizeOf49 rfl rfl rfl⟩) (ak (fun _ => ⟨rfl, fun _ _ => rfl⟩) trivial)))))))))
  intro γ w5 l hM hl
  have H5 : Hid (Mm w5 [(γ 7, l2 ((po p (a.1 % p, a.2 % p) n).1) ((po p (a.1 % p, a.2 % p) n).2)), (γ4_7, l2 ((pd p (a.1 % p, a.2 % p) (b.1 % p, b.2 % p)).1) ((pd p (a.1 % p, a.2 % p) (b.1 % p, b.2 % p)).2)), (γ3_7, l2 0 0), (γ2_5, kd p r c gx gy), (γ1_0, pt X Y Z), (γ1_1, pt X' Y' Z'), (γ1_2, l2 a.1 a.2), (γ1_3, l2 b.1 b.2)] ∧ _) := growB H4 hM (Nat.le_refl _) hl [7] rfl (by decide)
  have o5_7 := ownB H4 hM (Nat.le_refl _) hl (i := 7) rfl
  clear hM hl l H4
  generalize γ 7 = γ5_7 at H5 o5_7 ⊢
  clear γ
  refine rest0 rfl (then_normal (wp_seq ?_))
  refine walk_seqA 1 [.made (l2 0 0) 49] (sB H5) ?ho6 ?he6
  case ho6 => exact ak (fun γ => ⟨rfl, fun w' => ex_made49 rfl⟩) trivial
  intro γ w6 l hM hl
  have H6 : Hid (Mm w6 [(γ 0, l2 0 0), (γ5_7, l2 ((po p (a.1 % p, a.2 % p) n).1) ((po p (a.1 % p, a.2 % p) n).2)), (γ4_7, l2 ((pd p (a.1 % p, a.2 % p) (b.1 % p, b.2 % p)).1) ((pd p (a.1 % p, a.2 % p) (b.1 % p, b.2 % p)).2)), (γ3_7, l2 0 0), (γ2_5, kd p r c gx gy), (γ1_0, pt X Y Z), (γ1_1, pt X' Y' Z'), (γ1_2, l2 a.1 a.2), (γ1_3, l2 b.1 b.2)] ∧ _) := growB H5 hM (Nat.le_refl _) hl [0] rfl (by decide)
  have o6_0 := ownB H5 hM (Nat.le_refl _) hl (i := 0) rfl
  clear hM hl l H5
  generalize γ 0 = γ6_0 at H6 o6_0 ⊢
  clear γ
  refine rest0 rfl (then_normal (wp_seq (wp_seq ?_)))
  refine walk_seqB 2 [.quiet (.bool true), .quiet (.bool false)] H6 ?ho7 ?he7
  case ho7 => exact ak (fun _ => ⟨rfl, fun _ _ => rfl⟩) (ak (by refine fun γ => ⟨rfl, fun w' h => ?_⟩; clear h; go_simp) trivial)
  intro _ w7 H7
  clear H6
  refine rest0 rfl (then_normal (wp_cond_false rfl ?_))
  refine wp_skip (then_normal ?_)
  refine wp_seq (wp_seq ?_)
  refine walk_anyB 28 [.quiet (.agg (l2 ((pd p (a.1 % p, a.2 % p) (b.1 % p, b.2 % p)).1) ((pd p (a.1 % p, a.2 % p) (b.1 % p, b.2 % p)).2)).toArray), .quiet (.agg (kd p r c gx gy).toArray), .quiet (.agg (kd p r c gx gy).toArray), .quiet (.agg (l2 a.1 a.2).toArray), .call (.agg (l2 (a.1 % p) (a.2 % p)).toArray), .quiet (.agg (kd p r c gx gy).toArray), .quiet (.agg (l2 b.1 b.2).toArray), .call (.agg (l2 (b.1 % p) (b.2 % p)).toArray), .call (.agg (l2 ((pd p (a.1 % p, a.2 % p) (b.1 % p, b.2 % p)).1) ((pd p (a.1 % p, a.2 % p) (b.1 % p, b.2 % p)).2)).toArray), .quiet (.bool false), .quiet (.bool false), .quiet (.int .i64 0), .quiet (.bool false), .quiet (.bool false), .quiet (.bool false), .quiet (.agg (l2 ((po p (a.1 % p, a.2 % p) n).1) ((po p (a.1 % p, a.2 % p) n).2)).toArray), .quiet (.agg (kd p r c gx gy).toArray), .quiet (.agg (kd p r c gx gy).toArray), .quiet (.agg (l2 a.1 a.2).toArray), .call (.agg (l2 (a.1 % p) (a.2 % p)).toArray), .quiet (U n), .call (.agg (l2 ((po p (a.1 % p, a.2 % p) n).1) ((po p (a.1 % p, a.2 % p) n).2)).toArray), .quiet (.bool false), .quiet (.bool false), .quiet (.bool false), .quiet (.int .i64 0), .quiet (.bool false), .quiet (.bool false)] H7 ?ho8 ?he8 (hL := ?hL8)
  case hL8 => exact trivial
  case ho8 => exact ak (fun γ => ⟨rfl, fun w' h => ex_loadT h 2 rfl rfl rfl Try.isAgg49 Try.sizeOf49 rfl rfl⟩) (ak (fun γ => ⟨rfl, fun w' h => ex_loadT h 4 rfl rfl rfl Try.isAgg27 Try.sizeOf27 rfl rfl⟩) (ak (fun γ => ⟨rfl, fun w' h => ex_loadT h 4 rfl rfl rfl Try.isAgg27 Try.sizeOf27 rfl rfl⟩) (ak (fun γ => ⟨rfl, fun w' h => ex_loadT h 7 rfl rfl rfl Try.isAgg49 Try.sizeOf49 rfl rfl⟩) (ak (fun γ => ⟨rfl, fun w' h => ⟨31, #[.agg (kd p r c gx gy).toArray, .agg (l2 a.1 a.2).toArray], exec_call rfl call31 rfl (mpn rfl), dOf2_any k.f.q.k.pr a w'⟩⟩) (ak (fun γ => ⟨rfl, fun w' h => ex_loadT h 4 rfl rfl rfl Try.isAgg27 Try.sizeOf27 rfl rfl⟩) (ak (fun γ => ⟨rfl, fun w' h => ex_loadT h 8 rfl rfl rfl Try.isAgg49 Try.sizeOf49 rfl rfl⟩) (ak (fun γ => ⟨rfl, fun w' h => ⟨31, #[.agg (kd p r c gx gy).toArray, .agg (l2 b.1 b.2).toArray], exec_call rfl call31 rfl (mpn rfl), dOf2_any k.f.q.k.pr b w'⟩⟩) (ak (fun γ => ⟨rfl, fun w' h => ⟨30, #[.agg (kd p r c gx gy).toArray, .agg (l2 (a.1 % p) (a.2 % p)).toArray, .agg (l2 (b.1 % p) (b.2 % p)).toArray], exec_call rfl call30 rfl (mpn rfl), dTimes_any k.f.q.k.pr (a.1 % p, a.2 % p) (b.1 % p, b.2 % p) ⟨(Nat.mod_lt _ (zero_lt k.f.q.k.pr)), (Nat.mod_lt _ (zero_lt k.f.q.k.pr))⟩ ⟨(Nat.mod_lt _ (zero_lt k.f.q.k.pr)), (Nat.mod_lt _ (zero_lt k.f.q.k.pr))⟩ w'⟩⟩) (ak (fun γ => ⟨rfl, fun w' _ => exec_neqT49 (fun w => eqL_self _ _ w) rfl rfl rfl⟩) (ak (fun _ => ⟨rfl, fun _ _ => rfl⟩) (ak (fun _ => ⟨rfl, fun _ _ => rfl⟩) (ak (by refine fun γ => ⟨rfl, fun w' h => ?_⟩; clear h; go_simp) (ak (by refine fun γ => ⟨rfl, fun w' h => ?_⟩; clear h; go_simp) (ak (fun _ => ⟨rfl, fun _ _ => rfl⟩) (ak (fun γ => ⟨rfl, fun w' h => ex_loadT h 1 rfl rfl rfl Try.isAgg49 Try.sizeOf49 rfl rfl⟩) (ak (fun γ => ⟨rfl, fun w' h => ex_loadT h 4 rfl rfl rfl Try.isAgg27 Try.sizeOf27 rfl rfl⟩) (ak (fun γ => ⟨rfl, fun w' h => ex_loadT h 4 rfl rfl rfl Try.isAgg27 Try.sizeOf27 rfl rfl⟩) (ak (fun γ => ⟨rfl, fun w' h => ex_loadT h 7 rfl rfl rfl Try.isAgg49 Try.sizeOf49 rfl rfl⟩) (ak (fun γ => ⟨rfl, fun w' h => ⟨31, #[.agg (kd p r c gx gy).toArray, .agg (l2 a.1 a.2).toArray], exec_call rfl call31 rfl (mpn rfl), dOf2_any k.f.q.k.pr a w'⟩⟩) (ak (fun _ => ⟨rfl, fun _ _ => rfl⟩) (ak (fun γ => ⟨rfl, fun w' h => ⟨32, #[.agg (kd p r c gx gy).toArray, .agg (l2 (a.1 % p) (a.2 % p)).toArray, U n], exec_call rfl call32 rfl (mpn rfl), (have := k.f.q.ne; dPower_any k.f.q.k.pr (a.1 % p, a.2 % p) ⟨(Nat.mod_lt _ (zero_lt k.f.q.k.pr)), (Nat.mod_lt _ (zero_lt k.f.q.k.pr))⟩ n hn w')⟩⟩) (ak (fun γ => ⟨rfl, fun w' _ => exec_neqT49 (fun w => eqL_self _ _ w) rfl rfl rfl⟩) (ak (by refine fun γ => ⟨rfl, fun w' h => ?_⟩; clear h; go_simp) (ak (fun _ => ⟨rfl, fun _ _ => rfl⟩) (ak (fun _ => ⟨rfl, fun _ _ => rfl⟩) (ak (by refine fun γ => ⟨rfl, fun w' h => ?_⟩; clear h; go_simp) (ak (by refine fun γ => ⟨rfl, fun w' h => ?_⟩; clear h; go_simp) trivial)))))))))))))))))))))))))))
  intro _ w8 H8
  clear H7
  refine rest0 rfl (then_normal (wp_cond_false rfl ?_))
  refine wp_skip (then_normal ?_)
  refine wp_seq (wp_seq ?_)
  refine walk_seqB 10 [.quiet (.agg (kd p r c gx gy).toArray), .quiet (.agg (pt X Y Z).toArray), .call (.bool true), .quiet (.bool false), .quiet (.bool false), .quiet (.agg (kd p r c gx gy).toArray), .quiet (.agg (pt X' Y' Z').toArray), .call (.bool false), .quiet (.bool true), .quiet (.bool true)] H8 ?ho9 ?he9
  case ho9 => exact ak (fun γ => ⟨rfl, fun w' h => ex_loadT h 4 rfl rfl rfl Try.isAgg27 Try.sizeOf27 rfl rfl⟩) (ak (fun γ => ⟨rfl, fun w' h => ex_loadT h 5 rfl rfl rfl Try.isAgg25 Try.sizeOf25 rfl rfl⟩) (ak (fun γ => ⟨rfl, fun w' h => ⟨23, #[.agg (kd p r c gx gy).toArray, .agg (pt X Y Z).toArray], exec_call rfl call23 rfl (mpn rfl), In_ig k X Y Z _ h1 w'⟩⟩) (ak (by refine fun γ => ⟨rfl, fun w' h => ?_⟩; clear h; go_simp) (ak (fun _ => ⟨rfl, fun _ _ => rfl⟩) (ak (fun γ => ⟨rfl, fun w' h => ex_loadT h 4 rfl rfl rfl Try.isAgg27 Try.sizeOf27 rfl rfl⟩) (ak (fun γ => ⟨rfl, fun w' h => ex_loadT h 6 rfl rfl rfl Try.isAgg25 Try.sizeOf25 rfl rfl⟩) (ak (fun γ => ⟨rfl, fun w' h => ⟨23, #[.agg (kd p r c gx gy).toArray, .agg (pt X' Y' Z').toArray], exec_call rfl call23 rfl (mpn rfl), In_ig k X' Y' Z' _ h2 w'⟩⟩) (ak (by refine fun γ => ⟨rfl, fun w' h => ?_⟩; clear h; go_simp) (ak (by refine fun γ => ⟨rfl, fun w' h => ?_⟩; clear h; go_simp) trivial)))))))))
  intro _ w9 H9
  clear H8
  refine rest0 rfl (then_normal (wp_cond_true rfl (wp_seq ?_)))
  refine walk_seqB 8 [.quiet (.agg (l2 0 0).toArray), .quiet (.agg (l2 0 0).toArray), .quiet (.bool true), .quiet (.bool true), .quiet (.int .i64 5), .quiet (.bool true), .quiet (.bool true), .quiet (.bool true)] H9 ?ho10 ?he10
  case ho10 => exact ak (fun γ => ⟨rfl, fun w' h => ex_loadT h 3 rfl rfl rfl Try.isAgg49 Try.sizeOf49 rfl rfl⟩) (ak (fun γ => ⟨rfl, fun w' h => ex_loadT h 0 rfl rfl rfl Try.isAgg49 Try.sizeOf49 rfl rfl⟩) (ak (fun γ => ⟨rfl, fun w' _ => exec_eqT49 (fun w => eqL_self _ _ w) rfl rfl rfl⟩) (ak (fun _ => ⟨rfl, fun _ _ => rfl⟩) (ak (fun _ => ⟨rfl, fun _ _ => rfl⟩) (ak (by refine fun γ => ⟨rfl, fun w' h => ?_⟩; clear h; go_simp) (ak (by refine fun γ => ⟨rfl, fun w' h => ?_⟩; clear h; go_simp) (ak (fun _ => ⟨rfl, fun _ _ => rfl⟩) trivial)))))))
  intro _ w10 H10
  clear H9
  refine rest0 rfl (then_normal (wp_ret ?_))
  repeat (first | refine then_ret ?_ | refine block_ret ?_)
  refine bodyPost_ret (v := .bool true) (by simp [results, Try.results4, go_sem, *]) rfl ?_
  exact ⟨rfl, H10.out.2⟩
set_option maxHeartbeats 4000000 in
set_option maxRecDepth 100000 in
theorem pairs_tt (k : Kr s p r c gx gy) (X Y : Nat) (Z : Bool) (X' Y' : Nat) (Z' : Bool) (a b : E2) (n : Nat) (hn : n < 18446744073709551616) (h1 : ig p r X Y Z = true) (h2 : ig p r X' Y' Z' = true) (w : World) :
    Calls Try.prog 4 #[.int .i64 s, .agg (pt X Y Z).toArray, .agg (pt X' Y' Z').toArray, .agg (l2 a.1 a.2).toArray, .agg (l2 b.1 b.2).toArray, U n] w fun e w' => e = .returned (.bool true) ∧ Below w.heap.size w w' := by
  have H0 : Hid (_ ∧ _) := ⟨Mm.nil w, Below.refl w.heap.size w⟩
  go_enter Try.func4, Try.ntmps4
  refine wp_seq ?_
  refine walk_seqA 5 [.made (pt X Y Z) 25, .made (pt X' Y' Z') 25, .made (l2 a.1 a.2) 49, .made (l2 b.1 b.2) 49, .quiet (.bool false)] (sB H0) ?ho1 ?he1
  case ho1 => exact ak (fun γ => ⟨rfl, fun w' => ex_boxT rfl rfl⟩) (ak (fun γ => ⟨rfl, fun w' => ex_boxT rfl rfl⟩) (ak (fun γ => ⟨rfl, fun w' => ex_boxT rfl rfl⟩) (ak (fun γ => ⟨rfl, fun w' => ex_boxT rfl rfl⟩) (ak (fun _ => ⟨rfl, fun _ _ => rfl⟩) trivial))))
  intro γ w1 l hM hl
  have H1 : Hid (Mm w1 [(γ 0, pt X Y Z), (γ 1, pt X' Y' Z'), (γ 2, l2 a.1 a.2), (γ 3, l2 b.1 b.2)] ∧ _) := growB H0 hM (Nat.le_refl _) hl [0, 1, 2, 3] rfl (by decide)
  have o1_0 := ownB H0 hM (Nat.le_refl _) hl (i := 0) rfl
  have o1_1 := ownB H0 hM (Nat.le_refl _) hl (i := 1) rfl
  have o1_2 := ownB H0 hM (Nat.le_refl _) hl (i := 2) rfl
  have o1_3 := ownB H0 hM (Nat.le_refl _) hl (i := 3) rfl
  clear hM hl l
  generalize γ 0 = γ1_0 at H1 o1_0 ⊢
  generalize γ 1 = γ1_1 at H1 o1_1 ⊢
  generalize γ 2 = γ1_2 at H1 o1_2 ⊢
  generalize γ 3 = γ1_3 at H1 o1_3 ⊢
  clear γ
  refine rest0 rfl (then_normal (wp_seq ?_))
  refine walk_seqA 8 [.quiet (.int .i64 s), .call (.tuple #[.agg (kd p r c gx gy).toArray, .bool true]), .quiet (.tuple #[.agg (kd p r c gx gy).toArray, .bool true]), .quiet (.agg (kd p r c gx gy).toArray), .quiet (.bool true), .made (kd 0 0 0 0 0) 27, .laid 5 (kd 0 0 0 0 0) (kd p r c gx gy), .quiet (.bool true)] (sB H1) ?ho2 ?he2 (hL := ?hL2)
  case hL2 => exact ⟨⟨_, rfl⟩, trivial⟩
  case ho2 => exact ak (fun _ => ⟨rfl, fun _ _ => rfl⟩) (ak (fun γ => ⟨rfl, fun w' h => ⟨10, #[.int .i64 s], exec_call rfl call10 rfl (mpn rfl), k.f.q.of w'⟩⟩) (ak (fun _ => ⟨rfl, fun _ _ => rfl⟩) (ak (by refine fun γ => ⟨rfl, fun w' h => ?_⟩; clear h; go_simp) (ak (by refine fun γ => ⟨rfl, fun w' h => ?_⟩; clear h; go_simp) (ak (fun γ => ⟨rfl, fun w' => ex_made27 rfl⟩) (ak (fun γ => ⟨rfl, rfl, rfl, fun w' h => ex_laidT h rfl rfl Try.sizeOf27 rfl rfl rfl⟩) (ak (fun _ => ⟨rfl, fun _ _ => rfl⟩) trivial)))))))
  intro γ w2 l hM hl
  have H2 : Hid (Mm w2 [(γ 5, kd p r c gx gy), (γ1_0, pt X Y Z), (γ1_1, pt X' Y' Z'), (γ1_2, l2 a.1 a.2), (γ1_3, l2 b.1 b.2)] ∧ _) := growB H1 hM (Nat.le_refl _) hl [5] rfl (by decide)
  have o2_5 := ownB H1 hM (Nat.le_refl _) hl (i := 5) rfl
  clear hM hl l H1
  generalize γ 5 = γ2_5 at H2 o2_5 ⊢
  clear γ
  refine rest0 rfl (then_normal (wp_seq ?_))
  refine walk_seqA 10 [.quiet (.int .i64 s), .quiet (.agg (pt X Y Z).toArray), .quiet (.agg (pt X' Y' Z').toArray), .call (.tuple #[.agg (l2 ((dpr p r c X Y X' Y' Z Z').1) ((dpr p r c X Y X' Y' Z Z').2)).toArray, .int .i64 0]), .quiet (.tuple #[.agg (l2 ((dpr p r c X Y X' Y' Z Z').1) ((dpr p r c X Y X' Y' Z Z').2)).toArray, .int .i64 0]), .quiet (.agg (l2 ((dpr p r c X Y X' Y' Z Z').1) ((dpr p r c X Y X' Y' Z Z').2)).toArray), .quiet (.int .i64 0), .made (l2 0 0) 49, .laid 7 (l2 0 0) (l2 ((dpr p r c X Y X' Y' Z Z').1) ((dpr p r c X Y X' Y' Z Z').2)), .quiet (.int .i64 0)] (sB H2) ?ho3 ?he3 (hL := ?hL3)
  case hL3 => exact ⟨⟨_, rfl⟩, trivial⟩
  case ho3 => exact ak (fun _ => ⟨rfl, fun _ _ => rfl⟩) (ak (fun γ => ⟨rfl, fun w' h => ex_loadT h 1 rfl rfl rfl Try.isAgg25 Try.sizeOf25 rfl rfl⟩) (ak (fun γ => ⟨rfl, fun w' h => ex_loadT h 2 rfl rfl rfl Try.isAgg25 Try.sizeOf25 rfl rfl⟩) (ak (fun γ => ⟨rfl, fun w' h => ⟨27, #[.int .i64 s, .agg (pt X Y Z).toArray, .agg (pt X' Y' Z').toArray], exec_call rfl call27 rfl (mpn rfl), Pair_doc k X Y Z X' Y' Z' h1 h2 w'⟩⟩) (ak (fun _ => ⟨rfl, fun _ _ => rfl⟩) (ak (by refine fun γ => ⟨rfl, fun w' h => ?_⟩; clear h; go_simp) (ak (by refine fun γ => ⟨rfl, fun w' h => ?_⟩; clear h; go_simp) (ak (fun γ => ⟨rfl, fun w' => ex_made49 rfl⟩) (ak (fun γ => ⟨rfl, rfl, rfl, fun w' h => ex_laidT h rfl rfl Try.sizeOf49 rfl rfl rfl⟩) (ak (fun _ => ⟨rfl, fun _ _ => rfl⟩) trivial)))))))))
  intro γ w3 l hM hl
  have H3 : Hid (Mm w3 [(γ 7, l2 ((dpr p r c X Y X' Y' Z Z').1) ((dpr p r c X Y X' Y' Z Z').2)), (γ2_5, kd p r c gx gy), (γ1_0, pt X Y Z), (γ1_1, pt X' Y' Z'), (γ1_2, l2 a.1 a.2), (γ1_3, l2 b.1 b.2)] ∧ _) := growB H2 hM (Nat.le_refl _) hl [7] rfl (by decide)
  have o3_7 := ownB H2 hM (Nat.le_refl _) hl (i := 7) rfl
  clear hM hl l H2
  generalize γ 7 = γ3_7 at H3 o3_7 ⊢
  clear γ
  refine rest0 rfl (then_normal (wp_seq ?_))
  refine walk_seqA 10 [.quiet (.int .i64 s), .quiet (.agg (l2 a.1 a.2).toArray), .quiet (.agg (l2 b.1 b.2).toArray), .call (.tuple #[.agg (l2 ((pd p (a.1 % p, a.2 % p) (b.1 % p, b.2 % p)).1) ((pd p (a.1 % p, a.2 % p) (b.1 % p, b.2 % p)).2)).toArray, .int .i64 0]), .quiet (.tuple #[.agg (l2 ((pd p (a.1 % p, a.2 % p) (b.1 % p, b.2 % p)).1) ((pd p (a.1 % p, a.2 % p) (b.1 % p, b.2 % p)).2)).toArray, .int .i64 0]), .quiet (.agg (l2 ((pd p (a.1 % p, a.2 % p) (b.1 % p, b.2 % p)).1) ((pd p (a.1 % p, a.2 % p) (b.1 % p, b.2 % p)).2)).toArray), .quiet (.int .i64 0), .made (l2 0 0) 49, .laid 7 (l2 0 0) (l2 ((pd p (a.1 % p, a.2 % p) (b.1 % p, b.2 % p)).1) ((pd p (a.1 % p, a.2 % p) (b.1 % p, b.2 % p)).2)), .quiet (.int .i64 0)] (sB H3) ?ho4 ?he4 (hL := ?hL4)
  case hL4 => exact ⟨⟨_, rfl⟩, trivial⟩
  case ho4 => exact ak (fun _ => ⟨rfl, fun _ _ => rfl⟩) (ak (fun γ => ⟨rfl, fun w' h => ex_loadT h 4 rfl rfl rfl Try.isAgg49 Try.sizeOf49 rfl rfl⟩) (ak (fun γ => ⟨rfl, fun w' h => ex_loadT h 5 rfl rfl rfl Try.isAgg49 Try.sizeOf49 rfl rfl⟩) (ak (fun γ => ⟨rfl, fun w' h => ⟨28, #[.int .i64 s, .agg (l2 a.1 a.2).toArray, .agg (l2 b.1 b.2).toArray], exec_call rfl call28 rfl (mpn rfl), Times_ok k.f.q.k a b w'⟩⟩) (ak (fun _ => ⟨rfl, fun _ _ => rfl⟩) (ak (by refine fun γ => ⟨rfl, fun w' h => ?_⟩; clear h; go_simp) (ak (by refine fun γ => ⟨rfl, fun w' h => ?_⟩; clear h; go_simp) (ak (fun γ => ⟨rfl, fun w' => ex_made49 rfl⟩) (ak (fun γ => ⟨rfl, rfl, rfl, fun w' h => ex_laidT h rfl rfl Try.sizeOf49 rfl rfl rfl⟩) (ak (fun _ => ⟨rfl, fun _ _ => rfl⟩) trivial)))))))))
  intro γ w4 l hM hl
  have H4 : Hid (Mm w4 [(γ 7, l2 ((pd p (a.1 % p, a.2 % p) (b.1 % p, b.2 % p)).1) ((pd p (a.1 % p, a.2 % p) (b.1 % p, b.2 % p)).2)), (γ3_7, l2 ((dpr p r c X Y X' Y' Z Z').1) ((dpr p r c X Y X' Y' Z Z').2)), (γ2_5, kd p r c gx gy), (γ1_0, pt X Y Z), (γ1_1, pt X' Y' Z'), (γ1_2, l2 a.1 a.2), (γ1_3, l2 b.1 b.2)] ∧ _) := growB H3 hM (Nat.le_refl _) hl [7] rfl (by decide)
  have o4_7 := ownB H3 hM (Nat.le_refl _) hl (i := 7) rfl
  clear hM hl l H3
  generalize γ 7 = γ4_7 at H4 o4_7 ⊢
  clear γ
  refine rest0 rfl (then_normal (wp_seq ?_))
  refine walk_seqA 10 [.quiet (.int .i64 s), .quiet (.agg (l2 a.1 a.2).toArray), .quiet (U n), .call (.tuple #[.agg (l2 ((po p (a.1 % p, a.2 % p) n).1) ((po p (a.1 % p, a.2 % p) n).2)).toArray, .int .i64 0]), .quiet (.tuple #[.agg (l2 ((po p (a.1 % p, a.2 % p) n).1) ((po p (a.1 % p, a.2 % p) n).2)).toArray, .int .i64 0]), .quiet (.agg (l2 ((po p (a.1 % p, a.2 % p) n).1) ((po p (a.1 % p, a.2 % p) n).2)).toArray), .quiet (.int .i64 0), .made (l2 0 0) 49, .laid 7 (l2 0 0) (l2 ((po p (a.1 % p, a.2 % p) n).1) ((po p (a.1 % p, a.2 % p) n).2)), .quiet (.int .i64 0)] (sB H4) ?ho5 ?he5 (hL := ?hL5)
  case hL5 => exact ⟨⟨_, rfl⟩, trivial⟩
  case ho5 => exact ak (fun _ => ⟨rfl, fun _ _ => rfl⟩) (ak (fun γ => ⟨rfl, fun w' h => ex_loadT h 5 rfl rfl rfl Try.isAgg49 Try.sizeOf49 rfl rfl⟩) (ak (fun _ => ⟨rfl, fun _ _ => rfl⟩) (ak (fun γ => ⟨rfl, fun w' h => ⟨29, #[.int .i64 s, .agg (l2 a.1 a.2).toArray, U n], exec_call rfl call29 rfl (mpn rfl), Power_doc k a n hn w'⟩⟩) (ak (fun _ => ⟨rfl, fun _ _ => rfl⟩) (ak (by refine fun γ => ⟨rfl, fun w' h => ?_⟩; clear h; go_simp) (ak (by refine fun γ => ⟨rfl, fun w' h => ?_⟩; clear h; go_simp) (ak (fun γ => ⟨rfl, fun w' => ex_made49 rfl⟩) (ak (fun γ => ⟨rfl, rfl, rfl, fun w' h => ex_laidT h rfl rfl Try.sizeOf49 rfl rfl rfl⟩) (ak (fun _ => ⟨rfl, fun _ _ => rfl⟩) trivial)))))))))
  intro γ w5 l hM hl
  have H5 : Hid (Mm w5 [(γ 7, l2 ((po p (a.1 % p, a.2 % p) n).1) ((po p (a.1 % p, a.2 % p) n).2)), (γ4_7, l2 ((pd p (a.1 % p, a.2 % p) (b.1 % p, b.2 % p)).1) ((pd p (a.1 % p, a.2 % p) (b.1 % p, b.2 % p)).2)), (γ3_7, l2 ((dpr p r c X Y X' Y' Z Z').1) ((dpr p r c X Y X' Y' Z Z').2)), (γ2_5, kd p r c gx gy), (γ1_0, pt X Y Z), (γ1_1, pt X' Y' Z'), (γ1_2, l2 a.1 a.2), (γ1_3, l2 b.1 b.2)] ∧ _) := growB H4 hM (Nat.le_refl _) hl [7] rfl (by decide)
  have o5_7 := ownB H4 hM (Nat.le_refl _) hl (i := 7) rfl
  clear hM hl l H4
  generalize γ 7 = γ5_7 at H5 o5_7 ⊢
  clear γ
  refine rest0 rfl (then_normal (wp_seq ?_))
  refine walk_seqA 1 [.made (l2 0 0) 49] (sB H5) ?ho6 ?he6
  case ho6 => exact ak (fun γ => ⟨rfl, fun w' => ex_made49 rfl⟩) trivial
  intro γ w6 l hM hl
  have H6 : Hid (Mm w6 [(γ 0, l2 0 0), (γ5_7, l2 ((po p (a.1 % p, a.2 % p) n).1) ((po p (a.1 % p, a.2 % p) n).2)), (γ4_7, l2 ((pd p (a.1 % p, a.2 % p) (b.1 % p, b.2 % p)).1) ((pd p (a.1 % p, a.2 % p) (b.1 % p, b.2 % p)).2)), (γ3_7, l2 ((dpr p r c X Y X' Y' Z Z').1) ((dpr p r c X Y X' Y' Z Z').2)), (γ2_5, kd p r c gx gy), (γ1_0, pt X Y Z), (γ1_1, pt X' Y' Z'), (γ1_2, l2 a.1 a.2), (γ1_3, l2 b.1 b.2)] ∧ _) := growB H5 hM (Nat.le_refl _) hl [0] rfl (by decide)
  have o6_0 := ownB H5 hM (Nat.le_refl _) hl (i := 0) rfl
  clear hM hl l H5
  generalize γ 0 = γ6_0 at H6 o6_0 ⊢
  clear γ
  refine rest0 rfl (then_normal (wp_seq (wp_seq ?_)))
  refine walk_seqB 2 [.quiet (.bool true), .quiet (.bool false)] H6 ?ho7 ?he7
  case ho7 => exact ak (fun _ => ⟨rfl, fun _ _ => rfl⟩) (ak (by refine fun γ => ⟨rfl, fun w' h => ?_⟩; clear h; go_simp) trivial)
  intro _ w7 H7
  clear H6
  refine rest0 rfl (then_normal (wp_cond_false rfl ?_))
  refine wp_skip (then_normal ?_)
  refine wp_seq (wp_seq ?_)
  refine walk_anyB 28 [.quiet (.agg (l2 ((pd p (a.1 % p, a.2 % p) (b.1 % p, b.2 % p)).1) ((pd p (a.1 % p, a.2 % p) (b.1 % p, b.2 % p)).2)).toArray), .quiet (.agg (kd p r c gx gy).toArray), .quiet (.agg (kd p r c gx gy).toArray), .quiet (.agg (l2 a.1 a.2).toArray), .call (.agg (l2 (a.1 % p) (a.2 % p)).toArray), .quiet (.agg (kd p r c gx gy).toArray), .quiet (.agg (l2 b.1 b.2).toArray), .call (.agg (l2 (b.1 % p) (b.2 % p)).toArray), .call (.agg (l2 ((pd p (a.1 % p, a.2 % p) (b.1 % p, b.2 % p)).1) ((pd p (a.1 % p, a.2 % p) (b.1 % p, b.2 % p)).2)).toArray), .quiet (.bool false), .quiet (.bool false), .quiet (.int .i64 0), .quiet (.bool false), .quiet (.bool false), .quiet (.bool false), .quiet (.agg (l2 ((po p (a.1 % p, a.2 % p) n).1) ((po p (a.1 % p, a.2 % p) n).2)).toArray), .quiet (.agg (kd p r c gx gy).toArray), .quiet (.agg (kd p r c gx gy).toArray), .quiet (.agg (l2 a.1 a.2).toArray), .call (.agg (l2 (a.1 % p) (a.2 % p)).toArray), .quiet (U n), .call (.agg (l2 ((po p (a.1 % p, a.2 % p) n).1) ((po p (a.1 % p, a.2 % p) n).2)).toArray), .quiet (.bool false), .quiet (.bool false), .quiet (.bool false), .quiet (.int .i64 0), .quiet (.bool false), .quiet (.bool false)] H7 ?ho8 ?he8 (hL := ?hL8)
  case hL8 => exact trivial
  case ho8 => exact ak (fun γ => ⟨rfl, fun w' h => ex_loadT h 2 rfl rfl rfl Try.isAgg49 Try.sizeOf49 rfl rfl⟩) (ak (fun γ => ⟨rfl, fun w' h => ex_loadT h 4 rfl rfl rfl Try.isAgg27 Try.sizeOf27 rfl rfl⟩) (ak (fun γ => ⟨rfl, fun w' h => ex_loadT h 4 rfl rfl rfl Try.isAgg27 Try.sizeOf27 rfl rfl⟩) (ak (fun γ => ⟨rfl, fun w' h => ex_loadT h 7 rfl rfl rfl Try.isAgg49 Try.sizeOf49 rfl rfl⟩) (ak (fun γ => ⟨rfl, fun w' h => ⟨31, #[.agg (kd p r c gx gy).toArray, .agg (l2 a.1 a.2).toArray], exec_call rfl call31 rfl (mpn rfl), dOf2_any k.f.q.k.pr a w'⟩⟩) (ak (fun γ => ⟨rfl, fun w' h => ex_loadT h 4 rfl rfl rfl Try.isAgg27 Try.sizeOf27 rfl rfl⟩) (ak (fun γ => ⟨rfl, fun w' h => ex_loadT h 8 rfl rfl rfl Try.isAgg49 Try.sizeOf49 rfl rfl⟩) (ak (fun γ => ⟨rfl, fun w' h => ⟨31, #[.agg (kd p r c gx gy).toArray, .agg (l2 b.1 b.2).toArray], exec_call rfl call31 rfl (mpn rfl), dOf2_any k.f.q.k.pr b w'⟩⟩) (ak (fun γ => ⟨rfl, fun w' h => ⟨30, #[.agg (kd p r c gx gy).toArray, .agg (l2 (a.1 % p) (a.2 % p)).toArray, .agg (l2 (b.1 % p) (b.2 % p)).toArray], exec_call rfl call30 rfl (mpn rfl), dTimes_any k.f.q.k.pr (a.1 % p, a.2 % p) (b.1 % p, b.2 % p) ⟨(Nat.mod_lt _ (zero_lt k.f.q.k.pr)), (Nat.mod_lt _ (zero_lt k.f.q.k.pr))⟩ ⟨(Nat.mod_lt _ (zero_lt k.f.q.k.pr)), (Nat.mod_lt _ (zero_lt k.f.q.k.pr))⟩ w'⟩⟩) (ak (fun γ => ⟨rfl, fun w' _ => exec_neqT49 (fun w => eqL_self _ _ w) rfl rfl rfl⟩) (ak (fun _ => ⟨rfl, fun _ _ => rfl⟩) (ak (fun _ => ⟨rfl, fun _ _ => rfl⟩) (ak (by refine fun γ => ⟨rfl, fun w' h => ?_⟩; clear h; go_simp) (ak (by refine fun γ => ⟨rfl, fun w' h => ?_⟩; clear h; go_simp) (ak (fun _ => ⟨rfl, fun _ _ => rfl⟩) (ak (fun γ => ⟨rfl, fun w' h => ex_loadT h 1 rfl rfl rfl Try.isAgg49 Try.sizeOf49 rfl rfl⟩) (ak (fun γ => ⟨rfl, fun w' h => ex_loadT h 4 rfl rfl rfl Try.isAgg27 Try.sizeOf27 rfl rfl⟩) (ak (fun γ => ⟨rfl, fun w' h => ex_loadT h 4 rfl rfl rfl Try.isAgg27 Try.sizeOf27 rfl rfl⟩) (ak (fun γ => ⟨rfl, fun w' h => ex_loadT h 7 rfl rfl rfl Try.isAgg49 Try.sizeOf49 rfl rfl⟩) (ak (fun γ => ⟨rfl, fun w' h => ⟨31, #[.agg (kd p r c gx gy).toArray, .agg (l2 a.1 a.2).toArray], exec_call rfl call31 rfl (mpn rfl), dOf2_any k.f.q.k.pr a w'⟩⟩) (ak (fun _ => ⟨rfl, fun _ _ => rfl⟩) (ak (fun γ => ⟨rfl, fun w' h => ⟨32, #[.agg (kd p r c gx gy).toArray, .agg (l2 (a.1 % p) (a.2 % p)).toArray, U n], exec_call rfl call32 rfl (mpn rfl), (have := k.f.q.ne; dPower_any k.f.q.k.pr (a.1 % p, a.2 % p) ⟨(Nat.mod_lt _ (zero_lt k.f.q.k.pr)), (Nat.mod_lt _ (zero_lt k.f.q.k.pr))⟩ n hn w')⟩⟩) (ak (fun γ => ⟨rfl, fun w' _ => exec_neqT49 (fun w => eqL_self _ _ w) rfl rfl rfl⟩) (ak (by refine fun γ => ⟨rfl, fun w' h => ?_⟩; clear h; go_simp) (ak (fun _ => ⟨rfl, fun _ _ => rfl⟩) (ak (fun _ => ⟨rfl, fun _ _ => rfl⟩) (ak (by refine fun γ => ⟨rfl, fun w' h => ?_⟩; clear h; go_simp) (ak (by refine fun γ => ⟨rfl, fun w' h => ?_⟩; clear h; go_simp) trivial)))))))))))))))))))))))))))
  intro _ w8 H8
  clear H7
  refine rest0 rfl (then_normal (wp_cond_false rfl ?_))
  refine wp_skip (then_normal ?_)
  refine wp_seq (wp_seq ?_)
  refine walk_seqB 10 [.quiet (.agg (kd p r c gx gy).toArray), .quiet (.agg (pt X Y Z).toArray), .call (.bool true), .quiet (.bool false), .quiet (.bool false), .quiet (.agg (kd p r c gx gy).toArray), .quiet (.agg (pt X' Y' Z').toArray), .call (.bool true), .quiet (.bool false), .quiet (.bool false)] H8 ?ho9 ?he9
  case ho9 => exact ak (fun γ => ⟨rfl, fun w' h => ex_loadT h 4 rfl rfl rfl Try.isAgg27 Try.sizeOf27 rfl rfl⟩) (ak (fun γ => ⟨rfl, fun w' h => ex_loadT h 5 rfl rfl rfl Try.isAgg25 Try.sizeOf25 rfl rfl⟩) (ak (fun γ => ⟨rfl, fun w' h => ⟨23, #[.agg (kd p r c gx gy).toArray, .agg (pt X Y Z).toArray], exec_call rfl call23 rfl (mpn rfl), In_ig k X Y Z _ h1 w'⟩⟩) (ak (by refine fun γ => ⟨rfl, fun w' h => ?_⟩; clear h; go_simp) (ak (fun _ => ⟨rfl, fun _ _ => rfl⟩) (ak (fun γ => ⟨rfl, fun w' h => ex_loadT h 4 rfl rfl rfl Try.isAgg27 Try.sizeOf27 rfl rfl⟩) (ak (fun γ => ⟨rfl, fun w' h => ex_loadT h 6 rfl rfl rfl Try.isAgg25 Try.sizeOf25 rfl rfl⟩) (ak (fun γ => ⟨rfl, fun w' h => ⟨23, #[.agg (kd p r c gx gy).toArray, .agg (pt X' Y' Z').toArray], exec_call rfl call23 rfl (mpn rfl), In_ig k X' Y' Z' _ h2 w'⟩⟩) (ak (by refine fun γ => ⟨rfl, fun w' h => ?_⟩; clear h; go_simp) (ak (by refine fun γ => ⟨rfl, fun w' h => ?_⟩; clear h; go_simp) trivial)))))))))
  intro _ w9 H9
  clear H8
  refine rest0 rfl (then_normal (wp_cond_false rfl ?_))
  refine wp_skip (then_normal (wp_seq ?_))
  refine walk_anyB 11 [.quiet (.agg (l2 ((dpr p r c X Y X' Y' Z Z').1) ((dpr p r c X Y X' Y' Z Z').2)).toArray), .quiet (.agg (kd p r c gx gy).toArray), .quiet (.agg (pt X Y Z).toArray), .quiet (.agg (pt X' Y' Z').toArray), .call (.agg (l2 ((dpr p r c X Y X' Y' Z Z').1) ((dpr p r c X Y X' Y' Z Z').2)).toArray), .quiet (.bool true), .quiet (.bool true), .quiet (.int .i64 0), .quiet (.bool true), .quiet (.bool true), .quiet (.bool true)] H9 ?ho10 ?he10
  case ho10 => exact ak (fun γ => ⟨rfl, fun w' h => ex_loadT h 3 rfl rfl rfl Try.isAgg49 Try.sizeOf49 rfl rfl⟩) (ak (fun γ => ⟨rfl, fun w' h => ex_loadT h 4 rfl rfl rfl Try.isAgg27 Try.sizeOf27 rfl rfl⟩) (ak (fun γ => ⟨rfl, fun w' h => ex_loadT h 5 rfl rfl rfl Try.isAgg25 Try.sizeOf25 rfl rfl⟩) (ak (fun γ => ⟨rfl, fun w' h => ex_loadT h 6 rfl rfl rfl Try.isAgg25 Try.sizeOf25 rfl rfl⟩) (ak (fun γ => ⟨rfl, fun w' h => ⟨33, #[.agg (kd p r c gx gy).toArray, .agg (pt X Y Z).toArray, .agg (pt X' Y' Z').toArray], exec_call rfl call33 rfl (mpn rfl), (have := k.f.q.ne; dPair_any k.f.q.k.pr k.f.q.k.rb k.f.q.k.cb X Y Z (ig_lt k.f.q.k.pr h1).1 (ig_lt k.f.q.k.pr h1).2 X' Y' Z' (ig_lt k.f.q.k.pr h2).1 (ig_lt k.f.q.k.pr h2).2 w')⟩⟩) (ak (fun γ => ⟨rfl, fun w' _ => exec_eqT49 (fun w => eqL_self _ _ w) rfl rfl rfl⟩) (ak (fun _ => ⟨rfl, fun _ _ => rfl⟩) (ak (fun _ => ⟨rfl, fun _ _ => rfl⟩) (ak (by refine fun γ => ⟨rfl, fun w' h => ?_⟩; clear h; go_simp) (ak (by refine fun γ => ⟨rfl, fun w' h => ?_⟩; clear h; go_simp) (ak (fun _ => ⟨rfl, fun _ _ => rfl⟩) trivial))))))))))
  intro _ w10 H10
  clear H9
  refine rest0 rfl (then_normal (wp_ret ?_))
  repeat (first | refine then_ret ?_ | refine block_ret ?_)
  refine bodyPost_ret (v := .bool true) (by simp [results, Try.results4, go_sem, *]) rfl ?_
  exact ⟨rfl, H10.out.2⟩
set_option maxHeartbeats 4000000 in
set_option maxRecDepth 100000 in
theorem pairs_no (s : Int) (h1 : s ≠ 1) (h2 : s ≠ 2) (X Y : Nat) (Z : Bool) (X' Y' : Nat) (Z' : Bool) (a b : E2) (n : Nat) (w : World) :
    Calls Try.prog 4 #[.int .i64 s, .agg (pt X Y Z).toArray, .agg (pt X' Y' Z').toArray, .agg (l2 a.1 a.2).toArray, .agg (l2 b.1 b.2).toArray, U n] w fun e w' => e = .returned (.bool true) ∧ Below w.heap.size w w' := by
  have H0 : Hid (_ ∧ _) := ⟨Mm.nil w, Below.refl w.heap.size w⟩
  go_enter Try.func4, Try.ntmps4
  refine wp_seq ?_
  refine walk_seqA 5 [.made (pt X Y Z) 25, .made (pt X' Y' Z') 25, .made (l2 a.1 a.2) 49, .made (l2 b.1 b.2) 49, .quiet (.bool false)] (sB H0) ?ho1 ?he1
  case ho1 => exact ak (fun γ => ⟨rfl, fun w' => ex_boxT rfl rfl⟩) (ak (fun γ => ⟨rfl, fun w' => ex_boxT rfl rfl⟩) (ak (fun γ => ⟨rfl, fun w' => ex_boxT rfl rfl⟩) (ak (fun γ => ⟨rfl, fun w' => ex_boxT rfl rfl⟩) (ak (fun _ => ⟨rfl, fun _ _ => rfl⟩) trivial))))
  intro γ w1 l hM hl
  have H1 : Hid (Mm w1 [(γ 0, pt X Y Z), (γ 1, pt X' Y' Z'), (γ 2, l2 a.1 a.2), (γ 3, l2 b.1 b.2)] ∧ _) := growB H0 hM (Nat.le_refl _) hl [0, 1, 2, 3] rfl (by decide)
  have o1_0 := ownB H0 hM (Nat.le_refl _) hl (i := 0) rfl
  have o1_1 := ownB H0 hM (Nat.le_refl _) hl (i := 1) rfl
  have o1_2 := ownB H0 hM (Nat.le_refl _) hl (i := 2) rfl
  have o1_3 := ownB H0 hM (Nat.le_refl _) hl (i := 3) rfl
  clear hM hl l
  generalize γ 0 = γ1_0 at H1 o1_0 ⊢
  generalize γ 1 = γ1_1 at H1 o1_1 ⊢
  generalize γ 2 = γ1_2 at H1 o1_2 ⊢
  generalize γ 3 = γ1_3 at H1 o1_3 ⊢
  clear γ
  refine rest0 rfl (then_normal (wp_seq ?_))
  refine walk_seqA 8 [.quiet (.int .i64 s), .call (.tuple #[.agg (kd 0 0 0 0 0).toArray, .bool false]), .quiet (.tuple #[.agg (kd 0 0 0 0 0).toArray, .bool false]), .quiet (.agg (kd 0 0 0 0 0).toArray), .quiet (.bool false), .made (kd 0 0 0 0 0) 27, .laid 5 (kd 0 0 0 0 0) (kd 0 0 0 0 0), .quiet (.bool false)] (sB H1) ?ho2 ?he2 (hL := ?hL2)
  case hL2 => exact ⟨⟨_, rfl⟩, trivial⟩
  case ho2 => exact ak (fun _ => ⟨rfl, fun _ _ => rfl⟩) (ak (fun γ => ⟨rfl, fun w' h => ⟨10, #[.int .i64 s], exec_call rfl call10 rfl (mpn rfl), Of_no s h1 h2 w'⟩⟩) (ak (fun _ => ⟨rfl, fun _ _ => rfl⟩) (ak (by refine fun γ => ⟨rfl, fun w' h => ?_⟩; clear h; go_simp) (ak (by refine fun γ => ⟨rfl, fun w' h => ?_⟩; clear h; go_simp) (ak (fun γ => ⟨rfl, fun w' => ex_made27 rfl⟩) (ak (fun γ => ⟨rfl, rfl, rfl, fun w' h => ex_laidT h rfl rfl Try.sizeOf27 rfl rfl rfl⟩) (ak (fun _ => ⟨rfl, fun _ _ => rfl⟩) trivial)))))))
  intro γ w2 l hM hl
  have H2 : Hid (Mm w2 [(γ 5, kd 0 0 0 0 0), (γ1_0, pt X Y Z), (γ1_1, pt X' Y' Z'), (γ1_2, l2 a.1 a.2), (γ1_3, l2 b.1 b.2)] ∧ _) := growB H1 hM (Nat.le_refl _) hl [5] rfl (by decide)
  have o2_5 := ownB H1 hM (Nat.le_refl _) hl (i := 5) rfl
  clear hM hl l H1
  generalize γ 5 = γ2_5 at H2 o2_5 ⊢
  clear γ
  refine rest0 rfl (then_normal (wp_seq ?_))
  refine walk_seqA 10 [.quiet (.int .i64 s), .quiet (.agg (pt X Y Z).toArray), .quiet (.agg (pt X' Y' Z').toArray), .call (.tuple #[.agg (l2 0 0).toArray, .int .i64 2]), .quiet (.tuple #[.agg (l2 0 0).toArray, .int .i64 2]), .quiet (.agg (l2 0 0).toArray), .quiet (.int .i64 2), .made (l2 0 0) 49, .laid 7 (l2 0 0) (l2 0 0), .quiet (.int .i64 2)] (sB H2) ?ho3 ?he3 (hL := ?hL3)
  case hL3 => exact ⟨⟨_, rfl⟩, trivial⟩
  case ho3 => exact ak (fun _ => ⟨rfl, fun _ _ => rfl⟩) (ak (fun γ => ⟨rfl, fun w' h => ex_loadT h 1 rfl rfl rfl Try.isAgg25 Try.sizeOf25 rfl rfl⟩) (ak (fun γ => ⟨rfl, fun w' h => ex_loadT h 2 rfl rfl rfl Try.isAgg25 Try.sizeOf25 rfl rfl⟩) (ak (fun γ => ⟨rfl, fun w' h => ⟨27, #[.int .i64 s, .agg (pt X Y Z).toArray, .agg (pt X' Y' Z').toArray], exec_call rfl call27 rfl (mpn rfl), Pair_no s h1 h2 X Y Z X' Y' Z' w'⟩⟩) (ak (fun _ => ⟨rfl, fun _ _ => rfl⟩) (ak (by refine fun γ => ⟨rfl, fun w' h => ?_⟩; clear h; go_simp) (ak (by refine fun γ => ⟨rfl, fun w' h => ?_⟩; clear h; go_simp) (ak (fun γ => ⟨rfl, fun w' => ex_made49 rfl⟩) (ak (fun γ => ⟨rfl, rfl, rfl, fun w' h => ex_laidT h rfl rfl Try.sizeOf49 rfl rfl rfl⟩) (ak (fun _ => ⟨rfl, fun _ _ => rfl⟩) trivial)))))))))
  intro γ w3 l hM hl
  have H3 : Hid (Mm w3 [(γ 7, l2 0 0), (γ2_5, kd 0 0 0 0 0), (γ1_0, pt X Y Z), (γ1_1, pt X' Y' Z'), (γ1_2, l2 a.1 a.2), (γ1_3, l2 b.1 b.2)] ∧ _) := growB H2 hM (Nat.le_refl _) hl [7] rfl (by decide)
  have o3_7 := ownB H2 hM (Nat.le_refl _) hl (i := 7) rfl
  clear hM hl l H2
  generalize γ 7 = γ3_7 at H3 o3_7 ⊢
  clear γ
  refine rest0 rfl (then_normal (wp_seq ?_))
  refine walk_seqA 10 [.quiet (.int .i64 s), .quiet (.agg (l2 a.1 a.2).toArray), .quiet (.agg (l2 b.1 b.2).toArray), .call (.tuple #[.agg (l2 0 0).toArray, .int .i64 2]), .quiet (.tuple #[.agg (l2 0 0).toArray, .int .i64 2]), .quiet (.agg (l2 0 0).toArray), .quiet (.int .i64 2), .made (l2 0 0) 49, .laid 7 (l2 0 0) (l2 0 0), .quiet (.int .i64 2)] (sB H3) ?ho4 ?he4 (hL := ?hL4)
  case hL4 => exact ⟨⟨_, rfl⟩, trivial⟩
  case ho4 => exact ak (fun _ => ⟨rfl, fun _ _ => rfl⟩) (ak (fun γ => ⟨rfl, fun w' h => ex_loadT h 4 rfl rfl rfl Try.isAgg49 Try.sizeOf49 rfl rfl⟩) (ak (fun γ => ⟨rfl, fun w' h => ex_loadT h 5 rfl rfl rfl Try.isAgg49 Try.sizeOf49 rfl rfl⟩) (ak (fun γ => ⟨rfl, fun w' h => ⟨28, #[.int .i64 s, .agg (l2 a.1 a.2).toArray, .agg (l2 b.1 b.2).toArray], exec_call rfl call28 rfl (mpn rfl), Times_no s h1 h2 a b w'⟩⟩) (ak (fun _ => ⟨rfl, fun _ _ => rfl⟩) (ak (by refine fun γ => ⟨rfl, fun w' h => ?_⟩; clear h; go_simp) (ak (by refine fun γ => ⟨rfl, fun w' h => ?_⟩; clear h; go_simp) (ak (fun γ => ⟨rfl, fun w' => ex_made49 rfl⟩) (ak (fun γ => ⟨rfl, rfl, rfl, fun w' h => ex_laidT h rfl rfl Try.sizeOf49 rfl rfl rfl⟩) (ak (fun _ => ⟨rfl, fun _ _ => rfl⟩) trivial)))))))))
  intro γ w4 l hM hl
  have H4 : Hid (Mm w4 [(γ 7, l2 0 0), (γ3_7, l2 0 0), (γ2_5, kd 0 0 0 0 0), (γ1_0, pt X Y Z), (γ1_1, pt X' Y' Z'), (γ1_2, l2 a.1 a.2), (γ1_3, l2 b.1 b.2)] ∧ _) := growB H3 hM (Nat.le_refl _) hl [7] rfl (by decide)
  have o4_7 := ownB H3 hM (Nat.le_refl _) hl (i := 7) rfl
  clear hM hl l H3
  generalize γ 7 = γ4_7 at H4 o4_7 ⊢
  clear γ
  refine rest0 rfl (then_normal (wp_seq ?_))
  refine walk_seqA 10 [.quiet (.int .i64 s), .quiet (.agg (l2 a.1 a.2).toArray), .quiet (U n), .call (.tuple #[.agg (l2 0 0).toArray, .int .i64 2]), .quiet (.tuple #[.agg (l2 0 0).toArray, .int .i64 2]), .quiet (.agg (l2 0 0).toArray), .quiet (.int .i64 2), .made (l2 0 0) 49, .laid 7 (l2 0 0) (l2 0 0), .quiet (.int .i64 2)] (sB H4) ?ho5 ?he5 (hL := ?hL5)
  case hL5 => exact ⟨⟨_, rfl⟩, trivial⟩
  case ho5 => exact ak (fun _ => ⟨rfl, fun _ _ => rfl⟩) (ak (fun γ => ⟨rfl, fun w' h => ex_loadT h 5 rfl rfl rfl Try.isAgg49 Try.sizeOf49 rfl rfl⟩) (ak (fun _ => ⟨rfl, fun _ _ => rfl⟩) (ak (fun γ => ⟨rfl, fun w' h => ⟨29, #[.int .i64 s, .agg (l2 a.1 a.2).toArray, U n], exec_call rfl call29 rfl (mpn rfl), Power_no s h1 h2 a n w'⟩⟩) (ak (fun _ => ⟨rfl, fun _ _ => rfl⟩) (ak (by refine fun γ => ⟨rfl, fun w' h => ?_⟩; clear h; go_simp) (ak (by refine fun γ => ⟨rfl, fun w' h => ?_⟩; clear h; go_simp) (ak (fun γ => ⟨rfl, fun w' => ex_made49 rfl⟩) (ak (fun γ => ⟨rfl, rfl, rfl, fun w' h => ex_laidT h rfl rfl Try.sizeOf49 rfl rfl rfl⟩) (ak (fun _ => ⟨rfl, fun _ _ => rfl⟩) trivial)))))))))
  intro γ w5 l hM hl
  have H5 : Hid (Mm w5 [(γ 7, l2 0 0), (γ4_7, l2 0 0), (γ3_7, l2 0 0), (γ2_5, kd 0 0 0 0 0), (γ1_0, pt X Y Z), (γ1_1, pt X' Y' Z'), (γ1_2, l2 a.1 a.2), (γ1_3, l2 b.1 b.2)] ∧ _) := growB H4 hM (Nat.le_refl _) hl [7] rfl (by decide)
  have o5_7 := ownB H4 hM (Nat.le_refl _) hl (i := 7) rfl
  clear hM hl l H4
  generalize γ 7 = γ5_7 at H5 o5_7 ⊢
  clear γ
  refine rest0 rfl (then_normal (wp_seq ?_))
  refine walk_seqA 1 [.made (l2 0 0) 49] (sB H5) ?ho6 ?he6
  case ho6 => exact ak (fun γ => ⟨rfl, fun w' => ex_made49 rfl⟩) trivial
  intro γ w6 l hM hl
  have H6 : Hid (Mm w6 [(γ 0, l2 0 0), (γ5_7, l2 0 0), (γ4_7, l2 0 0), (γ3_7, l2 0 0), (γ2_5, kd 0 0 0 0 0), (γ1_0, pt X Y Z), (γ1_1, pt X' Y' Z'), (γ1_2, l2 a.1 a.2), (γ1_3, l2 b.1 b.2)] ∧ _) := growB H5 hM (Nat.le_refl _) hl [0] rfl (by decide)
  have o6_0 := ownB H5 hM (Nat.le_refl _) hl (i := 0) rfl
  clear hM hl l H5
  generalize γ 0 = γ6_0 at H6 o6_0 ⊢
  clear γ
  refine rest0 rfl (then_normal (wp_seq (wp_seq ?_)))
  refine walk_seqB 2 [.quiet (.bool false), .quiet (.bool true)] H6 ?ho7 ?he7
  case ho7 => exact ak (fun _ => ⟨rfl, fun _ _ => rfl⟩) (ak (by refine fun γ => ⟨rfl, fun w' h => ?_⟩; clear h; go_simp) trivial)
  intro _ w7 H7
  clear H6
  refine rest0 rfl (then_normal (wp_cond_true rfl (wp_seq ?_)))
  refine walk_seqB 26 [.quiet (.agg (l2 0 0).toArray), .quiet (.agg (l2 0 0).toArray), .quiet (.bool true), .quiet (.bool true), .quiet (.int .i64 2), .quiet (.bool true), .quiet (.bool true), .quiet (.bool true), .quiet (.agg (l2 0 0).toArray), .quiet (.agg (l2 0 0).toArray), .quiet (.bool true), .quiet (.bool true), .quiet (.bool true), .quiet (.int .i64 2), .quiet (.bool true), .quiet (.bool true), .quiet (.bool true), .quiet (.agg (l2 0 0).toArray), .quiet (.agg (l2 0 0).toArray), .quiet (.bool true), .quiet (.bool true), .quiet (.bool true), .quiet (.int .i64 2), .quiet (.bool true), .quiet (.bool true), .quiet (.bool true)] H7 ?ho8 ?he8 (hL := ?hL8)
  case hL8 => exact trivial
  case ho8 => exact ak (fun γ => ⟨rfl, fun w' h => ex_loadT h 3 rfl rfl rfl Try.isAgg49 Try.sizeOf49 rfl rfl⟩) (ak (fun γ => ⟨rfl, fun w' h => ex_loadT h 0 rfl rfl rfl Try.isAgg49 Try.sizeOf49 rfl rfl⟩) (ak (fun γ => ⟨rfl, fun w' _ => exec_eqT49 (fun w => eqL_self _ _ w) rfl rfl rfl⟩) (ak (fun _ => ⟨rfl, fun _ _ => rfl⟩) (ak (fun _ => ⟨rfl, fun _ _ => rfl⟩) (ak (by refine fun γ => ⟨rfl, fun w' h => ?_⟩; clear h; go_simp) (ak (by refine fun γ => ⟨rfl, fun w' h => ?_⟩; clear h; go_simp) (ak (fun _ => ⟨rfl, fun _ _ => rfl⟩) (ak (fun γ => ⟨rfl, fun w' h => ex_loadT h 2 rfl rfl rfl Try.isAgg49 Try.sizeOf49 rfl rfl⟩) (ak (fun γ => ⟨rfl, fun w' h => ex_loadT h 0 rfl rfl rfl Try.isAgg49 Try.sizeOf49 rfl rfl⟩) (ak (fun γ => ⟨rfl, fun w' _ => exec_eqT49 (fun w => eqL_self _ _ w) rfl rfl rfl⟩) (ak (by refine fun γ => ⟨rfl, fun w' h => ?_⟩; clear h; go_simp) (ak (fun _ => ⟨rfl, fun _ _ => rfl⟩) (ak (fun _ => ⟨rfl, fun _ _ => rfl⟩) (ak (by refine fun γ => ⟨rfl, fun w' h => ?_⟩; clear h; go_simp) (ak (by refine fun γ => ⟨rfl, fun w' h => ?_⟩; clear h; go_simp) (ak (fun _ => ⟨rfl, fun _ _ => rfl⟩) (ak (fun γ => ⟨rfl, fun w' h => ex_loadT h 1 rfl rfl rfl Try.isAgg49 Try.sizeOf49 rfl rfl⟩) (ak (fun γ => ⟨rfl, fun w' h => ex_loadT h 0 rfl rfl rfl Try.isAgg49 Try.sizeOf49 rfl rfl⟩) (ak (fun γ => ⟨rfl, fun w' _ => exec_eqT49 (fun w => eqL_self _ _ w) rfl rfl rfl⟩) (ak (by refine fun γ => ⟨rfl, fun w' h => ?_⟩; clear h; go_simp) (ak (fun _ => ⟨rfl, fun _ _ => rfl⟩) (ak (fun _ => ⟨rfl, fun _ _ => rfl⟩) (ak (by refine fun γ => ⟨rfl, fun w' h => ?_⟩; clear h; go_simp) (ak (by refine fun γ => ⟨rfl, fun w' h => ?_⟩; clear h; go_simp) (ak (fun _ => ⟨rfl, fun _ _ => rfl⟩) trivial)))))))))))))))))))))))))
  intro _ w8 H8
  clear H7
  refine rest0 rfl (then_normal (wp_ret ?_))
  repeat (first | refine then_ret ?_ | refine block_ret ?_)
  refine bodyPost_ret (v := .bool true) (by simp [results, Try.results4, go_sem, *]) rfl ?_
  exact ⟨rfl, H8.out.2⟩
theorem pairs_kr (k : Kr s p r c gx gy) (X Y : Nat) (Z : Bool) (X' Y' : Nat) (Z' : Bool) (a b : E2) (n : Nat) (hn : n < 18446744073709551616) (w : World) : Calls Try.prog 4 #[.int .i64 s, .agg (pt X Y Z).toArray, .agg (pt X' Y' Z').toArray, .agg (l2 a.1 a.2).toArray, .agg (l2 b.1 b.2).toArray, U n] w fun e w' => e = .returned (.bool true) ∧ Below w.heap.size w w' := by
  cases h1 : ig p r X Y Z
  · exact pairs_f k X Y Z X' Y' Z' a b n hn h1 w
  · cases h2 : ig p r X' Y' Z'
    · exact pairs_tf k X Y Z X' Y' Z' a b n hn h1 h2 w
    · exact pairs_tt k X Y Z X' Y' Z' a b n hn h1 h2 w
end
theorem pairs_e2 (s : Int) (X Y : Nat) (Z : Bool) (X' Y' : Nat) (Z' : Bool) (a b : E2) (n : Nat) (hn : n < 18446744073709551616) (w : World) : Calls Try.prog 4 #[.int .i64 s, .agg (pt X Y Z).toArray, .agg (pt X' Y' Z').toArray, .agg (l2 a.1 a.2).toArray, .agg (l2 b.1 b.2).toArray, U n] w fun e w' => e = .returned (.bool true) ∧ Below w.heap.size w w' := by
  by_cases h1 : s = 1
  · subst h1; exact pairs_kr kr_1 X Y Z X' Y' Z' a b n hn w
  · by_cases h2 : s = 2
    · subst h2; exact pairs_kr kr_2 X Y Z X' Y' Z' a b n hn w
    · exact pairs_no s h1 h2 X Y Z X' Y' Z' a b n w
theorem pairs_any (s : Int) (X Y : Nat) (Z : Bool) (X' Y' : Nat) (Z' : Bool) (a0 a1 b0 b1 : Nat) (n : Nat) (hn : n < 18446744073709551616) (w : World) : Calls Try.prog 4 #[.int .i64 s, .agg (pt X Y Z).toArray, .agg (pt X' Y' Z').toArray, .agg (l2 a0 a1).toArray, .agg (l2 b0 b1).toArray, U n] w fun e w' => e = .returned (.bool true) ∧ Below w.heap.size w w' :=
  pairs_e2 s X Y Z X' Y' Z' (a0, a1) (b0, b1) n hn w
end Rg
end Go.Proofs.Ytjmbgchoioepjaa
end
section
namespace Go.Proofs.Ytjmbgchoioepjaa
open Go.ChangeShapes Go.WideShapes Go.ChangeAt Go.RowKit
theorem Try.own : ownKnob Try.prog.godebug = none := by kernel_rfl
theorem Try.laidOut : laidOutB Try.prog = true := by kernel_rfl
section
variable {H : Type} {enc : TypeId × Value → H} {w : World} {base : Nat} {sp : Nat → Bool} {held : Bool}
set_option maxRecDepth 100000 in
theorem cells_U {fuel : Nat} {cs : List Value} {x : DataW H × List MemPlace} (h : DataW.trod enc Try.prog w base sp held fuel 23 cs = some x) : (∃ a : Nat, a < 18446744073709551616 ∧ cs = [Rg.U a]) ∧ x.2 = [] := by
  obtain ⟨n, e1, e2, e3⟩ := DataW.trod_int Try.underlying23 h
  have hb := bounds_u64 e3
  exact ⟨⟨n.toNat, by omega, by rw [e1, Rg.U, Int.toNat_of_nonneg hb.1]⟩, by rw [e2]⟩
set_option maxRecDepth 100000 in
theorem cells_L1 {fuel : Nat} {cs : List Value} {x : DataW H × List MemPlace} (h : DataW.trod enc Try.prog w base sp held fuel 25 cs = some x) : (∃ a b z, a < 18446744073709551616 ∧ b < 18446744073709551616 ∧ cs = Rg.pt a b z) ∧ x.2 = [] := by
  obtain ⟨xs, n, -, hx, hl, hn, hel⟩ := DataW.trod_struct Try.underlying25 h
  have hl' : cs.length = 3 := hl.trans (by kernel_rfl)
  have hn' : xs.length = 3 := hn
  obtain ⟨c0, c1, c2, rfl⟩ : ∃ c0 c1 c2, cs = [c0, c1, c2] := by
    match cs, hl' with
    | [c0, c1, c2], _ => exact ⟨c0, c1, c2, rfl⟩
  match xs, hn' with
  | [x0, x1, x2], _ =>
    have f0 : DataW.trod enc Try.prog w base sp held n 23 [c0] = some x0 := by
      have f : DataW.trod enc Try.prog w base sp held n 23 ((([c0, c1, c2] : List Value).drop 0).take (Try.prog.cellsOf 23)) = some x0 := hel 0 _ rfl
      rw [show Try.prog.cellsOf 23 = 1 by kernel_rfl] at f
      exact f
    have f1 : DataW.trod enc Try.prog w base sp held n 23 [c1] = some x1 := by
      have f : DataW.trod enc Try.prog w base sp held n 23 ((([c0, c1, c2] : List Value).drop 1).take (Try.prog.cellsOf 23)) = some x1 := hel 1 _ rfl
      rw [show Try.prog.cellsOf 23 = 1 by kernel_rfl] at f
      exact f
    have f2 : DataW.trod enc Try.prog w base sp held n 4 [c2] = some x2 := by
      have f : DataW.trod enc Try.prog w base sp held n 4 ((([c0, c1, c2] : List Value).drop 2).take (Try.prog.cellsOf 4)) = some x2 := hel 2 _ rfl
      rw [show Try.prog.cellsOf 4 = 1 by kernel_rfl] at f
      exact f
    obtain ⟨⟨a, ha, e0⟩, q0⟩ := cells_U f0
    obtain ⟨⟨b, hb, e1⟩, q1⟩ := cells_U f1
    obtain ⟨z, e2, q2⟩ := DataW.trod_bool Try.underlying4 f2
    refine ⟨⟨a, b, z, ha, hb, ?_⟩, ?_⟩
    · injection e0 with e0 _
      injection e1 with e1 _
      injection e2 with e2 _
      rw [e0, e1, e2]
    · rw [hx]
      show x0.2 ++ (x1.2 ++ (x2.2 ++ [])) = []
      rw [q0, q1, q2]
      rfl
end
section
variable {H : Type} {enc : TypeId × Value → H} {w : World} {base : Nat} {sp : Nat → Bool} {held : Bool} {r : Reach} {b0 : Nat} {v : Value} {d : DataW H} {ps : List MemPlace}
set_option maxRecDepth 100000 in
theorem open_L1 (hval : Value.okWide Try.prog w r b0 25 v) (hd : DataW.Trod enc Try.prog w base sp held 25 v d ps) : ∃ a b z, a < 18446744073709551616 ∧ b < 18446744073709551616 ∧ v = Rg.V (Rg.pt a b z) ∧ ps = [] := by
  unfold Value.okWide at hval
  rw [Try.underlying25] at hval
  obtain ⟨cs, rfl, hsz, _⟩ := hval
  obtain ⟨fuel, hf⟩ := hd
  obtain ⟨⟨a, b, z, ha, hb, e⟩, hx⟩ := cells_L1 hf
  refine ⟨a, b, z, ha, hb, ?_, hx⟩
  have e2 : cs.toList = Rg.pt a b z := e
  rw [Rg.V, ← e2, Array.toArray_toList]
set_option maxRecDepth 100000 in
theorem open_U (hval : Value.okWide Try.prog w r b0 23 v) (hd : DataW.Trod enc Try.prog w base sp held 23 v d ps) : ∃ a : Nat, a < 18446744073709551616 ∧ v = Rg.U a ∧ ps = [] := by
  obtain ⟨n, rfl, rfl, rfl, hn⟩ := open_int Try.underlying23 hval hd
  have hb := bounds_u64 hn
  exact ⟨n.toNat, by omega, by rw [Rg.U, Int.toNat_of_nonneg hb.1], rfl⟩
end
section
variable {H : Type} {enc : TypeId × Value → H} {w : World} {base : Nat} {sp : Nat → Bool} {held : Bool} {r : Reach} {b0 : Nat} {v : Value} {d : DataW H} {ps : List MemPlace}
end
theorem u_stays {H : Type} {enc : TypeId × Value → H} {W W' : World} {v : Value} {d : DataW H}
    (h : DataW.Trod enc Try.prog W 0 (fun _ => true) true 23 v d []) (hb : Below W.heap.size W W') :
    DataW.Trod enc Try.prog W' 0 (fun b => decide (b < W.heap.size)) true 23 v d [] :=
  Below.trod Try.laidOut (by kernel_rfl) (by decide +kernel) h hb (fun _ hx => by cases hx)
theorem l1_stays {H : Type} {enc : TypeId × Value → H} {W W' : World} {v : Value} {d : DataW H}
    (h : DataW.Trod enc Try.prog W 0 (fun _ => true) true 25 v d []) (hb : Below W.heap.size W W') :
    DataW.Trod enc Try.prog W' 0 (fun b => decide (b < W.heap.size)) true 25 v d [] :=
  Below.trod Try.laidOut (by kernel_rfl) (by decide +kernel) h hb (fun _ hx => by cases hx)
section
variable {H : Type} {enc : TypeId × Value → H} {P : Program} {w : World} {base : Nat} {spare : Nat → Bool} {held : Bool}
theorem trodAll_six {t0 t1 t2 t3 t4 t5 : TypeId} {args : Array Value} {ds : List (DataW H)} {ps : List MemPlace} (h : DataW.TrodAll enc P w base spare held [t0, t1, t2, t3, t4, t5] args.toList ds ps) :
    ∃ v0 v1 v2 v3 v4 v5 d0 d1 d2 d3 d4 d5 p0 p1 p2 p3 p4 p5, args = #[v0, v1, v2, v3, v4, v5] ∧ ds = [d0, d1, d2, d3, d4, d5] ∧ ps = p0 ++ p1 ++ p2 ++ p3 ++ p4 ++ p5 ∧ DataW.Trod enc P w base spare held t0 v0 d0 p0 ∧ DataW.Trod enc P w base spare held t1 v1 d1 p1 ∧ DataW.Trod enc P w base spare held t2 v2 d2 p2 ∧ DataW.Trod enc P w base spare held t3 v3 d3 p3 ∧ DataW.Trod enc P w base spare held t4 v4 d4 p4 ∧ DataW.Trod enc P w base spare held t5 v5 d5 p5 := by
  obtain ⟨v0, vs, d0, ds', p0, q, hargs, rfl, rfl, h0, r0⟩ := trodAll_cons h
  obtain ⟨v1, vs', d1, ds'', p1, q', rfl, rfl, rfl, h1, r1⟩ := trodAll_cons r0
  obtain ⟨v2, vs'', d2, ds3, p2, q'', rfl, rfl, rfl, h2, r2⟩ := trodAll_cons r1
  obtain ⟨v3, vs3, d3, ds4, p3, q3, rfl, rfl, rfl, h3, r3⟩ := trodAll_cons r2
  obtain ⟨v4, vs4, d4, ds5, p4, q4, rfl, rfl, rfl, h4, r4⟩ := trodAll_cons r3
  obtain ⟨v5, vs5, d5, ds6, p5, q5, rfl, rfl, rfl, h5, r5⟩ := trodAll_cons r4
  obtain ⟨rfl, rfl, rfl⟩ := trodAll_nil r5
  exact ⟨v0, v1, v2, v3, v4, v5, d0, d1, d2, d3, d4, d5, p0, p1, p2, p3, p4, p5, by cases args; simp_all, rfl, by simp, h0, h1, h2, h3, h4, h5⟩
theorem trodAll_mk6 {t0 t1 t2 t3 t4 t5 : TypeId} {v0 v1 v2 v3 v4 v5 : Value} {d0 d1 d2 d3 d4 d5 : DataW H} {p0 p1 p2 p3 p4 p5 : List MemPlace} (h0 : DataW.Trod enc P w base spare held t0 v0 d0 p0) (h1 : DataW.Trod enc P w base spare held t1 v1 d1 p1) (h2 : DataW.Trod enc P w base spare held t2 v2 d2 p2) (h3 : DataW.Trod enc P w base spare held t3 v3 d3 p3) (h4 : DataW.Trod enc P w base spare held t4 v4 d4 p4) (h5 : DataW.Trod enc P w base spare held t5 v5 d5 p5) : DataW.TrodAll enc P w base spare held [t0, t1, t2, t3, t4, t5] [v0, v1, v2, v3, v4, v5] [d0, d1, d2, d3, d4, d5] (p0 ++ (p1 ++ (p2 ++ (p3 ++ (p4 ++ p5))))) :=
  ⟨p0, _, h0, ⟨p1, _, h1, trodAll_mk4 h2 h3 h4 h5, rfl⟩, rfl⟩
end
end Go.Proofs.Ytjmbgchoioepjaa
end
section
namespace Go.Proofs.Ytjmbgchoioepjaa
open Go.ChangeShapes Go.WideShapes Go.ChangeAt Go.RowKit
section
variable {H : Type} {enc : TypeId × Value → H} {w : World} {base : Nat} {sp : Nat → Bool} {held : Bool} {r : Reach} {b0 : Nat} {v : Value} {d : DataW H} {ps : List MemPlace}
set_option maxRecDepth 100000 in
theorem open_L2 (hval : Value.okWide Try.prog w r b0 49 v) (hd : DataW.Trod enc Try.prog w base sp held 49 v d ps) : ∃ a b, a < 18446744073709551616 ∧ b < 18446744073709551616 ∧ v = Rg.V (Rg.l2 a b) ∧ ps = [] := by
  have hu : Try.prog.underlying 49 = some (.array 2 23) := by kernel_rfl
  unfold Value.okWide at hval
  rw [hu] at hval
  obtain ⟨cs, rfl, hsz, _⟩ := hval
  obtain ⟨fuel, hf⟩ := hd
  obtain ⟨xs, m, -, hx, hl, hn, hel⟩ := DataW.trod_array hu hf
  have hc : Try.prog.cellsOf 23 = 1 := by kernel_rfl
  have hc2 : Try.prog.cellsOf 49 = 2 := by kernel_rfl
  rw [hc2] at hsz
  have hl' : cs.toList.length = 2 := hsz
  have hn' : xs.length = 2 := hn
  have f0 := hel 0 (by decide)
  have f1 := hel 1 (by decide)
  rw [hc, show (Value.agg cs).cells.toList = cs.toList from rfl] at f0 f1
  obtain ⟨c0, c1, hcs⟩ : ∃ c0 c1, cs.toList = [c0, c1] := by
    generalize cs.toList = l at hl'
    match l, hl' with
    | [c0, c1], _ => exact ⟨c0, c1, rfl⟩
  rw [hcs] at f0 f1
  match xs, hn' with
  | [x0, x1], _ =>
    have g0 : DataW.trod enc Try.prog w base sp held m 23 [c0] = some x0 := f0
    have g1 : DataW.trod enc Try.prog w base sp held m 23 [c1] = some x1 := f1
    obtain ⟨⟨a, ha, e0⟩, q0⟩ := cells_U g0
    obtain ⟨⟨b, hb, e1⟩, q1⟩ := cells_U g1
    refine ⟨a, b, ha, hb, ?_, ?_⟩
    · injection e0 with e0 _
      injection e1 with e1 _
      rw [e0, e1] at hcs
      have e2 : cs.toList = Rg.l2 a b := hcs
      rw [Rg.V, ← e2, Array.toArray_toList]
    · have hx2 : ps = ([x0, x1] : List _).flatMap (·.2) := congrArg Prod.snd hx
      rw [hx2]
      show x0.2 ++ (x1.2 ++ []) = []
      rw [q0, q1]
      rfl
end
theorem l2_stays {H : Type} {enc : TypeId × Value → H} {W W' : World} {v : Value} {d : DataW H}
    (h : DataW.Trod enc Try.prog W 0 (fun _ => true) true 49 v d []) (hb : Below W.heap.size W W') :
    DataW.Trod enc Try.prog W' 0 (fun b => decide (b < W.heap.size)) true 49 v d [] :=
  Below.trod Try.laidOut (by kernel_rfl) (by decide +kernel) h hb (fun _ hx => by cases hx)
end Go.Proofs.Ytjmbgchoioepjaa
end
