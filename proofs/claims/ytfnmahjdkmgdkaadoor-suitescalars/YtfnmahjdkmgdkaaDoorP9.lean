/- Texts of the proof, joined. -/
import Derived.Test.YtfnmahjdkmgdkaaDoorP8
import Derived.ProofKit
import Derived.OpenShut
import Derived.Test.YtfnmahjdkmgdkaaDoorRows
import Derived.LaidMore
import Derived.Stop.Joined
import Derived.Test.YtfnmahjdkmgdkaaDoorTie
section
namespace Go.Proofs.YtfnmahjdkmgdkaaDoor
open Go.RowKit
namespace Rg
set_option maxRecDepth 100000
/-- The document's functions of a suite. -/
structure Dc (s : Int) (r : Nat) : Prop where
  ord : ∀ w, Calls Tryd.prog 29 #[.int .i64 s] w fun e w' => e = .returned (N r) ∧ Below w.heap.size w w'
  add : ∀ {a b : Nat}, a < r → b < r → ∀ w, Calls Tryd.prog 32 #[.int .i64 s, N a, N b] w fun e w' => e = .returned (N ((a + b) % r)) ∧ Below w.heap.size w w'
  mul : ∀ {a b : Nat}, a < r → b < r → ∀ w, Calls Tryd.prog 34 #[.int .i64 s, N a, N b] w fun e w' => e = .returned (N (a * b % r)) ∧ Below w.heap.size w w'
  inv : ∀ {a : Nat}, a < r → ∀ w, Calls Tryd.prog 31 #[.int .i64 s, N a] w fun e w' => e = .returned (N (a ^ (r - 2) % r)) ∧ Below w.heap.size w w'
theorem cmpd_below {a r : Nat} (h : a < r) (hr : r < big) (w : World) : Calls Tryd.prog 54 #[N a, N r] w fun e w' => e = .returned (.int .i64 (-1)) ∧ Below w.heap.size w w' := by
  have e := compare_ref a r (Nat.lt_trans h hr) hr w
  rw [cmp_lt h] at e
  exact e
set_option maxRecDepth 100000 in
theorem dSca_yes {s : Int} {r a : Nat} (hD : Dc s r) (hr : r < big) (ha : a < r) (w : World) :
    Calls Tryd.prog 28 #[.int .i64 s, N a] w fun e w' => e = .returned (.bool true) ∧ Below w.heap.size w w' := by
  have H0 : Hid (_ ∧ _) := ⟨Mm.nil w, Below.refl w.heap.size w⟩
  go_enter Tryd.func28, Tryd.ntmps28
  refine wp_seq ?_
  refine walk_seqA 2 [.made (cells6 a) 24, .quiet (.bool false)] (sB H0) ?ho1 ?he1
  case ho1 => exact ak (fun γ => ⟨rfl, fun w' => ex_box6 rfl rfl⟩) (ak (fun _ => ⟨rfl, fun _ _ => rfl⟩) trivial)
  intro γ w1 l hM hl
  have H1 : Hid (Mm w1 [(γ 0, cells6 a)] ∧ _) := growB H0 hM (Nat.le_refl _) hl [0] rfl (by decide)
  have o1_0 := ownB H0 hM (Nat.le_refl _) hl (i := 0) rfl
  clear hM hl l
  generalize γ 0 = γ1_0 at H1 o1_0 ⊢
  clear γ
  refine rest0 rfl (then_normal (wp_seq ?_))
  refine walk_anyB 6 [.quiet (N a), .quiet (.int .i64 s), .call (N r), .call (.int .i64 (-1)), .quiet (.bool true), .quiet (.bool true)] H1 ?ho2 ?he2
  case ho2 => exact ak (fun γ => ⟨rfl, fun w' h => ex_load6 h 0 rfl rfl rfl rfl⟩) (ak (fun _ => ⟨rfl, fun _ _ => rfl⟩) (ak (fun γ => ⟨rfl, fun w' h => ⟨29, #[.int .i64 s], exec_call rfl call29 rfl (mpn rfl), hD.ord w'⟩⟩) (ak (fun γ => ⟨rfl, fun w' h => ⟨54, #[N a, N r], exec_call rfl call54 rfl (mpn rfl), cmpd_below ha hr w'⟩⟩) (ak (by refine fun γ => ⟨rfl, fun w' h => ?_⟩; clear h; go_simp) (ak (fun _ => ⟨rfl, fun _ _ => rfl⟩) trivial)))))
  intro _ w2 H2
  clear H1
  refine rest0 rfl (then_normal (wp_ret ?_))
  repeat (first | refine then_ret ?_ | refine block_ret ?_)
  refine bodyPost_ret (v := .bool true) (by simp [results, Tryd.results28, go_sem, *]) rfl ?_
  exact ⟨rfl, H2.out.2⟩
set_option maxRecDepth 100000 in
theorem dSca_no {s : Int} {r a : Nat} (hD : Dc s r) (hr : r < big) (hb : a < big) (ha : ¬ a < r) (w : World) :
    Calls Tryd.prog 28 #[.int .i64 s, N a] w fun e w' => e = .returned (.bool false) ∧ Below w.heap.size w w' := by
  have H0 : Hid (_ ∧ _) := ⟨Mm.nil w, Below.refl w.heap.size w⟩
  go_enter Tryd.func28, Tryd.ntmps28
  refine wp_seq ?_
  refine walk_seqA 2 [.made (cells6 a) 24, .quiet (.bool false)] (sB H0) ?ho1 ?he1
  case ho1 => exact ak (fun γ => ⟨rfl, fun w' => ex_box6 rfl rfl⟩) (ak (fun _ => ⟨rfl, fun _ _ => rfl⟩) trivial)
  intro γ w1 l hM hl
  have H1 : Hid (Mm w1 [(γ 0, cells6 a)] ∧ _) := growB H0 hM (Nat.le_refl _) hl [0] rfl (by decide)
  have o1_0 := ownB H0 hM (Nat.le_refl _) hl (i := 0) rfl
  clear hM hl l
  generalize γ 0 = γ1_0 at H1 o1_0 ⊢
  clear γ
  refine rest0 rfl (then_normal (wp_seq ?_))
  refine walk_anyB 6 [.quiet (N a), .quiet (.int .i64 s), .call (N r), .call (.int .i64 (cmpv a r)), .quiet (.bool false), .quiet (.bool false)] H1 ?ho2 ?he2
  case ho2 => exact ak (fun γ => ⟨rfl, fun w' h => ex_load6 h 0 rfl rfl rfl rfl⟩) (ak (fun _ => ⟨rfl, fun _ _ => rfl⟩) (ak (fun γ => ⟨rfl, fun w' h => ⟨29, #[.int .i64 s], exec_call rfl call29 rfl (mpn rfl), hD.ord w'⟩⟩) (ak (fun γ => ⟨rfl, fun w' h => ⟨54, #[N a, N r], exec_call rfl call54 rfl (mpn rfl), compare_ref a r hb hr w'⟩⟩) (ak (by refine fun γ => ⟨rfl, fun w' h => ?_⟩; clear h; have := cmpv_ge ha; go_simp) (ak (fun _ => ⟨rfl, fun _ _ => rfl⟩) trivial)))))
  intro _ w2 H2
  clear H1
  refine rest0 rfl (then_normal (wp_ret ?_))
  repeat (first | refine then_ret ?_ | refine block_ret ?_)
  refine bodyPost_ret (v := .bool false) (by simp [results, Tryd.results28, go_sem, *]) rfl ?_
  exact ⟨rfl, H2.out.2⟩
set_option maxRecDepth 100000 in
theorem dNeg_0 {s : Int} {a : Nat} (he : ∀ w, (Op.equalIn 10000 24 (N a) (N 0)).run Tryd.prog w = .ok true w) (w : World) :
    Calls Tryd.prog 30 #[.int .i64 s, N a] w fun e w' => e = .returned (N a) ∧ Below w.heap.size w w' := by
  have H0 : Hid (_ ∧ _) := ⟨Mm.nil w, Below.refl w.heap.size w⟩
  go_enter Tryd.func30, Tryd.ntmps30
  refine wp_seq ?_
  refine walk_seqA 2 [.made (cells6 a) 24, .made zero6 24] (sB H0) ?ho1 ?he1
  case ho1 => exact ak (fun γ => ⟨rfl, fun w' => ex_box6 rfl rfl⟩) (ak (fun γ => ⟨rfl, fun w' => exec_made6 rfl⟩) trivial)
  intro γ w1 l hM hl
  have H1 : Hid (Mm w1 [(γ 0, cells6 a), (γ 1, zero6)] ∧ _) := growB H0 hM (Nat.le_refl _) hl [0, 1] rfl (by decide)
  have o1_0 := ownB H0 hM (Nat.le_refl _) hl (i := 0) rfl
  have o1_1 := ownB H0 hM (Nat.le_refl _) hl (i := 1) rfl
  clear hM hl l
  generalize γ 0 = γ1_0 at H1 o1_0 ⊢
  generalize γ 1 = γ1_1 at H1 o1_1 ⊢
  clear γ
  refine rest0 rfl (then_normal (wp_seq (wp_seq ?_)))
  refine walk_seqB 3 [.quiet (N a), .quiet (N 0), .quiet (.bool true)] H1 ?ho2 ?he2
  case ho2 => exact ak (fun γ => ⟨rfl, fun w' h => ex_load6 h 0 rfl rfl rfl rfl⟩) (ak (by refine fun γ => ⟨rfl, fun w' h => ?_⟩; clear h; exact ex_zero6 rfl) (ak (fun γ => ⟨rfl, fun w' _ => exec_eq6 he rfl rfl rfl⟩) trivial))
  intro _ w2 H2
  clear H1
  refine rest0 rfl (then_normal (wp_cond_true rfl (wp_seq ?_)))
  refine walk_seqB 1 [.quiet (N a)] H2 ?ho3 ?he3
  case ho3 => exact ak (fun γ => ⟨rfl, fun w' h => ex_load6 h 0 rfl rfl rfl rfl⟩) trivial
  intro _ w3 H3
  clear H2
  refine rest_at (l := [1]) rfl ?_
  refine rest_store rfl rfl rfl (ex_store6 H3.out.1 1 rfl rfl rfl rfl (Nat.le_of_ble_eq_true rfl)) ?_
  have H4 : Hid (Mm (w3.setCells γ1_1 0 (cells6 a)) [(γ1_0, cells6 a), (γ1_1, cells6 a)] ∧ Below w.heap.size w (w3.setCells γ1_1 0 (cells6 a))) := ⟨H3.out.1.put 1 (off := 0) (vs := cells6 a) rfl (Nat.le_of_ble_eq_true rfl), below_setCells _ o1_1.out _ _ _ H3.out.2⟩
  clear H3
  generalize hgw : World.setCells _ _ _ _ = w4 at H4 ⊢
  clear hgw
  refine rest_nil (then_normal (wp_ret ?_))
  repeat (first | refine then_ret ?_ | refine block_ret ?_)
  have c0 := H4.out.1.get 1 rfl 0 rfl
  have c1 := H4.out.1.get 1 rfl 1 rfl
  have c2 := H4.out.1.get 1 rfl 2 rfl
  have c3 := H4.out.1.get 1 rfl 3 rfl
  have c4 := H4.out.1.get 1 rfl 4 rfl
  have c5 := H4.out.1.get 1 rfl 5 rfl
  refine bodyPost_ret (v := N a) (by simp [results, Tryd.results30, go_sem, *]) rfl ?_
  exact ⟨rfl, H4.out.2⟩
set_option maxRecDepth 100000 in
theorem dNeg_1 {s : Int} {r a d : Nat} (hD : Dc s r) {bb : Bool} (he : ∀ w, (Op.equalIn 10000 24 (N a) (N 0)).run Tryd.prog w = .ok false w) (hs : ∀ w, Calls Tryd.prog 57 #[N r, N a] w fun e w' => e = .returned (.tuple #[N d, .bool bb]) ∧ Below w.heap.size w w') (w : World) :
    Calls Tryd.prog 30 #[.int .i64 s, N a] w fun e w' => e = .returned (N d) ∧ Below w.heap.size w w' := by
  have H0 : Hid (_ ∧ _) := ⟨Mm.nil w, Below.refl w.heap.size w⟩
  have HS : Hid _ := hs
  clear hs
  go_enter Tryd.func30, Tryd.ntmps30
  refine wp_seq ?_
  refine walk_seqA 2 [.made (cells6 a) 24, .made zero6 24] (sB H0) ?ho1 ?he1
  case ho1 => exact ak (fun γ => ⟨rfl, fun w' => ex_box6 rfl rfl⟩) (ak (fun γ => ⟨rfl, fun w' => exec_made6 rfl⟩) trivial)
  intro γ w1 l hM hl
  have H1 : Hid (Mm w1 [(γ 0, cells6 a), (γ 1, zero6)] ∧ _) := growB H0 hM (Nat.le_refl _) hl [0, 1] rfl (by decide)
  have o1_0 := ownB H0 hM (Nat.le_refl _) hl (i := 0) rfl
  have o1_1 := ownB H0 hM (Nat.le_refl _) hl (i := 1) rfl
  clear hM hl l
  generalize γ 0 = γ1_0 at H1 o1_0 ⊢
  generalize γ 1 = γ1_1 at H1 o1_1 ⊢
  clear γ
  refine rest0 rfl (then_normal (wp_seq (wp_seq ?_)))
  refine walk_seqB 3 [.quiet (N a), .quiet (N 0), .quiet (.bool false)] H1 ?ho2 ?he2
  case ho2 => exact ak (fun γ => ⟨rfl, fun w' h => ex_load6 h 0 rfl rfl rfl rfl⟩) (ak (by refine fun γ => ⟨rfl, fun w' h => ?_⟩; clear h; exact ex_zero6 rfl) (ak (fun γ => ⟨rfl, fun w' _ => exec_eq6 he rfl rfl rfl⟩) trivial))
  intro _ w2 H2
  clear H1
  refine rest0 rfl (then_normal (wp_cond_false rfl ?_))
  refine wp_skip (then_normal (wp_seq ?_))
  refine walk_anyA 10 [.quiet (.int .i64 s), .call (N r), .quiet (N a), .call (.tuple #[N d, .bool bb]), .quiet (.tuple #[N d, .bool bb]), .quiet (N d), .quiet (.bool bb), .made zero6 24, .laid 7 zero6 (cells6 d), .quiet (.bool bb)] (sB H2) ?ho3 ?he3 (hL := ?hL3)
  case hL3 => exact ⟨⟨_, rfl⟩, trivial⟩
  case ho3 => exact ak (fun _ => ⟨rfl, fun _ _ => rfl⟩) (ak (fun γ => ⟨rfl, fun w' h => ⟨29, #[.int .i64 s], exec_call rfl call29 rfl (mpn rfl), hD.ord w'⟩⟩) (ak (fun γ => ⟨rfl, fun w' h => ex_load6 h 0 rfl rfl rfl rfl⟩) (ak (fun γ => ⟨rfl, fun w' h => ⟨57, #[N r, N a], exec_call rfl call57 rfl (mpn rfl), HS.out w'⟩⟩) (ak (fun _ => ⟨rfl, fun _ _ => rfl⟩) (ak (by refine fun γ => ⟨rfl, fun w' h => ?_⟩; clear h; go_simp) (ak (by refine fun γ => ⟨rfl, fun w' h => ?_⟩; clear h; go_simp) (ak (fun γ => ⟨rfl, fun w' => exec_made6 rfl⟩) (ak (fun γ => ⟨rfl, rfl, rfl, fun w' h => exec_laid6 h rfl rfl rfl⟩) (ak (fun _ => ⟨rfl, fun _ _ => rfl⟩) trivial)))))))))
  intro γ w3 l hM hl
  have H3 : Hid (Mm w3 [(γ 7, cells6 d), (γ1_0, cells6 a), (γ1_1, zero6)] ∧ _) := growB H2 hM (Nat.le_refl _) hl [7] rfl (by decide)
  have o3_7 := ownB H2 hM (Nat.le_refl _) hl (i := 7) rfl
  clear hM hl l H2
  generalize γ 7 = γ3_7 at H3 o3_7 ⊢
  clear γ
  refine rest0 rfl (then_normal (wp_seq ?_))
  refine walk_seqB 1 [.quiet (N d)] H3 ?ho4 ?he4
  case ho4 => exact ak (fun γ => ⟨rfl, fun w' h => ex_load6 h 0 rfl rfl rfl rfl⟩) trivial
  intro _ w4 H4
  clear H3
  refine rest_at (l := [1]) rfl ?_
  refine rest_store rfl rfl rfl (ex_store6 H4.out.1 2 rfl rfl rfl rfl (Nat.le_of_ble_eq_true rfl)) ?_
  have H5 : Hid (Mm (w4.setCells γ1_1 0 (cells6 d)) [(γ3_7, cells6 d), (γ1_0, cells6 a), (γ1_1, cells6 d)] ∧ Below w.heap.size w (w4.setCells γ1_1 0 (cells6 d))) := ⟨H4.out.1.put 2 (off := 0) (vs := cells6 d) rfl (Nat.le_of_ble_eq_true rfl), below_setCells _ o1_1.out _ _ _ H4.out.2⟩
  clear H4
  generalize hgw : World.setCells _ _ _ _ = w5 at H5 ⊢
  clear hgw
  refine rest_nil (then_normal (wp_ret ?_))
  repeat (first | refine then_ret ?_ | refine block_ret ?_)
  have c0 := H5.out.1.get 2 rfl 0 rfl
  have c1 := H5.out.1.get 2 rfl 1 rfl
  have c2 := H5.out.1.get 2 rfl 2 rfl
  have c3 := H5.out.1.get 2 rfl 3 rfl
  have c4 := H5.out.1.get 2 rfl 4 rfl
  have c5 := H5.out.1.get 2 rfl 5 rfl
  refine bodyPost_ret (v := N d) (by simp [results, Tryd.results30, go_sem, *]) rfl ?_
  exact ⟨rfl, H5.out.2⟩
theorem dNeg {s : Int} {r a : Nat} (hD : Dc s r) (hr : r < big) (ha : a < r) (w : World) : Calls Tryd.prog 30 #[.int .i64 s, N a] w fun e w' => e = .returned (N (subm r 0 a)) ∧ Below w.heap.size w w' := by
  have hab := Nat.lt_trans ha hr
  have es : subm r 0 a = (r - a) % r := by unfold subm; rw [Nat.zero_add, Nat.mod_eq_of_lt ha]
  by_cases h : a = 0
  · have e := dNeg_0 (s := s) (a := a) (fun w => by rw [run_eqN a 0 hab big_pos, decide_eq_true h]) w
    rw [es, h, Nat.sub_zero, Nat.mod_self]
    rw [h] at e
    exact e
  · have hs := fun w => sub_ref r a hr hab w
    rw [show r + big - a = (r - a) + big by omega, Nat.add_mod_right, Nat.mod_eq_of_lt (by omega : r - a < big)] at hs
    rw [es, Nat.mod_eq_of_lt (by omega)]
    exact dNeg_1 hD (fun w => by rw [run_eqN a 0 hab big_pos, decide_eq_false h]) hs w
set_option maxRecDepth 100000 in
theorem dSub_w {s : Int} {a b n d : Nat} (h1 : ∀ w, Calls Tryd.prog 30 #[.int .i64 s, N b] w fun e w' => e = .returned (N n) ∧ Below w.heap.size w w') (h2 : ∀ w, Calls Tryd.prog 32 #[.int .i64 s, N a, N n] w fun e w' => e = .returned (N d) ∧ Below w.heap.size w w') (w : World) :
    Calls Tryd.prog 33 #[.int .i64 s, N a, N b] w fun e w' => e = .returned (N d) ∧ Below w.heap.size w w' := by
  have H0 : Hid (_ ∧ _) := ⟨Mm.nil w, Below.refl w.heap.size w⟩
  have Ha : Hid _ := h1
  have Hb : Hid _ := h2
  clear h1 h2
  go_enter Tryd.func33, Tryd.ntmps33
  refine wp_seq ?_
  refine walk_seqA 3 [.made (cells6 a) 24, .made (cells6 b) 24, .made zero6 24] (sB H0) ?ho1 ?he1
  case ho1 => exact ak (fun γ => ⟨rfl, fun w' => ex_box6 rfl rfl⟩) (ak (fun γ => ⟨rfl, fun w' => ex_box6 rfl rfl⟩) (ak (fun γ => ⟨rfl, fun w' => exec_made6 rfl⟩) trivial))
  intro γ w1 l hM hl
  have H1 : Hid (Mm w1 [(γ 0, cells6 a), (γ 1, cells6 b), (γ 2, zero6)] ∧ _) := growB H0 hM (Nat.le_refl _) hl [0, 1, 2] rfl (by decide)
  have o1_0 := ownB H0 hM (Nat.le_refl _) hl (i := 0) rfl
  have o1_1 := ownB H0 hM (Nat.le_refl _) hl (i := 1) rfl
  have o1_2 := ownB H0 hM (Nat.le_refl _) hl (i := 2) rfl
  clear hM hl l
  generalize γ 0 = γ1_0 at H1 o1_0 ⊢
  generalize γ 1 = γ1_1 at H1 o1_1 ⊢
  generalize γ 2 = γ1_2 at H1 o1_2 ⊢
  clear γ
  refine rest0 rfl (then_normal (wp_seq ?_))
  refine walk_anyB 6 [.quiet (.int .i64 s), .quiet (N a), .quiet (.int .i64 s), .quiet (N b), .call (N n), .call (N d)] H1 ?ho2 ?he2
  case ho2 => exact ak (fun _ => ⟨rfl, fun _ _ => rfl⟩) (ak (fun γ => ⟨rfl, fun w' h => ex_load6 h 0 rfl rfl rfl rfl⟩) (ak (fun _ => ⟨rfl, fun _ _ => rfl⟩) (ak (fun γ => ⟨rfl, fun w' h => ex_load6 h 1 rfl rfl rfl rfl⟩) (ak (fun γ => ⟨rfl, fun w' h => ⟨30, #[.int .i64 s, N b], exec_call rfl call30 rfl (mpn rfl), Ha.out w'⟩⟩) (ak (fun γ => ⟨rfl, fun w' h => ⟨32, #[.int .i64 s, N a, N n], exec_call rfl call32 rfl (mpn rfl), Hb.out w'⟩⟩) trivial)))))
  intro _ w2 H2
  clear H1
  refine rest_at (l := [6]) rfl ?_
  refine rest_store rfl rfl rfl (ex_store6 H2.out.1 2 rfl rfl rfl rfl (Nat.le_of_ble_eq_true rfl)) ?_
  have H3 : Hid (Mm (w2.setCells γ1_2 0 (cells6 d)) [(γ1_0, cells6 a), (γ1_1, cells6 b), (γ1_2, cells6 d)] ∧ Below w.heap.size w (w2.setCells γ1_2 0 (cells6 d))) := ⟨H2.out.1.put 2 (off := 0) (vs := cells6 d) rfl (Nat.le_of_ble_eq_true rfl), below_setCells _ o1_2.out _ _ _ H2.out.2⟩
  clear H2
  generalize hgw : World.setCells _ _ _ _ = w3 at H3 ⊢
  clear hgw
  refine rest_nil (then_normal (wp_ret ?_))
  repeat (first | refine then_ret ?_ | refine block_ret ?_)
  have c0 := H3.out.1.get 2 rfl 0 rfl
  have c1 := H3.out.1.get 2 rfl 1 rfl
  have c2 := H3.out.1.get 2 rfl 2 rfl
  have c3 := H3.out.1.get 2 rfl 3 rfl
  have c4 := H3.out.1.get 2 rfl 4 rfl
  have c5 := H3.out.1.get 2 rfl 5 rfl
  refine bodyPost_ret (v := N d) (by simp [results, Tryd.results33, go_sem, *]) rfl ?_
  exact ⟨rfl, H3.out.2⟩
theorem dSub {s : Int} {r a b : Nat} (hD : Dc s r) (hr : r < big) (ha : a < r) (hb : b < r) (w : World) : Calls Tryd.prog 33 #[.int .i64 s, N a, N b] w fun e w' => e = .returned (N (subm r a b)) ∧ Below w.heap.size w w' := by
  have hn : subm r 0 b < r := subm_lt_n (by omega) 0 b
  have h := dSub_w (fun w => dNeg hD hr hb w) (fun w => hD.add ha hn w) w
  have e : (a + subm r 0 b) % r = subm r a b := by
    unfold subm
    rw [Nat.add_mod_mod, Nat.zero_add]
  rw [e] at h
  exact h
set_option maxRecDepth 100000 in
theorem dIs_yes {s : Int} (h0 : 0 ≤ s) (h2 : s ≤ 2) (w : World) :
    Calls Tryd.prog 24 #[.int .i64 s] w fun e w' => e = .returned (.bool true) ∧ Below w.heap.size w w' := by
  have H0 : Hid (_ ∧ _) := ⟨Mm.nil w, Below.refl w.heap.size w⟩
  go_enter Tryd.func24, Tryd.ntmps24
  refine wp_seq ?_
  refine walk_seqB 1 [.quiet (.bool false)] H0 ?ho1 ?he1
  case ho1 => exact ak (fun _ => ⟨rfl, fun _ _ => rfl⟩) trivial
  intro _ w1 H1
  refine rest0 rfl (then_normal (wp_seq ?_))
  refine walk_seqB 7 [.quiet (.int .i64 s), .quiet (.bool true), .quiet (.bool true), .quiet (.int .i64 s), .quiet (.bool true), .quiet (.bool true), .quiet (.bool true)] H1 ?ho2 ?he2
  case ho2 => exact ak (fun _ => ⟨rfl, fun _ _ => rfl⟩) (ak (by refine fun γ => ⟨rfl, fun w' h => ?_⟩; clear h; go_simp <;> omega) (ak (fun _ => ⟨rfl, fun _ _ => rfl⟩) (ak (fun _ => ⟨rfl, fun _ _ => rfl⟩) (ak (by refine fun γ => ⟨rfl, fun w' h => ?_⟩; clear h; go_simp <;> omega) (ak (by refine fun γ => ⟨rfl, fun w' h => ?_⟩; clear h; go_simp) (ak (fun _ => ⟨rfl, fun _ _ => rfl⟩) trivial))))))
  intro _ w2 H2
  clear H1
  refine rest0 rfl (then_normal (wp_ret ?_))
  repeat (first | refine then_ret ?_ | refine block_ret ?_)
  refine bodyPost_ret (v := .bool true) (by simp [results, Tryd.results24, go_sem, *]) rfl ?_
  exact ⟨rfl, H2.out.2⟩
set_option maxRecDepth 100000 in
theorem dIs_low {s : Int} (h0 : ¬ 0 ≤ s) (w : World) :
    Calls Tryd.prog 24 #[.int .i64 s] w fun e w' => e = .returned (.bool false) ∧ Below w.heap.size w w' := by
  have H0 : Hid (_ ∧ _) := ⟨Mm.nil w, Below.refl w.heap.size w⟩
  go_enter Tryd.func24, Tryd.ntmps24
  refine wp_seq ?_
  refine walk_seqB 1 [.quiet (.bool false)] H0 ?ho1 ?he1
  case ho1 => exact ak (fun _ => ⟨rfl, fun _ _ => rfl⟩) trivial
  intro _ w1 H1
  refine rest0 rfl (then_normal (wp_seq ?_))
  refine walk_seqB 7 [.quiet (.int .i64 s), .quiet (.bool false), .quiet (.bool false), .gone, .gone, .quiet (.bool false), .quiet (.bool false)] H1 ?ho2 ?he2
  case ho2 => exact ak (fun _ => ⟨rfl, fun _ _ => rfl⟩) (ak (by refine fun γ => ⟨rfl, fun w' h => ?_⟩; clear h; go_simp <;> omega) (ak (fun _ => ⟨rfl, fun _ _ => rfl⟩) (ak (fun γ => rfl) (ak (fun γ => rfl) (ak (by refine fun γ => ⟨rfl, fun w' h => ?_⟩; clear h; go_simp) (ak (fun _ => ⟨rfl, fun _ _ => rfl⟩) trivial))))))
  intro _ w2 H2
  clear H1
  refine rest0 rfl (then_normal (wp_ret ?_))
  repeat (first | refine then_ret ?_ | refine block_ret ?_)
  refine bodyPost_ret (v := .bool false) (by simp [results, Tryd.results24, go_sem, *]) rfl ?_
  exact ⟨rfl, H2.out.2⟩
set_option maxRecDepth 100000 in
theorem dIs_high {s : Int} (h0 : 0 ≤ s) (h2 : ¬ s ≤ 2) (w : World) :
    Calls Tryd.prog 24 #[.int .i64 s] w fun e w' => e = .returned (.bool false) ∧ Below w.heap.size w w' := by
  have H0 : Hid (_ ∧ _) := ⟨Mm.nil w, Below.refl w.heap.size w⟩
  go_enter Tryd.func24, Tryd.ntmps24
  refine wp_seq ?_
  refine walk_seqB 1 [.quiet (.bool false)] H0 ?ho1 ?he1
  case ho1 => exact ak (fun _ => ⟨rfl, fun _ _ => rfl⟩) trivial
  intro _ w1 H1
  refine rest0 rfl (then_normal (wp_seq ?_))
  refine walk_seqB 7 [.quiet (.int .i64 s), .quiet (.bool true), .quiet (.bool true), .quiet (.int .i64 s), .quiet (.bool false), .quiet (.bool false), .quiet (.bool false)] H1 ?ho2 ?he2
  case ho2 => exact ak (fun _ => ⟨rfl, fun _ _ => rfl⟩) (ak (by refine fun γ => ⟨rfl, fun w' h => ?_⟩; clear h; go_simp <;> omega) (ak (fun _ => ⟨rfl, fun _ _ => rfl⟩) (ak (fun _ => ⟨rfl, fun _ _ => rfl⟩) (ak (by refine fun γ => ⟨rfl, fun w' h => ?_⟩; clear h; go_simp <;> omega) (ak (by refine fun γ => ⟨rfl, fun w' h => ?_⟩; clear h; go_simp) (ak (fun _ => ⟨rfl, fun _ _ => rfl⟩) trivial))))))
  intro _ w2 H2
  clear H1
  refine rest0 rfl (then_normal (wp_ret ?_))
  repeat (first | refine then_ret ?_ | refine block_ret ?_)
  refine bodyPost_ret (v := .bool false) (by simp [results, Tryd.results24, go_sem, *]) rfl ?_
  exact ⟨rfl, H2.out.2⟩
set_option maxRecDepth 100000 in
theorem num_no (a : Nat) (w : World) :
    Calls Tryd.prog 27 #[N 0, .int .i64 2, .bool false, N a] w fun e w' => e = .returned (.bool true) ∧ Below w.heap.size w w' := by
  have H0 : Hid (_ ∧ _) := ⟨Mm.nil w, Below.refl w.heap.size w⟩
  go_enter Tryd.func27, Tryd.ntmps27
  refine wp_seq ?_
  refine walk_seqA 3 [.made (cells6 0) 24, .made (cells6 a) 24, .quiet (.bool false)] (sB H0) ?ho1 ?he1
  case ho1 => exact ak (fun γ => ⟨rfl, fun w' => ex_box6 rfl rfl⟩) (ak (fun γ => ⟨rfl, fun w' => ex_box6 rfl rfl⟩) (ak (fun _ => ⟨rfl, fun _ _ => rfl⟩) trivial))
  intro γ w1 l hM hl
  have H1 : Hid (Mm w1 [(γ 0, cells6 0), (γ 1, cells6 a)] ∧ _) := growB H0 hM (Nat.le_refl _) hl [0, 1] rfl (by decide)
  have o1_0 := ownB H0 hM (Nat.le_refl _) hl (i := 0) rfl
  have o1_1 := ownB H0 hM (Nat.le_refl _) hl (i := 1) rfl
  clear hM hl l
  generalize γ 0 = γ1_0 at H1 o1_0 ⊢
  generalize γ 1 = γ1_1 at H1 o1_1 ⊢
  clear γ
  refine rest0 rfl (then_normal (wp_seq (wp_seq ?_)))
  refine walk_seqB 2 [.quiet (.bool false), .quiet (.bool true)] H1 ?ho2 ?he2
  case ho2 => exact ak (fun _ => ⟨rfl, fun _ _ => rfl⟩) (ak (by refine fun γ => ⟨rfl, fun w' h => ?_⟩; clear h; go_simp) trivial)
  intro _ w2 H2
  clear H1
  refine rest0 rfl (then_normal (wp_cond_true rfl (wp_seq ?_)))
  refine walk_seqB 8 [.quiet (N 0), .quiet (N 0), .quiet (.bool true), .quiet (.bool true), .quiet (.int .i64 2), .quiet (.bool true), .quiet (.bool true), .quiet (.bool true)] H2 ?ho3 ?he3
  case ho3 => exact ak (fun γ => ⟨rfl, fun w' h => ex_load6 (v := 0) h 0 rfl rfl rfl rfl⟩) (ak (by refine fun γ => ⟨rfl, fun w' h => ?_⟩; clear h; exact ex_zero6 rfl) (ak (fun γ => ⟨rfl, fun w' _ => exec_eq6 (eq_refl24 big_pos) rfl rfl rfl⟩) (ak (fun _ => ⟨rfl, fun _ _ => rfl⟩) (ak (fun _ => ⟨rfl, fun _ _ => rfl⟩) (ak (by refine fun γ => ⟨rfl, fun w' h => ?_⟩; clear h; go_simp) (ak (by refine fun γ => ⟨rfl, fun w' h => ?_⟩; clear h; go_simp) (ak (fun _ => ⟨rfl, fun _ _ => rfl⟩) trivial)))))))
  intro _ w3 H3
  clear H2
  refine rest0 rfl (then_normal (wp_ret ?_))
  repeat (first | refine then_ret ?_ | refine block_ret ?_)
  refine bodyPost_ret (v := .bool true) (by simp [results, Tryd.results27, go_sem, *]) rfl ?_
  exact ⟨rfl, H3.out.2⟩
set_option maxRecDepth 100000 in
theorem num_yes {x : Nat} (hx : x < big) (w : World) :
    Calls Tryd.prog 27 #[N x, .int .i64 0, .bool true, N x] w fun e w' => e = .returned (.bool true) ∧ Below w.heap.size w w' := by
  have H0 : Hid (_ ∧ _) := ⟨Mm.nil w, Below.refl w.heap.size w⟩
  go_enter Tryd.func27, Tryd.ntmps27
  refine wp_seq ?_
  refine walk_seqA 3 [.made (cells6 x) 24, .made (cells6 x) 24, .quiet (.bool false)] (sB H0) ?ho1 ?he1
  case ho1 => exact ak (fun γ => ⟨rfl, fun w' => ex_box6 rfl rfl⟩) (ak (fun γ => ⟨rfl, fun w' => ex_box6 rfl rfl⟩) (ak (fun _ => ⟨rfl, fun _ _ => rfl⟩) trivial))
  intro γ w1 l hM hl
  have H1 : Hid (Mm w1 [(γ 0, cells6 x), (γ 1, cells6 x)] ∧ _) := growB H0 hM (Nat.le_refl _) hl [0, 1] rfl (by decide)
  have o1_0 := ownB H0 hM (Nat.le_refl _) hl (i := 0) rfl
  have o1_1 := ownB H0 hM (Nat.le_refl _) hl (i := 1) rfl
  clear hM hl l
  generalize γ 0 = γ1_0 at H1 o1_0 ⊢
  generalize γ 1 = γ1_1 at H1 o1_1 ⊢
  clear γ
  refine rest0 rfl (then_normal (wp_seq (wp_seq ?_)))
  refine walk_seqB 2 [.quiet (.bool true), .quiet (.bool false)] H1 ?ho2 ?he2
  case ho2 => exact ak (fun _ => ⟨rfl, fun _ _ => rfl⟩) (ak (by refine fun γ => ⟨rfl, fun w' h => ?_⟩; clear h; go_simp) trivial)
  intro _ w2 H2
  clear H1
  refine rest0 rfl (then_normal (wp_cond_false rfl ?_))
  refine wp_skip (then_normal (wp_seq ?_))
  refine walk_seqB 8 [.quiet (N x), .quiet (N x), .quiet (.bool true), .quiet (.bool true), .quiet (.int .i64 0), .quiet (.bool true), .quiet (.bool true), .quiet (.bool true)] H2 ?ho3 ?he3
  case ho3 => exact ak (fun γ => ⟨rfl, fun w' h => ex_load6 h 0 rfl rfl rfl rfl⟩) (ak (fun γ => ⟨rfl, fun w' h => ex_load6 h 1 rfl rfl rfl rfl⟩) (ak (fun γ => ⟨rfl, fun w' _ => exec_eq6 (eq_refl24 hx) rfl rfl rfl⟩) (ak (fun _ => ⟨rfl, fun _ _ => rfl⟩) (ak (fun _ => ⟨rfl, fun _ _ => rfl⟩) (ak (by refine fun γ => ⟨rfl, fun w' h => ?_⟩; clear h; go_simp) (ak (by refine fun γ => ⟨rfl, fun w' h => ?_⟩; clear h; go_simp) (ak (fun _ => ⟨rfl, fun _ _ => rfl⟩) trivial)))))))
  intro _ w3 H3
  clear H2
  refine rest0 rfl (then_normal (wp_ret ?_))
  repeat (first | refine then_ret ?_ | refine block_ret ?_)
  refine bodyPost_ret (v := .bool true) (by simp [results, Tryd.results27, go_sem, *]) rfl ?_
  exact ⟨rfl, H3.out.2⟩
end Rg
end Go.Proofs.YtfnmahjdkmgdkaaDoor
end
section
namespace Go.Proofs.YtfnmahjdkmgdkaaDoor
open Go.RowKit
namespace Rg
set_option maxRecDepth 100000
set_option maxHeartbeats 4000000 in
set_option maxRecDepth 100000 in
theorem sc_none (s : Int) (a b  : Nat)
    (c0 : ∀ w, Calls Tryd.prog 24 #[.int .i64 s] w fun e w' => e = .returned (.bool false) ∧ Below w.heap.size w w')
    (c1 : ∀ w, Calls Tryd.prog 25 #[.int .i64 s] w fun e w' => e = .returned (.tuple #[N 0, .int .i64 2]) ∧ Below w.heap.size w w')
    (c2 : ∀ w, Calls Tryd.prog 20 #[.int .i64 s, N a, N b] w fun e w' => e = .returned (.tuple #[N 0, .int .i64 2]) ∧ Below w.heap.size w w')
    (c3 : ∀ w, Calls Tryd.prog 21 #[.int .i64 s, N a, N b] w fun e w' => e = .returned (.tuple #[N 0, .int .i64 2]) ∧ Below w.heap.size w w')
    (c4 : ∀ w, Calls Tryd.prog 19 #[.int .i64 s, N a, N b] w fun e w' => e = .returned (.tuple #[N 0, .int .i64 2]) ∧ Below w.heap.size w w')
    (c5 : ∀ w, Calls Tryd.prog 26 #[.int .i64 s, N a] w fun e w' => e = .returned (.tuple #[N 0, .int .i64 2]) ∧ Below w.heap.size w w')
    (c6 : ∀ w, Calls Tryd.prog 22 #[.int .i64 s, N a] w fun e w' => e = .returned (.tuple #[N 0, .int .i64 2]) ∧ Below w.heap.size w w') (w : World) (hm : Mm w [(0, dtab)]) :
    Calls Tryd.prog 5 #[.int .i64 s, N a, N b] w fun e w' => e = .returned (.bool true) ∧ Below w.heap.size w w' := by
  have H0 : Hid (_ ∧ _) := ⟨hm, Below.refl w.heap.size w⟩
  clear hm
  have C0 : Hid _ := c0
  have C1 : Hid _ := c1
  have C2 : Hid _ := c2
  have C3 : Hid _ := c3
  have C4 : Hid _ := c4
  have C5 : Hid _ := c5
  have C6 : Hid _ := c6
  clear c0 c1 c2 c3 c4 c5 c6
  go_enter Tryd.func5, Tryd.ntmps5
  refine wp_seq ?_
  refine walk_seqA 3 [.made (cells6 a) 24, .made (cells6 b) 24, .quiet (.bool false)] (sB H0) ?ho1 ?he1
  case ho1 => exact ak (fun γ => ⟨rfl, fun w' => ex_box6 rfl rfl⟩) (ak (fun γ => ⟨rfl, fun w' => ex_box6 rfl rfl⟩) (ak (fun _ => ⟨rfl, fun _ _ => rfl⟩) trivial))
  intro γ w1 l hM hl
  have H1 : Hid (Mm w1 [(γ 0, cells6 a), (γ 1, cells6 b), (0, dtab)] ∧ _) := growB H0 hM (Nat.le_refl _) hl [0, 1] rfl (by decide)
  have o1_0 := ownB H0 hM (Nat.le_refl _) hl (i := 0) rfl
  have o1_1 := ownB H0 hM (Nat.le_refl _) hl (i := 1) rfl
  clear hM hl l
  generalize γ 0 = γ1_0 at H1 o1_0 ⊢
  generalize γ 1 = γ1_1 at H1 o1_1 ⊢
  clear γ
  refine rest0 rfl (then_normal (wp_seq ?_))
  refine walk_seqB 3 [.quiet (.int .i64 s), .call (.bool false), .quiet (.bool false)] H1 ?ho2 ?he2
  case ho2 => exact ak (fun _ => ⟨rfl, fun _ _ => rfl⟩) (ak (fun γ => ⟨rfl, fun w' h => ⟨24, #[.int .i64 s], exec_call rfl call24 rfl (mpn rfl), C0.out w'⟩⟩) (ak (fun _ => ⟨rfl, fun _ _ => rfl⟩) trivial))
  intro _ w2 H2
  clear H1
  refine rest0 rfl (then_normal (wp_seq ?_))
  refine walk_seqA 8 [.quiet (.int .i64 s), .call (.tuple #[N 0, .int .i64 2]), .quiet (.tuple #[N 0, .int .i64 2]), .quiet (N 0), .quiet (.int .i64 2), .made zero6 24, .laid 5 zero6 (cells6 0), .quiet (.int .i64 2)] (sB H2) ?ho3 ?he3 (hL := ?hL3)
  case hL3 => exact ⟨⟨_, rfl⟩, trivial⟩
  case ho3 => exact ak (fun _ => ⟨rfl, fun _ _ => rfl⟩) (ak (fun γ => ⟨rfl, fun w' h => ⟨25, #[.int .i64 s], exec_call rfl call25 rfl (mpn rfl), C1.out w'⟩⟩) (ak (fun _ => ⟨rfl, fun _ _ => rfl⟩) (ak (by refine fun γ => ⟨rfl, fun w' h => ?_⟩; clear h; go_simp) (ak (by refine fun γ => ⟨rfl, fun w' h => ?_⟩; clear h; go_simp) (ak (fun γ => ⟨rfl, fun w' => exec_made6 rfl⟩) (ak (fun γ => ⟨rfl, rfl, len_zero, fun w' h => exec_laid6 (v := 0) h rfl rfl rfl⟩) (ak (fun _ => ⟨rfl, fun _ _ => rfl⟩) trivial)))))))
  intro γ w3 l hM hl
  have H3 : Hid (Mm w3 [(γ 5, cells6 0), (γ1_0, cells6 a), (γ1_1, cells6 b), (0, dtab)] ∧ _) := growB H2 hM (Nat.le_refl _) hl [5] rfl (by decide)
  have o3_5 := ownB H2 hM (Nat.le_refl _) hl (i := 5) rfl
  clear hM hl l H2
  generalize γ 5 = γ3_5 at H3 o3_5 ⊢
  clear γ
  refine rest0 rfl (then_normal (wp_seq (wp_seq ?_)))
  refine walk_seqB 2 [.quiet (.bool false), .quiet (.bool true)] H3 ?ho4 ?he4
  case ho4 => exact ak (fun _ => ⟨rfl, fun _ _ => rfl⟩) (ak (by refine fun γ => ⟨rfl, fun w' h => ?_⟩; clear h; go_simp) trivial)
  intro _ w4 H4
  clear H3
  refine rest0 rfl (then_normal (wp_cond_true rfl (wp_seq ?_)))
  refine walk_seqA 10 [.quiet (.int .i64 s), .quiet (N a), .quiet (N b), .call (.tuple #[N 0, .int .i64 2]), .quiet (.tuple #[N 0, .int .i64 2]), .quiet (N 0), .quiet (.int .i64 2), .made zero6 24, .laid 7 zero6 (cells6 0), .quiet (.int .i64 2)] (sB H4) ?ho5 ?he5 (hL := ?hL5)
  case hL5 => exact ⟨⟨_, rfl⟩, trivial⟩
  case ho5 => exact ak (fun _ => ⟨rfl, fun _ _ => rfl⟩) (ak (fun γ => ⟨rfl, fun w' h => ex_load6 h 1 rfl rfl rfl rfl⟩) (ak (fun γ => ⟨rfl, fun w' h => ex_load6 h 2 rfl rfl rfl rfl⟩) (ak (fun γ => ⟨rfl, fun w' h => ⟨20, #[.int .i64 s, N a, N b], exec_call rfl call20 rfl (mpn rfl), C2.out w'⟩⟩) (ak (fun _ => ⟨rfl, fun _ _ => rfl⟩) (ak (by refine fun γ => ⟨rfl, fun w' h => ?_⟩; clear h; go_simp) (ak (by refine fun γ => ⟨rfl, fun w' h => ?_⟩; clear h; go_simp) (ak (fun γ => ⟨rfl, fun w' => exec_made6 rfl⟩) (ak (fun γ => ⟨rfl, rfl, len_zero, fun w' h => exec_laid6 (v := 0) h rfl rfl rfl⟩) (ak (fun _ => ⟨rfl, fun _ _ => rfl⟩) trivial)))))))))
  intro γ w5 l hM hl
  have H5 : Hid (Mm w5 [(γ 7, cells6 0), (γ3_5, cells6 0), (γ1_0, cells6 a), (γ1_1, cells6 b), (0, dtab)] ∧ _) := growB H4 hM (Nat.le_refl _) hl [7] rfl (by decide)
  have o5_7 := ownB H4 hM (Nat.le_refl _) hl (i := 7) rfl
  clear hM hl l H4
  generalize γ 7 = γ5_7 at H5 o5_7 ⊢
  clear γ
  refine rest0 rfl (then_normal (wp_seq ?_))
  refine walk_seqA 10 [.quiet (.int .i64 s), .quiet (N a), .quiet (N b), .call (.tuple #[N 0, .int .i64 2]), .quiet (.tuple #[N 0, .int .i64 2]), .quiet (N 0), .quiet (.int .i64 2), .made zero6 24, .laid 7 zero6 (cells6 0), .quiet (.int .i64 2)] (sB H5) ?ho6 ?he6 (hL := ?hL6)
  case hL6 => exact ⟨⟨_, rfl⟩, trivial⟩
  case ho6 => exact ak (fun _ => ⟨rfl, fun _ _ => rfl⟩) (ak (fun γ => ⟨rfl, fun w' h => ex_load6 h 2 rfl rfl rfl rfl⟩) (ak (fun γ => ⟨rfl, fun w' h => ex_load6 h 3 rfl rfl rfl rfl⟩) (ak (fun γ => ⟨rfl, fun w' h => ⟨21, #[.int .i64 s, N a, N b], exec_call rfl call21 rfl (mpn rfl), C3.out w'⟩⟩) (ak (fun _ => ⟨rfl, fun _ _ => rfl⟩) (ak (by refine fun γ => ⟨rfl, fun w' h => ?_⟩; clear h; go_simp) (ak (by refine fun γ => ⟨rfl, fun w' h => ?_⟩; clear h; go_simp) (ak (fun γ => ⟨rfl, fun w' => exec_made6 rfl⟩) (ak (fun γ => ⟨rfl, rfl, len_zero, fun w' h => exec_laid6 (v := 0) h rfl rfl rfl⟩) (ak (fun _ => ⟨rfl, fun _ _ => rfl⟩) trivial)))))))))
  intro γ w6 l hM hl
  have H6 : Hid (Mm w6 [(γ 7, cells6 0), (γ5_7, cells6 0), (γ3_5, cells6 0), (γ1_0, cells6 a), (γ1_1, cells6 b), (0, dtab)] ∧ _) := growB H5 hM (Nat.le_refl _) hl [7] rfl (by decide)
  have o6_7 := ownB H5 hM (Nat.le_refl _) hl (i := 7) rfl
  clear hM hl l H5
  generalize γ 7 = γ6_7 at H6 o6_7 ⊢
  clear γ
  refine rest0 rfl (then_normal (wp_seq ?_))
  refine walk_seqA 10 [.quiet (.int .i64 s), .quiet (N a), .quiet (N b), .call (.tuple #[N 0, .int .i64 2]), .quiet (.tuple #[N 0, .int .i64 2]), .quiet (N 0), .quiet (.int .i64 2), .made zero6 24, .laid 7 zero6 (cells6 0), .quiet (.int .i64 2)] (sB H6) ?ho7 ?he7 (hL := ?hL7)
  case hL7 => exact ⟨⟨_, rfl⟩, trivial⟩
  case ho7 => exact ak (fun _ => ⟨rfl, fun _ _ => rfl⟩) (ak (fun γ => ⟨rfl, fun w' h => ex_load6 h 3 rfl rfl rfl rfl⟩) (ak (fun γ => ⟨rfl, fun w' h => ex_load6 h 4 rfl rfl rfl rfl⟩) (ak (fun γ => ⟨rfl, fun w' h => ⟨19, #[.int .i64 s, N a, N b], exec_call rfl call19 rfl (mpn rfl), C4.out w'⟩⟩) (ak (fun _ => ⟨rfl, fun _ _ => rfl⟩) (ak (by refine fun γ => ⟨rfl, fun w' h => ?_⟩; clear h; go_simp) (ak (by refine fun γ => ⟨rfl, fun w' h => ?_⟩; clear h; go_simp) (ak (fun γ => ⟨rfl, fun w' => exec_made6 rfl⟩) (ak (fun γ => ⟨rfl, rfl, len_zero, fun w' h => exec_laid6 (v := 0) h rfl rfl rfl⟩) (ak (fun _ => ⟨rfl, fun _ _ => rfl⟩) trivial)))))))))
  intro γ w7 l hM hl
  have H7 : Hid (Mm w7 [(γ 7, cells6 0), (γ6_7, cells6 0), (γ5_7, cells6 0), (γ3_5, cells6 0), (γ1_0, cells6 a), (γ1_1, cells6 b), (0, dtab)] ∧ _) := growB H6 hM (Nat.le_refl _) hl [7] rfl (by decide)
  have o7_7 := ownB H6 hM (Nat.le_refl _) hl (i := 7) rfl
  clear hM hl l H6
  generalize γ 7 = γ7_7 at H7 o7_7 ⊢
  clear γ
  refine rest0 rfl (then_normal (wp_seq ?_))
  refine walk_seqA 9 [.quiet (.int .i64 s), .quiet (N a), .call (.tuple #[N 0, .int .i64 2]), .quiet (.tuple #[N 0, .int .i64 2]), .quiet (N 0), .quiet (.int .i64 2), .made zero6 24, .laid 6 zero6 (cells6 0), .quiet (.int .i64 2)] (sB H7) ?ho8 ?he8 (hL := ?hL8)
  case hL8 => exact ⟨⟨_, rfl⟩, trivial⟩
  case ho8 => exact ak (fun _ => ⟨rfl, fun _ _ => rfl⟩) (ak (fun γ => ⟨rfl, fun w' h => ex_load6 h 4 rfl rfl rfl rfl⟩) (ak (fun γ => ⟨rfl, fun w' h => ⟨26, #[.int .i64 s, N a], exec_call rfl call26 rfl (mpn rfl), C5.out w'⟩⟩) (ak (fun _ => ⟨rfl, fun _ _ => rfl⟩) (ak (by refine fun γ => ⟨rfl, fun w' h => ?_⟩; clear h; go_simp) (ak (by refine fun γ => ⟨rfl, fun w' h => ?_⟩; clear h; go_simp) (ak (fun γ => ⟨rfl, fun w' => exec_made6 rfl⟩) (ak (fun γ => ⟨rfl, rfl, len_zero, fun w' h => exec_laid6 (v := 0) h rfl rfl rfl⟩) (ak (fun _ => ⟨rfl, fun _ _ => rfl⟩) trivial))))))))
  intro γ w8 l hM hl
  have H8 : Hid (Mm w8 [(γ 6, cells6 0), (γ7_7, cells6 0), (γ6_7, cells6 0), (γ5_7, cells6 0), (γ3_5, cells6 0), (γ1_0, cells6 a), (γ1_1, cells6 b), (0, dtab)] ∧ _) := growB H7 hM (Nat.le_refl _) hl [6] rfl (by decide)
  have o8_6 := ownB H7 hM (Nat.le_refl _) hl (i := 6) rfl
  clear hM hl l H7
  generalize γ 6 = γ8_6 at H8 o8_6 ⊢
  clear γ
  refine rest0 rfl (then_normal (wp_seq ?_))
  refine walk_seqA 9 [.quiet (.int .i64 s), .quiet (N a), .call (.tuple #[N 0, .int .i64 2]), .quiet (.tuple #[N 0, .int .i64 2]), .quiet (N 0), .quiet (.int .i64 2), .made zero6 24, .laid 6 zero6 (cells6 0), .quiet (.int .i64 2)] (sB H8) ?ho9 ?he9 (hL := ?hL9)
  case hL9 => exact ⟨⟨_, rfl⟩, trivial⟩
  case ho9 => exact ak (fun _ => ⟨rfl, fun _ _ => rfl⟩) (ak (fun γ => ⟨rfl, fun w' h => ex_load6 h 5 rfl rfl rfl rfl⟩) (ak (fun γ => ⟨rfl, fun w' h => ⟨22, #[.int .i64 s, N a], exec_call rfl call22 rfl (mpn rfl), C6.out w'⟩⟩) (ak (fun _ => ⟨rfl, fun _ _ => rfl⟩) (ak (by refine fun γ => ⟨rfl, fun w' h => ?_⟩; clear h; go_simp) (ak (by refine fun γ => ⟨rfl, fun w' h => ?_⟩; clear h; go_simp) (ak (fun γ => ⟨rfl, fun w' => exec_made6 rfl⟩) (ak (fun γ => ⟨rfl, rfl, len_zero, fun w' h => exec_laid6 (v := 0) h rfl rfl rfl⟩) (ak (fun _ => ⟨rfl, fun _ _ => rfl⟩) trivial))))))))
  intro γ w9 l hM hl
  have H9 : Hid (Mm w9 [(γ 6, cells6 0), (γ8_6, cells6 0), (γ7_7, cells6 0), (γ6_7, cells6 0), (γ5_7, cells6 0), (γ3_5, cells6 0), (γ1_0, cells6 a), (γ1_1, cells6 b), (0, dtab)] ∧ _) := growB H8 hM (Nat.le_refl _) hl [6] rfl (by decide)
  have o9_6 := ownB H8 hM (Nat.le_refl _) hl (i := 6) rfl
  clear hM hl l H8
  generalize γ 6 = γ9_6 at H9 o9_6 ⊢
  clear γ
  refine rest0 rfl (then_normal (wp_seq ?_))
  refine walk_seqB 35 [.quiet (N 0), .quiet (.int .i64 2), .quiet (N a), .call (.bool true), .quiet (.bool true), .quiet (N 0), .quiet (.int .i64 2), .quiet (N a), .call (.bool true), .quiet (.bool true), .quiet (.bool true), .quiet (N 0), .quiet (.int .i64 2), .quiet (N a), .call (.bool true), .quiet (.bool true), .quiet (.bool true), .quiet (N 0), .quiet (.int .i64 2), .quiet (N a), .call (.bool true), .quiet (.bool true), .quiet (.bool true), .quiet (N 0), .quiet (.int .i64 2), .quiet (N a), .call (.bool true), .quiet (.bool true), .quiet (.bool true), .quiet (N 0), .quiet (.int .i64 2), .quiet (N a), .call (.bool true), .quiet (.bool true), .quiet (.bool true)] H9 ?ho10 ?he10 (hL := ?hL10)
  case hL10 => exact trivial
  case ho10 => exact ak (fun γ => ⟨rfl, fun w' h => ex_load6 (v := 0) h 5 rfl rfl rfl rfl⟩) (ak (fun _ => ⟨rfl, fun _ _ => rfl⟩) (ak (fun γ => ⟨rfl, fun w' h => ex_load6 h 6 rfl rfl rfl rfl⟩) (ak (fun γ => ⟨rfl, fun w' h => ⟨27, #[N 0, .int .i64 2, .bool false, N a], exec_call rfl call27 rfl (mpn rfl), num_no a w'⟩⟩) (ak (fun _ => ⟨rfl, fun _ _ => rfl⟩) (ak (fun γ => ⟨rfl, fun w' h => ex_load6 (v := 0) h 4 rfl rfl rfl rfl⟩) (ak (fun _ => ⟨rfl, fun _ _ => rfl⟩) (ak (fun γ => ⟨rfl, fun w' h => ex_load6 h 6 rfl rfl rfl rfl⟩) (ak (fun γ => ⟨rfl, fun w' h => ⟨27, #[N 0, .int .i64 2, .bool false, N a], exec_call rfl call27 rfl (mpn rfl), num_no a w'⟩⟩) (ak (by refine fun γ => ⟨rfl, fun w' h => ?_⟩; clear h; go_simp) (ak (fun _ => ⟨rfl, fun _ _ => rfl⟩) (ak (fun γ => ⟨rfl, fun w' h => ex_load6 (v := 0) h 3 rfl rfl rfl rfl⟩) (ak (fun _ => ⟨rfl, fun _ _ => rfl⟩) (ak (fun γ => ⟨rfl, fun w' h => ex_load6 h 6 rfl rfl rfl rfl⟩) (ak (fun γ => ⟨rfl, fun w' h => ⟨27, #[N 0, .int .i64 2, .bool false, N a], exec_call rfl call27 rfl (mpn rfl), num_no a w'⟩⟩) (ak (by refine fun γ => ⟨rfl, fun w' h => ?_⟩; clear h; go_simp) (ak (fun _ => ⟨rfl, fun _ _ => rfl⟩) (ak (fun γ => ⟨rfl, fun w' h => ex_load6 (v := 0) h 2 rfl rfl rfl rfl⟩) (ak (fun _ => ⟨rfl, fun _ _ => rfl⟩) (ak (fun γ => ⟨rfl, fun w' h => ex_load6 h 6 rfl rfl rfl rfl⟩) (ak (fun γ => ⟨rfl, fun w' h => ⟨27, #[N 0, .int .i64 2, .bool false, N a], exec_call rfl call27 rfl (mpn rfl), num_no a w'⟩⟩) (ak (by refine fun γ => ⟨rfl, fun w' h => ?_⟩; clear h; go_simp) (ak (fun _ => ⟨rfl, fun _ _ => rfl⟩) (ak (fun γ => ⟨rfl, fun w' h => ex_load6 (v := 0) h 1 rfl rfl rfl rfl⟩) (ak (fun _ => ⟨rfl, fun _ _ => rfl⟩) (ak (fun γ => ⟨rfl, fun w' h => ex_load6 h 6 rfl rfl rfl rfl⟩) (ak (fun γ => ⟨rfl, fun w' h => ⟨27, #[N 0, .int .i64 2, .bool false, N a], exec_call rfl call27 rfl (mpn rfl), num_no a w'⟩⟩) (ak (by refine fun γ => ⟨rfl, fun w' h => ?_⟩; clear h; go_simp) (ak (fun _ => ⟨rfl, fun _ _ => rfl⟩) (ak (fun γ => ⟨rfl, fun w' h => ex_load6 (v := 0) h 0 rfl rfl rfl rfl⟩) (ak (fun _ => ⟨rfl, fun _ _ => rfl⟩) (ak (fun γ => ⟨rfl, fun w' h => ex_load6 h 6 rfl rfl rfl rfl⟩) (ak (fun γ => ⟨rfl, fun w' h => ⟨27, #[N 0, .int .i64 2, .bool false, N a], exec_call rfl call27 rfl (mpn rfl), num_no a w'⟩⟩) (ak (by refine fun γ => ⟨rfl, fun w' h => ?_⟩; clear h; go_simp) (ak (fun _ => ⟨rfl, fun _ _ => rfl⟩) trivial))))))))))))))))))))))))))))))))))
  intro _ w10 H10
  clear H9
  refine rest0 rfl (then_normal (wp_ret ?_))
  repeat (first | refine then_ret ?_ | refine block_ret ?_)
  refine bodyPost_ret (v := .bool true) (by simp [results, Tryd.results5, go_sem, *]) rfl ?_
  exact ⟨rfl, H10.out.2⟩
set_option maxHeartbeats 4000000 in
set_option maxRecDepth 100000 in
theorem sc_not (s : Int) (a b r : Nat)
    (b_r : r < big)
    (c0 : ∀ w, Calls Tryd.prog 24 #[.int .i64 s] w fun e w' => e = .returned (.bool true) ∧ Below w.heap.size w w')
    (c1 : ∀ w, Calls Tryd.prog 25 #[.int .i64 s] w fun e w' => e = .returned (.tuple #[N r, .int .i64 0]) ∧ Below w.heap.size w w')
    (c2 : ∀ w, Calls Tryd.prog 20 #[.int .i64 s, N a, N b] w fun e w' => e = .returned (.tuple #[N 0, .int .i64 2]) ∧ Below w.heap.size w w')
    (c3 : ∀ w, Calls Tryd.prog 21 #[.int .i64 s, N a, N b] w fun e w' => e = .returned (.tuple #[N 0, .int .i64 2]) ∧ Below w.heap.size w w')
    (c4 : ∀ w, Calls Tryd.prog 19 #[.int .i64 s, N a, N b] w fun e w' => e = .returned (.tuple #[N 0, .int .i64 2]) ∧ Below w.heap.size w w')
    (c5 : ∀ w, Calls Tryd.prog 26 #[.int .i64 s, N a] w fun e w' => e = .returned (.tuple #[N 0, .int .i64 2]) ∧ Below w.heap.size w w')
    (c6 : ∀ w, Calls Tryd.prog 22 #[.int .i64 s, N a] w fun e w' => e = .returned (.tuple #[N 0, .int .i64 2]) ∧ Below w.heap.size w w')
    (c7 : ∀ w, Calls Tryd.prog 28 #[.int .i64 s, N a] w fun e w' => e = .returned (.bool false) ∧ Below w.heap.size w w')
    (c8 : ∀ w, Calls Tryd.prog 29 #[.int .i64 s] w fun e w' => e = .returned (N r) ∧ Below w.heap.size w w') (w : World) (hm : Mm w [(0, dtab)]) :
    Calls Tryd.prog 5 #[.int .i64 s, N a, N b] w fun e w' => e = .returned (.bool true) ∧ Below w.heap.size w w' := by
  have H0 : Hid (_ ∧ _) := ⟨hm, Below.refl w.heap.size w⟩
  clear hm
  have C0 : Hid _ := c0
  have C1 : Hid _ := c1
  have C2 : Hid _ := c2
  have C3 : Hid _ := c3
  have C4 : Hid _ := c4
  have C5 : Hid _ := c5
  have C6 : Hid _ := c6
  have C7 : Hid _ := c7
  have C8 : Hid _ := c8
  clear c0 c1 c2 c3 c4 c5 c6 c7 c8
  go_enter Tryd.func5, Tryd.ntmps5
  refine wp_seq ?_
  refine walk_seqA 3 [.made (cells6 a) 24, .made (cells6 b) 24, .quiet (.bool false)] (sB H0) ?ho1 ?he1
  case ho1 => exact ak (fun γ => ⟨rfl, fun w' => ex_box6 rfl rfl⟩) (ak (fun γ => ⟨rfl, fun w' => ex_box6 rfl rfl⟩) (ak (fun _ => ⟨rfl, fun _ _ => rfl⟩) trivial))
  intro γ w1 l hM hl
  have H1 : Hid (Mm w1 [(γ 0, cells6 a), (γ 1, cells6 b), (0, dtab)] ∧ _) := growB H0 hM (Nat.le_refl _) hl [0, 1] rfl (by decide)
  have o1_0 := ownB H0 hM (Nat.le_refl _) hl (i := 0) rfl
  have o1_1 := ownB H0 hM (Nat.le_refl _) hl (i := 1) rfl
  clear hM hl l
  generalize γ 0 = γ1_0 at H1 o1_0 ⊢
  generalize γ 1 = γ1_1 at H1 o1_1 ⊢
  clear γ
  refine rest0 rfl (then_normal (wp_seq ?_))
  refine walk_seqB 3 [.quiet (.int .i64 s), .call (.bool true), .quiet (.bool true)] H1 ?ho2 ?he2
  case ho2 => exact ak (fun _ => ⟨rfl, fun _ _ => rfl⟩) (ak (fun γ => ⟨rfl, fun w' h => ⟨24, #[.int .i64 s], exec_call rfl call24 rfl (mpn rfl), C0.out w'⟩⟩) (ak (fun _ => ⟨rfl, fun _ _ => rfl⟩) trivial))
  intro _ w2 H2
  clear H1
  refine rest0 rfl (then_normal (wp_seq ?_))
  refine walk_seqA 8 [.quiet (.int .i64 s), .call (.tuple #[N r, .int .i64 0]), .quiet (.tuple #[N r, .int .i64 0]), .quiet (N r), .quiet (.int .i64 0), .made zero6 24, .laid 5 zero6 (cells6 r), .quiet (.int .i64 0)] (sB H2) ?ho3 ?he3 (hL := ?hL3)
  case hL3 => exact ⟨⟨_, rfl⟩, trivial⟩
  case ho3 => exact ak (fun _ => ⟨rfl, fun _ _ => rfl⟩) (ak (fun γ => ⟨rfl, fun w' h => ⟨25, #[.int .i64 s], exec_call rfl call25 rfl (mpn rfl), C1.out w'⟩⟩) (ak (fun _ => ⟨rfl, fun _ _ => rfl⟩) (ak (by refine fun γ => ⟨rfl, fun w' h => ?_⟩; clear h; go_simp) (ak (by refine fun γ => ⟨rfl, fun w' h => ?_⟩; clear h; go_simp) (ak (fun γ => ⟨rfl, fun w' => exec_made6 rfl⟩) (ak (fun γ => ⟨rfl, rfl, rfl, fun w' h => exec_laid6 h rfl rfl rfl⟩) (ak (fun _ => ⟨rfl, fun _ _ => rfl⟩) trivial)))))))
  intro γ w3 l hM hl
  have H3 : Hid (Mm w3 [(γ 5, cells6 r), (γ1_0, cells6 a), (γ1_1, cells6 b), (0, dtab)] ∧ _) := growB H2 hM (Nat.le_refl _) hl [5] rfl (by decide)
  have o3_5 := ownB H2 hM (Nat.le_refl _) hl (i := 5) rfl
  clear hM hl l H2
  generalize γ 5 = γ3_5 at H3 o3_5 ⊢
  clear γ
  refine rest0 rfl (then_normal (wp_seq (wp_seq ?_)))
  refine walk_seqB 2 [.quiet (.bool true), .quiet (.bool false)] H3 ?ho4 ?he4
  case ho4 => exact ak (fun _ => ⟨rfl, fun _ _ => rfl⟩) (ak (by refine fun γ => ⟨rfl, fun w' h => ?_⟩; clear h; go_simp) trivial)
  intro _ w4 H4
  clear H3
  refine rest0 rfl (then_normal (wp_cond_false rfl ?_))
  refine wp_skip (then_normal (wp_seq ?_))
  refine walk_seqB 4 [.quiet (.int .i64 s), .quiet (N a), .call (.bool false), .quiet (.bool false)] H4 ?ho5 ?he5
  case ho5 => exact ak (fun _ => ⟨rfl, fun _ _ => rfl⟩) (ak (fun γ => ⟨rfl, fun w' h => ex_load6 h 1 rfl rfl rfl rfl⟩) (ak (fun γ => ⟨rfl, fun w' h => ⟨28, #[.int .i64 s, N a], exec_call rfl call28 rfl (mpn rfl), C7.out w'⟩⟩) (ak (fun _ => ⟨rfl, fun _ _ => rfl⟩) trivial)))
  intro _ w5 H5
  clear H4
  refine rest0 rfl (then_normal (wp_seq ?_))
  refine walk_seqB 7 [.quiet (.bool false), .quiet (.bool false), .gone, .gone, .gone, .quiet (.bool false), .quiet (.bool false)] H5 ?ho6 ?he6
  case ho6 => exact ak (fun _ => ⟨rfl, fun _ _ => rfl⟩) (ak (fun _ => ⟨rfl, fun _ _ => rfl⟩) (ak (fun γ => rfl) (ak (fun γ => rfl) (ak (fun γ => rfl) (ak (by refine fun γ => ⟨rfl, fun w' h => ?_⟩; clear h; go_simp) (ak (fun _ => ⟨rfl, fun _ _ => rfl⟩) trivial))))))
  intro _ w6 H6
  clear H5
  refine rest0 rfl (then_normal (wp_seq (wp_seq ?_)))
  refine walk_anyB 6 [.quiet (N r), .quiet (.int .i64 0), .quiet (.int .i64 s), .call (N r), .call (.bool true), .quiet (.bool false)] H6 ?ho7 ?he7
  case ho7 => exact ak (fun γ => ⟨rfl, fun w' h => ex_load6 h 0 rfl rfl rfl rfl⟩) (ak (fun _ => ⟨rfl, fun _ _ => rfl⟩) (ak (fun _ => ⟨rfl, fun _ _ => rfl⟩) (ak (fun γ => ⟨rfl, fun w' h => ⟨29, #[.int .i64 s], exec_call rfl call29 rfl (mpn rfl), C8.out w'⟩⟩) (ak (fun γ => ⟨rfl, fun w' h => ⟨27, #[N r, .int .i64 0, .bool true, N r], exec_call rfl call27 rfl (mpn rfl), num_yes b_r w'⟩⟩) (ak (by refine fun γ => ⟨rfl, fun w' h => ?_⟩; clear h; go_simp) trivial)))))
  intro _ w7 H7
  clear H6
  refine rest0 rfl (then_normal (wp_cond_false rfl ?_))
  refine wp_skip (then_normal (wp_seq ?_))
  refine walk_seqA 10 [.quiet (.int .i64 s), .quiet (N a), .quiet (N b), .call (.tuple #[N 0, .int .i64 2]), .quiet (.tuple #[N 0, .int .i64 2]), .quiet (N 0), .quiet (.int .i64 2), .made zero6 24, .laid 7 zero6 (cells6 0), .quiet (.int .i64 2)] (sB H7) ?ho8 ?he8 (hL := ?hL8)
  case hL8 => exact ⟨⟨_, rfl⟩, trivial⟩
  case ho8 => exact ak (fun _ => ⟨rfl, fun _ _ => rfl⟩) (ak (fun γ => ⟨rfl, fun w' h => ex_load6 h 1 rfl rfl rfl rfl⟩) (ak (fun γ => ⟨rfl, fun w' h => ex_load6 h 2 rfl rfl rfl rfl⟩) (ak (fun γ => ⟨rfl, fun w' h => ⟨20, #[.int .i64 s, N a, N b], exec_call rfl call20 rfl (mpn rfl), C2.out w'⟩⟩) (ak (fun _ => ⟨rfl, fun _ _ => rfl⟩) (ak (by refine fun γ => ⟨rfl, fun w' h => ?_⟩; clear h; go_simp) (ak (by refine fun γ => ⟨rfl, fun w' h => ?_⟩; clear h; go_simp) (ak (fun γ => ⟨rfl, fun w' => exec_made6 rfl⟩) (ak (fun γ => ⟨rfl, rfl, len_zero, fun w' h => exec_laid6 (v := 0) h rfl rfl rfl⟩) (ak (fun _ => ⟨rfl, fun _ _ => rfl⟩) trivial)))))))))
  intro γ w8 l hM hl
  have H8 : Hid (Mm w8 [(γ 7, cells6 0), (γ3_5, cells6 r), (γ1_0, cells6 a), (γ1_1, cells6 b), (0, dtab)] ∧ _) := growB H7 hM (Nat.le_refl _) hl [7] rfl (by decide)
  have o8_7 := ownB H7 hM (Nat.le_refl _) hl (i := 7) rfl
  clear hM hl l H7
  generalize γ 7 = γ8_7 at H8 o8_7 ⊢
  clear γ
  refine rest0 rfl (then_normal (wp_seq ?_))
  refine walk_seqA 10 [.quiet (.int .i64 s), .quiet (N a), .quiet (N b), .call (.tuple #[N 0, .int .i64 2]), .quiet (.tuple #[N 0, .int .i64 2]), .quiet (N 0), .quiet (.int .i64 2), .made zero6 24, .laid 7 zero6 (cells6 0), .quiet (.int .i64 2)] (sB H8) ?ho9 ?he9 (hL := ?hL9)
  case hL9 => exact ⟨⟨_, rfl⟩, trivial⟩
  case ho9 => exact ak (fun _ => ⟨rfl, fun _ _ => rfl⟩) (ak (fun γ => ⟨rfl, fun w' h => ex_load6 h 2 rfl rfl rfl rfl⟩) (ak (fun γ => ⟨rfl, fun w' h => ex_load6 h 3 rfl rfl rfl rfl⟩) (ak (fun γ => ⟨rfl, fun w' h => ⟨21, #[.int .i64 s, N a, N b], exec_call rfl call21 rfl (mpn rfl), C3.out w'⟩⟩) (ak (fun _ => ⟨rfl, fun _ _ => rfl⟩) (ak (by refine fun γ => ⟨rfl, fun w' h => ?_⟩; clear h; go_simp) (ak (by refine fun γ => ⟨rfl, fun w' h => ?_⟩; clear h; go_simp) (ak (fun γ => ⟨rfl, fun w' => exec_made6 rfl⟩) (ak (fun γ => ⟨rfl, rfl, len_zero, fun w' h => exec_laid6 (v := 0) h rfl rfl rfl⟩) (ak (fun _ => ⟨rfl, fun _ _ => rfl⟩) trivial)))))))))
  intro γ w9 l hM hl
  have H9 : Hid (Mm w9 [(γ 7, cells6 0), (γ8_7, cells6 0), (γ3_5, cells6 r), (γ1_0, cells6 a), (γ1_1, cells6 b), (0, dtab)] ∧ _) := growB H8 hM (Nat.le_refl _) hl [7] rfl (by decide)
  have o9_7 := ownB H8 hM (Nat.le_refl _) hl (i := 7) rfl
  clear hM hl l H8
  generalize γ 7 = γ9_7 at H9 o9_7 ⊢
  clear γ
  refine rest0 rfl (then_normal (wp_seq ?_))
  refine walk_seqA 10 [.quiet (.int .i64 s), .quiet (N a), .quiet (N b), .call (.tuple #[N 0, .int .i64 2]), .quiet (.tuple #[N 0, .int .i64 2]), .quiet (N 0), .quiet (.int .i64 2), .made zero6 24, .laid 7 zero6 (cells6 0), .quiet (.int .i64 2)] (sB H9) ?ho10 ?he10 (hL := ?hL10)
  case hL10 => exact ⟨⟨_, rfl⟩, trivial⟩
  case ho10 => exact ak (fun _ => ⟨rfl, fun _ _ => rfl⟩) (ak (fun γ => ⟨rfl, fun w' h => ex_load6 h 3 rfl rfl rfl rfl⟩) (ak (fun γ => ⟨rfl, fun w' h => ex_load6 h 4 rfl rfl rfl rfl⟩) (ak (fun γ => ⟨rfl, fun w' h => ⟨19, #[.int .i64 s, N a, N b], exec_call rfl call19 rfl (mpn rfl), C4.out w'⟩⟩) (ak (fun _ => ⟨rfl, fun _ _ => rfl⟩) (ak (by refine fun γ => ⟨rfl, fun w' h => ?_⟩; clear h; go_simp) (ak (by refine fun γ => ⟨rfl, fun w' h => ?_⟩; clear h; go_simp) (ak (fun γ => ⟨rfl, fun w' => exec_made6 rfl⟩) (ak (fun γ => ⟨rfl, rfl, len_zero, fun w' h => exec_laid6 (v := 0) h rfl rfl rfl⟩) (ak (fun _ => ⟨rfl, fun _ _ => rfl⟩) trivial)))))))))
  intro γ w10 l hM hl
  have H10 : Hid (Mm w10 [(γ 7, cells6 0), (γ9_7, cells6 0), (γ8_7, cells6 0), (γ3_5, cells6 r), (γ1_0, cells6 a), (γ1_1, cells6 b), (0, dtab)] ∧ _) := growB H9 hM (Nat.le_refl _) hl [7] rfl (by decide)
  have o10_7 := ownB H9 hM (Nat.le_refl _) hl (i := 7) rfl
  clear hM hl l H9
  generalize γ 7 = γ10_7 at H10 o10_7 ⊢
  clear γ
  refine rest0 rfl (then_normal (wp_seq ?_))
  refine walk_seqA 9 [.quiet (.int .i64 s), .quiet (N a), .call (.tuple #[N 0, .int .i64 2]), .quiet (.tuple #[N 0, .int .i64 2]), .quiet (N 0), .quiet (.int .i64 2), .made zero6 24, .laid 6 zero6 (cells6 0), .quiet (.int .i64 2)] (sB H10) ?ho11 ?he11 (hL := ?hL11)
  case hL11 => exact ⟨⟨_, rfl⟩, trivial⟩
  case ho11 => exact ak (fun _ => ⟨rfl, fun _ _ => rfl⟩) (ak (fun γ => ⟨rfl, fun w' h => ex_load6 h 4 rfl rfl rfl rfl⟩) (ak (fun γ => ⟨rfl, fun w' h => ⟨26, #[.int .i64 s, N a], exec_call rfl call26 rfl (mpn rfl), C5.out w'⟩⟩) (ak (fun _ => ⟨rfl, fun _ _ => rfl⟩) (ak (by refine fun γ => ⟨rfl, fun w' h => ?_⟩; clear h; go_simp) (ak (by refine fun γ => ⟨rfl, fun w' h => ?_⟩; clear h; go_simp) (ak (fun γ => ⟨rfl, fun w' => exec_made6 rfl⟩) (ak (fun γ => ⟨rfl, rfl, len_zero, fun w' h => exec_laid6 (v := 0) h rfl rfl rfl⟩) (ak (fun _ => ⟨rfl, fun _ _ => rfl⟩) trivial))))))))
  intro γ w11 l hM hl
  have H11 : Hid (Mm w11 [(γ 6, cells6 0), (γ10_7, cells6 0), (γ9_7, cells6 0), (γ8_7, cells6 0), (γ3_5, cells6 r), (γ1_0, cells6 a), (γ1_1, cells6 b), (0, dtab)] ∧ _) := growB H10 hM (Nat.le_refl _) hl [6] rfl (by decide)
  have o11_6 := ownB H10 hM (Nat.le_refl _) hl (i := 6) rfl
  clear hM hl l H10
  generalize γ 6 = γ11_6 at H11 o11_6 ⊢
  clear γ
  refine rest0 rfl (then_normal (wp_seq ?_))
  refine walk_seqA 9 [.quiet (.int .i64 s), .quiet (N a), .call (.tuple #[N 0, .int .i64 2]), .quiet (.tuple #[N 0, .int .i64 2]), .quiet (N 0), .quiet (.int .i64 2), .made zero6 24, .laid 6 zero6 (cells6 0), .quiet (.int .i64 2)] (sB H11) ?ho12 ?he12 (hL := ?hL12)
  case hL12 => exact ⟨⟨_, rfl⟩, trivial⟩
  case ho12 => exact ak (fun _ => ⟨rfl, fun _ _ => rfl⟩) (ak (fun γ => ⟨rfl, fun w' h => ex_load6 h 5 rfl rfl rfl rfl⟩) (ak (fun γ => ⟨rfl, fun w' h => ⟨22, #[.int .i64 s, N a], exec_call rfl call22 rfl (mpn rfl), C6.out w'⟩⟩) (ak (fun _ => ⟨rfl, fun _ _ => rfl⟩) (ak (by refine fun γ => ⟨rfl, fun w' h => ?_⟩; clear h; go_simp) (ak (by refine fun γ => ⟨rfl, fun w' h => ?_⟩; clear h; go_simp) (ak (fun γ => ⟨rfl, fun w' => exec_made6 rfl⟩) (ak (fun γ => ⟨rfl, rfl, len_zero, fun w' h => exec_laid6 (v := 0) h rfl rfl rfl⟩) (ak (fun _ => ⟨rfl, fun _ _ => rfl⟩) trivial))))))))
  intro γ w12 l hM hl
  have H12 : Hid (Mm w12 [(γ 6, cells6 0), (γ11_6, cells6 0), (γ10_7, cells6 0), (γ9_7, cells6 0), (γ8_7, cells6 0), (γ3_5, cells6 r), (γ1_0, cells6 a), (γ1_1, cells6 b), (0, dtab)] ∧ _) := growB H11 hM (Nat.le_refl _) hl [6] rfl (by decide)
  have o12_6 := ownB H11 hM (Nat.le_refl _) hl (i := 6) rfl
  clear hM hl l H11
  generalize γ 6 = γ12_6 at H12 o12_6 ⊢
  clear γ
  refine rest0 rfl (then_normal (wp_seq (wp_seq ?_)))
  refine walk_seqB 38 [.quiet (.bool false), .quiet (.bool true), .quiet (.bool true), .quiet (N 0), .quiet (.int .i64 2), .quiet (N a), .call (.bool true), .quiet (.bool true), .quiet (N 0), .quiet (.int .i64 2), .quiet (N a), .call (.bool true), .quiet (.bool true), .quiet (.bool true), .quiet (N 0), .quiet (.int .i64 2), .quiet (N a), .call (.bool true), .quiet (.bool true), .quiet (.bool false), .quiet (.bool false), .quiet (.bool false), .quiet (.bool false), .quiet (.bool true), .quiet (.bool true), .quiet (N 0), .quiet (.int .i64 2), .quiet (N a), .call (.bool true), .quiet (.bool true), .quiet (N 0), .quiet (.int .i64 2), .quiet (N a), .call (.bool true), .quiet (.bool true), .quiet (.bool false), .quiet (.bool false), .quiet (.bool false)] H12 ?ho13 ?he13 (hL := ?hL13)
  case hL13 => exact trivial
  case ho13 => exact ak (fun _ => ⟨rfl, fun _ _ => rfl⟩) (ak (by refine fun γ => ⟨rfl, fun w' h => ?_⟩; clear h; go_simp) (ak (fun _ => ⟨rfl, fun _ _ => rfl⟩) (ak (fun γ => ⟨rfl, fun w' h => ex_load6 (v := 0) h 4 rfl rfl rfl rfl⟩) (ak (fun _ => ⟨rfl, fun _ _ => rfl⟩) (ak (fun γ => ⟨rfl, fun w' h => ex_load6 h 6 rfl rfl rfl rfl⟩) (ak (fun γ => ⟨rfl, fun w' h => ⟨27, #[N 0, .int .i64 2, .bool false, N a], exec_call rfl call27 rfl (mpn rfl), num_no a w'⟩⟩) (ak (fun _ => ⟨rfl, fun _ _ => rfl⟩) (ak (fun γ => ⟨rfl, fun w' h => ex_load6 (v := 0) h 3 rfl rfl rfl rfl⟩) (ak (fun _ => ⟨rfl, fun _ _ => rfl⟩) (ak (fun γ => ⟨rfl, fun w' h => ex_load6 h 6 rfl rfl rfl rfl⟩) (ak (fun γ => ⟨rfl, fun w' h => ⟨27, #[N 0, .int .i64 2, .bool false, N a], exec_call rfl call27 rfl (mpn rfl), num_no a w'⟩⟩) (ak (by refine fun γ => ⟨rfl, fun w' h => ?_⟩; clear h; go_simp) (ak (fun _ => ⟨rfl, fun _ _ => rfl⟩) (ak (fun γ => ⟨rfl, fun w' h => ex_load6 (v := 0) h 2 rfl rfl rfl rfl⟩) (ak (fun _ => ⟨rfl, fun _ _ => rfl⟩) (ak (fun γ => ⟨rfl, fun w' h => ex_load6 h 6 rfl rfl rfl rfl⟩) (ak (fun γ => ⟨rfl, fun w' h => ⟨27, #[N 0, .int .i64 2, .bool false, N a], exec_call rfl call27 rfl (mpn rfl), num_no a w'⟩⟩) (ak (by refine fun γ => ⟨rfl, fun w' h => ?_⟩; clear h; go_simp) (ak (by refine fun γ => ⟨rfl, fun w' h => ?_⟩; clear h; go_simp) (ak (by refine fun γ => ⟨rfl, fun w' h => ?_⟩; clear h; go_simp) (ak (fun _ => ⟨rfl, fun _ _ => rfl⟩) (ak (fun _ => ⟨rfl, fun _ _ => rfl⟩) (ak (by refine fun γ => ⟨rfl, fun w' h => ?_⟩; clear h; go_simp) (ak (fun _ => ⟨rfl, fun _ _ => rfl⟩) (ak (fun γ => ⟨rfl, fun w' h => ex_load6 (v := 0) h 1 rfl rfl rfl rfl⟩) (ak (fun _ => ⟨rfl, fun _ _ => rfl⟩) (ak (fun γ => ⟨rfl, fun w' h => ex_load6 h 6 rfl rfl rfl rfl⟩) (ak (fun γ => ⟨rfl, fun w' h => ⟨27, #[N 0, .int .i64 2, .bool false, N a], exec_call rfl call27 rfl (mpn rfl), num_no a w'⟩⟩) (ak (fun _ => ⟨rfl, fun _ _ => rfl⟩) (ak (fun γ => ⟨rfl, fun w' h => ex_load6 (v := 0) h 0 rfl rfl rfl rfl⟩) (ak (fun _ => ⟨rfl, fun _ _ => rfl⟩) (ak (fun γ => ⟨rfl, fun w' h => ex_load6 h 6 rfl rfl rfl rfl⟩) (ak (fun γ => ⟨rfl, fun w' h => ⟨27, #[N 0, .int .i64 2, .bool false, N a], exec_call rfl call27 rfl (mpn rfl), num_no a w'⟩⟩) (ak (by refine fun γ => ⟨rfl, fun w' h => ?_⟩; clear h; go_simp) (ak (by refine fun γ => ⟨rfl, fun w' h => ?_⟩; clear h; go_simp) (ak (by refine fun γ => ⟨rfl, fun w' h => ?_⟩; clear h; go_simp) (ak (by refine fun γ => ⟨rfl, fun w' h => ?_⟩; clear h; go_simp) trivial)))))))))))))))))))))))))))))))))))))
  intro _ w13 H13
  clear H12
  refine rest0 rfl (then_normal (wp_cond_false rfl ?_))
  refine wp_skip (then_normal ?_)
  refine wp_seq (wp_seq ?_)
  refine walk_anyB 38 [.quiet (.bool false), .quiet (.bool false), .gone, .gone, .gone, .gone, .gone, .gone, .gone, .gone, .gone, .gone, .gone, .gone, .gone, .gone, .gone, .gone, .gone, .gone, .gone, .gone, .gone, .gone, .gone, .gone, .gone, .gone, .gone, .gone, .gone, .gone, .gone, .gone, .gone, .gone, .gone, .quiet (.bool false)] H13 ?ho14 ?he14 (hL := ?hL14)
  case hL14 => exact trivial
  case ho14 => exact ak (fun _ => ⟨rfl, fun _ _ => rfl⟩) (ak (fun _ => ⟨rfl, fun _ _ => rfl⟩) (ak (fun γ => rfl) (ak (fun γ => rfl) (ak (fun γ => rfl) (ak (fun γ => rfl) (ak (fun γ => rfl) (ak (fun γ => rfl) (ak (fun γ => rfl) (ak (fun γ => rfl) (ak (fun γ => rfl) (ak (fun γ => rfl) (ak (fun γ => rfl) (ak (fun γ => rfl) (ak (fun γ => rfl) (ak (fun γ => rfl) (ak (fun γ => rfl) (ak (fun γ => rfl) (ak (fun γ => rfl) (ak (fun γ => rfl) (ak (fun γ => rfl) (ak (fun γ => rfl) (ak (fun γ => rfl) (ak (fun γ => rfl) (ak (fun γ => rfl) (ak (fun γ => rfl) (ak (fun γ => rfl) (ak (fun γ => rfl) (ak (fun γ => rfl) (ak (fun γ => rfl) (ak (fun γ => rfl) (ak (fun γ => rfl) (ak (fun γ => rfl) (ak (fun γ => rfl) (ak (fun γ => rfl) (ak (fun γ => rfl) (ak (fun γ => rfl) (ak (by refine fun γ => ⟨rfl, fun w' h => ?_⟩; clear h; go_simp) trivial)))))))))))))))))))))))))))))))))))))
  intro _ w14 H14
  clear H13
  refine rest0 rfl (then_normal (wp_cond_false rfl ?_))
  refine wp_skip (then_normal (wp_seq ?_))
  refine walk_anyB 30 [.quiet (.bool false), .quiet (.bool true), .quiet (.bool true), .gone, .gone, .gone, .gone, .gone, .gone, .gone, .gone, .gone, .gone, .gone, .gone, .gone, .gone, .gone, .gone, .gone, .gone, .gone, .gone, .gone, .gone, .gone, .gone, .gone, .quiet (.bool true), .quiet (.bool true)] H14 ?ho15 ?he15 (hL := ?hL15)
  case hL15 => exact trivial
  case ho15 => exact ak (fun _ => ⟨rfl, fun _ _ => rfl⟩) (ak (by refine fun γ => ⟨rfl, fun w' h => ?_⟩; clear h; go_simp) (ak (fun _ => ⟨rfl, fun _ _ => rfl⟩) (ak (fun γ => rfl) (ak (fun γ => rfl) (ak (fun γ => rfl) (ak (fun γ => rfl) (ak (fun γ => rfl) (ak (fun γ => rfl) (ak (fun γ => rfl) (ak (fun γ => rfl) (ak (fun γ => rfl) (ak (fun γ => rfl) (ak (fun γ => rfl) (ak (fun γ => rfl) (ak (fun γ => rfl) (ak (fun γ => rfl) (ak (fun γ => rfl) (ak (fun γ => rfl) (ak (fun γ => rfl) (ak (fun γ => rfl) (ak (fun γ => rfl) (ak (fun γ => rfl) (ak (fun γ => rfl) (ak (fun γ => rfl) (ak (fun γ => rfl) (ak (fun γ => rfl) (ak (fun γ => rfl) (ak (by refine fun γ => ⟨rfl, fun w' h => ?_⟩; clear h; go_simp) (ak (fun _ => ⟨rfl, fun _ _ => rfl⟩) trivial)))))))))))))))))))))))))))))
  intro _ w15 H15
  clear H14
  refine rest0 rfl (then_normal (wp_ret ?_))
  repeat (first | refine then_ret ?_ | refine block_ret ?_)
  refine bodyPost_ret (v := .bool true) (by simp [results, Tryd.results5, go_sem, *]) rfl ?_
  exact ⟨rfl, H15.out.2⟩
set_option maxHeartbeats 4000000 in
set_option maxRecDepth 100000 in
theorem sc_one0 (s : Int) (a b iv ng r : Nat)
    (b_ng : ng < big)
    (b_r : r < big)
    (e_a : ∀ w, (Op.equalIn 10000 24 (N a) (N 0)).run Tryd.prog w = .ok true w)
    (e_v : ∀ w, (Op.equalIn 10000 24 (N iv) (N a)).run Tryd.prog w = .ok true w)
    (c0 : ∀ w, Calls Tryd.prog 24 #[.int .i64 s] w fun e w' => e = .returned (.bool true) ∧ Below w.heap.size w w')
    (c1 : ∀ w, Calls Tryd.prog 25 #[.int .i64 s] w fun e w' => e = .returned (.tuple #[N r, .int .i64 0]) ∧ Below w.heap.size w w')
    (c2 : ∀ w, Calls Tryd.prog 20 #[.int .i64 s, N a, N b] w fun e w' => e = .returned (.tuple #[N 0, .int .i64 2]) ∧ Below w.heap.size w w')
    (c3 : ∀ w, Calls Tryd.prog 21 #[.int .i64 s, N a, N b] w fun e w' => e = .returned (.tuple #[N 0, .int .i64 2]) ∧ Below w.heap.size w w')
    (c4 : ∀ w, Calls Tryd.prog 19 #[.int .i64 s, N a, N b] w fun e w' => e = .returned (.tuple #[N 0, .int .i64 2]) ∧ Below w.heap.size w w')
    (c5 : ∀ w, Calls Tryd.prog 26 #[.int .i64 s, N a] w fun e w' => e = .returned (.tuple #[N ng, .int .i64 0]) ∧ Below w.heap.size w w')
    (c6 : ∀ w, Mm w [(0, dtab)] → Calls Tryd.prog 22 #[.int .i64 s, N a] w fun e w' => e = .returned (.tuple #[N iv, .int .i64 6]) ∧ Below w.heap.size w w')
    (c7 : ∀ w, Calls Tryd.prog 28 #[.int .i64 s, N a] w fun e w' => e = .returned (.bool true) ∧ Below w.heap.size w w')
    (c8 : ∀ w, Calls Tryd.prog 29 #[.int .i64 s] w fun e w' => e = .returned (N r) ∧ Below w.heap.size w w')
    (c9 : ∀ w, Calls Tryd.prog 28 #[.int .i64 s, N b] w fun e w' => e = .returned (.bool false) ∧ Below w.heap.size w w')
    (c10 : ∀ w, Calls Tryd.prog 30 #[.int .i64 s, N a] w fun e w' => e = .returned (N ng) ∧ Below w.heap.size w w') (w : World) (hm : Mm w [(0, dtab)]) :
    Calls Tryd.prog 5 #[.int .i64 s, N a, N b] w fun e w' => e = .returned (.bool true) ∧ Below w.heap.size w w' := by
  have H0 : Hid (_ ∧ _) := ⟨hm, Below.refl w.heap.size w⟩
  clear hm
  have C0 : Hid _ := c0
  have C1 : Hid _ := c1
  have C2 : Hid _ := c2
  have C3 : Hid _ := c3
  have C4 : Hid _ := c4
  have C5 : Hid _ := c5
  have C6 : Hid _ := c6
  have C7 : Hid _ := c7
  have C8 : Hid _ := c8
  have C9 : Hid _ := c9
  have C10 : Hid _ := c10
  clear c0 c1 c2 c3 c4 c5 c6 c7 c8 c9 c10
  go_enter Tryd.func5, Tryd.ntmps5
  refine wp_seq ?_
  refine walk_seqA 3 [.made (cells6 a) 24, .made (cells6 b) 24, .quiet (.bool false)] (sB H0) ?ho1 ?he1
  case ho1 => exact ak (fun γ => ⟨rfl, fun w' => ex_box6 rfl rfl⟩) (ak (fun γ => ⟨rfl, fun w' => ex_box6 rfl rfl⟩) (ak (fun _ => ⟨rfl, fun _ _ => rfl⟩) trivial))
  intro γ w1 l hM hl
  have H1 : Hid (Mm w1 [(γ 0, cells6 a), (γ 1, cells6 b), (0, dtab)] ∧ _) := growB H0 hM (Nat.le_refl _) hl [0, 1] rfl (by decide)
  have o1_0 := ownB H0 hM (Nat.le_refl _) hl (i := 0) rfl
  have o1_1 := ownB H0 hM (Nat.le_refl _) hl (i := 1) rfl
  clear hM hl l
  generalize γ 0 = γ1_0 at H1 o1_0 ⊢
  generalize γ 1 = γ1_1 at H1 o1_1 ⊢
  clear γ
  refine rest0 rfl (then_normal (wp_seq ?_))
  refine walk_seqB 3 [.quiet (.int .i64 s), .call (.bool true), .quiet (.bool true)] H1 ?ho2 ?he2
  case ho2 => exact ak (fun _ => ⟨rfl, fun _ _ => rfl⟩) (ak (fun γ => ⟨rfl, fun w' h => ⟨24, #[.int .i64 s], exec_call rfl call24 rfl (mpn rfl), C0.out w'⟩⟩) (ak (fun _ => ⟨rfl, fun _ _ => rfl⟩) trivial))
  intro _ w2 H2
  clear H1
  refine rest0 rfl (then_normal (wp_seq ?_))
  refine walk_seqA 8 [.quiet (.int .i64 s), .call (.tuple #[N r, .int .i64 0]), .quiet (.tuple #[N r, .int .i64 0]), .quiet (N r), .quiet (.int .i64 0), .made zero6 24, .laid 5 zero6 (cells6 r), .quiet (.int .i64 0)] (sB H2) ?ho3 ?he3 (hL := ?hL3)
  case hL3 => exact ⟨⟨_, rfl⟩, trivial⟩
  case ho3 => exact ak (fun _ => ⟨rfl, fun _ _ => rfl⟩) (ak (fun γ => ⟨rfl, fun w' h => ⟨25, #[.int .i64 s], exec_call rfl call25 rfl (mpn rfl), C1.out w'⟩⟩) (ak (fun _ => ⟨rfl, fun _ _ => rfl⟩) (ak (by refine fun γ => ⟨rfl, fun w' h => ?_⟩; clear h; go_simp) (ak (by refine fun γ => ⟨rfl, fun w' h => ?_⟩; clear h; go_simp) (ak (fun γ => ⟨rfl, fun w' => exec_made6 rfl⟩) (ak (fun γ => ⟨rfl, rfl, rfl, fun w' h => exec_laid6 h rfl rfl rfl⟩) (ak (fun _ => ⟨rfl, fun _ _ => rfl⟩) trivial)))))))
  intro γ w3 l hM hl
  have H3 : Hid (Mm w3 [(γ 5, cells6 r), (γ1_0, cells6 a), (γ1_1, cells6 b), (0, dtab)] ∧ _) := growB H2 hM (Nat.le_refl _) hl [5] rfl (by decide)
  have o3_5 := ownB H2 hM (Nat.le_refl _) hl (i := 5) rfl
  clear hM hl l H2
  generalize γ 5 = γ3_5 at H3 o3_5 ⊢
  clear γ
  refine rest0 rfl (then_normal (wp_seq (wp_seq ?_)))
  refine walk_seqB 2 [.quiet (.bool true), .quiet (.bool false)] H3 ?ho4 ?he4
  case ho4 => exact ak (fun _ => ⟨rfl, fun _ _ => rfl⟩) (ak (by refine fun γ => ⟨rfl, fun w' h => ?_⟩; clear h; go_simp) trivial)
  intro _ w4 H4
  clear H3
  refine rest0 rfl (then_normal (wp_cond_false rfl ?_))
  refine wp_skip (then_normal (wp_seq ?_))
  refine walk_seqB 4 [.quiet (.int .i64 s), .quiet (N a), .call (.bool true), .quiet (.bool true)] H4 ?ho5 ?he5
  case ho5 => exact ak (fun _ => ⟨rfl, fun _ _ => rfl⟩) (ak (fun γ => ⟨rfl, fun w' h => ex_load6 h 1 rfl rfl rfl rfl⟩) (ak (fun γ => ⟨rfl, fun w' h => ⟨28, #[.int .i64 s, N a], exec_call rfl call28 rfl (mpn rfl), C7.out w'⟩⟩) (ak (fun _ => ⟨rfl, fun _ _ => rfl⟩) trivial)))
  intro _ w5 H5
  clear H4
  refine rest0 rfl (then_normal (wp_seq ?_))
  refine walk_seqB 7 [.quiet (.bool true), .quiet (.bool true), .quiet (.int .i64 s), .quiet (N b), .call (.bool false), .quiet (.bool false), .quiet (.bool false)] H5 ?ho6 ?he6
  case ho6 => exact ak (fun _ => ⟨rfl, fun _ _ => rfl⟩) (ak (fun _ => ⟨rfl, fun _ _ => rfl⟩) (ak (fun _ => ⟨rfl, fun _ _ => rfl⟩) (ak (fun γ => ⟨rfl, fun w' h => ex_load6 h 2 rfl rfl rfl rfl⟩) (ak (fun γ => ⟨rfl, fun w' h => ⟨28, #[.int .i64 s, N b], exec_call rfl call28 rfl (mpn rfl), C9.out w'⟩⟩) (ak (by refine fun γ => ⟨rfl, fun w' h => ?_⟩; clear h; go_simp) (ak (fun _ => ⟨rfl, fun _ _ => rfl⟩) trivial))))))
  intro _ w6 H6
  clear H5
  refine rest0 rfl (then_normal (wp_seq (wp_seq ?_)))
  refine walk_anyB 6 [.quiet (N r), .quiet (.int .i64 0), .quiet (.int .i64 s), .call (N r), .call (.bool true), .quiet (.bool false)] H6 ?ho7 ?he7
  case ho7 => exact ak (fun γ => ⟨rfl, fun w' h => ex_load6 h 0 rfl rfl rfl rfl⟩) (ak (fun _ => ⟨rfl, fun _ _ => rfl⟩) (ak (fun _ => ⟨rfl, fun _ _ => rfl⟩) (ak (fun γ => ⟨rfl, fun w' h => ⟨29, #[.int .i64 s], exec_call rfl call29 rfl (mpn rfl), C8.out w'⟩⟩) (ak (fun γ => ⟨rfl, fun w' h => ⟨27, #[N r, .int .i64 0, .bool true, N r], exec_call rfl call27 rfl (mpn rfl), num_yes b_r w'⟩⟩) (ak (by refine fun γ => ⟨rfl, fun w' h => ?_⟩; clear h; go_simp) trivial)))))
  intro _ w7 H7
  clear H6
  refine rest0 rfl (then_normal (wp_cond_false rfl ?_))
  refine wp_skip (then_normal (wp_seq ?_))
  refine walk_seqA 10 [.quiet (.int .i64 s), .quiet (N a), .quiet (N b), .call (.tuple #[N 0, .int .i64 2]), .quiet (.tuple #[N 0, .int .i64 2]), .quiet (N 0), .quiet (.int .i64 2), .made zero6 24, .laid 7 zero6 (cells6 0), .quiet (.int .i64 2)] (sB H7) ?ho8 ?he8 (hL := ?hL8)
  case hL8 => exact ⟨⟨_, rfl⟩, trivial⟩
  case ho8 => exact ak (fun _ => ⟨rfl, fun _ _ => rfl⟩) (ak (fun γ => ⟨rfl, fun w' h => ex_load6 h 1 rfl rfl rfl rfl⟩) (ak (fun γ => ⟨rfl, fun w' h => ex_load6 h 2 rfl rfl rfl rfl⟩) (ak (fun γ => ⟨rfl, fun w' h => ⟨20, #[.int .i64 s, N a, N b], exec_call rfl call20 rfl (mpn rfl), C2.out w'⟩⟩) (ak (fun _ => ⟨rfl, fun _ _ => rfl⟩) (ak (by refine fun γ => ⟨rfl, fun w' h => ?_⟩; clear h; go_simp) (ak (by refine fun γ => ⟨rfl, fun w' h => ?_⟩; clear h; go_simp) (ak (fun γ => ⟨rfl, fun w' => exec_made6 rfl⟩) (ak (fun γ => ⟨rfl, rfl, len_zero, fun w' h => exec_laid6 (v := 0) h rfl rfl rfl⟩) (ak (fun _ => ⟨rfl, fun _ _ => rfl⟩) trivial)))))))))
  intro γ w8 l hM hl
  have H8 : Hid (Mm w8 [(γ 7, cells6 0), (γ3_5, cells6 r), (γ1_0, cells6 a), (γ1_1, cells6 b), (0, dtab)] ∧ _) := growB H7 hM (Nat.le_refl _) hl [7] rfl (by decide)
  have o8_7 := ownB H7 hM (Nat.le_refl _) hl (i := 7) rfl
  clear hM hl l H7
  generalize γ 7 = γ8_7 at H8 o8_7 ⊢
  clear γ
  refine rest0 rfl (then_normal (wp_seq ?_))
  refine walk_seqA 10 [.quiet (.int .i64 s), .quiet (N a), .quiet (N b), .call (.tuple #[N 0, .int .i64 2]), .quiet (.tuple #[N 0, .int .i64 2]), .quiet (N 0), .quiet (.int .i64 2), .made zero6 24, .laid 7 zero6 (cells6 0), .quiet (.int .i64 2)] (sB H8) ?ho9 ?he9 (hL := ?hL9)
  case hL9 => exact ⟨⟨_, rfl⟩, trivial⟩
  case ho9 => exact ak (fun _ => ⟨rfl, fun _ _ => rfl⟩) (ak (fun γ => ⟨rfl, fun w' h => ex_load6 h 2 rfl rfl rfl rfl⟩) (ak (fun γ => ⟨rfl, fun w' h => ex_load6 h 3 rfl rfl rfl rfl⟩) (ak (fun γ => ⟨rfl, fun w' h => ⟨21, #[.int .i64 s, N a, N b], exec_call rfl call21 rfl (mpn rfl), C3.out w'⟩⟩) (ak (fun _ => ⟨rfl, fun _ _ => rfl⟩) (ak (by refine fun γ => ⟨rfl, fun w' h => ?_⟩; clear h; go_simp) (ak (by refine fun γ => ⟨rfl, fun w' h => ?_⟩; clear h; go_simp) (ak (fun γ => ⟨rfl, fun w' => exec_made6 rfl⟩) (ak (fun γ => ⟨rfl, rfl, len_zero, fun w' h => exec_laid6 (v := 0) h rfl rfl rfl⟩) (ak (fun _ => ⟨rfl, fun _ _ => rfl⟩) trivial)))))))))
  intro γ w9 l hM hl
  have H9 : Hid (Mm w9 [(γ 7, cells6 0), (γ8_7, cells6 0), (γ3_5, cells6 r), (γ1_0, cells6 a), (γ1_1, cells6 b), (0, dtab)] ∧ _) := growB H8 hM (Nat.le_refl _) hl [7] rfl (by decide)
  have o9_7 := ownB H8 hM (Nat.le_refl _) hl (i := 7) rfl
  clear hM hl l H8
  generalize γ 7 = γ9_7 at H9 o9_7 ⊢
  clear γ
  refine rest0 rfl (then_normal (wp_seq ?_))
  refine walk_seqA 10 [.quiet (.int .i64 s), .quiet (N a), .quiet (N b), .call (.tuple #[N 0, .int .i64 2]), .quiet (.tuple #[N 0, .int .i64 2]), .quiet (N 0), .quiet (.int .i64 2), .made zero6 24, .laid 7 zero6 (cells6 0), .quiet (.int .i64 2)] (sB H9) ?ho10 ?he10 (hL := ?hL10)
  case hL10 => exact ⟨⟨_, rfl⟩, trivial⟩
  case ho10 => exact ak (fun _ => ⟨rfl, fun _ _ => rfl⟩) (ak (fun γ => ⟨rfl, fun w' h => ex_load6 h 3 rfl rfl rfl rfl⟩) (ak (fun γ => ⟨rfl, fun w' h => ex_load6 h 4 rfl rfl rfl rfl⟩) (ak (fun γ => ⟨rfl, fun w' h => ⟨19, #[.int .i64 s, N a, N b], exec_call rfl call19 rfl (mpn rfl), C4.out w'⟩⟩) (ak (fun _ => ⟨rfl, fun _ _ => rfl⟩) (ak (by refine fun γ => ⟨rfl, fun w' h => ?_⟩; clear h; go_simp) (ak (by refine fun γ => ⟨rfl, fun w' h => ?_⟩; clear h; go_simp) (ak (fun γ => ⟨rfl, fun w' => exec_made6 rfl⟩) (ak (fun γ => ⟨rfl, rfl, len_zero, fun w' h => exec_laid6 (v := 0) h rfl rfl rfl⟩) (ak (fun _ => ⟨rfl, fun _ _ => rfl⟩) trivial)))))))))
  intro γ w10 l hM hl
  have H10 : Hid (Mm w10 [(γ 7, cells6 0), (γ9_7, cells6 0), (γ8_7, cells6 0), (γ3_5, cells6 r), (γ1_0, cells6 a), (γ1_1, cells6 b), (0, dtab)] ∧ _) := growB H9 hM (Nat.le_refl _) hl [7] rfl (by decide)
  have o10_7 := ownB H9 hM (Nat.le_refl _) hl (i := 7) rfl
  clear hM hl l H9
  generalize γ 7 = γ10_7 at H10 o10_7 ⊢
  clear γ
  refine rest0 rfl (then_normal (wp_seq ?_))
  refine walk_seqA 9 [.quiet (.int .i64 s), .quiet (N a), .call (.tuple #[N ng, .int .i64 0]), .quiet (.tuple #[N ng, .int .i64 0]), .quiet (N ng), .quiet (.int .i64 0), .made zero6 24, .laid 6 zero6 (cells6 ng), .quiet (.int .i64 0)] (sB H10) ?ho11 ?he11 (hL := ?hL11)
  case hL11 => exact ⟨⟨_, rfl⟩, trivial⟩
  case ho11 => exact ak (fun _ => ⟨rfl, fun _ _ => rfl⟩) (ak (fun γ => ⟨rfl, fun w' h => ex_load6 h 4 rfl rfl rfl rfl⟩) (ak (fun γ => ⟨rfl, fun w' h => ⟨26, #[.int .i64 s, N a], exec_call rfl call26 rfl (mpn rfl), C5.out w'⟩⟩) (ak (fun _ => ⟨rfl, fun _ _ => rfl⟩) (ak (by refine fun γ => ⟨rfl, fun w' h => ?_⟩; clear h; go_simp) (ak (by refine fun γ => ⟨rfl, fun w' h => ?_⟩; clear h; go_simp) (ak (fun γ => ⟨rfl, fun w' => exec_made6 rfl⟩) (ak (fun γ => ⟨rfl, rfl, rfl, fun w' h => exec_laid6 h rfl rfl rfl⟩) (ak (fun _ => ⟨rfl, fun _ _ => rfl⟩) trivial))))))))
  intro γ w11 l hM hl
  have H11 : Hid (Mm w11 [(γ 6, cells6 ng), (γ10_7, cells6 0), (γ9_7, cells6 0), (γ8_7, cells6 0), (γ3_5, cells6 r), (γ1_0, cells6 a), (γ1_1, cells6 b), (0, dtab)] ∧ _) := growB H10 hM (Nat.le_refl _) hl [6] rfl (by decide)
  have o11_6 := ownB H10 hM (Nat.le_refl _) hl (i := 6) rfl
  clear hM hl l H10
  generalize γ 6 = γ11_6 at H11 o11_6 ⊢
  clear γ
  refine rest0 rfl (then_normal (wp_seq ?_))
  refine walk_seqA 9 [.quiet (.int .i64 s), .quiet (N a), .call (.tuple #[N iv, .int .i64 6]), .quiet (.tuple #[N iv, .int .i64 6]), .quiet (N iv), .quiet (.int .i64 6), .made zero6 24, .laid 6 zero6 (cells6 iv), .quiet (.int .i64 6)] (sB H11) ?ho12 ?he12 (hL := ?hL12)
  case hL12 => exact ⟨⟨_, rfl⟩, trivial⟩
  case ho12 => exact ak (fun _ => ⟨rfl, fun _ _ => rfl⟩) (ak (fun γ => ⟨rfl, fun w' h => ex_load6 h 5 rfl rfl rfl rfl⟩) (ak (fun γ => ⟨rfl, fun w' h => ⟨22, #[.int .i64 s, N a], exec_call rfl call22 rfl (mpn rfl), C6.out w' (h.one 7 rfl)⟩⟩) (ak (fun _ => ⟨rfl, fun _ _ => rfl⟩) (ak (by refine fun γ => ⟨rfl, fun w' h => ?_⟩; clear h; go_simp) (ak (by refine fun γ => ⟨rfl, fun w' h => ?_⟩; clear h; go_simp) (ak (fun γ => ⟨rfl, fun w' => exec_made6 rfl⟩) (ak (fun γ => ⟨rfl, rfl, rfl, fun w' h => exec_laid6 h rfl rfl rfl⟩) (ak (fun _ => ⟨rfl, fun _ _ => rfl⟩) trivial))))))))
  intro γ w12 l hM hl
  have H12 : Hid (Mm w12 [(γ 6, cells6 iv), (γ11_6, cells6 ng), (γ10_7, cells6 0), (γ9_7, cells6 0), (γ8_7, cells6 0), (γ3_5, cells6 r), (γ1_0, cells6 a), (γ1_1, cells6 b), (0, dtab)] ∧ _) := growB H11 hM (Nat.le_refl _) hl [6] rfl (by decide)
  have o12_6 := ownB H11 hM (Nat.le_refl _) hl (i := 6) rfl
  clear hM hl l H11
  generalize γ 6 = γ12_6 at H12 o12_6 ⊢
  clear γ
  refine rest0 rfl (then_normal (wp_seq (wp_seq ?_)))
  refine walk_seqB 38 [.quiet (.bool false), .quiet (.bool true), .quiet (.bool true), .quiet (N 0), .quiet (.int .i64 2), .quiet (N a), .call (.bool true), .quiet (.bool true), .quiet (N 0), .quiet (.int .i64 2), .quiet (N a), .call (.bool true), .quiet (.bool true), .quiet (.bool true), .quiet (N 0), .quiet (.int .i64 2), .quiet (N a), .call (.bool true), .quiet (.bool true), .quiet (.bool false), .quiet (.bool false), .quiet (.bool false), .quiet (.bool true), .quiet (.bool false), .quiet (.bool false), .gone, .gone, .gone, .gone, .gone, .gone, .gone, .gone, .gone, .gone, .gone, .quiet (.bool false), .quiet (.bool false)] H12 ?ho13 ?he13 (hL := ?hL13)
  case hL13 => exact trivial
  case ho13 => exact ak (fun _ => ⟨rfl, fun _ _ => rfl⟩) (ak (by refine fun γ => ⟨rfl, fun w' h => ?_⟩; clear h; go_simp) (ak (fun _ => ⟨rfl, fun _ _ => rfl⟩) (ak (fun γ => ⟨rfl, fun w' h => ex_load6 (v := 0) h 4 rfl rfl rfl rfl⟩) (ak (fun _ => ⟨rfl, fun _ _ => rfl⟩) (ak (fun γ => ⟨rfl, fun w' h => ex_load6 h 6 rfl rfl rfl rfl⟩) (ak (fun γ => ⟨rfl, fun w' h => ⟨27, #[N 0, .int .i64 2, .bool false, N a], exec_call rfl call27 rfl (mpn rfl), num_no a w'⟩⟩) (ak (fun _ => ⟨rfl, fun _ _ => rfl⟩) (ak (fun γ => ⟨rfl, fun w' h => ex_load6 (v := 0) h 3 rfl rfl rfl rfl⟩) (ak (fun _ => ⟨rfl, fun _ _ => rfl⟩) (ak (fun γ => ⟨rfl, fun w' h => ex_load6 h 6 rfl rfl rfl rfl⟩) (ak (fun γ => ⟨rfl, fun w' h => ⟨27, #[N 0, .int .i64 2, .bool false, N a], exec_call rfl call27 rfl (mpn rfl), num_no a w'⟩⟩) (ak (by refine fun γ => ⟨rfl, fun w' h => ?_⟩; clear h; go_simp) (ak (fun _ => ⟨rfl, fun _ _ => rfl⟩) (ak (fun γ => ⟨rfl, fun w' h => ex_load6 (v := 0) h 2 rfl rfl rfl rfl⟩) (ak (fun _ => ⟨rfl, fun _ _ => rfl⟩) (ak (fun γ => ⟨rfl, fun w' h => ex_load6 h 6 rfl rfl rfl rfl⟩) (ak (fun γ => ⟨rfl, fun w' h => ⟨27, #[N 0, .int .i64 2, .bool false, N a], exec_call rfl call27 rfl (mpn rfl), num_no a w'⟩⟩) (ak (by refine fun γ => ⟨rfl, fun w' h => ?_⟩; clear h; go_simp) (ak (by refine fun γ => ⟨rfl, fun w' h => ?_⟩; clear h; go_simp) (ak (by refine fun γ => ⟨rfl, fun w' h => ?_⟩; clear h; go_simp) (ak (fun _ => ⟨rfl, fun _ _ => rfl⟩) (ak (fun _ => ⟨rfl, fun _ _ => rfl⟩) (ak (by refine fun γ => ⟨rfl, fun w' h => ?_⟩; clear h; go_simp) (ak (fun _ => ⟨rfl, fun _ _ => rfl⟩) (ak (fun γ => rfl) (ak (fun γ => rfl) (ak (fun γ => rfl) (ak (fun γ => rfl) (ak (fun γ => rfl) (ak (fun γ => rfl) (ak (fun γ => rfl) (ak (fun γ => rfl) (ak (fun γ => rfl) (ak (fun γ => rfl) (ak (fun γ => rfl) (ak (by refine fun γ => ⟨rfl, fun w' h => ?_⟩; clear h; go_simp) (ak (by refine fun γ => ⟨rfl, fun w' h => ?_⟩; clear h; go_simp) trivial)))))))))))))))))))))))))))))))))))))
  intro _ w13 H13
  clear H12
  refine rest0 rfl (then_normal (wp_cond_false rfl ?_))
  refine wp_skip (then_normal ?_)
  refine wp_seq (wp_seq ?_)
  refine walk_anyB 38 [.quiet (.bool true), .quiet (.bool true), .quiet (N ng), .quiet (.int .i64 0), .quiet (.int .i64 s), .quiet (N a), .call (N ng), .call (.bool true), .quiet (.bool false), .quiet (.bool false), .quiet (N a), .quiet (N 0), .quiet (.bool true), .quiet (.bool true), .quiet (N iv), .quiet (N a), .quiet (.bool false), .quiet (.bool false), .quiet (.int .i64 6), .quiet (.bool false), .quiet (.bool false), .quiet (.bool false), .quiet (.bool false), .quiet (.bool false), .quiet (N a), .quiet (N 0), .quiet (.bool false), .quiet (.bool false), .gone, .gone, .gone, .gone, .gone, .gone, .gone, .quiet (.bool false), .quiet (.bool false), .quiet (.bool false)] H13 ?ho14 ?he14 (hL := ?hL14)
  case hL14 => exact trivial
  case ho14 => exact ak (fun _ => ⟨rfl, fun _ _ => rfl⟩) (ak (fun _ => ⟨rfl, fun _ _ => rfl⟩) (ak (fun γ => ⟨rfl, fun w' h => ex_load6 h 1 rfl rfl rfl rfl⟩) (ak (fun _ => ⟨rfl, fun _ _ => rfl⟩) (ak (fun _ => ⟨rfl, fun _ _ => rfl⟩) (ak (fun γ => ⟨rfl, fun w' h => ex_load6 h 6 rfl rfl rfl rfl⟩) (ak (fun γ => ⟨rfl, fun w' h => ⟨30, #[.int .i64 s, N a], exec_call rfl call30 rfl (mpn rfl), C10.out w'⟩⟩) (ak (fun γ => ⟨rfl, fun w' h => ⟨27, #[N ng, .int .i64 0, .bool true, N ng], exec_call rfl call27 rfl (mpn rfl), num_yes b_ng w'⟩⟩) (ak (by refine fun γ => ⟨rfl, fun w' h => ?_⟩; clear h; go_simp) (ak (fun _ => ⟨rfl, fun _ _ => rfl⟩) (ak (fun γ => ⟨rfl, fun w' h => ex_load6 h 6 rfl rfl rfl rfl⟩) (ak (by refine fun γ => ⟨rfl, fun w' h => ?_⟩; clear h; exact ex_zero6 rfl) (ak (fun γ => ⟨rfl, fun w' _ => exec_eq6 e_a rfl rfl rfl⟩) (ak (fun _ => ⟨rfl, fun _ _ => rfl⟩) (ak (fun γ => ⟨rfl, fun w' h => ex_load6 h 0 rfl rfl rfl rfl⟩) (ak (fun γ => ⟨rfl, fun w' h => ex_load6 h 6 rfl rfl rfl rfl⟩) (ak (fun γ => ⟨rfl, fun w' _ => exec_neq6 e_v rfl rfl rfl⟩) (ak (fun _ => ⟨rfl, fun _ _ => rfl⟩) (ak (fun _ => ⟨rfl, fun _ _ => rfl⟩) (ak (by refine fun γ => ⟨rfl, fun w' h => ?_⟩; clear h; go_simp) (ak (by refine fun γ => ⟨rfl, fun w' h => ?_⟩; clear h; go_simp) (ak (by refine fun γ => ⟨rfl, fun w' h => ?_⟩; clear h; go_simp) (ak (by refine fun γ => ⟨rfl, fun w' h => ?_⟩; clear h; go_simp) (ak (fun _ => ⟨rfl, fun _ _ => rfl⟩) (ak (fun γ => ⟨rfl, fun w' h => ex_load6 h 6 rfl rfl rfl rfl⟩) (ak (by refine fun γ => ⟨rfl, fun w' h => ?_⟩; clear h; exact ex_zero6 rfl) (ak (fun γ => ⟨rfl, fun w' _ => exec_neq6 e_a rfl rfl rfl⟩) (ak (fun _ => ⟨rfl, fun _ _ => rfl⟩) (ak (fun γ => rfl) (ak (fun γ => rfl) (ak (fun γ => rfl) (ak (fun γ => rfl) (ak (fun γ => rfl) (ak (fun γ => rfl) (ak (fun γ => rfl) (ak (by refine fun γ => ⟨rfl, fun w' h => ?_⟩; clear h; go_simp) (ak (by refine fun γ => ⟨rfl, fun w' h => ?_⟩; clear h; go_simp) (ak (by refine fun γ => ⟨rfl, fun w' h => ?_⟩; clear h; go_simp) trivial)))))))))))))))))))))))))))))))))))))
  intro _ w14 H14
  clear H13
  refine rest0 rfl (then_normal (wp_cond_false rfl ?_))
  refine wp_skip (then_normal (wp_seq ?_))
  refine walk_anyB 30 [.quiet (.bool false), .quiet (.bool true), .quiet (.bool true), .gone, .gone, .gone, .gone, .gone, .gone, .gone, .gone, .gone, .gone, .gone, .gone, .gone, .gone, .gone, .gone, .gone, .gone, .gone, .gone, .gone, .gone, .gone, .gone, .gone, .quiet (.bool true), .quiet (.bool true)] H14 ?ho15 ?he15 (hL := ?hL15)
  case hL15 => exact trivial
  case ho15 => exact ak (fun _ => ⟨rfl, fun _ _ => rfl⟩) (ak (by refine fun γ => ⟨rfl, fun w' h => ?_⟩; clear h; go_simp) (ak (fun _ => ⟨rfl, fun _ _ => rfl⟩) (ak (fun γ => rfl) (ak (fun γ => rfl) (ak (fun γ => rfl) (ak (fun γ => rfl) (ak (fun γ => rfl) (ak (fun γ => rfl) (ak (fun γ => rfl) (ak (fun γ => rfl) (ak (fun γ => rfl) (ak (fun γ => rfl) (ak (fun γ => rfl) (ak (fun γ => rfl) (ak (fun γ => rfl) (ak (fun γ => rfl) (ak (fun γ => rfl) (ak (fun γ => rfl) (ak (fun γ => rfl) (ak (fun γ => rfl) (ak (fun γ => rfl) (ak (fun γ => rfl) (ak (fun γ => rfl) (ak (fun γ => rfl) (ak (fun γ => rfl) (ak (fun γ => rfl) (ak (fun γ => rfl) (ak (by refine fun γ => ⟨rfl, fun w' h => ?_⟩; clear h; go_simp) (ak (fun _ => ⟨rfl, fun _ _ => rfl⟩) trivial)))))))))))))))))))))))))))))
  intro _ w15 H15
  clear H14
  refine rest0 rfl (then_normal (wp_ret ?_))
  repeat (first | refine then_ret ?_ | refine block_ret ?_)
  refine bodyPost_ret (v := .bool true) (by simp [results, Tryd.results5, go_sem, *]) rfl ?_
  exact ⟨rfl, H15.out.2⟩
set_option maxHeartbeats 4000000 in
set_option maxRecDepth 100000 in
theorem sc_one1 (s : Int) (a b iv ng r : Nat)
    (b_iv : iv < big)
    (b_ng : ng < big)
    (b_r : r < big)
    (e_a : ∀ w, (Op.equalIn 10000 24 (N a) (N 0)).run Tryd.prog w = .ok false w)
    (c0 : ∀ w, Calls Tryd.prog 24 #[.int .i64 s] w fun e w' => e = .returned (.bool true) ∧ Below w.heap.size w w')
    (c1 : ∀ w, Calls Tryd.prog 25 #[.int .i64 s] w fun e w' => e = .returned (.tuple #[N r, .int .i64 0]) ∧ Below w.heap.size w w')
    (c2 : ∀ w, Calls Tryd.prog 20 #[.int .i64 s, N a, N b] w fun e w' => e = .returned (.tuple #[N 0, .int .i64 2]) ∧ Below w.heap.size w w')
    (c3 : ∀ w, Calls Tryd.prog 21 #[.int .i64 s, N a, N b] w fun e w' => e = .returned (.tuple #[N 0, .int .i64 2]) ∧ Below w.heap.size w w')
    (c4 : ∀ w, Calls Tryd.prog 19 #[.int .i64 s, N a, N b] w fun e w' => e = .returned (.tuple #[N 0, .int .i64 2]) ∧ Below w.heap.size w w')
    (c5 : ∀ w, Calls Tryd.prog 26 #[.int .i64 s, N a] w fun e w' => e = .returned (.tuple #[N ng, .int .i64 0]) ∧ Below w.heap.size w w')
    (c6 : ∀ w, Mm w [(0, dtab)] → Calls Tryd.prog 22 #[.int .i64 s, N a] w fun e w' => e = .returned (.tuple #[N iv, .int .i64 0]) ∧ Below w.heap.size w w')
    (c7 : ∀ w, Calls Tryd.prog 28 #[.int .i64 s, N a] w fun e w' => e = .returned (.bool true) ∧ Below w.heap.size w w')
    (c8 : ∀ w, Calls Tryd.prog 29 #[.int .i64 s] w fun e w' => e = .returned (N r) ∧ Below w.heap.size w w')
    (c9 : ∀ w, Calls Tryd.prog 28 #[.int .i64 s, N b] w fun e w' => e = .returned (.bool false) ∧ Below w.heap.size w w')
    (c10 : ∀ w, Calls Tryd.prog 30 #[.int .i64 s, N a] w fun e w' => e = .returned (N ng) ∧ Below w.heap.size w w')
    (c11 : ∀ w, Calls Tryd.prog 31 #[.int .i64 s, N a] w fun e w' => e = .returned (N iv) ∧ Below w.heap.size w w') (w : World) (hm : Mm w [(0, dtab)]) :
    Calls Tryd.prog 5 #[.int .i64 s, N a, N b] w fun e w' => e = .returned (.bool true) ∧ Below w.heap.size w w' := by
  have H0 : Hid (_ ∧ _) := ⟨hm, Below.refl w.heap.size w⟩
  clear hm
  have C0 : Hid _ := c0
  have C1 : Hid _ := c1
  have C2 : Hid _ := c2
  have C3 : Hid _ := c3
  have C4 : Hid _ := c4
  have C5 : Hid _ := c5
  have C6 : Hid _ := c6
  have C7 : Hid _ := c7
  have C8 : Hid _ := c8
  have C9 : Hid _ := c9
  have C10 : Hid _ := c10
  have C11 : Hid _ := c11
  clear c0 c1 c2 c3 c4 c5 c6 c7 c8 c9 c10 c11
  go_enter Tryd.func5, Tryd.ntmps5
  refine wp_seq ?_
  refine walk_seqA 3 [.made (cells6 a) 24, .made (cells6 b) 24, .quiet (.bool false)] (sB H0) ?ho1 ?he1
  case ho1 => exact ak (fun γ => ⟨rfl, fun w' => ex_box6 rfl rfl⟩) (ak (fun γ => ⟨rfl, fun w' => ex_box6 rfl rfl⟩) (ak (fun _ => ⟨rfl, fun _ _ => rfl⟩) trivial))
  intro γ w1 l hM hl
  have H1 : Hid (Mm w1 [(γ 0, cells6 a), (γ 1, cells6 b), (0, dtab)] ∧ _) := growB H0 hM (Nat.le_refl _) hl [0, 1] rfl (by decide)
  have o1_0 := ownB H0 hM (Nat.le_refl _) hl (i := 0) rfl
  have o1_1 := ownB H0 hM (Nat.le_refl _) hl (i := 1) rfl
  clear hM hl l
  generalize γ 0 = γ1_0 at H1 o1_0 ⊢
  generalize γ 1 = γ1_1 at H1 o1_1 ⊢
  clear γ
  refine rest0 rfl (then_normal (wp_seq ?_))
  refine walk_seqB 3 [.quiet (.int .i64 s), .call (.bool true), .quiet (.bool true)] H1 ?ho2 ?he2
  case ho2 => exact ak (fun _ => ⟨rfl, fun _ _ => rfl⟩) (ak (fun γ => ⟨rfl, fun w' h => ⟨24, #[.int .i64 s], exec_call rfl call24 rfl (mpn rfl), C0.out w'⟩⟩) (ak (fun _ => ⟨rfl, fun _ _ => rfl⟩) trivial))
  intro _ w2 H2
  clear H1
  refine rest0 rfl (then_normal (wp_seq ?_))
  refine walk_seqA 8 [.quiet (.int .i64 s), .call (.tuple #[N r, .int .i64 0]), .quiet (.tuple #[N r, .int .i64 0]), .quiet (N r), .quiet (.int .i64 0), .made zero6 24, .laid 5 zero6 (cells6 r), .quiet (.int .i64 0)] (sB H2) ?ho3 ?he3 (hL := ?hL3)
  case hL3 => exact ⟨⟨_, rfl⟩, trivial⟩
  case ho3 => exact ak (fun _ => ⟨rfl, fun _ _ => rfl⟩) (ak (fun γ => ⟨rfl, fun w' h => ⟨25, #[.int .i64 s], exec_call rfl call25 rfl (mpn rfl), C1.out w'⟩⟩) (ak (fun _ => ⟨rfl, fun _ _ => rfl⟩) (ak (by refine fun γ => ⟨rfl, fun w' h => ?_⟩; clear h; go_simp) (ak (by refine fun γ => ⟨rfl, fun w' h => ?_⟩; clear h; go_simp) (ak (fun γ => ⟨rfl, fun w' => exec_made6 rfl⟩) (ak (fun γ => ⟨rfl, rfl, rfl, fun w' h => exec_laid6 h rfl rfl rfl⟩) (ak (fun _ => ⟨rfl, fun _ _ => rfl⟩) trivial)))))))
  intro γ w3 l hM hl
  have H3 : Hid (Mm w3 [(γ 5, cells6 r), (γ1_0, cells6 a), (γ1_1, cells6 b), (0, dtab)] ∧ _) := growB H2 hM (Nat.le_refl _) hl [5] rfl (by decide)
  have o3_5 := ownB H2 hM (Nat.le_refl _) hl (i := 5) rfl
  clear hM hl l H2
  generalize γ 5 = γ3_5 at H3 o3_5 ⊢
  clear γ
  refine rest0 rfl (then_normal (wp_seq (wp_seq ?_)))
  refine walk_seqB 2 [.quiet (.bool true), .quiet (.bool false)] H3 ?ho4 ?he4
  case ho4 => exact ak (fun _ => ⟨rfl, fun _ _ => rfl⟩) (ak (by refine fun γ => ⟨rfl, fun w' h => ?_⟩; clear h; go_simp) trivial)
  intro _ w4 H4
  clear H3
  refine rest0 rfl (then_normal (wp_cond_false rfl ?_))
  refine wp_skip (then_normal (wp_seq ?_))
  refine walk_seqB 4 [.quiet (.int .i64 s), .quiet (N a), .call (.bool true), .quiet (.bool true)] H4 ?ho5 ?he5
  case ho5 => exact ak (fun _ => ⟨rfl, fun _ _ => rfl⟩) (ak (fun γ => ⟨rfl, fun w' h => ex_load6 h 1 rfl rfl rfl rfl⟩) (ak (fun γ => ⟨rfl, fun w' h => ⟨28, #[.int .i64 s, N a], exec_call rfl call28 rfl (mpn rfl), C7.out w'⟩⟩) (ak (fun _ => ⟨rfl, fun _ _ => rfl⟩) trivial)))
  intro _ w5 H5
  clear H4
  refine rest0 rfl (then_normal (wp_seq ?_))
  refine walk_seqB 7 [.quiet (.bool true), .quiet (.bool true), .quiet (.int .i64 s), .quiet (N b), .call (.bool false), .quiet (.bool false), .quiet (.bool false)] H5 ?ho6 ?he6
  case ho6 => exact ak (fun _ => ⟨rfl, fun _ _ => rfl⟩) (ak (fun _ => ⟨rfl, fun _ _ => rfl⟩) (ak (fun _ => ⟨rfl, fun _ _ => rfl⟩) (ak (fun γ => ⟨rfl, fun w' h => ex_load6 h 2 rfl rfl rfl rfl⟩) (ak (fun γ => ⟨rfl, fun w' h => ⟨28, #[.int .i64 s, N b], exec_call rfl call28 rfl (mpn rfl), C9.out w'⟩⟩) (ak (by refine fun γ => ⟨rfl, fun w' h => ?_⟩; clear h; go_simp) (ak (fun _ => ⟨rfl, fun _ _ => rfl⟩) trivial))))))
  intro _ w6 H6
  clear H5
  refine rest0 rfl (then_normal (wp_seq (wp_seq ?_)))
  refine walk_anyB 6 [.quiet (N r), .quiet (.int .i64 0), .quiet (.int .i64 s), .call (N r), .call (.bool true), .quiet (.bool false)] H6 ?ho7 ?he7
  case ho7 => exact ak (fun γ => ⟨rfl, fun w' h => ex_load6 h 0 rfl rfl rfl rfl⟩) (ak (fun _ => ⟨rfl, fun _ _ => rfl⟩) (ak (fun _ => ⟨rfl, fun _ _ => rfl⟩) (ak (fun γ => ⟨rfl, fun w' h => ⟨29, #[.int .i64 s], exec_call rfl call29 rfl (mpn rfl), C8.out w'⟩⟩) (ak (fun γ => ⟨rfl, fun w' h => ⟨27, #[N r, .int .i64 0, .bool true, N r], exec_call rfl call27 rfl (mpn rfl), num_yes b_r w'⟩⟩) (ak (by refine fun γ => ⟨rfl, fun w' h => ?_⟩; clear h; go_simp) trivial)))))
  intro _ w7 H7
  clear H6
  refine rest0 rfl (then_normal (wp_cond_false rfl ?_))
  refine wp_skip (then_normal (wp_seq ?_))
  refine walk_seqA 10 [.quiet (.int .i64 s), .quiet (N a), .quiet (N b), .call (.tuple #[N 0, .int .i64 2]), .quiet (.tuple #[N 0, .int .i64 2]), .quiet (N 0), .quiet (.int .i64 2), .made zero6 24, .laid 7 zero6 (cells6 0), .quiet (.int .i64 2)] (sB H7) ?ho8 ?he8 (hL := ?hL8)
  case hL8 => exact ⟨⟨_, rfl⟩, trivial⟩
  case ho8 => exact ak (fun _ => ⟨rfl, fun _ _ => rfl⟩) (ak (fun γ => ⟨rfl, fun w' h => ex_load6 h 1 rfl rfl rfl rfl⟩) (ak (fun γ => ⟨rfl, fun w' h => ex_load6 h 2 rfl rfl rfl rfl⟩) (ak (fun γ => ⟨rfl, fun w' h => ⟨20, #[.int .i64 s, N a, N b], exec_call rfl call20 rfl (mpn rfl), C2.out w'⟩⟩) (ak (fun _ => ⟨rfl, fun _ _ => rfl⟩) (ak (by refine fun γ => ⟨rfl, fun w' h => ?_⟩; clear h; go_simp) (ak (by refine fun γ => ⟨rfl, fun w' h => ?_⟩; clear h; go_simp) (ak (fun γ => ⟨rfl, fun w' => exec_made6 rfl⟩) (ak (fun γ => ⟨rfl, rfl, len_zero, fun w' h => exec_laid6 (v := 0) h rfl rfl rfl⟩) (ak (fun _ => ⟨rfl, fun _ _ => rfl⟩) trivial)))))))))
  intro γ w8 l hM hl
  have H8 : Hid (Mm w8 [(γ 7, cells6 0), (γ3_5, cells6 r), (γ1_0, cells6 a), (γ1_1, cells6 b), (0, dtab)] ∧ _) := growB H7 hM (Nat.le_refl _) hl [7] rfl (by decide)
  have o8_7 := ownB H7 hM (Nat.le_refl _) hl (i := 7) rfl
  clear hM hl l H7
  generalize γ 7 = γ8_7 at H8 o8_7 ⊢
  clear γ
  refine rest0 rfl (then_normal (wp_seq ?_))
  refine walk_seqA 10 [.quiet (.int .i64 s), .quiet (N a), .quiet (N b), .call (.tuple #[N 0, .int .i64 2]), .quiet (.tuple #[N 0, .int .i64 2]), .quiet (N 0), .quiet (.int .i64 2), .made zero6 24, .laid 7 zero6 (cells6 0), .quiet (.int .i64 2)] (sB H8) ?ho9 ?he9 (hL := ?hL9)
  case hL9 => exact ⟨⟨_, rfl⟩, trivial⟩
  case ho9 => exact ak (fun _ => ⟨rfl, fun _ _ => rfl⟩) (ak (fun γ => ⟨rfl, fun w' h => ex_load6 h 2 rfl rfl rfl rfl⟩) (ak (fun γ => ⟨rfl, fun w' h => ex_load6 h 3 rfl rfl rfl rfl⟩) (ak (fun γ => ⟨rfl, fun w' h => ⟨21, #[.int .i64 s, N a, N b], exec_call rfl call21 rfl (mpn rfl), C3.out w'⟩⟩) (ak (fun _ => ⟨rfl, fun _ _ => rfl⟩) (ak (by refine fun γ => ⟨rfl, fun w' h => ?_⟩; clear h; go_simp) (ak (by refine fun γ => ⟨rfl, fun w' h => ?_⟩; clear h; go_simp) (ak (fun γ => ⟨rfl, fun w' => exec_made6 rfl⟩) (ak (fun γ => ⟨rfl, rfl, len_zero, fun w' h => exec_laid6 (v := 0) h rfl rfl rfl⟩) (ak (fun _ => ⟨rfl, fun _ _ => rfl⟩) trivial)))))))))
  intro γ w9 l hM hl
  have H9 : Hid (Mm w9 [(γ 7, cells6 0), (γ8_7, cells6 0), (γ3_5, cells6 r), (γ1_0, cells6 a), (γ1_1, cells6 b), (0, dtab)] ∧ _) := growB H8 hM (Nat.le_refl _) hl [7] rfl (by decide)
  have o9_7 := ownB H8 hM (Nat.le_refl _) hl (i := 7) rfl
  clear hM hl l H8
  generalize γ 7 = γ9_7 at H9 o9_7 ⊢
  clear γ
  refine rest0 rfl (then_normal (wp_seq ?_))
  refine walk_seqA 10 [.quiet (.int .i64 s), .quiet (N a), .quiet (N b), .call (.tuple #[N 0, .int .i64 2]), .quiet (.tuple #[N 0, .int .i64 2]), .quiet (N 0), .quiet (.int .i64 2), .made zero6 24, .laid 7 zero6 (cells6 0), .quiet (.int .i64 2)] (sB H9) ?ho10 ?he10 (hL := ?hL10)
  case hL10 => exact ⟨⟨_, rfl⟩, trivial⟩
  case ho10 => exact ak (fun _ => ⟨rfl, fun _ _ => rfl⟩) (ak (fun γ => ⟨rfl, fun w' h => ex_load6 h 3 rfl rfl rfl rfl⟩) (ak (fun γ => ⟨rfl, fun w' h => ex_load6 h 4 rfl rfl rfl rfl⟩) (ak (fun γ => ⟨rfl, fun w' h => ⟨19, #[.int .i64 s, N a, N b], exec_call rfl call19 rfl (mpn rfl), C4.out w'⟩⟩) (ak (fun _ => ⟨rfl, fun _ _ => rfl⟩) (ak (by refine fun γ => ⟨rfl, fun w' h => ?_⟩; clear h; go_simp) (ak (by refine fun γ => ⟨rfl, fun w' h => ?_⟩; clear h; go_simp) (ak (fun γ => ⟨rfl, fun w' => exec_made6 rfl⟩) (ak (fun γ => ⟨rfl, rfl, len_zero, fun w' h => exec_laid6 (v := 0) h rfl rfl rfl⟩) (ak (fun _ => ⟨rfl, fun _ _ => rfl⟩) trivial)))))))))
  intro γ w10 l hM hl
  have H10 : Hid (Mm w10 [(γ 7, cells6 0), (γ9_7, cells6 0), (γ8_7, cells6 0), (γ3_5, cells6 r), (γ1_0, cells6 a), (γ1_1, cells6 b), (0, dtab)] ∧ _) := growB H9 hM (Nat.le_refl _) hl [7] rfl (by decide)
  have o10_7 := ownB H9 hM (Nat.le_refl _) hl (i := 7) rfl
  clear hM hl l H9
  generalize γ 7 = γ10_7 at H10 o10_7 ⊢
  clear γ
  refine rest0 rfl (then_normal (wp_seq ?_))
  refine walk_seqA 9 [.quiet (.int .i64 s), .quiet (N a), .call (.tuple #[N ng, .int .i64 0]), .quiet (.tuple #[N ng, .int .i64 0]), .quiet (N ng), .quiet (.int .i64 0), .made zero6 24, .laid 6 zero6 (cells6 ng), .quiet (.int .i64 0)] (sB H10) ?ho11 ?he11 (hL := ?hL11)
  case hL11 => exact ⟨⟨_, rfl⟩, trivial⟩
  case ho11 => exact ak (fun _ => ⟨rfl, fun _ _ => rfl⟩) (ak (fun γ => ⟨rfl, fun w' h => ex_load6 h 4 rfl rfl rfl rfl⟩) (ak (fun γ => ⟨rfl, fun w' h => ⟨26, #[.int .i64 s, N a], exec_call rfl call26 rfl (mpn rfl), C5.out w'⟩⟩) (ak (fun _ => ⟨rfl, fun _ _ => rfl⟩) (ak (by refine fun γ => ⟨rfl, fun w' h => ?_⟩; clear h; go_simp) (ak (by refine fun γ => ⟨rfl, fun w' h => ?_⟩; clear h; go_simp) (ak (fun γ => ⟨rfl, fun w' => exec_made6 rfl⟩) (ak (fun γ => ⟨rfl, rfl, rfl, fun w' h => exec_laid6 h rfl rfl rfl⟩) (ak (fun _ => ⟨rfl, fun _ _ => rfl⟩) trivial))))))))
  intro γ w11 l hM hl
  have H11 : Hid (Mm w11 [(γ 6, cells6 ng), (γ10_7, cells6 0), (γ9_7, cells6 0), (γ8_7, cells6 0), (γ3_5, cells6 r), (γ1_0, cells6 a), (γ1_1, cells6 b), (0, dtab)] ∧ _) := growB H10 hM (Nat.le_refl _) hl [6] rfl (by decide)
  have o11_6 := ownB H10 hM (Nat.le_refl _) hl (i := 6) rfl
  clear hM hl l H10
  generalize γ 6 = γ11_6 at H11 o11_6 ⊢
  clear γ
  refine rest0 rfl (then_normal (wp_seq ?_))
  refine walk_seqA 9 [.quiet (.int .i64 s), .quiet (N a), .call (.tuple #[N iv, .int .i64 0]), .quiet (.tuple #[N iv, .int .i64 0]), .quiet (N iv), .quiet (.int .i64 0), .made zero6 24, .laid 6 zero6 (cells6 iv), .quiet (.int .i64 0)] (sB H11) ?ho12 ?he12 (hL := ?hL12)
  case hL12 => exact ⟨⟨_, rfl⟩, trivial⟩
  case ho12 => exact ak (fun _ => ⟨rfl, fun _ _ => rfl⟩) (ak (fun γ => ⟨rfl, fun w' h => ex_load6 h 5 rfl rfl rfl rfl⟩) (ak (fun γ => ⟨rfl, fun w' h => ⟨22, #[.int .i64 s, N a], exec_call rfl call22 rfl (mpn rfl), C6.out w' (h.one 7 rfl)⟩⟩) (ak (fun _ => ⟨rfl, fun _ _ => rfl⟩) (ak (by refine fun γ => ⟨rfl, fun w' h => ?_⟩; clear h; go_simp) (ak (by refine fun γ => ⟨rfl, fun w' h => ?_⟩; clear h; go_simp) (ak (fun γ => ⟨rfl, fun w' => exec_made6 rfl⟩) (ak (fun γ => ⟨rfl, rfl, rfl, fun w' h => exec_laid6 h rfl rfl rfl⟩) (ak (fun _ => ⟨rfl, fun _ _ => rfl⟩) trivial))))))))
  intro γ w12 l hM hl
  have H12 : Hid (Mm w12 [(γ 6, cells6 iv), (γ11_6, cells6 ng), (γ10_7, cells6 0), (γ9_7, cells6 0), (γ8_7, cells6 0), (γ3_5, cells6 r), (γ1_0, cells6 a), (γ1_1, cells6 b), (0, dtab)] ∧ _) := growB H11 hM (Nat.le_refl _) hl [6] rfl (by decide)
  have o12_6 := ownB H11 hM (Nat.le_refl _) hl (i := 6) rfl
  clear hM hl l H11
  generalize γ 6 = γ12_6 at H12 o12_6 ⊢
  clear γ
  refine rest0 rfl (then_normal (wp_seq (wp_seq ?_)))
  refine walk_seqB 38 [.quiet (.bool false), .quiet (.bool true), .quiet (.bool true), .quiet (N 0), .quiet (.int .i64 2), .quiet (N a), .call (.bool true), .quiet (.bool true), .quiet (N 0), .quiet (.int .i64 2), .quiet (N a), .call (.bool true), .quiet (.bool true), .quiet (.bool true), .quiet (N 0), .quiet (.int .i64 2), .quiet (N a), .call (.bool true), .quiet (.bool true), .quiet (.bool false), .quiet (.bool false), .quiet (.bool false), .quiet (.bool true), .quiet (.bool false), .quiet (.bool false), .gone, .gone, .gone, .gone, .gone, .gone, .gone, .gone, .gone, .gone, .gone, .quiet (.bool false), .quiet (.bool false)] H12 ?ho13 ?he13 (hL := ?hL13)
  case hL13 => exact trivial
  case ho13 => exact ak (fun _ => ⟨rfl, fun _ _ => rfl⟩) (ak (by refine fun γ => ⟨rfl, fun w' h => ?_⟩; clear h; go_simp) (ak (fun _ => ⟨rfl, fun _ _ => rfl⟩) (ak (fun γ => ⟨rfl, fun w' h => ex_load6 (v := 0) h 4 rfl rfl rfl rfl⟩) (ak (fun _ => ⟨rfl, fun _ _ => rfl⟩) (ak (fun γ => ⟨rfl, fun w' h => ex_load6 h 6 rfl rfl rfl rfl⟩) (ak (fun γ => ⟨rfl, fun w' h => ⟨27, #[N 0, .int .i64 2, .bool false, N a], exec_call rfl call27 rfl (mpn rfl), num_no a w'⟩⟩) (ak (fun _ => ⟨rfl, fun _ _ => rfl⟩) (ak (fun γ => ⟨rfl, fun w' h => ex_load6 (v := 0) h 3 rfl rfl rfl rfl⟩) (ak (fun _ => ⟨rfl, fun _ _ => rfl⟩) (ak (fun γ => ⟨rfl, fun w' h => ex_load6 h 6 rfl rfl rfl rfl⟩) (ak (fun γ => ⟨rfl, fun w' h => ⟨27, #[N 0, .int .i64 2, .bool false, N a], exec_call rfl call27 rfl (mpn rfl), num_no a w'⟩⟩) (ak (by refine fun γ => ⟨rfl, fun w' h => ?_⟩; clear h; go_simp) (ak (fun _ => ⟨rfl, fun _ _ => rfl⟩) (ak (fun γ => ⟨rfl, fun w' h => ex_load6 (v := 0) h 2 rfl rfl rfl rfl⟩) (ak (fun _ => ⟨rfl, fun _ _ => rfl⟩) (ak (fun γ => ⟨rfl, fun w' h => ex_load6 h 6 rfl rfl rfl rfl⟩) (ak (fun γ => ⟨rfl, fun w' h => ⟨27, #[N 0, .int .i64 2, .bool false, N a], exec_call rfl call27 rfl (mpn rfl), num_no a w'⟩⟩) (ak (by refine fun γ => ⟨rfl, fun w' h => ?_⟩; clear h; go_simp) (ak (by refine fun γ => ⟨rfl, fun w' h => ?_⟩; clear h; go_simp) (ak (by refine fun γ => ⟨rfl, fun w' h => ?_⟩; clear h; go_simp) (ak (fun _ => ⟨rfl, fun _ _ => rfl⟩) (ak (fun _ => ⟨rfl, fun _ _ => rfl⟩) (ak (by refine fun γ => ⟨rfl, fun w' h => ?_⟩; clear h; go_simp) (ak (fun _ => ⟨rfl, fun _ _ => rfl⟩) (ak (fun γ => rfl) (ak (fun γ => rfl) (ak (fun γ => rfl) (ak (fun γ => rfl) (ak (fun γ => rfl) (ak (fun γ => rfl) (ak (fun γ => rfl) (ak (fun γ => rfl) (ak (fun γ => rfl) (ak (fun γ => rfl) (ak (fun γ => rfl) (ak (by refine fun γ => ⟨rfl, fun w' h => ?_⟩; clear h; go_simp) (ak (by refine fun γ => ⟨rfl, fun w' h => ?_⟩; clear h; go_simp) trivial)))))))))))))))))))))))))))))))))))))
  intro _ w13 H13
  clear H12
  refine rest0 rfl (then_normal (wp_cond_false rfl ?_))
  refine wp_skip (then_normal ?_)
  refine wp_seq (wp_seq ?_)
  refine walk_anyB 38 [.quiet (.bool true), .quiet (.bool true), .quiet (N ng), .quiet (.int .i64 0), .quiet (.int .i64 s), .quiet (N a), .call (N ng), .call (.bool true), .quiet (.bool false), .quiet (.bool false), .quiet (N a), .quiet (N 0), .quiet (.bool false), .quiet (.bool false), .gone, .gone, .gone, .gone, .gone, .gone, .gone, .quiet (.bool false), .quiet (.bool false), .quiet (.bool false), .quiet (N a), .quiet (N 0), .quiet (.bool true), .quiet (.bool true), .quiet (N iv), .quiet (.int .i64 0), .quiet (.int .i64 s), .quiet (N a), .call (N iv), .call (.bool true), .quiet (.bool false), .quiet (.bool false), .quiet (.bool false), .quiet (.bool false)] H13 ?ho14 ?he14 (hL := ?hL14)
  case hL14 => exact trivial
  case ho14 => exact ak (fun _ => ⟨rfl, fun _ _ => rfl⟩) (ak (fun _ => ⟨rfl, fun _ _ => rfl⟩) (ak (fun γ => ⟨rfl, fun w' h => ex_load6 h 1 rfl rfl rfl rfl⟩) (ak (fun _ => ⟨rfl, fun _ _ => rfl⟩) (ak (fun _ => ⟨rfl, fun _ _ => rfl⟩) (ak (fun γ => ⟨rfl, fun w' h => ex_load6 h 6 rfl rfl rfl rfl⟩) (ak (fun γ => ⟨rfl, fun w' h => ⟨30, #[.int .i64 s, N a], exec_call rfl call30 rfl (mpn rfl), C10.out w'⟩⟩) (ak (fun γ => ⟨rfl, fun w' h => ⟨27, #[N ng, .int .i64 0, .bool true, N ng], exec_call rfl call27 rfl (mpn rfl), num_yes b_ng w'⟩⟩) (ak (by refine fun γ => ⟨rfl, fun w' h => ?_⟩; clear h; go_simp) (ak (fun _ => ⟨rfl, fun _ _ => rfl⟩) (ak (fun γ => ⟨rfl, fun w' h => ex_load6 h 6 rfl rfl rfl rfl⟩) (ak (by refine fun γ => ⟨rfl, fun w' h => ?_⟩; clear h; exact ex_zero6 rfl) (ak (fun γ => ⟨rfl, fun w' _ => exec_eq6 e_a rfl rfl rfl⟩) (ak (fun _ => ⟨rfl, fun _ _ => rfl⟩) (ak (fun γ => rfl) (ak (fun γ => rfl) (ak (fun γ => rfl) (ak (fun γ => rfl) (ak (fun γ => rfl) (ak (fun γ => rfl) (ak (fun γ => rfl) (ak (by refine fun γ => ⟨rfl, fun w' h => ?_⟩; clear h; go_simp) (ak (by refine fun γ => ⟨rfl, fun w' h => ?_⟩; clear h; go_simp) (ak (fun _ => ⟨rfl, fun _ _ => rfl⟩) (ak (fun γ => ⟨rfl, fun w' h => ex_load6 h 6 rfl rfl rfl rfl⟩) (ak (by refine fun γ => ⟨rfl, fun w' h => ?_⟩; clear h; exact ex_zero6 rfl) (ak (fun γ => ⟨rfl, fun w' _ => exec_neq6 e_a rfl rfl rfl⟩) (ak (fun _ => ⟨rfl, fun _ _ => rfl⟩) (ak (fun γ => ⟨rfl, fun w' h => ex_load6 h 0 rfl rfl rfl rfl⟩) (ak (fun _ => ⟨rfl, fun _ _ => rfl⟩) (ak (fun _ => ⟨rfl, fun _ _ => rfl⟩) (ak (fun γ => ⟨rfl, fun w' h => ex_load6 h 6 rfl rfl rfl rfl⟩) (ak (fun γ => ⟨rfl, fun w' h => ⟨31, #[.int .i64 s, N a], exec_call rfl call31 rfl (mpn rfl), C11.out w'⟩⟩) (ak (fun γ => ⟨rfl, fun w' h => ⟨27, #[N iv, .int .i64 0, .bool true, N iv], exec_call rfl call27 rfl (mpn rfl), num_yes b_iv w'⟩⟩) (ak (by refine fun γ => ⟨rfl, fun w' h => ?_⟩; clear h; go_simp) (ak (by refine fun γ => ⟨rfl, fun w' h => ?_⟩; clear h; go_simp) (ak (by refine fun γ => ⟨rfl, fun w' h => ?_⟩; clear h; go_simp) (ak (by refine fun γ => ⟨rfl, fun w' h => ?_⟩; clear h; go_simp) trivial)))))))))))))))))))))))))))))))))))))
  intro _ w14 H14
  clear H13
  refine rest0 rfl (then_normal (wp_cond_false rfl ?_))
  refine wp_skip (then_normal (wp_seq ?_))
  refine walk_anyB 30 [.quiet (.bool false), .quiet (.bool true), .quiet (.bool true), .gone, .gone, .gone, .gone, .gone, .gone, .gone, .gone, .gone, .gone, .gone, .gone, .gone, .gone, .gone, .gone, .gone, .gone, .gone, .gone, .gone, .gone, .gone, .gone, .gone, .quiet (.bool true), .quiet (.bool true)] H14 ?ho15 ?he15 (hL := ?hL15)
  case hL15 => exact trivial
  case ho15 => exact ak (fun _ => ⟨rfl, fun _ _ => rfl⟩) (ak (by refine fun γ => ⟨rfl, fun w' h => ?_⟩; clear h; go_simp) (ak (fun _ => ⟨rfl, fun _ _ => rfl⟩) (ak (fun γ => rfl) (ak (fun γ => rfl) (ak (fun γ => rfl) (ak (fun γ => rfl) (ak (fun γ => rfl) (ak (fun γ => rfl) (ak (fun γ => rfl) (ak (fun γ => rfl) (ak (fun γ => rfl) (ak (fun γ => rfl) (ak (fun γ => rfl) (ak (fun γ => rfl) (ak (fun γ => rfl) (ak (fun γ => rfl) (ak (fun γ => rfl) (ak (fun γ => rfl) (ak (fun γ => rfl) (ak (fun γ => rfl) (ak (fun γ => rfl) (ak (fun γ => rfl) (ak (fun γ => rfl) (ak (fun γ => rfl) (ak (fun γ => rfl) (ak (fun γ => rfl) (ak (fun γ => rfl) (ak (by refine fun γ => ⟨rfl, fun w' h => ?_⟩; clear h; go_simp) (ak (fun _ => ⟨rfl, fun _ _ => rfl⟩) trivial)))))))))))))))))))))))))))))
  intro _ w15 H15
  clear H14
  refine rest0 rfl (then_normal (wp_ret ?_))
  repeat (first | refine then_ret ?_ | refine block_ret ?_)
  refine bodyPost_ret (v := .bool true) (by simp [results, Tryd.results5, go_sem, *]) rfl ?_
  exact ⟨rfl, H15.out.2⟩
set_option maxHeartbeats 4000000 in
set_option maxRecDepth 100000 in
theorem sc_two0 (s : Int) (a b iv m ng r x y : Nat)
    (b_m : m < big)
    (b_ng : ng < big)
    (b_r : r < big)
    (b_x : x < big)
    (b_y : y < big)
    (e_a : ∀ w, (Op.equalIn 10000 24 (N a) (N 0)).run Tryd.prog w = .ok true w)
    (e_v : ∀ w, (Op.equalIn 10000 24 (N iv) (N a)).run Tryd.prog w = .ok true w)
    (c0 : ∀ w, Calls Tryd.prog 24 #[.int .i64 s] w fun e w' => e = .returned (.bool true) ∧ Below w.heap.size w w')
    (c1 : ∀ w, Calls Tryd.prog 25 #[.int .i64 s] w fun e w' => e = .returned (.tuple #[N r, .int .i64 0]) ∧ Below w.heap.size w w')
    (c2 : ∀ w, Calls Tryd.prog 20 #[.int .i64 s, N a, N b] w fun e w' => e = .returned (.tuple #[N x, .int .i64 0]) ∧ Below w.heap.size w w')
    (c3 : ∀ w, Calls Tryd.prog 21 #[.int .i64 s, N a, N b] w fun e w' => e = .returned (.tuple #[N y, .int .i64 0]) ∧ Below w.heap.size w w')
    (c4 : ∀ w, Calls Tryd.prog 19 #[.int .i64 s, N a, N b] w fun e w' => e = .returned (.tuple #[N m, .int .i64 0]) ∧ Below w.heap.size w w')
    (c5 : ∀ w, Calls Tryd.prog 26 #[.int .i64 s, N a] w fun e w' => e = .returned (.tuple #[N ng, .int .i64 0]) ∧ Below w.heap.size w w')
    (c6 : ∀ w, Mm w [(0, dtab)] → Calls Tryd.prog 22 #[.int .i64 s, N a] w fun e w' => e = .returned (.tuple #[N iv, .int .i64 6]) ∧ Below w.heap.size w w')
    (c7 : ∀ w, Calls Tryd.prog 28 #[.int .i64 s, N a] w fun e w' => e = .returned (.bool true) ∧ Below w.heap.size w w')
    (c8 : ∀ w, Calls Tryd.prog 29 #[.int .i64 s] w fun e w' => e = .returned (N r) ∧ Below w.heap.size w w')
    (c9 : ∀ w, Calls Tryd.prog 28 #[.int .i64 s, N b] w fun e w' => e = .returned (.bool true) ∧ Below w.heap.size w w')
    (c10 : ∀ w, Calls Tryd.prog 30 #[.int .i64 s, N a] w fun e w' => e = .returned (N ng) ∧ Below w.heap.size w w')
    (c11 : ∀ w, Calls Tryd.prog 32 #[.int .i64 s, N a, N b] w fun e w' => e = .returned (N x) ∧ Below w.heap.size w w')
    (c12 : ∀ w, Calls Tryd.prog 33 #[.int .i64 s, N a, N b] w fun e w' => e = .returned (N y) ∧ Below w.heap.size w w')
    (c13 : ∀ w, Calls Tryd.prog 34 #[.int .i64 s, N a, N b] w fun e w' => e = .returned (N m) ∧ Below w.heap.size w w') (w : World) (hm : Mm w [(0, dtab)]) :
    Calls Tryd.prog 5 #[.int .i64 s, N a, N b] w fun e w' => e = .returned (.bool true) ∧ Below w.heap.size w w' := by
  have H0 : Hid (_ ∧ _) := ⟨hm, Below.refl w.heap.size w⟩
  clear hm
  have C0 : Hid _ := c0
  have C1 : Hid _ := c1
  have C2 : Hid _ := c2
  have C3 : Hid _ := c3
  have C4 : Hid _ := c4
  have C5 : Hid _ := c5
  have C6 : Hid _ := c6
  have C7 : Hid _ := c7
  have C8 : Hid _ := c8
  have C9 : Hid _ := c9
  have C10 : Hid _ := c10
  have C11 : Hid _ := c11
  have C12 : Hid _ := c12
  have C13 : Hid _ := c13
  clear c0 c1 c2 c3 c4 c5 c6 c7 c8 c9 c10 c11 c12 c13
  go_enter Tryd.func5, Tryd.ntmps5
  refine wp_seq ?_
  refine walk_seqA 3 [.made (cells6 a) 24, .made (cells6 b) 24, .quiet (.bool false)] (sB H0) ?ho1 ?he1
  case ho1 => exact ak (fun γ => ⟨rfl, fun w' => ex_box6 rfl rfl⟩) (ak (fun γ => ⟨rfl, fun w' => ex_box6 rfl rfl⟩) (ak (fun _ => ⟨rfl, fun _ _ => rfl⟩) trivial))
  intro γ w1 l hM hl
  have H1 : Hid (Mm w1 [(γ 0, cells6 a), (γ 1, cells6 b), (0, dtab)] ∧ _) := growB H0 hM (Nat.le_refl _) hl [0, 1] rfl (by decide)
  have o1_0 := ownB H0 hM (Nat.le_refl _) hl (i := 0) rfl
  have o1_1 := ownB H0 hM (Nat.le_refl _) hl (i := 1) rfl
  clear hM hl l
  generalize γ 0 = γ1_0 at H1 o1_0 ⊢
  generalize γ 1 = γ1_1 at H1 o1_1 ⊢
  clear γ
  refine rest0 rfl (then_normal (wp_seq ?_))
  refine walk_seqB 3 [.quiet (.int .i64 s), .call (.bool true), .quiet (.bool true)] H1 ?ho2 ?he2
  case ho2 => exact ak (fun _ => ⟨rfl, fun _ _ => rfl⟩) (ak (fun γ => ⟨rfl, fun w' h => ⟨24, #[.int .i64 s], exec_call rfl call24 rfl (mpn rfl), C0.out w'⟩⟩) (ak (fun _ => ⟨rfl, fun _ _ => rfl⟩) trivial))
  intro _ w2 H2
  clear H1
  refine rest0 rfl (then_normal (wp_seq ?_))
  refine walk_seqA 8 [.quiet (.int .i64 s), .call (.tuple #[N r, .int .i64 0]), .quiet (.tuple #[N r, .int .i64 0]), .quiet (N r), .quiet (.int .i64 0), .made zero6 24, .laid 5 zero6 (cells6 r), .quiet (.int .i64 0)] (sB H2) ?ho3 ?he3 (hL := ?hL3)
  case hL3 => exact ⟨⟨_, rfl⟩, trivial⟩
  case ho3 => exact ak (fun _ => ⟨rfl, fun _ _ => rfl⟩) (ak (fun γ => ⟨rfl, fun w' h => ⟨25, #[.int .i64 s], exec_call rfl call25 rfl (mpn rfl), C1.out w'⟩⟩) (ak (fun _ => ⟨rfl, fun _ _ => rfl⟩) (ak (by refine fun γ => ⟨rfl, fun w' h => ?_⟩; clear h; go_simp) (ak (by refine fun γ => ⟨rfl, fun w' h => ?_⟩; clear h; go_simp) (ak (fun γ => ⟨rfl, fun w' => exec_made6 rfl⟩) (ak (fun γ => ⟨rfl, rfl, rfl, fun w' h => exec_laid6 h rfl rfl rfl⟩) (ak (fun _ => ⟨rfl, fun _ _ => rfl⟩) trivial)))))))
  intro γ w3 l hM hl
  have H3 : Hid (Mm w3 [(γ 5, cells6 r), (γ1_0, cells6 a), (γ1_1, cells6 b), (0, dtab)] ∧ _) := growB H2 hM (Nat.le_refl _) hl [5] rfl (by decide)
  have o3_5 := ownB H2 hM (Nat.le_refl _) hl (i := 5) rfl
  clear hM hl l H2
  generalize γ 5 = γ3_5 at H3 o3_5 ⊢
  clear γ
  refine rest0 rfl (then_normal (wp_seq (wp_seq ?_)))
  refine walk_seqB 2 [.quiet (.bool true), .quiet (.bool false)] H3 ?ho4 ?he4
  case ho4 => exact ak (fun _ => ⟨rfl, fun _ _ => rfl⟩) (ak (by refine fun γ => ⟨rfl, fun w' h => ?_⟩; clear h; go_simp) trivial)
  intro _ w4 H4
  clear H3
  refine rest0 rfl (then_normal (wp_cond_false rfl ?_))
  refine wp_skip (then_normal (wp_seq ?_))
  refine walk_seqB 4 [.quiet (.int .i64 s), .quiet (N a), .call (.bool true), .quiet (.bool true)] H4 ?ho5 ?he5
  case ho5 => exact ak (fun _ => ⟨rfl, fun _ _ => rfl⟩) (ak (fun γ => ⟨rfl, fun w' h => ex_load6 h 1 rfl rfl rfl rfl⟩) (ak (fun γ => ⟨rfl, fun w' h => ⟨28, #[.int .i64 s, N a], exec_call rfl call28 rfl (mpn rfl), C7.out w'⟩⟩) (ak (fun _ => ⟨rfl, fun _ _ => rfl⟩) trivial)))
  intro _ w5 H5
  clear H4
  refine rest0 rfl (then_normal (wp_seq ?_))
  refine walk_seqB 7 [.quiet (.bool true), .quiet (.bool true), .quiet (.int .i64 s), .quiet (N b), .call (.bool true), .quiet (.bool true), .quiet (.bool true)] H5 ?ho6 ?he6
  case ho6 => exact ak (fun _ => ⟨rfl, fun _ _ => rfl⟩) (ak (fun _ => ⟨rfl, fun _ _ => rfl⟩) (ak (fun _ => ⟨rfl, fun _ _ => rfl⟩) (ak (fun γ => ⟨rfl, fun w' h => ex_load6 h 2 rfl rfl rfl rfl⟩) (ak (fun γ => ⟨rfl, fun w' h => ⟨28, #[.int .i64 s, N b], exec_call rfl call28 rfl (mpn rfl), C9.out w'⟩⟩) (ak (by refine fun γ => ⟨rfl, fun w' h => ?_⟩; clear h; go_simp) (ak (fun _ => ⟨rfl, fun _ _ => rfl⟩) trivial))))))
  intro _ w6 H6
  clear H5
  refine rest0 rfl (then_normal (wp_seq (wp_seq ?_)))
  refine walk_anyB 6 [.quiet (N r), .quiet (.int .i64 0), .quiet (.int .i64 s), .call (N r), .call (.bool true), .quiet (.bool false)] H6 ?ho7 ?he7
  case ho7 => exact ak (fun γ => ⟨rfl, fun w' h => ex_load6 h 0 rfl rfl rfl rfl⟩) (ak (fun _ => ⟨rfl, fun _ _ => rfl⟩) (ak (fun _ => ⟨rfl, fun _ _ => rfl⟩) (ak (fun γ => ⟨rfl, fun w' h => ⟨29, #[.int .i64 s], exec_call rfl call29 rfl (mpn rfl), C8.out w'⟩⟩) (ak (fun γ => ⟨rfl, fun w' h => ⟨27, #[N r, .int .i64 0, .bool true, N r], exec_call rfl call27 rfl (mpn rfl), num_yes b_r w'⟩⟩) (ak (by refine fun γ => ⟨rfl, fun w' h => ?_⟩; clear h; go_simp) trivial)))))
  intro _ w7 H7
  clear H6
  refine rest0 rfl (then_normal (wp_cond_false rfl ?_))
  refine wp_skip (then_normal (wp_seq ?_))
  refine walk_seqA 10 [.quiet (.int .i64 s), .quiet (N a), .quiet (N b), .call (.tuple #[N x, .int .i64 0]), .quiet (.tuple #[N x, .int .i64 0]), .quiet (N x), .quiet (.int .i64 0), .made zero6 24, .laid 7 zero6 (cells6 x), .quiet (.int .i64 0)] (sB H7) ?ho8 ?he8 (hL := ?hL8)
  case hL8 => exact ⟨⟨_, rfl⟩, trivial⟩
  case ho8 => exact ak (fun _ => ⟨rfl, fun _ _ => rfl⟩) (ak (fun γ => ⟨rfl, fun w' h => ex_load6 h 1 rfl rfl rfl rfl⟩) (ak (fun γ => ⟨rfl, fun w' h => ex_load6 h 2 rfl rfl rfl rfl⟩) (ak (fun γ => ⟨rfl, fun w' h => ⟨20, #[.int .i64 s, N a, N b], exec_call rfl call20 rfl (mpn rfl), C2.out w'⟩⟩) (ak (fun _ => ⟨rfl, fun _ _ => rfl⟩) (ak (by refine fun γ => ⟨rfl, fun w' h => ?_⟩; clear h; go_simp) (ak (by refine fun γ => ⟨rfl, fun w' h => ?_⟩; clear h; go_simp) (ak (fun γ => ⟨rfl, fun w' => exec_made6 rfl⟩) (ak (fun γ => ⟨rfl, rfl, rfl, fun w' h => exec_laid6 h rfl rfl rfl⟩) (ak (fun _ => ⟨rfl, fun _ _ => rfl⟩) trivial)))))))))
  intro γ w8 l hM hl
  have H8 : Hid (Mm w8 [(γ 7, cells6 x), (γ3_5, cells6 r), (γ1_0, cells6 a), (γ1_1, cells6 b), (0, dtab)] ∧ _) := growB H7 hM (Nat.le_refl _) hl [7] rfl (by decide)
  have o8_7 := ownB H7 hM (Nat.le_refl _) hl (i := 7) rfl
  clear hM hl l H7
  generalize γ 7 = γ8_7 at H8 o8_7 ⊢
  clear γ
  refine rest0 rfl (then_normal (wp_seq ?_))
  refine walk_seqA 10 [.quiet (.int .i64 s), .quiet (N a), .quiet (N b), .call (.tuple #[N y, .int .i64 0]), .quiet (.tuple #[N y, .int .i64 0]), .quiet (N y), .quiet (.int .i64 0), .made zero6 24, .laid 7 zero6 (cells6 y), .quiet (.int .i64 0)] (sB H8) ?ho9 ?he9 (hL := ?hL9)
  case hL9 => exact ⟨⟨_, rfl⟩, trivial⟩
  case ho9 => exact ak (fun _ => ⟨rfl, fun _ _ => rfl⟩) (ak (fun γ => ⟨rfl, fun w' h => ex_load6 h 2 rfl rfl rfl rfl⟩) (ak (fun γ => ⟨rfl, fun w' h => ex_load6 h 3 rfl rfl rfl rfl⟩) (ak (fun γ => ⟨rfl, fun w' h => ⟨21, #[.int .i64 s, N a, N b], exec_call rfl call21 rfl (mpn rfl), C3.out w'⟩⟩) (ak (fun _ => ⟨rfl, fun _ _ => rfl⟩) (ak (by refine fun γ => ⟨rfl, fun w' h => ?_⟩; clear h; go_simp) (ak (by refine fun γ => ⟨rfl, fun w' h => ?_⟩; clear h; go_simp) (ak (fun γ => ⟨rfl, fun w' => exec_made6 rfl⟩) (ak (fun γ => ⟨rfl, rfl, rfl, fun w' h => exec_laid6 h rfl rfl rfl⟩) (ak (fun _ => ⟨rfl, fun _ _ => rfl⟩) trivial)))))))))
  intro γ w9 l hM hl
  have H9 : Hid (Mm w9 [(γ 7, cells6 y), (γ8_7, cells6 x), (γ3_5, cells6 r), (γ1_0, cells6 a), (γ1_1, cells6 b), (0, dtab)] ∧ _) := growB H8 hM (Nat.le_refl _) hl [7] rfl (by decide)
  have o9_7 := ownB H8 hM (Nat.le_refl _) hl (i := 7) rfl
  clear hM hl l H8
  generalize γ 7 = γ9_7 at H9 o9_7 ⊢
  clear γ
  refine rest0 rfl (then_normal (wp_seq ?_))
  refine walk_seqA 10 [.quiet (.int .i64 s), .quiet (N a), .quiet (N b), .call (.tuple #[N m, .int .i64 0]), .quiet (.tuple #[N m, .int .i64 0]), .quiet (N m), .quiet (.int .i64 0), .made zero6 24, .laid 7 zero6 (cells6 m), .quiet (.int .i64 0)] (sB H9) ?ho10 ?he10 (hL := ?hL10)
  case hL10 => exact ⟨⟨_, rfl⟩, trivial⟩
  case ho10 => exact ak (fun _ => ⟨rfl, fun _ _ => rfl⟩) (ak (fun γ => ⟨rfl, fun w' h => ex_load6 h 3 rfl rfl rfl rfl⟩) (ak (fun γ => ⟨rfl, fun w' h => ex_load6 h 4 rfl rfl rfl rfl⟩) (ak (fun γ => ⟨rfl, fun w' h => ⟨19, #[.int .i64 s, N a, N b], exec_call rfl call19 rfl (mpn rfl), C4.out w'⟩⟩) (ak (fun _ => ⟨rfl, fun _ _ => rfl⟩) (ak (by refine fun γ => ⟨rfl, fun w' h => ?_⟩; clear h; go_simp) (ak (by refine fun γ => ⟨rfl, fun w' h => ?_⟩; clear h; go_simp) (ak (fun γ => ⟨rfl, fun w' => exec_made6 rfl⟩) (ak (fun γ => ⟨rfl, rfl, rfl, fun w' h => exec_laid6 h rfl rfl rfl⟩) (ak (fun _ => ⟨rfl, fun _ _ => rfl⟩) trivial)))))))))
  intro γ w10 l hM hl
  have H10 : Hid (Mm w10 [(γ 7, cells6 m), (γ9_7, cells6 y), (γ8_7, cells6 x), (γ3_5, cells6 r), (γ1_0, cells6 a), (γ1_1, cells6 b), (0, dtab)] ∧ _) := growB H9 hM (Nat.le_refl _) hl [7] rfl (by decide)
  have o10_7 := ownB H9 hM (Nat.le_refl _) hl (i := 7) rfl
  clear hM hl l H9
  generalize γ 7 = γ10_7 at H10 o10_7 ⊢
  clear γ
  refine rest0 rfl (then_normal (wp_seq ?_))
  refine walk_seqA 9 [.quiet (.int .i64 s), .quiet (N a), .call (.tuple #[N ng, .int .i64 0]), .quiet (.tuple #[N ng, .int .i64 0]), .quiet (N ng), .quiet (.int .i64 0), .made zero6 24, .laid 6 zero6 (cells6 ng), .quiet (.int .i64 0)] (sB H10) ?ho11 ?he11 (hL := ?hL11)
  case hL11 => exact ⟨⟨_, rfl⟩, trivial⟩
  case ho11 => exact ak (fun _ => ⟨rfl, fun _ _ => rfl⟩) (ak (fun γ => ⟨rfl, fun w' h => ex_load6 h 4 rfl rfl rfl rfl⟩) (ak (fun γ => ⟨rfl, fun w' h => ⟨26, #[.int .i64 s, N a], exec_call rfl call26 rfl (mpn rfl), C5.out w'⟩⟩) (ak (fun _ => ⟨rfl, fun _ _ => rfl⟩) (ak (by refine fun γ => ⟨rfl, fun w' h => ?_⟩; clear h; go_simp) (ak (by refine fun γ => ⟨rfl, fun w' h => ?_⟩; clear h; go_simp) (ak (fun γ => ⟨rfl, fun w' => exec_made6 rfl⟩) (ak (fun γ => ⟨rfl, rfl, rfl, fun w' h => exec_laid6 h rfl rfl rfl⟩) (ak (fun _ => ⟨rfl, fun _ _ => rfl⟩) trivial))))))))
  intro γ w11 l hM hl
  have H11 : Hid (Mm w11 [(γ 6, cells6 ng), (γ10_7, cells6 m), (γ9_7, cells6 y), (γ8_7, cells6 x), (γ3_5, cells6 r), (γ1_0, cells6 a), (γ1_1, cells6 b), (0, dtab)] ∧ _) := growB H10 hM (Nat.le_refl _) hl [6] rfl (by decide)
  have o11_6 := ownB H10 hM (Nat.le_refl _) hl (i := 6) rfl
  clear hM hl l H10
  generalize γ 6 = γ11_6 at H11 o11_6 ⊢
  clear γ
  refine rest0 rfl (then_normal (wp_seq ?_))
  refine walk_seqA 9 [.quiet (.int .i64 s), .quiet (N a), .call (.tuple #[N iv, .int .i64 6]), .quiet (.tuple #[N iv, .int .i64 6]), .quiet (N iv), .quiet (.int .i64 6), .made zero6 24, .laid 6 zero6 (cells6 iv), .quiet (.int .i64 6)] (sB H11) ?ho12 ?he12 (hL := ?hL12)
  case hL12 => exact ⟨⟨_, rfl⟩, trivial⟩
  case ho12 => exact ak (fun _ => ⟨rfl, fun _ _ => rfl⟩) (ak (fun γ => ⟨rfl, fun w' h => ex_load6 h 5 rfl rfl rfl rfl⟩) (ak (fun γ => ⟨rfl, fun w' h => ⟨22, #[.int .i64 s, N a], exec_call rfl call22 rfl (mpn rfl), C6.out w' (h.one 7 rfl)⟩⟩) (ak (fun _ => ⟨rfl, fun _ _ => rfl⟩) (ak (by refine fun γ => ⟨rfl, fun w' h => ?_⟩; clear h; go_simp) (ak (by refine fun γ => ⟨rfl, fun w' h => ?_⟩; clear h; go_simp) (ak (fun γ => ⟨rfl, fun w' => exec_made6 rfl⟩) (ak (fun γ => ⟨rfl, rfl, rfl, fun w' h => exec_laid6 h rfl rfl rfl⟩) (ak (fun _ => ⟨rfl, fun _ _ => rfl⟩) trivial))))))))
  intro γ w12 l hM hl
  have H12 : Hid (Mm w12 [(γ 6, cells6 iv), (γ11_6, cells6 ng), (γ10_7, cells6 m), (γ9_7, cells6 y), (γ8_7, cells6 x), (γ3_5, cells6 r), (γ1_0, cells6 a), (γ1_1, cells6 b), (0, dtab)] ∧ _) := growB H11 hM (Nat.le_refl _) hl [6] rfl (by decide)
  have o12_6 := ownB H11 hM (Nat.le_refl _) hl (i := 6) rfl
  clear hM hl l H11
  generalize γ 6 = γ12_6 at H12 o12_6 ⊢
  clear γ
  refine rest0 rfl (then_normal (wp_seq (wp_seq ?_)))
  refine walk_seqB 38 [.quiet (.bool true), .quiet (.bool false), .quiet (.bool false), .gone, .gone, .gone, .gone, .gone, .gone, .gone, .gone, .gone, .gone, .gone, .gone, .gone, .gone, .gone, .gone, .gone, .quiet (.bool false), .quiet (.bool false), .quiet (.bool true), .quiet (.bool false), .quiet (.bool false), .gone, .gone, .gone, .gone, .gone, .gone, .gone, .gone, .gone, .gone, .gone, .quiet (.bool false), .quiet (.bool false)] H12 ?ho13 ?he13 (hL := ?hL13)
  case hL13 => exact trivial
  case ho13 => exact ak (fun _ => ⟨rfl, fun _ _ => rfl⟩) (ak (by refine fun γ => ⟨rfl, fun w' h => ?_⟩; clear h; go_simp) (ak (fun _ => ⟨rfl, fun _ _ => rfl⟩) (ak (fun γ => rfl) (ak (fun γ => rfl) (ak (fun γ => rfl) (ak (fun γ => rfl) (ak (fun γ => rfl) (ak (fun γ => rfl) (ak (fun γ => rfl) (ak (fun γ => rfl) (ak (fun γ => rfl) (ak (fun γ => rfl) (ak (fun γ => rfl) (ak (fun γ => rfl) (ak (fun γ => rfl) (ak (fun γ => rfl) (ak (fun γ => rfl) (ak (fun γ => rfl) (ak (fun γ => rfl) (ak (by refine fun γ => ⟨rfl, fun w' h => ?_⟩; clear h; go_simp) (ak (fun _ => ⟨rfl, fun _ _ => rfl⟩) (ak (fun _ => ⟨rfl, fun _ _ => rfl⟩) (ak (by refine fun γ => ⟨rfl, fun w' h => ?_⟩; clear h; go_simp) (ak (fun _ => ⟨rfl, fun _ _ => rfl⟩) (ak (fun γ => rfl) (ak (fun γ => rfl) (ak (fun γ => rfl) (ak (fun γ => rfl) (ak (fun γ => rfl) (ak (fun γ => rfl) (ak (fun γ => rfl) (ak (fun γ => rfl) (ak (fun γ => rfl) (ak (fun γ => rfl) (ak (fun γ => rfl) (ak (by refine fun γ => ⟨rfl, fun w' h => ?_⟩; clear h; go_simp) (ak (by refine fun γ => ⟨rfl, fun w' h => ?_⟩; clear h; go_simp) trivial)))))))))))))))))))))))))))))))))))))
  intro _ w13 H13
  clear H12
  refine rest0 rfl (then_normal (wp_cond_false rfl ?_))
  refine wp_skip (then_normal ?_)
  refine wp_seq (wp_seq ?_)
  refine walk_anyB 38 [.quiet (.bool true), .quiet (.bool true), .quiet (N ng), .quiet (.int .i64 0), .quiet (.int .i64 s), .quiet (N a), .call (N ng), .call (.bool true), .quiet (.bool false), .quiet (.bool false), .quiet (N a), .quiet (N 0), .quiet (.bool true), .quiet (.bool true), .quiet (N iv), .quiet (N a), .quiet (.bool false), .quiet (.bool false), .quiet (.int .i64 6), .quiet (.bool false), .quiet (.bool false), .quiet (.bool false), .quiet (.bool false), .quiet (.bool false), .quiet (N a), .quiet (N 0), .quiet (.bool false), .quiet (.bool false), .gone, .gone, .gone, .gone, .gone, .gone, .gone, .quiet (.bool false), .quiet (.bool false), .quiet (.bool false)] H13 ?ho14 ?he14 (hL := ?hL14)
  case hL14 => exact trivial
  case ho14 => exact ak (fun _ => ⟨rfl, fun _ _ => rfl⟩) (ak (fun _ => ⟨rfl, fun _ _ => rfl⟩) (ak (fun γ => ⟨rfl, fun w' h => ex_load6 h 1 rfl rfl rfl rfl⟩) (ak (fun _ => ⟨rfl, fun _ _ => rfl⟩) (ak (fun _ => ⟨rfl, fun _ _ => rfl⟩) (ak (fun γ => ⟨rfl, fun w' h => ex_load6 h 6 rfl rfl rfl rfl⟩) (ak (fun γ => ⟨rfl, fun w' h => ⟨30, #[.int .i64 s, N a], exec_call rfl call30 rfl (mpn rfl), C10.out w'⟩⟩) (ak (fun γ => ⟨rfl, fun w' h => ⟨27, #[N ng, .int .i64 0, .bool true, N ng], exec_call rfl call27 rfl (mpn rfl), num_yes b_ng w'⟩⟩) (ak (by refine fun γ => ⟨rfl, fun w' h => ?_⟩; clear h; go_simp) (ak (fun _ => ⟨rfl, fun _ _ => rfl⟩) (ak (fun γ => ⟨rfl, fun w' h => ex_load6 h 6 rfl rfl rfl rfl⟩) (ak (by refine fun γ => ⟨rfl, fun w' h => ?_⟩; clear h; exact ex_zero6 rfl) (ak (fun γ => ⟨rfl, fun w' _ => exec_eq6 e_a rfl rfl rfl⟩) (ak (fun _ => ⟨rfl, fun _ _ => rfl⟩) (ak (fun γ => ⟨rfl, fun w' h => ex_load6 h 0 rfl rfl rfl rfl⟩) (ak (fun γ => ⟨rfl, fun w' h => ex_load6 h 6 rfl rfl rfl rfl⟩) (ak (fun γ => ⟨rfl, fun w' _ => exec_neq6 e_v rfl rfl rfl⟩) (ak (fun _ => ⟨rfl, fun _ _ => rfl⟩) (ak (fun _ => ⟨rfl, fun _ _ => rfl⟩) (ak (by refine fun γ => ⟨rfl, fun w' h => ?_⟩; clear h; go_simp) (ak (by refine fun γ => ⟨rfl, fun w' h => ?_⟩; clear h; go_simp) (ak (by refine fun γ => ⟨rfl, fun w' h => ?_⟩; clear h; go_simp) (ak (by refine fun γ => ⟨rfl, fun w' h => ?_⟩; clear h; go_simp) (ak (fun _ => ⟨rfl, fun _ _ => rfl⟩) (ak (fun γ => ⟨rfl, fun w' h => ex_load6 h 6 rfl rfl rfl rfl⟩) (ak (by refine fun γ => ⟨rfl, fun w' h => ?_⟩; clear h; exact ex_zero6 rfl) (ak (fun γ => ⟨rfl, fun w' _ => exec_neq6 e_a rfl rfl rfl⟩) (ak (fun _ => ⟨rfl, fun _ _ => rfl⟩) (ak (fun γ => rfl) (ak (fun γ => rfl) (ak (fun γ => rfl) (ak (fun γ => rfl) (ak (fun γ => rfl) (ak (fun γ => rfl) (ak (fun γ => rfl) (ak (by refine fun γ => ⟨rfl, fun w' h => ?_⟩; clear h; go_simp) (ak (by refine fun γ => ⟨rfl, fun w' h => ?_⟩; clear h; go_simp) (ak (by refine fun γ => ⟨rfl, fun w' h => ?_⟩; clear h; go_simp) trivial)))))))))))))))))))))))))))))))))))))
  intro _ w14 H14
  clear H13
  refine rest0 rfl (then_normal (wp_cond_false rfl ?_))
  refine wp_skip (then_normal (wp_seq ?_))
  refine walk_anyB 30 [.quiet (.bool true), .quiet (.bool false), .quiet (.bool false), .quiet (N x), .quiet (.int .i64 0), .quiet (.int .i64 s), .quiet (N a), .quiet (N b), .call (N x), .call (.bool true), .quiet (.bool true), .quiet (N y), .quiet (.int .i64 0), .quiet (.int .i64 s), .quiet (N a), .quiet (N b), .call (N y), .call (.bool true), .quiet (.bool true), .quiet (.bool true), .quiet (N m), .quiet (.int .i64 0), .quiet (.int .i64 s), .quiet (N a), .quiet (N b), .call (N m), .call (.bool true), .quiet (.bool true), .quiet (.bool true), .quiet (.bool true)] H14 ?ho15 ?he15 (hL := ?hL15)
  case hL15 => exact trivial
  case ho15 => exact ak (fun _ => ⟨rfl, fun _ _ => rfl⟩) (ak (by refine fun γ => ⟨rfl, fun w' h => ?_⟩; clear h; go_simp) (ak (fun _ => ⟨rfl, fun _ _ => rfl⟩) (ak (fun γ => ⟨rfl, fun w' h => ex_load6 h 4 rfl rfl rfl rfl⟩) (ak (fun _ => ⟨rfl, fun _ _ => rfl⟩) (ak (fun _ => ⟨rfl, fun _ _ => rfl⟩) (ak (fun γ => ⟨rfl, fun w' h => ex_load6 h 6 rfl rfl rfl rfl⟩) (ak (fun γ => ⟨rfl, fun w' h => ex_load6 h 7 rfl rfl rfl rfl⟩) (ak (fun γ => ⟨rfl, fun w' h => ⟨32, #[.int .i64 s, N a, N b], exec_call rfl call32 rfl (mpn rfl), C11.out w'⟩⟩) (ak (fun γ => ⟨rfl, fun w' h => ⟨27, #[N x, .int .i64 0, .bool true, N x], exec_call rfl call27 rfl (mpn rfl), num_yes b_x w'⟩⟩) (ak (fun _ => ⟨rfl, fun _ _ => rfl⟩) (ak (fun γ => ⟨rfl, fun w' h => ex_load6 h 3 rfl rfl rfl rfl⟩) (ak (fun _ => ⟨rfl, fun _ _ => rfl⟩) (ak (fun _ => ⟨rfl, fun _ _ => rfl⟩) (ak (fun γ => ⟨rfl, fun w' h => ex_load6 h 6 rfl rfl rfl rfl⟩) (ak (fun γ => ⟨rfl, fun w' h => ex_load6 h 7 rfl rfl rfl rfl⟩) (ak (fun γ => ⟨rfl, fun w' h => ⟨33, #[.int .i64 s, N a, N b], exec_call rfl call33 rfl (mpn rfl), C12.out w'⟩⟩) (ak (fun γ => ⟨rfl, fun w' h => ⟨27, #[N y, .int .i64 0, .bool true, N y], exec_call rfl call27 rfl (mpn rfl), num_yes b_y w'⟩⟩) (ak (by refine fun γ => ⟨rfl, fun w' h => ?_⟩; clear h; go_simp) (ak (fun _ => ⟨rfl, fun _ _ => rfl⟩) (ak (fun γ => ⟨rfl, fun w' h => ex_load6 h 2 rfl rfl rfl rfl⟩) (ak (fun _ => ⟨rfl, fun _ _ => rfl⟩) (ak (fun _ => ⟨rfl, fun _ _ => rfl⟩) (ak (fun γ => ⟨rfl, fun w' h => ex_load6 h 6 rfl rfl rfl rfl⟩) (ak (fun γ => ⟨rfl, fun w' h => ex_load6 h 7 rfl rfl rfl rfl⟩) (ak (fun γ => ⟨rfl, fun w' h => ⟨34, #[.int .i64 s, N a, N b], exec_call rfl call34 rfl (mpn rfl), C13.out w'⟩⟩) (ak (fun γ => ⟨rfl, fun w' h => ⟨27, #[N m, .int .i64 0, .bool true, N m], exec_call rfl call27 rfl (mpn rfl), num_yes b_m w'⟩⟩) (ak (by refine fun γ => ⟨rfl, fun w' h => ?_⟩; clear h; go_simp) (ak (by refine fun γ => ⟨rfl, fun w' h => ?_⟩; clear h; go_simp) (ak (fun _ => ⟨rfl, fun _ _ => rfl⟩) trivial)))))))))))))))))))))))))))))
  intro _ w15 H15
  clear H14
  refine rest0 rfl (then_normal (wp_ret ?_))
  repeat (first | refine then_ret ?_ | refine block_ret ?_)
  refine bodyPost_ret (v := .bool true) (by simp [results, Tryd.results5, go_sem, *]) rfl ?_
  exact ⟨rfl, H15.out.2⟩
set_option maxHeartbeats 4000000 in
set_option maxRecDepth 100000 in
theorem sc_two1 (s : Int) (a b iv m ng r x y : Nat)
    (b_iv : iv < big)
    (b_m : m < big)
    (b_ng : ng < big)
    (b_r : r < big)
    (b_x : x < big)
    (b_y : y < big)
    (e_a : ∀ w, (Op.equalIn 10000 24 (N a) (N 0)).run Tryd.prog w = .ok false w)
    (c0 : ∀ w, Calls Tryd.prog 24 #[.int .i64 s] w fun e w' => e = .returned (.bool true) ∧ Below w.heap.size w w')
    (c1 : ∀ w, Calls Tryd.prog 25 #[.int .i64 s] w fun e w' => e = .returned (.tuple #[N r, .int .i64 0]) ∧ Below w.heap.size w w')
    (c2 : ∀ w, Calls Tryd.prog 20 #[.int .i64 s, N a, N b] w fun e w' => e = .returned (.tuple #[N x, .int .i64 0]) ∧ Below w.heap.size w w')
    (c3 : ∀ w, Calls Tryd.prog 21 #[.int .i64 s, N a, N b] w fun e w' => e = .returned (.tuple #[N y, .int .i64 0]) ∧ Below w.heap.size w w')
    (c4 : ∀ w, Calls Tryd.prog 19 #[.int .i64 s, N a, N b] w fun e w' => e = .returned (.tuple #[N m, .int .i64 0]) ∧ Below w.heap.size w w')
    (c5 : ∀ w, Calls Tryd.prog 26 #[.int .i64 s, N a] w fun e w' => e = .returned (.tuple #[N ng, .int .i64 0]) ∧ Below w.heap.size w w')
    (c6 : ∀ w, Mm w [(0, dtab)] → Calls Tryd.prog 22 #[.int .i64 s, N a] w fun e w' => e = .returned (.tuple #[N iv, .int .i64 0]) ∧ Below w.heap.size w w')
    (c7 : ∀ w, Calls Tryd.prog 28 #[.int .i64 s, N a] w fun e w' => e = .returned (.bool true) ∧ Below w.heap.size w w')
    (c8 : ∀ w, Calls Tryd.prog 29 #[.int .i64 s] w fun e w' => e = .returned (N r) ∧ Below w.heap.size w w')
    (c9 : ∀ w, Calls Tryd.prog 28 #[.int .i64 s, N b] w fun e w' => e = .returned (.bool true) ∧ Below w.heap.size w w')
    (c10 : ∀ w, Calls Tryd.prog 30 #[.int .i64 s, N a] w fun e w' => e = .returned (N ng) ∧ Below w.heap.size w w')
    (c11 : ∀ w, Calls Tryd.prog 31 #[.int .i64 s, N a] w fun e w' => e = .returned (N iv) ∧ Below w.heap.size w w')
    (c12 : ∀ w, Calls Tryd.prog 32 #[.int .i64 s, N a, N b] w fun e w' => e = .returned (N x) ∧ Below w.heap.size w w')
    (c13 : ∀ w, Calls Tryd.prog 33 #[.int .i64 s, N a, N b] w fun e w' => e = .returned (N y) ∧ Below w.heap.size w w')
    (c14 : ∀ w, Calls Tryd.prog 34 #[.int .i64 s, N a, N b] w fun e w' => e = .returned (N m) ∧ Below w.heap.size w w') (w : World) (hm : Mm w [(0, dtab)]) :
    Calls Tryd.prog 5 #[.int .i64 s, N a, N b] w fun e w' => e = .returned (.bool true) ∧ Below w.heap.size w w' := by
  have H0 : Hid (_ ∧ _) := ⟨hm, Below.refl w.heap.size w⟩
  clear hm
  have C0 : Hid _ := c0
  have C1 : Hid _ := c1
  have C2 : Hid _ := c2
  have C3 : Hid _ := c3
  have C4 : Hid _ := c4
  have C5 : Hid _ := c5
  have C6 : Hid _ := c6
  have C7 : Hid _ := c7
  have C8 : Hid _ := c8
  have C9 : Hid _ := c9
  have C10 : Hid _ := c10
  have C11 : Hid _ := c11
  have C12 : Hid _ := c12
  have C13 : Hid _ := c13
  have C14 : Hid _ := c14
  clear c0 c1 c2 c3 c4 c5 c6 c7 c8 c9 c10 c11 c12 c13 c14
  go_enter Tryd.func5, Tryd.ntmps5
  refine wp_seq ?_
  refine walk_seqA 3 [.made (cells6 a) 24, .made (cells6 b) 24, .quiet (.bool false)] (sB H0) ?ho1 ?he1
  case ho1 => exact ak (fun γ => ⟨rfl, fun w' => ex_box6 rfl rfl⟩) (ak (fun γ => ⟨rfl, fun w' => ex_box6 rfl rfl⟩) (ak (fun _ => ⟨rfl, fun _ _ => rfl⟩) trivial))
  intro γ w1 l hM hl
  have H1 : Hid (Mm w1 [(γ 0, cells6 a), (γ 1, cells6 b), (0, dtab)] ∧ _) := growB H0 hM (Nat.le_refl _) hl [0, 1] rfl (by decide)
  have o1_0 := ownB H0 hM (Nat.le_refl _) hl (i := 0) rfl
  have o1_1 := ownB H0 hM (Nat.le_refl _) hl (i := 1) rfl
  clear hM hl l
  generalize γ 0 = γ1_0 at H1 o1_0 ⊢
  generalize γ 1 = γ1_1 at H1 o1_1 ⊢
  clear γ
  refine rest0 rfl (then_normal (wp_seq ?_))
  refine walk_seqB 3 [.quiet (.int .i64 s), .call (.bool true), .quiet (.bool true)] H1 ?ho2 ?he2
  case ho2 => exact ak (fun _ => ⟨rfl, fun _ _ => rfl⟩) (ak (fun γ => ⟨rfl, fun w' h => ⟨24, #[.int .i64 s], exec_call rfl call24 rfl (mpn rfl), C0.out w'⟩⟩) (ak (fun _ => ⟨rfl, fun _ _ => rfl⟩) trivial))
  intro _ w2 H2
  clear H1
  refine rest0 rfl (then_normal (wp_seq ?_))
  refine walk_seqA 8 [.quiet (.int .i64 s), .call (.tuple #[N r, .int .i64 0]), .quiet (.tuple #[N r, .int .i64 0]), .quiet (N r), .quiet (.int .i64 0), .made zero6 24, .laid 5 zero6 (cells6 r), .quiet (.int .i64 0)] (sB H2) ?ho3 ?he3 (hL := ?hL3)
  case hL3 => exact ⟨⟨_, rfl⟩, trivial⟩
  case ho3 => exact ak (fun _ => ⟨rfl, fun _ _ => rfl⟩) (ak (fun γ => ⟨rfl, fun w' h => ⟨25, #[.int .i64 s], exec_call rfl call25 rfl (mpn rfl), C1.out w'⟩⟩) (ak (fun _ => ⟨rfl, fun _ _ => rfl⟩) (ak (by refine fun γ => ⟨rfl, fun w' h => ?_⟩; clear h; go_simp) (ak (by refine fun γ => ⟨rfl, fun w' h => ?_⟩; clear h; go_simp) (ak (fun γ => ⟨rfl, fun w' => exec_made6 rfl⟩) (ak (fun γ => ⟨rfl, rfl, rfl, fun w' h => exec_laid6 h rfl rfl rfl⟩) (ak (fun _ => ⟨rfl, fun _ _ => rfl⟩) trivial)))))))
  intro γ w3 l hM hl
  have H3 : Hid (Mm w3 [(γ 5, cells6 r), (γ1_0, cells6 a), (γ1_1, cells6 b), (0, dtab)] ∧ _) := growB H2 hM (Nat.le_refl _) hl [5] rfl (by decide)
  have o3_5 := ownB H2 hM (Nat.le_refl _) hl (i := 5) rfl
  clear hM hl l H2
  generalize γ 5 = γ3_5 at H3 o3_5 ⊢
  clear γ
  refine rest0 rfl (then_normal (wp_seq (wp_seq ?_)))
  refine walk_seqB 2 [.quiet (.bool true), .quiet (.bool false)] H3 ?ho4 ?he4
  case ho4 => exact ak (fun _ => ⟨rfl, fun _ _ => rfl⟩) (ak (by refine fun γ => ⟨rfl, fun w' h => ?_⟩; clear h; go_simp) trivial)
  intro _ w4 H4
  clear H3
  refine rest0 rfl (then_normal (wp_cond_false rfl ?_))
  refine wp_skip (then_normal (wp_seq ?_))
  refine walk_seqB 4 [.quiet (.int .i64 s), .quiet (N a), .call (.bool true), .quiet (.bool true)] H4 ?ho5 ?he5
  case ho5 => exact ak (fun _ => ⟨rfl, fun _ _ => rfl⟩) (ak (fun γ => ⟨rfl, fun w' h => ex_load6 h 1 rfl rfl rfl rfl⟩) (ak (fun γ => ⟨rfl, fun w' h => ⟨28, #[.int .i64 s, N a], exec_call rfl call28 rfl (mpn rfl), C7.out w'⟩⟩) (ak (fun _ => ⟨rfl, fun _ _ => rfl⟩) trivial)))
  intro _ w5 H5
  clear H4
  refine rest0 rfl (then_normal (wp_seq ?_))
  refine walk_seqB 7 [.quiet (.bool true), .quiet (.bool true), .quiet (.int .i64 s), .quiet (N b), .call (.bool true), .quiet (.bool true), .quiet (.bool true)] H5 ?ho6 ?he6
  case ho6 => exact ak (fun _ => ⟨rfl, fun _ _ => rfl⟩) (ak (fun _ => ⟨rfl, fun _ _ => rfl⟩) (ak (fun _ => ⟨rfl, fun _ _ => rfl⟩) (ak (fun γ => ⟨rfl, fun w' h => ex_load6 h 2 rfl rfl rfl rfl⟩) (ak (fun γ => ⟨rfl, fun w' h => ⟨28, #[.int .i64 s, N b], exec_call rfl call28 rfl (mpn rfl), C9.out w'⟩⟩) (ak (by refine fun γ => ⟨rfl, fun w' h => ?_⟩; clear h; go_simp) (ak (fun _ => ⟨rfl, fun _ _ => rfl⟩) trivial))))))
  intro _ w6 H6
  clear H5
  refine rest0 rfl (then_normal (wp_seq (wp_seq ?_)))
  refine walk_anyB 6 [.quiet (N r), .quiet (.int .i64 0), .quiet (.int .i64 s), .call (N r), .call (.bool true), .quiet (.bool false)] H6 ?ho7 ?he7
  case ho7 => exact ak (fun γ => ⟨rfl, fun w' h => ex_load6 h 0 rfl rfl rfl rfl⟩) (ak (fun _ => ⟨rfl, fun _ _ => rfl⟩) (ak (fun _ => ⟨rfl, fun _ _ => rfl⟩) (ak (fun γ => ⟨rfl, fun w' h => ⟨29, #[.int .i64 s], exec_call rfl call29 rfl (mpn rfl), C8.out w'⟩⟩) (ak (fun γ => ⟨rfl, fun w' h => ⟨27, #[N r, .int .i64 0, .bool true, N r], exec_call rfl call27 rfl (mpn rfl), num_yes b_r w'⟩⟩) (ak (by refine fun γ => ⟨rfl, fun w' h => ?_⟩; clear h; go_simp) trivial)))))
  intro _ w7 H7
  clear H6
  refine rest0 rfl (then_normal (wp_cond_false rfl ?_))
  refine wp_skip (then_normal (wp_seq ?_))
  refine walk_seqA 10 [.quiet (.int .i64 s), .quiet (N a), .quiet (N b), .call (.tuple #[N x, .int .i64 0]), .quiet (.tuple #[N x, .int .i64 0]), .quiet (N x), .quiet (.int .i64 0), .made zero6 24, .laid 7 zero6 (cells6 x), .quiet (.int .i64 0)] (sB H7) ?ho8 ?he8 (hL := ?hL8)
  case hL8 => exact ⟨⟨_, rfl⟩, trivial⟩
  case ho8 => exact ak (fun _ => ⟨rfl, fun _ _ => rfl⟩) (ak (fun γ => ⟨rfl, fun w' h => ex_load6 h 1 rfl rfl rfl rfl⟩) (ak (fun γ => ⟨rfl, fun w' h => ex_load6 h 2 rfl rfl rfl rfl⟩) (ak (fun γ => ⟨rfl, fun w' h => ⟨20, #[.int .i64 s, N a, N b], exec_call rfl call20 rfl (mpn rfl), C2.out w'⟩⟩) (ak (fun _ => ⟨rfl, fun _ _ => rfl⟩) (ak (by refine fun γ => ⟨rfl, fun w' h => ?_⟩; clear h; go_simp) (ak (by refine fun γ => ⟨rfl, fun w' h => ?_⟩; clear h; go_simp) (ak (fun γ => ⟨rfl, fun w' => exec_made6 rfl⟩) (ak (fun γ => ⟨rfl, rfl, rfl, fun w' h => exec_laid6 h rfl rfl rfl⟩) (ak (fun _ => ⟨rfl, fun _ _ => rfl⟩) trivial)))))))))
  intro γ w8 l hM hl
  have H8 : Hid (Mm w8 [(γ 7, cells6 x), (γ3_5, cells6 r), (γ1_0, cells6 a), (γ1_1, cells6 b), (0, dtab)] ∧ _) := growB H7 hM (Nat.le_refl _) hl [7] rfl (by decide)
  have o8_7 := ownB H7 hM (Nat.le_refl _) hl (i := 7) rfl
  clear hM hl l H7
  generalize γ 7 = γ8_7 at H8 o8_7 ⊢
  clear γ
  refine rest0 rfl (then_normal (wp_seq ?_))
  refine walk_seqA 10 [.quiet (.int .i64 s), .quiet (N a), .quiet (N b), .call (.tuple #[N y, .int .i64 0]), .quiet (.tuple #[N y, .int .i64 0]), .quiet (N y), .quiet (.int .i64 0), .made zero6 24, .laid 7 zero6 (cells6 y), .quiet (.int .i64 0)] (sB H8) ?ho9 ?he9 (hL := ?hL9)
  case hL9 => exact ⟨⟨_, rfl⟩, trivial⟩
  case ho9 => exact ak (fun _ => ⟨rfl, fun _ _ => rfl⟩) (ak (fun γ => ⟨rfl, fun w' h => ex_load6 h 2 rfl rfl rfl rfl⟩) (ak (fun γ => ⟨rfl, fun w' h => ex_load6 h 3 rfl rfl rfl rfl⟩) (ak (fun γ => ⟨rfl, fun w' h => ⟨21, #[.int .i64 s, N a, N b], exec_call rfl call21 rfl (mpn rfl), C3.out w'⟩⟩) (ak (fun _ => ⟨rfl, fun _ _ => rfl⟩) (ak (by refine fun γ => ⟨rfl, fun w' h => ?_⟩; clear h; go_simp) (ak (by refine fun γ => ⟨rfl, fun w' h => ?_⟩; clear h; go_simp) (ak (fun γ => ⟨rfl, fun w' => exec_made6 rfl⟩) (ak (fun γ => ⟨rfl, rfl, rfl, fun w' h => exec_laid6 h rfl rfl rfl⟩) (ak (fun _ => ⟨rfl, fun _ _ => rfl⟩) trivial)))))))))
  intro γ w9 l hM hl
  have H9 : Hid (Mm w9 [(γ 7, cells6 y), (γ8_7, cells6 x), (γ3_5, cells6 r), (γ1_0, cells6 a), (γ1_1, cells6 b), (0, dtab)] ∧ _) := growB H8 hM (Nat.le_refl _) hl [7] rfl (by decide)
  have o9_7 := ownB H8 hM (Nat.le_refl _) hl (i := 7) rfl
  clear hM hl l H8
  generalize γ 7 = γ9_7 at H9 o9_7 ⊢
  clear γ
  refine rest0 rfl (then_normal (wp_seq ?_))
  refine walk_seqA 10 [.quiet (.int .i64 s), .quiet (N a), .quiet (N b), .call (.tuple #[N m, .int .i64 0]), .quiet (.tuple #[N m, .int .i64 0]), .quiet (N m), .quiet (.int .i64 0), .made zero6 24, .laid 7 zero6 (cells6 m), .quiet (.int .i64 0)] (sB H9) ?ho10 ?he10 (hL := ?hL10)
  case hL10 => exact ⟨⟨_, rfl⟩, trivial⟩
  case ho10 => exact ak (fun _ => ⟨rfl, fun _ _ => rfl⟩) (ak (fun γ => ⟨rfl, fun w' h => ex_load6 h 3 rfl rfl rfl rfl⟩) (ak (fun γ => ⟨rfl, fun w' h => ex_load6 h 4 rfl rfl rfl rfl⟩) (ak (fun γ => ⟨rfl, fun w' h => ⟨19, #[.int .i64 s, N a, N b], exec_call rfl call19 rfl (mpn rfl), C4.out w'⟩⟩) (ak (fun _ => ⟨rfl, fun _ _ => rfl⟩) (ak (by refine fun γ => ⟨rfl, fun w' h => ?_⟩; clear h; go_simp) (ak (by refine fun γ => ⟨rfl, fun w' h => ?_⟩; clear h; go_simp) (ak (fun γ => ⟨rfl, fun w' => exec_made6 rfl⟩) (ak (fun γ => ⟨rfl, rfl, rfl, fun w' h => exec_laid6 h rfl rfl rfl⟩) (ak (fun _ => ⟨rfl, fun _ _ => rfl⟩) trivial)))))))))
  intro γ w10 l hM hl
  have H10 : Hid (Mm w10 [(γ 7, cells6 m), (γ9_7, cells6 y), (γ8_7, cells6 x), (γ3_5, cells6 r), (γ1_0, cells6 a), (γ1_1, cells6 b), (0, dtab)] ∧ _) := growB H9 hM (Nat.le_refl _) hl [7] rfl (by decide)
  have o10_7 := ownB H9 hM (Nat.le_refl _) hl (i := 7) rfl
  clear hM hl l H9
  generalize γ 7 = γ10_7 at H10 o10_7 ⊢
  clear γ
  refine rest0 rfl (then_normal (wp_seq ?_))
  refine walk_seqA 9 [.quiet (.int .i64 s), .quiet (N a), .call (.tuple #[N ng, .int .i64 0]), .quiet (.tuple #[N ng, .int .i64 0]), .quiet (N ng), .quiet (.int .i64 0), .made zero6 24, .laid 6 zero6 (cells6 ng), .quiet (.int .i64 0)] (sB H10) ?ho11 ?he11 (hL := ?hL11)
  case hL11 => exact ⟨⟨_, rfl⟩, trivial⟩
  case ho11 => exact ak (fun _ => ⟨rfl, fun _ _ => rfl⟩) (ak (fun γ => ⟨rfl, fun w' h => ex_load6 h 4 rfl rfl rfl rfl⟩) (ak (fun γ => ⟨rfl, fun w' h => ⟨26, #[.int .i64 s, N a], exec_call rfl call26 rfl (mpn rfl), C5.out w'⟩⟩) (ak (fun _ => ⟨rfl, fun _ _ => rfl⟩) (ak (by refine fun γ => ⟨rfl, fun w' h => ?_⟩; clear h; go_simp) (ak (by refine fun γ => ⟨rfl, fun w' h => ?_⟩; clear h; go_simp) (ak (fun γ => ⟨rfl, fun w' => exec_made6 rfl⟩) (ak (fun γ => ⟨rfl, rfl, rfl, fun w' h => exec_laid6 h rfl rfl rfl⟩) (ak (fun _ => ⟨rfl, fun _ _ => rfl⟩) trivial))))))))
  intro γ w11 l hM hl
  have H11 : Hid (Mm w11 [(γ 6, cells6 ng), (γ10_7, cells6 m), (γ9_7, cells6 y), (γ8_7, cells6 x), (γ3_5, cells6 r), (γ1_0, cells6 a), (γ1_1, cells6 b), (0, dtab)] ∧ _) := growB H10 hM (Nat.le_refl _) hl [6] rfl (by decide)
  have o11_6 := ownB H10 hM (Nat.le_refl _) hl (i := 6) rfl
  clear hM hl l H10
  generalize γ 6 = γ11_6 at H11 o11_6 ⊢
  clear γ
  refine rest0 rfl (then_normal (wp_seq ?_))
  refine walk_seqA 9 [.quiet (.int .i64 s), .quiet (N a), .call (.tuple #[N iv, .int .i64 0]), .quiet (.tuple #[N iv, .int .i64 0]), .quiet (N iv), .quiet (.int .i64 0), .made zero6 24, .laid 6 zero6 (cells6 iv), .quiet (.int .i64 0)] (sB H11) ?ho12 ?he12 (hL := ?hL12)
  case hL12 => exact ⟨⟨_, rfl⟩, trivial⟩
  case ho12 => exact ak (fun _ => ⟨rfl, fun _ _ => rfl⟩) (ak (fun γ => ⟨rfl, fun w' h => ex_load6 h 5 rfl rfl rfl rfl⟩) (ak (fun γ => ⟨rfl, fun w' h => ⟨22, #[.int .i64 s, N a], exec_call rfl call22 rfl (mpn rfl), C6.out w' (h.one 7 rfl)⟩⟩) (ak (fun _ => ⟨rfl, fun _ _ => rfl⟩) (ak (by refine fun γ => ⟨rfl, fun w' h => ?_⟩; clear h; go_simp) (ak (by refine fun γ => ⟨rfl, fun w' h => ?_⟩; clear h; go_simp) (ak (fun γ => ⟨rfl, fun w' => exec_made6 rfl⟩) (ak (fun γ => ⟨rfl, rfl, rfl, fun w' h => exec_laid6 h rfl rfl rfl⟩) (ak (fun _ => ⟨rfl, fun _ _ => rfl⟩) trivial))))))))
  intro γ w12 l hM hl
  have H12 : Hid (Mm w12 [(γ 6, cells6 iv), (γ11_6, cells6 ng), (γ10_7, cells6 m), (γ9_7, cells6 y), (γ8_7, cells6 x), (γ3_5, cells6 r), (γ1_0, cells6 a), (γ1_1, cells6 b), (0, dtab)] ∧ _) := growB H11 hM (Nat.le_refl _) hl [6] rfl (by decide)
  have o12_6 := ownB H11 hM (Nat.le_refl _) hl (i := 6) rfl
  clear hM hl l H11
  generalize γ 6 = γ12_6 at H12 o12_6 ⊢
  clear γ
  refine rest0 rfl (then_normal (wp_seq (wp_seq ?_)))
  refine walk_seqB 38 [.quiet (.bool true), .quiet (.bool false), .quiet (.bool false), .gone, .gone, .gone, .gone, .gone, .gone, .gone, .gone, .gone, .gone, .gone, .gone, .gone, .gone, .gone, .gone, .gone, .quiet (.bool false), .quiet (.bool false), .quiet (.bool true), .quiet (.bool false), .quiet (.bool false), .gone, .gone, .gone, .gone, .gone, .gone, .gone, .gone, .gone, .gone, .gone, .quiet (.bool false), .quiet (.bool false)] H12 ?ho13 ?he13 (hL := ?hL13)
  case hL13 => exact trivial
  case ho13 => exact ak (fun _ => ⟨rfl, fun _ _ => rfl⟩) (ak (by refine fun γ => ⟨rfl, fun w' h => ?_⟩; clear h; go_simp) (ak (fun _ => ⟨rfl, fun _ _ => rfl⟩) (ak (fun γ => rfl) (ak (fun γ => rfl) (ak (fun γ => rfl) (ak (fun γ => rfl) (ak (fun γ => rfl) (ak (fun γ => rfl) (ak (fun γ => rfl) (ak (fun γ => rfl) (ak (fun γ => rfl) (ak (fun γ => rfl) (ak (fun γ => rfl) (ak (fun γ => rfl) (ak (fun γ => rfl) (ak (fun γ => rfl) (ak (fun γ => rfl) (ak (fun γ => rfl) (ak (fun γ => rfl) (ak (by refine fun γ => ⟨rfl, fun w' h => ?_⟩; clear h; go_simp) (ak (fun _ => ⟨rfl, fun _ _ => rfl⟩) (ak (fun _ => ⟨rfl, fun _ _ => rfl⟩) (ak (by refine fun γ => ⟨rfl, fun w' h => ?_⟩; clear h; go_simp) (ak (fun _ => ⟨rfl, fun _ _ => rfl⟩) (ak (fun γ => rfl) (ak (fun γ => rfl) (ak (fun γ => rfl) (ak (fun γ => rfl) (ak (fun γ => rfl) (ak (fun γ => rfl) (ak (fun γ => rfl) (ak (fun γ => rfl) (ak (fun γ => rfl) (ak (fun γ => rfl) (ak (fun γ => rfl) (ak (by refine fun γ => ⟨rfl, fun w' h => ?_⟩; clear h; go_simp) (ak (by refine fun γ => ⟨rfl, fun w' h => ?_⟩; clear h; go_simp) trivial)))))))))))))))))))))))))))))))))))))
  intro _ w13 H13
  clear H12
  refine rest0 rfl (then_normal (wp_cond_false rfl ?_))
  refine wp_skip (then_normal ?_)
  refine wp_seq (wp_seq ?_)
  refine walk_anyB 38 [.quiet (.bool true), .quiet (.bool true), .quiet (N ng), .quiet (.int .i64 0), .quiet (.int .i64 s), .quiet (N a), .call (N ng), .call (.bool true), .quiet (.bool false), .quiet (.bool false), .quiet (N a), .quiet (N 0), .quiet (.bool false), .quiet (.bool false), .gone, .gone, .gone, .gone, .gone, .gone, .gone, .quiet (.bool false), .quiet (.bool false), .quiet (.bool false), .quiet (N a), .quiet (N 0), .quiet (.bool true), .quiet (.bool true), .quiet (N iv), .quiet (.int .i64 0), .quiet (.int .i64 s), .quiet (N a), .call (N iv), .call (.bool true), .quiet (.bool false), .quiet (.bool false), .quiet (.bool false), .quiet (.bool false)] H13 ?ho14 ?he14 (hL := ?hL14)
  case hL14 => exact trivial
  case ho14 => exact ak (fun _ => ⟨rfl, fun _ _ => rfl⟩) (ak (fun _ => ⟨rfl, fun _ _ => rfl⟩) (ak (fun γ => ⟨rfl, fun w' h => ex_load6 h 1 rfl rfl rfl rfl⟩) (ak (fun _ => ⟨rfl, fun _ _ => rfl⟩) (ak (fun _ => ⟨rfl, fun _ _ => rfl⟩) (ak (fun γ => ⟨rfl, fun w' h => ex_load6 h 6 rfl rfl rfl rfl⟩) (ak (fun γ => ⟨rfl, fun w' h => ⟨30, #[.int .i64 s, N a], exec_call rfl call30 rfl (mpn rfl), C10.out w'⟩⟩) (ak (fun γ => ⟨rfl, fun w' h => ⟨27, #[N ng, .int .i64 0, .bool true, N ng], exec_call rfl call27 rfl (mpn rfl), num_yes b_ng w'⟩⟩) (ak (by refine fun γ => ⟨rfl, fun w' h => ?_⟩; clear h; go_simp) (ak (fun _ => ⟨rfl, fun _ _ => rfl⟩) (ak (fun γ => ⟨rfl, fun w' h => ex_load6 h 6 rfl rfl rfl rfl⟩) (ak (by refine fun γ => ⟨rfl, fun w' h => ?_⟩; clear h; exact ex_zero6 rfl) (ak (fun γ => ⟨rfl, fun w' _ => exec_eq6 e_a rfl rfl rfl⟩) (ak (fun _ => ⟨rfl, fun _ _ => rfl⟩) (ak (fun γ => rfl) (ak (fun γ => rfl) (ak (fun γ => rfl) (ak (fun γ => rfl) (ak (fun γ => rfl) (ak (fun γ => rfl) (ak (fun γ => rfl) (ak (by refine fun γ => ⟨rfl, fun w' h => ?_⟩; clear h; go_simp) (ak (by refine fun γ => ⟨rfl, fun w' h => ?_⟩; clear h; go_simp) (ak (fun _ => ⟨rfl, fun _ _ => rfl⟩) (ak (fun γ => ⟨rfl, fun w' h => ex_load6 h 6 rfl rfl rfl rfl⟩) (ak (by refine fun γ => ⟨rfl, fun w' h => ?_⟩; clear h; exact ex_zero6 rfl) (ak (fun γ => ⟨rfl, fun w' _ => exec_neq6 e_a rfl rfl rfl⟩) (ak (fun _ => ⟨rfl, fun _ _ => rfl⟩) (ak (fun γ => ⟨rfl, fun w' h => ex_load6 h 0 rfl rfl rfl rfl⟩) (ak (fun _ => ⟨rfl, fun _ _ => rfl⟩) (ak (fun _ => ⟨rfl, fun _ _ => rfl⟩) (ak (fun γ => ⟨rfl, fun w' h => ex_load6 h 6 rfl rfl rfl rfl⟩) (ak (fun γ => ⟨rfl, fun w' h => ⟨31, #[.int .i64 s, N a], exec_call rfl call31 rfl (mpn rfl), C11.out w'⟩⟩) (ak (fun γ => ⟨rfl, fun w' h => ⟨27, #[N iv, .int .i64 0, .bool true, N iv], exec_call rfl call27 rfl (mpn rfl), num_yes b_iv w'⟩⟩) (ak (by refine fun γ => ⟨rfl, fun w' h => ?_⟩; clear h; go_simp) (ak (by refine fun γ => ⟨rfl, fun w' h => ?_⟩; clear h; go_simp) (ak (by refine fun γ => ⟨rfl, fun w' h => ?_⟩; clear h; go_simp) (ak (by refine fun γ => ⟨rfl, fun w' h => ?_⟩; clear h; go_simp) trivial)))))))))))))))))))))))))))))))))))))
  intro _ w14 H14
  clear H13
  refine rest0 rfl (then_normal (wp_cond_false rfl ?_))
  refine wp_skip (then_normal (wp_seq ?_))
  refine walk_anyB 30 [.quiet (.bool true), .quiet (.bool false), .quiet (.bool false), .quiet (N x), .quiet (.int .i64 0), .quiet (.int .i64 s), .quiet (N a), .quiet (N b), .call (N x), .call (.bool true), .quiet (.bool true), .quiet (N y), .quiet (.int .i64 0), .quiet (.int .i64 s), .quiet (N a), .quiet (N b), .call (N y), .call (.bool true), .quiet (.bool true), .quiet (.bool true), .quiet (N m), .quiet (.int .i64 0), .quiet (.int .i64 s), .quiet (N a), .quiet (N b), .call (N m), .call (.bool true), .quiet (.bool true), .quiet (.bool true), .quiet (.bool true)] H14 ?ho15 ?he15 (hL := ?hL15)
  case hL15 => exact trivial
  case ho15 => exact ak (fun _ => ⟨rfl, fun _ _ => rfl⟩) (ak (by refine fun γ => ⟨rfl, fun w' h => ?_⟩; clear h; go_simp) (ak (fun _ => ⟨rfl, fun _ _ => rfl⟩) (ak (fun γ => ⟨rfl, fun w' h => ex_load6 h 4 rfl rfl rfl rfl⟩) (ak (fun _ => ⟨rfl, fun _ _ => rfl⟩) (ak (fun _ => ⟨rfl, fun _ _ => rfl⟩) (ak (fun γ => ⟨rfl, fun w' h => ex_load6 h 6 rfl rfl rfl rfl⟩) (ak (fun γ => ⟨rfl, fun w' h => ex_load6 h 7 rfl rfl rfl rfl⟩) (ak (fun γ => ⟨rfl, fun w' h => ⟨32, #[.int .i64 s, N a, N b], exec_call rfl call32 rfl (mpn rfl), C12.out w'⟩⟩) (ak (fun γ => ⟨rfl, fun w' h => ⟨27, #[N x, .int .i64 0, .bool true, N x], exec_call rfl call27 rfl (mpn rfl), num_yes b_x w'⟩⟩) (ak (fun _ => ⟨rfl, fun _ _ => rfl⟩) (ak (fun γ => ⟨rfl, fun w' h => ex_load6 h 3 rfl rfl rfl rfl⟩) (ak (fun _ => ⟨rfl, fun _ _ => rfl⟩) (ak (fun _ => ⟨rfl, fun _ _ => rfl⟩) (ak (fun γ => ⟨rfl, fun w' h => ex_load6 h 6 rfl rfl rfl rfl⟩) (ak (fun γ => ⟨rfl, fun w' h => ex_load6 h 7 rfl rfl rfl rfl⟩) (ak (fun γ => ⟨rfl, fun w' h => ⟨33, #[.int .i64 s, N a, N b], exec_call rfl call33 rfl (mpn rfl), C13.out w'⟩⟩) (ak (fun γ => ⟨rfl, fun w' h => ⟨27, #[N y, .int .i64 0, .bool true, N y], exec_call rfl call27 rfl (mpn rfl), num_yes b_y w'⟩⟩) (ak (by refine fun γ => ⟨rfl, fun w' h => ?_⟩; clear h; go_simp) (ak (fun _ => ⟨rfl, fun _ _ => rfl⟩) (ak (fun γ => ⟨rfl, fun w' h => ex_load6 h 2 rfl rfl rfl rfl⟩) (ak (fun _ => ⟨rfl, fun _ _ => rfl⟩) (ak (fun _ => ⟨rfl, fun _ _ => rfl⟩) (ak (fun γ => ⟨rfl, fun w' h => ex_load6 h 6 rfl rfl rfl rfl⟩) (ak (fun γ => ⟨rfl, fun w' h => ex_load6 h 7 rfl rfl rfl rfl⟩) (ak (fun γ => ⟨rfl, fun w' h => ⟨34, #[.int .i64 s, N a, N b], exec_call rfl call34 rfl (mpn rfl), C14.out w'⟩⟩) (ak (fun γ => ⟨rfl, fun w' h => ⟨27, #[N m, .int .i64 0, .bool true, N m], exec_call rfl call27 rfl (mpn rfl), num_yes b_m w'⟩⟩) (ak (by refine fun γ => ⟨rfl, fun w' h => ?_⟩; clear h; go_simp) (ak (by refine fun γ => ⟨rfl, fun w' h => ?_⟩; clear h; go_simp) (ak (fun _ => ⟨rfl, fun _ _ => rfl⟩) trivial)))))))))))))))))))))))))))))
  intro _ w15 H15
  clear H14
  refine rest0 rfl (then_normal (wp_ret ?_))
  repeat (first | refine then_ret ?_ | refine block_ret ?_)
  refine bodyPost_ret (v := .bool true) (by simp [results, Tryd.results5, go_sem, *]) rfl ?_
  exact ⟨rfl, H15.out.2⟩
end Rg
end Go.Proofs.YtfnmahjdkmgdkaaDoor
end
section
namespace Go.Proofs.YtfnmahjdkmgdkaaDoor
open Go.RowKit
namespace Rg
set_option maxRecDepth 100000
theorem dc_great : Dc 0 rB := ⟨dOrd0, fun ha hb w => dAdd0 ha hb w, fun ha hb w => dMul0 ha hb w, fun ha w => dInv0 ha w⟩
theorem dc_little {s : Int} {p r c gx gy : Nat} (hs : s ≠ 0) (hp : Lt.Pr r) (hO : ∀ w, Calls Tryd.prog 56 #[.int .i64 s] w fun e w' => e = .returned (.tuple #[.agg (Lt.kd p r c gx gy).toArray, .bool true]) ∧ Below w.heap.size w w') : Dc s r := by
  have ho := fun w => Lt.dOrdL hs (Lt.r64 hp) hO w
  refine ⟨ho, fun ha hb w => Lt.dAddL hs hp ho ha hb w, fun ha hb w => Lt.dMulL hs hp ho ha hb w, fun {a} ha w => ?_⟩
  have hr1 : 1 < r := Lt.one_lt hp
  have h := Lt.dInvL (fun k => a ^ ((r - 2) / 2 ^ k) % r) hs hp ho ha
    (by rw [Nat.div_eq_of_lt (Nat.lt_of_le_of_lt (Nat.sub_le _ _) (Lt.r64 hp)), Nat.pow_zero, Nat.mod_eq_of_lt hr1]) (fun k => Nat.mod_lt _ (by omega))
    (fun j hj => by show a ^ ((r - 2) / 2 ^ (j + 1)) % r * (a ^ ((r - 2) / 2 ^ (j + 1)) % r) % r * a % r = _; exact pow_step1 r a (r - 2) j hj)
    (fun j hj => by show a ^ ((r - 2) / 2 ^ (j + 1)) % r * (a ^ ((r - 2) / 2 ^ (j + 1)) % r) % r = _; exact pow_step0 r a (r - 2) j hj) w
  rw [Nat.pow_zero, Nat.div_one] at h
  exact h
open NT in
theorem inv_fermat {r a : Nat} (ok : Ok r) (hp : Prm r) (ha : a < r) (h0 : a ≠ 0) : a ^ (r - 2) % r = invm r a := by
  have hg := prm_cop hp ha h0
  have hi := invm_spec ok hg
  have h3 := ok.three
  refine inv_unique (Nat.mod_lt _ (by omega)) hi.1 ?_ hi.2
  rw [Nat.mod_mul_mod, ← Nat.pow_succ, show (r - 2).succ = r - 1 by omega]
  exact fermat1 hp a (fun d => absurd (Nat.le_of_dvd (by omega) d) (by omega))
open NT in
theorem sc_su {s : Int} {r : Nat} (hS : Su s r) (hD : Dc s r) (hp : Prm r) (hs0 : 0 ≤ s) (hs2 : s ≤ 2) (a b : Nat) (ha : a < big) (hb : b < big) (w : World) (hm : Mm w [(0, dtab)]) :
    Calls Tryd.prog 5 #[.int .i64 s, N a, N b] w fun e w' => e = .returned (.bool true) ∧ Below w.heap.size w w' := by
  have hr := hS.ok.big
  have hpos := hS.ok.pos
  have is := fun w => dIs_yes hs0 hs2 w
  have L : ∀ x, x % r < big := fun x => Nat.lt_trans (Nat.mod_lt x hpos) hr
  have LS : ∀ x y, subm r x y < big := fun x y => Nat.lt_trans (subm_lt_n hpos x y) hr
  by_cases h1 : a < r
  · have hi0 : a = 0 → Nat.gcd r a ≠ 1 := fun h => by
      rw [h, Nat.gcd_zero_right]
      have := hS.ok.three
      omega
    by_cases h2 : b < r
    · by_cases h0 : a = 0
      · exact sc_two0 s a b 0 (a * b % r) (subm r 0 a) r ((a + b) % r) (subm r a b) (L _) (LS _ _) hr (L _) (LS _ _)
          (fun w => by rw [run_eqN a 0 ha big_pos, decide_eq_true h0]) (fun w => by rw [run_eqN 0 a big_pos ha, decide_eq_true h0.symm])
          is hS.ord (fun w => sAdd_ok hS a b h1 h2 w) (fun w => sSub_ok hS a b h1 h2 w) (fun w => sMul_ok hS a b h1 h2 w) (fun w => sNeg_ok hS a h1 w) (fun w hm => sInv_miss hS a h1 (hi0 h0) w hm)
          (fun w => dSca_yes hD hr h1 w) hD.ord (fun w => dSca_yes hD hr h2 w) (fun w => dNeg hD hr h1 w) (fun w => hD.add h1 h2 w) (fun w => dSub hD hr h1 h2 w) (fun w => hD.mul h1 h2 w) w hm
      · have hv := hD.inv h1
        rw [inv_fermat hS.ok hp h1 h0] at hv
        have hg := prm_cop hp h1 h0
        exact sc_two1 s a b (invm r a) (a * b % r) (subm r 0 a) r ((a + b) % r) (subm r a b) (Nat.lt_trans (invm_spec hS.ok hg).1 hr) (L _) (LS _ _) hr (L _) (LS _ _)
          (fun w => by rw [run_eqN a 0 ha big_pos, decide_eq_false h0])
          is hS.ord (fun w => sAdd_ok hS a b h1 h2 w) (fun w => sSub_ok hS a b h1 h2 w) (fun w => sMul_ok hS a b h1 h2 w) (fun w => sNeg_ok hS a h1 w) (fun w hm => sInv_ok hS a h1 hg w hm)
          (fun w => dSca_yes hD hr h1 w) hD.ord (fun w => dSca_yes hD hr h2 w) (fun w => dNeg hD hr h1 w) hv (fun w => hD.add h1 h2 w) (fun w => dSub hD hr h1 h2 w) (fun w => hD.mul h1 h2 w) w hm
    · by_cases h0 : a = 0
      · exact sc_one0 s a b 0 (subm r 0 a) r (LS _ _) hr
          (fun w => by rw [run_eqN a 0 ha big_pos, decide_eq_true h0]) (fun w => by rw [run_eqN 0 a big_pos ha, decide_eq_true h0.symm])
          is hS.ord (fun w => sAdd_no2 hS a b h1 hb h2 w) (fun w => sSub_no2 hS a b h1 hb h2 w) (fun w => sMul_no2 hS a b h1 hb h2 w) (fun w => sNeg_ok hS a h1 w) (fun w hm => sInv_miss hS a h1 (hi0 h0) w hm)
          (fun w => dSca_yes hD hr h1 w) hD.ord (fun w => dSca_no hD hr hb h2 w) (fun w => dNeg hD hr h1 w) w hm
      · have hv := hD.inv h1
        rw [inv_fermat hS.ok hp h1 h0] at hv
        have hg := prm_cop hp h1 h0
        exact sc_one1 s a b (invm r a) (subm r 0 a) r (Nat.lt_trans (invm_spec hS.ok hg).1 hr) (LS _ _) hr
          (fun w => by rw [run_eqN a 0 ha big_pos, decide_eq_false h0])
          is hS.ord (fun w => sAdd_no2 hS a b h1 hb h2 w) (fun w => sSub_no2 hS a b h1 hb h2 w) (fun w => sMul_no2 hS a b h1 hb h2 w) (fun w => sNeg_ok hS a h1 w) (fun w hm => sInv_ok hS a h1 hg w hm)
          (fun w => dSca_yes hD hr h1 w) hD.ord (fun w => dSca_no hD hr hb h2 w) (fun w => dNeg hD hr h1 w) hv w hm
  · exact sc_not s a b r hr is hS.ord (fun w => sAdd_no1 hS a b ha h1 w) (fun w => sSub_no1 hS a b ha h1 w) (fun w => sMul_no1 hS a b ha h1 w) (fun w => sNeg_no hS a ha h1 w) (fun w => sInv_no hS a ha h1 w)
      (fun w => dSca_no hD hr ha h1 w) hD.ord w hm
theorem sc_no {s : Int} (hS : Sn s) (hI : ∀ w, Calls Tryd.prog 24 #[.int .i64 s] w fun e w' => e = .returned (.bool false) ∧ Below w.heap.size w w') (a b : Nat) (w : World) (hm : Mm w [(0, dtab)]) :
    Calls Tryd.prog 5 #[.int .i64 s, N a, N b] w fun e w' => e = .returned (.bool true) ∧ Below w.heap.size w w' :=
  sc_none s a b hI hS (fun w => sAdd_none hS a b w) (fun w => sSub_none hS a b w) (fun w => sMul_none hS a b w) (fun w => sNeg_none hS a w) (fun w => sInv_none hS a w) w hm
theorem sc_any (s : Int) (a b : Nat) (ha : a < big) (hb : b < big) (w : World) (hm : Mm w [(0, dtab)]) :
    Calls Tryd.prog 5 #[.int .i64 s, N a, N b] w fun e w' => e = .returned (.bool true) ∧ Below w.heap.size w w' := by
  by_cases h0 : 0 ≤ s
  · by_cases h2 : s ≤ 2
    · rcases (by omega : s = 0 ∨ s = 1 ∨ s = 2) with rfl | rfl | rfl
      · exact sc_su su_great dc_great NT.prm_r h0 h2 a b ha hb w hm
      · exact sc_su su_little (dc_little (by decide) ⟨by decide, by decide⟩ Lt.Of_1) NT.prm_65521 h0 h2 a b ha hb w hm
      · exact sc_su su_middle (dc_little (by decide) ⟨by decide, by decide⟩ Lt.Of_2) NT.prm_72057594037927889 h0 h2 a b ha hb w hm
    · exact sc_no (su_none (by omega) (by omega) (by omega)) (fun w => dIs_high h0 h2 w) a b w hm
  · exact sc_no (su_none (by omega) (by omega) (by omega)) (fun w => dIs_low h0 w) a b w hm
end Rg
end Go.Proofs.YtfnmahjdkmgdkaaDoor
end
section
namespace Go.Proofs.YtfnmahjdkmgdkaaDoor
open Go.ChangeShapes Go.WideShapes Go.ChangeAt Go.RowKit
theorem Tryd.own : ownKnob Tryd.prog.godebug = none := by kernel_rfl
theorem Tryd.laidOut : laidOutB Tryd.prog = true := by kernel_rfl
theorem wd_cons_zero (x r : Nat) (hx : x < 18446744073709551616) : wd (x + 18446744073709551616 * r) 0 = x := by
  unfold wd; rw [Nat.mul_zero, Nat.pow_zero, Nat.div_one]; omega
theorem wd_cons_succ (x r i : Nat) (hx : x < 18446744073709551616) : wd (x + 18446744073709551616 * r) (i + 1) = wd r i := by
  unfold wd
  rw [pow_step, Nat.mul_comm (2 ^ (64 * i)), ← Nat.div_div_eq_div_mul, show (x + 18446744073709551616 * r) / 18446744073709551616 = r by omega]
theorem lt_cons (x r k : Nat) (hx : x < 18446744073709551616) (hr : r < 2 ^ (64 * k)) : x + 18446744073709551616 * r < 2 ^ (64 * (k + 1)) := by
  rw [pow_step]; omega
theorem num_of_words (x : Nat → Nat) (hx : ∀ i, x i < 18446744073709551616) (n : Nat) : ∃ a, a < 2 ^ (64 * n) ∧ ∀ i, i < n → wd a i = x i := by
  induction n generalizing x with
  | zero => exact ⟨0, Nat.two_pow_pos _, fun i h => absurd h (Nat.not_lt_zero _)⟩
  | succ n ih =>
    obtain ⟨r, hr, hw⟩ := ih (fun i => x (i + 1)) (fun i => hx _)
    refine ⟨x 0 + 18446744073709551616 * r, lt_cons _ _ _ (hx 0) hr, fun i hi => ?_⟩
    cases i with
    | zero => exact wd_cons_zero _ _ (hx 0)
    | succ i => rw [wd_cons_succ _ _ _ (hx 0)]; exact hw i (by omega)
set_option maxRecDepth 100000 in
theorem open_num {H : Type} {enc : TypeId × Value → H} {w : World} {base : Nat} {sp : Nat → Bool} {held : Bool} {r : Reach} {b0 : Nat} {v : Value} {d : DataW H} {ps : List MemPlace}
    (hval : Value.okWide Tryd.prog w r b0 24 v) (hd : DataW.Trod enc Tryd.prog w base sp held 24 v d ps) : ∃ a, a < big ∧ v = N a ∧ ps = [] := by
  unfold Value.okWide at hval
  rw [Tryd.underlying24] at hval
  obtain ⟨cs, rfl, hsz, _⟩ := hval
  obtain ⟨fuel, hf⟩ := hd
  obtain ⟨xs, m, -, hx, hl, hn, hel⟩ := DataW.trod_array Tryd.underlying24 hf
  have hc : Tryd.prog.cellsOf 22 = 1 := by kernel_rfl
  have hc6 : Tryd.prog.cellsOf 24 = 6 := by kernel_rfl
  rw [hc6] at hsz
  have key : ∀ i, i < 6 → ∃ n : Nat, n < 18446744073709551616 ∧ cs[i]? = some (.int .u64 n) ∧ ∃ z, xs[i]? = some z ∧ z.2 = [] := by
    intro i hi
    have h := hel i hi
    rw [hc] at h
    have hlt : i < xs.length := by rw [hn]; exact hi
    obtain ⟨z, hz⟩ : ∃ z, xs[i]? = some z := ⟨xs[i], List.getElem?_eq_getElem hlt⟩
    rw [hz] at h
    obtain ⟨n, e1, e2, e3⟩ := DataW.trod_int Tryd.underlying22 h
    have hb := bounds_u64 e3
    have hi' : i < cs.size := by omega
    have e4 : cs[i]? = some (.int .u64 n) := by
      have e5 : (cs.toList.drop i)[0]? = some (.int .u64 n) := by
        have e6 : ((cs.toList.drop (i * 1)).take 1)[0]? = some (.int .u64 n) := by
          have e7 : (Value.agg cs).cells.toList = cs.toList := rfl
          rw [e7] at e1
          rw [e1]; rfl
        rw [Nat.mul_one, List.getElem?_take] at e6
        simpa using e6
      rw [List.getElem?_drop] at e5
      simpa using e5
    refine ⟨n.toNat, by omega, ?_, z, hz, by rw [e2]⟩
    rw [e4, Int.toNat_of_nonneg hb.1]
  obtain ⟨n0, l0, c0, z0, y0, q0⟩ := key 0 (by omega)
  obtain ⟨n1, l1, c1, z1, y1, q1⟩ := key 1 (by omega)
  obtain ⟨n2, l2, c2, z2, y2, q2⟩ := key 2 (by omega)
  obtain ⟨n3, l3, c3, z3, y3, q3⟩ := key 3 (by omega)
  obtain ⟨n4, l4, c4, z4, y4, q4⟩ := key 4 (by omega)
  obtain ⟨n5, l5, c5, z5, y5, q5⟩ := key 5 (by omega)
  have hps : ps = [] := by
    have hx2 : ps = xs.flatMap (·.2) := congrArg Prod.snd hx
    rw [hx2, List.flatMap_eq_nil_iff]
    intro z hz
    obtain ⟨i, hi⟩ := List.mem_iff_getElem?.1 hz
    have hi6 : i < 6 := by
      have := (List.getElem?_eq_some_iff.1 hi).1
      omega
    obtain ⟨n, _, _, z', y, q⟩ := key i hi6
    rw [hi] at y; injection y with y; rw [y]; exact q
  obtain ⟨a, ha, hw⟩ := num_of_words (fun i => [n0, n1, n2, n3, n4, n5].getD i 0) (by
    intro i
    match i with
    | 0 => exact l0
    | 1 => exact l1
    | 2 => exact l2
    | 3 => exact l3
    | 4 => exact l4
    | 5 => exact l5
    | (i + 6) => simp) 6
  refine ⟨a, by rw [big]; exact ha, ?_, hps⟩
  unfold N
  have w0 : wd a 0 = n0 := hw 0 (by omega)
  have w1 : wd a 1 = n1 := hw 1 (by omega)
  have w2 : wd a 2 = n2 := hw 2 (by omega)
  have w3 : wd a 3 = n3 := hw 3 (by omega)
  have w4 : wd a 4 = n4 := hw 4 (by omega)
  have w5 : wd a 5 = n5 := hw 5 (by omega)
  rw [w0, w1, w2, w3, w4, w5]
  congr 1
  apply Array.ext (by simpa using hsz)
  intro i hi1 hi2
  have : i < 6 := by simpa using hi2
  have g : cs[i]? = some cs[i] := Array.getElem?_eq_getElem hi1
  match i, this with
  | 0, _ => rw [c0] at g; injection g with g; rw [← g]; rfl
  | 1, _ => rw [c1] at g; injection g with g; rw [← g]; rfl
  | 2, _ => rw [c2] at g; injection g with g; rw [← g]; rfl
  | 3, _ => rw [c3] at g; injection g with g; rw [← g]; rfl
  | 4, _ => rw [c4] at g; injection g with g; rw [← g]; rfl
  | 5, _ => rw [c5] at g; injection g with g; rw [← g]; rfl
/-- What was read of a number ahead of the call reads so behind it. -/
theorem num_stays {H : Type} {enc : TypeId × Value → H} {W W' : World} {v : Value} {d : DataW H}
    (h : DataW.Trod enc Tryd.prog W 0 (fun _ => true) true 24 v d []) (hb : Below W.heap.size W W') :
    DataW.Trod enc Tryd.prog W' 0 (fun b => decide (b < W.heap.size)) true 24 v d [] :=
  Below.trod Tryd.laidOut (by kernel_rfl) (by decide +kernel) h hb (fun _ hx => by cases hx)
end Go.Proofs.YtfnmahjdkmgdkaaDoor
end
section
namespace Go.Proofs.YtfnmahjdkmgdkaaDoor
open Go.ChangeShapes Go.WideShapes Go.ChangeAt Go.RowKit
namespace Rg
set_option maxRecDepth 100000
abbrev laidL : List (String × DataW Unit) := Rows.suiteFieldRow.laid
abbrev tabName : String := match laidL with
  | (n, _) :: _ => n
  | [] => Tryd.f3.name
theorem gTab : Tryd.prog.globalNamed tabName = some 0 := by kernel_rfl
theorem tTab : (Tryd.prog.globals[0]?).map (·.type) = some 136 := by kernel_rfl
theorem datTab : (Rows.laid_math_bits_deBruijn64tab : DataW Unit) = .agg (Lib.deBruijn64tab.map fun k => .lit (.int .u8 ((k : Nat) : Int))) := by kernel_rfl
theorem tab_of_laid {W : World} (h : laidMetH Tryd.prog laidL W) : Mm W [(0, dtab)] := by
  rw [MakeChecks.laidMetH_plain _ _ _ (by kernel_rfl)] at h
  obtain ⟨ps, ⟨g, t, cs, fuel, p, q, hg, ht, hv, hd, hq, hps⟩, hnd, hc⟩ := h
  obtain rfl := Option.some.inj (gTab.symm.trans hg)
  obtain rfl := Option.some.inj (tTab.symm.trans ht)
  obtain ⟨xs, m, -, hx, hlen, hn, hel⟩ := DataW.trod_array Tryd.underlying136 hd
  rw [datTab] at hx
  simp only [Prod.mk.injEq, DataW.agg.injEq] at hx
  have hc5 : Tryd.prog.cellsOf 5 = 1 := by kernel_rfl
  have hc81 : Tryd.prog.cellsOf 136 = 64 := by kernel_rfl
  rw [hc81] at hlen
  have hsz : cs.size = 64 := by simpa using hlen
  have hpl : ∀ i, i < 64 → MemPlace.cell 0 i ∈ ps := fun i hi => by
    rw [hps]
    refine List.mem_append_left _ (List.mem_append_left _ ?_)
    unfold MemPlace.row
    simp [hsz]
    omega
  obtain ⟨⟨c0, t0, hheap⟩, _⟩ := hc 0 0 (hpl 0 (by decide))
  have h0 : 0 < W.heap.size := by
    rcases Nat.lt_or_ge 0 W.heap.size with h' | h'
    · exact h'
    · rw [Array.getElem?_eq_none (by omega)] at hheap; cases hheap
  refine ⟨fun pq hpq => ?_, List.pairwise_singleton _ _⟩
  rw [List.mem_singleton.1 hpq]
  refine ⟨h0, fun j v hj => ?_⟩
  have hj64 : j < 64 := by
    have := (List.getElem?_eq_some_iff.1 hj).1
    exact this
  refine ⟨?_, ?_⟩
  · rw [World.var?_cell hg hv j]
    have h1 := hel j hj64
    rw [hc5, Nat.mul_one] at h1
    have hlt : j < xs.length := by omega
    rw [List.getElem?_eq_getElem hlt] at h1
    obtain ⟨n, e1, e2, _⟩ := DataW.trod_int Tryd.underlying5 h1
    have e3 : cs[j]? = some (.int .u8 n) := by
      have e4 : ((cs.toList.drop j).take 1)[0]? = some (.int .u8 n) := by rw [e1]; rfl
      rw [List.getElem?_take, if_pos (by decide), List.getElem?_drop] at e4
      simpa using e4
    have e5 : (xs.map (·.1))[j]? = (Lib.deBruijn64tab.map fun k => DataW.lit (.int .u8 ((k : Nat) : Int)))[j]? := by rw [hx.1]
    rw [List.getElem?_map, List.getElem?_eq_getElem hlt, e2, List.getElem?_map] at e5
    unfold dtab at hj
    rw [List.getElem?_map] at hj
    cases hk : Lib.deBruijn64tab[j]? with
    | none => rw [hk] at hj; cases hj
    | some k =>
      rw [hk] at hj e5
      simp only [Option.map_some, Option.some.injEq, DataW.lit.injEq] at hj e5
      rw [e3, ← hj]
      simp only [Option.some.injEq]
      injection e5 with _ e6
      rw [e6]
  · unfold World.frozen?
    rw [hheap]
    simp
theorem door_met (os : Os) (args : Array Value) : laidMetH Tryd.prog laidL ((World.doorLaid Tryd.prog 400 os).forCall (fun _ _ => 0) ⟨#[], args, []⟩).memory :=
  laidMetH_of_parts3 (fuel := 8) (laidMet_of_run' 8 (by kernel_rfl) (by kernel_rfl)) (by kernel_rfl) (by kernel_rfl)
end Rg
end Go.Proofs.YtfnmahjdkmgdkaaDoor
end
