/- Texts of the proof, joined. -/
import Derived.Test.YtkkloakcphigeaaDoorP3
section
namespace Go.Proofs.YtkkloakcphigeaaDoor
open Go.RowKit
namespace Rg
theorem call54 : ∀ args w, (callFunc 54 args).run Tryd.prog w = .ok (.enter 54 args) w := by intro args w; go_simp
theorem call43 : ∀ args w, (callFunc 43 args).run Tryd.prog w = .ok (.enter 43 args) w := by intro args w; go_simp
theorem call31 : ∀ args w, (callFunc 31 args).run Tryd.prog w = .ok (.enter 31 args) w := by intro args w; go_simp
theorem call51 : ∀ args w, (callFunc 51 args).run Tryd.prog w = .ok (.enter 51 args) w := by intro args w; go_simp
set_option maxRecDepth 100000 in
theorem reduce_1 (g n o s a : Nat)
    (c0 : ∀ w, Mm w [(g, modx n o s)] → Calls Tryd.prog 51 #[PT g 0] w fun e w' => e = .returned (.bool true) ∧ Below w.heap.size w w')
    (c1 : ∀ w, Calls Tryd.prog 69 #[N a, N n] w fun e w' => e = .returned (.int .i64 (-1)) ∧ Below w.heap.size w w') (w : World) (hm : Mm w [(g, modx n o s)]) :
    Calls Tryd.prog 54 #[PT g 0, N a] w fun e w' => e = .returned (N a) ∧ Below w.heap.size w w' := by
  have H0 : Hid (_ ∧ _) := ⟨hm, Below.refl w.heap.size w⟩
  clear hm
  have C0 : Hid _ := c0
  have C1 : Hid _ := c1
  clear c0 c1
  go_enter Tryd.func54, Tryd.ntmps54
  refine wp_seq ?_
  refine walk_seqA 2 [.made (cells6 a) 33, .made zero6 33] (sB H0) ?ho1 ?he1
  case ho1 => exact ak (fun γ => ⟨rfl, fun w' => ex_box6 rfl rfl⟩) (ak (fun γ => ⟨rfl, fun w' => exec_made6 rfl⟩) trivial)
  intro γ w1 l hM hl
  have M1 : Mm w1 [(γ 0, cells6 a), (γ 1, zero6), (g, modx n o s)] := H0.out.1.grow hM (Nat.le_refl _) hl [0, 1] rfl (by decide)
  have B1 : Below w.heap.size w w1 := H0.out.2.trans ((hM.below).mono H0.out.2.size)
  have o1_0 : Hid (w.heap.size ≤ γ 0) := Nat.le_trans H0.out.2.size (hM.fin (Nat.le_refl _) hl (i := 0) rfl).2.1
  have o1_1 : Hid (w.heap.size ≤ γ 1) := Nat.le_trans H0.out.2.size (hM.fin (Nat.le_refl _) hl (i := 1) rfl).2.1
  clear hM hl l
  generalize γ 0 = γ1_0 at M1 o1_0 ⊢
  generalize γ 1 = γ1_1 at M1 o1_1 ⊢
  clear γ
  have H1 : Hid (_ ∧ _) := ⟨M1, B1⟩
  clear M1 B1
  refine rest0 rfl (then_normal (wp_seq (wp_seq ?_)))
  refine walk_seqA 3 [.quiet (PT g 0), .call (.bool true), .quiet (.bool false)] (sB H1) ?ho2 ?he2
  case ho2 => exact ak (fun _ => ⟨rfl, fun _ _ => rfl⟩) (ak (fun γ => ⟨rfl, fun w' h => ⟨51, #[PT g 0], exec_call rfl call51 rfl (mpn rfl), C0.out w' (h.one 2 rfl)⟩⟩) (ak (by refine fun γ => ⟨rfl, fun w' h => ?_⟩; clear h; go_simp) trivial))
  intro γ w2 l hM hl
  have M2 : Mm w2 [(γ1_0, cells6 a), (γ1_1, zero6), (g, modx n o s)] := H1.out.1.grow hM (Nat.le_refl _) hl [] rfl (by decide)
  have B2 : Below w.heap.size w w2 := H1.out.2.trans ((hM.below).mono H1.out.2.size)
  clear hM hl l H1
  clear γ
  have H2 : Hid (_ ∧ _) := ⟨M2, B2⟩
  clear M2 B2
  refine rest0 rfl (then_normal (wp_cond_false rfl ?_))
  refine wp_skip (then_normal ?_)
  refine wp_seq (wp_seq ?_)
  refine walk_anyA 7 [.quiet (N a), .quiet (PT g 0), .quiet (PT g 0), .quiet (PT g 0), .quiet (N n), .call (.int .i64 (-1)), .quiet (.bool true)] (sB H2) ?ho3 ?he3
  case ho3 => exact ak (fun γ => ⟨rfl, fun w' h => ex_load6 h 0 rfl rfl rfl rfl⟩) (ak (fun _ => ⟨rfl, fun _ _ => rfl⟩) (ak (by refine fun γ => ⟨rfl, fun w' h => ?_⟩; clear h; go_simp) (ak (by refine fun γ => ⟨rfl, fun w' h => ?_⟩; clear h; go_simp) (ak (fun γ => ⟨rfl, fun w' h => ex_load6 h 2 rfl rfl rfl rfl⟩) (ak (fun γ => ⟨rfl, fun w' h => ⟨69, #[N a, N n], exec_call rfl call69 rfl (mpn rfl), C1.out w'⟩⟩) (ak (by refine fun γ => ⟨rfl, fun w' h => ?_⟩; clear h; go_simp) trivial))))))
  intro γ w3 l hM hl
  have M3 : Mm w3 [(γ1_0, cells6 a), (γ1_1, zero6), (g, modx n o s)] := H2.out.1.grow hM (Nat.le_refl _) hl [] rfl (by decide)
  have B3 : Below w.heap.size w w3 := H2.out.2.trans ((hM.below).mono H2.out.2.size)
  clear hM hl l H2
  clear γ
  have H3 : Hid (_ ∧ _) := ⟨M3, B3⟩
  clear M3 B3
  refine rest0 rfl (then_normal (wp_cond_true rfl (wp_seq ?_)))
  refine walk_seqA 1 [.quiet (N a)] (sB H3) ?ho4 ?he4
  case ho4 => exact ak (fun γ => ⟨rfl, fun w' h => ex_load6 h 0 rfl rfl rfl rfl⟩) trivial
  intro γ w4 l hM hl
  have M4 : Mm w4 [(γ1_0, cells6 a), (γ1_1, zero6), (g, modx n o s)] := H3.out.1.grow hM (Nat.le_refl _) hl [] rfl (by decide)
  have B4 : Below w.heap.size w w4 := H3.out.2.trans ((hM.below).mono H3.out.2.size)
  clear hM hl l H3
  clear γ
  have H4 : Hid (_ ∧ _) := ⟨M4, B4⟩
  clear M4 B4
  refine rest_at (l := [1]) rfl ?_
  refine rest_store rfl rfl rfl (ex_store6 H4.out.1 1 rfl rfl rfl rfl (Nat.le_of_ble_eq_true rfl)) ?_
  have H5 : Hid (Mm (w4.setCells γ1_1 0 (cells6 a)) [(γ1_0, cells6 a), (γ1_1, cells6 a), (g, modx n o s)] ∧ Below w.heap.size w (w4.setCells γ1_1 0 (cells6 a))) := ⟨H4.out.1.put 1 (off := 0) (vs := cells6 a) rfl (Nat.le_of_ble_eq_true rfl), below_setCells _ o1_1.out _ _ _ H4.out.2⟩
  clear H4
  generalize hgw : World.setCells _ _ _ _ = w5 at H5 ⊢
  clear hgw
  refine rest_nil (then_normal (wp_ret ?_))
  repeat (first | refine then_ret ?_ | refine block_ret ?_)
  have c0 := H5.out.1.get 1 rfl 0 rfl
  have c1 := H5.out.1.get 1 rfl 1 rfl
  have c2 := H5.out.1.get 1 rfl 2 rfl
  have c3 := H5.out.1.get 1 rfl 3 rfl
  have c4 := H5.out.1.get 1 rfl 4 rfl
  have c5 := H5.out.1.get 1 rfl 5 rfl
  refine bodyPost_ret (v := N a) (by simp [results, Tryd.results54, go_sem, *]) rfl ?_
  exact ⟨rfl, H5.out.2⟩
set_option maxRecDepth 100000 in
theorem reduce_2 (g n o s a r : Nat) (c : Int) (hc : ¬ c < 0)
    (c0 : ∀ w, Mm w [(g, modx n o s)] → Calls Tryd.prog 51 #[PT g 0] w fun e w' => e = .returned (.bool true) ∧ Below w.heap.size w w')
    (c1 : ∀ w, Calls Tryd.prog 69 #[N a, N n] w fun e w' => e = .returned (.int .i64 c) ∧ Below w.heap.size w w')
    (c2 : ∀ w, Calls Tryd.prog 53 #[N a, N n] w fun e w' => e = .returned (.tuple #[N r, .bool false]) ∧ Below w.heap.size w w')
    (c3 : ∀ w, Calls Tryd.prog 69 #[N r, N n] w fun e w' => e = .returned (.int .i64 (-1)) ∧ Below w.heap.size w w') (w : World) (hm : Mm w [(g, modx n o s)]) :
    Calls Tryd.prog 54 #[PT g 0, N a] w fun e w' => e = .returned (N r) ∧ Below w.heap.size w w' := by
  have H0 : Hid (_ ∧ _) := ⟨hm, Below.refl w.heap.size w⟩
  clear hm
  have C0 : Hid _ := c0
  have C1 : Hid _ := c1
  have C2 : Hid _ := c2
  have C3 : Hid _ := c3
  clear c0 c1 c2 c3
  go_enter Tryd.func54, Tryd.ntmps54
  refine wp_seq ?_
  refine walk_seqA 2 [.made (cells6 a) 33, .made zero6 33] (sB H0) ?ho1 ?he1
  case ho1 => exact ak (fun γ => ⟨rfl, fun w' => ex_box6 rfl rfl⟩) (ak (fun γ => ⟨rfl, fun w' => exec_made6 rfl⟩) trivial)
  intro γ w1 l hM hl
  have M1 : Mm w1 [(γ 0, cells6 a), (γ 1, zero6), (g, modx n o s)] := H0.out.1.grow hM (Nat.le_refl _) hl [0, 1] rfl (by decide)
  have B1 : Below w.heap.size w w1 := H0.out.2.trans ((hM.below).mono H0.out.2.size)
  have o1_0 : Hid (w.heap.size ≤ γ 0) := Nat.le_trans H0.out.2.size (hM.fin (Nat.le_refl _) hl (i := 0) rfl).2.1
  have o1_1 : Hid (w.heap.size ≤ γ 1) := Nat.le_trans H0.out.2.size (hM.fin (Nat.le_refl _) hl (i := 1) rfl).2.1
  clear hM hl l
  generalize γ 0 = γ1_0 at M1 o1_0 ⊢
  generalize γ 1 = γ1_1 at M1 o1_1 ⊢
  clear γ
  have H1 : Hid (_ ∧ _) := ⟨M1, B1⟩
  clear M1 B1
  refine rest0 rfl (then_normal (wp_seq (wp_seq ?_)))
  refine walk_seqA 3 [.quiet (PT g 0), .call (.bool true), .quiet (.bool false)] (sB H1) ?ho2 ?he2
  case ho2 => exact ak (fun _ => ⟨rfl, fun _ _ => rfl⟩) (ak (fun γ => ⟨rfl, fun w' h => ⟨51, #[PT g 0], exec_call rfl call51 rfl (mpn rfl), C0.out w' (h.one 2 rfl)⟩⟩) (ak (by refine fun γ => ⟨rfl, fun w' h => ?_⟩; clear h; go_simp) trivial))
  intro γ w2 l hM hl
  have M2 : Mm w2 [(γ1_0, cells6 a), (γ1_1, zero6), (g, modx n o s)] := H1.out.1.grow hM (Nat.le_refl _) hl [] rfl (by decide)
  have B2 : Below w.heap.size w w2 := H1.out.2.trans ((hM.below).mono H1.out.2.size)
  clear hM hl l H1
  clear γ
  have H2 : Hid (_ ∧ _) := ⟨M2, B2⟩
  clear M2 B2
  refine rest0 rfl (then_normal (wp_cond_false rfl ?_))
  refine wp_skip (then_normal ?_)
  refine wp_seq (wp_seq ?_)
  refine walk_anyA 7 [.quiet (N a), .quiet (PT g 0), .quiet (PT g 0), .quiet (PT g 0), .quiet (N n), .call (.int .i64 c), .quiet (.bool false)] (sB H2) ?ho3 ?he3
  case ho3 => exact ak (fun γ => ⟨rfl, fun w' h => ex_load6 h 0 rfl rfl rfl rfl⟩) (ak (fun _ => ⟨rfl, fun _ _ => rfl⟩) (ak (by refine fun γ => ⟨rfl, fun w' h => ?_⟩; clear h; go_simp) (ak (by refine fun γ => ⟨rfl, fun w' h => ?_⟩; clear h; go_simp) (ak (fun γ => ⟨rfl, fun w' h => ex_load6 h 2 rfl rfl rfl rfl⟩) (ak (fun γ => ⟨rfl, fun w' h => ⟨69, #[N a, N n], exec_call rfl call69 rfl (mpn rfl), C1.out w'⟩⟩) (ak (by refine fun γ => ⟨rfl, fun w' h => ?_⟩; clear h; go_simp) trivial))))))
  intro γ w3 l hM hl
  have M3 : Mm w3 [(γ1_0, cells6 a), (γ1_1, zero6), (g, modx n o s)] := H2.out.1.grow hM (Nat.le_refl _) hl [] rfl (by decide)
  have B3 : Below w.heap.size w w3 := H2.out.2.trans ((hM.below).mono H2.out.2.size)
  clear hM hl l H2
  clear γ
  have H3 : Hid (_ ∧ _) := ⟨M3, B3⟩
  clear M3 B3
  refine rest0 rfl (then_normal (wp_cond_false rfl ?_))
  refine wp_skip (then_normal (wp_seq ?_))
  refine walk_anyA 12 [.quiet (N a), .quiet (PT g 0), .quiet (PT g 0), .quiet (PT g 0), .quiet (N n), .call (.tuple #[N r, .bool false]), .quiet (.tuple #[N r, .bool false]), .quiet (N r), .quiet (.bool false), .made zero6 33, .laid 9 zero6 (cells6 r), .quiet (.bool false)] (sB H3) ?ho4 ?he4 (hL := ?hL4)
  case hL4 => exact ⟨⟨_, rfl⟩, trivial⟩
  case ho4 => exact ak (fun γ => ⟨rfl, fun w' h => ex_load6 h 0 rfl rfl rfl rfl⟩) (ak (fun _ => ⟨rfl, fun _ _ => rfl⟩) (ak (by refine fun γ => ⟨rfl, fun w' h => ?_⟩; clear h; go_simp) (ak (by refine fun γ => ⟨rfl, fun w' h => ?_⟩; clear h; go_simp) (ak (fun γ => ⟨rfl, fun w' h => ex_load6 h 2 rfl rfl rfl rfl⟩) (ak (fun γ => ⟨rfl, fun w' h => ⟨53, #[N a, N n], exec_call rfl call53 rfl (mpn rfl), C2.out w'⟩⟩) (ak (fun _ => ⟨rfl, fun _ _ => rfl⟩) (ak (by refine fun γ => ⟨rfl, fun w' h => ?_⟩; clear h; go_simp) (ak (by refine fun γ => ⟨rfl, fun w' h => ?_⟩; clear h; go_simp) (ak (fun γ => ⟨rfl, fun w' => exec_made6 rfl⟩) (ak (fun γ => ⟨rfl, rfl, rfl, fun w' h => exec_laid6 h rfl rfl rfl⟩) (ak (fun _ => ⟨rfl, fun _ _ => rfl⟩) trivial)))))))))))
  intro γ w4 l hM hl
  have M4 : Mm w4 [(γ 9, cells6 r), (γ1_0, cells6 a), (γ1_1, zero6), (g, modx n o s)] := H3.out.1.grow hM (Nat.le_refl _) hl [9] rfl (by decide)
  have B4 : Below w.heap.size w w4 := H3.out.2.trans ((hM.below).mono H3.out.2.size)
  have o4_9 : Hid (w.heap.size ≤ γ 9) := Nat.le_trans H3.out.2.size (hM.fin (Nat.le_refl _) hl (i := 9) rfl).2.1
  clear hM hl l H3
  generalize γ 9 = γ4_9 at M4 o4_9 ⊢
  clear γ
  have H4 : Hid (_ ∧ _) := ⟨M4, B4⟩
  clear M4 B4
  refine rest0 rfl (then_normal (wp_seq (wp_seq ?_)))
  refine walk_anyA 7 [.quiet (N r), .quiet (PT g 0), .quiet (PT g 0), .quiet (PT g 0), .quiet (N n), .call (.int .i64 (-1)), .quiet (.bool true)] (sB H4) ?ho5 ?he5
  case ho5 => exact ak (fun γ => ⟨rfl, fun w' h => ex_load6 h 0 rfl rfl rfl rfl⟩) (ak (fun _ => ⟨rfl, fun _ _ => rfl⟩) (ak (by refine fun γ => ⟨rfl, fun w' h => ?_⟩; clear h; go_simp) (ak (by refine fun γ => ⟨rfl, fun w' h => ?_⟩; clear h; go_simp) (ak (fun γ => ⟨rfl, fun w' h => ex_load6 h 3 rfl rfl rfl rfl⟩) (ak (fun γ => ⟨rfl, fun w' h => ⟨69, #[N r, N n], exec_call rfl call69 rfl (mpn rfl), C3.out w'⟩⟩) (ak (by refine fun γ => ⟨rfl, fun w' h => ?_⟩; clear h; go_simp) trivial))))))
  intro γ w5 l hM hl
  have M5 : Mm w5 [(γ4_9, cells6 r), (γ1_0, cells6 a), (γ1_1, zero6), (g, modx n o s)] := H4.out.1.grow hM (Nat.le_refl _) hl [] rfl (by decide)
  have B5 : Below w.heap.size w w5 := H4.out.2.trans ((hM.below).mono H4.out.2.size)
  clear hM hl l H4
  clear γ
  have H5 : Hid (_ ∧ _) := ⟨M5, B5⟩
  clear M5 B5
  refine rest0 rfl (then_normal (wp_cond_true rfl (wp_seq ?_)))
  refine walk_seqA 1 [.quiet (N r)] (sB H5) ?ho6 ?he6
  case ho6 => exact ak (fun γ => ⟨rfl, fun w' h => ex_load6 h 0 rfl rfl rfl rfl⟩) trivial
  intro γ w6 l hM hl
  have M6 : Mm w6 [(γ4_9, cells6 r), (γ1_0, cells6 a), (γ1_1, zero6), (g, modx n o s)] := H5.out.1.grow hM (Nat.le_refl _) hl [] rfl (by decide)
  have B6 : Below w.heap.size w w6 := H5.out.2.trans ((hM.below).mono H5.out.2.size)
  clear hM hl l H5
  clear γ
  have H6 : Hid (_ ∧ _) := ⟨M6, B6⟩
  clear M6 B6
  refine rest_at (l := [1]) rfl ?_
  refine rest_store rfl rfl rfl (ex_store6 H6.out.1 2 rfl rfl rfl rfl (Nat.le_of_ble_eq_true rfl)) ?_
  have H7 : Hid (Mm (w6.setCells γ1_1 0 (cells6 r)) [(γ4_9, cells6 r), (γ1_0, cells6 a), (γ1_1, cells6 r), (g, modx n o s)] ∧ Below w.heap.size w (w6.setCells γ1_1 0 (cells6 r))) := ⟨H6.out.1.put 2 (off := 0) (vs := cells6 r) rfl (Nat.le_of_ble_eq_true rfl), below_setCells _ o1_1.out _ _ _ H6.out.2⟩
  clear H6
  generalize hgw : World.setCells _ _ _ _ = w7 at H7 ⊢
  clear hgw
  refine rest_nil (then_normal (wp_ret ?_))
  repeat (first | refine then_ret ?_ | refine block_ret ?_)
  have c0 := H7.out.1.get 2 rfl 0 rfl
  have c1 := H7.out.1.get 2 rfl 1 rfl
  have c2 := H7.out.1.get 2 rfl 2 rfl
  have c3 := H7.out.1.get 2 rfl 3 rfl
  have c4 := H7.out.1.get 2 rfl 4 rfl
  have c5 := H7.out.1.get 2 rfl 5 rfl
  refine bodyPost_ret (v := N r) (by simp [results, Tryd.results54, go_sem, *]) rfl ?_
  exact ⟨rfl, H7.out.2⟩
set_option maxRecDepth 100000 in
theorem reduce_3 (g n o s a r x : Nat) (c d : Int) (hc : ¬ c < 0) (hd : ¬ d < 0)
    (c0 : ∀ w, Mm w [(g, modx n o s)] → Calls Tryd.prog 51 #[PT g 0] w fun e w' => e = .returned (.bool true) ∧ Below w.heap.size w w')
    (c1 : ∀ w, Calls Tryd.prog 69 #[N a, N n] w fun e w' => e = .returned (.int .i64 c) ∧ Below w.heap.size w w')
    (c2 : ∀ w, Calls Tryd.prog 53 #[N a, N n] w fun e w' => e = .returned (.tuple #[N r, .bool false]) ∧ Below w.heap.size w w')
    (c3 : ∀ w, Calls Tryd.prog 69 #[N r, N n] w fun e w' => e = .returned (.int .i64 d) ∧ Below w.heap.size w w')
    (c4 : ∀ w, Mm w [(g, modx n o s)] → Calls Tryd.prog 52 #[PT g 0, N r, N o] w fun e w' => e = .returned (N x) ∧ Below w.heap.size w w') (w : World) (hm : Mm w [(g, modx n o s)]) :
    Calls Tryd.prog 54 #[PT g 0, N a] w fun e w' => e = .returned (N x) ∧ Below w.heap.size w w' := by
  have H0 : Hid (_ ∧ _) := ⟨hm, Below.refl w.heap.size w⟩
  clear hm
  have C0 : Hid _ := c0
  have C1 : Hid _ := c1
  have C2 : Hid _ := c2
  have C3 : Hid _ := c3
  have C4 : Hid _ := c4
  clear c0 c1 c2 c3 c4
  go_enter Tryd.func54, Tryd.ntmps54
  refine wp_seq ?_
  refine walk_seqA 2 [.made (cells6 a) 33, .made zero6 33] (sB H0) ?ho1 ?he1
  case ho1 => exact ak (fun γ => ⟨rfl, fun w' => ex_box6 rfl rfl⟩) (ak (fun γ => ⟨rfl, fun w' => exec_made6 rfl⟩) trivial)
  intro γ w1 l hM hl
  have M1 : Mm w1 [(γ 0, cells6 a), (γ 1, zero6), (g, modx n o s)] := H0.out.1.grow hM (Nat.le_refl _) hl [0, 1] rfl (by decide)
  have B1 : Below w.heap.size w w1 := H0.out.2.trans ((hM.below).mono H0.out.2.size)
  have o1_0 : Hid (w.heap.size ≤ γ 0) := Nat.le_trans H0.out.2.size (hM.fin (Nat.le_refl _) hl (i := 0) rfl).2.1
  have o1_1 : Hid (w.heap.size ≤ γ 1) := Nat.le_trans H0.out.2.size (hM.fin (Nat.le_refl _) hl (i := 1) rfl).2.1
  clear hM hl l
  generalize γ 0 = γ1_0 at M1 o1_0 ⊢
  generalize γ 1 = γ1_1 at M1 o1_1 ⊢
  clear γ
  have H1 : Hid (_ ∧ _) := ⟨M1, B1⟩
  clear M1 B1
  refine rest0 rfl (then_normal (wp_seq (wp_seq ?_)))
  refine walk_seqA 3 [.quiet (PT g 0), .call (.bool true), .quiet (.bool false)] (sB H1) ?ho2 ?he2
  case ho2 => exact ak (fun _ => ⟨rfl, fun _ _ => rfl⟩) (ak (fun γ => ⟨rfl, fun w' h => ⟨51, #[PT g 0], exec_call rfl call51 rfl (mpn rfl), C0.out w' (h.one 2 rfl)⟩⟩) (ak (by refine fun γ => ⟨rfl, fun w' h => ?_⟩; clear h; go_simp) trivial))
  intro γ w2 l hM hl
  have M2 : Mm w2 [(γ1_0, cells6 a), (γ1_1, zero6), (g, modx n o s)] := H1.out.1.grow hM (Nat.le_refl _) hl [] rfl (by decide)
  have B2 : Below w.heap.size w w2 := H1.out.2.trans ((hM.below).mono H1.out.2.size)
  clear hM hl l H1
  clear γ
  have H2 : Hid (_ ∧ _) := ⟨M2, B2⟩
  clear M2 B2
  refine rest0 rfl (then_normal (wp_cond_false rfl ?_))
  refine wp_skip (then_normal ?_)
  refine wp_seq (wp_seq ?_)
  refine walk_anyA 7 [.quiet (N a), .quiet (PT g 0), .quiet (PT g 0), .quiet (PT g 0), .quiet (N n), .call (.int .i64 c), .quiet (.bool false)] (sB H2) ?ho3 ?he3
  case ho3 => exact ak (fun γ => ⟨rfl, fun w' h => ex_load6 h 0 rfl rfl rfl rfl⟩) (ak (fun _ => ⟨rfl, fun _ _ => rfl⟩) (ak (by refine fun γ => ⟨rfl, fun w' h => ?_⟩; clear h; go_simp) (ak (by refine fun γ => ⟨rfl, fun w' h => ?_⟩; clear h; go_simp) (ak (fun γ => ⟨rfl, fun w' h => ex_load6 h 2 rfl rfl rfl rfl⟩) (ak (fun γ => ⟨rfl, fun w' h => ⟨69, #[N a, N n], exec_call rfl call69 rfl (mpn rfl), C1.out w'⟩⟩) (ak (by refine fun γ => ⟨rfl, fun w' h => ?_⟩; clear h; go_simp) trivial))))))
  intro γ w3 l hM hl
  have M3 : Mm w3 [(γ1_0, cells6 a), (γ1_1, zero6), (g, modx n o s)] := H2.out.1.grow hM (Nat.le_refl _) hl [] rfl (by decide)
  have B3 : Below w.heap.size w w3 := H2.out.2.trans ((hM.below).mono H2.out.2.size)
  clear hM hl l H2
  clear γ
  have H3 : Hid (_ ∧ _) := ⟨M3, B3⟩
  clear M3 B3
  refine rest0 rfl (then_normal (wp_cond_false rfl ?_))
  refine wp_skip (then_normal (wp_seq ?_))
  refine walk_anyA 12 [.quiet (N a), .quiet (PT g 0), .quiet (PT g 0), .quiet (PT g 0), .quiet (N n), .call (.tuple #[N r, .bool false]), .quiet (.tuple #[N r, .bool false]), .quiet (N r), .quiet (.bool false), .made zero6 33, .laid 9 zero6 (cells6 r), .quiet (.bool false)] (sB H3) ?ho4 ?he4 (hL := ?hL4)
  case hL4 => exact ⟨⟨_, rfl⟩, trivial⟩
  case ho4 => exact ak (fun γ => ⟨rfl, fun w' h => ex_load6 h 0 rfl rfl rfl rfl⟩) (ak (fun _ => ⟨rfl, fun _ _ => rfl⟩) (ak (by refine fun γ => ⟨rfl, fun w' h => ?_⟩; clear h; go_simp) (ak (by refine fun γ => ⟨rfl, fun w' h => ?_⟩; clear h; go_simp) (ak (fun γ => ⟨rfl, fun w' h => ex_load6 h 2 rfl rfl rfl rfl⟩) (ak (fun γ => ⟨rfl, fun w' h => ⟨53, #[N a, N n], exec_call rfl call53 rfl (mpn rfl), C2.out w'⟩⟩) (ak (fun _ => ⟨rfl, fun _ _ => rfl⟩) (ak (by refine fun γ => ⟨rfl, fun w' h => ?_⟩; clear h; go_simp) (ak (by refine fun γ => ⟨rfl, fun w' h => ?_⟩; clear h; go_simp) (ak (fun γ => ⟨rfl, fun w' => exec_made6 rfl⟩) (ak (fun γ => ⟨rfl, rfl, rfl, fun w' h => exec_laid6 h rfl rfl rfl⟩) (ak (fun _ => ⟨rfl, fun _ _ => rfl⟩) trivial)))))))))))
  intro γ w4 l hM hl
  have M4 : Mm w4 [(γ 9, cells6 r), (γ1_0, cells6 a), (γ1_1, zero6), (g, modx n o s)] := H3.out.1.grow hM (Nat.le_refl _) hl [9] rfl (by decide)
  have B4 : Below w.heap.size w w4 := H3.out.2.trans ((hM.below).mono H3.out.2.size)
  have o4_9 : Hid (w.heap.size ≤ γ 9) := Nat.le_trans H3.out.2.size (hM.fin (Nat.le_refl _) hl (i := 9) rfl).2.1
  clear hM hl l H3
  generalize γ 9 = γ4_9 at M4 o4_9 ⊢
  clear γ
  have H4 : Hid (_ ∧ _) := ⟨M4, B4⟩
  clear M4 B4
  refine rest0 rfl (then_normal (wp_seq (wp_seq ?_)))
  refine walk_anyA 7 [.quiet (N r), .quiet (PT g 0), .quiet (PT g 0), .quiet (PT g 0), .quiet (N n), .call (.int .i64 d), .quiet (.bool false)] (sB H4) ?ho5 ?he5
  case ho5 => exact ak (fun γ => ⟨rfl, fun w' h => ex_load6 h 0 rfl rfl rfl rfl⟩) (ak (fun _ => ⟨rfl, fun _ _ => rfl⟩) (ak (by refine fun γ => ⟨rfl, fun w' h => ?_⟩; clear h; go_simp) (ak (by refine fun γ => ⟨rfl, fun w' h => ?_⟩; clear h; go_simp) (ak (fun γ => ⟨rfl, fun w' h => ex_load6 h 3 rfl rfl rfl rfl⟩) (ak (fun γ => ⟨rfl, fun w' h => ⟨69, #[N r, N n], exec_call rfl call69 rfl (mpn rfl), C3.out w'⟩⟩) (ak (by refine fun γ => ⟨rfl, fun w' h => ?_⟩; clear h; go_simp) trivial))))))
  intro γ w5 l hM hl
  have M5 : Mm w5 [(γ4_9, cells6 r), (γ1_0, cells6 a), (γ1_1, zero6), (g, modx n o s)] := H4.out.1.grow hM (Nat.le_refl _) hl [] rfl (by decide)
  have B5 : Below w.heap.size w w5 := H4.out.2.trans ((hM.below).mono H4.out.2.size)
  clear hM hl l H4
  clear γ
  have H5 : Hid (_ ∧ _) := ⟨M5, B5⟩
  clear M5 B5
  refine rest0 rfl (then_normal (wp_cond_false rfl ?_))
  refine wp_skip (then_normal (wp_seq ?_))
  refine walk_anyA 7 [.quiet (PT g 0), .quiet (N r), .quiet (PT g 0), .quiet (PT g 0), .quiet (PT g 7), .quiet (N o), .call (N x)] (sB H5) ?ho6 ?he6
  case ho6 => exact ak (fun _ => ⟨rfl, fun _ _ => rfl⟩) (ak (fun γ => ⟨rfl, fun w' h => ex_load6 h 0 rfl rfl rfl rfl⟩) (ak (fun _ => ⟨rfl, fun _ _ => rfl⟩) (ak (by refine fun γ => ⟨rfl, fun w' h => ?_⟩; clear h; go_simp) (ak (by refine fun γ => ⟨rfl, fun w' h => ?_⟩; clear h; go_simp) (ak (fun γ => ⟨rfl, fun w' h => ex_load6 h 3 rfl rfl rfl rfl⟩) (ak (fun γ => ⟨rfl, fun w' h => ⟨52, #[PT g 0, N r, N o], exec_call rfl call52 rfl (mpn rfl), C4.out w' (h.one 3 rfl)⟩⟩) trivial))))))
  intro γ w6 l hM hl
  have M6 : Mm w6 [(γ4_9, cells6 r), (γ1_0, cells6 a), (γ1_1, zero6), (g, modx n o s)] := H5.out.1.grow hM (Nat.le_refl _) hl [] rfl (by decide)
  have B6 : Below w.heap.size w w6 := H5.out.2.trans ((hM.below).mono H5.out.2.size)
  clear hM hl l H5
  clear γ
  have H6 : Hid (_ ∧ _) := ⟨M6, B6⟩
  clear M6 B6
  refine rest_at (l := [7]) rfl ?_
  refine rest_store rfl rfl rfl (ex_store6 H6.out.1 2 rfl rfl rfl rfl (Nat.le_of_ble_eq_true rfl)) ?_
  have H7 : Hid (Mm (w6.setCells γ1_1 0 (cells6 x)) [(γ4_9, cells6 r), (γ1_0, cells6 a), (γ1_1, cells6 x), (g, modx n o s)] ∧ Below w.heap.size w (w6.setCells γ1_1 0 (cells6 x))) := ⟨H6.out.1.put 2 (off := 0) (vs := cells6 x) rfl (Nat.le_of_ble_eq_true rfl), below_setCells _ o1_1.out _ _ _ H6.out.2⟩
  clear H6
  generalize hgw : World.setCells _ _ _ _ = w7 at H7 ⊢
  clear hgw
  refine rest_nil (then_normal (wp_ret ?_))
  repeat (first | refine then_ret ?_ | refine block_ret ?_)
  have c0 := H7.out.1.get 2 rfl 0 rfl
  have c1 := H7.out.1.get 2 rfl 1 rfl
  have c2 := H7.out.1.get 2 rfl 2 rfl
  have c3 := H7.out.1.get 2 rfl 3 rfl
  have c4 := H7.out.1.get 2 rfl 4 rfl
  have c5 := H7.out.1.get 2 rfl 5 rfl
  refine bodyPost_ret (v := N x) (by simp [results, Tryd.results54, go_sem, *]) rfl ?_
  exact ⟨rfl, H7.out.2⟩
set_option maxRecDepth 100000 in
theorem add_1 (g n o s a b u r : Nat)
    (c0 : ∀ w, Mm w [(g, modx n o s)] → Calls Tryd.prog 51 #[PT g 0] w fun e w' => e = .returned (.bool true) ∧ Below w.heap.size w w')
    (c1 : ∀ w, Calls Tryd.prog 55 #[N a, N b] w fun e w' => e = .returned (.tuple #[N u, .bool false]) ∧ Below w.heap.size w w')
    (c2 : ∀ w, Mm w [(g, modx n o s)] → Calls Tryd.prog 54 #[PT g 0, N u] w fun e w' => e = .returned (N r) ∧ Below w.heap.size w w') (w : World) (hm : Mm w [(g, modx n o s)]) :
    Calls Tryd.prog 43 #[PT g 0, N a, N b] w fun e w' => e = .returned (N r) ∧ Below w.heap.size w w' := by
  have H0 : Hid (_ ∧ _) := ⟨hm, Below.refl w.heap.size w⟩
  clear hm
  have C0 : Hid _ := c0
  have C1 : Hid _ := c1
  have C2 : Hid _ := c2
  clear c0 c1 c2
  go_enter Tryd.func43, Tryd.ntmps43
  refine wp_seq ?_
  refine walk_seqA 3 [.made (cells6 a) 33, .made (cells6 b) 33, .made zero6 33] (sB H0) ?ho1 ?he1
  case ho1 => exact ak (fun γ => ⟨rfl, fun w' => ex_box6 rfl rfl⟩) (ak (fun γ => ⟨rfl, fun w' => ex_box6 rfl rfl⟩) (ak (fun γ => ⟨rfl, fun w' => exec_made6 rfl⟩) trivial))
  intro γ w1 l hM hl
  have M1 : Mm w1 [(γ 0, cells6 a), (γ 1, cells6 b), (γ 2, zero6), (g, modx n o s)] := H0.out.1.grow hM (Nat.le_refl _) hl [0, 1, 2] rfl (by decide)
  have B1 : Below w.heap.size w w1 := H0.out.2.trans ((hM.below).mono H0.out.2.size)
  have o1_0 : Hid (w.heap.size ≤ γ 0) := Nat.le_trans H0.out.2.size (hM.fin (Nat.le_refl _) hl (i := 0) rfl).2.1
  have o1_1 : Hid (w.heap.size ≤ γ 1) := Nat.le_trans H0.out.2.size (hM.fin (Nat.le_refl _) hl (i := 1) rfl).2.1
  have o1_2 : Hid (w.heap.size ≤ γ 2) := Nat.le_trans H0.out.2.size (hM.fin (Nat.le_refl _) hl (i := 2) rfl).2.1
  clear hM hl l
  generalize γ 0 = γ1_0 at M1 o1_0 ⊢
  generalize γ 1 = γ1_1 at M1 o1_1 ⊢
  generalize γ 2 = γ1_2 at M1 o1_2 ⊢
  clear γ
  have H1 : Hid (_ ∧ _) := ⟨M1, B1⟩
  clear M1 B1
  refine rest0 rfl (then_normal (wp_seq (wp_seq ?_)))
  refine walk_seqA 3 [.quiet (PT g 0), .call (.bool true), .quiet (.bool false)] (sB H1) ?ho2 ?he2
  case ho2 => exact ak (fun _ => ⟨rfl, fun _ _ => rfl⟩) (ak (fun γ => ⟨rfl, fun w' h => ⟨51, #[PT g 0], exec_call rfl call51 rfl (mpn rfl), C0.out w' (h.one 3 rfl)⟩⟩) (ak (by refine fun γ => ⟨rfl, fun w' h => ?_⟩; clear h; go_simp) trivial))
  intro γ w2 l hM hl
  have M2 : Mm w2 [(γ1_0, cells6 a), (γ1_1, cells6 b), (γ1_2, zero6), (g, modx n o s)] := H1.out.1.grow hM (Nat.le_refl _) hl [] rfl (by decide)
  have B2 : Below w.heap.size w w2 := H1.out.2.trans ((hM.below).mono H1.out.2.size)
  clear hM hl l H1
  clear γ
  have H2 : Hid (_ ∧ _) := ⟨M2, B2⟩
  clear M2 B2
  refine rest0 rfl (then_normal (wp_cond_false rfl ?_))
  refine wp_skip (then_normal (wp_seq ?_))
  refine walk_seqA 9 [.quiet (N a), .quiet (N b), .call (.tuple #[N u, .bool false]), .quiet (.tuple #[N u, .bool false]), .quiet (N u), .quiet (.bool false), .made zero6 33, .laid 6 zero6 (cells6 u), .quiet (.bool false)] (sB H2) ?ho3 ?he3 (hL := ?hL3)
  case hL3 => exact ⟨⟨_, rfl⟩, trivial⟩
  case ho3 => exact ak (fun γ => ⟨rfl, fun w' h => ex_load6 h 0 rfl rfl rfl rfl⟩) (ak (fun γ => ⟨rfl, fun w' h => ex_load6 h 1 rfl rfl rfl rfl⟩) (ak (fun γ => ⟨rfl, fun w' h => ⟨55, #[N a, N b], exec_call rfl call55 rfl (mpn rfl), C1.out w'⟩⟩) (ak (fun _ => ⟨rfl, fun _ _ => rfl⟩) (ak (by refine fun γ => ⟨rfl, fun w' h => ?_⟩; clear h; go_simp) (ak (by refine fun γ => ⟨rfl, fun w' h => ?_⟩; clear h; go_simp) (ak (fun γ => ⟨rfl, fun w' => exec_made6 rfl⟩) (ak (fun γ => ⟨rfl, rfl, rfl, fun w' h => exec_laid6 h rfl rfl rfl⟩) (ak (fun _ => ⟨rfl, fun _ _ => rfl⟩) trivial))))))))
  intro γ w3 l hM hl
  have M3 : Mm w3 [(γ 6, cells6 u), (γ1_0, cells6 a), (γ1_1, cells6 b), (γ1_2, zero6), (g, modx n o s)] := H2.out.1.grow hM (Nat.le_refl _) hl [6] rfl (by decide)
  have B3 : Below w.heap.size w w3 := H2.out.2.trans ((hM.below).mono H2.out.2.size)
  have o3_6 : Hid (w.heap.size ≤ γ 6) := Nat.le_trans H2.out.2.size (hM.fin (Nat.le_refl _) hl (i := 6) rfl).2.1
  clear hM hl l H2
  generalize γ 6 = γ3_6 at M3 o3_6 ⊢
  clear γ
  have H3 : Hid (_ ∧ _) := ⟨M3, B3⟩
  clear M3 B3
  refine rest0 rfl (then_normal (wp_seq (wp_seq ?_)))
  refine walk_seqA 1 [.quiet (.bool false)] (sB H3) ?ho4 ?he4
  case ho4 => exact ak (fun _ => ⟨rfl, fun _ _ => rfl⟩) trivial
  intro γ w4 l hM hl
  have M4 : Mm w4 [(γ3_6, cells6 u), (γ1_0, cells6 a), (γ1_1, cells6 b), (γ1_2, zero6), (g, modx n o s)] := H3.out.1.grow hM (Nat.le_refl _) hl [] rfl (by decide)
  have B4 : Below w.heap.size w w4 := H3.out.2.trans ((hM.below).mono H3.out.2.size)
  clear hM hl l H3
  clear γ
  have H4 : Hid (_ ∧ _) := ⟨M4, B4⟩
  clear M4 B4
  refine rest0 rfl (then_normal (wp_cond_false rfl ?_))
  refine wp_skip (then_normal (wp_seq ?_))
  refine walk_seqA 3 [.quiet (PT g 0), .quiet (N u), .call (N r)] (sB H4) ?ho5 ?he5
  case ho5 => exact ak (fun _ => ⟨rfl, fun _ _ => rfl⟩) (ak (fun γ => ⟨rfl, fun w' h => ex_load6 h 0 rfl rfl rfl rfl⟩) (ak (fun γ => ⟨rfl, fun w' h => ⟨54, #[PT g 0, N u], exec_call rfl call54 rfl (mpn rfl), C2.out w' (h.one 4 rfl)⟩⟩) trivial))
  intro γ w5 l hM hl
  have M5 : Mm w5 [(γ3_6, cells6 u), (γ1_0, cells6 a), (γ1_1, cells6 b), (γ1_2, zero6), (g, modx n o s)] := H4.out.1.grow hM (Nat.le_refl _) hl [] rfl (by decide)
  have B5 : Below w.heap.size w w5 := H4.out.2.trans ((hM.below).mono H4.out.2.size)
  clear hM hl l H4
  clear γ
  have H5 : Hid (_ ∧ _) := ⟨M5, B5⟩
  clear M5 B5
  refine rest_at (l := [3]) rfl ?_
  refine rest_store rfl rfl rfl (ex_store6 H5.out.1 3 rfl rfl rfl rfl (Nat.le_of_ble_eq_true rfl)) ?_
  have H6 : Hid (Mm (w5.setCells γ1_2 0 (cells6 r)) [(γ3_6, cells6 u), (γ1_0, cells6 a), (γ1_1, cells6 b), (γ1_2, cells6 r), (g, modx n o s)] ∧ Below w.heap.size w (w5.setCells γ1_2 0 (cells6 r))) := ⟨H5.out.1.put 3 (off := 0) (vs := cells6 r) rfl (Nat.le_of_ble_eq_true rfl), below_setCells _ o1_2.out _ _ _ H5.out.2⟩
  clear H5
  generalize hgw : World.setCells _ _ _ _ = w6 at H6 ⊢
  clear hgw
  refine rest_nil (then_normal (wp_ret ?_))
  repeat (first | refine then_ret ?_ | refine block_ret ?_)
  have c0 := H6.out.1.get 3 rfl 0 rfl
  have c1 := H6.out.1.get 3 rfl 1 rfl
  have c2 := H6.out.1.get 3 rfl 2 rfl
  have c3 := H6.out.1.get 3 rfl 3 rfl
  have c4 := H6.out.1.get 3 rfl 4 rfl
  have c5 := H6.out.1.get 3 rfl 5 rfl
  refine bodyPost_ret (v := N r) (by simp [results, Tryd.results43, go_sem, *]) rfl ?_
  exact ⟨rfl, H6.out.2⟩
set_option maxRecDepth 100000 in
theorem add_2 (g n o s a b u x y v r : Nat)
    (c0 : ∀ w, Mm w [(g, modx n o s)] → Calls Tryd.prog 51 #[PT g 0] w fun e w' => e = .returned (.bool true) ∧ Below w.heap.size w w')
    (c1 : ∀ w, Calls Tryd.prog 55 #[N a, N b] w fun e w' => e = .returned (.tuple #[N u, .bool true]) ∧ Below w.heap.size w w')
    (c2 : ∀ w, Mm w [(g, modx n o s)] → Calls Tryd.prog 54 #[PT g 0, N a] w fun e w' => e = .returned (N x) ∧ Below w.heap.size w w')
    (c3 : ∀ w, Mm w [(g, modx n o s)] → Calls Tryd.prog 54 #[PT g 0, N b] w fun e w' => e = .returned (N y) ∧ Below w.heap.size w w')
    (c4 : ∀ w, Calls Tryd.prog 55 #[N x, N y] w fun e w' => e = .returned (.tuple #[N v, .bool false]) ∧ Below w.heap.size w w')
    (c5 : ∀ w, Mm w [(g, modx n o s)] → Calls Tryd.prog 54 #[PT g 0, N v] w fun e w' => e = .returned (N r) ∧ Below w.heap.size w w') (w : World) (hm : Mm w [(g, modx n o s)]) :
    Calls Tryd.prog 43 #[PT g 0, N a, N b] w fun e w' => e = .returned (N r) ∧ Below w.heap.size w w' := by
  have H0 : Hid (_ ∧ _) := ⟨hm, Below.refl w.heap.size w⟩
  clear hm
  have C0 : Hid _ := c0
  have C1 : Hid _ := c1
  have C2 : Hid _ := c2
  have C3 : Hid _ := c3
  have C4 : Hid _ := c4
  have C5 : Hid _ := c5
  clear c0 c1 c2 c3 c4 c5
  go_enter Tryd.func43, Tryd.ntmps43
  refine wp_seq ?_
  refine walk_seqA 3 [.made (cells6 a) 33, .made (cells6 b) 33, .made zero6 33] (sB H0) ?ho1 ?he1
  case ho1 => exact ak (fun γ => ⟨rfl, fun w' => ex_box6 rfl rfl⟩) (ak (fun γ => ⟨rfl, fun w' => ex_box6 rfl rfl⟩) (ak (fun γ => ⟨rfl, fun w' => exec_made6 rfl⟩) trivial))
  intro γ w1 l hM hl
  have M1 : Mm w1 [(γ 0, cells6 a), (γ 1, cells6 b), (γ 2, zero6), (g, modx n o s)] := H0.out.1.grow hM (Nat.le_refl _) hl [0, 1, 2] rfl (by decide)
  have B1 : Below w.heap.size w w1 := H0.out.2.trans ((hM.below).mono H0.out.2.size)
  have o1_0 : Hid (w.heap.size ≤ γ 0) := Nat.le_trans H0.out.2.size (hM.fin (Nat.le_refl _) hl (i := 0) rfl).2.1
  have o1_1 : Hid (w.heap.size ≤ γ 1) := Nat.le_trans H0.out.2.size (hM.fin (Nat.le_refl _) hl (i := 1) rfl).2.1
  have o1_2 : Hid (w.heap.size ≤ γ 2) := Nat.le_trans H0.out.2.size (hM.fin (Nat.le_refl _) hl (i := 2) rfl).2.1
  clear hM hl l
  generalize γ 0 = γ1_0 at M1 o1_0 ⊢
  generalize γ 1 = γ1_1 at M1 o1_1 ⊢
  generalize γ 2 = γ1_2 at M1 o1_2 ⊢
  clear γ
  have H1 : Hid (_ ∧ _) := ⟨M1, B1⟩
  clear M1 B1
  refine rest0 rfl (then_normal (wp_seq (wp_seq ?_)))
  refine walk_seqA 3 [.quiet (PT g 0), .call (.bool true), .quiet (.bool false)] (sB H1) ?ho2 ?he2
  case ho2 => exact ak (fun _ => ⟨rfl, fun _ _ => rfl⟩) (ak (fun γ => ⟨rfl, fun w' h => ⟨51, #[PT g 0], exec_call rfl call51 rfl (mpn rfl), C0.out w' (h.one 3 rfl)⟩⟩) (ak (by refine fun γ => ⟨rfl, fun w' h => ?_⟩; clear h; go_simp) trivial))
  intro γ w2 l hM hl
  have M2 : Mm w2 [(γ1_0, cells6 a), (γ1_1, cells6 b), (γ1_2, zero6), (g, modx n o s)] := H1.out.1.grow hM (Nat.le_refl _) hl [] rfl (by decide)
  have B2 : Below w.heap.size w w2 := H1.out.2.trans ((hM.below).mono H1.out.2.size)
  clear hM hl l H1
  clear γ
  have H2 : Hid (_ ∧ _) := ⟨M2, B2⟩
  clear M2 B2
  refine rest0 rfl (then_normal (wp_cond_false rfl ?_))
  refine wp_skip (then_normal (wp_seq ?_))
  refine walk_seqA 9 [.quiet (N a), .quiet (N b), .call (.tuple #[N u, .bool true]), .quiet (.tuple #[N u, .bool true]), .quiet (N u), .quiet (.bool true), .made zero6 33, .laid 6 zero6 (cells6 u), .quiet (.bool true)] (sB H2) ?ho3 ?he3 (hL := ?hL3)
  case hL3 => exact ⟨⟨_, rfl⟩, trivial⟩
  case ho3 => exact ak (fun γ => ⟨rfl, fun w' h => ex_load6 h 0 rfl rfl rfl rfl⟩) (ak (fun γ => ⟨rfl, fun w' h => ex_load6 h 1 rfl rfl rfl rfl⟩) (ak (fun γ => ⟨rfl, fun w' h => ⟨55, #[N a, N b], exec_call rfl call55 rfl (mpn rfl), C1.out w'⟩⟩) (ak (fun _ => ⟨rfl, fun _ _ => rfl⟩) (ak (by refine fun γ => ⟨rfl, fun w' h => ?_⟩; clear h; go_simp) (ak (by refine fun γ => ⟨rfl, fun w' h => ?_⟩; clear h; go_simp) (ak (fun γ => ⟨rfl, fun w' => exec_made6 rfl⟩) (ak (fun γ => ⟨rfl, rfl, rfl, fun w' h => exec_laid6 h rfl rfl rfl⟩) (ak (fun _ => ⟨rfl, fun _ _ => rfl⟩) trivial))))))))
  intro γ w3 l hM hl
  have M3 : Mm w3 [(γ 6, cells6 u), (γ1_0, cells6 a), (γ1_1, cells6 b), (γ1_2, zero6), (g, modx n o s)] := H2.out.1.grow hM (Nat.le_refl _) hl [6] rfl (by decide)
  have B3 : Below w.heap.size w w3 := H2.out.2.trans ((hM.below).mono H2.out.2.size)
  have o3_6 : Hid (w.heap.size ≤ γ 6) := Nat.le_trans H2.out.2.size (hM.fin (Nat.le_refl _) hl (i := 6) rfl).2.1
  clear hM hl l H2
  generalize γ 6 = γ3_6 at M3 o3_6 ⊢
  clear γ
  have H3 : Hid (_ ∧ _) := ⟨M3, B3⟩
  clear M3 B3
  refine rest0 rfl (then_normal (wp_seq (wp_seq ?_)))
  refine walk_seqA 1 [.quiet (.bool true)] (sB H3) ?ho4 ?he4
  case ho4 => exact ak (fun _ => ⟨rfl, fun _ _ => rfl⟩) trivial
  intro γ w4 l hM hl
  have M4 : Mm w4 [(γ3_6, cells6 u), (γ1_0, cells6 a), (γ1_1, cells6 b), (γ1_2, zero6), (g, modx n o s)] := H3.out.1.grow hM (Nat.le_refl _) hl [] rfl (by decide)
  have B4 : Below w.heap.size w w4 := H3.out.2.trans ((hM.below).mono H3.out.2.size)
  clear hM hl l H3
  clear γ
  have H4 : Hid (_ ∧ _) := ⟨M4, B4⟩
  clear M4 B4
  refine rest0 rfl (then_normal (wp_cond_true rfl ?_))
  refine walk_put (by kernel_rfl) 10 [9] [.quiet (PT g 0), .quiet (N a), .call (N x), .quiet (PT g 0), .quiet (N b), .call (N y), .call (.tuple #[N v, .bool false]), .quiet (.tuple #[N v, .bool false]), .quiet (N v), .quiet (.bool false)] _ ?pre5 ?F5 _ ?hpre5 (fun γ => ?hF5) (by kernel_rfl) rfl trivial (sB H4) ?ho5 ?hla5 ?he5
  case hpre5 => simp only [tk, tz]; rfl
  case hF5 => simp only [fill, Kind.val, Act.put, sa, sz, ss]; rfl
  case ho5 =>
    refine ak (fun _ => ⟨rfl, fun _ _ => rfl⟩) ?_
    refine ak (fun γ => ⟨rfl, fun w' h => ex_load6 h 1 rfl rfl rfl rfl⟩) ?_
    refine ak (fun γ => ⟨rfl, fun w' h => ⟨54, #[PT g 0, N a], exec_call rfl call54 rfl (mpn rfl), C2.out w' (h.one 4 rfl)⟩⟩) ?_
    refine ak (fun _ => ⟨rfl, fun _ _ => rfl⟩) ?_
    refine ak (fun γ => ⟨rfl, fun w' h => ex_load6 h 2 rfl rfl rfl rfl⟩) ?_
    refine ak (fun γ => ⟨rfl, fun w' h => ⟨54, #[PT g 0, N b], exec_call rfl call54 rfl (mpn rfl), C3.out w' (h.one 4 rfl)⟩⟩) ?_
    refine ak (fun γ => ⟨rfl, fun w' h => ⟨55, #[N x, N y], exec_call rfl call55 rfl (mpn rfl), C4.out w'⟩⟩) ?_
    refine ak (fun _ => ⟨rfl, fun _ _ => rfl⟩) ?_
    refine ak (by refine fun γ => ⟨rfl, fun w' h => ?_⟩; clear h; go_simp) ?_
    refine ak (by refine fun γ => ⟨rfl, fun w' h => ?_⟩; clear h; go_simp) ?_
    exact trivial
  case hla5 => exact ⟨⟨_, _, rfl, rfl, fun γ => ⟨rfl, fun w' => by go_simp⟩⟩, trivial⟩
  intro γ w5 l hM hl
  have M5 : Mm w5 [(γ3_6, cells6 u), (γ1_0, cells6 a), (γ1_1, cells6 b), (γ1_2, zero6), (g, modx n o s)] := H4.out.1.grow hM (Nat.le_refl _) hl [] rfl (by decide)
  have B5 : Below w.heap.size w w5 := H4.out.2.trans ((hM.below).mono H4.out.2.size)
  clear hM hl l H4
  clear γ
  have H5 : Hid (_ ∧ _) := ⟨M5, B5⟩
  clear M5 B5
  refine ⟨_, ex_store6 H5.out.1 0 rfl rfl rfl rfl (Nat.le_of_ble_eq_true rfl), ?_⟩
  have H6 : Hid (Mm (w5.setCells γ3_6 0 (cells6 v)) [(γ3_6, cells6 v), (γ1_0, cells6 a), (γ1_1, cells6 b), (γ1_2, zero6), (g, modx n o s)] ∧ Below w.heap.size w (w5.setCells γ3_6 0 (cells6 v))) := ⟨H5.out.1.put 0 (off := 0) (vs := cells6 v) rfl (Nat.le_of_ble_eq_true rfl), below_setCells _ o3_6.out _ _ _ H5.out.2⟩
  clear H5
  generalize hgw : World.setCells _ _ _ _ = w6 at H6 ⊢
  clear hgw
  refine rest0 rfl (then_normal (wp_seq ?_))
  refine walk_seqA 3 [.quiet (PT g 0), .quiet (N v), .call (N r)] (sB H6) ?ho6 ?he6
  case ho6 => exact ak (fun _ => ⟨rfl, fun _ _ => rfl⟩) (ak (fun γ => ⟨rfl, fun w' h => ex_load6 h 0 rfl rfl rfl rfl⟩) (ak (fun γ => ⟨rfl, fun w' h => ⟨54, #[PT g 0, N v], exec_call rfl call54 rfl (mpn rfl), C5.out w' (h.one 4 rfl)⟩⟩) trivial))
  intro γ w7 l hM hl
  have M7 : Mm w7 [(γ3_6, cells6 v), (γ1_0, cells6 a), (γ1_1, cells6 b), (γ1_2, zero6), (g, modx n o s)] := H6.out.1.grow hM (Nat.le_refl _) hl [] rfl (by decide)
  have B7 : Below w.heap.size w w7 := H6.out.2.trans ((hM.below).mono H6.out.2.size)
  clear hM hl l H6
  clear γ
  have H7 : Hid (_ ∧ _) := ⟨M7, B7⟩
  clear M7 B7
  refine rest_at (l := [3]) rfl ?_
  refine rest_store rfl rfl rfl (ex_store6 H7.out.1 3 rfl rfl rfl rfl (Nat.le_of_ble_eq_true rfl)) ?_
  have H8 : Hid (Mm (w7.setCells γ1_2 0 (cells6 r)) [(γ3_6, cells6 v), (γ1_0, cells6 a), (γ1_1, cells6 b), (γ1_2, cells6 r), (g, modx n o s)] ∧ Below w.heap.size w (w7.setCells γ1_2 0 (cells6 r))) := ⟨H7.out.1.put 3 (off := 0) (vs := cells6 r) rfl (Nat.le_of_ble_eq_true rfl), below_setCells _ o1_2.out _ _ _ H7.out.2⟩
  clear H7
  generalize hgw : World.setCells _ _ _ _ = w8 at H8 ⊢
  clear hgw
  refine rest_nil (then_normal (wp_ret ?_))
  repeat (first | refine then_ret ?_ | refine block_ret ?_)
  have c0 := H8.out.1.get 3 rfl 0 rfl
  have c1 := H8.out.1.get 3 rfl 1 rfl
  have c2 := H8.out.1.get 3 rfl 2 rfl
  have c3 := H8.out.1.get 3 rfl 3 rfl
  have c4 := H8.out.1.get 3 rfl 4 rfl
  have c5 := H8.out.1.get 3 rfl 5 rfl
  refine bodyPost_ret (v := N r) (by simp [results, Tryd.results43, go_sem, *]) rfl ?_
  exact ⟨rfl, H8.out.2⟩
set_option maxRecDepth 100000 in
theorem sub_1 (g n o s a b u r : Nat)
    (c0 : ∀ w, Mm w [(g, modx n o s)] → Calls Tryd.prog 51 #[PT g 0] w fun e w' => e = .returned (.bool true) ∧ Below w.heap.size w w')
    (c1 : ∀ w, Calls Tryd.prog 53 #[N a, N b] w fun e w' => e = .returned (.tuple #[N u, .bool false]) ∧ Below w.heap.size w w')
    (c2 : ∀ w, Mm w [(g, modx n o s)] → Calls Tryd.prog 54 #[PT g 0, N u] w fun e w' => e = .returned (N r) ∧ Below w.heap.size w w') (w : World) (hm : Mm w [(g, modx n o s)]) :
    Calls Tryd.prog 31 #[PT g 0, N a, N b] w fun e w' => e = .returned (N r) ∧ Below w.heap.size w w' := by
  have H0 : Hid (_ ∧ _) := ⟨hm, Below.refl w.heap.size w⟩
  clear hm
  have C0 : Hid _ := c0
  have C1 : Hid _ := c1
  have C2 : Hid _ := c2
  clear c0 c1 c2
  go_enter Tryd.func31, Tryd.ntmps31
  refine wp_seq ?_
  refine walk_seqA 3 [.made (cells6 a) 33, .made (cells6 b) 33, .made zero6 33] (sB H0) ?ho1 ?he1
  case ho1 => exact ak (fun γ => ⟨rfl, fun w' => ex_box6 rfl rfl⟩) (ak (fun γ => ⟨rfl, fun w' => ex_box6 rfl rfl⟩) (ak (fun γ => ⟨rfl, fun w' => exec_made6 rfl⟩) trivial))
  intro γ w1 l hM hl
  have M1 : Mm w1 [(γ 0, cells6 a), (γ 1, cells6 b), (γ 2, zero6), (g, modx n o s)] := H0.out.1.grow hM (Nat.le_refl _) hl [0, 1, 2] rfl (by decide)
  have B1 : Below w.heap.size w w1 := H0.out.2.trans ((hM.below).mono H0.out.2.size)
  have o1_0 : Hid (w.heap.size ≤ γ 0) := Nat.le_trans H0.out.2.size (hM.fin (Nat.le_refl _) hl (i := 0) rfl).2.1
  have o1_1 : Hid (w.heap.size ≤ γ 1) := Nat.le_trans H0.out.2.size (hM.fin (Nat.le_refl _) hl (i := 1) rfl).2.1
  have o1_2 : Hid (w.heap.size ≤ γ 2) := Nat.le_trans H0.out.2.size (hM.fin (Nat.le_refl _) hl (i := 2) rfl).2.1
  clear hM hl l
  generalize γ 0 = γ1_0 at M1 o1_0 ⊢
  generalize γ 1 = γ1_1 at M1 o1_1 ⊢
  generalize γ 2 = γ1_2 at M1 o1_2 ⊢
  clear γ
  have H1 : Hid (_ ∧ _) := ⟨M1, B1⟩
  clear M1 B1
  refine rest0 rfl (then_normal (wp_seq (wp_seq ?_)))
  refine walk_seqA 3 [.quiet (PT g 0), .call (.bool true), .quiet (.bool false)] (sB H1) ?ho2 ?he2
  case ho2 => exact ak (fun _ => ⟨rfl, fun _ _ => rfl⟩) (ak (fun γ => ⟨rfl, fun w' h => ⟨51, #[PT g 0], exec_call rfl call51 rfl (mpn rfl), C0.out w' (h.one 3 rfl)⟩⟩) (ak (by refine fun γ => ⟨rfl, fun w' h => ?_⟩; clear h; go_simp) trivial))
  intro γ w2 l hM hl
  have M2 : Mm w2 [(γ1_0, cells6 a), (γ1_1, cells6 b), (γ1_2, zero6), (g, modx n o s)] := H1.out.1.grow hM (Nat.le_refl _) hl [] rfl (by decide)
  have B2 : Below w.heap.size w w2 := H1.out.2.trans ((hM.below).mono H1.out.2.size)
  clear hM hl l H1
  clear γ
  have H2 : Hid (_ ∧ _) := ⟨M2, B2⟩
  clear M2 B2
  refine rest0 rfl (then_normal (wp_cond_false rfl ?_))
  refine wp_skip (then_normal (wp_seq ?_))
  refine walk_seqA 9 [.quiet (N a), .quiet (N b), .call (.tuple #[N u, .bool false]), .quiet (.tuple #[N u, .bool false]), .quiet (N u), .quiet (.bool false), .made zero6 33, .laid 6 zero6 (cells6 u), .quiet (.bool false)] (sB H2) ?ho3 ?he3 (hL := ?hL3)
  case hL3 => exact ⟨⟨_, rfl⟩, trivial⟩
  case ho3 => exact ak (fun γ => ⟨rfl, fun w' h => ex_load6 h 0 rfl rfl rfl rfl⟩) (ak (fun γ => ⟨rfl, fun w' h => ex_load6 h 1 rfl rfl rfl rfl⟩) (ak (fun γ => ⟨rfl, fun w' h => ⟨53, #[N a, N b], exec_call rfl call53 rfl (mpn rfl), C1.out w'⟩⟩) (ak (fun _ => ⟨rfl, fun _ _ => rfl⟩) (ak (by refine fun γ => ⟨rfl, fun w' h => ?_⟩; clear h; go_simp) (ak (by refine fun γ => ⟨rfl, fun w' h => ?_⟩; clear h; go_simp) (ak (fun γ => ⟨rfl, fun w' => exec_made6 rfl⟩) (ak (fun γ => ⟨rfl, rfl, rfl, fun w' h => exec_laid6 h rfl rfl rfl⟩) (ak (fun _ => ⟨rfl, fun _ _ => rfl⟩) trivial))))))))
  intro γ w3 l hM hl
  have M3 : Mm w3 [(γ 6, cells6 u), (γ1_0, cells6 a), (γ1_1, cells6 b), (γ1_2, zero6), (g, modx n o s)] := H2.out.1.grow hM (Nat.le_refl _) hl [6] rfl (by decide)
  have B3 : Below w.heap.size w w3 := H2.out.2.trans ((hM.below).mono H2.out.2.size)
  have o3_6 : Hid (w.heap.size ≤ γ 6) := Nat.le_trans H2.out.2.size (hM.fin (Nat.le_refl _) hl (i := 6) rfl).2.1
  clear hM hl l H2
  generalize γ 6 = γ3_6 at M3 o3_6 ⊢
  clear γ
  have H3 : Hid (_ ∧ _) := ⟨M3, B3⟩
  clear M3 B3
  refine rest0 rfl (then_normal (wp_seq (wp_seq ?_)))
  refine walk_seqA 2 [.quiet (.bool false), .quiet (.bool true)] (sB H3) ?ho4 ?he4
  case ho4 => exact ak (fun _ => ⟨rfl, fun _ _ => rfl⟩) (ak (by refine fun γ => ⟨rfl, fun w' h => ?_⟩; clear h; go_simp) trivial)
  intro γ w4 l hM hl
  have M4 : Mm w4 [(γ3_6, cells6 u), (γ1_0, cells6 a), (γ1_1, cells6 b), (γ1_2, zero6), (g, modx n o s)] := H3.out.1.grow hM (Nat.le_refl _) hl [] rfl (by decide)
  have B4 : Below w.heap.size w w4 := H3.out.2.trans ((hM.below).mono H3.out.2.size)
  clear hM hl l H3
  clear γ
  have H4 : Hid (_ ∧ _) := ⟨M4, B4⟩
  clear M4 B4
  refine rest0 rfl (then_normal (wp_cond_true rfl (wp_seq ?_)))
  refine walk_seqA 3 [.quiet (PT g 0), .quiet (N u), .call (N r)] (sB H4) ?ho5 ?he5
  case ho5 => exact ak (fun _ => ⟨rfl, fun _ _ => rfl⟩) (ak (fun γ => ⟨rfl, fun w' h => ex_load6 h 0 rfl rfl rfl rfl⟩) (ak (fun γ => ⟨rfl, fun w' h => ⟨54, #[PT g 0, N u], exec_call rfl call54 rfl (mpn rfl), C2.out w' (h.one 4 rfl)⟩⟩) trivial))
  intro γ w5 l hM hl
  have M5 : Mm w5 [(γ3_6, cells6 u), (γ1_0, cells6 a), (γ1_1, cells6 b), (γ1_2, zero6), (g, modx n o s)] := H4.out.1.grow hM (Nat.le_refl _) hl [] rfl (by decide)
  have B5 : Below w.heap.size w w5 := H4.out.2.trans ((hM.below).mono H4.out.2.size)
  clear hM hl l H4
  clear γ
  have H5 : Hid (_ ∧ _) := ⟨M5, B5⟩
  clear M5 B5
  refine rest_at (l := [3]) rfl ?_
  refine rest_store rfl rfl rfl (ex_store6 H5.out.1 3 rfl rfl rfl rfl (Nat.le_of_ble_eq_true rfl)) ?_
  have H6 : Hid (Mm (w5.setCells γ1_2 0 (cells6 r)) [(γ3_6, cells6 u), (γ1_0, cells6 a), (γ1_1, cells6 b), (γ1_2, cells6 r), (g, modx n o s)] ∧ Below w.heap.size w (w5.setCells γ1_2 0 (cells6 r))) := ⟨H5.out.1.put 3 (off := 0) (vs := cells6 r) rfl (Nat.le_of_ble_eq_true rfl), below_setCells _ o1_2.out _ _ _ H5.out.2⟩
  clear H5
  generalize hgw : World.setCells _ _ _ _ = w6 at H6 ⊢
  clear hgw
  refine rest_nil (then_normal (wp_ret ?_))
  repeat (first | refine then_ret ?_ | refine block_ret ?_)
  have c0 := H6.out.1.get 3 rfl 0 rfl
  have c1 := H6.out.1.get 3 rfl 1 rfl
  have c2 := H6.out.1.get 3 rfl 2 rfl
  have c3 := H6.out.1.get 3 rfl 3 rfl
  have c4 := H6.out.1.get 3 rfl 4 rfl
  have c5 := H6.out.1.get 3 rfl 5 rfl
  refine bodyPost_ret (v := N r) (by simp [results, Tryd.results31, go_sem, *]) rfl ?_
  exact ⟨rfl, H6.out.2⟩
set_option maxRecDepth 100000 in
theorem sub_2 (g n o s a b u r : Nat)
    (c0 : ∀ w, Mm w [(g, modx n o s)] → Calls Tryd.prog 51 #[PT g 0] w fun e w' => e = .returned (.bool true) ∧ Below w.heap.size w w')
    (c1 : ∀ w, Calls Tryd.prog 53 #[N a, N b] w fun e w' => e = .returned (.tuple #[N u, .bool true]) ∧ Below w.heap.size w w')
    (c2 : ∀ w, Calls Tryd.prog 55 #[N u, N n] w fun e w' => e = .returned (.tuple #[N r, .bool true]) ∧ Below w.heap.size w w') (w : World) (hm : Mm w [(g, modx n o s)]) :
    Calls Tryd.prog 31 #[PT g 0, N a, N b] w fun e w' => e = .returned (N r) ∧ Below w.heap.size w w' := by
  have H0 : Hid (_ ∧ _) := ⟨hm, Below.refl w.heap.size w⟩
  clear hm
  have C0 : Hid _ := c0
  have C1 : Hid _ := c1
  have C2 : Hid _ := c2
  clear c0 c1 c2
  go_enter Tryd.func31, Tryd.ntmps31
  refine wp_seq ?_
  refine walk_seqA 3 [.made (cells6 a) 33, .made (cells6 b) 33, .made zero6 33] (sB H0) ?ho1 ?he1
  case ho1 => exact ak (fun γ => ⟨rfl, fun w' => ex_box6 rfl rfl⟩) (ak (fun γ => ⟨rfl, fun w' => ex_box6 rfl rfl⟩) (ak (fun γ => ⟨rfl, fun w' => exec_made6 rfl⟩) trivial))
  intro γ w1 l hM hl
  have M1 : Mm w1 [(γ 0, cells6 a), (γ 1, cells6 b), (γ 2, zero6), (g, modx n o s)] := H0.out.1.grow hM (Nat.le_refl _) hl [0, 1, 2] rfl (by decide)
  have B1 : Below w.heap.size w w1 := H0.out.2.trans ((hM.below).mono H0.out.2.size)
  have o1_0 : Hid (w.heap.size ≤ γ 0) := Nat.le_trans H0.out.2.size (hM.fin (Nat.le_refl _) hl (i := 0) rfl).2.1
  have o1_1 : Hid (w.heap.size ≤ γ 1) := Nat.le_trans H0.out.2.size (hM.fin (Nat.le_refl _) hl (i := 1) rfl).2.1
  have o1_2 : Hid (w.heap.size ≤ γ 2) := Nat.le_trans H0.out.2.size (hM.fin (Nat.le_refl _) hl (i := 2) rfl).2.1
  clear hM hl l
  generalize γ 0 = γ1_0 at M1 o1_0 ⊢
  generalize γ 1 = γ1_1 at M1 o1_1 ⊢
  generalize γ 2 = γ1_2 at M1 o1_2 ⊢
  clear γ
  have H1 : Hid (_ ∧ _) := ⟨M1, B1⟩
  clear M1 B1
  refine rest0 rfl (then_normal (wp_seq (wp_seq ?_)))
  refine walk_seqA 3 [.quiet (PT g 0), .call (.bool true), .quiet (.bool false)] (sB H1) ?ho2 ?he2
  case ho2 => exact ak (fun _ => ⟨rfl, fun _ _ => rfl⟩) (ak (fun γ => ⟨rfl, fun w' h => ⟨51, #[PT g 0], exec_call rfl call51 rfl (mpn rfl), C0.out w' (h.one 3 rfl)⟩⟩) (ak (by refine fun γ => ⟨rfl, fun w' h => ?_⟩; clear h; go_simp) trivial))
  intro γ w2 l hM hl
  have M2 : Mm w2 [(γ1_0, cells6 a), (γ1_1, cells6 b), (γ1_2, zero6), (g, modx n o s)] := H1.out.1.grow hM (Nat.le_refl _) hl [] rfl (by decide)
  have B2 : Below w.heap.size w w2 := H1.out.2.trans ((hM.below).mono H1.out.2.size)
  clear hM hl l H1
  clear γ
  have H2 : Hid (_ ∧ _) := ⟨M2, B2⟩
  clear M2 B2
  refine rest0 rfl (then_normal (wp_cond_false rfl ?_))
  refine wp_skip (then_normal (wp_seq ?_))
  refine walk_seqA 9 [.quiet (N a), .quiet (N b), .call (.tuple #[N u, .bool true]), .quiet (.tuple #[N u, .bool true]), .quiet (N u), .quiet (.bool true), .made zero6 33, .laid 6 zero6 (cells6 u), .quiet (.bool true)] (sB H2) ?ho3 ?he3 (hL := ?hL3)
  case hL3 => exact ⟨⟨_, rfl⟩, trivial⟩
  case ho3 => exact ak (fun γ => ⟨rfl, fun w' h => ex_load6 h 0 rfl rfl rfl rfl⟩) (ak (fun γ => ⟨rfl, fun w' h => ex_load6 h 1 rfl rfl rfl rfl⟩) (ak (fun γ => ⟨rfl, fun w' h => ⟨53, #[N a, N b], exec_call rfl call53 rfl (mpn rfl), C1.out w'⟩⟩) (ak (fun _ => ⟨rfl, fun _ _ => rfl⟩) (ak (by refine fun γ => ⟨rfl, fun w' h => ?_⟩; clear h; go_simp) (ak (by refine fun γ => ⟨rfl, fun w' h => ?_⟩; clear h; go_simp) (ak (fun γ => ⟨rfl, fun w' => exec_made6 rfl⟩) (ak (fun γ => ⟨rfl, rfl, rfl, fun w' h => exec_laid6 h rfl rfl rfl⟩) (ak (fun _ => ⟨rfl, fun _ _ => rfl⟩) trivial))))))))
  intro γ w3 l hM hl
  have M3 : Mm w3 [(γ 6, cells6 u), (γ1_0, cells6 a), (γ1_1, cells6 b), (γ1_2, zero6), (g, modx n o s)] := H2.out.1.grow hM (Nat.le_refl _) hl [6] rfl (by decide)
  have B3 : Below w.heap.size w w3 := H2.out.2.trans ((hM.below).mono H2.out.2.size)
  have o3_6 : Hid (w.heap.size ≤ γ 6) := Nat.le_trans H2.out.2.size (hM.fin (Nat.le_refl _) hl (i := 6) rfl).2.1
  clear hM hl l H2
  generalize γ 6 = γ3_6 at M3 o3_6 ⊢
  clear γ
  have H3 : Hid (_ ∧ _) := ⟨M3, B3⟩
  clear M3 B3
  refine rest0 rfl (then_normal (wp_seq (wp_seq ?_)))
  refine walk_seqA 2 [.quiet (.bool true), .quiet (.bool false)] (sB H3) ?ho4 ?he4
  case ho4 => exact ak (fun _ => ⟨rfl, fun _ _ => rfl⟩) (ak (by refine fun γ => ⟨rfl, fun w' h => ?_⟩; clear h; go_simp) trivial)
  intro γ w4 l hM hl
  have M4 : Mm w4 [(γ3_6, cells6 u), (γ1_0, cells6 a), (γ1_1, cells6 b), (γ1_2, zero6), (g, modx n o s)] := H3.out.1.grow hM (Nat.le_refl _) hl [] rfl (by decide)
  have B4 : Below w.heap.size w w4 := H3.out.2.trans ((hM.below).mono H3.out.2.size)
  clear hM hl l H3
  clear γ
  have H4 : Hid (_ ∧ _) := ⟨M4, B4⟩
  clear M4 B4
  refine rest0 rfl (then_normal (wp_cond_false rfl ?_))
  refine wp_skip (then_normal (wp_seq ?_))
  refine walk_anyA 12 [.quiet (N u), .quiet (PT g 0), .quiet (PT g 0), .quiet (PT g 0), .quiet (N n), .call (.tuple #[N r, .bool true]), .quiet (.tuple #[N r, .bool true]), .quiet (N r), .quiet (.bool true), .made zero6 33, .laid 9 zero6 (cells6 r), .quiet (.bool true)] (sB H4) ?ho5 ?he5 (hL := ?hL5)
  case hL5 => exact ⟨⟨_, rfl⟩, trivial⟩
  case ho5 => exact ak (fun γ => ⟨rfl, fun w' h => ex_load6 h 0 rfl rfl rfl rfl⟩) (ak (fun _ => ⟨rfl, fun _ _ => rfl⟩) (ak (by refine fun γ => ⟨rfl, fun w' h => ?_⟩; clear h; go_simp) (ak (by refine fun γ => ⟨rfl, fun w' h => ?_⟩; clear h; go_simp) (ak (fun γ => ⟨rfl, fun w' h => ex_load6 h 4 rfl rfl rfl rfl⟩) (ak (fun γ => ⟨rfl, fun w' h => ⟨55, #[N u, N n], exec_call rfl call55 rfl (mpn rfl), C2.out w'⟩⟩) (ak (fun _ => ⟨rfl, fun _ _ => rfl⟩) (ak (by refine fun γ => ⟨rfl, fun w' h => ?_⟩; clear h; go_simp) (ak (by refine fun γ => ⟨rfl, fun w' h => ?_⟩; clear h; go_simp) (ak (fun γ => ⟨rfl, fun w' => exec_made6 rfl⟩) (ak (fun γ => ⟨rfl, rfl, rfl, fun w' h => exec_laid6 h rfl rfl rfl⟩) (ak (fun _ => ⟨rfl, fun _ _ => rfl⟩) trivial)))))))))))
  intro γ w5 l hM hl
  have M5 : Mm w5 [(γ 9, cells6 r), (γ3_6, cells6 u), (γ1_0, cells6 a), (γ1_1, cells6 b), (γ1_2, zero6), (g, modx n o s)] := H4.out.1.grow hM (Nat.le_refl _) hl [9] rfl (by decide)
  have B5 : Below w.heap.size w w5 := H4.out.2.trans ((hM.below).mono H4.out.2.size)
  have o5_9 : Hid (w.heap.size ≤ γ 9) := Nat.le_trans H4.out.2.size (hM.fin (Nat.le_refl _) hl (i := 9) rfl).2.1
  clear hM hl l H4
  generalize γ 9 = γ5_9 at M5 o5_9 ⊢
  clear γ
  have H5 : Hid (_ ∧ _) := ⟨M5, B5⟩
  clear M5 B5
  refine rest0 rfl (then_normal (wp_seq (wp_seq ?_)))
  refine walk_seqA 1 [.quiet (.bool true)] (sB H5) ?ho6 ?he6
  case ho6 => exact ak (fun _ => ⟨rfl, fun _ _ => rfl⟩) trivial
  intro γ w6 l hM hl
  have M6 : Mm w6 [(γ5_9, cells6 r), (γ3_6, cells6 u), (γ1_0, cells6 a), (γ1_1, cells6 b), (γ1_2, zero6), (g, modx n o s)] := H5.out.1.grow hM (Nat.le_refl _) hl [] rfl (by decide)
  have B6 : Below w.heap.size w w6 := H5.out.2.trans ((hM.below).mono H5.out.2.size)
  clear hM hl l H5
  clear γ
  have H6 : Hid (_ ∧ _) := ⟨M6, B6⟩
  clear M6 B6
  refine rest0 rfl (then_normal (wp_cond_true rfl (wp_seq ?_)))
  refine walk_seqA 1 [.quiet (N r)] (sB H6) ?ho7 ?he7
  case ho7 => exact ak (fun γ => ⟨rfl, fun w' h => ex_load6 h 0 rfl rfl rfl rfl⟩) trivial
  intro γ w7 l hM hl
  have M7 : Mm w7 [(γ5_9, cells6 r), (γ3_6, cells6 u), (γ1_0, cells6 a), (γ1_1, cells6 b), (γ1_2, zero6), (g, modx n o s)] := H6.out.1.grow hM (Nat.le_refl _) hl [] rfl (by decide)
  have B7 : Below w.heap.size w w7 := H6.out.2.trans ((hM.below).mono H6.out.2.size)
  clear hM hl l H6
  clear γ
  have H7 : Hid (_ ∧ _) := ⟨M7, B7⟩
  clear M7 B7
  refine rest_at (l := [1]) rfl ?_
  refine rest_store rfl rfl rfl (ex_store6 H7.out.1 4 rfl rfl rfl rfl (Nat.le_of_ble_eq_true rfl)) ?_
  have H8 : Hid (Mm (w7.setCells γ1_2 0 (cells6 r)) [(γ5_9, cells6 r), (γ3_6, cells6 u), (γ1_0, cells6 a), (γ1_1, cells6 b), (γ1_2, cells6 r), (g, modx n o s)] ∧ Below w.heap.size w (w7.setCells γ1_2 0 (cells6 r))) := ⟨H7.out.1.put 4 (off := 0) (vs := cells6 r) rfl (Nat.le_of_ble_eq_true rfl), below_setCells _ o1_2.out _ _ _ H7.out.2⟩
  clear H7
  generalize hgw : World.setCells _ _ _ _ = w8 at H8 ⊢
  clear hgw
  refine rest_nil (then_normal (wp_ret ?_))
  repeat (first | refine then_ret ?_ | refine block_ret ?_)
  have c0 := H8.out.1.get 4 rfl 0 rfl
  have c1 := H8.out.1.get 4 rfl 1 rfl
  have c2 := H8.out.1.get 4 rfl 2 rfl
  have c3 := H8.out.1.get 4 rfl 3 rfl
  have c4 := H8.out.1.get 4 rfl 4 rfl
  have c5 := H8.out.1.get 4 rfl 5 rfl
  refine bodyPost_ret (v := N r) (by simp [results, Tryd.results31, go_sem, *]) rfl ?_
  exact ⟨rfl, H8.out.2⟩
set_option maxRecDepth 100000 in
theorem sub_3 (g n o s a b u v x y r : Nat)
    (c0 : ∀ w, Mm w [(g, modx n o s)] → Calls Tryd.prog 51 #[PT g 0] w fun e w' => e = .returned (.bool true) ∧ Below w.heap.size w w')
    (c1 : ∀ w, Calls Tryd.prog 53 #[N a, N b] w fun e w' => e = .returned (.tuple #[N u, .bool true]) ∧ Below w.heap.size w w')
    (c2 : ∀ w, Calls Tryd.prog 55 #[N u, N n] w fun e w' => e = .returned (.tuple #[N v, .bool false]) ∧ Below w.heap.size w w')
    (c3 : ∀ w, Mm w [(g, modx n o s)] → Calls Tryd.prog 54 #[PT g 0, N b] w fun e w' => e = .returned (N x) ∧ Below w.heap.size w w')
    (c4 : ∀ w, Calls Tryd.prog 53 #[N n, N x] w fun e w' => e = .returned (.tuple #[N y, .bool false]) ∧ Below w.heap.size w w')
    (c5 : ∀ w, Mm w [(g, modx n o s)] → Calls Tryd.prog 43 #[PT g 0, N a, N y] w fun e w' => e = .returned (N r) ∧ Below w.heap.size w w') (w : World) (hm : Mm w [(g, modx n o s)]) :
    Calls Tryd.prog 31 #[PT g 0, N a, N b] w fun e w' => e = .returned (N r) ∧ Below w.heap.size w w' := by
  have H0 : Hid (_ ∧ _) := ⟨hm, Below.refl w.heap.size w⟩
  clear hm
  have C0 : Hid _ := c0
  have C1 : Hid _ := c1
  have C2 : Hid _ := c2
  have C3 : Hid _ := c3
  have C4 : Hid _ := c4
  have C5 : Hid _ := c5
  clear c0 c1 c2 c3 c4 c5
  go_enter Tryd.func31, Tryd.ntmps31
  refine wp_seq ?_
  refine walk_seqA 3 [.made (cells6 a) 33, .made (cells6 b) 33, .made zero6 33] (sB H0) ?ho1 ?he1
  case ho1 => exact ak (fun γ => ⟨rfl, fun w' => ex_box6 rfl rfl⟩) (ak (fun γ => ⟨rfl, fun w' => ex_box6 rfl rfl⟩) (ak (fun γ => ⟨rfl, fun w' => exec_made6 rfl⟩) trivial))
  intro γ w1 l hM hl
  have M1 : Mm w1 [(γ 0, cells6 a), (γ 1, cells6 b), (γ 2, zero6), (g, modx n o s)] := H0.out.1.grow hM (Nat.le_refl _) hl [0, 1, 2] rfl (by decide)
  have B1 : Below w.heap.size w w1 := H0.out.2.trans ((hM.below).mono H0.out.2.size)
  have o1_0 : Hid (w.heap.size ≤ γ 0) := Nat.le_trans H0.out.2.size (hM.fin (Nat.le_refl _) hl (i := 0) rfl).2.1
  have o1_1 : Hid (w.heap.size ≤ γ 1) := Nat.le_trans H0.out.2.size (hM.fin (Nat.le_refl _) hl (i := 1) rfl).2.1
  have o1_2 : Hid (w.heap.size ≤ γ 2) := Nat.le_trans H0.out.2.size (hM.fin (Nat.le_refl _) hl (i := 2) rfl).2.1
  clear hM hl l
  generalize γ 0 = γ1_0 at M1 o1_0 ⊢
  generalize γ 1 = γ1_1 at M1 o1_1 ⊢
  generalize γ 2 = γ1_2 at M1 o1_2 ⊢
  clear γ
  have H1 : Hid (_ ∧ _) := ⟨M1, B1⟩
  clear M1 B1
  refine rest0 rfl (then_normal (wp_seq (wp_seq ?_)))
  refine walk_seqA 3 [.quiet (PT g 0), .call (.bool true), .quiet (.bool false)] (sB H1) ?ho2 ?he2
  case ho2 => exact ak (fun _ => ⟨rfl, fun _ _ => rfl⟩) (ak (fun γ => ⟨rfl, fun w' h => ⟨51, #[PT g 0], exec_call rfl call51 rfl (mpn rfl), C0.out w' (h.one 3 rfl)⟩⟩) (ak (by refine fun γ => ⟨rfl, fun w' h => ?_⟩; clear h; go_simp) trivial))
  intro γ w2 l hM hl
  have M2 : Mm w2 [(γ1_0, cells6 a), (γ1_1, cells6 b), (γ1_2, zero6), (g, modx n o s)] := H1.out.1.grow hM (Nat.le_refl _) hl [] rfl (by decide)
  have B2 : Below w.heap.size w w2 := H1.out.2.trans ((hM.below).mono H1.out.2.size)
  clear hM hl l H1
  clear γ
  have H2 : Hid (_ ∧ _) := ⟨M2, B2⟩
  clear M2 B2
  refine rest0 rfl (then_normal (wp_cond_false rfl ?_))
  refine wp_skip (then_normal (wp_seq ?_))
  refine walk_seqA 9 [.quiet (N a), .quiet (N b), .call (.tuple #[N u, .bool true]), .quiet (.tuple #[N u, .bool true]), .quiet (N u), .quiet (.bool true), .made zero6 33, .laid 6 zero6 (cells6 u), .quiet (.bool true)] (sB H2) ?ho3 ?he3 (hL := ?hL3)
  case hL3 => exact ⟨⟨_, rfl⟩, trivial⟩
  case ho3 => exact ak (fun γ => ⟨rfl, fun w' h => ex_load6 h 0 rfl rfl rfl rfl⟩) (ak (fun γ => ⟨rfl, fun w' h => ex_load6 h 1 rfl rfl rfl rfl⟩) (ak (fun γ => ⟨rfl, fun w' h => ⟨53, #[N a, N b], exec_call rfl call53 rfl (mpn rfl), C1.out w'⟩⟩) (ak (fun _ => ⟨rfl, fun _ _ => rfl⟩) (ak (by refine fun γ => ⟨rfl, fun w' h => ?_⟩; clear h; go_simp) (ak (by refine fun γ => ⟨rfl, fun w' h => ?_⟩; clear h; go_simp) (ak (fun γ => ⟨rfl, fun w' => exec_made6 rfl⟩) (ak (fun γ => ⟨rfl, rfl, rfl, fun w' h => exec_laid6 h rfl rfl rfl⟩) (ak (fun _ => ⟨rfl, fun _ _ => rfl⟩) trivial))))))))
  intro γ w3 l hM hl
  have M3 : Mm w3 [(γ 6, cells6 u), (γ1_0, cells6 a), (γ1_1, cells6 b), (γ1_2, zero6), (g, modx n o s)] := H2.out.1.grow hM (Nat.le_refl _) hl [6] rfl (by decide)
  have B3 : Below w.heap.size w w3 := H2.out.2.trans ((hM.below).mono H2.out.2.size)
  have o3_6 : Hid (w.heap.size ≤ γ 6) := Nat.le_trans H2.out.2.size (hM.fin (Nat.le_refl _) hl (i := 6) rfl).2.1
  clear hM hl l H2
  generalize γ 6 = γ3_6 at M3 o3_6 ⊢
  clear γ
  have H3 : Hid (_ ∧ _) := ⟨M3, B3⟩
  clear M3 B3
  refine rest0 rfl (then_normal (wp_seq (wp_seq ?_)))
  refine walk_seqA 2 [.quiet (.bool true), .quiet (.bool false)] (sB H3) ?ho4 ?he4
  case ho4 => exact ak (fun _ => ⟨rfl, fun _ _ => rfl⟩) (ak (by refine fun γ => ⟨rfl, fun w' h => ?_⟩; clear h; go_simp) trivial)
  intro γ w4 l hM hl
  have M4 : Mm w4 [(γ3_6, cells6 u), (γ1_0, cells6 a), (γ1_1, cells6 b), (γ1_2, zero6), (g, modx n o s)] := H3.out.1.grow hM (Nat.le_refl _) hl [] rfl (by decide)
  have B4 : Below w.heap.size w w4 := H3.out.2.trans ((hM.below).mono H3.out.2.size)
  clear hM hl l H3
  clear γ
  have H4 : Hid (_ ∧ _) := ⟨M4, B4⟩
  clear M4 B4
  refine rest0 rfl (then_normal (wp_cond_false rfl ?_))
  refine wp_skip (then_normal (wp_seq ?_))
  refine walk_anyA 12 [.quiet (N u), .quiet (PT g 0), .quiet (PT g 0), .quiet (PT g 0), .quiet (N n), .call (.tuple #[N v, .bool false]), .quiet (.tuple #[N v, .bool false]), .quiet (N v), .quiet (.bool false), .made zero6 33, .laid 9 zero6 (cells6 v), .quiet (.bool false)] (sB H4) ?ho5 ?he5 (hL := ?hL5)
  case hL5 => exact ⟨⟨_, rfl⟩, trivial⟩
  case ho5 => exact ak (fun γ => ⟨rfl, fun w' h => ex_load6 h 0 rfl rfl rfl rfl⟩) (ak (fun _ => ⟨rfl, fun _ _ => rfl⟩) (ak (by refine fun γ => ⟨rfl, fun w' h => ?_⟩; clear h; go_simp) (ak (by refine fun γ => ⟨rfl, fun w' h => ?_⟩; clear h; go_simp) (ak (fun γ => ⟨rfl, fun w' h => ex_load6 h 4 rfl rfl rfl rfl⟩) (ak (fun γ => ⟨rfl, fun w' h => ⟨55, #[N u, N n], exec_call rfl call55 rfl (mpn rfl), C2.out w'⟩⟩) (ak (fun _ => ⟨rfl, fun _ _ => rfl⟩) (ak (by refine fun γ => ⟨rfl, fun w' h => ?_⟩; clear h; go_simp) (ak (by refine fun γ => ⟨rfl, fun w' h => ?_⟩; clear h; go_simp) (ak (fun γ => ⟨rfl, fun w' => exec_made6 rfl⟩) (ak (fun γ => ⟨rfl, rfl, rfl, fun w' h => exec_laid6 h rfl rfl rfl⟩) (ak (fun _ => ⟨rfl, fun _ _ => rfl⟩) trivial)))))))))))
  intro γ w5 l hM hl
  have M5 : Mm w5 [(γ 9, cells6 v), (γ3_6, cells6 u), (γ1_0, cells6 a), (γ1_1, cells6 b), (γ1_2, zero6), (g, modx n o s)] := H4.out.1.grow hM (Nat.le_refl _) hl [9] rfl (by decide)
  have B5 : Below w.heap.size w w5 := H4.out.2.trans ((hM.below).mono H4.out.2.size)
  have o5_9 : Hid (w.heap.size ≤ γ 9) := Nat.le_trans H4.out.2.size (hM.fin (Nat.le_refl _) hl (i := 9) rfl).2.1
  clear hM hl l H4
  generalize γ 9 = γ5_9 at M5 o5_9 ⊢
  clear γ
  have H5 : Hid (_ ∧ _) := ⟨M5, B5⟩
  clear M5 B5
  refine rest0 rfl (then_normal (wp_seq (wp_seq ?_)))
  refine walk_seqA 1 [.quiet (.bool false)] (sB H5) ?ho6 ?he6
  case ho6 => exact ak (fun _ => ⟨rfl, fun _ _ => rfl⟩) trivial
  intro γ w6 l hM hl
  have M6 : Mm w6 [(γ5_9, cells6 v), (γ3_6, cells6 u), (γ1_0, cells6 a), (γ1_1, cells6 b), (γ1_2, zero6), (g, modx n o s)] := H5.out.1.grow hM (Nat.le_refl _) hl [] rfl (by decide)
  have B6 : Below w.heap.size w w6 := H5.out.2.trans ((hM.below).mono H5.out.2.size)
  clear hM hl l H5
  clear γ
  have H6 : Hid (_ ∧ _) := ⟨M6, B6⟩
  clear M6 B6
  refine rest0 rfl (then_normal (wp_cond_false rfl ?_))
  refine wp_skip (then_normal (wp_seq ?_))
  refine walk_anyA 14 [.quiet (PT g 0), .quiet (PT g 0), .quiet (PT g 0), .quiet (N n), .quiet (PT g 0), .quiet (N b), .call (N x), .call (.tuple #[N y, .bool false]), .quiet (.tuple #[N y, .bool false]), .quiet (N y), .quiet (.bool false), .made zero6 33, .laid 11 zero6 (cells6 y), .quiet (.bool false)] (sB H6) ?ho7 ?he7 (hL := ?hL7)
  case hL7 => exact ⟨⟨_, rfl⟩, trivial⟩
  case ho7 => exact ak (fun _ => ⟨rfl, fun _ _ => rfl⟩) (ak (by refine fun γ => ⟨rfl, fun w' h => ?_⟩; clear h; go_simp) (ak (by refine fun γ => ⟨rfl, fun w' h => ?_⟩; clear h; go_simp) (ak (fun γ => ⟨rfl, fun w' h => ex_load6 h 5 rfl rfl rfl rfl⟩) (ak (fun _ => ⟨rfl, fun _ _ => rfl⟩) (ak (fun γ => ⟨rfl, fun w' h => ex_load6 h 3 rfl rfl rfl rfl⟩) (ak (fun γ => ⟨rfl, fun w' h => ⟨54, #[PT g 0, N b], exec_call rfl call54 rfl (mpn rfl), C3.out w' (h.one 5 rfl)⟩⟩) (ak (fun γ => ⟨rfl, fun w' h => ⟨53, #[N n, N x], exec_call rfl call53 rfl (mpn rfl), C4.out w'⟩⟩) (ak (fun _ => ⟨rfl, fun _ _ => rfl⟩) (ak (by refine fun γ => ⟨rfl, fun w' h => ?_⟩; clear h; go_simp) (ak (by refine fun γ => ⟨rfl, fun w' h => ?_⟩; clear h; go_simp) (ak (fun γ => ⟨rfl, fun w' => exec_made6 rfl⟩) (ak (fun γ => ⟨rfl, rfl, rfl, fun w' h => exec_laid6 h rfl rfl rfl⟩) (ak (fun _ => ⟨rfl, fun _ _ => rfl⟩) trivial)))))))))))))
  intro γ w7 l hM hl
  have M7 : Mm w7 [(γ 11, cells6 y), (γ5_9, cells6 v), (γ3_6, cells6 u), (γ1_0, cells6 a), (γ1_1, cells6 b), (γ1_2, zero6), (g, modx n o s)] := H6.out.1.grow hM (Nat.le_refl _) hl [11] rfl (by decide)
  have B7 : Below w.heap.size w w7 := H6.out.2.trans ((hM.below).mono H6.out.2.size)
  have o7_11 : Hid (w.heap.size ≤ γ 11) := Nat.le_trans H6.out.2.size (hM.fin (Nat.le_refl _) hl (i := 11) rfl).2.1
  clear hM hl l H6
  generalize γ 11 = γ7_11 at M7 o7_11 ⊢
  clear γ
  have H7 : Hid (_ ∧ _) := ⟨M7, B7⟩
  clear M7 B7
  refine rest0 rfl (then_normal (wp_seq ?_))
  refine walk_seqA 4 [.quiet (PT g 0), .quiet (N a), .quiet (N y), .call (N r)] (sB H7) ?ho8 ?he8
  case ho8 => exact ak (fun _ => ⟨rfl, fun _ _ => rfl⟩) (ak (fun γ => ⟨rfl, fun w' h => ex_load6 h 3 rfl rfl rfl rfl⟩) (ak (fun γ => ⟨rfl, fun w' h => ex_load6 h 0 rfl rfl rfl rfl⟩) (ak (fun γ => ⟨rfl, fun w' h => ⟨43, #[PT g 0, N a, N y], exec_call rfl call43 rfl (mpn rfl), C5.out w' (h.one 6 rfl)⟩⟩) trivial)))
  intro γ w8 l hM hl
  have M8 : Mm w8 [(γ7_11, cells6 y), (γ5_9, cells6 v), (γ3_6, cells6 u), (γ1_0, cells6 a), (γ1_1, cells6 b), (γ1_2, zero6), (g, modx n o s)] := H7.out.1.grow hM (Nat.le_refl _) hl [] rfl (by decide)
  have B8 : Below w.heap.size w w8 := H7.out.2.trans ((hM.below).mono H7.out.2.size)
  clear hM hl l H7
  clear γ
  have H8 : Hid (_ ∧ _) := ⟨M8, B8⟩
  clear M8 B8
  refine rest_at (l := [4]) rfl ?_
  refine rest_store rfl rfl rfl (ex_store6 H8.out.1 5 rfl rfl rfl rfl (Nat.le_of_ble_eq_true rfl)) ?_
  have H9 : Hid (Mm (w8.setCells γ1_2 0 (cells6 r)) [(γ7_11, cells6 y), (γ5_9, cells6 v), (γ3_6, cells6 u), (γ1_0, cells6 a), (γ1_1, cells6 b), (γ1_2, cells6 r), (g, modx n o s)] ∧ Below w.heap.size w (w8.setCells γ1_2 0 (cells6 r))) := ⟨H8.out.1.put 5 (off := 0) (vs := cells6 r) rfl (Nat.le_of_ble_eq_true rfl), below_setCells _ o1_2.out _ _ _ H8.out.2⟩
  clear H8
  generalize hgw : World.setCells _ _ _ _ = w9 at H9 ⊢
  clear hgw
  refine rest_nil (then_normal (wp_ret ?_))
  repeat (first | refine then_ret ?_ | refine block_ret ?_)
  have c0 := H9.out.1.get 5 rfl 0 rfl
  have c1 := H9.out.1.get 5 rfl 1 rfl
  have c2 := H9.out.1.get 5 rfl 2 rfl
  have c3 := H9.out.1.get 5 rfl 3 rfl
  have c4 := H9.out.1.get 5 rfl 4 rfl
  have c5 := H9.out.1.get 5 rfl 5 rfl
  refine bodyPost_ret (v := N r) (by simp [results, Tryd.results31, go_sem, *]) rfl ?_
  exact ⟨rfl, H9.out.2⟩
set_option maxRecDepth 100000 in
theorem neg_gen (g n o s a r : Nat)
    (c0 : ∀ w, Mm w [(g, modx n o s)] → Calls Tryd.prog 31 #[PT g 0, N 0, N a] w fun e w' => e = .returned (N r) ∧ Below w.heap.size w w') (w : World) (hm : Mm w [(g, modx n o s)]) :
    Calls Tryd.prog 58 #[PT g 0, N a] w fun e w' => e = .returned (N r) ∧ Below w.heap.size w w' := by
  have H0 : Hid (_ ∧ _) := ⟨hm, Below.refl w.heap.size w⟩
  clear hm
  have C0 : Hid _ := c0
  clear c0
  go_enter Tryd.func58, Tryd.ntmps58
  refine wp_seq ?_
  refine walk_seqA 2 [.made (cells6 a) 33, .made zero6 33] (sB H0) ?ho1 ?he1
  case ho1 => exact ak (fun γ => ⟨rfl, fun w' => ex_box6 rfl rfl⟩) (ak (fun γ => ⟨rfl, fun w' => exec_made6 rfl⟩) trivial)
  intro γ w1 l hM hl
  have M1 : Mm w1 [(γ 0, cells6 a), (γ 1, zero6), (g, modx n o s)] := H0.out.1.grow hM (Nat.le_refl _) hl [0, 1] rfl (by decide)
  have B1 : Below w.heap.size w w1 := H0.out.2.trans ((hM.below).mono H0.out.2.size)
  have o1_0 : Hid (w.heap.size ≤ γ 0) := Nat.le_trans H0.out.2.size (hM.fin (Nat.le_refl _) hl (i := 0) rfl).2.1
  have o1_1 : Hid (w.heap.size ≤ γ 1) := Nat.le_trans H0.out.2.size (hM.fin (Nat.le_refl _) hl (i := 1) rfl).2.1
  clear hM hl l
  generalize γ 0 = γ1_0 at M1 o1_0 ⊢
  generalize γ 1 = γ1_1 at M1 o1_1 ⊢
  clear γ
  have H1 : Hid (_ ∧ _) := ⟨M1, B1⟩
  clear M1 B1
  refine rest0 rfl (then_normal (wp_seq ?_))
  refine walk_seqA 4 [.quiet (PT g 0), .quiet (N 0), .quiet (N a), .call (N r)] (sB H1) ?ho2 ?he2
  case ho2 => exact ak (fun _ => ⟨rfl, fun _ _ => rfl⟩) (ak (by refine fun γ => ⟨rfl, fun w' h => ?_⟩; clear h; exact ex_zero6 rfl) (ak (fun γ => ⟨rfl, fun w' h => ex_load6 h 0 rfl rfl rfl rfl⟩) (ak (fun γ => ⟨rfl, fun w' h => ⟨31, #[PT g 0, N 0, N a], exec_call rfl call31 rfl (mpn rfl), C0.out w' (h.one 2 rfl)⟩⟩) trivial)))
  intro γ w2 l hM hl
  have M2 : Mm w2 [(γ1_0, cells6 a), (γ1_1, zero6), (g, modx n o s)] := H1.out.1.grow hM (Nat.le_refl _) hl [] rfl (by decide)
  have B2 : Below w.heap.size w w2 := H1.out.2.trans ((hM.below).mono H1.out.2.size)
  clear hM hl l H1
  clear γ
  have H2 : Hid (_ ∧ _) := ⟨M2, B2⟩
  clear M2 B2
  refine rest_at (l := [4]) rfl ?_
  refine rest_store rfl rfl rfl (ex_store6 H2.out.1 1 rfl rfl rfl rfl (Nat.le_of_ble_eq_true rfl)) ?_
  have H3 : Hid (Mm (w2.setCells γ1_1 0 (cells6 r)) [(γ1_0, cells6 a), (γ1_1, cells6 r), (g, modx n o s)] ∧ Below w.heap.size w (w2.setCells γ1_1 0 (cells6 r))) := ⟨H2.out.1.put 1 (off := 0) (vs := cells6 r) rfl (Nat.le_of_ble_eq_true rfl), below_setCells _ o1_1.out _ _ _ H2.out.2⟩
  clear H2
  generalize hgw : World.setCells _ _ _ _ = w3 at H3 ⊢
  clear hgw
  refine rest_nil (then_normal (wp_ret ?_))
  repeat (first | refine then_ret ?_ | refine block_ret ?_)
  have c0 := H3.out.1.get 1 rfl 0 rfl
  have c1 := H3.out.1.get 1 rfl 1 rfl
  have c2 := H3.out.1.get 1 rfl 2 rfl
  have c3 := H3.out.1.get 1 rfl 3 rfl
  have c4 := H3.out.1.get 1 rfl 4 rfl
  have c5 := H3.out.1.get 1 rfl 5 rfl
  refine bodyPost_ret (v := N r) (by simp [results, Tryd.results58, go_sem, *]) rfl ?_
  exact ⟨rfl, H3.out.2⟩
set_option maxRecDepth 100000 in
theorem mul_gen (g n o s a b p r : Nat)
    (c0 : ∀ w, Mm w [(g, modx n o s)] → Calls Tryd.prog 51 #[PT g 0] w fun e w' => e = .returned (.bool true) ∧ Below w.heap.size w w')
    (c1 : ∀ w, Mm w [(g, modx n o s)] → Calls Tryd.prog 52 #[PT g 0, N a, N s] w fun e w' => e = .returned (N p) ∧ Below w.heap.size w w')
    (c2 : ∀ w, Mm w [(g, modx n o s)] → Calls Tryd.prog 52 #[PT g 0, N b, N p] w fun e w' => e = .returned (N r) ∧ Below w.heap.size w w') (w : World) (hm : Mm w [(g, modx n o s)]) :
    Calls Tryd.prog 30 #[PT g 0, N a, N b] w fun e w' => e = .returned (N r) ∧ Below w.heap.size w w' := by
  have H0 : Hid (_ ∧ _) := ⟨hm, Below.refl w.heap.size w⟩
  clear hm
  have C0 : Hid _ := c0
  have C1 : Hid _ := c1
  have C2 : Hid _ := c2
  clear c0 c1 c2
  go_enter Tryd.func30, Tryd.ntmps30
  refine wp_seq ?_
  refine walk_seqA 3 [.made (cells6 a) 33, .made (cells6 b) 33, .made zero6 33] (sB H0) ?ho1 ?he1
  case ho1 => exact ak (fun γ => ⟨rfl, fun w' => ex_box6 rfl rfl⟩) (ak (fun γ => ⟨rfl, fun w' => ex_box6 rfl rfl⟩) (ak (fun γ => ⟨rfl, fun w' => exec_made6 rfl⟩) trivial))
  intro γ w1 l hM hl
  have M1 : Mm w1 [(γ 0, cells6 a), (γ 1, cells6 b), (γ 2, zero6), (g, modx n o s)] := H0.out.1.grow hM (Nat.le_refl _) hl [0, 1, 2] rfl (by decide)
  have B1 : Below w.heap.size w w1 := H0.out.2.trans ((hM.below).mono H0.out.2.size)
  have o1_0 : Hid (w.heap.size ≤ γ 0) := Nat.le_trans H0.out.2.size (hM.fin (Nat.le_refl _) hl (i := 0) rfl).2.1
  have o1_1 : Hid (w.heap.size ≤ γ 1) := Nat.le_trans H0.out.2.size (hM.fin (Nat.le_refl _) hl (i := 1) rfl).2.1
  have o1_2 : Hid (w.heap.size ≤ γ 2) := Nat.le_trans H0.out.2.size (hM.fin (Nat.le_refl _) hl (i := 2) rfl).2.1
  clear hM hl l
  generalize γ 0 = γ1_0 at M1 o1_0 ⊢
  generalize γ 1 = γ1_1 at M1 o1_1 ⊢
  generalize γ 2 = γ1_2 at M1 o1_2 ⊢
  clear γ
  have H1 : Hid (_ ∧ _) := ⟨M1, B1⟩
  clear M1 B1
  refine rest0 rfl (then_normal (wp_seq (wp_seq ?_)))
  refine walk_seqA 3 [.quiet (PT g 0), .call (.bool true), .quiet (.bool false)] (sB H1) ?ho2 ?he2
  case ho2 => exact ak (fun _ => ⟨rfl, fun _ _ => rfl⟩) (ak (fun γ => ⟨rfl, fun w' h => ⟨51, #[PT g 0], exec_call rfl call51 rfl (mpn rfl), C0.out w' (h.one 3 rfl)⟩⟩) (ak (by refine fun γ => ⟨rfl, fun w' h => ?_⟩; clear h; go_simp) trivial))
  intro γ w2 l hM hl
  have M2 : Mm w2 [(γ1_0, cells6 a), (γ1_1, cells6 b), (γ1_2, zero6), (g, modx n o s)] := H1.out.1.grow hM (Nat.le_refl _) hl [] rfl (by decide)
  have B2 : Below w.heap.size w w2 := H1.out.2.trans ((hM.below).mono H1.out.2.size)
  clear hM hl l H1
  clear γ
  have H2 : Hid (_ ∧ _) := ⟨M2, B2⟩
  clear M2 B2
  refine rest0 rfl (then_normal (wp_cond_false rfl ?_))
  refine wp_skip (then_normal (wp_seq ?_))
  refine walk_anyA 10 [.quiet (PT g 0), .quiet (N b), .quiet (PT g 0), .quiet (N a), .quiet (PT g 0), .quiet (PT g 0), .quiet (PT g 13), .quiet (N s), .call (N p), .call (N r)] (sB H2) ?ho3 ?he3
  case ho3 => exact ak (fun _ => ⟨rfl, fun _ _ => rfl⟩) (ak (fun γ => ⟨rfl, fun w' h => ex_load6 h 1 rfl rfl rfl rfl⟩) (ak (fun _ => ⟨rfl, fun _ _ => rfl⟩) (ak (fun γ => ⟨rfl, fun w' h => ex_load6 h 0 rfl rfl rfl rfl⟩) (ak (fun _ => ⟨rfl, fun _ _ => rfl⟩) (ak (by refine fun γ => ⟨rfl, fun w' h => ?_⟩; clear h; go_simp) (ak (by refine fun γ => ⟨rfl, fun w' h => ?_⟩; clear h; go_simp) (ak (fun γ => ⟨rfl, fun w' h => ex_load6 h 3 rfl rfl rfl rfl⟩) (ak (fun γ => ⟨rfl, fun w' h => ⟨52, #[PT g 0, N a, N s], exec_call rfl call52 rfl (mpn rfl), C1.out w' (h.one 3 rfl)⟩⟩) (ak (fun γ => ⟨rfl, fun w' h => ⟨52, #[PT g 0, N b, N p], exec_call rfl call52 rfl (mpn rfl), C2.out w' (h.one 3 rfl)⟩⟩) trivial)))))))))
  intro γ w3 l hM hl
  have M3 : Mm w3 [(γ1_0, cells6 a), (γ1_1, cells6 b), (γ1_2, zero6), (g, modx n o s)] := H2.out.1.grow hM (Nat.le_refl _) hl [] rfl (by decide)
  have B3 : Below w.heap.size w w3 := H2.out.2.trans ((hM.below).mono H2.out.2.size)
  clear hM hl l H2
  clear γ
  have H3 : Hid (_ ∧ _) := ⟨M3, B3⟩
  clear M3 B3
  refine rest_at (l := [10]) rfl ?_
  refine rest_store rfl rfl rfl (ex_store6 H3.out.1 2 rfl rfl rfl rfl (Nat.le_of_ble_eq_true rfl)) ?_
  have H4 : Hid (Mm (w3.setCells γ1_2 0 (cells6 r)) [(γ1_0, cells6 a), (γ1_1, cells6 b), (γ1_2, cells6 r), (g, modx n o s)] ∧ Below w.heap.size w (w3.setCells γ1_2 0 (cells6 r))) := ⟨H3.out.1.put 2 (off := 0) (vs := cells6 r) rfl (Nat.le_of_ble_eq_true rfl), below_setCells _ o1_2.out _ _ _ H3.out.2⟩
  clear H3
  generalize hgw : World.setCells _ _ _ _ = w4 at H4 ⊢
  clear hgw
  refine rest_nil (then_normal (wp_ret ?_))
  repeat (first | refine then_ret ?_ | refine block_ret ?_)
  have c0 := H4.out.1.get 2 rfl 0 rfl
  have c1 := H4.out.1.get 2 rfl 1 rfl
  have c2 := H4.out.1.get 2 rfl 2 rfl
  have c3 := H4.out.1.get 2 rfl 3 rfl
  have c4 := H4.out.1.get 2 rfl 4 rfl
  have c5 := H4.out.1.get 2 rfl 5 rfl
  refine bodyPost_ret (v := N r) (by simp [results, Tryd.results30, go_sem, *]) rfl ?_
  exact ⟨rfl, H4.out.2⟩
end Rg
end Go.Proofs.YtkkloakcphigeaaDoor
end
section
namespace Go.Proofs.YtkkloakcphigeaaDoor
open Go.RowKit
namespace Rg
theorem mont_one {n : Nat} (ok : Ok n) (x : Nat) : mont n x (big % n) = x % n := by
  refine Cg.eq_mod (n := n) ((mont_cg n _ _).trans ?_) (mont_lt _ _ _ ok.pos)
  have h1 := ((Cg.mod n big).mulL x).mulR (ri n)
  refine h1.trans ?_
  have h2 := (ri_big n ok.odd).mulL x
  rw [Nat.mul_one, ← Nat.mul_assoc] at h2
  exact h2
theorem mont_big {n : Nat} (ok : Ok n) (x y : Nat) : mont n x (y * big % n) = x * y % n := by
  refine Cg.eq_mod (n := n) ((mont_cg n _ _).trans ?_) (mont_lt _ _ _ ok.pos)
  have h1 := ((Cg.mod n (y * big)).mulL x).mulR (ri n)
  refine h1.trans ?_
  have h2 := (ri_big n ok.odd).mulL (x * y)
  rw [Nat.mul_one] at h2
  have e : x * (y * big) * ri n = x * y * (big * ri n) := by simp only [Nat.mul_assoc]
  rw [e]
  exact h2
/-- What is left of a difference. -/
def subm (n a b : Nat) : Nat := (a + (n - b % n)) % n
theorem subm_ge {n a b : Nat} (hn : 0 < n) (h : b ≤ a) : (a - b) % n = subm n a b := by
  unfold subm
  have h1 := Nat.div_add_mod b n
  have h2 := Nat.mod_lt b hn
  have e : a + (n - b % n) = (a - b) + n * (b / n + 1) := by rw [Nat.mul_add]; omega
  rw [e, Nat.add_mul_mod_self_left]
theorem subm_lt {n a b : Nat} (hn : 0 < n) (h : a < b) (h2 : b ≤ a + n) : a + n - b = subm n a b := by
  unfold subm
  have h1 := Nat.div_add_mod b n
  have h3 := Nat.mod_lt b hn
  have e : a + (n - b % n) = (a + n - b) + n * (b / n) := by omega
  rw [e, Nat.add_mul_mod_self_left, Nat.mod_eq_of_lt (by omega)]
theorem subm_lt_n {n : Nat} (hn : 0 < n) (a b : Nat) : subm n a b < n := Nat.mod_lt _ hn
theorem cmp_ge {a n : Nat} (h : ¬ a < n) : ¬ cmpv a n < 0 := by unfold cmpv; rw [if_neg h]; split <;> omega
theorem cmp_lt {a n : Nat} (h : a < n) : cmpv a n = -1 := by unfold cmpv; rw [if_neg (by omega), if_pos h]
theorem madeC {g n : Nat} (ok : Ok n) (w : World) (hm : Mm w [(g, modc n)]) : Calls Tryd.prog 51 #[PT g 0] w fun e w' => e = .returned (.bool true) ∧ Below w.heap.size w w' := made_any g n _ _ ok w hm
theorem reduce_any {g n : Nat} (ok : Ok n) {a : Nat} (ha : a < big) (w : World) (hm : Mm w [(g, modc n)]) : Calls Tryd.prog 54 #[PT g 0, N a] w fun e w' => e = .returned (N (a % n)) ∧ Below w.heap.size w w' := by
  have hn := ok.big
  by_cases h : a < n
  · have c := fun w => compare_any a n ha hn w
    rw [cmp_lt h] at c
    rw [Nat.mod_eq_of_lt h]
    exact reduce_1 g n _ _ a (fun w hm => madeC ok w hm) c w hm
  · have c := fun w => compare_any a n ha hn w
    have cs := fun w => sub_any a n ha hn w
    rw [decide_eq_false h, show a + big - n = a - n + big by omega, Nat.add_mod_right, Nat.mod_eq_of_lt (show a - n < big by omega)] at cs
    have e : a % n = (a - n) % n := Nat.mod_eq_sub_mod (by omega)
    have c2 := fun w => compare_any (a - n) n (by omega) hn w
    by_cases h2 : a - n < n
    · rw [cmp_lt h2] at c2
      rw [e, Nat.mod_eq_of_lt h2]
      exact reduce_2 g n _ _ a _ _ (cmp_ge h) (fun w hm => madeC ok w hm) c cs c2 w hm
    · have cp := fun w hm => product_any g n (big % n) (big * big % n) (a - n) (big % n) ok (by omega) (Nat.mod_lt _ ok.pos) w hm
      rw [mont_one ok] at cp
      rw [e]
      exact reduce_3 g n _ _ a _ _ _ _ (cmp_ge h) (cmp_ge h2) (fun w hm => madeC ok w hm) c cs c2 cp w hm
theorem addm_any {g n : Nat} (ok : Ok n) {a b : Nat} (ha : a < big) (hb : b < big) (w : World) (hm : Mm w [(g, modc n)]) : Calls Tryd.prog 43 #[PT g 0, N a, N b] w fun e w' => e = .returned (N ((a + b) % n)) ∧ Below w.heap.size w w' := by
  have c := fun w => add_any a b ha hb w
  by_cases h : big ≤ a + b
  · rw [decide_eq_true h] at c
    have h1 := Nat.mod_lt a ok.pos
    have h2 := Nat.mod_lt b ok.pos
    have h3 := ok.top
    have c2 := fun w => add_any (a % n) (b % n) (okLt ok a) (okLt ok b) w
    rw [decide_eq_false (by omega), Nat.mod_eq_of_lt (show a % n + b % n < big by omega)] at c2
    have c3 := fun w hm => reduce_any (g := g) ok (show a % n + b % n < big by omega) w hm
    rw [← Nat.add_mod] at c3
    exact add_2 g n _ _ a b _ _ _ _ _ (fun w hm => madeC ok w hm) c (fun w hm => reduce_any ok ha w hm) (fun w hm => reduce_any ok hb w hm) c2 c3 w hm
  · rw [decide_eq_false h, Nat.mod_eq_of_lt (show a + b < big by omega)] at c
    exact add_1 g n _ _ a b _ _ (fun w hm => madeC ok w hm) c (fun w hm => reduce_any ok (by omega) w hm) w hm
theorem mulm_any {g n : Nat} (ok : Ok n) {a b : Nat} (ha : a < big) (hb : b < big) (w : World) (hm : Mm w [(g, modc n)]) : Calls Tryd.prog 30 #[PT g 0, N a, N b] w fun e w' => e = .returned (N (a * b % n)) ∧ Below w.heap.size w w' := by
  have cp := fun w hm => product_any g n (big % n) (big * big % n) a (big * big % n) ok ha (Nat.mod_lt _ ok.pos) w hm
  rw [mont_big ok] at cp
  have c := fun w hm => product_any g n (big % n) (big * big % n) b (a * big % n) ok hb (Nat.mod_lt _ ok.pos) w hm
  rw [mont_big ok, Nat.mul_comm b a] at c
  exact mul_gen g n _ _ a b _ _ (fun w hm => madeC ok w hm) cp c w hm
theorem subm_any {g n : Nat} (ok : Ok n) {a b : Nat} (ha : a < big) (hb : b < big) (w : World) (hm : Mm w [(g, modc n)]) : Calls Tryd.prog 31 #[PT g 0, N a, N b] w fun e w' => e = .returned (N (subm n a b)) ∧ Below w.heap.size w w' := by
  have c := fun w => sub_any a b ha hb w
  have hn := ok.big
  have h3 := ok.top
  by_cases h : a < b
  · rw [decide_eq_true h, Nat.mod_eq_of_lt (show a + big - b < big by omega)] at c
    have c2 := fun w => add_any (a + big - b) n (by omega) hn w
    by_cases h2 : b ≤ a + n
    · rw [decide_eq_true (show big ≤ a + big - b + n by omega), show a + big - b + n = (a + n - b) + big by omega, Nat.add_mod_right, Nat.mod_eq_of_lt (show a + n - b < big by omega), subm_lt ok.pos h h2] at c2
      exact sub_2 g n _ _ a b _ _ (fun w hm => madeC ok w hm) c c2 w hm
    · rw [decide_eq_false (show ¬ big ≤ a + big - b + n by omega)] at c2
      have h1 := Nat.mod_lt b ok.pos
      have c3 := fun w => sub_any n (b % n) hn (okLt ok b) w
      rw [decide_eq_false (by omega), show n + big - b % n = n - b % n + big by omega, Nat.add_mod_right, Nat.mod_eq_of_lt (show n - b % n < big by omega)] at c3
      exact sub_3 g n _ _ a b _ _ _ _ _ (fun w hm => madeC ok w hm) c c2 (fun w hm => reduce_any ok hb w hm) c3 (fun w hm => addm_any ok ha (by omega) w hm) w hm
  · rw [decide_eq_false h, show a + big - b = a - b + big by omega, Nat.add_mod_right, Nat.mod_eq_of_lt (show a - b < big by omega)] at c
    have c2 := fun w hm => reduce_any (g := g) ok (show a - b < big by omega) w hm
    rw [subm_ge ok.pos (by omega)] at c2
    exact sub_1 g n _ _ a b _ _ (fun w hm => madeC ok w hm) c c2 w hm
theorem negm_any {g n : Nat} (ok : Ok n) {a : Nat} (ha : a < big) (w : World) (hm : Mm w [(g, modc n)]) : Calls Tryd.prog 58 #[PT g 0, N a] w fun e w' => e = .returned (N (subm n 0 a)) ∧ Below w.heap.size w w' :=
  neg_gen g n _ _ a _ (fun w hm => subm_any ok big_pos ha w hm) w hm
end Rg
end Go.Proofs.YtkkloakcphigeaaDoor
end
section
namespace Go.Proofs.YtkkloakcphigeaaDoor
open Go.RowKit
namespace Rg
theorem call67 : ∀ args w, (callFunc 67 args).run Tryd.prog w = .ok (.enter 67 args) w := by intro args w; go_simp
abbrev modv (n o s : Nat) : Value := .agg (modx n o s).toArray
theorem ex_build39 {ρ : Operand → Value} {o : Oper} {x y : Operand} {n : Nat} {w : World} (ho : o.op = .build 87 #[(0, x), (1, y)]) (hx : ρ x = N n) (hy : ρ y = .int .u64 (wrapZ (wd n 0))) : (execOp ρ o).run Tryd.prog w = .ok (.value (modv n 0 0)) w := by
  simp only [execOp, ho]
  go_simp
  simp [wd_zero]
theorem ex_box39 {ρ : Operand → Value} {o : Oper} {x : Operand} {n : Nat} {w : World} (ho : o.op = .box 87 x) (hx : ρ x = modv n 0 0) :
    (execOp ρ o).run Tryd.prog w = .ok (.value (.pointer (some ⟨w.heap.size, 0, none⟩))) (w.alloc (.cells (modx n 0 0).toArray 87)) := by
  simp only [execOp, ho, hx]
  go_simp
theorem word_mod (n : Nat) : (wd n 0).tmod 2 = ((n % 2 : Nat) : Int) := by
  have h0 : wd n 0 = ((n % 18446744073709551616 : Nat) : Int) := by unfold wd; rw [Nat.mul_zero, Nat.pow_zero, Nat.div_one]
  rw [h0]
  rw [Int.tmod_eq_emod_of_nonneg (by omega)]; omega
theorem len_ok {n : Nat} (ok : Ok n) : ¬ (382 : Int) < (bl n : Nat) := by
  have h := ok.top
  obtain ⟨m, hm, e⟩ := big_pow
  have h5 : big = 4 * 2 ^ (64 * m - 2) := by
    rw [e]
    have : 64 * m = 2 + (64 * m - 2) := by omega
    rw [this, Nat.pow_add, show 2 + (64 * m - 2) - 2 = 64 * m - 2 by omega]
  have := bl_le_of n (64 * m - 2) (by omega)
  omega
end Rg
end Go.Proofs.YtkkloakcphigeaaDoor
end
section
namespace Go.Proofs.YtkkloakcphigeaaDoor
open Go.RowKit
end Go.Proofs.YtkkloakcphigeaaDoor
end
section
namespace Go.Proofs.YtkkloakcphigeaaDoor
open Go.RowKit
namespace Rg
end Rg
end Go.Proofs.YtkkloakcphigeaaDoor
end
section
namespace Go.Proofs.YtkkloakcphigeaaDoor
open Go.RowKit
namespace Rg
theorem call75 : ∀ args w, (callFunc 75 args).run Tryd.prog w = .ok (.enter 75 args) w := by intro args w; go_simp
theorem call79 : ∀ args w, (callFunc 79 args).run Tryd.prog w = .ok (.enter 79 args) w := by intro args w; go_simp
theorem ex_loadI {ρ : Operand → Value} {o : Oper} {x : Operand} {g off : Nat} {v : Value} {cs : List Value} {w : World} {l : List (Nat × List Value)} (h : Mm w l) (k : Nat) (hk : l[k]? = some (g, cs)) (ho : o.op = .load 3 x) (hx : ρ x = PT g off) (hc : cs[off]? = some v) :
    (execOp ρ o).run Tryd.prog w = .ok (.value v) w := by
  have c0 := h.cell (List.mem_of_getElem? hk) hc
  clear h hk hc
  simp only [execOp, ho, hx]
  go_simp
theorem ex_loadB {ρ : Operand → Value} {o : Oper} {x : Operand} {g off : Nat} {v : Value} {cs : List Value} {w : World} {l : List (Nat × List Value)} (h : Mm w l) (k : Nat) (hk : l[k]? = some (g, cs)) (ho : o.op = .load 4 x) (hx : ρ x = PT g off) (hc : cs[off]? = some v) :
    (execOp ρ o).run Tryd.prog w = .ok (.value v) w := by
  have c0 := h.cell (List.mem_of_getElem? hk) hc
  clear h hk hc
  simp only [execOp, ho, hx]
  go_simp
/-- The table of math/bits. -/
def dtab : List Value := Lib.deBruijn64tab.map fun k => .int .u8 ((k : Nat) : Int)
theorem tab_at {w : World} (h : Mm w [(2, dtab)]) : TabAt 2 Lib.deBruijn64tab w := fun j hj => by
  refine h.get 0 rfl j ?_
  unfold dtab
  rw [List.getElem?_map, List.getElem?_eq_getElem hj, Option.map_some, List.getD_eq_getElem?_getD, List.getElem?_eq_getElem hj, Option.getD_some]
theorem tz_word (x : Nat) (hx : x < 18446744073709551616) (w : World) (ht : Mm w [(2, dtab)]) : Calls Tryd.prog 79 #[.int .u64 x] w fun e w' => e = .returned (.int .i64 (Lib.ctz 64 x)) ∧ Below w.heap.size w w' :=
  (Any7.bits_TrailingZeros64 Tryd.lays29 x hx w (fun _ => tab_at ht)).mono fun _ _ ⟨h1, h2⟩ => ⟨h1, h2 ▸ Below.refl _ _⟩
/-- What stands in memory of a walk. -/
abbrev wkc (o r u v : Nat) (h : Int) (t : Bool) : List Value := [.int .u64 (wd o 0), .int .u64 (wd o 1), .int .u64 (wd o 2), .int .u64 (wd o 3), .int .u64 (wd o 4), .int .u64 (wd o 5), .int .u64 (wd r 0), .int .u64 (wd r 1), .int .u64 (wd r 2), .int .u64 (wd r 3), .int .u64 (wd r 4), .int .u64 (wd r 5), .int .u64 (wd u 0), .int .u64 (wd u 1), .int .u64 (wd u 2), .int .u64 (wd u 3), .int .u64 (wd u 4), .int .u64 (wd u 5), .int .u64 (wd v 0), .int .u64 (wd v 1), .int .u64 (wd v 2), .int .u64 (wd v 3), .int .u64 (wd v 4), .int .u64 (wd v 5), .int .i64 h, .bool t]
set_option maxRecDepth 100000 in
theorem trailing_gen (r m c : Nat) (hm6 : m < 6) (hc64 : c ≤ 64) (hz0 : ∀ j, j < m → wd r j = 0) (hm0 : wd r m ≠ 0)
    (c72 : ∀ w, Mm w [(2, dtab)] → Calls Tryd.prog 79 #[.int .u64 (wd r m)] w fun e w' => e = .returned (.int .i64 ((c : Nat) : Int)) ∧ Below w.heap.size w w') (w : World) (hm : Mm w [(2, dtab)]) :
    Calls Tryd.prog 75 #[N r] w fun e w' => e = .returned (.int .i64 ((64 * m + c : Nat) : Int)) ∧ Below w.heap.size w w' := by
  have H0 : Hid (_ ∧ _) := ⟨hm, Below.refl w.heap.size w⟩
  clear hm
  have C72 : Hid _ := c72
  have HZ : Hid _ := hz0
  have HM : Hid _ := hm0
  clear c72 hz0 hm0
  go_enter Tryd.func75, Tryd.ntmps75
  refine wp_seq ?_
  refine walk_seqA 2 [.made (cells6 r) 33, .quiet (.int .i64 0)] (sB H0) ?ho1 ?he1
  case ho1 => exact ak (fun γ => ⟨rfl, fun w' => ex_box6 rfl rfl⟩) (ak (fun _ => ⟨rfl, fun _ _ => rfl⟩) trivial)
  intro γ w1 l hM hl
  have H1 : Hid (Mm w1 [(γ 0, cells6 r), (2, dtab)] ∧ _) := growB H0 hM (Nat.le_refl _) hl [0] rfl (by decide)
  have o1_0 := ownB H0 hM (Nat.le_refl _) hl (i := 0) rfl
  clear hM hl l
  generalize γ 0 = γ1_0 at H1 o1_0 ⊢
  clear γ
  refine rest0 rfl (then_normal (wp_seq (wp_seq ?_)))
  refine walk_seqB 2 [.quiet (N r), .quiet (.int .i64 0)] H1 ?ho2 ?he2
  case ho2 => exact ak (fun γ => ⟨rfl, fun w' h => ex_load6 h 0 rfl rfl rfl rfl⟩) (ak (fun _ => ⟨rfl, fun _ _ => rfl⟩) trivial)
  intro _ w2 H2
  clear H1
  refine rest0 rfl (then_normal (wp_block ?_))
  refine loop_ghost (α := Nat) (fun i a' w' => ∃ s0 : Nat → Value, a' = ⟨#[N r, PT γ1_0 0, s0 2, s0 3, s0 4, N r, .int .i64 ((i : Nat) : Int), s0 7, s0 8, s0 9, s0 10, s0 11, s0 12, s0 13, s0 14, s0 15, s0 16, s0 17], []⟩ ∧ (Mm w' [(γ1_0, cells6 r), (2, dtab)] ∧ Below w.heap.size w w') ∧ i ≤ m) (fun i => m - i) 0 ?st0 ?rd0
  case st0 => exact ⟨(slotfn [undef, undef, .int .i64 0, undef, undef, undef, undef, undef, undef, undef, undef, undef, undef, undef, undef, undef, undef, undef]), rfl, ⟨H2.out.1, H2.out.2⟩, by omega⟩
  intro i a' w3 hI
  obtain ⟨s0, rfl, hMB, hk0⟩ := hI
  have H3 : Hid (_ ∧ _) := hMB
  clear hMB H2
  have hi6 : i < 6 := by omega
  by_cases hz : wd r i = 0
  · have hrd : True := trivial
    clear hrd
    have hz' : wd r i = 0 := hz
    refine wp_seq ?_
    refine walk_seqB 1 [.quiet (.bool true)] H3 ?ho3 ?he3
    case ho3 => exact ak (by refine fun γ => ⟨rfl, fun w' h => ?_⟩; clear h; go_simp <;> omega) trivial
    intro _ w4 H4
    clear H3
    refine rest0 rfl (then_normal (wp_seq ?_))
    refine wp_cond_true rfl (wp_skip ?_)
    refine then_normal (wp_seq ?_)
    refine wp_block (wp_seq ?_)
    refine walk_seqB 4 [.quiet (.int .i64 ((i : Nat) : Int)), .quiet (.int .u64 (wd r i)), .quiet (.int .i64 ((i : Nat) : Int)), .quiet (.int .u64 (wd r i))] H4 ?ho4 ?he4
    case ho4 => exact ak (fun _ => ⟨rfl, fun _ _ => rfl⟩) (ak (fun γ => ⟨rfl, fun w' _ => ex_index6 rfl rfl rfl hi6⟩) (ak (fun _ => ⟨rfl, fun _ _ => rfl⟩) (ak (fun _ => ⟨rfl, fun _ _ => rfl⟩) trivial)))
    intro _ w5 H5
    clear H4
    refine rest0 rfl (then_normal (wp_seq ?_))
    refine walk_seqB 2 [.quiet (.int .u64 (wd r i)), .quiet (.bool false)] H5 ?ho5 ?he5
    case ho5 => exact ak (fun _ => ⟨rfl, fun _ _ => rfl⟩) (ak (by refine fun γ => ⟨rfl, fun w' h => ?_⟩; clear h; go_simp <;> omega) trivial)
    intro _ w6 H6
    clear H5
    refine rest0 rfl (then_normal (wp_cond_false rfl ?_))
    refine wp_skip (block_normal (then_normal ?_))
    refine walk_seqB 1 [.quiet (.int .i64 ((i + 1 : Nat) : Int))] H6 ?ho6 ?he6
    case ho6 => exact ak (by refine fun γ => ⟨rfl, fun w' h => ?_⟩; clear h; go_simp; rw [IntKind.wrap_i64]; omega) trivial
    intro _ w7 H7
    clear H6
    refine rest_at (l := [1]) rfl ?_
    refine rest_set (d := 6) rfl rfl rfl rfl ?_
    simp only [Act.put, sa, sz, ss]
    refine rest_nil (then_normal ?_)
    exact ⟨i + 1, ⟨(slotfn [undef, undef, s0 2, .int .i64 ((i : Nat) : Int), .int .u64 (wd r i), undef, undef, .bool true, .int .i64 ((i : Nat) : Int), .int .u64 (wd r i), .int .u64 (wd r i), .bool false, s0 12, s0 13, s0 14, s0 15, s0 16, .int .i64 ((i + 1 : Nat) : Int)]), rfl, ⟨H7.out.1, H7.out.2⟩, by have h1 : i ≠ m := fun e => HM.out (e ▸ hz'); omega⟩, by have h1 : i ≠ m := fun e => HM.out (e ▸ hz'); omega⟩
  · have hrd : True := trivial
    clear hrd
    have hij : i = m := by
      apply Classical.byContradiction
      intro hne
      exact hz (HZ.out i (by omega))
    subst hij
    refine wp_seq ?_
    refine walk_seqB 1 [.quiet (.bool true)] H3 ?ho7 ?he7
    case ho7 => exact ak (by refine fun γ => ⟨rfl, fun w' h => ?_⟩; clear h; go_simp <;> omega) trivial
    intro _ w8 H8
    clear H3
    refine rest0 rfl (then_normal (wp_seq ?_))
    refine wp_cond_true rfl (wp_skip ?_)
    refine then_normal (wp_seq ?_)
    refine wp_block (wp_seq ?_)
    refine walk_seqB 4 [.quiet (.int .i64 ((i : Nat) : Int)), .quiet (.int .u64 (wd r i)), .quiet (.int .i64 ((i : Nat) : Int)), .quiet (.int .u64 (wd r i))] H8 ?ho8 ?he8
    case ho8 => exact ak (fun _ => ⟨rfl, fun _ _ => rfl⟩) (ak (fun γ => ⟨rfl, fun w' _ => ex_index6 rfl rfl rfl hi6⟩) (ak (fun _ => ⟨rfl, fun _ _ => rfl⟩) (ak (fun _ => ⟨rfl, fun _ _ => rfl⟩) trivial)))
    intro _ w9 H9
    clear H8
    refine rest0 rfl (then_normal (wp_seq ?_))
    refine walk_seqB 2 [.quiet (.int .u64 (wd r i)), .quiet (.bool true)] H9 ?ho9 ?he9
    case ho9 => exact ak (fun _ => ⟨rfl, fun _ _ => rfl⟩) (ak (by refine fun γ => ⟨rfl, fun w' h => ?_⟩; clear h; go_simp <;> omega) trivial)
    intro _ w10 H10
    clear H9
    refine rest0 rfl (then_normal (wp_cond_true rfl (wp_seq ?_)))
    refine walk_seqB 6 [.quiet (.int .i64 ((i : Nat) : Int)), .quiet (.int .i64 ((64 * i : Nat) : Int)), .quiet (.int .u64 (wd r i)), .call (.int .i64 ((c : Nat) : Int)), .quiet (.int .i64 ((64 * i + c : Nat) : Int)), .quiet (.int .i64 ((64 * i + c : Nat) : Int))] H10 ?ho10 ?he10
    case ho10 => exact ak (fun _ => ⟨rfl, fun _ _ => rfl⟩) (ak (by refine fun γ => ⟨rfl, fun w' h => ?_⟩; clear h; go_simp; rw [IntKind.wrap_i64]; omega) (ak (fun _ => ⟨rfl, fun _ _ => rfl⟩) (ak (fun γ => ⟨rfl, fun w' h => ⟨79, #[.int .u64 (wd r i)], exec_call rfl call79 rfl (mpn rfl), C72.out w' (h.one 1 rfl)⟩⟩) (ak (by refine fun γ => ⟨rfl, fun w' h => ?_⟩; clear h; go_simp; rw [IntKind.wrap_i64]; omega) (ak (fun _ => ⟨rfl, fun _ _ => rfl⟩) trivial)))))
    intro _ w11 H11
    clear H10
    refine rest0 rfl (then_normal (wp_ret ?_))
    repeat (first | refine then_ret ?_ | refine block_ret ?_)
    refine bodyPost_ret (v := .int .i64 ((64 * i + c : Nat) : Int)) (by simp [results, Tryd.results75, go_sem, *]) rfl ?_
    exact ⟨rfl, H11.out.2⟩
set_option maxRecDepth 100000 in
theorem halve_gen (g o r u v k r' u' : Nat) (h : Int) (t : Bool) (hk : k < 384) (h0 : 0 ≤ h) (h1 : h < 10000)
    (c66 : ∀ w, Mm w [(2, dtab)] → Calls Tryd.prog 75 #[N r] w fun e w' => e = .returned (.int .i64 ((k : Nat) : Int)) ∧ Below w.heap.size w w')
    (c53 : ∀ w, Calls Tryd.prog 36 #[N r, .int .i64 (-((k : Nat) : Int))] w fun e w' => e = .returned (N r') ∧ Below w.heap.size w w')
    (d53 : ∀ w, Calls Tryd.prog 36 #[N u, .int .i64 ((k : Nat) : Int)] w fun e w' => e = .returned (N u') ∧ Below w.heap.size w w') (w : World) (hm : Mm w [(g, wkc o r u v h t), (2, dtab)]) :
    Calls Tryd.prog 56 #[PT g 0] w fun e w' => e = .returned (.tuple #[]) ∧ Mm w' [(g, wkc o r' u' v (h + ((k : Nat) : Int)) t)] ∧ Kp g w w' := by
  have H0 : Hid (_ ∧ _) := ⟨hm, Kp.refl g w⟩
  clear hm
  have C66 : Hid _ := c66
  have C53 : Hid _ := c53
  have D53 : Hid _ := d53
  clear c66 c53 d53
  go_enter Tryd.func56, Tryd.ntmps56
  refine wp_seq ?_
  refine walk_seqA 6 [.quiet (PT g 0), .quiet (PT g 0), .quiet (PT g 6), .quiet (N r), .call (.int .i64 ((k : Nat) : Int)), .quiet (.int .i64 ((k : Nat) : Int))] (sB H0) ?ho1 ?he1
  case ho1 => exact ak (fun _ => ⟨rfl, fun _ _ => rfl⟩) (ak (by refine fun γ => ⟨rfl, fun w' hh => ?_⟩; clear hh; go_simp) (ak (by refine fun γ => ⟨rfl, fun w' hh => ?_⟩; clear hh; go_simp) (ak (fun γ => ⟨rfl, fun w' hh => ex_load6 hh 0 rfl rfl rfl rfl⟩) (ak (fun γ => ⟨rfl, fun w' hh => ⟨75, #[N r], exec_call rfl call75 rfl (mpn rfl), C66.out w' (hh.one 1 rfl)⟩⟩) (ak (fun _ => ⟨rfl, fun _ _ => rfl⟩) trivial)))))
  intro γ w1 l hM hl
  have H1 := keepK H0 hM.below
  clear hM hl l γ
  refine rest0 rfl (then_normal (wp_seq ?_))
  refine walk_seqA 10 [.quiet (PT g 0), .quiet (PT g 0), .quiet (PT g 0), .quiet (PT g 6), .quiet (N r), .quiet (.int .i64 ((k : Nat) : Int)), .quiet (.int .i64 (-((k : Nat) : Int))), .call (N r'), .quiet (PT g 0), .quiet (PT g 6)] (sB H1) ?ho2 ?he2
  case ho2 => exact ak (fun _ => ⟨rfl, fun _ _ => rfl⟩) (ak (fun _ => ⟨rfl, fun _ _ => rfl⟩) (ak (by refine fun γ => ⟨rfl, fun w' hh => ?_⟩; clear hh; go_simp) (ak (by refine fun γ => ⟨rfl, fun w' hh => ?_⟩; clear hh; go_simp) (ak (fun γ => ⟨rfl, fun w' hh => ex_load6 hh 0 rfl rfl rfl rfl⟩) (ak (fun _ => ⟨rfl, fun _ _ => rfl⟩) (ak (by refine fun γ => ⟨rfl, fun w' hh => ?_⟩; clear hh; go_simp; rw [IntKind.wrap_i64]; omega) (ak (fun γ => ⟨rfl, fun w' hh => ⟨36, #[N r, .int .i64 (-((k : Nat) : Int))], exec_call rfl call36 rfl (mpn rfl), C53.out w'⟩⟩) (ak (by refine fun γ => ⟨rfl, fun w' hh => ?_⟩; clear hh; go_simp) (ak (by refine fun γ => ⟨rfl, fun w' hh => ?_⟩; clear hh; go_simp) trivial)))))))))
  intro γ w2 l hM hl
  have H2 := keepK H1 hM.below
  clear hM hl l H1 γ
  refine rest_at (l := [10]) rfl ?_
  refine rest_store rfl rfl rfl (ex_store6 H2.out.1 0 rfl rfl rfl rfl (Nat.le_of_ble_eq_true rfl)) ?_
  have H3 : Hid (Mm (w2.setCells g 6 (cells6 r')) [(g, wkc o r' u v h t), (2, dtab)] ∧ Kp g w (w2.setCells g 6 (cells6 r'))) := ⟨H2.out.1.put 0 (off := 6) (vs := cells6 r') rfl (Nat.le_of_ble_eq_true rfl), H2.out.2.put (Or.inl rfl)⟩
  clear H2
  generalize hgw : World.setCells _ _ _ _ = w3 at H3 ⊢
  clear hgw
  refine rest_nil (then_normal (wp_seq ?_))
  refine walk_seqA 9 [.quiet (PT g 0), .quiet (PT g 0), .quiet (PT g 0), .quiet (PT g 12), .quiet (N u), .quiet (.int .i64 ((k : Nat) : Int)), .call (N u'), .quiet (PT g 0), .quiet (PT g 12)] (sB H3) ?ho3 ?he3
  case ho3 => exact ak (fun _ => ⟨rfl, fun _ _ => rfl⟩) (ak (fun _ => ⟨rfl, fun _ _ => rfl⟩) (ak (by refine fun γ => ⟨rfl, fun w' hh => ?_⟩; clear hh; go_simp) (ak (by refine fun γ => ⟨rfl, fun w' hh => ?_⟩; clear hh; go_simp) (ak (fun γ => ⟨rfl, fun w' hh => ex_load6 hh 0 rfl rfl rfl rfl⟩) (ak (fun _ => ⟨rfl, fun _ _ => rfl⟩) (ak (fun γ => ⟨rfl, fun w' hh => ⟨36, #[N u, .int .i64 ((k : Nat) : Int)], exec_call rfl call36 rfl (mpn rfl), D53.out w'⟩⟩) (ak (by refine fun γ => ⟨rfl, fun w' hh => ?_⟩; clear hh; go_simp) (ak (by refine fun γ => ⟨rfl, fun w' hh => ?_⟩; clear hh; go_simp) trivial))))))))
  intro γ w4 l hM hl
  have H4 := keepK H3 hM.below
  clear hM hl l H3 γ
  refine rest_at (l := [9]) rfl ?_
  refine rest_store rfl rfl rfl (ex_store6 H4.out.1 0 rfl rfl rfl rfl (Nat.le_of_ble_eq_true rfl)) ?_
  have H5 : Hid (Mm (w4.setCells g 12 (cells6 u')) [(g, wkc o r' u' v h t), (2, dtab)] ∧ Kp g w (w4.setCells g 12 (cells6 u'))) := ⟨H4.out.1.put 0 (off := 12) (vs := cells6 u') rfl (Nat.le_of_ble_eq_true rfl), H4.out.2.put (Or.inl rfl)⟩
  clear H4
  generalize hgw : World.setCells _ _ _ _ = w5 at H5 ⊢
  clear hgw
  refine rest_nil (then_normal ?_)
  refine walk_seqA 8 [.quiet (PT g 0), .quiet (PT g 0), .quiet (PT g 24), .quiet (.int .i64 h), .quiet (.int .i64 ((k : Nat) : Int)), .quiet (.int .i64 (h + ((k : Nat) : Int))), .quiet (PT g 0), .quiet (PT g 24)] (sB H5) ?ho4 ?he4
  case ho4 => exact ak (fun _ => ⟨rfl, fun _ _ => rfl⟩) (ak (by refine fun γ => ⟨rfl, fun w' hh => ?_⟩; clear hh; go_simp) (ak (by refine fun γ => ⟨rfl, fun w' hh => ?_⟩; clear hh; go_simp) (ak (fun γ => ⟨rfl, fun w' hh => ex_loadI hh 0 rfl rfl rfl rfl⟩) (ak (fun _ => ⟨rfl, fun _ _ => rfl⟩) (ak (by refine fun γ => ⟨rfl, fun w' hh => ?_⟩; clear hh; go_simp; rw [IntKind.wrap_i64]; omega) (ak (by refine fun γ => ⟨rfl, fun w' hh => ?_⟩; clear hh; go_simp) (ak (by refine fun γ => ⟨rfl, fun w' hh => ?_⟩; clear hh; go_simp) trivial)))))))
  intro γ w6 l hM hl
  have H6 := keepK H5 hM.below
  clear hM hl l H5 γ
  refine rest_at (l := [8]) rfl ?_
  refine rest_store rfl rfl rfl (ex_storeI H6.out.1 0 rfl rfl Tryd.sizeOf3 rfl rfl (Nat.le_of_ble_eq_true rfl)) ?_
  have H7 : Hid (Mm (w6.setCells g 24 ([.int .i64 (h + ((k : Nat) : Int))])) [(g, wkc o r' u' v (h + ((k : Nat) : Int)) t), (2, dtab)] ∧ Kp g w (w6.setCells g 24 ([.int .i64 (h + ((k : Nat) : Int))]))) := ⟨H6.out.1.put 0 (off := 24) (vs := [.int .i64 (h + ((k : Nat) : Int))]) rfl (Nat.le_of_ble_eq_true rfl), H6.out.2.put (Or.inl rfl)⟩
  clear H6
  generalize hgw : World.setCells _ _ _ _ = w7 at H7 ⊢
  clear hgw
  refine rest_nil ?_
  refine bodyPost_end (v := .tuple #[]) (by simp [results, Tryd.results56, go_sem]) rfl ?_
  exact ⟨rfl, H7.out.1.one 0 rfl, H7.out.2⟩
set_option maxRecDepth 100000 in
theorem subtract_1 (g o r u v x y : Nat) (h : Int) (t : Bool)
    (c31 : ∀ w, Calls Tryd.prog 69 #[N r, N o] w fun e w' => e = .returned (.int .i64 (-1)) ∧ Below w.heap.size w w')
    (c40 : ∀ w, Calls Tryd.prog 53 #[N o, N r] w fun e w' => e = .returned (.tuple #[N x, .bool false]) ∧ Below w.heap.size w w')
    (c45 : ∀ w, Calls Tryd.prog 55 #[N u, N v] w fun e w' => e = .returned (.tuple #[N y, .bool false]) ∧ Below w.heap.size w w') (w : World) (hm : Mm w [(g, wkc o r u v h t)]) :
    Calls Tryd.prog 57 #[PT g 0] w fun e w' => e = .returned (.tuple #[]) ∧ Mm w' [(g, wkc r x v y h (!t))] ∧ Kp g w w' := by
  have H0 : Hid (_ ∧ _) := ⟨hm, Kp.refl g w⟩
  clear hm
  have C31 : Hid _ := c31
  have C40 : Hid _ := c40
  have C45 : Hid _ := c45
  clear c31 c40 c45
  go_enter Tryd.func57, Tryd.ntmps57
  refine wp_seq (wp_seq ?_)
  refine walk_anyA 10 [.quiet (PT g 0), .quiet (PT g 0), .quiet (PT g 6), .quiet (N r), .quiet (PT g 0), .quiet (PT g 0), .quiet (PT g 0), .quiet (N o), .call (.int .i64 (-1)), .quiet (.bool true)] (sB H0) ?ho1 ?he1
  case ho1 => exact ak (fun _ => ⟨rfl, fun _ _ => rfl⟩) (ak (by refine fun γ => ⟨rfl, fun w' hh => ?_⟩; clear hh; go_simp) (ak (by refine fun γ => ⟨rfl, fun w' hh => ?_⟩; clear hh; go_simp) (ak (fun γ => ⟨rfl, fun w' hh => ex_load6 hh 0 rfl rfl rfl rfl⟩) (ak (fun _ => ⟨rfl, fun _ _ => rfl⟩) (ak (by refine fun γ => ⟨rfl, fun w' hh => ?_⟩; clear hh; go_simp) (ak (by refine fun γ => ⟨rfl, fun w' hh => ?_⟩; clear hh; go_simp) (ak (fun γ => ⟨rfl, fun w' hh => ex_load6 hh 0 rfl rfl rfl rfl⟩) (ak (fun γ => ⟨rfl, fun w' hh => ⟨69, #[N r, N o], exec_call rfl call69 rfl (mpn rfl), C31.out w'⟩⟩) (ak (by refine fun γ => ⟨rfl, fun w' hh => ?_⟩; clear hh; go_simp) trivial)))))))))
  intro γ w1 l hM hl
  have H1 := keepK H0 hM.below
  clear hM hl l γ
  refine rest0 rfl (then_normal (wp_cond_true rfl (wp_seq ?_)))
  refine walk_put (by kernel_rfl) 12 [1] [.quiet (PT g 0), .quiet (PT g 0), .quiet (PT g 0), .quiet (PT g 0), .quiet (PT g 6), .quiet (N r), .quiet (PT g 0), .quiet (PT g 0), .quiet (PT g 0), .quiet (N o), .quiet (PT g 0), .quiet (PT g 0)] _ ?pre2 ?F2 _ ?hpre2 (fun γ => ?hF2) (by kernel_rfl) rfl trivial (sB H1) ?ho2 ?hla2 ?he2
  case hpre2 => simp only [tk, tz]; rfl
  case hF2 => simp only [fill, Kind.val, Act.put, sa, sz, ss]; rfl
  case ho2 =>
    refine ak (fun _ => ⟨rfl, fun _ _ => rfl⟩) ?_
    refine ak (fun _ => ⟨rfl, fun _ _ => rfl⟩) ?_
    refine ak (fun _ => ⟨rfl, fun _ _ => rfl⟩) ?_
    refine ak (by refine fun γ => ⟨rfl, fun w' hh => ?_⟩; clear hh; go_simp) ?_
    refine ak (by refine fun γ => ⟨rfl, fun w' hh => ?_⟩; clear hh; go_simp) ?_
    refine ak (fun γ => ⟨rfl, fun w' hh => ex_load6 hh 0 rfl rfl rfl rfl⟩) ?_
    refine ak (fun _ => ⟨rfl, fun _ _ => rfl⟩) ?_
    refine ak (by refine fun γ => ⟨rfl, fun w' hh => ?_⟩; clear hh; go_simp) ?_
    refine ak (by refine fun γ => ⟨rfl, fun w' hh => ?_⟩; clear hh; go_simp) ?_
    refine ak (fun γ => ⟨rfl, fun w' hh => ex_load6 hh 0 rfl rfl rfl rfl⟩) ?_
    refine ak (by refine fun γ => ⟨rfl, fun w' hh => ?_⟩; clear hh; go_simp) ?_
    refine ak (by refine fun γ => ⟨rfl, fun w' hh => ?_⟩; clear hh; go_simp) ?_
    exact trivial
  case hla2 => exact ⟨⟨_, _, rfl, rfl, fun γ => ⟨rfl, fun w' => by first | rfl | go_simp⟩⟩, trivial⟩
  intro γ w2 l hM hl
  have H2 := keepK H1 hM.below
  clear hM hl l H1 γ
  refine ⟨_, ex_store6 H2.out.1 0 rfl rfl rfl rfl (Nat.le_of_ble_eq_true rfl), ?_⟩
  have H3 : Hid (Mm (w2.setCells g 0 (cells6 r)) [(g, wkc r r u v h t)] ∧ Kp g w (w2.setCells g 0 (cells6 r))) := ⟨H2.out.1.put 0 (off := 0) (vs := cells6 r) rfl (Nat.le_of_ble_eq_true rfl), H2.out.2.put (Or.inl rfl)⟩
  clear H2
  generalize hgw : World.setCells _ _ _ _ = w3 at H3 ⊢
  clear hgw
  refine rest_at (l := [13, 14, 15]) rfl ?_
  refine rest_set (d := 24) (v := PT g 0) (w' := w3) rfl rfl rfl (by go_simp) ?_
  simp only [Act.put, sa, sz, ss]
  refine rest_set (d := 25) (v := PT g 6) (w' := w3) rfl rfl rfl (by go_simp) ?_
  simp only [Act.put, sa, sz, ss]
  refine rest_store rfl rfl rfl (ex_store6 H3.out.1 0 rfl rfl rfl rfl (Nat.le_of_ble_eq_true rfl)) ?_
  have H4 : Hid (Mm (w3.setCells g 6 (cells6 o)) [(g, wkc r o u v h t)] ∧ Kp g w (w3.setCells g 6 (cells6 o))) := ⟨H3.out.1.put 0 (off := 6) (vs := cells6 o) rfl (Nat.le_of_ble_eq_true rfl), H3.out.2.put (Or.inl rfl)⟩
  clear H3
  generalize hgw : World.setCells _ _ _ _ = w4 at H4 ⊢
  clear hgw
  refine rest_nil (then_normal (wp_seq ?_))
  refine walk_put (by kernel_rfl) 12 [1] [.quiet (PT g 0), .quiet (PT g 0), .quiet (PT g 0), .quiet (PT g 0), .quiet (PT g 18), .quiet (N v), .quiet (PT g 0), .quiet (PT g 0), .quiet (PT g 12), .quiet (N u), .quiet (PT g 0), .quiet (PT g 12)] _ ?pre3 ?F3 _ ?hpre3 (fun γ => ?hF3) (by kernel_rfl) rfl trivial (sB H4) ?ho3 ?hla3 ?he3
  case hpre3 => simp only [tk, tz]; rfl
  case hF3 => simp only [fill, Kind.val, Act.put, sa, sz, ss]; rfl
  case ho3 =>
    refine ak (fun _ => ⟨rfl, fun _ _ => rfl⟩) ?_
    refine ak (fun _ => ⟨rfl, fun _ _ => rfl⟩) ?_
    refine ak (fun _ => ⟨rfl, fun _ _ => rfl⟩) ?_
    refine ak (by refine fun γ => ⟨rfl, fun w' hh => ?_⟩; clear hh; go_simp) ?_
    refine ak (by refine fun γ => ⟨rfl, fun w' hh => ?_⟩; clear hh; go_simp) ?_
    refine ak (fun γ => ⟨rfl, fun w' hh => ex_load6 hh 0 rfl rfl rfl rfl⟩) ?_
    refine ak (fun _ => ⟨rfl, fun _ _ => rfl⟩) ?_
    refine ak (by refine fun γ => ⟨rfl, fun w' hh => ?_⟩; clear hh; go_simp) ?_
    refine ak (by refine fun γ => ⟨rfl, fun w' hh => ?_⟩; clear hh; go_simp) ?_
    refine ak (fun γ => ⟨rfl, fun w' hh => ex_load6 hh 0 rfl rfl rfl rfl⟩) ?_
    refine ak (by refine fun γ => ⟨rfl, fun w' hh => ?_⟩; clear hh; go_simp) ?_
    refine ak (by refine fun γ => ⟨rfl, fun w' hh => ?_⟩; clear hh; go_simp) ?_
    exact trivial
  case hla3 => exact ⟨⟨_, _, rfl, rfl, fun γ => ⟨rfl, fun w' => by first | rfl | go_simp⟩⟩, trivial⟩
  intro γ w5 l hM hl
  have H5 := keepK H4 hM.below
  clear hM hl l H4 γ
  refine ⟨_, ex_store6 H5.out.1 0 rfl rfl rfl rfl (Nat.le_of_ble_eq_true rfl), ?_⟩
  have H6 : Hid (Mm (w5.setCells g 12 (cells6 v)) [(g, wkc r o v v h t)] ∧ Kp g w (w5.setCells g 12 (cells6 v))) := ⟨H5.out.1.put 0 (off := 12) (vs := cells6 v) rfl (Nat.le_of_ble_eq_true rfl), H5.out.2.put (Or.inl rfl)⟩
  clear H5
  generalize hgw : World.setCells _ _ _ _ = w6 at H6 ⊢
  clear hgw
  refine rest_at (l := [13, 14, 15]) rfl ?_
  refine rest_set (d := 38) (v := PT g 0) (w' := w6) rfl rfl rfl (by go_simp) ?_
  simp only [Act.put, sa, sz, ss]
  refine rest_set (d := 39) (v := PT g 18) (w' := w6) rfl rfl rfl (by go_simp) ?_
  simp only [Act.put, sa, sz, ss]
  refine rest_store rfl rfl rfl (ex_store6 H6.out.1 0 rfl rfl rfl rfl (Nat.le_of_ble_eq_true rfl)) ?_
  have H7 : Hid (Mm (w6.setCells g 18 (cells6 u)) [(g, wkc r o v u h t)] ∧ Kp g w (w6.setCells g 18 (cells6 u))) := ⟨H6.out.1.put 0 (off := 18) (vs := cells6 u) rfl (Nat.le_of_ble_eq_true rfl), H6.out.2.put (Or.inl rfl)⟩
  clear H6
  generalize hgw : World.setCells _ _ _ _ = w7 at H7 ⊢
  clear hgw
  refine rest_nil (then_normal ?_)
  refine walk_seqA 8 [.quiet (PT g 0), .quiet (PT g 0), .quiet (PT g 0), .quiet (PT g 25), .quiet (.bool t), .quiet (.bool (!t)), .quiet (PT g 0), .quiet (PT g 25)] (sB H7) ?ho4 ?he4
  case ho4 => exact ak (fun _ => ⟨rfl, fun _ _ => rfl⟩) (ak (fun _ => ⟨rfl, fun _ _ => rfl⟩) (ak (by refine fun γ => ⟨rfl, fun w' hh => ?_⟩; clear hh; go_simp) (ak (by refine fun γ => ⟨rfl, fun w' hh => ?_⟩; clear hh; go_simp) (ak (fun γ => ⟨rfl, fun w' hh => ex_loadB hh 0 rfl rfl rfl rfl⟩) (ak (by refine fun γ => ⟨rfl, fun w' hh => ?_⟩; clear hh; go_simp) (ak (by refine fun γ => ⟨rfl, fun w' hh => ?_⟩; clear hh; go_simp) (ak (by refine fun γ => ⟨rfl, fun w' hh => ?_⟩; clear hh; go_simp) trivial)))))))
  intro γ w8 l hM hl
  have H8 := keepK H7 hM.below
  clear hM hl l H7 γ
  refine rest_at (l := [8]) rfl ?_
  refine rest_store rfl rfl rfl (ex_storeB H8.out.1 0 rfl rfl Tryd.sizeOf4 rfl rfl (Nat.le_of_ble_eq_true rfl)) ?_
  have H9 : Hid (Mm (w8.setCells g 25 ([.bool (!t)])) [(g, wkc r o v u h (!t))] ∧ Kp g w (w8.setCells g 25 ([.bool (!t)]))) := ⟨H8.out.1.put 0 (off := 25) (vs := [.bool (!t)]) rfl (Nat.le_of_ble_eq_true rfl), H8.out.2.put (Or.inl rfl)⟩
  clear H8
  generalize hgw : World.setCells _ _ _ _ = w9 at H9 ⊢
  clear hgw
  refine rest_nil (then_normal (wp_seq ?_))
  refine walk_put (by kernel_rfl) 15 [12] [.quiet (PT g 0), .quiet (PT g 0), .quiet (PT g 0), .quiet (PT g 6), .quiet (N o), .quiet (PT g 0), .quiet (PT g 0), .quiet (PT g 0), .quiet (N r), .call (.tuple #[N x, .bool false]), .quiet (.tuple #[N x, .bool false]), .quiet (N x), .quiet (.bool false), .quiet (PT g 0), .quiet (PT g 6)] _ ?pre5 ?F5 _ ?hpre5 (fun γ => ?hF5) (by kernel_rfl) rfl trivial (sB H9) ?ho5 ?hla5 ?he5
  case hpre5 => simp only [tk, tz]; rfl
  case hF5 => simp only [fill, Kind.val, Act.put, sa, sz, ss]; rfl
  case ho5 =>
    refine ak (fun _ => ⟨rfl, fun _ _ => rfl⟩) ?_
    refine ak (fun _ => ⟨rfl, fun _ _ => rfl⟩) ?_
    refine ak (by refine fun γ => ⟨rfl, fun w' hh => ?_⟩; clear hh; go_simp) ?_
    refine ak (by refine fun γ => ⟨rfl, fun w' hh => ?_⟩; clear hh; go_simp) ?_
    refine ak (fun γ => ⟨rfl, fun w' hh => ex_load6 hh 0 rfl rfl rfl rfl⟩) ?_
    refine ak (fun _ => ⟨rfl, fun _ _ => rfl⟩) ?_
    refine ak (by refine fun γ => ⟨rfl, fun w' hh => ?_⟩; clear hh; go_simp) ?_
    refine ak (by refine fun γ => ⟨rfl, fun w' hh => ?_⟩; clear hh; go_simp) ?_
    refine ak (fun γ => ⟨rfl, fun w' hh => ex_load6 hh 0 rfl rfl rfl rfl⟩) ?_
    refine ak (fun γ => ⟨rfl, fun w' hh => ⟨53, #[N o, N r], exec_call rfl call53 rfl (mpn rfl), C40.out w'⟩⟩) ?_
    refine ak (fun _ => ⟨rfl, fun _ _ => rfl⟩) ?_
    refine ak (by refine fun γ => ⟨rfl, fun w' hh => ?_⟩; clear hh; go_simp) ?_
    refine ak (by refine fun γ => ⟨rfl, fun w' hh => ?_⟩; clear hh; go_simp) ?_
    refine ak (by refine fun γ => ⟨rfl, fun w' hh => ?_⟩; clear hh; go_simp) ?_
    refine ak (by refine fun γ => ⟨rfl, fun w' hh => ?_⟩; clear hh; go_simp) ?_
    exact trivial
  case hla5 => exact ⟨⟨_, _, rfl, rfl, fun γ => ⟨rfl, fun w' => by first | rfl | go_simp⟩⟩, trivial⟩
  intro γ w10 l hM hl
  have H10 := keepK H9 hM.below
  clear hM hl l H9 γ
  refine ⟨_, ex_store6 H10.out.1 0 rfl rfl rfl rfl (Nat.le_of_ble_eq_true rfl), ?_⟩
  have H11 : Hid (Mm (w10.setCells g 6 (cells6 x)) [(g, wkc r x v u h (!t))] ∧ Kp g w (w10.setCells g 6 (cells6 x))) := ⟨H10.out.1.put 0 (off := 6) (vs := cells6 x) rfl (Nat.le_of_ble_eq_true rfl), H10.out.2.put (Or.inl rfl)⟩
  clear H10
  generalize hgw : World.setCells _ _ _ _ = w11 at H11 ⊢
  clear hgw
  refine rest0 rfl (then_normal ?_)
  refine walk_put (by kernel_rfl) 15 [12] [.quiet (PT g 0), .quiet (PT g 0), .quiet (PT g 0), .quiet (PT g 18), .quiet (N u), .quiet (PT g 0), .quiet (PT g 0), .quiet (PT g 12), .quiet (N v), .call (.tuple #[N y, .bool false]), .quiet (.tuple #[N y, .bool false]), .quiet (N y), .quiet (.bool false), .quiet (PT g 0), .quiet (PT g 18)] _ ?pre6 ?F6 _ ?hpre6 (fun γ => ?hF6) (by kernel_rfl) rfl trivial (sB H11) ?ho6 ?hla6 ?he6
  case hpre6 => simp only [tk, tz]; rfl
  case hF6 => simp only [fill, Kind.val, Act.put, sa, sz, ss]; rfl
  case ho6 =>
    refine ak (fun _ => ⟨rfl, fun _ _ => rfl⟩) ?_
    refine ak (fun _ => ⟨rfl, fun _ _ => rfl⟩) ?_
    refine ak (by refine fun γ => ⟨rfl, fun w' hh => ?_⟩; clear hh; go_simp) ?_
    refine ak (by refine fun γ => ⟨rfl, fun w' hh => ?_⟩; clear hh; go_simp) ?_
    refine ak (fun γ => ⟨rfl, fun w' hh => ex_load6 hh 0 rfl rfl rfl rfl⟩) ?_
    refine ak (fun _ => ⟨rfl, fun _ _ => rfl⟩) ?_
    refine ak (by refine fun γ => ⟨rfl, fun w' hh => ?_⟩; clear hh; go_simp) ?_
    refine ak (by refine fun γ => ⟨rfl, fun w' hh => ?_⟩; clear hh; go_simp) ?_
    refine ak (fun γ => ⟨rfl, fun w' hh => ex_load6 hh 0 rfl rfl rfl rfl⟩) ?_
    refine ak (fun γ => ⟨rfl, fun w' hh => ⟨55, #[N u, N v], exec_call rfl call55 rfl (mpn rfl), C45.out w'⟩⟩) ?_
    refine ak (fun _ => ⟨rfl, fun _ _ => rfl⟩) ?_
    refine ak (by refine fun γ => ⟨rfl, fun w' hh => ?_⟩; clear hh; go_simp) ?_
    refine ak (by refine fun γ => ⟨rfl, fun w' hh => ?_⟩; clear hh; go_simp) ?_
    refine ak (by refine fun γ => ⟨rfl, fun w' hh => ?_⟩; clear hh; go_simp) ?_
    refine ak (by refine fun γ => ⟨rfl, fun w' hh => ?_⟩; clear hh; go_simp) ?_
    exact trivial
  case hla6 => exact ⟨⟨_, _, rfl, rfl, fun γ => ⟨rfl, fun w' => by first | rfl | go_simp⟩⟩, trivial⟩
  intro γ w12 l hM hl
  have H12 := keepK H11 hM.below
  clear hM hl l H11 γ
  refine ⟨_, ex_store6 H12.out.1 0 rfl rfl rfl rfl (Nat.le_of_ble_eq_true rfl), ?_⟩
  have H13 : Hid (Mm (w12.setCells g 18 (cells6 y)) [(g, wkc r x v y h (!t))] ∧ Kp g w (w12.setCells g 18 (cells6 y))) := ⟨H12.out.1.put 0 (off := 18) (vs := cells6 y) rfl (Nat.le_of_ble_eq_true rfl), H12.out.2.put (Or.inl rfl)⟩
  clear H12
  generalize hgw : World.setCells _ _ _ _ = w13 at H13 ⊢
  clear hgw
  refine rest0 rfl ?_
  refine bodyPost_end (v := .tuple #[]) (by simp [results, Tryd.results57, go_sem]) rfl ?_
  exact ⟨rfl, H13.out.1.one 0 rfl, H13.out.2⟩
set_option maxRecDepth 100000 in
theorem subtract_2 (g o r u v x y : Nat) (h : Int) (t : Bool) (c : Int) (hc : ¬ c < 0)
    (c31 : ∀ w, Calls Tryd.prog 69 #[N r, N o] w fun e w' => e = .returned (.int .i64 c) ∧ Below w.heap.size w w')
    (c40 : ∀ w, Calls Tryd.prog 53 #[N r, N o] w fun e w' => e = .returned (.tuple #[N x, .bool false]) ∧ Below w.heap.size w w')
    (c45 : ∀ w, Calls Tryd.prog 55 #[N v, N u] w fun e w' => e = .returned (.tuple #[N y, .bool false]) ∧ Below w.heap.size w w') (w : World) (hm : Mm w [(g, wkc o r u v h t)]) :
    Calls Tryd.prog 57 #[PT g 0] w fun e w' => e = .returned (.tuple #[]) ∧ Mm w' [(g, wkc o x u y h t)] ∧ Kp g w w' := by
  have H0 : Hid (_ ∧ _) := ⟨hm, Kp.refl g w⟩
  clear hm
  have C31 : Hid _ := c31
  have C40 : Hid _ := c40
  have C45 : Hid _ := c45
  clear c31 c40 c45
  go_enter Tryd.func57, Tryd.ntmps57
  refine wp_seq (wp_seq ?_)
  refine walk_anyA 10 [.quiet (PT g 0), .quiet (PT g 0), .quiet (PT g 6), .quiet (N r), .quiet (PT g 0), .quiet (PT g 0), .quiet (PT g 0), .quiet (N o), .call (.int .i64 c), .quiet (.bool false)] (sB H0) ?ho1 ?he1
  case ho1 => exact ak (fun _ => ⟨rfl, fun _ _ => rfl⟩) (ak (by refine fun γ => ⟨rfl, fun w' hh => ?_⟩; clear hh; go_simp) (ak (by refine fun γ => ⟨rfl, fun w' hh => ?_⟩; clear hh; go_simp) (ak (fun γ => ⟨rfl, fun w' hh => ex_load6 hh 0 rfl rfl rfl rfl⟩) (ak (fun _ => ⟨rfl, fun _ _ => rfl⟩) (ak (by refine fun γ => ⟨rfl, fun w' hh => ?_⟩; clear hh; go_simp) (ak (by refine fun γ => ⟨rfl, fun w' hh => ?_⟩; clear hh; go_simp) (ak (fun γ => ⟨rfl, fun w' hh => ex_load6 hh 0 rfl rfl rfl rfl⟩) (ak (fun γ => ⟨rfl, fun w' hh => ⟨69, #[N r, N o], exec_call rfl call69 rfl (mpn rfl), C31.out w'⟩⟩) (ak (by refine fun γ => ⟨rfl, fun w' hh => ?_⟩; clear hh; go_simp) trivial)))))))))
  intro γ w1 l hM hl
  have H1 := keepK H0 hM.below
  clear hM hl l γ
  refine rest0 rfl (then_normal (wp_cond_false rfl ?_))
  refine wp_skip (then_normal (wp_seq ?_))
  refine walk_put (by kernel_rfl) 15 [12] [.quiet (PT g 0), .quiet (PT g 0), .quiet (PT g 0), .quiet (PT g 6), .quiet (N r), .quiet (PT g 0), .quiet (PT g 0), .quiet (PT g 0), .quiet (N o), .call (.tuple #[N x, .bool false]), .quiet (.tuple #[N x, .bool false]), .quiet (N x), .quiet (.bool false), .quiet (PT g 0), .quiet (PT g 6)] _ ?pre2 ?F2 _ ?hpre2 (fun γ => ?hF2) (by kernel_rfl) rfl trivial (sB H1) ?ho2 ?hla2 ?he2
  case hpre2 => simp only [tk, tz]; rfl
  case hF2 => simp only [fill, Kind.val, Act.put, sa, sz, ss]; rfl
  case ho2 =>
    refine ak (fun _ => ⟨rfl, fun _ _ => rfl⟩) ?_
    refine ak (fun _ => ⟨rfl, fun _ _ => rfl⟩) ?_
    refine ak (by refine fun γ => ⟨rfl, fun w' hh => ?_⟩; clear hh; go_simp) ?_
    refine ak (by refine fun γ => ⟨rfl, fun w' hh => ?_⟩; clear hh; go_simp) ?_
    refine ak (fun γ => ⟨rfl, fun w' hh => ex_load6 hh 0 rfl rfl rfl rfl⟩) ?_
    refine ak (fun _ => ⟨rfl, fun _ _ => rfl⟩) ?_
    refine ak (by refine fun γ => ⟨rfl, fun w' hh => ?_⟩; clear hh; go_simp) ?_
    refine ak (by refine fun γ => ⟨rfl, fun w' hh => ?_⟩; clear hh; go_simp) ?_
    refine ak (fun γ => ⟨rfl, fun w' hh => ex_load6 hh 0 rfl rfl rfl rfl⟩) ?_
    refine ak (fun γ => ⟨rfl, fun w' hh => ⟨53, #[N r, N o], exec_call rfl call53 rfl (mpn rfl), C40.out w'⟩⟩) ?_
    refine ak (fun _ => ⟨rfl, fun _ _ => rfl⟩) ?_
    refine ak (by refine fun γ => ⟨rfl, fun w' hh => ?_⟩; clear hh; go_simp) ?_
    refine ak (by refine fun γ => ⟨rfl, fun w' hh => ?_⟩; clear hh; go_simp) ?_
    refine ak (by refine fun γ => ⟨rfl, fun w' hh => ?_⟩; clear hh; go_simp) ?_
    refine ak (by refine fun γ => ⟨rfl, fun w' hh => ?_⟩; clear hh; go_simp) ?_
    exact trivial
  case hla2 => exact ⟨⟨_, _, rfl, rfl, fun γ => ⟨rfl, fun w' => by first | rfl | go_simp⟩⟩, trivial⟩
  intro γ w2 l hM hl
  have H2 := keepK H1 hM.below
  clear hM hl l H1 γ
  refine ⟨_, ex_store6 H2.out.1 0 rfl rfl rfl rfl (Nat.le_of_ble_eq_true rfl), ?_⟩
  have H3 : Hid (Mm (w2.setCells g 6 (cells6 x)) [(g, wkc o x u v h t)] ∧ Kp g w (w2.setCells g 6 (cells6 x))) := ⟨H2.out.1.put 0 (off := 6) (vs := cells6 x) rfl (Nat.le_of_ble_eq_true rfl), H2.out.2.put (Or.inl rfl)⟩
  clear H2
  generalize hgw : World.setCells _ _ _ _ = w3 at H3 ⊢
  clear hgw
  refine rest0 rfl (then_normal ?_)
  refine walk_put (by kernel_rfl) 15 [12] [.quiet (PT g 0), .quiet (PT g 0), .quiet (PT g 0), .quiet (PT g 18), .quiet (N v), .quiet (PT g 0), .quiet (PT g 0), .quiet (PT g 12), .quiet (N u), .call (.tuple #[N y, .bool false]), .quiet (.tuple #[N y, .bool false]), .quiet (N y), .quiet (.bool false), .quiet (PT g 0), .quiet (PT g 18)] _ ?pre3 ?F3 _ ?hpre3 (fun γ => ?hF3) (by kernel_rfl) rfl trivial (sB H3) ?ho3 ?hla3 ?he3
  case hpre3 => simp only [tk, tz]; rfl
  case hF3 => simp only [fill, Kind.val, Act.put, sa, sz, ss]; rfl
  case ho3 =>
    refine ak (fun _ => ⟨rfl, fun _ _ => rfl⟩) ?_
    refine ak (fun _ => ⟨rfl, fun _ _ => rfl⟩) ?_
    refine ak (by refine fun γ => ⟨rfl, fun w' hh => ?_⟩; clear hh; go_simp) ?_
    refine ak (by refine fun γ => ⟨rfl, fun w' hh => ?_⟩; clear hh; go_simp) ?_
    refine ak (fun γ => ⟨rfl, fun w' hh => ex_load6 hh 0 rfl rfl rfl rfl⟩) ?_
    refine ak (fun _ => ⟨rfl, fun _ _ => rfl⟩) ?_
    refine ak (by refine fun γ => ⟨rfl, fun w' hh => ?_⟩; clear hh; go_simp) ?_
    refine ak (by refine fun γ => ⟨rfl, fun w' hh => ?_⟩; clear hh; go_simp) ?_
    refine ak (fun γ => ⟨rfl, fun w' hh => ex_load6 hh 0 rfl rfl rfl rfl⟩) ?_
    refine ak (fun γ => ⟨rfl, fun w' hh => ⟨55, #[N v, N u], exec_call rfl call55 rfl (mpn rfl), C45.out w'⟩⟩) ?_
    refine ak (fun _ => ⟨rfl, fun _ _ => rfl⟩) ?_
    refine ak (by refine fun γ => ⟨rfl, fun w' hh => ?_⟩; clear hh; go_simp) ?_
    refine ak (by refine fun γ => ⟨rfl, fun w' hh => ?_⟩; clear hh; go_simp) ?_
    refine ak (by refine fun γ => ⟨rfl, fun w' hh => ?_⟩; clear hh; go_simp) ?_
    refine ak (by refine fun γ => ⟨rfl, fun w' hh => ?_⟩; clear hh; go_simp) ?_
    exact trivial
  case hla3 => exact ⟨⟨_, _, rfl, rfl, fun γ => ⟨rfl, fun w' => by first | rfl | go_simp⟩⟩, trivial⟩
  intro γ w4 l hM hl
  have H4 := keepK H3 hM.below
  clear hM hl l H3 γ
  refine ⟨_, ex_store6 H4.out.1 0 rfl rfl rfl rfl (Nat.le_of_ble_eq_true rfl), ?_⟩
  have H5 : Hid (Mm (w4.setCells g 18 (cells6 y)) [(g, wkc o x u y h t)] ∧ Kp g w (w4.setCells g 18 (cells6 y))) := ⟨H4.out.1.put 0 (off := 18) (vs := cells6 y) rfl (Nat.le_of_ble_eq_true rfl), H4.out.2.put (Or.inl rfl)⟩
  clear H4
  generalize hgw : World.setCells _ _ _ _ = w5 at H5 ⊢
  clear hgw
  refine rest0 rfl ?_
  refine bodyPost_end (v := .tuple #[]) (by simp [results, Tryd.results57, go_sem]) rfl ?_
  exact ⟨rfl, H5.out.1.one 0 rfl, H5.out.2⟩
end Rg
end Go.Proofs.YtkkloakcphigeaaDoor
end
section
namespace Go.Proofs.YtkkloakcphigeaaDoor
open Go.RowKit
namespace Rg
structure WS where
  o : Nat
  r : Nat
  u : Nat
  v : Nat
  h : Nat
  t : Bool
/-- What is known at each round's beginning. -/
structure WI (n a : Nat) (z : WS) : Prop where
  odd : z.o % 2 = 1
  sum : z.o * z.v + z.r * z.u = n
  un : z.u < n
  vpos : 1 ≤ z.v
  rn : z.r ≤ n
  gcd : Nat.gcd z.o z.r = Nat.gcd n a
  hb : 2 ^ z.h * (z.o * z.r) ≤ n * n
  hb1 : 2 ^ z.h ≤ n * n
  c1 : if z.t = true then Cg n (z.o * 2 ^ z.h) (z.u * a) else Cg n (z.o * 2 ^ z.h + z.u * a) 0
  c2 : if z.t = true then Cg n (z.r * 2 ^ z.h + z.v * a) 0 else Cg n (z.r * 2 ^ z.h) (z.v * a)
theorem WI.start {n a : Nat} (ok : Ok n) : WI n a ⟨n, a % n, 0, 1, 0, false⟩ := by
  have h3 := ok.three
  have hl := Nat.mod_lt a ok.pos
  refine ⟨ok.odd, by simp, ok.pos, Nat.le_refl _, Nat.le_of_lt hl, ?_, ?_, ?_, ?_, ?_⟩
  · show Nat.gcd n (a % n) = Nat.gcd n a
    rw [Nat.gcd_comm n (a % n), ← Nat.gcd_rec, Nat.gcd_comm]
  · show 2 ^ 0 * (n * (a % n)) ≤ n * n
    rw [Nat.pow_zero, Nat.one_mul]
    exact Nat.mul_le_mul_left _ (Nat.le_of_lt hl)
  · show 2 ^ 0 ≤ n * n
    have := Nat.mul_le_mul h3 h3
    rw [Nat.pow_zero]; omega
  · show Cg n (n * 2 ^ 0 + 0 * a) 0
    rw [Nat.pow_zero, Nat.zero_mul, Nat.add_zero, Nat.mul_one]
    have := Cg.zero n 1
    rwa [Nat.one_mul] at this
  · show Cg n (a % n * 2 ^ 0) (1 * a)
    rw [Nat.pow_zero, Nat.mul_one, Nat.one_mul]
    exact Cg.mod n a
theorem gcd_halve {o r1 k : Nat} (ho : o % 2 = 1) : Nat.gcd o (r1 * 2 ^ k) = Nat.gcd o r1 := by
  have hc : Nat.Coprime o (2 ^ k) := by
    apply Nat.Coprime.pow_right
    rw [Nat.coprime_comm]
    show Nat.gcd 2 o = 1
    rw [Nat.gcd_rec, ho]
    rfl
  exact Nat.Coprime.gcd_mul_right_cancel_right r1 hc.symm
theorem gcd_less {o r1 : Nat} (h : r1 ≤ o) : Nat.gcd r1 (o - r1) = Nat.gcd o r1 := by
  rw [Nat.gcd_comm o r1]
  have e : o = (o - r1) + r1 := by omega
  generalize o - r1 = d at e ⊢
  rw [e, Nat.gcd_add_self_right]
theorem WI.facts {n a o r u v h k r1 : Nat} {t : Bool} (I : WI n a ⟨o, r, u, v, h, t⟩) (hr : r ≠ 0) (er : r = r1 * 2 ^ k) : 1 ≤ r1 ∧ 1 ≤ o ∧ o ≤ n ∧ r1 ≤ n ∧ o * v + r1 * (u * 2 ^ k) = n ∧ u * 2 ^ k < n ∧ v + u * 2 ^ k ≤ n := by
  have hs := I.sum
  have hv := I.vpos
  have ho := I.odd
  have hrn := I.rn
  simp only at hs hv ho hrn
  have h1 : 1 ≤ r1 := by
    rcases Nat.eq_zero_or_pos r1 with e | e
    · rw [e, Nat.zero_mul] at er; exact absurd er hr
    · exact e
  have ho1 : 1 ≤ o := by omega
  have h2 : o * 1 ≤ o * v := Nat.mul_le_mul_left o hv
  have e1 : r * u = r1 * (u * 2 ^ k) := by rw [er, Nat.mul_assoc, Nat.mul_comm (2 ^ k)]
  rw [e1] at hs
  have h3 : 1 * (u * 2 ^ k) ≤ r1 * (u * 2 ^ k) := Nat.mul_le_mul_right _ h1
  have h4 : r1 * 1 ≤ r1 * 2 ^ k := Nat.mul_le_mul_left r1 (Nat.two_pow_pos k)
  have h5 : 1 * v ≤ o * v := Nat.mul_le_mul_right _ ho1
  refine ⟨h1, ho1, by omega, by omega, hs, by omega, by omega⟩
theorem cg_scale {n x y : Nat} (h : Cg n x y) (k : Nat) : Cg n (x * 2 ^ k) (y * 2 ^ k) := h.mulR _
theorem WI.conf {n a o r u v h k r1 : Nat} {t : Bool} (I : WI n a ⟨o, r, u, v, h, t⟩) (er : r = r1 * 2 ^ k) :
    (if t = true then Cg n (o * 2 ^ (h + k)) (u * 2 ^ k * a) else Cg n (o * 2 ^ (h + k) + u * 2 ^ k * a) 0) ∧ (if t = true then Cg n (r1 * 2 ^ (h + k) + v * a) 0 else Cg n (r1 * 2 ^ (h + k)) (v * a)) := by
  have h1 := I.c1
  have h2 := I.c2
  simp only at h1 h2
  have e1 : o * 2 ^ (h + k) = o * 2 ^ h * 2 ^ k := by rw [Nat.pow_add, Nat.mul_assoc]
  have e2 : u * 2 ^ k * a = u * a * 2 ^ k := Nat.mul_right_comm ..
  have e3 : r1 * 2 ^ (h + k) = r * 2 ^ h := by rw [er, Nat.pow_add, Nat.mul_assoc, Nat.mul_comm (2 ^ h)]
  rw [e1, e2, e3]
  refine ⟨?_, h2⟩
  cases t with
  | true => exact cg_scale h1 k
  | false =>
    have h3 := cg_scale h1 k
    rw [Nat.zero_mul, Nat.add_mul] at h3
    exact h3
theorem WI.next {n a o r u v h k r1 : Nat} {t : Bool} (I : WI n a ⟨o, r, u, v, h, t⟩) (hr : r ≠ 0) (er : r = r1 * 2 ^ k) (h1 : r1 % 2 = 1) :
    (r1 < o → WI n a ⟨r1, o - r1, v, u * 2 ^ k + v, h + k, !t⟩) ∧ (¬ r1 < o → WI n a ⟨o, r1 - o, u * 2 ^ k, v + u * 2 ^ k, h + k, t⟩) := by
  obtain ⟨p1, p2, p3, p4, p5, p6, p7⟩ := I.facts hr er
  obtain ⟨q1, q2⟩ := I.conf er
  have hv := I.vpos
  have ho := I.odd
  have hg := I.gcd
  have hb := I.hb
  simp only at hv ho hg hb
  rw [er, gcd_halve ho] at hg
  have eb : 2 ^ (h + k) * (o * r1) = 2 ^ h * (o * r) := by
    rw [er, Nat.pow_add]; simp only [Nat.mul_assoc, Nat.mul_comm, Nat.mul_left_comm]
  have hb2 : 2 ^ (h + k) * (o * r1) ≤ n * n := by rw [eb]; exact hb
  have hor : 1 ≤ o * r1 := Nat.mul_pos p2 p1
  have hb1 : 2 ^ (h + k) ≤ n * n := Nat.le_trans (by have := Nat.mul_le_mul_left (2 ^ (h + k)) hor; omega) hb2
  generalize hH : 2 ^ (h + k) = H at q1 q2 hb2 hb1
  generalize hU : u * 2 ^ k = U at q1 q2 p5 p6 p7 ⊢
  constructor
  · intro hl
    refine ⟨h1, ?_, ?_, by show 1 ≤ U + v; omega, by show o - r1 ≤ n; omega, ?_, ?_, by show 2 ^ (h + k) ≤ n * n; rw [hH]; exact hb1, ?_, ?_⟩
    · show r1 * (U + v) + (o - r1) * v = n
      have e : r1 * v + (o - r1) * v = o * v := by rw [← Nat.add_mul, show r1 + (o - r1) = o by omega]
      rw [Nat.mul_add]; omega
    · show v < n
      rcases Nat.eq_zero_or_pos U with e | e
      · rw [e, Nat.mul_zero, Nat.add_zero] at p5
        have : 2 * v ≤ o * v := Nat.mul_le_mul_right _ (by omega)
        omega
      · have h5 : 1 * v ≤ o * v := Nat.mul_le_mul_right _ p2
        have h6 : 1 * 1 ≤ r1 * U := Nat.mul_le_mul p1 e
        omega
    · show Nat.gcd r1 (o - r1) = Nat.gcd n a
      rw [gcd_less (by omega), hg]
    · show 2 ^ (h + k) * (r1 * (o - r1)) ≤ n * n
      rw [hH]
      refine Nat.le_trans (Nat.mul_le_mul_left H ?_) hb2
      rw [Nat.mul_comm o r1]
      exact Nat.mul_le_mul_left r1 (by omega)
    · cases t with
      | true =>
        show Cg n (r1 * 2 ^ (h + k) + v * a) 0
        rw [hH]; exact q2
      | false =>
        show Cg n (r1 * 2 ^ (h + k)) (v * a)
        rw [hH]; exact q2
    · have e : (o - r1) * H + r1 * H = o * H := by rw [← Nat.add_mul, show o - r1 + r1 = o by omega]
      cases t with
      | true =>
        show Cg n ((o - r1) * 2 ^ (h + k)) ((U + v) * a)
        rw [hH, Nat.add_mul]
        have s1 : Cg n ((o - r1) * H + (r1 * H + v * a)) ((o - r1) * H + 0) := Cg.addL _ q2
        rw [Nat.add_zero, ← Nat.add_assoc, e] at s1
        exact s1.symm.trans (Cg.addR _ q1)
      | false =>
        show Cg n ((o - r1) * 2 ^ (h + k) + (U + v) * a) 0
        rw [hH, Nat.add_mul]
        have s1 : Cg n ((o - r1) * H + U * a + r1 * H) ((o - r1) * H + U * a + v * a) := Cg.addL _ q2
        have e2 : (o - r1) * H + U * a + r1 * H = o * H + U * a := by omega
        rw [e2] at s1
        have s2 := s1.symm.trans q1
        rwa [Nat.add_assoc] at s2
  · intro hl
    refine ⟨ho, ?_, p6, by show 1 ≤ v + U; omega, by show r1 - o ≤ n; omega, ?_, ?_, by show 2 ^ (h + k) ≤ n * n; rw [hH]; exact hb1, ?_, ?_⟩
    · show o * (v + U) + (r1 - o) * U = n
      have e : o * U + (r1 - o) * U = r1 * U := by rw [← Nat.add_mul, show o + (r1 - o) = r1 by omega]
      rw [Nat.mul_add]; omega
    · show Nat.gcd o (r1 - o) = Nat.gcd n a
      rw [gcd_less (by omega), Nat.gcd_comm, hg]
    · show 2 ^ (h + k) * (o * (r1 - o)) ≤ n * n
      rw [hH]
      exact Nat.le_trans (Nat.mul_le_mul_left H (Nat.mul_le_mul_left o (by omega))) hb2
    · cases t with
      | true =>
        show Cg n (o * 2 ^ (h + k)) (U * a)
        rw [hH]; exact q1
      | false =>
        show Cg n (o * 2 ^ (h + k) + U * a) 0
        rw [hH]; exact q1
    · have e : (r1 - o) * H + o * H = r1 * H := by rw [← Nat.add_mul, show r1 - o + o = r1 by omega]
      cases t with
      | true =>
        show Cg n ((r1 - o) * 2 ^ (h + k) + (v + U) * a) 0
        rw [hH, Nat.add_mul]
        have s1 : Cg n ((r1 - o) * H + v * a + o * H) ((r1 - o) * H + v * a + U * a) := Cg.addL _ q1
        have e2 : (r1 - o) * H + v * a + o * H = r1 * H + v * a := by omega
        rw [e2] at s1
        have s2 := s1.symm.trans q2
        rwa [Nat.add_assoc] at s2
      | false =>
        show Cg n ((r1 - o) * 2 ^ (h + k)) ((v + U) * a)
        rw [hH, Nat.add_mul]
        have s1 : Cg n ((r1 - o) * H + (o * H + U * a)) ((r1 - o) * H + 0) := Cg.addL _ q1
        rw [Nat.add_zero, ← Nat.add_assoc, e] at s1
        exact s1.symm.trans (Cg.addR _ q2)
/-- What is left when the walk ends. -/
def dv (n a i : Nat) : Nat := a * hf n ^ i % n
theorem end_true {n a o u v h : Nat} (ok : Ok n) (I : WI n a ⟨o, 0, u, v, h, true⟩) (ho : o = 1) : dv n u h * a % n = 1 := by
  have h1 := I.c1
  simp only [if_true] at h1
  rw [ho, Nat.one_mul] at h1
  have s : Cg n (dv n u h * a) 1 := by
    have s1 : Cg n (dv n u h * a) (u * hf n ^ h * a) := (Cg.mod _ _).mulR a
    rw [Nat.mul_right_comm] at s1
    exact s1.trans ((h1.symm.mulR _).trans (hf_pow n h ok.odd))
  unfold Cg at s
  rw [s, Nat.mod_eq_of_lt (by have := ok.three; omega)]
theorem end_false {n a o u v h : Nat} (ok : Ok n) (I : WI n a ⟨o, 0, u, v, h, false⟩) (ho : o = 1) : dv n (subm n 0 u) h * a % n = 1 := by
  have h1 := I.c1
  simp only [Bool.false_eq_true, if_false] at h1
  rw [ho, Nat.one_mul] at h1
  have hu := I.un
  simp only at hu
  have h2 : Cg n (subm n 0 u * a) (2 ^ h) := by
    have e1 : Cg n (subm n 0 u + u) 0 := by
      unfold subm
      rw [Nat.zero_add, Nat.mod_eq_of_lt hu]
      refine ((Cg.mod n (n - u)).addR u).trans ?_
      rw [show n - u + u = 1 * n by omega]
      exact Cg.zero n 1
    have e2 := e1.mulR a
    rw [Nat.zero_mul, Nat.add_mul] at e2
    have e3 : Cg n (subm n 0 u * a + (u * a + 2 ^ h)) (subm n 0 u * a + 0) := Cg.addL _ (by rw [Nat.add_comm]; exact h1)
    rw [Nat.add_zero, ← Nat.add_assoc] at e3
    have e4 := e2.addR (2 ^ h)
    rw [Nat.zero_add] at e4
    exact e3.symm.trans e4
  have s : Cg n (dv n (subm n 0 u) h * a) 1 := by
    have s1 : Cg n (dv n (subm n 0 u) h * a) (subm n 0 u * hf n ^ h * a) := (Cg.mod _ _).mulR a
    rw [Nat.mul_right_comm] at s1
    exact s1.trans ((h2.mulR _).trans (hf_pow n h ok.odd))
  unfold Cg at s
  rw [s, Nat.mod_eq_of_lt (by have := ok.three; omega)]
theorem WI.hlt {n a : Nat} {z : WS} (ok : Ok n) (I : WI n a z) : z.h < 768 := by
  have h1 := I.hb1
  have h2 := ok.top
  obtain ⟨m, hm, e⟩ := big_pow
  rcases Nat.lt_or_ge z.h 768 with h' | h'
  · exact h'
  · have h3 : 2 ^ (64 * m + 64 * m) ≤ 2 ^ z.h := Nat.pow_le_pow_right (by decide) (by omega)
    rw [Nat.pow_add, ← e] at h3
    have h4 : n * n < big * big := Nat.mul_lt_mul_of_lt_of_lt ok.big ok.big
    omega
end Rg
end Go.Proofs.YtkkloakcphigeaaDoor
end
section
namespace Go.Proofs.YtkkloakcphigeaaDoor
open Go.RowKit
namespace Rg
theorem first_word (r : Nat) : ∀ m, r % 2 ^ (64 * m) ≠ 0 → ∃ i, i < m ∧ (∀ j, j < i → wd r j = 0) ∧ wd r i ≠ 0 := by
  intro m
  induction m with
  | zero => intro h; rw [Nat.mul_zero, Nat.pow_zero, Nat.mod_one] at h; exact absurd rfl h
  | succ m ih =>
    intro h
    by_cases h0 : r % 2 ^ (64 * m) = 0
    · by_cases h1 : wd r m = 0
      · exfalso
        apply h
        rw [mod_step, h0]
        have : wn r m = 0 := by have := wd_wn r m; omega
        rw [this]; simp
      · refine ⟨m, by omega, fun j hj => ?_, h1⟩
        unfold wd
        have e : 2 ^ (64 * m) = 2 ^ (64 * j) * (18446744073709551616 * 2 ^ (64 * (m - j - 1))) := by
          have : 64 * m = 64 * j + (64 + 64 * (m - j - 1)) := by omega
          rw [this, Nat.pow_add, Nat.pow_add]
        obtain ⟨q, hq⟩ := Nat.dvd_of_mod_eq_zero h0
        rw [hq, e, Nat.mul_assoc, Nat.mul_div_cancel_left _ (pow_pos' j), Nat.mul_assoc, Nat.mul_mod_right]
        rfl
    · obtain ⟨i, h1, h2, h3⟩ := ih h0
      exact ⟨i, by omega, h2, h3⟩
theorem low_zero (r : Nat) : ∀ m, (∀ j, j < m → wd r j = 0) → r % 2 ^ (64 * m) = 0 := by
  intro m
  induction m with
  | zero => intro _; rw [Nat.mul_zero, Nat.pow_zero, Nat.mod_one]
  | succ m ih =>
    intro h
    have : wn r m = 0 := by have := wd_wn r m; have := h m (by omega); omega
    rw [mod_step, ih (fun j hj => h j (by omega)), this]; simp
theorem trailing_any {r : Nat} (hr : r < big) (h0 : r ≠ 0) : ∃ k r1, k < 384 ∧ r = r1 * 2 ^ k ∧ r1 % 2 = 1 ∧ ∀ w, Mm w [(2, dtab)] → Calls Tryd.prog 75 #[N r] w fun e w' => e = .returned (.int .i64 ((k : Nat) : Int)) ∧ Below w.heap.size w w' := by
  obtain ⟨m, hm, hz, hx⟩ := first_word r 6 (by rw [← big_eq, Nat.mod_eq_of_lt hr]; exact h0)
  have hx0 : wn r m ≠ 0 := by have := wd_wn r m; omega
  have hxl := wn_lt r m
  have hct : Lib.ctz 64 (wn r m) = Lib.ctzFrom 64 (wn r m) := by unfold Lib.ctz; rw [if_neg hx0]
  obtain ⟨q, hq, hc⟩ := Lib.ctzFrom_spec 64 (wn r m) (by omega) hxl
  rw [← hct] at hq hc
  generalize hcd : Lib.ctz 64 (wn r m) = c at hq hc
  have hlow := low_zero r m hz
  have hdm := Nat.div_add_mod r (2 ^ (64 * m))
  rw [hlow, Nat.add_zero] at hdm
  have hR := Nat.div_add_mod (r / 2 ^ (64 * m)) 18446744073709551616
  have hR2 : r / 2 ^ (64 * m) % 18446744073709551616 = wn r m := rfl
  rw [hR2] at hR
  obtain ⟨d, hd⟩ : ∃ d, 64 = c + (d + 1) := ⟨64 - c - 1, by omega⟩
  have h64 : 18446744073709551616 = 2 ^ c * (2 ^ d * 2) := by
    rw [← Nat.pow_succ, ← Nat.pow_add, ← hd]
  refine ⟨64 * m + c, 2 ^ d * 2 * (r / 2 ^ (64 * m) / 18446744073709551616) + (2 * q + 1), by omega, ?_, ?_, fun w ht => ?_⟩
  · have e : r / 2 ^ (64 * m) = (2 ^ d * 2 * (r / 2 ^ (64 * m) / 18446744073709551616) + (2 * q + 1)) * 2 ^ c := by
      have e1 : 18446744073709551616 * (r / 2 ^ (64 * m) / 18446744073709551616) = 2 ^ d * 2 * (r / 2 ^ (64 * m) / 18446744073709551616) * 2 ^ c := by
        generalize r / 2 ^ (64 * m) / 18446744073709551616 = y
        rw [h64, Nat.mul_assoc (2 ^ c), Nat.mul_comm (2 ^ c)]
      rw [Nat.add_mul, ← e1, Nat.mul_comm (2 * q + 1), ← hq]
      exact hR.symm
    rw [Nat.pow_add, Nat.mul_comm (2 ^ (64 * m)), ← Nat.mul_assoc, ← e, Nat.mul_comm]
    exact hdm.symm
  · rw [Nat.mul_right_comm]; omega
  · refine trailing_gen r m c hm (by omega) hz hx (fun w ht => ?_) w ht
    have := tz_word (wn r m) hxl w ht
    rw [hcd] at this
    exact this
set_option maxRecDepth 100000 in
theorem dbp_1 (g n o s a K j : Nat) (hK : K < 1000) (hj : j = 0) (f : Nat → Nat) (f0 : f 0 = a)
    (co : ∀ w, Calls Tryd.prog 18 #[.int .u64 1] w fun e w' => e = .returned (N 1) ∧ Below w.heap.size w w')
    (cf : ∀ k w, Mm w [(g, modx n o s)] → Calls Tryd.prog 52 #[PT g 0, N 1, N (f k)] w fun e w' => e = .returned (N (f (k + 1))) ∧ Below w.heap.size w w') (w : World) (hm : Mm w [(g, modx n o s)]) :
    Calls Tryd.prog 59 #[PT g 0, N a, .int .i64 ((384 * K + j : Nat) : Int)] w fun e w' => e = .returned (N (f K)) ∧ Below w.heap.size w w' := by
  have H0 : Hid (_ ∧ _) := ⟨hm, Below.refl w.heap.size w⟩
  clear hm
  have CO : Hid _ := co
  have CF : Hid _ := cf
  have F0 : Hid _ := f0
  clear co cf f0
  go_enter Tryd.func59, Tryd.ntmps59
  refine wp_seq ?_
  refine walk_seqA 2 [.made (cells6 a) 33, .made zero6 33] (sB H0) ?ho1 ?he1
  case ho1 => exact ak (fun γ => ⟨rfl, fun w' => ex_box6 rfl rfl⟩) (ak (fun γ => ⟨rfl, fun w' => exec_made6 rfl⟩) trivial)
  intro γ w1 l hM hl
  have H1 : Hid (Mm w1 [(γ 0, cells6 a), (γ 1, zero6), (g, modx n o s)] ∧ _) := growB H0 hM (Nat.le_refl _) hl [0, 1] rfl (by decide)
  have o1_0 := ownB H0 hM (Nat.le_refl _) hl (i := 0) rfl
  have o1_1 := ownB H0 hM (Nat.le_refl _) hl (i := 1) rfl
  clear hM hl l
  generalize γ 0 = γ1_0 at H1 o1_0 ⊢
  generalize γ 1 = γ1_1 at H1 o1_1 ⊢
  clear γ
  refine rest0 rfl (then_normal (wp_seq (wp_block ?_)))
  refine loop_ghost (α := Nat) (fun k a' w' => ∃ s0 : Nat → Value, a' = ⟨#[PT g 0, N a, .int .i64 ((384 * (K - k) + j : Nat) : Int), undef, PT γ1_0 0, undef, PT γ1_1 0, s0 7, s0 8, s0 9, s0 10, s0 11, s0 12, s0 13, s0 14, undef, undef, undef, undef, undef, undef, undef, undef, undef, undef], []⟩ ∧ (Mm w' [(γ1_0, cells6 (f k)), (γ1_1, zero6), (g, modx n o s)] ∧ Below w.heap.size w w') ∧ k ≤ K) (fun k => K - k) 0 ?st0 ?rd0
  case st0 => exact ⟨(slotfn [undef, undef, undef, undef, undef, undef, undef, undef, undef, undef, undef, undef, undef, undef, undef]), rfl, ⟨H1.out.1.at0 (by rw [F0.out]), H1.out.2⟩, by omega⟩
  intro k a' w2 hI
  obtain ⟨s0, rfl, hMB, hk0⟩ := hI
  have H2 : Hid (_ ∧ _) := hMB
  clear hMB H1
  by_cases hlt : k < K
  · have hrd : True := trivial
    clear hrd
    refine wp_seq (wp_seq ?_)
    refine walk_seqB 2 [.quiet (.int .i64 ((384 * (K - k) + j : Nat) : Int)), .quiet (.bool true)] H2 ?ho2 ?he2
    case ho2 => exact ak (fun _ => ⟨rfl, fun _ _ => rfl⟩) (ak (by refine fun γ => ⟨rfl, fun w' h => ?_⟩; clear h; go_simp <;> omega) trivial)
    intro _ w3 H3
    clear H2
    refine rest0 rfl (then_normal (wp_cond_true rfl ?_))
    refine wp_skip (then_normal ?_)
    refine wp_block (wp_seq ?_)
    refine walk_anyB 4 [.quiet (PT g 0), .call (N 1), .quiet (N (f k)), .call (N (f (k + 1)))] H3 ?ho3 ?he3
    case ho3 => exact ak (fun _ => ⟨rfl, fun _ _ => rfl⟩) (ak (fun γ => ⟨rfl, fun w' h => ⟨18, #[.int .u64 1], exec_call rfl call18 rfl (mpn rfl), CO.out w'⟩⟩) (ak (fun γ => ⟨rfl, fun w' h => ex_load6 h 0 rfl rfl rfl rfl⟩) (ak (fun γ => ⟨rfl, fun w' h => ⟨52, #[PT g 0, N 1, N (f k)], exec_call rfl call52 rfl (mpn rfl), CF.out k w' (h.one 2 rfl)⟩⟩) trivial)))
    intro _ w4 H4
    clear H3
    refine rest_at (l := [4]) rfl ?_
    refine rest_store rfl rfl rfl (ex_store6 H4.out.1 0 rfl rfl rfl rfl (Nat.le_of_ble_eq_true rfl)) ?_
    have H5 : Hid (Mm (w4.setCells γ1_0 0 (cells6 (f (k + 1)))) [(γ1_0, cells6 (f (k + 1))), (γ1_1, zero6), (g, modx n o s)] ∧ Below w.heap.size w (w4.setCells γ1_0 0 (cells6 (f (k + 1))))) := ⟨H4.out.1.put 0 (off := 0) (vs := cells6 (f (k + 1))) rfl (Nat.le_of_ble_eq_true rfl), below_setCells _ o1_0.out _ _ _ H4.out.2⟩
    clear H4
    generalize hgw : World.setCells _ _ _ _ = w5 at H5 ⊢
    clear hgw
    refine rest_nil (then_normal ?_)
    refine walk_seqB 2 [.quiet (.int .i64 ((384 * (K - k) + j : Nat) : Int)), .quiet (.int .i64 ((384 * (K - (k + 1)) + j : Nat) : Int))] H5 ?ho4 ?he4
    case ho4 => exact ak (fun _ => ⟨rfl, fun _ _ => rfl⟩) (ak (by refine fun γ => ⟨rfl, fun w' h => ?_⟩; clear h; go_simp; rw [IntKind.wrap_i64]; omega) trivial)
    intro _ w6 H6
    clear H5
    refine rest_at (l := [2]) rfl ?_
    refine rest_set (d := 2) rfl rfl rfl rfl ?_
    simp only [Act.put, sa, sz, ss]
    refine rest_nil (block_normal (then_normal ?_))
    exact ⟨k + 1, ⟨(slotfn [undef, undef, undef, undef, undef, undef, undef, .int .i64 ((384 * (K - k) + j : Nat) : Int), .bool true, PT g 0, N 1, N (f k), N (f (k + 1)), .int .i64 ((384 * (K - k) + j : Nat) : Int), .int .i64 ((384 * (K - (k + 1)) + j : Nat) : Int)]), rfl, ⟨H6.out.1, H6.out.2⟩, by omega⟩, by omega⟩
  have hkK : k = K := by omega
  subst hkK
  refine wp_seq (wp_seq ?_)
  refine walk_seqB 2 [.quiet (.int .i64 ((384 * (k - k) + j : Nat) : Int)), .quiet (.bool false)] H2 ?ho5 ?he5
  case ho5 => exact ak (fun _ => ⟨rfl, fun _ _ => rfl⟩) (ak (by refine fun γ => ⟨rfl, fun w' h => ?_⟩; clear h; go_simp <;> omega) trivial)
  intro _ w7 H7
  clear H2
  refine rest0 rfl (then_normal (wp_cond_false rfl ?_))
  refine wp_exit ?_
  repeat refine then_exit ?_
  refine block_exit ?_
  refine then_normal (wp_seq (wp_seq ?_))
  refine walk_seqB 2 [.quiet (.int .i64 ((384 * (k - k) + j : Nat) : Int)), .quiet (.bool true)] H7 ?ho6 ?he6
  case ho6 => exact ak (fun _ => ⟨rfl, fun _ _ => rfl⟩) (ak (by refine fun γ => ⟨rfl, fun w' h => ?_⟩; clear h; go_simp <;> omega) trivial)
  intro _ w8 H8
  clear H7
  refine rest0 rfl (then_normal (wp_cond_true rfl (wp_seq ?_)))
  refine walk_seqB 1 [.quiet (N (f k))] H8 ?ho7 ?he7
  case ho7 => exact ak (fun γ => ⟨rfl, fun w' h => ex_load6 h 0 rfl rfl rfl rfl⟩) trivial
  intro _ w9 H9
  clear H8
  refine rest_at (l := [1]) rfl ?_
  refine rest_store rfl rfl rfl (ex_store6 H9.out.1 1 rfl rfl rfl rfl (Nat.le_of_ble_eq_true rfl)) ?_
  have H10 : Hid (Mm (w9.setCells γ1_1 0 (cells6 (f k))) [(γ1_0, cells6 (f k)), (γ1_1, cells6 (f k)), (g, modx n o s)] ∧ Below w.heap.size w (w9.setCells γ1_1 0 (cells6 (f k)))) := ⟨H9.out.1.put 1 (off := 0) (vs := cells6 (f k)) rfl (Nat.le_of_ble_eq_true rfl), below_setCells _ o1_1.out _ _ _ H9.out.2⟩
  clear H9
  generalize hgw : World.setCells _ _ _ _ = w10 at H10 ⊢
  clear hgw
  refine rest_nil (then_normal (wp_ret ?_))
  repeat (first | refine then_ret ?_ | refine block_ret ?_)
  have c0 := H10.out.1.get 1 rfl 0 rfl
  have c1 := H10.out.1.get 1 rfl 1 rfl
  have c2 := H10.out.1.get 1 rfl 2 rfl
  have c3 := H10.out.1.get 1 rfl 3 rfl
  have c4 := H10.out.1.get 1 rfl 4 rfl
  have c5 := H10.out.1.get 1 rfl 5 rfl
  refine bodyPost_ret (v := N (f k)) (by simp [results, Tryd.results59, go_sem, *]) rfl ?_
  exact ⟨rfl, H10.out.2⟩
set_option maxRecDepth 100000 in
theorem dbp_2 (g n o s a K j y x : Nat) (hK : K < 1000) (hj : 0 < j) (hj4 : j < 384) (f : Nat → Nat) (f0 : f 0 = a)
    (co : ∀ w, Calls Tryd.prog 18 #[.int .u64 1] w fun e w' => e = .returned (N 1) ∧ Below w.heap.size w w')
    (cf : ∀ k w, Mm w [(g, modx n o s)] → Calls Tryd.prog 52 #[PT g 0, N 1, N (f k)] w fun e w' => e = .returned (N (f (k + 1))) ∧ Below w.heap.size w w')
    (ch : ∀ w, Calls Tryd.prog 36 #[N 1, .int .i64 ((384 - j : Nat) : Int)] w fun e w' => e = .returned (N y) ∧ Below w.heap.size w w')
    (cx : ∀ w, Mm w [(g, modx n o s)] → Calls Tryd.prog 52 #[PT g 0, N y, N (f K)] w fun e w' => e = .returned (N x) ∧ Below w.heap.size w w') (w : World) (hm : Mm w [(g, modx n o s)]) :
    Calls Tryd.prog 59 #[PT g 0, N a, .int .i64 ((384 * K + j : Nat) : Int)] w fun e w' => e = .returned (N x) ∧ Below w.heap.size w w' := by
  have H0 : Hid (_ ∧ _) := ⟨hm, Below.refl w.heap.size w⟩
  clear hm
  have CO : Hid _ := co
  have CF : Hid _ := cf
  have F0 : Hid _ := f0
  clear co cf f0
  have CH : Hid _ := ch
  have CX : Hid _ := cx
  clear ch cx
  go_enter Tryd.func59, Tryd.ntmps59
  refine wp_seq ?_
  refine walk_seqA 2 [.made (cells6 a) 33, .made zero6 33] (sB H0) ?ho1 ?he1
  case ho1 => exact ak (fun γ => ⟨rfl, fun w' => ex_box6 rfl rfl⟩) (ak (fun γ => ⟨rfl, fun w' => exec_made6 rfl⟩) trivial)
  intro γ w1 l hM hl
  have H1 : Hid (Mm w1 [(γ 0, cells6 a), (γ 1, zero6), (g, modx n o s)] ∧ _) := growB H0 hM (Nat.le_refl _) hl [0, 1] rfl (by decide)
  have o1_0 := ownB H0 hM (Nat.le_refl _) hl (i := 0) rfl
  have o1_1 := ownB H0 hM (Nat.le_refl _) hl (i := 1) rfl
  clear hM hl l
  generalize γ 0 = γ1_0 at H1 o1_0 ⊢
  generalize γ 1 = γ1_1 at H1 o1_1 ⊢
  clear γ
  refine rest0 rfl (then_normal (wp_seq (wp_block ?_)))
  refine loop_ghost (α := Nat) (fun k a' w' => ∃ s0 : Nat → Value, a' = ⟨#[PT g 0, N a, .int .i64 ((384 * (K - k) + j : Nat) : Int), undef, PT γ1_0 0, undef, PT γ1_1 0, s0 7, s0 8, s0 9, s0 10, s0 11, s0 12, s0 13, s0 14, undef, undef, undef, undef, undef, undef, undef, undef, undef, undef], []⟩ ∧ (Mm w' [(γ1_0, cells6 (f k)), (γ1_1, zero6), (g, modx n o s)] ∧ Below w.heap.size w w') ∧ k ≤ K) (fun k => K - k) 0 ?st0 ?rd0
  case st0 => exact ⟨(slotfn [undef, undef, undef, undef, undef, undef, undef, undef, undef, undef, undef, undef, undef, undef, undef]), rfl, ⟨H1.out.1.at0 (by rw [F0.out]), H1.out.2⟩, by omega⟩
  intro k a' w2 hI
  obtain ⟨s0, rfl, hMB, hk0⟩ := hI
  have H2 : Hid (_ ∧ _) := hMB
  clear hMB H1
  by_cases hlt : k < K
  · have hrd : True := trivial
    clear hrd
    refine wp_seq (wp_seq ?_)
    refine walk_seqB 2 [.quiet (.int .i64 ((384 * (K - k) + j : Nat) : Int)), .quiet (.bool true)] H2 ?ho2 ?he2
    case ho2 => exact ak (fun _ => ⟨rfl, fun _ _ => rfl⟩) (ak (by refine fun γ => ⟨rfl, fun w' h => ?_⟩; clear h; go_simp <;> omega) trivial)
    intro _ w3 H3
    clear H2
    refine rest0 rfl (then_normal (wp_cond_true rfl ?_))
    refine wp_skip (then_normal ?_)
    refine wp_block (wp_seq ?_)
    refine walk_anyB 4 [.quiet (PT g 0), .call (N 1), .quiet (N (f k)), .call (N (f (k + 1)))] H3 ?ho3 ?he3
    case ho3 => exact ak (fun _ => ⟨rfl, fun _ _ => rfl⟩) (ak (fun γ => ⟨rfl, fun w' h => ⟨18, #[.int .u64 1], exec_call rfl call18 rfl (mpn rfl), CO.out w'⟩⟩) (ak (fun γ => ⟨rfl, fun w' h => ex_load6 h 0 rfl rfl rfl rfl⟩) (ak (fun γ => ⟨rfl, fun w' h => ⟨52, #[PT g 0, N 1, N (f k)], exec_call rfl call52 rfl (mpn rfl), CF.out k w' (h.one 2 rfl)⟩⟩) trivial)))
    intro _ w4 H4
    clear H3
    refine rest_at (l := [4]) rfl ?_
    refine rest_store rfl rfl rfl (ex_store6 H4.out.1 0 rfl rfl rfl rfl (Nat.le_of_ble_eq_true rfl)) ?_
    have H5 : Hid (Mm (w4.setCells γ1_0 0 (cells6 (f (k + 1)))) [(γ1_0, cells6 (f (k + 1))), (γ1_1, zero6), (g, modx n o s)] ∧ Below w.heap.size w (w4.setCells γ1_0 0 (cells6 (f (k + 1))))) := ⟨H4.out.1.put 0 (off := 0) (vs := cells6 (f (k + 1))) rfl (Nat.le_of_ble_eq_true rfl), below_setCells _ o1_0.out _ _ _ H4.out.2⟩
    clear H4
    generalize hgw : World.setCells _ _ _ _ = w5 at H5 ⊢
    clear hgw
    refine rest_nil (then_normal ?_)
    refine walk_seqB 2 [.quiet (.int .i64 ((384 * (K - k) + j : Nat) : Int)), .quiet (.int .i64 ((384 * (K - (k + 1)) + j : Nat) : Int))] H5 ?ho4 ?he4
    case ho4 => exact ak (fun _ => ⟨rfl, fun _ _ => rfl⟩) (ak (by refine fun γ => ⟨rfl, fun w' h => ?_⟩; clear h; go_simp; rw [IntKind.wrap_i64]; omega) trivial)
    intro _ w6 H6
    clear H5
    refine rest_at (l := [2]) rfl ?_
    refine rest_set (d := 2) rfl rfl rfl rfl ?_
    simp only [Act.put, sa, sz, ss]
    refine rest_nil (block_normal (then_normal ?_))
    exact ⟨k + 1, ⟨(slotfn [undef, undef, undef, undef, undef, undef, undef, .int .i64 ((384 * (K - k) + j : Nat) : Int), .bool true, PT g 0, N 1, N (f k), N (f (k + 1)), .int .i64 ((384 * (K - k) + j : Nat) : Int), .int .i64 ((384 * (K - (k + 1)) + j : Nat) : Int)]), rfl, ⟨H6.out.1, H6.out.2⟩, by omega⟩, by omega⟩
  have hkK : k = K := by omega
  subst hkK
  refine wp_seq (wp_seq ?_)
  refine walk_seqB 2 [.quiet (.int .i64 ((384 * (k - k) + j : Nat) : Int)), .quiet (.bool false)] H2 ?ho5 ?he5
  case ho5 => exact ak (fun _ => ⟨rfl, fun _ _ => rfl⟩) (ak (by refine fun γ => ⟨rfl, fun w' h => ?_⟩; clear h; go_simp <;> omega) trivial)
  intro _ w7 H7
  clear H2
  refine rest0 rfl (then_normal (wp_cond_false rfl ?_))
  refine wp_exit ?_
  repeat refine then_exit ?_
  refine block_exit ?_
  refine then_normal (wp_seq (wp_seq ?_))
  refine walk_seqB 2 [.quiet (.int .i64 ((384 * (k - k) + j : Nat) : Int)), .quiet (.bool false)] H7 ?ho6 ?he6
  case ho6 => exact ak (fun _ => ⟨rfl, fun _ _ => rfl⟩) (ak (by refine fun γ => ⟨rfl, fun w' h => ?_⟩; clear h; go_simp <;> omega) trivial)
  intro _ w8 H8
  clear H7
  refine rest0 rfl (then_normal (wp_cond_false rfl ?_))
  refine wp_skip (then_normal (wp_seq ?_))
  refine walk_anyB 7 [.quiet (PT g 0), .call (N 1), .quiet (.int .i64 ((384 * (k - k) + j : Nat) : Int)), .quiet (.int .i64 ((384 - j : Nat) : Int)), .call (N y), .quiet (N (f k)), .call (N x)] H8 ?ho7 ?he7
  case ho7 => exact ak (fun _ => ⟨rfl, fun _ _ => rfl⟩) (ak (fun γ => ⟨rfl, fun w' h => ⟨18, #[.int .u64 1], exec_call rfl call18 rfl (mpn rfl), CO.out w'⟩⟩) (ak (fun _ => ⟨rfl, fun _ _ => rfl⟩) (ak (by refine fun γ => ⟨rfl, fun w' h => ?_⟩; clear h; go_simp; rw [IntKind.wrap_i64]; omega) (ak (fun γ => ⟨rfl, fun w' h => ⟨36, #[N 1, .int .i64 ((384 - j : Nat) : Int)], exec_call rfl call36 rfl (mpn rfl), CH.out w'⟩⟩) (ak (fun γ => ⟨rfl, fun w' h => ex_load6 h 0 rfl rfl rfl rfl⟩) (ak (fun γ => ⟨rfl, fun w' h => ⟨52, #[PT g 0, N y, N (f k)], exec_call rfl call52 rfl (mpn rfl), CX.out w' (h.one 2 rfl)⟩⟩) trivial))))))
  intro _ w9 H9
  clear H8
  refine rest_at (l := [7]) rfl ?_
  refine rest_store rfl rfl rfl (ex_store6 H9.out.1 1 rfl rfl rfl rfl (Nat.le_of_ble_eq_true rfl)) ?_
  have H10 : Hid (Mm (w9.setCells γ1_1 0 (cells6 x)) [(γ1_0, cells6 (f k)), (γ1_1, cells6 x), (g, modx n o s)] ∧ Below w.heap.size w (w9.setCells γ1_1 0 (cells6 x))) := ⟨H9.out.1.put 1 (off := 0) (vs := cells6 x) rfl (Nat.le_of_ble_eq_true rfl), below_setCells _ o1_1.out _ _ _ H9.out.2⟩
  clear H9
  generalize hgw : World.setCells _ _ _ _ = w10 at H10 ⊢
  clear hgw
  refine rest_nil (then_normal (wp_ret ?_))
  repeat (first | refine then_ret ?_ | refine block_ret ?_)
  have c0 := H10.out.1.get 1 rfl 0 rfl
  have c1 := H10.out.1.get 1 rfl 1 rfl
  have c2 := H10.out.1.get 1 rfl 2 rfl
  have c3 := H10.out.1.get 1 rfl 3 rfl
  have c4 := H10.out.1.get 1 rfl 4 rfl
  have c5 := H10.out.1.get 1 rfl 5 rfl
  refine bodyPost_ret (v := N x) (by simp [results, Tryd.results59, go_sem, *]) rfl ?_
  exact ⟨rfl, H10.out.2⟩
theorem dbp_any {g n : Nat} (ok : Ok n) {a i : Nat} (ha : a < n) (hi : i < 768) (w : World) (hm : Mm w [(g, modc n)]) :
    Calls Tryd.prog 59 #[PT g 0, N a, .int .i64 ((i : Nat) : Int)] w fun e w' => e = .returned (N (dv n a i)) ∧ Below w.heap.size w w' := by
  have hdm := Nat.div_add_mod i 384
  generalize i / 384 = K at hdm
  have hjl := Nat.mod_lt i (show 0 < 384 by decide)
  generalize i % 384 = j at hdm hjl
  have hl : ∀ k, a * ri n ^ k % n < n := fun k => Nat.mod_lt _ ok.pos
  have cf : ∀ k w, Mm w [(g, modc n)] → Calls Tryd.prog 52 #[PT g 0, N 1, N (a * ri n ^ k % n)] w fun e w' => e = .returned (N (a * ri n ^ (k + 1) % n)) ∧ Below w.heap.size w w' := fun k w hm => by
    have h := product_any g n (big % n) (big * big % n) 1 (a * ri n ^ k % n) ok (small_big 1 (by decide)) (hl k) w hm
    have e : mont n 1 (a * ri n ^ k % n) = a * ri n ^ (k + 1) % n := by
      refine Cg.eq_mod (n := n) ((mont_cg n _ _).trans ?_) (mont_lt _ _ _ ok.pos)
      rw [Nat.one_mul, Nat.pow_succ, ← Nat.mul_assoc]
      exact (Cg.mod _ _).mulR _
    rw [e] at h
    exact h
  have f0 : a * ri n ^ 0 % n = a := by rw [Nat.pow_zero, Nat.mul_one, Nat.mod_eq_of_lt ha]
  rw [← hdm]
  have er : ∀ K, ri n ^ K = hf n ^ (384 * K) := fun K => by
    unfold ri
    obtain ⟨e, he⟩ : ∃ e, e = 64 * 6 := ⟨_, rfl⟩
    rw [← he, show 384 * K = e * K by rw [he], Nat.pow_mul]
  by_cases hj : j = 0
  · have h := dbp_1 g n _ _ a K j (by omega) hj (fun k => a * ri n ^ k % n) f0 (fun w => of_any 1 (by decide) w) cf w hm
    have e : dv n a (384 * K + j) = a * ri n ^ K % n := by unfold dv; rw [hj, Nat.add_zero, er]
    rw [e]
    exact h
  · have ch := fun w => shift_up 1 (384 - j) (by omega) w
    have hy : 1 * 2 ^ (384 - j) % big = 2 ^ (384 - j) := by
      rw [Nat.one_mul]
      refine Nat.mod_eq_of_lt ?_
      obtain ⟨m, hm, e⟩ := big_pow
      rw [e]
      exact Nat.pow_lt_pow_right (by decide) (by omega)
    rw [hy] at ch
    have hyb : 2 ^ (384 - j) < big := by rw [← hy]; exact Nat.mod_lt _ big_pos
    have cx := fun w hm => product_any g n (big % n) (big * big % n) (2 ^ (384 - j)) (a * ri n ^ K % n) ok hyb (hl K) w hm
    have e : mont n (2 ^ (384 - j)) (a * ri n ^ K % n) = dv n a (384 * K + j) := by
      refine Cg.eq_mod (n := n) ((mont_cg n _ _).trans ?_) (mont_lt _ _ _ ok.pos)
      have h1 := ((Cg.mod n (a * ri n ^ K)).mulL (2 ^ (384 - j))).mulR (ri n)
      refine h1.trans ?_
      have h2 := (hf_pow n (384 - j) ok.odd).mulL (a * ri n ^ K * hf n ^ j)
      rw [Nat.mul_one] at h2
      have e1 : 2 ^ (384 - j) * (a * ri n ^ K) * ri n = a * ri n ^ K * hf n ^ j * (2 ^ (384 - j) * hf n ^ (384 - j)) := by
        have e2 : ri n = hf n ^ j * hf n ^ (384 - j) := by
          have := er 1
          rw [Nat.pow_one, Nat.mul_one] at this
          rw [this, ← Nat.pow_add]
          congr 1
          omega
        generalize ri n ^ K = z
        rw [e2]
        simp only [Nat.mul_assoc, Nat.mul_comm, Nat.mul_left_comm]
      rw [e1]
      refine h2.trans ?_
      rw [er, Nat.mul_assoc, ← Nat.pow_add]
      exact Cg.refl _ _
    rw [e] at cx
    exact dbp_2 g n _ _ a K j _ _ (by omega) (by omega) hjl (fun k => a * ri n ^ k % n) f0 (fun w => of_any 1 (by decide) w) cf ch cx w hm
end Rg
end Go.Proofs.YtkkloakcphigeaaDoor
end
