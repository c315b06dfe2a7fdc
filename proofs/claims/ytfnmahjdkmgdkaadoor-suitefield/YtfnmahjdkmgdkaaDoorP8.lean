/- Texts of the proof, joined. -/
import Derived.Test.YtfnmahjdkmgdkaaDoorP7
import Derived.ProofKit
import Derived.OpenShut
import Derived.Test.YtfnmahjdkmgdkaaDoorRows
import Derived.LaidMore
import Derived.Stop.Joined
import Derived.Test.YtfnmahjdkmgdkaaDoorTie
section
namespace Go.Proofs.YtfnmahjdkmgdkaaDoor
open Go.RowKit
namespace Rg
set_option maxRecDepth 100000
set_option maxHeartbeats 4000000 in
set_option maxRecDepth 100000 in
theorem field_low (s : Int) (a b c : Nat) (hs : s < 0)
    (c0 : ∀ w, Mm w [(0, dtab)] → Calls Tryd.prog 17 #[] w fun e w' => e = .returned (.bool true) ∧ Below w.heap.size w w') (w : World) (hm : Mm w [(0, dtab)]) :
    Calls Tryd.prog 4 #[.int .i64 s, N a, N b, N c] w fun e w' => e = .returned (.bool true) ∧ Below w.heap.size w w' := by
  have H0 : Hid (_ ∧ _) := ⟨hm, Below.refl w.heap.size w⟩
  clear hm
  have C0 : Hid _ := c0
  clear c0
  go_enter Tryd.func4, Tryd.ntmps4
  refine wp_seq ?_
  refine walk_seqA 4 [.made (cells6 a) 24, .made (cells6 b) 24, .made (cells6 c) 24, .quiet (.bool false)] (sB H0) ?ho1 ?he1
  case ho1 => exact ak (fun γ => ⟨rfl, fun w' => ex_box6 rfl rfl⟩) (ak (fun γ => ⟨rfl, fun w' => ex_box6 rfl rfl⟩) (ak (fun γ => ⟨rfl, fun w' => ex_box6 rfl rfl⟩) (ak (fun _ => ⟨rfl, fun _ _ => rfl⟩) trivial)))
  intro γ w1 l hM hl
  have H1 : Hid (Mm w1 [(γ 0, cells6 a), (γ 1, cells6 b), (γ 2, cells6 c), (0, dtab)] ∧ _) := growB H0 hM (Nat.le_refl _) hl [0, 1, 2] rfl (by decide)
  have o1_0 := ownB H0 hM (Nat.le_refl _) hl (i := 0) rfl
  have o1_1 := ownB H0 hM (Nat.le_refl _) hl (i := 1) rfl
  have o1_2 := ownB H0 hM (Nat.le_refl _) hl (i := 2) rfl
  clear hM hl l
  generalize γ 0 = γ1_0 at H1 o1_0 ⊢
  generalize γ 1 = γ1_1 at H1 o1_1 ⊢
  generalize γ 2 = γ1_2 at H1 o1_2 ⊢
  clear γ
  refine rest0 rfl (then_normal (wp_seq ?_))
  refine walk_seqB 2 [.call (.bool true), .quiet (.bool true)] H1 ?ho2 ?he2
  case ho2 => exact ak (fun γ => ⟨rfl, fun w' h => ⟨17, #[], exec_call rfl call17 rfl (mpn rfl), C0.out w' (h.one 3 rfl)⟩⟩) (ak (fun _ => ⟨rfl, fun _ _ => rfl⟩) trivial)
  intro _ w2 H2
  clear H1
  refine rest0 rfl (then_normal (wp_seq (wp_seq ?_)))
  refine walk_seqB 6 [.quiet (.int .i64 s), .quiet (.bool true), .quiet (.bool true), .gone, .gone, .quiet (.bool true)] H2 ?ho3 ?he3
  case ho3 => exact ak (fun _ => ⟨rfl, fun _ _ => rfl⟩) (ak (by refine fun γ => ⟨rfl, fun w' h => ?_⟩; clear h; go_simp <;> omega) (ak (fun _ => ⟨rfl, fun _ _ => rfl⟩) (ak (fun γ => rfl) (ak (fun γ => rfl) (ak (by refine fun γ => ⟨rfl, fun w' h => ?_⟩; clear h; go_simp) trivial)))))
  intro _ w3 H3
  clear H2
  refine rest0 rfl (then_normal (wp_cond_true rfl (wp_seq ?_)))
  refine walk_seqB 2 [.quiet (.bool true), .quiet (.bool true)] H3 ?ho4 ?he4
  case ho4 => exact ak (fun _ => ⟨rfl, fun _ _ => rfl⟩) (ak (fun _ => ⟨rfl, fun _ _ => rfl⟩) trivial)
  intro _ w4 H4
  clear H3
  refine rest0 rfl (then_normal (wp_ret ?_))
  repeat (first | refine then_ret ?_ | refine block_ret ?_)
  refine bodyPost_ret (v := .bool true) (by simp [results, Tryd.results4, go_sem, *]) rfl ?_
  exact ⟨rfl, H4.out.2⟩
set_option maxHeartbeats 4000000 in
set_option maxRecDepth 100000 in
theorem field_high (s : Int) (a b c : Nat) (hs : 2 < s) (hs0 : ¬ s < 0)
    (c0 : ∀ w, Mm w [(0, dtab)] → Calls Tryd.prog 17 #[] w fun e w' => e = .returned (.bool true) ∧ Below w.heap.size w w') (w : World) (hm : Mm w [(0, dtab)]) :
    Calls Tryd.prog 4 #[.int .i64 s, N a, N b, N c] w fun e w' => e = .returned (.bool true) ∧ Below w.heap.size w w' := by
  have H0 : Hid (_ ∧ _) := ⟨hm, Below.refl w.heap.size w⟩
  clear hm
  have C0 : Hid _ := c0
  clear c0
  go_enter Tryd.func4, Tryd.ntmps4
  refine wp_seq ?_
  refine walk_seqA 4 [.made (cells6 a) 24, .made (cells6 b) 24, .made (cells6 c) 24, .quiet (.bool false)] (sB H0) ?ho1 ?he1
  case ho1 => exact ak (fun γ => ⟨rfl, fun w' => ex_box6 rfl rfl⟩) (ak (fun γ => ⟨rfl, fun w' => ex_box6 rfl rfl⟩) (ak (fun γ => ⟨rfl, fun w' => ex_box6 rfl rfl⟩) (ak (fun _ => ⟨rfl, fun _ _ => rfl⟩) trivial)))
  intro γ w1 l hM hl
  have H1 : Hid (Mm w1 [(γ 0, cells6 a), (γ 1, cells6 b), (γ 2, cells6 c), (0, dtab)] ∧ _) := growB H0 hM (Nat.le_refl _) hl [0, 1, 2] rfl (by decide)
  have o1_0 := ownB H0 hM (Nat.le_refl _) hl (i := 0) rfl
  have o1_1 := ownB H0 hM (Nat.le_refl _) hl (i := 1) rfl
  have o1_2 := ownB H0 hM (Nat.le_refl _) hl (i := 2) rfl
  clear hM hl l
  generalize γ 0 = γ1_0 at H1 o1_0 ⊢
  generalize γ 1 = γ1_1 at H1 o1_1 ⊢
  generalize γ 2 = γ1_2 at H1 o1_2 ⊢
  clear γ
  refine rest0 rfl (then_normal (wp_seq ?_))
  refine walk_seqB 2 [.call (.bool true), .quiet (.bool true)] H1 ?ho2 ?he2
  case ho2 => exact ak (fun γ => ⟨rfl, fun w' h => ⟨17, #[], exec_call rfl call17 rfl (mpn rfl), C0.out w' (h.one 3 rfl)⟩⟩) (ak (fun _ => ⟨rfl, fun _ _ => rfl⟩) trivial)
  intro _ w2 H2
  clear H1
  refine rest0 rfl (then_normal (wp_seq (wp_seq ?_)))
  refine walk_seqB 6 [.quiet (.int .i64 s), .quiet (.bool false), .quiet (.bool false), .quiet (.int .i64 s), .quiet (.bool true), .quiet (.bool true)] H2 ?ho3 ?he3
  case ho3 => exact ak (fun _ => ⟨rfl, fun _ _ => rfl⟩) (ak (by refine fun γ => ⟨rfl, fun w' h => ?_⟩; clear h; go_simp <;> omega) (ak (fun _ => ⟨rfl, fun _ _ => rfl⟩) (ak (fun _ => ⟨rfl, fun _ _ => rfl⟩) (ak (by refine fun γ => ⟨rfl, fun w' h => ?_⟩; clear h; go_simp <;> omega) (ak (by refine fun γ => ⟨rfl, fun w' h => ?_⟩; clear h; go_simp) trivial)))))
  intro _ w3 H3
  clear H2
  refine rest0 rfl (then_normal (wp_cond_true rfl (wp_seq ?_)))
  refine walk_seqB 2 [.quiet (.bool true), .quiet (.bool true)] H3 ?ho4 ?he4
  case ho4 => exact ak (fun _ => ⟨rfl, fun _ _ => rfl⟩) (ak (fun _ => ⟨rfl, fun _ _ => rfl⟩) trivial)
  intro _ w4 H4
  clear H3
  refine rest0 rfl (then_normal (wp_ret ?_))
  repeat (first | refine then_ret ?_ | refine block_ret ?_)
  refine bodyPost_ret (v := .bool true) (by simp [results, Tryd.results4, go_sem, *]) rfl ?_
  exact ⟨rfl, H4.out.2⟩
set_option maxHeartbeats 4000000 in
set_option maxRecDepth 100000 in
theorem field_in (s : Int) (a b c x1 x2 x3 xy m3 yz sm d xz iv k1 : Nat) (hs0 : ¬ s < 0) (hs2 : ¬ 2 < s)
    (e_xy : ∀ w, (Op.equalIn 10000 24 (N xy) (N xy)).run Tryd.prog w = .ok true w)
    (e_m3 : ∀ w, (Op.equalIn 10000 24 (N m3) (N m3)).run Tryd.prog w = .ok true w)
    (e_d : ∀ w, (Op.equalIn 10000 24 (N d) (N d)).run Tryd.prog w = .ok true w)
    (e_x1 : ∀ w, (Op.equalIn 10000 24 (N x1) (N x1)).run Tryd.prog w = .ok true w)
    (e_k1 : ∀ w, (Op.equalIn 10000 24 (N k1) (N k1)).run Tryd.prog w = .ok true w)
    (e_0 : ∀ w, (Op.equalIn 10000 24 (N x1) (N 0)).run Tryd.prog w = .ok false w)
    (hc : ∀ g w, Mm w [(g, cel [a, b, c])] → Calls Tryd.prog 18 #[.int .i64 s, .slice (some ⟨g, 0, none⟩) 3 3] w fun e w' => Below w.heap.size w w' ∧ ∃ g x _y : Nat, e = .returned (.slice (some ⟨g, 0, none⟩) 3 x) ∧ w.heap.size ≤ g ∧ g < w'.heap.size ∧ Blk w' g (cel [x1, x2, x3]))
    (c0 : ∀ w, Mm w [(0, dtab)] → Calls Tryd.prog 17 #[] w fun e w' => e = .returned (.bool true) ∧ Below w.heap.size w w')
    (c1 : ∀ w, Calls Tryd.prog 19 #[.int .i64 s, N x1, N x2] w fun e w' => e = .returned (.tuple #[N xy, .int .i64 0]) ∧ Below w.heap.size w w')
    (c2 : ∀ w, Calls Tryd.prog 19 #[.int .i64 s, N x2, N x1] w fun e w' => e = .returned (.tuple #[N xy, .int .i64 0]) ∧ Below w.heap.size w w')
    (c3 : ∀ w, Calls Tryd.prog 19 #[.int .i64 s, N xy, N x3] w fun e w' => e = .returned (.tuple #[N m3, .int .i64 0]) ∧ Below w.heap.size w w')
    (c4 : ∀ w, Calls Tryd.prog 19 #[.int .i64 s, N x2, N x3] w fun e w' => e = .returned (.tuple #[N yz, .int .i64 0]) ∧ Below w.heap.size w w')
    (c5 : ∀ w, Calls Tryd.prog 19 #[.int .i64 s, N x1, N yz] w fun e w' => e = .returned (.tuple #[N m3, .int .i64 0]) ∧ Below w.heap.size w w')
    (c6 : ∀ w, Calls Tryd.prog 20 #[.int .i64 s, N x1, N x2] w fun e w' => e = .returned (.tuple #[N sm, .int .i64 0]) ∧ Below w.heap.size w w')
    (c7 : ∀ w, Calls Tryd.prog 19 #[.int .i64 s, N sm, N x3] w fun e w' => e = .returned (.tuple #[N d, .int .i64 0]) ∧ Below w.heap.size w w')
    (c8 : ∀ w, Calls Tryd.prog 19 #[.int .i64 s, N x1, N x3] w fun e w' => e = .returned (.tuple #[N xz, .int .i64 0]) ∧ Below w.heap.size w w')
    (c9 : ∀ w, Calls Tryd.prog 20 #[.int .i64 s, N xz, N yz] w fun e w' => e = .returned (.tuple #[N d, .int .i64 0]) ∧ Below w.heap.size w w')
    (c10 : ∀ w, Calls Tryd.prog 21 #[.int .i64 s, N sm, N x2] w fun e w' => e = .returned (.tuple #[N x1, .int .i64 0]) ∧ Below w.heap.size w w')
    (c11 : ∀ w, Calls Tryd.prog 19 #[.int .i64 s, N iv, N x1] w fun e w' => e = .returned (.tuple #[N k1, .int .i64 0]) ∧ Below w.heap.size w w')
    (c12 : ∀ w, Mm w [(0, dtab)] → Calls Tryd.prog 22 #[.int .i64 s, N x1] w fun e w' => e = .returned (.tuple #[N iv, .int .i64 0]) ∧ Below w.heap.size w w')
    (c13 : ∀ w, Calls Tryd.prog 23 #[.int .u64 1] w fun e w' => e = .returned (N k1) ∧ Below w.heap.size w w') (w : World) (hm : Mm w [(0, dtab)]) :
    Calls Tryd.prog 4 #[.int .i64 s, N a, N b, N c] w fun e w' => e = .returned (.bool true) ∧ Below w.heap.size w w' := by
  have H0 : Hid (_ ∧ _) := ⟨hm, Below.refl w.heap.size w⟩
  clear hm
  have C0 : Hid _ := c0
  have C1 : Hid _ := c1
  have C2 : Hid _ := c2
  have C3 : Hid _ := c3
  have C4 : Hid _ := c4
  have C5 : Hid _ := c5
  have C6 : Hid _ := c6
  have C7 : Hid _ := c7
  have C8 : Hid _ := c8
  have C9 : Hid _ := c9
  have C10 : Hid _ := c10
  have C11 : Hid _ := c11
  have C12 : Hid _ := c12
  have C13 : Hid _ := c13
  clear c0 c1 c2 c3 c4 c5 c6 c7 c8 c9 c10 c11 c12 c13
  have HC : Hid _ := hc
  clear hc
  go_enter Tryd.func4, Tryd.ntmps4
  refine wp_seq ?_
  refine walk_seqA 4 [.made (cells6 a) 24, .made (cells6 b) 24, .made (cells6 c) 24, .quiet (.bool false)] (sB H0) ?ho1 ?he1
  case ho1 => exact ak (fun γ => ⟨rfl, fun w' => ex_box6 rfl rfl⟩) (ak (fun γ => ⟨rfl, fun w' => ex_box6 rfl rfl⟩) (ak (fun γ => ⟨rfl, fun w' => ex_box6 rfl rfl⟩) (ak (fun _ => ⟨rfl, fun _ _ => rfl⟩) trivial)))
  intro γ w1 l hM hl
  have H1 : Hid (Mm w1 [(γ 0, cells6 a), (γ 1, cells6 b), (γ 2, cells6 c), (0, dtab)] ∧ _) := growB H0 hM (Nat.le_refl _) hl [0, 1, 2] rfl (by decide)
  have o1_0 := ownB H0 hM (Nat.le_refl _) hl (i := 0) rfl
  have o1_1 := ownB H0 hM (Nat.le_refl _) hl (i := 1) rfl
  have o1_2 := ownB H0 hM (Nat.le_refl _) hl (i := 2) rfl
  clear hM hl l
  generalize γ 0 = γ1_0 at H1 o1_0 ⊢
  generalize γ 1 = γ1_1 at H1 o1_1 ⊢
  generalize γ 2 = γ1_2 at H1 o1_2 ⊢
  clear γ
  refine rest0 rfl (then_normal (wp_seq ?_))
  refine walk_seqB 2 [.call (.bool true), .quiet (.bool true)] H1 ?ho2 ?he2
  case ho2 => exact ak (fun γ => ⟨rfl, fun w' h => ⟨17, #[], exec_call rfl call17 rfl (mpn rfl), C0.out w' (h.one 3 rfl)⟩⟩) (ak (fun _ => ⟨rfl, fun _ _ => rfl⟩) trivial)
  intro _ w2 H2
  clear H1
  refine rest0 rfl (then_normal (wp_seq (wp_seq ?_)))
  refine walk_seqB 6 [.quiet (.int .i64 s), .quiet (.bool false), .quiet (.bool false), .quiet (.int .i64 s), .quiet (.bool false), .quiet (.bool false)] H2 ?ho3 ?he3
  case ho3 => exact ak (fun _ => ⟨rfl, fun _ _ => rfl⟩) (ak (by refine fun γ => ⟨rfl, fun w' h => ?_⟩; clear h; go_simp <;> omega) (ak (fun _ => ⟨rfl, fun _ _ => rfl⟩) (ak (fun _ => ⟨rfl, fun _ _ => rfl⟩) (ak (by refine fun γ => ⟨rfl, fun w' h => ?_⟩; clear h; go_simp <;> omega) (ak (by refine fun γ => ⟨rfl, fun w' h => ?_⟩; clear h; go_simp) trivial)))))
  intro _ w3 H3
  clear H2
  refine rest0 rfl (then_normal (wp_cond_false rfl ?_))
  refine wp_skip (then_normal (wp_seq ?_))
  refine walk_seqB 4 [.quiet (.int .i64 s), .quiet (N a), .quiet (N b), .quiet (N c)] H3 ?ho4 ?he4
  case ho4 => exact ak (fun _ => ⟨rfl, fun _ _ => rfl⟩) (ak (fun γ => ⟨rfl, fun w' h => ex_load6 h 0 rfl rfl rfl rfl⟩) (ak (fun γ => ⟨rfl, fun w' h => ex_load6 h 1 rfl rfl rfl rfl⟩) (ak (fun γ => ⟨rfl, fun w' h => ex_load6 h 2 rfl rfl rfl rfl⟩) trivial)))
  intro _ w4 H4
  clear H3
  refine rest_at (l := [4, 5, 6]) rfl ?_
  refine rest_set (d := 47) (v := .slice (some ⟨w4.heap.size, 0, none⟩) 3 3) (w' := w4.alloc (.cells (cel [a, b, c] : List Value).toArray 24)) rfl rfl rfl (ex_bsN3 rfl rfl rfl rfl) ?_
  simp only [Act.put, sa, sz, ss]
  have o_γs5 : Hid (w.heap.size ≤ w4.heap.size) := H4.out.2.size
  have H5 : Hid (Mm (w4.alloc (.cells (cel [a, b, c] : List Value).toArray 24)) ((w4.heap.size, cel [a, b, c]) :: [(γ1_0, cells6 a), (γ1_1, cells6 b), (γ1_2, cells6 c), (0, dtab)]) ∧ Below w.heap.size w (w4.alloc (.cells (cel [a, b, c] : List Value).toArray 24))) := ⟨H4.out.1.alloc _ 24 rfl, H4.out.2.alloc H4.out.2.size _⟩
  clear H4
  generalize hgw : w4.alloc (.cells (cel [a, b, c] : List Value).toArray 24) = w5 at H5 ⊢
  clear hgw
  generalize w4.heap.size = γs5 at o_γs5 H5 ⊢
  refine rest_enter (d := 48) (R := fun vv w' => Below w5.heap.size w5 w' ∧ ∃ g x y, vv = .slice (some ⟨g, 0, none⟩) 3 x ∧ w5.heap.size ≤ g ∧ g < w'.heap.size ∧ Blk w' g (cel [x1, x2, x3])) rfl rfl rfl (exec_call (args := #[.int .i64 s, .slice (some ⟨γs5, 0, none⟩) 3 3]) rfl call18 rfl (mpn rfl)) (Calls.mono (HC.out _ w5 (H5.out.1.one 0 rfl)) (fun e w2 hh => by obtain ⟨hb, g, x, y, he, h1, h2, h3⟩ := hh; exact ⟨_, he, hb, g, x, y, rfl, h1, h2, h3⟩)) ?_
  rintro _ w6 ⟨hb, γs6, xs6, ys6, rfl, hg1, hg2, hg3⟩
  have o_γs6 : Hid (w.heap.size ≤ γs6) := Nat.le_trans H5.out.2.size hg1
  have H6 : Hid (Mm w6 [(γs6, cel [x1, x2, x3]), (γs5, cel [a, b, c]), (γ1_0, cells6 a), (γ1_1, cells6 b), (γ1_2, cells6 c), (0, dtab)] ∧ Below w.heap.size w w6) := ⟨Mm.cons (H5.out.1.below hb) hg3 hg2 (fun p hp => Nat.ne_of_lt (Nat.lt_of_lt_of_le (H5.out.1.blk p hp).1 hg1)), H5.out.2.trans (hb.mono H5.out.2.size)⟩
  clear hb hg1 hg2 hg3 H5
  simp only [Act.put, sa, sz, ss]
  refine rest_set (d := 10) rfl rfl rfl rfl ?_
  simp only [Act.put, sa, sz, ss]
  refine rest_nil (then_normal ?_)
  refine wp_seq (wp_seq ?_)
  refine walk_seqB 3 [.quiet (.slice (some ⟨γs6, 0, none⟩) 3 xs6), .quiet (.int .i64 3), .quiet (.bool false)] H6 ?ho5 ?he5
  case ho5 => exact ak (fun _ => ⟨rfl, fun _ _ => rfl⟩) (ak (by refine fun γ => ⟨rfl, fun w' h => ?_⟩; clear h; go_simp) (ak (by refine fun γ => ⟨rfl, fun w' h => ?_⟩; clear h; go_simp) trivial))
  intro _ w7 H7
  clear H6
  refine rest0 rfl (then_normal (wp_cond_false rfl ?_))
  refine wp_skip (then_normal (wp_seq ?_))
  refine walk_anyA 14 [.quiet (.int .i64 s), .quiet (.slice (some ⟨γs6, 0, none⟩) 3 xs6), .quiet (PT γs6 0), .quiet (N x1), .quiet (.slice (some ⟨γs6, 0, none⟩) 3 xs6), .quiet (PT γs6 6), .quiet (N x2), .call (.tuple #[N xy, .int .i64 0]), .quiet (.tuple #[N xy, .int .i64 0]), .quiet (N xy), .quiet (.int .i64 0), .made zero6 24, .laid 11 zero6 (cells6 xy), .quiet (.int .i64 0)] (sB H7) ?ho6 ?he6 (hL := ?hL6)
  case hL6 => exact ⟨⟨_, rfl⟩, trivial⟩
  case ho6 => exact ak (fun _ => ⟨rfl, fun _ _ => rfl⟩) (ak (fun _ => ⟨rfl, fun _ _ => rfl⟩) (ak (by refine fun γ => ⟨rfl, fun w' h => ?_⟩; clear h; go_simp) (ak (fun γ => ⟨rfl, fun w' h => ex_loadN (i := 0) h 0 rfl rfl rfl rfl⟩) (ak (fun _ => ⟨rfl, fun _ _ => rfl⟩) (ak (by refine fun γ => ⟨rfl, fun w' h => ?_⟩; clear h; go_simp) (ak (fun γ => ⟨rfl, fun w' h => ex_loadN (i := 1) h 0 rfl rfl rfl rfl⟩) (ak (fun γ => ⟨rfl, fun w' h => ⟨19, #[.int .i64 s, N x1, N x2], exec_call rfl call19 rfl (mpn rfl), C1.out w'⟩⟩) (ak (fun _ => ⟨rfl, fun _ _ => rfl⟩) (ak (by refine fun γ => ⟨rfl, fun w' h => ?_⟩; clear h; go_simp) (ak (by refine fun γ => ⟨rfl, fun w' h => ?_⟩; clear h; go_simp) (ak (fun γ => ⟨rfl, fun w' => exec_made6 rfl⟩) (ak (fun γ => ⟨rfl, rfl, rfl, fun w' h => exec_laid6 h rfl rfl rfl⟩) (ak (fun _ => ⟨rfl, fun _ _ => rfl⟩) trivial)))))))))))))
  intro γ w8 l hM hl
  have H8 : Hid (Mm w8 [(γ 11, cells6 xy), (γs6, cel [x1, x2, x3]), (γs5, cel [a, b, c]), (γ1_0, cells6 a), (γ1_1, cells6 b), (γ1_2, cells6 c), (0, dtab)] ∧ _) := growB H7 hM (Nat.le_refl _) hl [11] rfl (by decide)
  have o6_11 := ownB H7 hM (Nat.le_refl _) hl (i := 11) rfl
  clear hM hl l H7
  generalize γ 11 = γ6_11 at H8 o6_11 ⊢
  clear γ
  refine rest0 rfl (then_normal (wp_seq ?_))
  refine walk_anyA 14 [.quiet (.int .i64 s), .quiet (.slice (some ⟨γs6, 0, none⟩) 3 xs6), .quiet (PT γs6 6), .quiet (N x2), .quiet (.slice (some ⟨γs6, 0, none⟩) 3 xs6), .quiet (PT γs6 0), .quiet (N x1), .call (.tuple #[N xy, .int .i64 0]), .quiet (.tuple #[N xy, .int .i64 0]), .quiet (N xy), .quiet (.int .i64 0), .made zero6 24, .laid 11 zero6 (cells6 xy), .quiet (.int .i64 0)] (sB H8) ?ho7 ?he7 (hL := ?hL7)
  case hL7 => exact ⟨⟨_, rfl⟩, trivial⟩
  case ho7 => exact ak (fun _ => ⟨rfl, fun _ _ => rfl⟩) (ak (fun _ => ⟨rfl, fun _ _ => rfl⟩) (ak (by refine fun γ => ⟨rfl, fun w' h => ?_⟩; clear h; go_simp) (ak (fun γ => ⟨rfl, fun w' h => ex_loadN (i := 1) h 1 rfl rfl rfl rfl⟩) (ak (fun _ => ⟨rfl, fun _ _ => rfl⟩) (ak (by refine fun γ => ⟨rfl, fun w' h => ?_⟩; clear h; go_simp) (ak (fun γ => ⟨rfl, fun w' h => ex_loadN (i := 0) h 1 rfl rfl rfl rfl⟩) (ak (fun γ => ⟨rfl, fun w' h => ⟨19, #[.int .i64 s, N x2, N x1], exec_call rfl call19 rfl (mpn rfl), C2.out w'⟩⟩) (ak (fun _ => ⟨rfl, fun _ _ => rfl⟩) (ak (by refine fun γ => ⟨rfl, fun w' h => ?_⟩; clear h; go_simp) (ak (by refine fun γ => ⟨rfl, fun w' h => ?_⟩; clear h; go_simp) (ak (fun γ => ⟨rfl, fun w' => exec_made6 rfl⟩) (ak (fun γ => ⟨rfl, rfl, rfl, fun w' h => exec_laid6 h rfl rfl rfl⟩) (ak (fun _ => ⟨rfl, fun _ _ => rfl⟩) trivial)))))))))))))
  intro γ w9 l hM hl
  have H9 : Hid (Mm w9 [(γ 11, cells6 xy), (γ6_11, cells6 xy), (γs6, cel [x1, x2, x3]), (γs5, cel [a, b, c]), (γ1_0, cells6 a), (γ1_1, cells6 b), (γ1_2, cells6 c), (0, dtab)] ∧ _) := growB H8 hM (Nat.le_refl _) hl [11] rfl (by decide)
  have o7_11 := ownB H8 hM (Nat.le_refl _) hl (i := 11) rfl
  clear hM hl l H8
  generalize γ 11 = γ7_11 at H9 o7_11 ⊢
  clear γ
  refine rest0 rfl (then_normal (wp_seq ?_))
  refine walk_anyA 12 [.quiet (.int .i64 s), .quiet (N xy), .quiet (.slice (some ⟨γs6, 0, none⟩) 3 xs6), .quiet (PT γs6 12), .quiet (N x3), .call (.tuple #[N m3, .int .i64 0]), .quiet (.tuple #[N m3, .int .i64 0]), .quiet (N m3), .quiet (.int .i64 0), .made zero6 24, .laid 9 zero6 (cells6 m3), .quiet (.int .i64 0)] (sB H9) ?ho8 ?he8 (hL := ?hL8)
  case hL8 => exact ⟨⟨_, rfl⟩, trivial⟩
  case ho8 => exact ak (fun _ => ⟨rfl, fun _ _ => rfl⟩) (ak (fun γ => ⟨rfl, fun w' h => ex_load6 h 1 rfl rfl rfl rfl⟩) (ak (fun _ => ⟨rfl, fun _ _ => rfl⟩) (ak (by refine fun γ => ⟨rfl, fun w' h => ?_⟩; clear h; go_simp) (ak (fun γ => ⟨rfl, fun w' h => ex_loadN (i := 2) h 2 rfl rfl rfl rfl⟩) (ak (fun γ => ⟨rfl, fun w' h => ⟨19, #[.int .i64 s, N xy, N x3], exec_call rfl call19 rfl (mpn rfl), C3.out w'⟩⟩) (ak (fun _ => ⟨rfl, fun _ _ => rfl⟩) (ak (by refine fun γ => ⟨rfl, fun w' h => ?_⟩; clear h; go_simp) (ak (by refine fun γ => ⟨rfl, fun w' h => ?_⟩; clear h; go_simp) (ak (fun γ => ⟨rfl, fun w' => exec_made6 rfl⟩) (ak (fun γ => ⟨rfl, rfl, rfl, fun w' h => exec_laid6 h rfl rfl rfl⟩) (ak (fun _ => ⟨rfl, fun _ _ => rfl⟩) trivial)))))))))))
  intro γ w10 l hM hl
  have H10 : Hid (Mm w10 [(γ 9, cells6 m3), (γ7_11, cells6 xy), (γ6_11, cells6 xy), (γs6, cel [x1, x2, x3]), (γs5, cel [a, b, c]), (γ1_0, cells6 a), (γ1_1, cells6 b), (γ1_2, cells6 c), (0, dtab)] ∧ _) := growB H9 hM (Nat.le_refl _) hl [9] rfl (by decide)
  have o8_9 := ownB H9 hM (Nat.le_refl _) hl (i := 9) rfl
  clear hM hl l H9
  generalize γ 9 = γ8_9 at H10 o8_9 ⊢
  clear γ
  refine rest0 rfl (then_normal (wp_seq ?_))
  refine walk_anyA 14 [.quiet (.int .i64 s), .quiet (.slice (some ⟨γs6, 0, none⟩) 3 xs6), .quiet (PT γs6 6), .quiet (N x2), .quiet (.slice (some ⟨γs6, 0, none⟩) 3 xs6), .quiet (PT γs6 12), .quiet (N x3), .call (.tuple #[N yz, .int .i64 0]), .quiet (.tuple #[N yz, .int .i64 0]), .quiet (N yz), .quiet (.int .i64 0), .made zero6 24, .laid 11 zero6 (cells6 yz), .quiet (.int .i64 0)] (sB H10) ?ho9 ?he9 (hL := ?hL9)
  case hL9 => exact ⟨⟨_, rfl⟩, trivial⟩
  case ho9 => exact ak (fun _ => ⟨rfl, fun _ _ => rfl⟩) (ak (fun _ => ⟨rfl, fun _ _ => rfl⟩) (ak (by refine fun γ => ⟨rfl, fun w' h => ?_⟩; clear h; go_simp) (ak (fun γ => ⟨rfl, fun w' h => ex_loadN (i := 1) h 3 rfl rfl rfl rfl⟩) (ak (fun _ => ⟨rfl, fun _ _ => rfl⟩) (ak (by refine fun γ => ⟨rfl, fun w' h => ?_⟩; clear h; go_simp) (ak (fun γ => ⟨rfl, fun w' h => ex_loadN (i := 2) h 3 rfl rfl rfl rfl⟩) (ak (fun γ => ⟨rfl, fun w' h => ⟨19, #[.int .i64 s, N x2, N x3], exec_call rfl call19 rfl (mpn rfl), C4.out w'⟩⟩) (ak (fun _ => ⟨rfl, fun _ _ => rfl⟩) (ak (by refine fun γ => ⟨rfl, fun w' h => ?_⟩; clear h; go_simp) (ak (by refine fun γ => ⟨rfl, fun w' h => ?_⟩; clear h; go_simp) (ak (fun γ => ⟨rfl, fun w' => exec_made6 rfl⟩) (ak (fun γ => ⟨rfl, rfl, rfl, fun w' h => exec_laid6 h rfl rfl rfl⟩) (ak (fun _ => ⟨rfl, fun _ _ => rfl⟩) trivial)))))))))))))
  intro γ w11 l hM hl
  have H11 : Hid (Mm w11 [(γ 11, cells6 yz), (γ8_9, cells6 m3), (γ7_11, cells6 xy), (γ6_11, cells6 xy), (γs6, cel [x1, x2, x3]), (γs5, cel [a, b, c]), (γ1_0, cells6 a), (γ1_1, cells6 b), (γ1_2, cells6 c), (0, dtab)] ∧ _) := growB H10 hM (Nat.le_refl _) hl [11] rfl (by decide)
  have o9_11 := ownB H10 hM (Nat.le_refl _) hl (i := 11) rfl
  clear hM hl l H10
  generalize γ 11 = γ9_11 at H11 o9_11 ⊢
  clear γ
  refine rest0 rfl (then_normal (wp_seq ?_))
  refine walk_anyA 12 [.quiet (.int .i64 s), .quiet (.slice (some ⟨γs6, 0, none⟩) 3 xs6), .quiet (PT γs6 0), .quiet (N x1), .quiet (N yz), .call (.tuple #[N m3, .int .i64 0]), .quiet (.tuple #[N m3, .int .i64 0]), .quiet (N m3), .quiet (.int .i64 0), .made zero6 24, .laid 9 zero6 (cells6 m3), .quiet (.int .i64 0)] (sB H11) ?ho10 ?he10 (hL := ?hL10)
  case hL10 => exact ⟨⟨_, rfl⟩, trivial⟩
  case ho10 => exact ak (fun _ => ⟨rfl, fun _ _ => rfl⟩) (ak (fun _ => ⟨rfl, fun _ _ => rfl⟩) (ak (by refine fun γ => ⟨rfl, fun w' h => ?_⟩; clear h; go_simp) (ak (fun γ => ⟨rfl, fun w' h => ex_loadN (i := 0) h 4 rfl rfl rfl rfl⟩) (ak (fun γ => ⟨rfl, fun w' h => ex_load6 h 0 rfl rfl rfl rfl⟩) (ak (fun γ => ⟨rfl, fun w' h => ⟨19, #[.int .i64 s, N x1, N yz], exec_call rfl call19 rfl (mpn rfl), C5.out w'⟩⟩) (ak (fun _ => ⟨rfl, fun _ _ => rfl⟩) (ak (by refine fun γ => ⟨rfl, fun w' h => ?_⟩; clear h; go_simp) (ak (by refine fun γ => ⟨rfl, fun w' h => ?_⟩; clear h; go_simp) (ak (fun γ => ⟨rfl, fun w' => exec_made6 rfl⟩) (ak (fun γ => ⟨rfl, rfl, rfl, fun w' h => exec_laid6 h rfl rfl rfl⟩) (ak (fun _ => ⟨rfl, fun _ _ => rfl⟩) trivial)))))))))))
  intro γ w12 l hM hl
  have H12 : Hid (Mm w12 [(γ 9, cells6 m3), (γ9_11, cells6 yz), (γ8_9, cells6 m3), (γ7_11, cells6 xy), (γ6_11, cells6 xy), (γs6, cel [x1, x2, x3]), (γs5, cel [a, b, c]), (γ1_0, cells6 a), (γ1_1, cells6 b), (γ1_2, cells6 c), (0, dtab)] ∧ _) := growB H11 hM (Nat.le_refl _) hl [9] rfl (by decide)
  have o10_9 := ownB H11 hM (Nat.le_refl _) hl (i := 9) rfl
  clear hM hl l H11
  generalize γ 9 = γ10_9 at H12 o10_9 ⊢
  clear γ
  refine rest0 rfl (then_normal (wp_seq ?_))
  refine walk_anyA 14 [.quiet (.int .i64 s), .quiet (.slice (some ⟨γs6, 0, none⟩) 3 xs6), .quiet (PT γs6 0), .quiet (N x1), .quiet (.slice (some ⟨γs6, 0, none⟩) 3 xs6), .quiet (PT γs6 6), .quiet (N x2), .call (.tuple #[N sm, .int .i64 0]), .quiet (.tuple #[N sm, .int .i64 0]), .quiet (N sm), .quiet (.int .i64 0), .made zero6 24, .laid 11 zero6 (cells6 sm), .quiet (.int .i64 0)] (sB H12) ?ho11 ?he11 (hL := ?hL11)
  case hL11 => exact ⟨⟨_, rfl⟩, trivial⟩
  case ho11 => exact ak (fun _ => ⟨rfl, fun _ _ => rfl⟩) (ak (fun _ => ⟨rfl, fun _ _ => rfl⟩) (ak (by refine fun γ => ⟨rfl, fun w' h => ?_⟩; clear h; go_simp) (ak (fun γ => ⟨rfl, fun w' h => ex_loadN (i := 0) h 5 rfl rfl rfl rfl⟩) (ak (fun _ => ⟨rfl, fun _ _ => rfl⟩) (ak (by refine fun γ => ⟨rfl, fun w' h => ?_⟩; clear h; go_simp) (ak (fun γ => ⟨rfl, fun w' h => ex_loadN (i := 1) h 5 rfl rfl rfl rfl⟩) (ak (fun γ => ⟨rfl, fun w' h => ⟨20, #[.int .i64 s, N x1, N x2], exec_call rfl call20 rfl (mpn rfl), C6.out w'⟩⟩) (ak (fun _ => ⟨rfl, fun _ _ => rfl⟩) (ak (by refine fun γ => ⟨rfl, fun w' h => ?_⟩; clear h; go_simp) (ak (by refine fun γ => ⟨rfl, fun w' h => ?_⟩; clear h; go_simp) (ak (fun γ => ⟨rfl, fun w' => exec_made6 rfl⟩) (ak (fun γ => ⟨rfl, rfl, rfl, fun w' h => exec_laid6 h rfl rfl rfl⟩) (ak (fun _ => ⟨rfl, fun _ _ => rfl⟩) trivial)))))))))))))
  intro γ w13 l hM hl
  have H13 : Hid (Mm w13 [(γ 11, cells6 sm), (γ10_9, cells6 m3), (γ9_11, cells6 yz), (γ8_9, cells6 m3), (γ7_11, cells6 xy), (γ6_11, cells6 xy), (γs6, cel [x1, x2, x3]), (γs5, cel [a, b, c]), (γ1_0, cells6 a), (γ1_1, cells6 b), (γ1_2, cells6 c), (0, dtab)] ∧ _) := growB H12 hM (Nat.le_refl _) hl [11] rfl (by decide)
  have o11_11 := ownB H12 hM (Nat.le_refl _) hl (i := 11) rfl
  clear hM hl l H12
  generalize γ 11 = γ11_11 at H13 o11_11 ⊢
  clear γ
  refine rest0 rfl (then_normal (wp_seq ?_))
  refine walk_anyA 12 [.quiet (.int .i64 s), .quiet (N sm), .quiet (.slice (some ⟨γs6, 0, none⟩) 3 xs6), .quiet (PT γs6 12), .quiet (N x3), .call (.tuple #[N d, .int .i64 0]), .quiet (.tuple #[N d, .int .i64 0]), .quiet (N d), .quiet (.int .i64 0), .made zero6 24, .laid 9 zero6 (cells6 d), .quiet (.int .i64 0)] (sB H13) ?ho12 ?he12 (hL := ?hL12)
  case hL12 => exact ⟨⟨_, rfl⟩, trivial⟩
  case ho12 => exact ak (fun _ => ⟨rfl, fun _ _ => rfl⟩) (ak (fun γ => ⟨rfl, fun w' h => ex_load6 h 0 rfl rfl rfl rfl⟩) (ak (fun _ => ⟨rfl, fun _ _ => rfl⟩) (ak (by refine fun γ => ⟨rfl, fun w' h => ?_⟩; clear h; go_simp) (ak (fun γ => ⟨rfl, fun w' h => ex_loadN (i := 2) h 6 rfl rfl rfl rfl⟩) (ak (fun γ => ⟨rfl, fun w' h => ⟨19, #[.int .i64 s, N sm, N x3], exec_call rfl call19 rfl (mpn rfl), C7.out w'⟩⟩) (ak (fun _ => ⟨rfl, fun _ _ => rfl⟩) (ak (by refine fun γ => ⟨rfl, fun w' h => ?_⟩; clear h; go_simp) (ak (by refine fun γ => ⟨rfl, fun w' h => ?_⟩; clear h; go_simp) (ak (fun γ => ⟨rfl, fun w' => exec_made6 rfl⟩) (ak (fun γ => ⟨rfl, rfl, rfl, fun w' h => exec_laid6 h rfl rfl rfl⟩) (ak (fun _ => ⟨rfl, fun _ _ => rfl⟩) trivial)))))))))))
  intro γ w14 l hM hl
  have H14 : Hid (Mm w14 [(γ 9, cells6 d), (γ11_11, cells6 sm), (γ10_9, cells6 m3), (γ9_11, cells6 yz), (γ8_9, cells6 m3), (γ7_11, cells6 xy), (γ6_11, cells6 xy), (γs6, cel [x1, x2, x3]), (γs5, cel [a, b, c]), (γ1_0, cells6 a), (γ1_1, cells6 b), (γ1_2, cells6 c), (0, dtab)] ∧ _) := growB H13 hM (Nat.le_refl _) hl [9] rfl (by decide)
  have o12_9 := ownB H13 hM (Nat.le_refl _) hl (i := 9) rfl
  clear hM hl l H13
  generalize γ 9 = γ12_9 at H14 o12_9 ⊢
  clear γ
  refine rest0 rfl (then_normal (wp_seq ?_))
  refine walk_anyA 14 [.quiet (.int .i64 s), .quiet (.slice (some ⟨γs6, 0, none⟩) 3 xs6), .quiet (PT γs6 0), .quiet (N x1), .quiet (.slice (some ⟨γs6, 0, none⟩) 3 xs6), .quiet (PT γs6 12), .quiet (N x3), .call (.tuple #[N xz, .int .i64 0]), .quiet (.tuple #[N xz, .int .i64 0]), .quiet (N xz), .quiet (.int .i64 0), .made zero6 24, .laid 11 zero6 (cells6 xz), .quiet (.int .i64 0)] (sB H14) ?ho13 ?he13 (hL := ?hL13)
  case hL13 => exact ⟨⟨_, rfl⟩, trivial⟩
  case ho13 => exact ak (fun _ => ⟨rfl, fun _ _ => rfl⟩) (ak (fun _ => ⟨rfl, fun _ _ => rfl⟩) (ak (by refine fun γ => ⟨rfl, fun w' h => ?_⟩; clear h; go_simp) (ak (fun γ => ⟨rfl, fun w' h => ex_loadN (i := 0) h 7 rfl rfl rfl rfl⟩) (ak (fun _ => ⟨rfl, fun _ _ => rfl⟩) (ak (by refine fun γ => ⟨rfl, fun w' h => ?_⟩; clear h; go_simp) (ak (fun γ => ⟨rfl, fun w' h => ex_loadN (i := 2) h 7 rfl rfl rfl rfl⟩) (ak (fun γ => ⟨rfl, fun w' h => ⟨19, #[.int .i64 s, N x1, N x3], exec_call rfl call19 rfl (mpn rfl), C8.out w'⟩⟩) (ak (fun _ => ⟨rfl, fun _ _ => rfl⟩) (ak (by refine fun γ => ⟨rfl, fun w' h => ?_⟩; clear h; go_simp) (ak (by refine fun γ => ⟨rfl, fun w' h => ?_⟩; clear h; go_simp) (ak (fun γ => ⟨rfl, fun w' => exec_made6 rfl⟩) (ak (fun γ => ⟨rfl, rfl, rfl, fun w' h => exec_laid6 h rfl rfl rfl⟩) (ak (fun _ => ⟨rfl, fun _ _ => rfl⟩) trivial)))))))))))))
  intro γ w15 l hM hl
  have H15 : Hid (Mm w15 [(γ 11, cells6 xz), (γ12_9, cells6 d), (γ11_11, cells6 sm), (γ10_9, cells6 m3), (γ9_11, cells6 yz), (γ8_9, cells6 m3), (γ7_11, cells6 xy), (γ6_11, cells6 xy), (γs6, cel [x1, x2, x3]), (γs5, cel [a, b, c]), (γ1_0, cells6 a), (γ1_1, cells6 b), (γ1_2, cells6 c), (0, dtab)] ∧ _) := growB H14 hM (Nat.le_refl _) hl [11] rfl (by decide)
  have o13_11 := ownB H14 hM (Nat.le_refl _) hl (i := 11) rfl
  clear hM hl l H14
  generalize γ 11 = γ13_11 at H15 o13_11 ⊢
  clear γ
  refine rest0 rfl (then_normal (wp_seq ?_))
  refine walk_seqA 10 [.quiet (.int .i64 s), .quiet (N xz), .quiet (N yz), .call (.tuple #[N d, .int .i64 0]), .quiet (.tuple #[N d, .int .i64 0]), .quiet (N d), .quiet (.int .i64 0), .made zero6 24, .laid 7 zero6 (cells6 d), .quiet (.int .i64 0)] (sB H15) ?ho14 ?he14 (hL := ?hL14)
  case hL14 => exact ⟨⟨_, rfl⟩, trivial⟩
  case ho14 => exact ak (fun _ => ⟨rfl, fun _ _ => rfl⟩) (ak (fun γ => ⟨rfl, fun w' h => ex_load6 h 0 rfl rfl rfl rfl⟩) (ak (fun γ => ⟨rfl, fun w' h => ex_load6 h 4 rfl rfl rfl rfl⟩) (ak (fun γ => ⟨rfl, fun w' h => ⟨20, #[.int .i64 s, N xz, N yz], exec_call rfl call20 rfl (mpn rfl), C9.out w'⟩⟩) (ak (fun _ => ⟨rfl, fun _ _ => rfl⟩) (ak (by refine fun γ => ⟨rfl, fun w' h => ?_⟩; clear h; go_simp) (ak (by refine fun γ => ⟨rfl, fun w' h => ?_⟩; clear h; go_simp) (ak (fun γ => ⟨rfl, fun w' => exec_made6 rfl⟩) (ak (fun γ => ⟨rfl, rfl, rfl, fun w' h => exec_laid6 h rfl rfl rfl⟩) (ak (fun _ => ⟨rfl, fun _ _ => rfl⟩) trivial)))))))))
  intro γ w16 l hM hl
  have H16 : Hid (Mm w16 [(γ 7, cells6 d), (γ13_11, cells6 xz), (γ12_9, cells6 d), (γ11_11, cells6 sm), (γ10_9, cells6 m3), (γ9_11, cells6 yz), (γ8_9, cells6 m3), (γ7_11, cells6 xy), (γ6_11, cells6 xy), (γs6, cel [x1, x2, x3]), (γs5, cel [a, b, c]), (γ1_0, cells6 a), (γ1_1, cells6 b), (γ1_2, cells6 c), (0, dtab)] ∧ _) := growB H15 hM (Nat.le_refl _) hl [7] rfl (by decide)
  have o14_7 := ownB H15 hM (Nat.le_refl _) hl (i := 7) rfl
  clear hM hl l H15
  generalize γ 7 = γ14_7 at H16 o14_7 ⊢
  clear γ
  refine rest0 rfl (then_normal (wp_seq ?_))
  refine walk_anyA 12 [.quiet (.int .i64 s), .quiet (N sm), .quiet (.slice (some ⟨γs6, 0, none⟩) 3 xs6), .quiet (PT γs6 6), .quiet (N x2), .call (.tuple #[N x1, .int .i64 0]), .quiet (.tuple #[N x1, .int .i64 0]), .quiet (N x1), .quiet (.int .i64 0), .made zero6 24, .laid 9 zero6 (cells6 x1), .quiet (.int .i64 0)] (sB H16) ?ho15 ?he15 (hL := ?hL15)
  case hL15 => exact ⟨⟨_, rfl⟩, trivial⟩
  case ho15 => exact ak (fun _ => ⟨rfl, fun _ _ => rfl⟩) (ak (fun γ => ⟨rfl, fun w' h => ex_load6 h 3 rfl rfl rfl rfl⟩) (ak (fun _ => ⟨rfl, fun _ _ => rfl⟩) (ak (by refine fun γ => ⟨rfl, fun w' h => ?_⟩; clear h; go_simp) (ak (fun γ => ⟨rfl, fun w' h => ex_loadN (i := 1) h 9 rfl rfl rfl rfl⟩) (ak (fun γ => ⟨rfl, fun w' h => ⟨21, #[.int .i64 s, N sm, N x2], exec_call rfl call21 rfl (mpn rfl), C10.out w'⟩⟩) (ak (fun _ => ⟨rfl, fun _ _ => rfl⟩) (ak (by refine fun γ => ⟨rfl, fun w' h => ?_⟩; clear h; go_simp) (ak (by refine fun γ => ⟨rfl, fun w' h => ?_⟩; clear h; go_simp) (ak (fun γ => ⟨rfl, fun w' => exec_made6 rfl⟩) (ak (fun γ => ⟨rfl, rfl, rfl, fun w' h => exec_laid6 h rfl rfl rfl⟩) (ak (fun _ => ⟨rfl, fun _ _ => rfl⟩) trivial)))))))))))
  intro γ w17 l hM hl
  have H17 : Hid (Mm w17 [(γ 9, cells6 x1), (γ14_7, cells6 d), (γ13_11, cells6 xz), (γ12_9, cells6 d), (γ11_11, cells6 sm), (γ10_9, cells6 m3), (γ9_11, cells6 yz), (γ8_9, cells6 m3), (γ7_11, cells6 xy), (γ6_11, cells6 xy), (γs6, cel [x1, x2, x3]), (γs5, cel [a, b, c]), (γ1_0, cells6 a), (γ1_1, cells6 b), (γ1_2, cells6 c), (0, dtab)] ∧ _) := growB H16 hM (Nat.le_refl _) hl [9] rfl (by decide)
  have o15_9 := ownB H16 hM (Nat.le_refl _) hl (i := 9) rfl
  clear hM hl l H16
  generalize γ 9 = γ15_9 at H17 o15_9 ⊢
  clear γ
  refine rest0 rfl (then_normal (wp_seq ?_))
  refine walk_seqA 11 [.quiet (.int .i64 s), .quiet (.slice (some ⟨γs6, 0, none⟩) 3 xs6), .quiet (PT γs6 0), .quiet (N x1), .call (.tuple #[N iv, .int .i64 0]), .quiet (.tuple #[N iv, .int .i64 0]), .quiet (N iv), .quiet (.int .i64 0), .made zero6 24, .laid 8 zero6 (cells6 iv), .quiet (.int .i64 0)] (sB H17) ?ho16 ?he16 (hL := ?hL16)
  case hL16 => exact ⟨⟨_, rfl⟩, trivial⟩
  case ho16 => exact ak (fun _ => ⟨rfl, fun _ _ => rfl⟩) (ak (fun _ => ⟨rfl, fun _ _ => rfl⟩) (ak (by refine fun γ => ⟨rfl, fun w' h => ?_⟩; clear h; go_simp) (ak (fun γ => ⟨rfl, fun w' h => ex_loadN (i := 0) h 10 rfl rfl rfl rfl⟩) (ak (fun γ => ⟨rfl, fun w' h => ⟨22, #[.int .i64 s, N x1], exec_call rfl call22 rfl (mpn rfl), C12.out w' (h.one 15 rfl)⟩⟩) (ak (fun _ => ⟨rfl, fun _ _ => rfl⟩) (ak (by refine fun γ => ⟨rfl, fun w' h => ?_⟩; clear h; go_simp) (ak (by refine fun γ => ⟨rfl, fun w' h => ?_⟩; clear h; go_simp) (ak (fun γ => ⟨rfl, fun w' => exec_made6 rfl⟩) (ak (fun γ => ⟨rfl, rfl, rfl, fun w' h => exec_laid6 h rfl rfl rfl⟩) (ak (fun _ => ⟨rfl, fun _ _ => rfl⟩) trivial))))))))))
  intro γ w18 l hM hl
  have H18 : Hid (Mm w18 [(γ 8, cells6 iv), (γ15_9, cells6 x1), (γ14_7, cells6 d), (γ13_11, cells6 xz), (γ12_9, cells6 d), (γ11_11, cells6 sm), (γ10_9, cells6 m3), (γ9_11, cells6 yz), (γ8_9, cells6 m3), (γ7_11, cells6 xy), (γ6_11, cells6 xy), (γs6, cel [x1, x2, x3]), (γs5, cel [a, b, c]), (γ1_0, cells6 a), (γ1_1, cells6 b), (γ1_2, cells6 c), (0, dtab)] ∧ _) := growB H17 hM (Nat.le_refl _) hl [8] rfl (by decide)
  have o16_8 := ownB H17 hM (Nat.le_refl _) hl (i := 8) rfl
  clear hM hl l H17
  generalize γ 8 = γ16_8 at H18 o16_8 ⊢
  clear γ
  refine rest0 rfl (then_normal (wp_seq ?_))
  refine walk_anyA 12 [.quiet (.int .i64 s), .quiet (N iv), .quiet (.slice (some ⟨γs6, 0, none⟩) 3 xs6), .quiet (PT γs6 0), .quiet (N x1), .call (.tuple #[N k1, .int .i64 0]), .quiet (.tuple #[N k1, .int .i64 0]), .quiet (N k1), .quiet (.int .i64 0), .made zero6 24, .laid 9 zero6 (cells6 k1), .quiet (.int .i64 0)] (sB H18) ?ho17 ?he17 (hL := ?hL17)
  case hL17 => exact ⟨⟨_, rfl⟩, trivial⟩
  case ho17 => exact ak (fun _ => ⟨rfl, fun _ _ => rfl⟩) (ak (fun γ => ⟨rfl, fun w' h => ex_load6 h 0 rfl rfl rfl rfl⟩) (ak (fun _ => ⟨rfl, fun _ _ => rfl⟩) (ak (by refine fun γ => ⟨rfl, fun w' h => ?_⟩; clear h; go_simp) (ak (fun γ => ⟨rfl, fun w' h => ex_loadN (i := 0) h 11 rfl rfl rfl rfl⟩) (ak (fun γ => ⟨rfl, fun w' h => ⟨19, #[.int .i64 s, N iv, N x1], exec_call rfl call19 rfl (mpn rfl), C11.out w'⟩⟩) (ak (fun _ => ⟨rfl, fun _ _ => rfl⟩) (ak (by refine fun γ => ⟨rfl, fun w' h => ?_⟩; clear h; go_simp) (ak (by refine fun γ => ⟨rfl, fun w' h => ?_⟩; clear h; go_simp) (ak (fun γ => ⟨rfl, fun w' => exec_made6 rfl⟩) (ak (fun γ => ⟨rfl, rfl, rfl, fun w' h => exec_laid6 h rfl rfl rfl⟩) (ak (fun _ => ⟨rfl, fun _ _ => rfl⟩) trivial)))))))))))
  intro γ w19 l hM hl
  have H19 : Hid (Mm w19 [(γ 9, cells6 k1), (γ16_8, cells6 iv), (γ15_9, cells6 x1), (γ14_7, cells6 d), (γ13_11, cells6 xz), (γ12_9, cells6 d), (γ11_11, cells6 sm), (γ10_9, cells6 m3), (γ9_11, cells6 yz), (γ8_9, cells6 m3), (γ7_11, cells6 xy), (γ6_11, cells6 xy), (γs6, cel [x1, x2, x3]), (γs5, cel [a, b, c]), (γ1_0, cells6 a), (γ1_1, cells6 b), (γ1_2, cells6 c), (0, dtab)] ∧ _) := growB H18 hM (Nat.le_refl _) hl [9] rfl (by decide)
  have o17_9 := ownB H18 hM (Nat.le_refl _) hl (i := 9) rfl
  clear hM hl l H18
  generalize γ 9 = γ17_9 at H19 o17_9 ⊢
  clear γ
  refine rest0 rfl (then_normal (wp_seq ?_))
  refine walk_anyB 47 [.quiet (.bool true), .quiet (.bool true), .quiet (.int .i64 0), .quiet (.bool true), .quiet (.bool true), .quiet (.bool true), .quiet (N xy), .quiet (N xy), .quiet (.bool true), .quiet (.bool true), .quiet (.bool true), .quiet (N m3), .quiet (N m3), .quiet (.bool true), .quiet (.bool true), .quiet (.bool true), .quiet (N d), .quiet (N d), .quiet (.bool true), .quiet (.bool true), .quiet (.bool true), .quiet (N x1), .quiet (.slice (some ⟨γs6, 0, none⟩) 3 xs6), .quiet (PT γs6 0), .quiet (N x1), .quiet (.bool true), .quiet (.bool true), .quiet (.bool true), .quiet (.int .i64 0), .quiet (.bool false), .quiet (.slice (some ⟨γs6, 0, none⟩) 3 xs6), .quiet (PT γs6 0), .quiet (N x1), .quiet (N 0), .quiet (.bool false), .quiet (.bool true), .quiet (.bool true), .quiet (.bool true), .quiet (.int .i64 0), .quiet (.bool false), .quiet (.bool false), .quiet (N k1), .call (N k1), .quiet (.bool true), .quiet (.bool true), .quiet (.bool true), .quiet (.bool true)] H19 ?ho18 ?he18 (hL := ?hL18)
  case hL18 => exact trivial
  case ho18 => exact ak (fun _ => ⟨rfl, fun _ _ => rfl⟩) (ak (fun _ => ⟨rfl, fun _ _ => rfl⟩) (ak (fun _ => ⟨rfl, fun _ _ => rfl⟩) (ak (by refine fun γ => ⟨rfl, fun w' h => ?_⟩; clear h; go_simp) (ak (by refine fun γ => ⟨rfl, fun w' h => ?_⟩; clear h; go_simp) (ak (fun _ => ⟨rfl, fun _ _ => rfl⟩) (ak (fun γ => ⟨rfl, fun w' h => ex_load6 h 11 rfl rfl rfl rfl⟩) (ak (fun γ => ⟨rfl, fun w' h => ex_load6 h 10 rfl rfl rfl rfl⟩) (ak (fun γ => ⟨rfl, fun w' _ => exec_eq6 e_xy rfl rfl rfl⟩) (ak (by refine fun γ => ⟨rfl, fun w' h => ?_⟩; clear h; go_simp) (ak (fun _ => ⟨rfl, fun _ _ => rfl⟩) (ak (fun γ => ⟨rfl, fun w' h => ex_load6 h 9 rfl rfl rfl rfl⟩) (ak (fun γ => ⟨rfl, fun w' h => ex_load6 h 7 rfl rfl rfl rfl⟩) (ak (fun γ => ⟨rfl, fun w' _ => exec_eq6 e_m3 rfl rfl rfl⟩) (ak (by refine fun γ => ⟨rfl, fun w' h => ?_⟩; clear h; go_simp) (ak (fun _ => ⟨rfl, fun _ _ => rfl⟩) (ak (fun γ => ⟨rfl, fun w' h => ex_load6 h 5 rfl rfl rfl rfl⟩) (ak (fun γ => ⟨rfl, fun w' h => ex_load6 h 3 rfl rfl rfl rfl⟩) (ak (fun γ => ⟨rfl, fun w' _ => exec_eq6 e_d rfl rfl rfl⟩) (ak (by refine fun γ => ⟨rfl, fun w' h => ?_⟩; clear h; go_simp) (ak (fun _ => ⟨rfl, fun _ _ => rfl⟩) (ak (fun γ => ⟨rfl, fun w' h => ex_load6 h 2 rfl rfl rfl rfl⟩) (ak (fun _ => ⟨rfl, fun _ _ => rfl⟩) (ak (by refine fun γ => ⟨rfl, fun w' h => ?_⟩; clear h; go_simp) (ak (fun γ => ⟨rfl, fun w' h => ex_loadN (i := 0) h 12 rfl rfl rfl rfl⟩) (ak (fun γ => ⟨rfl, fun w' _ => exec_eq6 e_x1 rfl rfl rfl⟩) (ak (by refine fun γ => ⟨rfl, fun w' h => ?_⟩; clear h; go_simp) (ak (fun _ => ⟨rfl, fun _ _ => rfl⟩) (ak (fun _ => ⟨rfl, fun _ _ => rfl⟩) (ak (by refine fun γ => ⟨rfl, fun w' h => ?_⟩; clear h; go_simp) (ak (fun _ => ⟨rfl, fun _ _ => rfl⟩) (ak (by refine fun γ => ⟨rfl, fun w' h => ?_⟩; clear h; go_simp) (ak (fun γ => ⟨rfl, fun w' h => ex_loadN (i := 0) h 12 rfl rfl rfl rfl⟩) (ak (by refine fun γ => ⟨rfl, fun w' h => ?_⟩; clear h; exact ex_zero6 rfl) (ak (fun γ => ⟨rfl, fun w' _ => exec_eq6 e_0 rfl rfl rfl⟩) (ak (by refine fun γ => ⟨rfl, fun w' h => ?_⟩; clear h; go_simp) (ak (by refine fun γ => ⟨rfl, fun w' h => ?_⟩; clear h; go_simp) (ak (fun _ => ⟨rfl, fun _ _ => rfl⟩) (ak (fun _ => ⟨rfl, fun _ _ => rfl⟩) (ak (by refine fun γ => ⟨rfl, fun w' h => ?_⟩; clear h; go_simp) (ak (fun _ => ⟨rfl, fun _ _ => rfl⟩) (ak (fun γ => ⟨rfl, fun w' h => ex_load6 h 0 rfl rfl rfl rfl⟩) (ak (fun γ => ⟨rfl, fun w' h => ⟨23, #[.int .u64 1], exec_call rfl call23 rfl (mpn rfl), C13.out w'⟩⟩) (ak (fun γ => ⟨rfl, fun w' _ => exec_eq6 e_k1 rfl rfl rfl⟩) (ak (by refine fun γ => ⟨rfl, fun w' h => ?_⟩; clear h; go_simp) (ak (by refine fun γ => ⟨rfl, fun w' h => ?_⟩; clear h; go_simp) (ak (fun _ => ⟨rfl, fun _ _ => rfl⟩) trivial))))))))))))))))))))))))))))))))))))))))))))))
  intro _ w20 H20
  clear H19
  refine rest0 rfl (then_normal (wp_ret ?_))
  repeat (first | refine then_ret ?_ | refine block_ret ?_)
  refine bodyPost_ret (v := .bool true) (by simp [results, Tryd.results4, go_sem, *]) rfl ?_
  exact ⟨rfl, H20.out.2⟩
set_option maxHeartbeats 4000000 in
set_option maxRecDepth 100000 in
theorem field_zero (s : Int) (a b c x1 x2 x3 xy m3 yz sm d xz iv k1 : Nat) (hs0 : ¬ s < 0) (hs2 : ¬ 2 < s)
    (e_xy : ∀ w, (Op.equalIn 10000 24 (N xy) (N xy)).run Tryd.prog w = .ok true w)
    (e_m3 : ∀ w, (Op.equalIn 10000 24 (N m3) (N m3)).run Tryd.prog w = .ok true w)
    (e_d : ∀ w, (Op.equalIn 10000 24 (N d) (N d)).run Tryd.prog w = .ok true w)
    (e_x1 : ∀ w, (Op.equalIn 10000 24 (N x1) (N x1)).run Tryd.prog w = .ok true w)
    (e_0 : ∀ w, (Op.equalIn 10000 24 (N x1) (N 0)).run Tryd.prog w = .ok true w)
    (hc : ∀ g w, Mm w [(g, cel [a, b, c])] → Calls Tryd.prog 18 #[.int .i64 s, .slice (some ⟨g, 0, none⟩) 3 3] w fun e w' => Below w.heap.size w w' ∧ ∃ g x _y : Nat, e = .returned (.slice (some ⟨g, 0, none⟩) 3 x) ∧ w.heap.size ≤ g ∧ g < w'.heap.size ∧ Blk w' g (cel [x1, x2, x3]))
    (c0 : ∀ w, Mm w [(0, dtab)] → Calls Tryd.prog 17 #[] w fun e w' => e = .returned (.bool true) ∧ Below w.heap.size w w')
    (c1 : ∀ w, Calls Tryd.prog 19 #[.int .i64 s, N x1, N x2] w fun e w' => e = .returned (.tuple #[N xy, .int .i64 0]) ∧ Below w.heap.size w w')
    (c2 : ∀ w, Calls Tryd.prog 19 #[.int .i64 s, N x2, N x1] w fun e w' => e = .returned (.tuple #[N xy, .int .i64 0]) ∧ Below w.heap.size w w')
    (c3 : ∀ w, Calls Tryd.prog 19 #[.int .i64 s, N xy, N x3] w fun e w' => e = .returned (.tuple #[N m3, .int .i64 0]) ∧ Below w.heap.size w w')
    (c4 : ∀ w, Calls Tryd.prog 19 #[.int .i64 s, N x2, N x3] w fun e w' => e = .returned (.tuple #[N yz, .int .i64 0]) ∧ Below w.heap.size w w')
    (c5 : ∀ w, Calls Tryd.prog 19 #[.int .i64 s, N x1, N yz] w fun e w' => e = .returned (.tuple #[N m3, .int .i64 0]) ∧ Below w.heap.size w w')
    (c6 : ∀ w, Calls Tryd.prog 20 #[.int .i64 s, N x1, N x2] w fun e w' => e = .returned (.tuple #[N sm, .int .i64 0]) ∧ Below w.heap.size w w')
    (c7 : ∀ w, Calls Tryd.prog 19 #[.int .i64 s, N sm, N x3] w fun e w' => e = .returned (.tuple #[N d, .int .i64 0]) ∧ Below w.heap.size w w')
    (c8 : ∀ w, Calls Tryd.prog 19 #[.int .i64 s, N x1, N x3] w fun e w' => e = .returned (.tuple #[N xz, .int .i64 0]) ∧ Below w.heap.size w w')
    (c9 : ∀ w, Calls Tryd.prog 20 #[.int .i64 s, N xz, N yz] w fun e w' => e = .returned (.tuple #[N d, .int .i64 0]) ∧ Below w.heap.size w w')
    (c10 : ∀ w, Calls Tryd.prog 21 #[.int .i64 s, N sm, N x2] w fun e w' => e = .returned (.tuple #[N x1, .int .i64 0]) ∧ Below w.heap.size w w')
    (c11 : ∀ w, Calls Tryd.prog 19 #[.int .i64 s, N iv, N x1] w fun e w' => e = .returned (.tuple #[N k1, .int .i64 0]) ∧ Below w.heap.size w w')
    (c12 : ∀ w, Mm w [(0, dtab)] → Calls Tryd.prog 22 #[.int .i64 s, N x1] w fun e w' => e = .returned (.tuple #[N iv, .int .i64 6]) ∧ Below w.heap.size w w') (w : World) (hm : Mm w [(0, dtab)]) :
    Calls Tryd.prog 4 #[.int .i64 s, N a, N b, N c] w fun e w' => e = .returned (.bool true) ∧ Below w.heap.size w w' := by
  have H0 : Hid (_ ∧ _) := ⟨hm, Below.refl w.heap.size w⟩
  clear hm
  have C0 : Hid _ := c0
  have C1 : Hid _ := c1
  have C2 : Hid _ := c2
  have C3 : Hid _ := c3
  have C4 : Hid _ := c4
  have C5 : Hid _ := c5
  have C6 : Hid _ := c6
  have C7 : Hid _ := c7
  have C8 : Hid _ := c8
  have C9 : Hid _ := c9
  have C10 : Hid _ := c10
  have C11 : Hid _ := c11
  have C12 : Hid _ := c12
  clear c0 c1 c2 c3 c4 c5 c6 c7 c8 c9 c10 c11 c12
  have HC : Hid _ := hc
  clear hc
  go_enter Tryd.func4, Tryd.ntmps4
  refine wp_seq ?_
  refine walk_seqA 4 [.made (cells6 a) 24, .made (cells6 b) 24, .made (cells6 c) 24, .quiet (.bool false)] (sB H0) ?ho1 ?he1
  case ho1 => exact ak (fun γ => ⟨rfl, fun w' => ex_box6 rfl rfl⟩) (ak (fun γ => ⟨rfl, fun w' => ex_box6 rfl rfl⟩) (ak (fun γ => ⟨rfl, fun w' => ex_box6 rfl rfl⟩) (ak (fun _ => ⟨rfl, fun _ _ => rfl⟩) trivial)))
  intro γ w1 l hM hl
  have H1 : Hid (Mm w1 [(γ 0, cells6 a), (γ 1, cells6 b), (γ 2, cells6 c), (0, dtab)] ∧ _) := growB H0 hM (Nat.le_refl _) hl [0, 1, 2] rfl (by decide)
  have o1_0 := ownB H0 hM (Nat.le_refl _) hl (i := 0) rfl
  have o1_1 := ownB H0 hM (Nat.le_refl _) hl (i := 1) rfl
  have o1_2 := ownB H0 hM (Nat.le_refl _) hl (i := 2) rfl
  clear hM hl l
  generalize γ 0 = γ1_0 at H1 o1_0 ⊢
  generalize γ 1 = γ1_1 at H1 o1_1 ⊢
  generalize γ 2 = γ1_2 at H1 o1_2 ⊢
  clear γ
  refine rest0 rfl (then_normal (wp_seq ?_))
  refine walk_seqB 2 [.call (.bool true), .quiet (.bool true)] H1 ?ho2 ?he2
  case ho2 => exact ak (fun γ => ⟨rfl, fun w' h => ⟨17, #[], exec_call rfl call17 rfl (mpn rfl), C0.out w' (h.one 3 rfl)⟩⟩) (ak (fun _ => ⟨rfl, fun _ _ => rfl⟩) trivial)
  intro _ w2 H2
  clear H1
  refine rest0 rfl (then_normal (wp_seq (wp_seq ?_)))
  refine walk_seqB 6 [.quiet (.int .i64 s), .quiet (.bool false), .quiet (.bool false), .quiet (.int .i64 s), .quiet (.bool false), .quiet (.bool false)] H2 ?ho3 ?he3
  case ho3 => exact ak (fun _ => ⟨rfl, fun _ _ => rfl⟩) (ak (by refine fun γ => ⟨rfl, fun w' h => ?_⟩; clear h; go_simp <;> omega) (ak (fun _ => ⟨rfl, fun _ _ => rfl⟩) (ak (fun _ => ⟨rfl, fun _ _ => rfl⟩) (ak (by refine fun γ => ⟨rfl, fun w' h => ?_⟩; clear h; go_simp <;> omega) (ak (by refine fun γ => ⟨rfl, fun w' h => ?_⟩; clear h; go_simp) trivial)))))
  intro _ w3 H3
  clear H2
  refine rest0 rfl (then_normal (wp_cond_false rfl ?_))
  refine wp_skip (then_normal (wp_seq ?_))
  refine walk_seqB 4 [.quiet (.int .i64 s), .quiet (N a), .quiet (N b), .quiet (N c)] H3 ?ho4 ?he4
  case ho4 => exact ak (fun _ => ⟨rfl, fun _ _ => rfl⟩) (ak (fun γ => ⟨rfl, fun w' h => ex_load6 h 0 rfl rfl rfl rfl⟩) (ak (fun γ => ⟨rfl, fun w' h => ex_load6 h 1 rfl rfl rfl rfl⟩) (ak (fun γ => ⟨rfl, fun w' h => ex_load6 h 2 rfl rfl rfl rfl⟩) trivial)))
  intro _ w4 H4
  clear H3
  refine rest_at (l := [4, 5, 6]) rfl ?_
  refine rest_set (d := 47) (v := .slice (some ⟨w4.heap.size, 0, none⟩) 3 3) (w' := w4.alloc (.cells (cel [a, b, c] : List Value).toArray 24)) rfl rfl rfl (ex_bsN3 rfl rfl rfl rfl) ?_
  simp only [Act.put, sa, sz, ss]
  have o_γs5 : Hid (w.heap.size ≤ w4.heap.size) := H4.out.2.size
  have H5 : Hid (Mm (w4.alloc (.cells (cel [a, b, c] : List Value).toArray 24)) ((w4.heap.size, cel [a, b, c]) :: [(γ1_0, cells6 a), (γ1_1, cells6 b), (γ1_2, cells6 c), (0, dtab)]) ∧ Below w.heap.size w (w4.alloc (.cells (cel [a, b, c] : List Value).toArray 24))) := ⟨H4.out.1.alloc _ 24 rfl, H4.out.2.alloc H4.out.2.size _⟩
  clear H4
  generalize hgw : w4.alloc (.cells (cel [a, b, c] : List Value).toArray 24) = w5 at H5 ⊢
  clear hgw
  generalize w4.heap.size = γs5 at o_γs5 H5 ⊢
  refine rest_enter (d := 48) (R := fun vv w' => Below w5.heap.size w5 w' ∧ ∃ g x y, vv = .slice (some ⟨g, 0, none⟩) 3 x ∧ w5.heap.size ≤ g ∧ g < w'.heap.size ∧ Blk w' g (cel [x1, x2, x3])) rfl rfl rfl (exec_call (args := #[.int .i64 s, .slice (some ⟨γs5, 0, none⟩) 3 3]) rfl call18 rfl (mpn rfl)) (Calls.mono (HC.out _ w5 (H5.out.1.one 0 rfl)) (fun e w2 hh => by obtain ⟨hb, g, x, y, he, h1, h2, h3⟩ := hh; exact ⟨_, he, hb, g, x, y, rfl, h1, h2, h3⟩)) ?_
  rintro _ w6 ⟨hb, γs6, xs6, ys6, rfl, hg1, hg2, hg3⟩
  have o_γs6 : Hid (w.heap.size ≤ γs6) := Nat.le_trans H5.out.2.size hg1
  have H6 : Hid (Mm w6 [(γs6, cel [x1, x2, x3]), (γs5, cel [a, b, c]), (γ1_0, cells6 a), (γ1_1, cells6 b), (γ1_2, cells6 c), (0, dtab)] ∧ Below w.heap.size w w6) := ⟨Mm.cons (H5.out.1.below hb) hg3 hg2 (fun p hp => Nat.ne_of_lt (Nat.lt_of_lt_of_le (H5.out.1.blk p hp).1 hg1)), H5.out.2.trans (hb.mono H5.out.2.size)⟩
  clear hb hg1 hg2 hg3 H5
  simp only [Act.put, sa, sz, ss]
  refine rest_set (d := 10) rfl rfl rfl rfl ?_
  simp only [Act.put, sa, sz, ss]
  refine rest_nil (then_normal ?_)
  refine wp_seq (wp_seq ?_)
  refine walk_seqB 3 [.quiet (.slice (some ⟨γs6, 0, none⟩) 3 xs6), .quiet (.int .i64 3), .quiet (.bool false)] H6 ?ho5 ?he5
  case ho5 => exact ak (fun _ => ⟨rfl, fun _ _ => rfl⟩) (ak (by refine fun γ => ⟨rfl, fun w' h => ?_⟩; clear h; go_simp) (ak (by refine fun γ => ⟨rfl, fun w' h => ?_⟩; clear h; go_simp) trivial))
  intro _ w7 H7
  clear H6
  refine rest0 rfl (then_normal (wp_cond_false rfl ?_))
  refine wp_skip (then_normal (wp_seq ?_))
  refine walk_anyA 14 [.quiet (.int .i64 s), .quiet (.slice (some ⟨γs6, 0, none⟩) 3 xs6), .quiet (PT γs6 0), .quiet (N x1), .quiet (.slice (some ⟨γs6, 0, none⟩) 3 xs6), .quiet (PT γs6 6), .quiet (N x2), .call (.tuple #[N xy, .int .i64 0]), .quiet (.tuple #[N xy, .int .i64 0]), .quiet (N xy), .quiet (.int .i64 0), .made zero6 24, .laid 11 zero6 (cells6 xy), .quiet (.int .i64 0)] (sB H7) ?ho6 ?he6 (hL := ?hL6)
  case hL6 => exact ⟨⟨_, rfl⟩, trivial⟩
  case ho6 => exact ak (fun _ => ⟨rfl, fun _ _ => rfl⟩) (ak (fun _ => ⟨rfl, fun _ _ => rfl⟩) (ak (by refine fun γ => ⟨rfl, fun w' h => ?_⟩; clear h; go_simp) (ak (fun γ => ⟨rfl, fun w' h => ex_loadN (i := 0) h 0 rfl rfl rfl rfl⟩) (ak (fun _ => ⟨rfl, fun _ _ => rfl⟩) (ak (by refine fun γ => ⟨rfl, fun w' h => ?_⟩; clear h; go_simp) (ak (fun γ => ⟨rfl, fun w' h => ex_loadN (i := 1) h 0 rfl rfl rfl rfl⟩) (ak (fun γ => ⟨rfl, fun w' h => ⟨19, #[.int .i64 s, N x1, N x2], exec_call rfl call19 rfl (mpn rfl), C1.out w'⟩⟩) (ak (fun _ => ⟨rfl, fun _ _ => rfl⟩) (ak (by refine fun γ => ⟨rfl, fun w' h => ?_⟩; clear h; go_simp) (ak (by refine fun γ => ⟨rfl, fun w' h => ?_⟩; clear h; go_simp) (ak (fun γ => ⟨rfl, fun w' => exec_made6 rfl⟩) (ak (fun γ => ⟨rfl, rfl, rfl, fun w' h => exec_laid6 h rfl rfl rfl⟩) (ak (fun _ => ⟨rfl, fun _ _ => rfl⟩) trivial)))))))))))))
  intro γ w8 l hM hl
  have H8 : Hid (Mm w8 [(γ 11, cells6 xy), (γs6, cel [x1, x2, x3]), (γs5, cel [a, b, c]), (γ1_0, cells6 a), (γ1_1, cells6 b), (γ1_2, cells6 c), (0, dtab)] ∧ _) := growB H7 hM (Nat.le_refl _) hl [11] rfl (by decide)
  have o6_11 := ownB H7 hM (Nat.le_refl _) hl (i := 11) rfl
  clear hM hl l H7
  generalize γ 11 = γ6_11 at H8 o6_11 ⊢
  clear γ
  refine rest0 rfl (then_normal (wp_seq ?_))
  refine walk_anyA 14 [.quiet (.int .i64 s), .quiet (.slice (some ⟨γs6, 0, none⟩) 3 xs6), .quiet (PT γs6 6), .quiet (N x2), .quiet (.slice (some ⟨γs6, 0, none⟩) 3 xs6), .quiet (PT γs6 0), .quiet (N x1), .call (.tuple #[N xy, .int .i64 0]), .quiet (.tuple #[N xy, .int .i64 0]), .quiet (N xy), .quiet (.int .i64 0), .made zero6 24, .laid 11 zero6 (cells6 xy), .quiet (.int .i64 0)] (sB H8) ?ho7 ?he7 (hL := ?hL7)
  case hL7 => exact ⟨⟨_, rfl⟩, trivial⟩
  case ho7 => exact ak (fun _ => ⟨rfl, fun _ _ => rfl⟩) (ak (fun _ => ⟨rfl, fun _ _ => rfl⟩) (ak (by refine fun γ => ⟨rfl, fun w' h => ?_⟩; clear h; go_simp) (ak (fun γ => ⟨rfl, fun w' h => ex_loadN (i := 1) h 1 rfl rfl rfl rfl⟩) (ak (fun _ => ⟨rfl, fun _ _ => rfl⟩) (ak (by refine fun γ => ⟨rfl, fun w' h => ?_⟩; clear h; go_simp) (ak (fun γ => ⟨rfl, fun w' h => ex_loadN (i := 0) h 1 rfl rfl rfl rfl⟩) (ak (fun γ => ⟨rfl, fun w' h => ⟨19, #[.int .i64 s, N x2, N x1], exec_call rfl call19 rfl (mpn rfl), C2.out w'⟩⟩) (ak (fun _ => ⟨rfl, fun _ _ => rfl⟩) (ak (by refine fun γ => ⟨rfl, fun w' h => ?_⟩; clear h; go_simp) (ak (by refine fun γ => ⟨rfl, fun w' h => ?_⟩; clear h; go_simp) (ak (fun γ => ⟨rfl, fun w' => exec_made6 rfl⟩) (ak (fun γ => ⟨rfl, rfl, rfl, fun w' h => exec_laid6 h rfl rfl rfl⟩) (ak (fun _ => ⟨rfl, fun _ _ => rfl⟩) trivial)))))))))))))
  intro γ w9 l hM hl
  have H9 : Hid (Mm w9 [(γ 11, cells6 xy), (γ6_11, cells6 xy), (γs6, cel [x1, x2, x3]), (γs5, cel [a, b, c]), (γ1_0, cells6 a), (γ1_1, cells6 b), (γ1_2, cells6 c), (0, dtab)] ∧ _) := growB H8 hM (Nat.le_refl _) hl [11] rfl (by decide)
  have o7_11 := ownB H8 hM (Nat.le_refl _) hl (i := 11) rfl
  clear hM hl l H8
  generalize γ 11 = γ7_11 at H9 o7_11 ⊢
  clear γ
  refine rest0 rfl (then_normal (wp_seq ?_))
  refine walk_anyA 12 [.quiet (.int .i64 s), .quiet (N xy), .quiet (.slice (some ⟨γs6, 0, none⟩) 3 xs6), .quiet (PT γs6 12), .quiet (N x3), .call (.tuple #[N m3, .int .i64 0]), .quiet (.tuple #[N m3, .int .i64 0]), .quiet (N m3), .quiet (.int .i64 0), .made zero6 24, .laid 9 zero6 (cells6 m3), .quiet (.int .i64 0)] (sB H9) ?ho8 ?he8 (hL := ?hL8)
  case hL8 => exact ⟨⟨_, rfl⟩, trivial⟩
  case ho8 => exact ak (fun _ => ⟨rfl, fun _ _ => rfl⟩) (ak (fun γ => ⟨rfl, fun w' h => ex_load6 h 1 rfl rfl rfl rfl⟩) (ak (fun _ => ⟨rfl, fun _ _ => rfl⟩) (ak (by refine fun γ => ⟨rfl, fun w' h => ?_⟩; clear h; go_simp) (ak (fun γ => ⟨rfl, fun w' h => ex_loadN (i := 2) h 2 rfl rfl rfl rfl⟩) (ak (fun γ => ⟨rfl, fun w' h => ⟨19, #[.int .i64 s, N xy, N x3], exec_call rfl call19 rfl (mpn rfl), C3.out w'⟩⟩) (ak (fun _ => ⟨rfl, fun _ _ => rfl⟩) (ak (by refine fun γ => ⟨rfl, fun w' h => ?_⟩; clear h; go_simp) (ak (by refine fun γ => ⟨rfl, fun w' h => ?_⟩; clear h; go_simp) (ak (fun γ => ⟨rfl, fun w' => exec_made6 rfl⟩) (ak (fun γ => ⟨rfl, rfl, rfl, fun w' h => exec_laid6 h rfl rfl rfl⟩) (ak (fun _ => ⟨rfl, fun _ _ => rfl⟩) trivial)))))))))))
  intro γ w10 l hM hl
  have H10 : Hid (Mm w10 [(γ 9, cells6 m3), (γ7_11, cells6 xy), (γ6_11, cells6 xy), (γs6, cel [x1, x2, x3]), (γs5, cel [a, b, c]), (γ1_0, cells6 a), (γ1_1, cells6 b), (γ1_2, cells6 c), (0, dtab)] ∧ _) := growB H9 hM (Nat.le_refl _) hl [9] rfl (by decide)
  have o8_9 := ownB H9 hM (Nat.le_refl _) hl (i := 9) rfl
  clear hM hl l H9
  generalize γ 9 = γ8_9 at H10 o8_9 ⊢
  clear γ
  refine rest0 rfl (then_normal (wp_seq ?_))
  refine walk_anyA 14 [.quiet (.int .i64 s), .quiet (.slice (some ⟨γs6, 0, none⟩) 3 xs6), .quiet (PT γs6 6), .quiet (N x2), .quiet (.slice (some ⟨γs6, 0, none⟩) 3 xs6), .quiet (PT γs6 12), .quiet (N x3), .call (.tuple #[N yz, .int .i64 0]), .quiet (.tuple #[N yz, .int .i64 0]), .quiet (N yz), .quiet (.int .i64 0), .made zero6 24, .laid 11 zero6 (cells6 yz), .quiet (.int .i64 0)] (sB H10) ?ho9 ?he9 (hL := ?hL9)
  case hL9 => exact ⟨⟨_, rfl⟩, trivial⟩
  case ho9 => exact ak (fun _ => ⟨rfl, fun _ _ => rfl⟩) (ak (fun _ => ⟨rfl, fun _ _ => rfl⟩) (ak (by refine fun γ => ⟨rfl, fun w' h => ?_⟩; clear h; go_simp) (ak (fun γ => ⟨rfl, fun w' h => ex_loadN (i := 1) h 3 rfl rfl rfl rfl⟩) (ak (fun _ => ⟨rfl, fun _ _ => rfl⟩) (ak (by refine fun γ => ⟨rfl, fun w' h => ?_⟩; clear h; go_simp) (ak (fun γ => ⟨rfl, fun w' h => ex_loadN (i := 2) h 3 rfl rfl rfl rfl⟩) (ak (fun γ => ⟨rfl, fun w' h => ⟨19, #[.int .i64 s, N x2, N x3], exec_call rfl call19 rfl (mpn rfl), C4.out w'⟩⟩) (ak (fun _ => ⟨rfl, fun _ _ => rfl⟩) (ak (by refine fun γ => ⟨rfl, fun w' h => ?_⟩; clear h; go_simp) (ak (by refine fun γ => ⟨rfl, fun w' h => ?_⟩; clear h; go_simp) (ak (fun γ => ⟨rfl, fun w' => exec_made6 rfl⟩) (ak (fun γ => ⟨rfl, rfl, rfl, fun w' h => exec_laid6 h rfl rfl rfl⟩) (ak (fun _ => ⟨rfl, fun _ _ => rfl⟩) trivial)))))))))))))
  intro γ w11 l hM hl
  have H11 : Hid (Mm w11 [(γ 11, cells6 yz), (γ8_9, cells6 m3), (γ7_11, cells6 xy), (γ6_11, cells6 xy), (γs6, cel [x1, x2, x3]), (γs5, cel [a, b, c]), (γ1_0, cells6 a), (γ1_1, cells6 b), (γ1_2, cells6 c), (0, dtab)] ∧ _) := growB H10 hM (Nat.le_refl _) hl [11] rfl (by decide)
  have o9_11 := ownB H10 hM (Nat.le_refl _) hl (i := 11) rfl
  clear hM hl l H10
  generalize γ 11 = γ9_11 at H11 o9_11 ⊢
  clear γ
  refine rest0 rfl (then_normal (wp_seq ?_))
  refine walk_anyA 12 [.quiet (.int .i64 s), .quiet (.slice (some ⟨γs6, 0, none⟩) 3 xs6), .quiet (PT γs6 0), .quiet (N x1), .quiet (N yz), .call (.tuple #[N m3, .int .i64 0]), .quiet (.tuple #[N m3, .int .i64 0]), .quiet (N m3), .quiet (.int .i64 0), .made zero6 24, .laid 9 zero6 (cells6 m3), .quiet (.int .i64 0)] (sB H11) ?ho10 ?he10 (hL := ?hL10)
  case hL10 => exact ⟨⟨_, rfl⟩, trivial⟩
  case ho10 => exact ak (fun _ => ⟨rfl, fun _ _ => rfl⟩) (ak (fun _ => ⟨rfl, fun _ _ => rfl⟩) (ak (by refine fun γ => ⟨rfl, fun w' h => ?_⟩; clear h; go_simp) (ak (fun γ => ⟨rfl, fun w' h => ex_loadN (i := 0) h 4 rfl rfl rfl rfl⟩) (ak (fun γ => ⟨rfl, fun w' h => ex_load6 h 0 rfl rfl rfl rfl⟩) (ak (fun γ => ⟨rfl, fun w' h => ⟨19, #[.int .i64 s, N x1, N yz], exec_call rfl call19 rfl (mpn rfl), C5.out w'⟩⟩) (ak (fun _ => ⟨rfl, fun _ _ => rfl⟩) (ak (by refine fun γ => ⟨rfl, fun w' h => ?_⟩; clear h; go_simp) (ak (by refine fun γ => ⟨rfl, fun w' h => ?_⟩; clear h; go_simp) (ak (fun γ => ⟨rfl, fun w' => exec_made6 rfl⟩) (ak (fun γ => ⟨rfl, rfl, rfl, fun w' h => exec_laid6 h rfl rfl rfl⟩) (ak (fun _ => ⟨rfl, fun _ _ => rfl⟩) trivial)))))))))))
  intro γ w12 l hM hl
  have H12 : Hid (Mm w12 [(γ 9, cells6 m3), (γ9_11, cells6 yz), (γ8_9, cells6 m3), (γ7_11, cells6 xy), (γ6_11, cells6 xy), (γs6, cel [x1, x2, x3]), (γs5, cel [a, b, c]), (γ1_0, cells6 a), (γ1_1, cells6 b), (γ1_2, cells6 c), (0, dtab)] ∧ _) := growB H11 hM (Nat.le_refl _) hl [9] rfl (by decide)
  have o10_9 := ownB H11 hM (Nat.le_refl _) hl (i := 9) rfl
  clear hM hl l H11
  generalize γ 9 = γ10_9 at H12 o10_9 ⊢
  clear γ
  refine rest0 rfl (then_normal (wp_seq ?_))
  refine walk_anyA 14 [.quiet (.int .i64 s), .quiet (.slice (some ⟨γs6, 0, none⟩) 3 xs6), .quiet (PT γs6 0), .quiet (N x1), .quiet (.slice (some ⟨γs6, 0, none⟩) 3 xs6), .quiet (PT γs6 6), .quiet (N x2), .call (.tuple #[N sm, .int .i64 0]), .quiet (.tuple #[N sm, .int .i64 0]), .quiet (N sm), .quiet (.int .i64 0), .made zero6 24, .laid 11 zero6 (cells6 sm), .quiet (.int .i64 0)] (sB H12) ?ho11 ?he11 (hL := ?hL11)
  case hL11 => exact ⟨⟨_, rfl⟩, trivial⟩
  case ho11 => exact ak (fun _ => ⟨rfl, fun _ _ => rfl⟩) (ak (fun _ => ⟨rfl, fun _ _ => rfl⟩) (ak (by refine fun γ => ⟨rfl, fun w' h => ?_⟩; clear h; go_simp) (ak (fun γ => ⟨rfl, fun w' h => ex_loadN (i := 0) h 5 rfl rfl rfl rfl⟩) (ak (fun _ => ⟨rfl, fun _ _ => rfl⟩) (ak (by refine fun γ => ⟨rfl, fun w' h => ?_⟩; clear h; go_simp) (ak (fun γ => ⟨rfl, fun w' h => ex_loadN (i := 1) h 5 rfl rfl rfl rfl⟩) (ak (fun γ => ⟨rfl, fun w' h => ⟨20, #[.int .i64 s, N x1, N x2], exec_call rfl call20 rfl (mpn rfl), C6.out w'⟩⟩) (ak (fun _ => ⟨rfl, fun _ _ => rfl⟩) (ak (by refine fun γ => ⟨rfl, fun w' h => ?_⟩; clear h; go_simp) (ak (by refine fun γ => ⟨rfl, fun w' h => ?_⟩; clear h; go_simp) (ak (fun γ => ⟨rfl, fun w' => exec_made6 rfl⟩) (ak (fun γ => ⟨rfl, rfl, rfl, fun w' h => exec_laid6 h rfl rfl rfl⟩) (ak (fun _ => ⟨rfl, fun _ _ => rfl⟩) trivial)))))))))))))
  intro γ w13 l hM hl
  have H13 : Hid (Mm w13 [(γ 11, cells6 sm), (γ10_9, cells6 m3), (γ9_11, cells6 yz), (γ8_9, cells6 m3), (γ7_11, cells6 xy), (γ6_11, cells6 xy), (γs6, cel [x1, x2, x3]), (γs5, cel [a, b, c]), (γ1_0, cells6 a), (γ1_1, cells6 b), (γ1_2, cells6 c), (0, dtab)] ∧ _) := growB H12 hM (Nat.le_refl _) hl [11] rfl (by decide)
  have o11_11 := ownB H12 hM (Nat.le_refl _) hl (i := 11) rfl
  clear hM hl l H12
  generalize γ 11 = γ11_11 at H13 o11_11 ⊢
  clear γ
  refine rest0 rfl (then_normal (wp_seq ?_))
  refine walk_anyA 12 [.quiet (.int .i64 s), .quiet (N sm), .quiet (.slice (some ⟨γs6, 0, none⟩) 3 xs6), .quiet (PT γs6 12), .quiet (N x3), .call (.tuple #[N d, .int .i64 0]), .quiet (.tuple #[N d, .int .i64 0]), .quiet (N d), .quiet (.int .i64 0), .made zero6 24, .laid 9 zero6 (cells6 d), .quiet (.int .i64 0)] (sB H13) ?ho12 ?he12 (hL := ?hL12)
  case hL12 => exact ⟨⟨_, rfl⟩, trivial⟩
  case ho12 => exact ak (fun _ => ⟨rfl, fun _ _ => rfl⟩) (ak (fun γ => ⟨rfl, fun w' h => ex_load6 h 0 rfl rfl rfl rfl⟩) (ak (fun _ => ⟨rfl, fun _ _ => rfl⟩) (ak (by refine fun γ => ⟨rfl, fun w' h => ?_⟩; clear h; go_simp) (ak (fun γ => ⟨rfl, fun w' h => ex_loadN (i := 2) h 6 rfl rfl rfl rfl⟩) (ak (fun γ => ⟨rfl, fun w' h => ⟨19, #[.int .i64 s, N sm, N x3], exec_call rfl call19 rfl (mpn rfl), C7.out w'⟩⟩) (ak (fun _ => ⟨rfl, fun _ _ => rfl⟩) (ak (by refine fun γ => ⟨rfl, fun w' h => ?_⟩; clear h; go_simp) (ak (by refine fun γ => ⟨rfl, fun w' h => ?_⟩; clear h; go_simp) (ak (fun γ => ⟨rfl, fun w' => exec_made6 rfl⟩) (ak (fun γ => ⟨rfl, rfl, rfl, fun w' h => exec_laid6 h rfl rfl rfl⟩) (ak (fun _ => ⟨rfl, fun _ _ => rfl⟩) trivial)))))))))))
  intro γ w14 l hM hl
  have H14 : Hid (Mm w14 [(γ 9, cells6 d), (γ11_11, cells6 sm), (γ10_9, cells6 m3), (γ9_11, cells6 yz), (γ8_9, cells6 m3), (γ7_11, cells6 xy), (γ6_11, cells6 xy), (γs6, cel [x1, x2, x3]), (γs5, cel [a, b, c]), (γ1_0, cells6 a), (γ1_1, cells6 b), (γ1_2, cells6 c), (0, dtab)] ∧ _) := growB H13 hM (Nat.le_refl _) hl [9] rfl (by decide)
  have o12_9 := ownB H13 hM (Nat.le_refl _) hl (i := 9) rfl
  clear hM hl l H13
  generalize γ 9 = γ12_9 at H14 o12_9 ⊢
  clear γ
  refine rest0 rfl (then_normal (wp_seq ?_))
  refine walk_anyA 14 [.quiet (.int .i64 s), .quiet (.slice (some ⟨γs6, 0, none⟩) 3 xs6), .quiet (PT γs6 0), .quiet (N x1), .quiet (.slice (some ⟨γs6, 0, none⟩) 3 xs6), .quiet (PT γs6 12), .quiet (N x3), .call (.tuple #[N xz, .int .i64 0]), .quiet (.tuple #[N xz, .int .i64 0]), .quiet (N xz), .quiet (.int .i64 0), .made zero6 24, .laid 11 zero6 (cells6 xz), .quiet (.int .i64 0)] (sB H14) ?ho13 ?he13 (hL := ?hL13)
  case hL13 => exact ⟨⟨_, rfl⟩, trivial⟩
  case ho13 => exact ak (fun _ => ⟨rfl, fun _ _ => rfl⟩) (ak (fun _ => ⟨rfl, fun _ _ => rfl⟩) (ak (by refine fun γ => ⟨rfl, fun w' h => ?_⟩; clear h; go_simp) (ak (fun γ => ⟨rfl, fun w' h => ex_loadN (i := 0) h 7 rfl rfl rfl rfl⟩) (ak (fun _ => ⟨rfl, fun _ _ => rfl⟩) (ak (by refine fun γ => ⟨rfl, fun w' h => ?_⟩; clear h; go_simp) (ak (fun γ => ⟨rfl, fun w' h => ex_loadN (i := 2) h 7 rfl rfl rfl rfl⟩) (ak (fun γ => ⟨rfl, fun w' h => ⟨19, #[.int .i64 s, N x1, N x3], exec_call rfl call19 rfl (mpn rfl), C8.out w'⟩⟩) (ak (fun _ => ⟨rfl, fun _ _ => rfl⟩) (ak (by refine fun γ => ⟨rfl, fun w' h => ?_⟩; clear h; go_simp) (ak (by refine fun γ => ⟨rfl, fun w' h => ?_⟩; clear h; go_simp) (ak (fun γ => ⟨rfl, fun w' => exec_made6 rfl⟩) (ak (fun γ => ⟨rfl, rfl, rfl, fun w' h => exec_laid6 h rfl rfl rfl⟩) (ak (fun _ => ⟨rfl, fun _ _ => rfl⟩) trivial)))))))))))))
  intro γ w15 l hM hl
  have H15 : Hid (Mm w15 [(γ 11, cells6 xz), (γ12_9, cells6 d), (γ11_11, cells6 sm), (γ10_9, cells6 m3), (γ9_11, cells6 yz), (γ8_9, cells6 m3), (γ7_11, cells6 xy), (γ6_11, cells6 xy), (γs6, cel [x1, x2, x3]), (γs5, cel [a, b, c]), (γ1_0, cells6 a), (γ1_1, cells6 b), (γ1_2, cells6 c), (0, dtab)] ∧ _) := growB H14 hM (Nat.le_refl _) hl [11] rfl (by decide)
  have o13_11 := ownB H14 hM (Nat.le_refl _) hl (i := 11) rfl
  clear hM hl l H14
  generalize γ 11 = γ13_11 at H15 o13_11 ⊢
  clear γ
  refine rest0 rfl (then_normal (wp_seq ?_))
  refine walk_seqA 10 [.quiet (.int .i64 s), .quiet (N xz), .quiet (N yz), .call (.tuple #[N d, .int .i64 0]), .quiet (.tuple #[N d, .int .i64 0]), .quiet (N d), .quiet (.int .i64 0), .made zero6 24, .laid 7 zero6 (cells6 d), .quiet (.int .i64 0)] (sB H15) ?ho14 ?he14 (hL := ?hL14)
  case hL14 => exact ⟨⟨_, rfl⟩, trivial⟩
  case ho14 => exact ak (fun _ => ⟨rfl, fun _ _ => rfl⟩) (ak (fun γ => ⟨rfl, fun w' h => ex_load6 h 0 rfl rfl rfl rfl⟩) (ak (fun γ => ⟨rfl, fun w' h => ex_load6 h 4 rfl rfl rfl rfl⟩) (ak (fun γ => ⟨rfl, fun w' h => ⟨20, #[.int .i64 s, N xz, N yz], exec_call rfl call20 rfl (mpn rfl), C9.out w'⟩⟩) (ak (fun _ => ⟨rfl, fun _ _ => rfl⟩) (ak (by refine fun γ => ⟨rfl, fun w' h => ?_⟩; clear h; go_simp) (ak (by refine fun γ => ⟨rfl, fun w' h => ?_⟩; clear h; go_simp) (ak (fun γ => ⟨rfl, fun w' => exec_made6 rfl⟩) (ak (fun γ => ⟨rfl, rfl, rfl, fun w' h => exec_laid6 h rfl rfl rfl⟩) (ak (fun _ => ⟨rfl, fun _ _ => rfl⟩) trivial)))))))))
  intro γ w16 l hM hl
  have H16 : Hid (Mm w16 [(γ 7, cells6 d), (γ13_11, cells6 xz), (γ12_9, cells6 d), (γ11_11, cells6 sm), (γ10_9, cells6 m3), (γ9_11, cells6 yz), (γ8_9, cells6 m3), (γ7_11, cells6 xy), (γ6_11, cells6 xy), (γs6, cel [x1, x2, x3]), (γs5, cel [a, b, c]), (γ1_0, cells6 a), (γ1_1, cells6 b), (γ1_2, cells6 c), (0, dtab)] ∧ _) := growB H15 hM (Nat.le_refl _) hl [7] rfl (by decide)
  have o14_7 := ownB H15 hM (Nat.le_refl _) hl (i := 7) rfl
  clear hM hl l H15
  generalize γ 7 = γ14_7 at H16 o14_7 ⊢
  clear γ
  refine rest0 rfl (then_normal (wp_seq ?_))
  refine walk_anyA 12 [.quiet (.int .i64 s), .quiet (N sm), .quiet (.slice (some ⟨γs6, 0, none⟩) 3 xs6), .quiet (PT γs6 6), .quiet (N x2), .call (.tuple #[N x1, .int .i64 0]), .quiet (.tuple #[N x1, .int .i64 0]), .quiet (N x1), .quiet (.int .i64 0), .made zero6 24, .laid 9 zero6 (cells6 x1), .quiet (.int .i64 0)] (sB H16) ?ho15 ?he15 (hL := ?hL15)
  case hL15 => exact ⟨⟨_, rfl⟩, trivial⟩
  case ho15 => exact ak (fun _ => ⟨rfl, fun _ _ => rfl⟩) (ak (fun γ => ⟨rfl, fun w' h => ex_load6 h 3 rfl rfl rfl rfl⟩) (ak (fun _ => ⟨rfl, fun _ _ => rfl⟩) (ak (by refine fun γ => ⟨rfl, fun w' h => ?_⟩; clear h; go_simp) (ak (fun γ => ⟨rfl, fun w' h => ex_loadN (i := 1) h 9 rfl rfl rfl rfl⟩) (ak (fun γ => ⟨rfl, fun w' h => ⟨21, #[.int .i64 s, N sm, N x2], exec_call rfl call21 rfl (mpn rfl), C10.out w'⟩⟩) (ak (fun _ => ⟨rfl, fun _ _ => rfl⟩) (ak (by refine fun γ => ⟨rfl, fun w' h => ?_⟩; clear h; go_simp) (ak (by refine fun γ => ⟨rfl, fun w' h => ?_⟩; clear h; go_simp) (ak (fun γ => ⟨rfl, fun w' => exec_made6 rfl⟩) (ak (fun γ => ⟨rfl, rfl, rfl, fun w' h => exec_laid6 h rfl rfl rfl⟩) (ak (fun _ => ⟨rfl, fun _ _ => rfl⟩) trivial)))))))))))
  intro γ w17 l hM hl
  have H17 : Hid (Mm w17 [(γ 9, cells6 x1), (γ14_7, cells6 d), (γ13_11, cells6 xz), (γ12_9, cells6 d), (γ11_11, cells6 sm), (γ10_9, cells6 m3), (γ9_11, cells6 yz), (γ8_9, cells6 m3), (γ7_11, cells6 xy), (γ6_11, cells6 xy), (γs6, cel [x1, x2, x3]), (γs5, cel [a, b, c]), (γ1_0, cells6 a), (γ1_1, cells6 b), (γ1_2, cells6 c), (0, dtab)] ∧ _) := growB H16 hM (Nat.le_refl _) hl [9] rfl (by decide)
  have o15_9 := ownB H16 hM (Nat.le_refl _) hl (i := 9) rfl
  clear hM hl l H16
  generalize γ 9 = γ15_9 at H17 o15_9 ⊢
  clear γ
  refine rest0 rfl (then_normal (wp_seq ?_))
  refine walk_seqA 11 [.quiet (.int .i64 s), .quiet (.slice (some ⟨γs6, 0, none⟩) 3 xs6), .quiet (PT γs6 0), .quiet (N x1), .call (.tuple #[N iv, .int .i64 6]), .quiet (.tuple #[N iv, .int .i64 6]), .quiet (N iv), .quiet (.int .i64 6), .made zero6 24, .laid 8 zero6 (cells6 iv), .quiet (.int .i64 6)] (sB H17) ?ho16 ?he16 (hL := ?hL16)
  case hL16 => exact ⟨⟨_, rfl⟩, trivial⟩
  case ho16 => exact ak (fun _ => ⟨rfl, fun _ _ => rfl⟩) (ak (fun _ => ⟨rfl, fun _ _ => rfl⟩) (ak (by refine fun γ => ⟨rfl, fun w' h => ?_⟩; clear h; go_simp) (ak (fun γ => ⟨rfl, fun w' h => ex_loadN (i := 0) h 10 rfl rfl rfl rfl⟩) (ak (fun γ => ⟨rfl, fun w' h => ⟨22, #[.int .i64 s, N x1], exec_call rfl call22 rfl (mpn rfl), C12.out w' (h.one 15 rfl)⟩⟩) (ak (fun _ => ⟨rfl, fun _ _ => rfl⟩) (ak (by refine fun γ => ⟨rfl, fun w' h => ?_⟩; clear h; go_simp) (ak (by refine fun γ => ⟨rfl, fun w' h => ?_⟩; clear h; go_simp) (ak (fun γ => ⟨rfl, fun w' => exec_made6 rfl⟩) (ak (fun γ => ⟨rfl, rfl, rfl, fun w' h => exec_laid6 h rfl rfl rfl⟩) (ak (fun _ => ⟨rfl, fun _ _ => rfl⟩) trivial))))))))))
  intro γ w18 l hM hl
  have H18 : Hid (Mm w18 [(γ 8, cells6 iv), (γ15_9, cells6 x1), (γ14_7, cells6 d), (γ13_11, cells6 xz), (γ12_9, cells6 d), (γ11_11, cells6 sm), (γ10_9, cells6 m3), (γ9_11, cells6 yz), (γ8_9, cells6 m3), (γ7_11, cells6 xy), (γ6_11, cells6 xy), (γs6, cel [x1, x2, x3]), (γs5, cel [a, b, c]), (γ1_0, cells6 a), (γ1_1, cells6 b), (γ1_2, cells6 c), (0, dtab)] ∧ _) := growB H17 hM (Nat.le_refl _) hl [8] rfl (by decide)
  have o16_8 := ownB H17 hM (Nat.le_refl _) hl (i := 8) rfl
  clear hM hl l H17
  generalize γ 8 = γ16_8 at H18 o16_8 ⊢
  clear γ
  refine rest0 rfl (then_normal (wp_seq ?_))
  refine walk_anyA 12 [.quiet (.int .i64 s), .quiet (N iv), .quiet (.slice (some ⟨γs6, 0, none⟩) 3 xs6), .quiet (PT γs6 0), .quiet (N x1), .call (.tuple #[N k1, .int .i64 0]), .quiet (.tuple #[N k1, .int .i64 0]), .quiet (N k1), .quiet (.int .i64 0), .made zero6 24, .laid 9 zero6 (cells6 k1), .quiet (.int .i64 0)] (sB H18) ?ho17 ?he17 (hL := ?hL17)
  case hL17 => exact ⟨⟨_, rfl⟩, trivial⟩
  case ho17 => exact ak (fun _ => ⟨rfl, fun _ _ => rfl⟩) (ak (fun γ => ⟨rfl, fun w' h => ex_load6 h 0 rfl rfl rfl rfl⟩) (ak (fun _ => ⟨rfl, fun _ _ => rfl⟩) (ak (by refine fun γ => ⟨rfl, fun w' h => ?_⟩; clear h; go_simp) (ak (fun γ => ⟨rfl, fun w' h => ex_loadN (i := 0) h 11 rfl rfl rfl rfl⟩) (ak (fun γ => ⟨rfl, fun w' h => ⟨19, #[.int .i64 s, N iv, N x1], exec_call rfl call19 rfl (mpn rfl), C11.out w'⟩⟩) (ak (fun _ => ⟨rfl, fun _ _ => rfl⟩) (ak (by refine fun γ => ⟨rfl, fun w' h => ?_⟩; clear h; go_simp) (ak (by refine fun γ => ⟨rfl, fun w' h => ?_⟩; clear h; go_simp) (ak (fun γ => ⟨rfl, fun w' => exec_made6 rfl⟩) (ak (fun γ => ⟨rfl, rfl, rfl, fun w' h => exec_laid6 h rfl rfl rfl⟩) (ak (fun _ => ⟨rfl, fun _ _ => rfl⟩) trivial)))))))))))
  intro γ w19 l hM hl
  have H19 : Hid (Mm w19 [(γ 9, cells6 k1), (γ16_8, cells6 iv), (γ15_9, cells6 x1), (γ14_7, cells6 d), (γ13_11, cells6 xz), (γ12_9, cells6 d), (γ11_11, cells6 sm), (γ10_9, cells6 m3), (γ9_11, cells6 yz), (γ8_9, cells6 m3), (γ7_11, cells6 xy), (γ6_11, cells6 xy), (γs6, cel [x1, x2, x3]), (γs5, cel [a, b, c]), (γ1_0, cells6 a), (γ1_1, cells6 b), (γ1_2, cells6 c), (0, dtab)] ∧ _) := growB H18 hM (Nat.le_refl _) hl [9] rfl (by decide)
  have o17_9 := ownB H18 hM (Nat.le_refl _) hl (i := 9) rfl
  clear hM hl l H18
  generalize γ 9 = γ17_9 at H19 o17_9 ⊢
  clear γ
  refine rest0 rfl (then_normal (wp_seq ?_))
  refine walk_anyB 47 [.quiet (.bool true), .quiet (.bool true), .quiet (.int .i64 0), .quiet (.bool true), .quiet (.bool true), .quiet (.bool true), .quiet (N xy), .quiet (N xy), .quiet (.bool true), .quiet (.bool true), .quiet (.bool true), .quiet (N m3), .quiet (N m3), .quiet (.bool true), .quiet (.bool true), .quiet (.bool true), .quiet (N d), .quiet (N d), .quiet (.bool true), .quiet (.bool true), .quiet (.bool true), .quiet (N x1), .quiet (.slice (some ⟨γs6, 0, none⟩) 3 xs6), .quiet (PT γs6 0), .quiet (N x1), .quiet (.bool true), .quiet (.bool true), .quiet (.bool true), .quiet (.int .i64 6), .quiet (.bool true), .quiet (.slice (some ⟨γs6, 0, none⟩) 3 xs6), .quiet (PT γs6 0), .quiet (N x1), .quiet (N 0), .quiet (.bool true), .quiet (.bool true), .quiet (.bool true), .quiet (.bool true), .quiet (.int .i64 6), .quiet (.bool true), .quiet (.bool true), .gone, .gone, .gone, .quiet (.bool true), .quiet (.bool true), .quiet (.bool true)] H19 ?ho18 ?he18 (hL := ?hL18)
  case hL18 => exact trivial
  case ho18 => exact ak (fun _ => ⟨rfl, fun _ _ => rfl⟩) (ak (fun _ => ⟨rfl, fun _ _ => rfl⟩) (ak (fun _ => ⟨rfl, fun _ _ => rfl⟩) (ak (by refine fun γ => ⟨rfl, fun w' h => ?_⟩; clear h; go_simp) (ak (by refine fun γ => ⟨rfl, fun w' h => ?_⟩; clear h; go_simp) (ak (fun _ => ⟨rfl, fun _ _ => rfl⟩) (ak (fun γ => ⟨rfl, fun w' h => ex_load6 h 11 rfl rfl rfl rfl⟩) (ak (fun γ => ⟨rfl, fun w' h => ex_load6 h 10 rfl rfl rfl rfl⟩) (ak (fun γ => ⟨rfl, fun w' _ => exec_eq6 e_xy rfl rfl rfl⟩) (ak (by refine fun γ => ⟨rfl, fun w' h => ?_⟩; clear h; go_simp) (ak (fun _ => ⟨rfl, fun _ _ => rfl⟩) (ak (fun γ => ⟨rfl, fun w' h => ex_load6 h 9 rfl rfl rfl rfl⟩) (ak (fun γ => ⟨rfl, fun w' h => ex_load6 h 7 rfl rfl rfl rfl⟩) (ak (fun γ => ⟨rfl, fun w' _ => exec_eq6 e_m3 rfl rfl rfl⟩) (ak (by refine fun γ => ⟨rfl, fun w' h => ?_⟩; clear h; go_simp) (ak (fun _ => ⟨rfl, fun _ _ => rfl⟩) (ak (fun γ => ⟨rfl, fun w' h => ex_load6 h 5 rfl rfl rfl rfl⟩) (ak (fun γ => ⟨rfl, fun w' h => ex_load6 h 3 rfl rfl rfl rfl⟩) (ak (fun γ => ⟨rfl, fun w' _ => exec_eq6 e_d rfl rfl rfl⟩) (ak (by refine fun γ => ⟨rfl, fun w' h => ?_⟩; clear h; go_simp) (ak (fun _ => ⟨rfl, fun _ _ => rfl⟩) (ak (fun γ => ⟨rfl, fun w' h => ex_load6 h 2 rfl rfl rfl rfl⟩) (ak (fun _ => ⟨rfl, fun _ _ => rfl⟩) (ak (by refine fun γ => ⟨rfl, fun w' h => ?_⟩; clear h; go_simp) (ak (fun γ => ⟨rfl, fun w' h => ex_loadN (i := 0) h 12 rfl rfl rfl rfl⟩) (ak (fun γ => ⟨rfl, fun w' _ => exec_eq6 e_x1 rfl rfl rfl⟩) (ak (by refine fun γ => ⟨rfl, fun w' h => ?_⟩; clear h; go_simp) (ak (fun _ => ⟨rfl, fun _ _ => rfl⟩) (ak (fun _ => ⟨rfl, fun _ _ => rfl⟩) (ak (by refine fun γ => ⟨rfl, fun w' h => ?_⟩; clear h; go_simp) (ak (fun _ => ⟨rfl, fun _ _ => rfl⟩) (ak (by refine fun γ => ⟨rfl, fun w' h => ?_⟩; clear h; go_simp) (ak (fun γ => ⟨rfl, fun w' h => ex_loadN (i := 0) h 12 rfl rfl rfl rfl⟩) (ak (by refine fun γ => ⟨rfl, fun w' h => ?_⟩; clear h; exact ex_zero6 rfl) (ak (fun γ => ⟨rfl, fun w' _ => exec_eq6 e_0 rfl rfl rfl⟩) (ak (by refine fun γ => ⟨rfl, fun w' h => ?_⟩; clear h; go_simp) (ak (by refine fun γ => ⟨rfl, fun w' h => ?_⟩; clear h; go_simp) (ak (fun _ => ⟨rfl, fun _ _ => rfl⟩) (ak (fun _ => ⟨rfl, fun _ _ => rfl⟩) (ak (by refine fun γ => ⟨rfl, fun w' h => ?_⟩; clear h; go_simp) (ak (fun _ => ⟨rfl, fun _ _ => rfl⟩) (ak (fun γ => rfl) (ak (fun γ => rfl) (ak (fun γ => rfl) (ak (by refine fun γ => ⟨rfl, fun w' h => ?_⟩; clear h; go_simp) (ak (by refine fun γ => ⟨rfl, fun w' h => ?_⟩; clear h; go_simp) (ak (fun _ => ⟨rfl, fun _ _ => rfl⟩) trivial))))))))))))))))))))))))))))))))))))))))))))))
  intro _ w20 H20
  clear H19
  refine rest0 rfl (then_normal (wp_ret ?_))
  repeat (first | refine then_ret ?_ | refine block_ret ?_)
  refine bodyPost_ret (v := .bool true) (by simp [results, Tryd.results4, go_sem, *]) rfl ?_
  exact ⟨rfl, H20.out.2⟩
open NT in
theorem field_su {s : Int} {r : Nat} (hS : Su s r) (hp : Prm r) (hs0 : ¬ s < 0) (hs2 : ¬ 2 < s) (a b c : Nat) (ha : a < big) (hb : b < big) (hc : c < big) (w : World) (hm : Mm w [(0, dtab)]) :
    Calls Tryd.prog 4 #[.int .i64 s, N a, N b, N c] w fun e w' => e = .returned (.bool true) ∧ Below w.heap.size w w' := by
  have l : ∀ x, x % r < r := fun x => Nat.mod_lt x hS.ok.pos
  have L : ∀ x, x % r < big := fun x => Nat.lt_trans (l x) hS.ok.big
  have sub : subm r ((a % r + b % r) % r) (b % r) = a % r := by
    unfold subm
    rw [Nat.mod_mod, Nat.mod_add_mod]
    have h1 := l b
    rw [show a % r + b % r + (r - b % r) = a % r + r by omega, Nat.add_mod_right, Nat.mod_mod]
  have m3 : a % r * (b % r) % r * (c % r) % r = a % r * (b % r) * (c % r) % r := Nat.mod_mul_mod _ _ _
  have main : ∀ (iv k1 f : Nat), True := fun _ _ _ => trivial
  clear main
  have cMul := fun x y (hx : x < r) (hy : y < r) (w : World) => sMul_ok hS x y hx hy w
  have t1 : a % r * (b % r * (c % r) % r) % r = a % r * (b % r) * (c % r) % r := by rw [Nat.mul_mod_mod, Nat.mul_assoc]
  have t2 : (a % r + b % r) % r * (c % r) % r = (a % r + b % r) * (c % r) % r := Nat.mod_mul_mod _ _ _
  have t3 : (a % r * (c % r) % r + b % r * (c % r) % r) % r = (a % r + b % r) * (c % r) % r := by rw [← Nat.add_mod, Nat.add_mul]
  have h1 := fun w => cMul (a % r) (b % r) (l a) (l b) w
  have h2 := fun w => cMul (b % r) (a % r) (l b) (l a) w
  rw [Nat.mul_comm (b % r) (a % r)] at h2
  have h3 := fun w => cMul (a % r * (b % r) % r) (c % r) (l _) (l c) w
  rw [m3] at h3
  have h4 := fun w => cMul (b % r) (c % r) (l b) (l c) w
  have h5 := fun w => cMul (a % r) (b % r * (c % r) % r) (l a) (l _) w
  rw [t1] at h5
  have h6 := fun w => sAdd_ok hS (a % r) (b % r) (l a) (l b) w
  have h7 := fun w => cMul ((a % r + b % r) % r) (c % r) (l _) (l c) w
  rw [t2] at h7
  have h8 := fun w => cMul (a % r) (c % r) (l a) (l c) w
  have h9 := fun w => sAdd_ok hS (a % r * (c % r) % r) (b % r * (c % r) % r) (l _) (l _) w
  rw [t3] at h9
  have h10 := fun w => sSub_ok hS ((a % r + b % r) % r) (b % r) (l _) (l b) w
  rw [sub] at h10
  by_cases h0 : a % r = 0
  · have hg : Nat.gcd r (a % r) ≠ 1 := by
      rw [h0, Nat.gcd_zero_right]
      have := hS.ok.three
      omega
    refine field_zero s a b c (a % r) (b % r) (c % r) (a % r * (b % r) % r) (a % r * (b % r) * (c % r) % r) (b % r * (c % r) % r) ((a % r + b % r) % r) ((a % r + b % r) * (c % r) % r) (a % r * (c % r) % r) 0 (0 * (a % r) % r) hs0 hs2
      (eq_refl24 (L _)) (eq_refl24 (L _)) (eq_refl24 (L _)) (eq_refl24 (L _)) (fun w => ?_) (fun g w hm => scalars3 hS g a b c ha hb hc w hm)
      awake11 h1 h2 h3 h4 h5 h6 h7 h8 h9 h10 (fun w => cMul 0 (a % r) hS.ok.pos (l a) w) (fun w hm => sInv_miss hS (a % r) (l a) hg w hm) w hm
    rw [run_eqN _ _ (L a) big_pos, decide_eq_true h0]
  · have hg := prm_cop hp (l a) h0
    have hi := invm_spec hS.ok hg
    have h11 := fun w => cMul (invm r (a % r)) (a % r) hi.1 (l a) w
    rw [hi.2] at h11
    refine field_in s a b c (a % r) (b % r) (c % r) (a % r * (b % r) % r) (a % r * (b % r) * (c % r) % r) (b % r * (c % r) % r) ((a % r + b % r) % r) ((a % r + b % r) * (c % r) % r) (a % r * (c % r) % r) (invm r (a % r)) 1 hs0 hs2
      (eq_refl24 (L _)) (eq_refl24 (L _)) (eq_refl24 (L _)) (eq_refl24 (L _)) (eq_refl24 (small_big 1 (by decide))) (fun w => ?_) (fun g w hm => scalars3 hS g a b c ha hb hc w hm)
      awake11 h1 h2 h3 h4 h5 h6 h7 h8 h9 h10 h11 (fun w hm => sInv_ok hS (a % r) (l a) hg w hm) (fun w => of_any 1 (by decide) w) w hm
    rw [run_eqN _ _ (L a) big_pos, decide_eq_false h0]
theorem field_any (s : Int) (a b c : Nat) (ha : a < big) (hb : b < big) (hc : c < big) (w : World) (hm : Mm w [(0, dtab)]) :
    Calls Tryd.prog 4 #[.int .i64 s, N a, N b, N c] w fun e w' => e = .returned (.bool true) ∧ Below w.heap.size w w' := by
  by_cases h0 : s < 0
  · exact field_low s a b c h0 awake11 w hm
  · by_cases h2 : 2 < s
    · exact field_high s a b c h2 h0 awake11 w hm
    · rcases (by omega : s = 0 ∨ s = 1 ∨ s = 2) with rfl | rfl | rfl
      · exact field_su su_great NT.prm_r h0 h2 a b c ha hb hc w hm
      · exact field_su su_little NT.prm_65521 h0 h2 a b c ha hb hc w hm
      · exact field_su su_middle NT.prm_72057594037927889 h0 h2 a b c ha hb hc w hm
end Rg
end Go.Proofs.YtfnmahjdkmgdkaaDoor
end
section
namespace Go.Proofs.YtfnmahjdkmgdkaaDoor
open Go.ChangeShapes Go.WideShapes Go.ChangeAt Go.RowKit
theorem Tryd.own : ownKnob Tryd.prog.godebug = none := by kernel_rfl
theorem Tryd.laidOut : laidOutB Tryd.prog = true := by kernel_rfl
theorem wd_cons_zero (x r : Nat) (hx : x < 18446744073709551616) : wd (x + 18446744073709551616 * r) 0 = x := by
  unfold wd; rw [Nat.mul_zero, Nat.pow_zero, Nat.div_one]; omega
theorem wd_cons_succ (x r i : Nat) (hx : x < 18446744073709551616) : wd (x + 18446744073709551616 * r) (i + 1) = wd r i := by
  unfold wd
  rw [pow_step, Nat.mul_comm (2 ^ (64 * i)), ← Nat.div_div_eq_div_mul, show (x + 18446744073709551616 * r) / 18446744073709551616 = r by omega]
theorem lt_cons (x r k : Nat) (hx : x < 18446744073709551616) (hr : r < 2 ^ (64 * k)) : x + 18446744073709551616 * r < 2 ^ (64 * (k + 1)) := by
  rw [pow_step]; omega
theorem num_of_words (x : Nat → Nat) (hx : ∀ i, x i < 18446744073709551616) (n : Nat) : ∃ a, a < 2 ^ (64 * n) ∧ ∀ i, i < n → wd a i = x i := by
  induction n generalizing x with
  | zero => exact ⟨0, Nat.two_pow_pos _, fun i h => absurd h (Nat.not_lt_zero _)⟩
  | succ n ih =>
    obtain ⟨r, hr, hw⟩ := ih (fun i => x (i + 1)) (fun i => hx _)
    refine ⟨x 0 + 18446744073709551616 * r, lt_cons _ _ _ (hx 0) hr, fun i hi => ?_⟩
    cases i with
    | zero => exact wd_cons_zero _ _ (hx 0)
    | succ i => rw [wd_cons_succ _ _ _ (hx 0)]; exact hw i (by omega)
set_option maxRecDepth 100000 in
theorem open_num {H : Type} {enc : TypeId × Value → H} {w : World} {base : Nat} {sp : Nat → Bool} {held : Bool} {r : Reach} {b0 : Nat} {v : Value} {d : DataW H} {ps : List MemPlace}
    (hval : Value.okWide Tryd.prog w r b0 24 v) (hd : DataW.Trod enc Tryd.prog w base sp held 24 v d ps) : ∃ a, a < big ∧ v = N a ∧ ps = [] := by
  unfold Value.okWide at hval
  rw [Tryd.underlying24] at hval
  obtain ⟨cs, rfl, hsz, _⟩ := hval
  obtain ⟨fuel, hf⟩ := hd
  obtain ⟨xs, m, -, hx, hl, hn, hel⟩ := DataW.trod_array Tryd.underlying24 hf
  have hc : Tryd.prog.cellsOf 22 = 1 := by kernel_rfl
  have hc6 : Tryd.prog.cellsOf 24 = 6 := by kernel_rfl
  rw [hc6] at hsz
  have key : ∀ i, i < 6 → ∃ n : Nat, n < 18446744073709551616 ∧ cs[i]? = some (.int .u64 n) ∧ ∃ z, xs[i]? = some z ∧ z.2 = [] := by
    intro i hi
    have h := hel i hi
    rw [hc] at h
    have hlt : i < xs.length := by rw [hn]; exact hi
    obtain ⟨z, hz⟩ : ∃ z, xs[i]? = some z := ⟨xs[i], List.getElem?_eq_getElem hlt⟩
    rw [hz] at h
    obtain ⟨n, e1, e2, e3⟩ := DataW.trod_int Tryd.underlying22 h
    have hb := bounds_u64 e3
    have hi' : i < cs.size := by omega
    have e4 : cs[i]? = some (.int .u64 n) := by
      have e5 : (cs.toList.drop i)[0]? = some (.int .u64 n) := by
        have e6 : ((cs.toList.drop (i * 1)).take 1)[0]? = some (.int .u64 n) := by
          have e7 : (Value.agg cs).cells.toList = cs.toList := rfl
          rw [e7] at e1
          rw [e1]; rfl
        rw [Nat.mul_one, List.getElem?_take] at e6
        simpa using e6
      rw [List.getElem?_drop] at e5
      simpa using e5
    refine ⟨n.toNat, by omega, ?_, z, hz, by rw [e2]⟩
    rw [e4, Int.toNat_of_nonneg hb.1]
  obtain ⟨n0, l0, c0, z0, y0, q0⟩ := key 0 (by omega)
  obtain ⟨n1, l1, c1, z1, y1, q1⟩ := key 1 (by omega)
  obtain ⟨n2, l2, c2, z2, y2, q2⟩ := key 2 (by omega)
  obtain ⟨n3, l3, c3, z3, y3, q3⟩ := key 3 (by omega)
  obtain ⟨n4, l4, c4, z4, y4, q4⟩ := key 4 (by omega)
  obtain ⟨n5, l5, c5, z5, y5, q5⟩ := key 5 (by omega)
  have hps : ps = [] := by
    have hx2 : ps = xs.flatMap (·.2) := congrArg Prod.snd hx
    rw [hx2, List.flatMap_eq_nil_iff]
    intro z hz
    obtain ⟨i, hi⟩ := List.mem_iff_getElem?.1 hz
    have hi6 : i < 6 := by
      have := (List.getElem?_eq_some_iff.1 hi).1
      omega
    obtain ⟨n, _, _, z', y, q⟩ := key i hi6
    rw [hi] at y; injection y with y; rw [y]; exact q
  obtain ⟨a, ha, hw⟩ := num_of_words (fun i => [n0, n1, n2, n3, n4, n5].getD i 0) (by
    intro i
    match i with
    | 0 => exact l0
    | 1 => exact l1
    | 2 => exact l2
    | 3 => exact l3
    | 4 => exact l4
    | 5 => exact l5
    | (i + 6) => simp) 6
  refine ⟨a, by rw [big]; exact ha, ?_, hps⟩
  unfold N
  have w0 : wd a 0 = n0 := hw 0 (by omega)
  have w1 : wd a 1 = n1 := hw 1 (by omega)
  have w2 : wd a 2 = n2 := hw 2 (by omega)
  have w3 : wd a 3 = n3 := hw 3 (by omega)
  have w4 : wd a 4 = n4 := hw 4 (by omega)
  have w5 : wd a 5 = n5 := hw 5 (by omega)
  rw [w0, w1, w2, w3, w4, w5]
  congr 1
  apply Array.ext (by simpa using hsz)
  intro i hi1 hi2
  have : i < 6 := by simpa using hi2
  have g : cs[i]? = some cs[i] := Array.getElem?_eq_getElem hi1
  match i, this with
  | 0, _ => rw [c0] at g; injection g with g; rw [← g]; rfl
  | 1, _ => rw [c1] at g; injection g with g; rw [← g]; rfl
  | 2, _ => rw [c2] at g; injection g with g; rw [← g]; rfl
  | 3, _ => rw [c3] at g; injection g with g; rw [← g]; rfl
  | 4, _ => rw [c4] at g; injection g with g; rw [← g]; rfl
  | 5, _ => rw [c5] at g; injection g with g; rw [← g]; rfl
/-- What was read of a number ahead of the call reads so behind it. -/
theorem num_stays {H : Type} {enc : TypeId × Value → H} {W W' : World} {v : Value} {d : DataW H}
    (h : DataW.Trod enc Tryd.prog W 0 (fun _ => true) true 24 v d []) (hb : Below W.heap.size W W') :
    DataW.Trod enc Tryd.prog W' 0 (fun b => decide (b < W.heap.size)) true 24 v d [] :=
  Below.trod Tryd.laidOut (by kernel_rfl) (by decide +kernel) h hb (fun _ hx => by cases hx)
end Go.Proofs.YtfnmahjdkmgdkaaDoor
end
section
namespace Go.Proofs.YtfnmahjdkmgdkaaDoor
open Go.ChangeShapes Go.WideShapes Go.ChangeAt Go.RowKit
namespace Rg
set_option maxRecDepth 100000
abbrev laidL : List (String × DataW Unit) := Rows.suiteFieldRow.laid
abbrev tabName : String := match laidL with
  | (n, _) :: _ => n
  | [] => Tryd.f3.name
theorem gTab : Tryd.prog.globalNamed tabName = some 0 := by kernel_rfl
theorem tTab : (Tryd.prog.globals[0]?).map (·.type) = some 136 := by kernel_rfl
theorem datTab : (Rows.laid_math_bits_deBruijn64tab : DataW Unit) = .agg (Lib.deBruijn64tab.map fun k => .lit (.int .u8 ((k : Nat) : Int))) := by kernel_rfl
theorem tab_of_laid {W : World} (h : laidMetH Tryd.prog laidL W) : Mm W [(0, dtab)] := by
  rw [MakeChecks.laidMetH_plain _ _ _ (by kernel_rfl)] at h
  obtain ⟨ps, ⟨g, t, cs, fuel, p, q, hg, ht, hv, hd, hq, hps⟩, hnd, hc⟩ := h
  obtain rfl := Option.some.inj (gTab.symm.trans hg)
  obtain rfl := Option.some.inj (tTab.symm.trans ht)
  obtain ⟨xs, m, -, hx, hlen, hn, hel⟩ := DataW.trod_array Tryd.underlying136 hd
  rw [datTab] at hx
  simp only [Prod.mk.injEq, DataW.agg.injEq] at hx
  have hc5 : Tryd.prog.cellsOf 5 = 1 := by kernel_rfl
  have hc81 : Tryd.prog.cellsOf 136 = 64 := by kernel_rfl
  rw [hc81] at hlen
  have hsz : cs.size = 64 := by simpa using hlen
  have hpl : ∀ i, i < 64 → MemPlace.cell 0 i ∈ ps := fun i hi => by
    rw [hps]
    refine List.mem_append_left _ (List.mem_append_left _ ?_)
    unfold MemPlace.row
    simp [hsz]
    omega
  obtain ⟨⟨c0, t0, hheap⟩, _⟩ := hc 0 0 (hpl 0 (by decide))
  have h0 : 0 < W.heap.size := by
    rcases Nat.lt_or_ge 0 W.heap.size with h' | h'
    · exact h'
    · rw [Array.getElem?_eq_none (by omega)] at hheap; cases hheap
  refine ⟨fun pq hpq => ?_, List.pairwise_singleton _ _⟩
  rw [List.mem_singleton.1 hpq]
  refine ⟨h0, fun j v hj => ?_⟩
  have hj64 : j < 64 := by
    have := (List.getElem?_eq_some_iff.1 hj).1
    exact this
  refine ⟨?_, ?_⟩
  · rw [World.var?_cell hg hv j]
    have h1 := hel j hj64
    rw [hc5, Nat.mul_one] at h1
    have hlt : j < xs.length := by omega
    rw [List.getElem?_eq_getElem hlt] at h1
    obtain ⟨n, e1, e2, _⟩ := DataW.trod_int Tryd.underlying5 h1
    have e3 : cs[j]? = some (.int .u8 n) := by
      have e4 : ((cs.toList.drop j).take 1)[0]? = some (.int .u8 n) := by rw [e1]; rfl
      rw [List.getElem?_take, if_pos (by decide), List.getElem?_drop] at e4
      simpa using e4
    have e5 : (xs.map (·.1))[j]? = (Lib.deBruijn64tab.map fun k => DataW.lit (.int .u8 ((k : Nat) : Int)))[j]? := by rw [hx.1]
    rw [List.getElem?_map, List.getElem?_eq_getElem hlt, e2, List.getElem?_map] at e5
    unfold dtab at hj
    rw [List.getElem?_map] at hj
    cases hk : Lib.deBruijn64tab[j]? with
    | none => rw [hk] at hj; cases hj
    | some k =>
      rw [hk] at hj e5
      simp only [Option.map_some, Option.some.injEq, DataW.lit.injEq] at hj e5
      rw [e3, ← hj]
      simp only [Option.some.injEq]
      injection e5 with _ e6
      rw [e6]
  · unfold World.frozen?
    rw [hheap]
    simp
theorem door_met (os : Os) (args : Array Value) : laidMetH Tryd.prog laidL ((World.doorLaid Tryd.prog 400 os).forCall (fun _ _ => 0) ⟨#[], args, []⟩).memory :=
  laidMetH_of_parts3 (fuel := 8) (laidMet_of_run' 8 (by kernel_rfl) (by kernel_rfl)) (by kernel_rfl) (by kernel_rfl)
end Rg
end Go.Proofs.YtfnmahjdkmgdkaaDoor
end
