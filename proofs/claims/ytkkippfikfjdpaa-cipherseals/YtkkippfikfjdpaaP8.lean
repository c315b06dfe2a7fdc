/- Texts of the proof, joined. -/
import Derived.Test.YtkkippfikfjdpaaP7
section
namespace Go.Proofs.Ytkkippfikfjdpaa
open Go.RowKit
namespace Rg
set_option maxRecDepth 100000
section
variable {ρ : Operand → Value} {o : Oper} {x y : Operand} {m : Nat} {w : World}
theorem ex_mkB (hn : m ≤ 2097152) (ho : o.op = .makeSlice 22 x y) (hx : ρ x = .int .i64 ((m : Nat) : Int)) (hy : ρ y = .int .i64 ((m : Nat) : Int)) : (execOp ρ o).run Try.prog w = .ok (.value (.slice (some ⟨w.heap.size, 0, none⟩) m m)) (w.alloc (.cells (ints .u8 (fun _ => 0) m).toArray 5)) := by
  have hmk := run_make_row' (P := Try.prog) 22 5 (.int .u8 0) 1 (by kernel_rfl) (by kernel_rfl) rfl .i64 .i64 m (by omega) (by omega) w
  rw [show madeCells #[.int .u8 0] m = (ints .u8 (fun _ => 0) m).toArray by
    apply Array.toList_inj.1
    rw [toList_madeCells_one]
    simp [ints, List.map_const']] at hmk
  simp only [execOp, ho, hx, hy, Sem.run_bind, hmk, Result.andThen_ok, Sem.run_pure]
end
/-- A slice that is not nil. -/
def pa (g o n c : Nat) (f : Nat → Nat) : Pt8 := ⟨g, o, n, c, some ⟨g, o, none⟩, f⟩
theorem pa_ok (g o : Nat) {n c : Nat} (f : Nat → Nat) (h : n ≤ c) : Pok (pa g o n c f) := ⟨Bv.start _ _ _ _, h⟩
theorem szr_256 {K N : Nat → Nat} {c : Nat} {P F : Nat → Nat} {t : Nat} (hF : ∀ j, F j < 256) (j : Nat) : szr K N c P F t j < 256 := by
  unfold szr
  split
  · exact Nat.mod_lt _ (by decide)
  · exact hF j
theorem szr_lt (K N : Nat → Nat) (c : Nat) (P F : Nat → Nat) (t j : Nat) (h : j < t) : szr K N c P F t j = so K N c P j := if_pos h
theorem mt_cg {K N M S S' : Nat → Nat} {m n : Nat} (h : ∀ j, j < n → S j = S' j) : mt K N M m S n = mt K N M m S' n := by
  unfold mt sgn fl16
  rw [show kz S n = kz S' n by
    funext j
    unfold kz
    by_cases e : j < n
    · rw [if_pos e, if_pos e, h j e]
    · rw [if_neg e, if_neg e]]
theorem call27 : ∀ args w, (callFunc 27 args).run Try.prog w = .ok (.enter 27 args) w := by intro args w; go_simp
theorem call32 : ∀ args w, (callFunc 32 args).run Try.prog w = .ok (.enter 32 args) w := by intro args w; go_simp
set_option maxRecDepth 100000 in
theorem fit_yes (p1 p2 : Option Addr) (k n c1 c2 : Nat) (hk : k = 32) (hn : n = 12) (w : World) :
    Calls Try.prog 27 #[.slice p1 k c1, .slice p2 n c2] w fun e w' => e = .returned (.bool true) ∧ Below w.heap.size w w' := by
  have H0 : Hid (_ ∧ _) := ⟨Mm.nil w, Below.refl w.heap.size w⟩
  go_enter Try.func27, Try.ntmps27
  refine wp_seq ?_
  refine walk_seqB 1 [.quiet (.bool false)] H0 ?ho1 ?he1
  case ho1 => exact ak (fun _ => ⟨rfl, fun _ _ => rfl⟩) trivial
  intro _ w1 H1
  refine rest0 rfl (then_normal (wp_seq ?_))
  refine walk_seqB 9 [.quiet (.slice p1 k c1), .quiet (.int .i64 ((k : Nat) : Int)), .quiet (.bool true), .quiet (.bool true), .quiet (.slice p2 n c2), .quiet (.int .i64 ((n : Nat) : Int)), .quiet (.bool true), .quiet (.bool true), .quiet (.bool true)] H1 ?ho2 ?he2
  case ho2 => exact ak (fun _ => ⟨rfl, fun _ _ => rfl⟩) (ak (by refine fun γ => ⟨rfl, fun w' h => ?_⟩; clear h; go_simp) (ak (by refine fun γ => ⟨rfl, fun w' h => ?_⟩; clear h; go_simp <;> omega) (ak (fun _ => ⟨rfl, fun _ _ => rfl⟩) (ak (fun _ => ⟨rfl, fun _ _ => rfl⟩) (ak (by refine fun γ => ⟨rfl, fun w' h => ?_⟩; clear h; go_simp) (ak (by refine fun γ => ⟨rfl, fun w' h => ?_⟩; clear h; go_simp <;> omega) (ak (by refine fun γ => ⟨rfl, fun w' h => ?_⟩; clear h; go_simp) (ak (fun _ => ⟨rfl, fun _ _ => rfl⟩) trivial))))))))
  intro _ w2 H2
  clear H1
  refine rest0 rfl (then_normal (wp_ret ?_))
  repeat (first | refine then_ret ?_ | refine block_ret ?_)
  refine bodyPost_ret (v := .bool true) (by simp [results, Try.results27, go_sem, *]) rfl ?_
  exact ⟨rfl, H2.out.2⟩
set_option maxRecDepth 100000 in
theorem fit_key (p1 p2 : Option Addr) (k n c1 c2 : Nat) (hk : k ≠ 32) (w : World) :
    Calls Try.prog 27 #[.slice p1 k c1, .slice p2 n c2] w fun e w' => e = .returned (.bool false) ∧ Below w.heap.size w w' := by
  have H0 : Hid (_ ∧ _) := ⟨Mm.nil w, Below.refl w.heap.size w⟩
  go_enter Try.func27, Try.ntmps27
  refine wp_seq ?_
  refine walk_seqB 1 [.quiet (.bool false)] H0 ?ho1 ?he1
  case ho1 => exact ak (fun _ => ⟨rfl, fun _ _ => rfl⟩) trivial
  intro _ w1 H1
  refine rest0 rfl (then_normal (wp_seq ?_))
  refine walk_seqB 9 [.quiet (.slice p1 k c1), .quiet (.int .i64 ((k : Nat) : Int)), .quiet (.bool false), .quiet (.bool false), .gone, .gone, .gone, .quiet (.bool false), .quiet (.bool false)] H1 ?ho2 ?he2
  case ho2 => exact ak (fun _ => ⟨rfl, fun _ _ => rfl⟩) (ak (by refine fun γ => ⟨rfl, fun w' h => ?_⟩; clear h; go_simp) (ak (by refine fun γ => ⟨rfl, fun w' h => ?_⟩; clear h; go_simp <;> omega) (ak (fun _ => ⟨rfl, fun _ _ => rfl⟩) (ak (fun γ => rfl) (ak (fun γ => rfl) (ak (fun γ => rfl) (ak (by refine fun γ => ⟨rfl, fun w' h => ?_⟩; clear h; go_simp) (ak (fun _ => ⟨rfl, fun _ _ => rfl⟩) trivial))))))))
  intro _ w2 H2
  clear H1
  refine rest0 rfl (then_normal (wp_ret ?_))
  repeat (first | refine then_ret ?_ | refine block_ret ?_)
  refine bodyPost_ret (v := .bool false) (by simp [results, Try.results27, go_sem, *]) rfl ?_
  exact ⟨rfl, H2.out.2⟩
set_option maxRecDepth 100000 in
theorem fit_non (p1 p2 : Option Addr) (k n c1 c2 : Nat) (hk : k = 32) (hn : n ≠ 12) (w : World) :
    Calls Try.prog 27 #[.slice p1 k c1, .slice p2 n c2] w fun e w' => e = .returned (.bool false) ∧ Below w.heap.size w w' := by
  have H0 : Hid (_ ∧ _) := ⟨Mm.nil w, Below.refl w.heap.size w⟩
  go_enter Try.func27, Try.ntmps27
  refine wp_seq ?_
  refine walk_seqB 1 [.quiet (.bool false)] H0 ?ho1 ?he1
  case ho1 => exact ak (fun _ => ⟨rfl, fun _ _ => rfl⟩) trivial
  intro _ w1 H1
  refine rest0 rfl (then_normal (wp_seq ?_))
  refine walk_seqB 9 [.quiet (.slice p1 k c1), .quiet (.int .i64 ((k : Nat) : Int)), .quiet (.bool true), .quiet (.bool true), .quiet (.slice p2 n c2), .quiet (.int .i64 ((n : Nat) : Int)), .quiet (.bool false), .quiet (.bool false), .quiet (.bool false)] H1 ?ho2 ?he2
  case ho2 => exact ak (fun _ => ⟨rfl, fun _ _ => rfl⟩) (ak (by refine fun γ => ⟨rfl, fun w' h => ?_⟩; clear h; go_simp) (ak (by refine fun γ => ⟨rfl, fun w' h => ?_⟩; clear h; go_simp <;> omega) (ak (fun _ => ⟨rfl, fun _ _ => rfl⟩) (ak (fun _ => ⟨rfl, fun _ _ => rfl⟩) (ak (by refine fun γ => ⟨rfl, fun w' h => ?_⟩; clear h; go_simp) (ak (by refine fun γ => ⟨rfl, fun w' h => ?_⟩; clear h; go_simp <;> omega) (ak (by refine fun γ => ⟨rfl, fun w' h => ?_⟩; clear h; go_simp) (ak (fun _ => ⟨rfl, fun _ _ => rfl⟩) trivial))))))))
  intro _ w2 H2
  clear H1
  refine rest0 rfl (then_normal (wp_ret ?_))
  repeat (first | refine then_ret ?_ | refine block_ret ?_)
  refine bodyPost_ret (v := .bool false) (by simp [results, Try.results27, go_sem, *]) rfl ?_
  exact ⟨rfl, H2.out.2⟩
theorem fit_no (p1 p2 : Option Addr) (k n c1 c2 : Nat) (h : k ≠ 32 ∨ n ≠ 12) (w : World) : Calls Try.prog 27 #[.slice p1 k c1, .slice p2 n c2] w fun e w' => e = .returned (.bool false) ∧ Below w.heap.size w w' := by
  by_cases hk : k = 32
  · exact fit_non p1 p2 k n c1 c2 hk (by omega) w
  · exact fit_key p1 p2 k n c1 c2 hk w
set_option maxRecDepth 100000 in
theorem PSeal_err (p1 p2 : Option Addr) (k n c1 c2 : Nat) (v3 v4 : Value) (hE : k ≠ 32 ∨ n ≠ 12) (w : World) :
    Calls Try.prog 18 #[.slice p1 k c1, .slice p2 n c2, v3, v4] w fun e w' => e = .returned (.tuple #[.slice none 0 0, .int .i64 2]) ∧ Below w.heap.size w w' := by
  have H0 : Hid (_ ∧ _) := ⟨Mm.nil w, Below.refl w.heap.size w⟩
  go_enter Try.func18, Try.ntmps18
  refine wp_seq ?_
  refine walk_seqB 2 [.quiet (.slice none 0 0), .quiet (.int .i64 0)] H0 ?ho1 ?he1
  case ho1 => exact ak (fun _ => ⟨rfl, fun _ _ => rfl⟩) (ak (fun _ => ⟨rfl, fun _ _ => rfl⟩) trivial)
  intro _ w1 H1
  refine rest0 rfl (then_normal (wp_seq (wp_seq ?_)))
  refine walk_seqB 4 [.quiet (.slice p1 k c1), .quiet (.slice p2 n c2), .call (.bool false), .quiet (.bool true)] H1 ?ho2 ?he2
  case ho2 => exact ak (fun _ => ⟨rfl, fun _ _ => rfl⟩) (ak (fun _ => ⟨rfl, fun _ _ => rfl⟩) (ak (fun γ => ⟨rfl, fun w' h => ⟨27, #[.slice p1 k c1, .slice p2 n c2], exec_call rfl call27 rfl (mpn rfl), fit_no p1 p2 k n c1 c2 hE w'⟩⟩) (ak (by refine fun γ => ⟨rfl, fun w' h => ?_⟩; clear h; go_simp) trivial)))
  intro _ w2 H2
  clear H1
  refine rest0 rfl (then_normal (wp_cond_true rfl (wp_seq ?_)))
  refine walk_seqB 2 [.quiet (.slice none 0 0), .quiet (.int .i64 2)] H2 ?ho3 ?he3
  case ho3 => exact ak (fun _ => ⟨rfl, fun _ _ => rfl⟩) (ak (fun _ => ⟨rfl, fun _ _ => rfl⟩) trivial)
  intro _ w3 H3
  clear H2
  refine rest0 rfl (then_normal (wp_ret ?_))
  repeat (first | refine then_ret ?_ | refine block_ret ?_)
  refine bodyPost_ret (v := .tuple #[.slice none 0 0, .int .i64 2]) (by simp [results, Try.results18, go_sem, *]) rfl ?_
  exact ⟨rfl, H3.out.2⟩
set_option maxRecDepth 100000 in
theorem POpen_err (p1 p2 : Option Addr) (k n c1 c2 : Nat) (v3 v4 : Value) (hE : k ≠ 32 ∨ n ≠ 12) (w : World) :
    Calls Try.prog 20 #[.slice p1 k c1, .slice p2 n c2, v3, v4] w fun e w' => e = .returned (.tuple #[.slice none 0 0, .int .i64 2]) ∧ Below w.heap.size w w' := by
  have H0 : Hid (_ ∧ _) := ⟨Mm.nil w, Below.refl w.heap.size w⟩
  go_enter Try.func20, Try.ntmps20
  refine wp_seq ?_
  refine walk_seqB 2 [.quiet (.slice none 0 0), .quiet (.int .i64 0)] H0 ?ho1 ?he1
  case ho1 => exact ak (fun _ => ⟨rfl, fun _ _ => rfl⟩) (ak (fun _ => ⟨rfl, fun _ _ => rfl⟩) trivial)
  intro _ w1 H1
  refine rest0 rfl (then_normal (wp_seq (wp_seq ?_)))
  refine walk_seqB 4 [.quiet (.slice p1 k c1), .quiet (.slice p2 n c2), .call (.bool false), .quiet (.bool true)] H1 ?ho2 ?he2
  case ho2 => exact ak (fun _ => ⟨rfl, fun _ _ => rfl⟩) (ak (fun _ => ⟨rfl, fun _ _ => rfl⟩) (ak (fun γ => ⟨rfl, fun w' h => ⟨27, #[.slice p1 k c1, .slice p2 n c2], exec_call rfl call27 rfl (mpn rfl), fit_no p1 p2 k n c1 c2 hE w'⟩⟩) (ak (by refine fun γ => ⟨rfl, fun w' h => ?_⟩; clear h; go_simp) trivial)))
  intro _ w2 H2
  clear H1
  refine rest0 rfl (then_normal (wp_cond_true rfl (wp_seq ?_)))
  refine walk_seqB 2 [.quiet (.slice none 0 0), .quiet (.int .i64 2)] H2 ?ho3 ?he3
  case ho3 => exact ak (fun _ => ⟨rfl, fun _ _ => rfl⟩) (ak (fun _ => ⟨rfl, fun _ _ => rfl⟩) trivial)
  intro _ w3 H3
  clear H2
  refine rest0 rfl (then_normal (wp_ret ?_))
  repeat (first | refine then_ret ?_ | refine block_ret ?_)
  refine bodyPost_ret (v := .tuple #[.slice none 0 0, .int .i64 2]) (by simp [results, Try.results20, go_sem, *]) rfl ?_
  exact ⟨rfl, H3.out.2⟩
set_option maxRecDepth 100000 in
theorem PSeal_longA (p1 p2 : Option Addr) (c1 c2 : Nat) (q : Pt8) (v4 : Value) (hl : 1048576 < q.n) (w : World) :
    Calls Try.prog 18 #[.slice p1 32 c1, .slice p2 12 c2, .slice q.p q.n q.cp, v4] w fun e w' => e = .returned (.tuple #[.slice none 0 0, .int .i64 3]) ∧ Below w.heap.size w w' := by
  have H0 : Hid (_ ∧ _) := ⟨Mm.nil w, Below.refl w.heap.size w⟩
  go_enter Try.func18, Try.ntmps18
  refine wp_seq ?_
  refine walk_seqB 2 [.quiet (.slice none 0 0), .quiet (.int .i64 0)] H0 ?ho1 ?he1
  case ho1 => exact ak (fun _ => ⟨rfl, fun _ _ => rfl⟩) (ak (fun _ => ⟨rfl, fun _ _ => rfl⟩) trivial)
  intro _ w1 H1
  refine rest0 rfl (then_normal (wp_seq (wp_seq ?_)))
  refine walk_seqB 4 [.quiet (.slice p1 32 c1), .quiet (.slice p2 12 c2), .call (.bool true), .quiet (.bool false)] H1 ?ho2 ?he2
  case ho2 => exact ak (fun _ => ⟨rfl, fun _ _ => rfl⟩) (ak (fun _ => ⟨rfl, fun _ _ => rfl⟩) (ak (fun γ => ⟨rfl, fun w' h => ⟨27, #[.slice p1 32 c1, .slice p2 12 c2], exec_call rfl call27 rfl (mpn rfl), fit_yes _ _ 32 12 _ _ rfl rfl w'⟩⟩) (ak (by refine fun γ => ⟨rfl, fun w' h => ?_⟩; clear h; go_simp) trivial)))
  intro _ w2 H2
  clear H1
  refine rest0 rfl (then_normal (wp_cond_false rfl ?_))
  refine wp_skip (then_normal ?_)
  refine wp_seq (wp_seq ?_)
  refine walk_seqB 8 [.quiet (.slice q.p q.n q.cp), .quiet (.int .i64 ((q.n : Nat) : Int)), .quiet (.bool true), .quiet (.bool true), .gone, .gone, .gone, .quiet (.bool true)] H2 ?ho3 ?he3
  case ho3 => exact ak (fun _ => ⟨rfl, fun _ _ => rfl⟩) (ak (by refine fun γ => ⟨rfl, fun w' h => ?_⟩; clear h; go_simp) (ak (by refine fun γ => ⟨rfl, fun w' h => ?_⟩; clear h; go_simp <;> omega) (ak (fun _ => ⟨rfl, fun _ _ => rfl⟩) (ak (fun γ => rfl) (ak (fun γ => rfl) (ak (fun γ => rfl) (ak (by refine fun γ => ⟨rfl, fun w' h => ?_⟩; clear h; go_simp) trivial)))))))
  intro _ w3 H3
  clear H2
  refine rest0 rfl (then_normal (wp_cond_true rfl (wp_seq ?_)))
  refine walk_seqB 2 [.quiet (.slice none 0 0), .quiet (.int .i64 3)] H3 ?ho4 ?he4
  case ho4 => exact ak (fun _ => ⟨rfl, fun _ _ => rfl⟩) (ak (fun _ => ⟨rfl, fun _ _ => rfl⟩) trivial)
  intro _ w4 H4
  clear H3
  refine rest0 rfl (then_normal (wp_ret ?_))
  repeat (first | refine then_ret ?_ | refine block_ret ?_)
  refine bodyPost_ret (v := .tuple #[.slice none 0 0, .int .i64 3]) (by simp [results, Try.results18, go_sem, *]) rfl ?_
  exact ⟨rfl, H4.out.2⟩
set_option maxRecDepth 100000 in
theorem PSeal_longB (p1 p2 : Option Addr) (c1 c2 : Nat) (q mo : Pt8) (hl : q.n ≤ 1048576) (hm : 1048576 < mo.n) (w : World) :
    Calls Try.prog 18 #[.slice p1 32 c1, .slice p2 12 c2, .slice q.p q.n q.cp, .slice mo.p mo.n mo.cp] w fun e w' => e = .returned (.tuple #[.slice none 0 0, .int .i64 3]) ∧ Below w.heap.size w w' := by
  have H0 : Hid (_ ∧ _) := ⟨Mm.nil w, Below.refl w.heap.size w⟩
  go_enter Try.func18, Try.ntmps18
  refine wp_seq ?_
  refine walk_seqB 2 [.quiet (.slice none 0 0), .quiet (.int .i64 0)] H0 ?ho1 ?he1
  case ho1 => exact ak (fun _ => ⟨rfl, fun _ _ => rfl⟩) (ak (fun _ => ⟨rfl, fun _ _ => rfl⟩) trivial)
  intro _ w1 H1
  refine rest0 rfl (then_normal (wp_seq (wp_seq ?_)))
  refine walk_seqB 4 [.quiet (.slice p1 32 c1), .quiet (.slice p2 12 c2), .call (.bool true), .quiet (.bool false)] H1 ?ho2 ?he2
  case ho2 => exact ak (fun _ => ⟨rfl, fun _ _ => rfl⟩) (ak (fun _ => ⟨rfl, fun _ _ => rfl⟩) (ak (fun γ => ⟨rfl, fun w' h => ⟨27, #[.slice p1 32 c1, .slice p2 12 c2], exec_call rfl call27 rfl (mpn rfl), fit_yes _ _ 32 12 _ _ rfl rfl w'⟩⟩) (ak (by refine fun γ => ⟨rfl, fun w' h => ?_⟩; clear h; go_simp) trivial)))
  intro _ w2 H2
  clear H1
  refine rest0 rfl (then_normal (wp_cond_false rfl ?_))
  refine wp_skip (then_normal ?_)
  refine wp_seq (wp_seq ?_)
  refine walk_seqB 8 [.quiet (.slice q.p q.n q.cp), .quiet (.int .i64 ((q.n : Nat) : Int)), .quiet (.bool false), .quiet (.bool false), .quiet (.slice mo.p mo.n mo.cp), .quiet (.int .i64 ((mo.n : Nat) : Int)), .quiet (.bool true), .quiet (.bool true)] H2 ?ho3 ?he3
  case ho3 => exact ak (fun _ => ⟨rfl, fun _ _ => rfl⟩) (ak (by refine fun γ => ⟨rfl, fun w' h => ?_⟩; clear h; go_simp) (ak (by refine fun γ => ⟨rfl, fun w' h => ?_⟩; clear h; go_simp <;> omega) (ak (fun _ => ⟨rfl, fun _ _ => rfl⟩) (ak (fun _ => ⟨rfl, fun _ _ => rfl⟩) (ak (by refine fun γ => ⟨rfl, fun w' h => ?_⟩; clear h; go_simp) (ak (by refine fun γ => ⟨rfl, fun w' h => ?_⟩; clear h; go_simp <;> omega) (ak (by refine fun γ => ⟨rfl, fun w' h => ?_⟩; clear h; go_simp) trivial)))))))
  intro _ w3 H3
  clear H2
  refine rest0 rfl (then_normal (wp_cond_true rfl (wp_seq ?_)))
  refine walk_seqB 2 [.quiet (.slice none 0 0), .quiet (.int .i64 3)] H3 ?ho4 ?he4
  case ho4 => exact ak (fun _ => ⟨rfl, fun _ _ => rfl⟩) (ak (fun _ => ⟨rfl, fun _ _ => rfl⟩) trivial)
  intro _ w4 H4
  clear H3
  refine rest0 rfl (then_normal (wp_ret ?_))
  repeat (first | refine then_ret ?_ | refine block_ret ?_)
  refine bodyPost_ret (v := .tuple #[.slice none 0 0, .int .i64 3]) (by simp [results, Try.results18, go_sem, *]) rfl ?_
  exact ⟨rfl, H4.out.2⟩
set_option maxRecDepth 100000 in
theorem POpen_longA (p1 p2 : Option Addr) (c1 c2 : Nat) (q : Pt8) (v4 : Value) (hl : 1048592 < q.n) (w : World) :
    Calls Try.prog 20 #[.slice p1 32 c1, .slice p2 12 c2, .slice q.p q.n q.cp, v4] w fun e w' => e = .returned (.tuple #[.slice none 0 0, .int .i64 3]) ∧ Below w.heap.size w w' := by
  have H0 : Hid (_ ∧ _) := ⟨Mm.nil w, Below.refl w.heap.size w⟩
  go_enter Try.func20, Try.ntmps20
  refine wp_seq ?_
  refine walk_seqB 2 [.quiet (.slice none 0 0), .quiet (.int .i64 0)] H0 ?ho1 ?he1
  case ho1 => exact ak (fun _ => ⟨rfl, fun _ _ => rfl⟩) (ak (fun _ => ⟨rfl, fun _ _ => rfl⟩) trivial)
  intro _ w1 H1
  refine rest0 rfl (then_normal (wp_seq (wp_seq ?_)))
  refine walk_seqB 4 [.quiet (.slice p1 32 c1), .quiet (.slice p2 12 c2), .call (.bool true), .quiet (.bool false)] H1 ?ho2 ?he2
  case ho2 => exact ak (fun _ => ⟨rfl, fun _ _ => rfl⟩) (ak (fun _ => ⟨rfl, fun _ _ => rfl⟩) (ak (fun γ => ⟨rfl, fun w' h => ⟨27, #[.slice p1 32 c1, .slice p2 12 c2], exec_call rfl call27 rfl (mpn rfl), fit_yes _ _ 32 12 _ _ rfl rfl w'⟩⟩) (ak (by refine fun γ => ⟨rfl, fun w' h => ?_⟩; clear h; go_simp) trivial)))
  intro _ w2 H2
  clear H1
  refine rest0 rfl (then_normal (wp_cond_false rfl ?_))
  refine wp_skip (then_normal ?_)
  refine wp_seq (wp_seq ?_)
  refine walk_seqB 8 [.quiet (.slice q.p q.n q.cp), .quiet (.int .i64 ((q.n : Nat) : Int)), .quiet (.bool true), .quiet (.bool true), .gone, .gone, .gone, .quiet (.bool true)] H2 ?ho3 ?he3
  case ho3 => exact ak (fun _ => ⟨rfl, fun _ _ => rfl⟩) (ak (by refine fun γ => ⟨rfl, fun w' h => ?_⟩; clear h; go_simp) (ak (by refine fun γ => ⟨rfl, fun w' h => ?_⟩; clear h; go_simp <;> omega) (ak (fun _ => ⟨rfl, fun _ _ => rfl⟩) (ak (fun γ => rfl) (ak (fun γ => rfl) (ak (fun γ => rfl) (ak (by refine fun γ => ⟨rfl, fun w' h => ?_⟩; clear h; go_simp) trivial)))))))
  intro _ w3 H3
  clear H2
  refine rest0 rfl (then_normal (wp_cond_true rfl (wp_seq ?_)))
  refine walk_seqB 2 [.quiet (.slice none 0 0), .quiet (.int .i64 3)] H3 ?ho4 ?he4
  case ho4 => exact ak (fun _ => ⟨rfl, fun _ _ => rfl⟩) (ak (fun _ => ⟨rfl, fun _ _ => rfl⟩) trivial)
  intro _ w4 H4
  clear H3
  refine rest0 rfl (then_normal (wp_ret ?_))
  repeat (first | refine then_ret ?_ | refine block_ret ?_)
  refine bodyPost_ret (v := .tuple #[.slice none 0 0, .int .i64 3]) (by simp [results, Try.results20, go_sem, *]) rfl ?_
  exact ⟨rfl, H4.out.2⟩
set_option maxRecDepth 100000 in
theorem POpen_longB (p1 p2 : Option Addr) (c1 c2 : Nat) (q mo : Pt8) (hl : q.n ≤ 1048592) (hm : 1048576 < mo.n) (w : World) :
    Calls Try.prog 20 #[.slice p1 32 c1, .slice p2 12 c2, .slice q.p q.n q.cp, .slice mo.p mo.n mo.cp] w fun e w' => e = .returned (.tuple #[.slice none 0 0, .int .i64 3]) ∧ Below w.heap.size w w' := by
  have H0 : Hid (_ ∧ _) := ⟨Mm.nil w, Below.refl w.heap.size w⟩
  go_enter Try.func20, Try.ntmps20
  refine wp_seq ?_
  refine walk_seqB 2 [.quiet (.slice none 0 0), .quiet (.int .i64 0)] H0 ?ho1 ?he1
  case ho1 => exact ak (fun _ => ⟨rfl, fun _ _ => rfl⟩) (ak (fun _ => ⟨rfl, fun _ _ => rfl⟩) trivial)
  intro _ w1 H1
  refine rest0 rfl (then_normal (wp_seq (wp_seq ?_)))
  refine walk_seqB 4 [.quiet (.slice p1 32 c1), .quiet (.slice p2 12 c2), .call (.bool true), .quiet (.bool false)] H1 ?ho2 ?he2
  case ho2 => exact ak (fun _ => ⟨rfl, fun _ _ => rfl⟩) (ak (fun _ => ⟨rfl, fun _ _ => rfl⟩) (ak (fun γ => ⟨rfl, fun w' h => ⟨27, #[.slice p1 32 c1, .slice p2 12 c2], exec_call rfl call27 rfl (mpn rfl), fit_yes _ _ 32 12 _ _ rfl rfl w'⟩⟩) (ak (by refine fun γ => ⟨rfl, fun w' h => ?_⟩; clear h; go_simp) trivial)))
  intro _ w2 H2
  clear H1
  refine rest0 rfl (then_normal (wp_cond_false rfl ?_))
  refine wp_skip (then_normal ?_)
  refine wp_seq (wp_seq ?_)
  refine walk_seqB 8 [.quiet (.slice q.p q.n q.cp), .quiet (.int .i64 ((q.n : Nat) : Int)), .quiet (.bool false), .quiet (.bool false), .quiet (.slice mo.p mo.n mo.cp), .quiet (.int .i64 ((mo.n : Nat) : Int)), .quiet (.bool true), .quiet (.bool true)] H2 ?ho3 ?he3
  case ho3 => exact ak (fun _ => ⟨rfl, fun _ _ => rfl⟩) (ak (by refine fun γ => ⟨rfl, fun w' h => ?_⟩; clear h; go_simp) (ak (by refine fun γ => ⟨rfl, fun w' h => ?_⟩; clear h; go_simp <;> omega) (ak (fun _ => ⟨rfl, fun _ _ => rfl⟩) (ak (fun _ => ⟨rfl, fun _ _ => rfl⟩) (ak (by refine fun γ => ⟨rfl, fun w' h => ?_⟩; clear h; go_simp) (ak (by refine fun γ => ⟨rfl, fun w' h => ?_⟩; clear h; go_simp <;> omega) (ak (by refine fun γ => ⟨rfl, fun w' h => ?_⟩; clear h; go_simp) trivial)))))))
  intro _ w3 H3
  clear H2
  refine rest0 rfl (then_normal (wp_cond_true rfl (wp_seq ?_)))
  refine walk_seqB 2 [.quiet (.slice none 0 0), .quiet (.int .i64 3)] H3 ?ho4 ?he4
  case ho4 => exact ak (fun _ => ⟨rfl, fun _ _ => rfl⟩) (ak (fun _ => ⟨rfl, fun _ _ => rfl⟩) trivial)
  intro _ w4 H4
  clear H3
  refine rest0 rfl (then_normal (wp_ret ?_))
  repeat (first | refine then_ret ?_ | refine block_ret ?_)
  refine bodyPost_ret (v := .tuple #[.slice none 0 0, .int .i64 3]) (by simp [results, Try.results20, go_sem, *]) rfl ?_
  exact ⟨rfl, H4.out.2⟩
set_option maxRecDepth 100000 in
theorem POpen_short (p1 p2 : Option Addr) (c1 c2 : Nat) (q mo : Pt8) (hl : q.n < 16) (hm : mo.n ≤ 1048576) (w : World) :
    Calls Try.prog 20 #[.slice p1 32 c1, .slice p2 12 c2, .slice q.p q.n q.cp, .slice mo.p mo.n mo.cp] w fun e w' => e = .returned (.tuple #[.slice none 0 0, .int .i64 200]) ∧ Below w.heap.size w w' := by
  have H0 : Hid (_ ∧ _) := ⟨Mm.nil w, Below.refl w.heap.size w⟩
  go_enter Try.func20, Try.ntmps20
  refine wp_seq ?_
  refine walk_seqB 2 [.quiet (.slice none 0 0), .quiet (.int .i64 0)] H0 ?ho1 ?he1
  case ho1 => exact ak (fun _ => ⟨rfl, fun _ _ => rfl⟩) (ak (fun _ => ⟨rfl, fun _ _ => rfl⟩) trivial)
  intro _ w1 H1
  refine rest0 rfl (then_normal (wp_seq (wp_seq ?_)))
  refine walk_seqB 4 [.quiet (.slice p1 32 c1), .quiet (.slice p2 12 c2), .call (.bool true), .quiet (.bool false)] H1 ?ho2 ?he2
  case ho2 => exact ak (fun _ => ⟨rfl, fun _ _ => rfl⟩) (ak (fun _ => ⟨rfl, fun _ _ => rfl⟩) (ak (fun γ => ⟨rfl, fun w' h => ⟨27, #[.slice p1 32 c1, .slice p2 12 c2], exec_call rfl call27 rfl (mpn rfl), fit_yes _ _ 32 12 _ _ rfl rfl w'⟩⟩) (ak (by refine fun γ => ⟨rfl, fun w' h => ?_⟩; clear h; go_simp) trivial)))
  intro _ w2 H2
  clear H1
  refine rest0 rfl (then_normal (wp_cond_false rfl ?_))
  refine wp_skip (then_normal ?_)
  refine wp_seq (wp_seq ?_)
  refine walk_seqB 8 [.quiet (.slice q.p q.n q.cp), .quiet (.int .i64 ((q.n : Nat) : Int)), .quiet (.bool false), .quiet (.bool false), .quiet (.slice mo.p mo.n mo.cp), .quiet (.int .i64 ((mo.n : Nat) : Int)), .quiet (.bool false), .quiet (.bool false)] H2 ?ho3 ?he3
  case ho3 => exact ak (fun _ => ⟨rfl, fun _ _ => rfl⟩) (ak (by refine fun γ => ⟨rfl, fun w' h => ?_⟩; clear h; go_simp) (ak (by refine fun γ => ⟨rfl, fun w' h => ?_⟩; clear h; go_simp <;> omega) (ak (fun _ => ⟨rfl, fun _ _ => rfl⟩) (ak (fun _ => ⟨rfl, fun _ _ => rfl⟩) (ak (by refine fun γ => ⟨rfl, fun w' h => ?_⟩; clear h; go_simp) (ak (by refine fun γ => ⟨rfl, fun w' h => ?_⟩; clear h; go_simp <;> omega) (ak (by refine fun γ => ⟨rfl, fun w' h => ?_⟩; clear h; go_simp) trivial)))))))
  intro _ w3 H3
  clear H2
  refine rest0 rfl (then_normal (wp_cond_false rfl ?_))
  refine wp_skip (then_normal ?_)
  refine wp_seq (wp_seq ?_)
  refine walk_seqB 3 [.quiet (.slice q.p q.n q.cp), .quiet (.int .i64 ((q.n : Nat) : Int)), .quiet (.bool true)] H3 ?ho4 ?he4
  case ho4 => exact ak (fun _ => ⟨rfl, fun _ _ => rfl⟩) (ak (by refine fun γ => ⟨rfl, fun w' h => ?_⟩; clear h; go_simp) (ak (by refine fun γ => ⟨rfl, fun w' h => ?_⟩; clear h; go_simp <;> omega) trivial))
  intro _ w4 H4
  clear H3
  refine rest0 rfl (then_normal (wp_cond_true rfl (wp_seq ?_)))
  refine walk_seqB 2 [.quiet (.slice none 0 0), .quiet (.int .i64 200)] H4 ?ho5 ?he5
  case ho5 => exact ak (fun _ => ⟨rfl, fun _ _ => rfl⟩) (ak (fun _ => ⟨rfl, fun _ _ => rfl⟩) trivial)
  intro _ w5 H5
  clear H4
  refine rest0 rfl (then_normal (wp_ret ?_))
  repeat (first | refine then_ret ?_ | refine block_ret ?_)
  refine bodyPost_ret (v := .tuple #[.slice none 0 0, .int .i64 200]) (by simp [results, Try.results20, go_sem, *]) rfl ?_
  exact ⟨rfl, H5.out.2⟩
end Rg
end Go.Proofs.Ytkkippfikfjdpaa
end
section
namespace Go.Proofs.Ytkkippfikfjdpaa
open Go.RowKit
namespace Rg
set_option maxRecDepth 100000
/-- Which error a key's, a nonce's length and a long text call for. -/
def we (k n : Nat) (long : Bool) : Nat := if k ≠ 32 ∨ n ≠ 12 then 2 else if long = true then 3 else 0
theorem we_arg {k n : Nat} (l : Bool) (h : k ≠ 32 ∨ n ≠ 12) : we k n l = 2 := by unfold we; rw [if_pos h]
theorem we_long : we 32 12 true = 3 := rfl
theorem we_ok : we 32 12 false = 0 := rfl
theorem call30 : ∀ args w, (callFunc 30 args).run Try.prog w = .ok (.enter 30 args) w := by intro args w; go_simp
theorem call33 : ∀ args w, (callFunc 33 args).run Try.prog w = .ok (.enter 33 args) w := by intro args w; go_simp
set_option maxRecDepth 100000 in
theorem wrong_key (p1 p2 : Option Addr) (k n c1 c2 : Nat) (l : Bool) (hk : k ≠ 32) (w : World) :
    Calls Try.prog 30 #[.slice p1 k c1, .slice p2 n c2, .bool l] w fun e w' => e = .returned (.int .i64 2) ∧ Below w.heap.size w w' := by
  have H0 : Hid (_ ∧ _) := ⟨Mm.nil w, Below.refl w.heap.size w⟩
  go_enter Try.func30, Try.ntmps30
  refine wp_seq ?_
  refine walk_seqB 1 [.quiet (.int .i64 0)] H0 ?ho1 ?he1
  case ho1 => exact ak (fun _ => ⟨rfl, fun _ _ => rfl⟩) trivial
  intro _ w1 H1
  refine rest0 rfl (then_normal (wp_seq (wp_seq ?_)))
  refine walk_seqB 8 [.quiet (.slice p1 k c1), .quiet (.int .i64 ((k : Nat) : Int)), .quiet (.bool true), .quiet (.bool true), .gone, .gone, .gone, .quiet (.bool true)] H1 ?ho2 ?he2
  case ho2 => exact ak (fun _ => ⟨rfl, fun _ _ => rfl⟩) (ak (by refine fun γ => ⟨rfl, fun w' h => ?_⟩; clear h; go_simp) (ak (by refine fun γ => ⟨rfl, fun w' h => ?_⟩; clear h; go_simp <;> omega) (ak (fun _ => ⟨rfl, fun _ _ => rfl⟩) (ak (fun γ => rfl) (ak (fun γ => rfl) (ak (fun γ => rfl) (ak (by refine fun γ => ⟨rfl, fun w' h => ?_⟩; clear h; go_simp) trivial)))))))
  intro _ w2 H2
  clear H1
  refine rest0 rfl (then_normal (wp_cond_true rfl (wp_seq ?_)))
  refine walk_seqB 1 [.quiet (.int .i64 2)] H2 ?ho3 ?he3
  case ho3 => exact ak (fun _ => ⟨rfl, fun _ _ => rfl⟩) trivial
  intro _ w3 H3
  clear H2
  refine rest0 rfl (then_normal (wp_ret ?_))
  repeat (first | refine then_ret ?_ | refine block_ret ?_)
  refine bodyPost_ret (v := .int .i64 2) (by simp [results, Try.results30, go_sem, *]) rfl ?_
  exact ⟨rfl, H3.out.2⟩
set_option maxRecDepth 100000 in
theorem wrong_non (p1 p2 : Option Addr) (k n c1 c2 : Nat) (l : Bool) (hk : k = 32) (hn : n ≠ 12) (w : World) :
    Calls Try.prog 30 #[.slice p1 k c1, .slice p2 n c2, .bool l] w fun e w' => e = .returned (.int .i64 2) ∧ Below w.heap.size w w' := by
  have H0 : Hid (_ ∧ _) := ⟨Mm.nil w, Below.refl w.heap.size w⟩
  go_enter Try.func30, Try.ntmps30
  refine wp_seq ?_
  refine walk_seqB 1 [.quiet (.int .i64 0)] H0 ?ho1 ?he1
  case ho1 => exact ak (fun _ => ⟨rfl, fun _ _ => rfl⟩) trivial
  intro _ w1 H1
  refine rest0 rfl (then_normal (wp_seq (wp_seq ?_)))
  refine walk_seqB 8 [.quiet (.slice p1 k c1), .quiet (.int .i64 ((k : Nat) : Int)), .quiet (.bool false), .quiet (.bool false), .quiet (.slice p2 n c2), .quiet (.int .i64 ((n : Nat) : Int)), .quiet (.bool true), .quiet (.bool true)] H1 ?ho2 ?he2
  case ho2 => exact ak (fun _ => ⟨rfl, fun _ _ => rfl⟩) (ak (by refine fun γ => ⟨rfl, fun w' h => ?_⟩; clear h; go_simp) (ak (by refine fun γ => ⟨rfl, fun w' h => ?_⟩; clear h; go_simp <;> omega) (ak (fun _ => ⟨rfl, fun _ _ => rfl⟩) (ak (fun _ => ⟨rfl, fun _ _ => rfl⟩) (ak (by refine fun γ => ⟨rfl, fun w' h => ?_⟩; clear h; go_simp) (ak (by refine fun γ => ⟨rfl, fun w' h => ?_⟩; clear h; go_simp <;> omega) (ak (by refine fun γ => ⟨rfl, fun w' h => ?_⟩; clear h; go_simp) trivial)))))))
  intro _ w2 H2
  clear H1
  refine rest0 rfl (then_normal (wp_cond_true rfl (wp_seq ?_)))
  refine walk_seqB 1 [.quiet (.int .i64 2)] H2 ?ho3 ?he3
  case ho3 => exact ak (fun _ => ⟨rfl, fun _ _ => rfl⟩) trivial
  intro _ w3 H3
  clear H2
  refine rest0 rfl (then_normal (wp_ret ?_))
  repeat (first | refine then_ret ?_ | refine block_ret ?_)
  refine bodyPost_ret (v := .int .i64 2) (by simp [results, Try.results30, go_sem, *]) rfl ?_
  exact ⟨rfl, H3.out.2⟩
set_option maxRecDepth 100000 in
theorem wrong_long (p1 p2 : Option Addr) (k n c1 c2 : Nat) (hk : k = 32) (hn : n = 12) (w : World) :
    Calls Try.prog 30 #[.slice p1 k c1, .slice p2 n c2, .bool true] w fun e w' => e = .returned (.int .i64 3) ∧ Below w.heap.size w w' := by
  have H0 : Hid (_ ∧ _) := ⟨Mm.nil w, Below.refl w.heap.size w⟩
  go_enter Try.func30, Try.ntmps30
  refine wp_seq ?_
  refine walk_seqB 1 [.quiet (.int .i64 0)] H0 ?ho1 ?he1
  case ho1 => exact ak (fun _ => ⟨rfl, fun _ _ => rfl⟩) trivial
  intro _ w1 H1
  refine rest0 rfl (then_normal (wp_seq (wp_seq ?_)))
  refine walk_seqB 8 [.quiet (.slice p1 k c1), .quiet (.int .i64 ((k : Nat) : Int)), .quiet (.bool false), .quiet (.bool false), .quiet (.slice p2 n c2), .quiet (.int .i64 ((n : Nat) : Int)), .quiet (.bool false), .quiet (.bool false)] H1 ?ho2 ?he2
  case ho2 => exact ak (fun _ => ⟨rfl, fun _ _ => rfl⟩) (ak (by refine fun γ => ⟨rfl, fun w' h => ?_⟩; clear h; go_simp) (ak (by refine fun γ => ⟨rfl, fun w' h => ?_⟩; clear h; go_simp <;> omega) (ak (fun _ => ⟨rfl, fun _ _ => rfl⟩) (ak (fun _ => ⟨rfl, fun _ _ => rfl⟩) (ak (by refine fun γ => ⟨rfl, fun w' h => ?_⟩; clear h; go_simp) (ak (by refine fun γ => ⟨rfl, fun w' h => ?_⟩; clear h; go_simp <;> omega) (ak (by refine fun γ => ⟨rfl, fun w' h => ?_⟩; clear h; go_simp) trivial)))))))
  intro _ w2 H2
  clear H1
  refine rest0 rfl (then_normal (wp_cond_false rfl ?_))
  refine wp_skip (then_normal ?_)
  refine wp_seq (wp_seq ?_)
  refine walk_seqB 1 [.quiet (.bool true)] H2 ?ho3 ?he3
  case ho3 => exact ak (fun _ => ⟨rfl, fun _ _ => rfl⟩) trivial
  intro _ w3 H3
  clear H2
  refine rest0 rfl (then_normal (wp_cond_true rfl (wp_seq ?_)))
  refine walk_seqB 1 [.quiet (.int .i64 3)] H3 ?ho4 ?he4
  case ho4 => exact ak (fun _ => ⟨rfl, fun _ _ => rfl⟩) trivial
  intro _ w4 H4
  clear H3
  refine rest0 rfl (then_normal (wp_ret ?_))
  repeat (first | refine then_ret ?_ | refine block_ret ?_)
  refine bodyPost_ret (v := .int .i64 3) (by simp [results, Try.results30, go_sem, *]) rfl ?_
  exact ⟨rfl, H4.out.2⟩
set_option maxRecDepth 100000 in
theorem wrong_ok (p1 p2 : Option Addr) (k n c1 c2 : Nat) (hk : k = 32) (hn : n = 12) (w : World) :
    Calls Try.prog 30 #[.slice p1 k c1, .slice p2 n c2, .bool false] w fun e w' => e = .returned (.int .i64 0) ∧ Below w.heap.size w w' := by
  have H0 : Hid (_ ∧ _) := ⟨Mm.nil w, Below.refl w.heap.size w⟩
  go_enter Try.func30, Try.ntmps30
  refine wp_seq ?_
  refine walk_seqB 1 [.quiet (.int .i64 0)] H0 ?ho1 ?he1
  case ho1 => exact ak (fun _ => ⟨rfl, fun _ _ => rfl⟩) trivial
  intro _ w1 H1
  refine rest0 rfl (then_normal (wp_seq (wp_seq ?_)))
  refine walk_seqB 8 [.quiet (.slice p1 k c1), .quiet (.int .i64 ((k : Nat) : Int)), .quiet (.bool false), .quiet (.bool false), .quiet (.slice p2 n c2), .quiet (.int .i64 ((n : Nat) : Int)), .quiet (.bool false), .quiet (.bool false)] H1 ?ho2 ?he2
  case ho2 => exact ak (fun _ => ⟨rfl, fun _ _ => rfl⟩) (ak (by refine fun γ => ⟨rfl, fun w' h => ?_⟩; clear h; go_simp) (ak (by refine fun γ => ⟨rfl, fun w' h => ?_⟩; clear h; go_simp <;> omega) (ak (fun _ => ⟨rfl, fun _ _ => rfl⟩) (ak (fun _ => ⟨rfl, fun _ _ => rfl⟩) (ak (by refine fun γ => ⟨rfl, fun w' h => ?_⟩; clear h; go_simp) (ak (by refine fun γ => ⟨rfl, fun w' h => ?_⟩; clear h; go_simp <;> omega) (ak (by refine fun γ => ⟨rfl, fun w' h => ?_⟩; clear h; go_simp) trivial)))))))
  intro _ w2 H2
  clear H1
  refine rest0 rfl (then_normal (wp_cond_false rfl ?_))
  refine wp_skip (then_normal ?_)
  refine wp_seq (wp_seq ?_)
  refine walk_seqB 1 [.quiet (.bool false)] H2 ?ho3 ?he3
  case ho3 => exact ak (fun _ => ⟨rfl, fun _ _ => rfl⟩) trivial
  intro _ w3 H3
  clear H2
  refine rest0 rfl (then_normal (wp_cond_false rfl ?_))
  refine wp_skip (then_normal (wp_seq ?_))
  refine walk_seqB 1 [.quiet (.int .i64 0)] H3 ?ho4 ?he4
  case ho4 => exact ak (fun _ => ⟨rfl, fun _ _ => rfl⟩) trivial
  intro _ w4 H4
  clear H3
  refine rest0 rfl (then_normal (wp_ret ?_))
  repeat (first | refine then_ret ?_ | refine block_ret ?_)
  refine bodyPost_ret (v := .int .i64 0) (by simp [results, Try.results30, go_sem, *]) rfl ?_
  exact ⟨rfl, H4.out.2⟩
theorem wrong_any (p1 p2 : Option Addr) (k n c1 c2 : Nat) (l : Bool) (w : World) : Calls Try.prog 30 #[.slice p1 k c1, .slice p2 n c2, .bool l] w fun e w' => e = .returned (.int .i64 ((we k n l : Nat) : Int)) ∧ Below w.heap.size w w' := by
  by_cases hk : k = 32
  · by_cases hn : n = 12
    · cases l with
      | false =>
        have h := wrong_ok p1 p2 k n c1 c2 hk hn w
        rw [show we k n false = 0 by rw [hk, hn]; rfl]
        exact h
      | true =>
        have h := wrong_long p1 p2 k n c1 c2 hk hn w
        rw [show we k n true = 3 by rw [hk, hn]; rfl]
        exact h
    · rw [we_arg l (.inr hn)]
      exact wrong_non p1 p2 k n c1 c2 l hk hn w
  · rw [we_arg l (.inl hk)]
    exact wrong_key p1 p2 k n c1 c2 l hk w
set_option maxRecDepth 100000 in
theorem Seal_errA (p1 p2 : Option Addr) (k n c1 c2 : Nat) (m s cm cs : Nat) (pm ps : Option Addr) (hm : m ≤ 1048576) (hs : s ≤ 1048576) (hE : we k n false ≠ 0) (w : World) :
    Calls Try.prog 19 #[.slice p1 k c1, .slice p2 n c2, .slice pm m cm, .slice ps s cs] w fun e w' => e = .returned (.tuple #[.slice none 0 0, .int .i64 ((we k n false : Nat) : Int)]) ∧ Below w.heap.size w w' := by
  have H0 : Hid (_ ∧ _) := ⟨Mm.nil w, Below.refl w.heap.size w⟩
  go_enter Try.func19, Try.ntmps19
  refine wp_seq ?_
  refine walk_seqB 2 [.quiet (.slice none 0 0), .quiet (.int .i64 0)] H0 ?ho1 ?he1
  case ho1 => exact ak (fun _ => ⟨rfl, fun _ _ => rfl⟩) (ak (fun _ => ⟨rfl, fun _ _ => rfl⟩) trivial)
  intro _ w1 H1
  refine rest0 rfl (then_normal (wp_seq ?_))
  refine walk_seqB 12 [.quiet (.slice p1 k c1), .quiet (.slice p2 n c2), .quiet (.slice pm m cm), .quiet (.int .i64 ((m : Nat) : Int)), .quiet (.bool false), .quiet (.bool false), .quiet (.slice ps s cs), .quiet (.int .i64 ((s : Nat) : Int)), .quiet (.bool false), .quiet (.bool false), .call (.int .i64 ((we k n false : Nat) : Int)), .quiet (.int .i64 ((we k n false : Nat) : Int))] H1 ?ho2 ?he2
  case ho2 => exact ak (fun _ => ⟨rfl, fun _ _ => rfl⟩) (ak (fun _ => ⟨rfl, fun _ _ => rfl⟩) (ak (fun _ => ⟨rfl, fun _ _ => rfl⟩) (ak (by refine fun γ => ⟨rfl, fun w' h => ?_⟩; clear h; go_simp) (ak (by refine fun γ => ⟨rfl, fun w' h => ?_⟩; clear h; go_simp <;> omega) (ak (fun _ => ⟨rfl, fun _ _ => rfl⟩) (ak (fun _ => ⟨rfl, fun _ _ => rfl⟩) (ak (by refine fun γ => ⟨rfl, fun w' h => ?_⟩; clear h; go_simp) (ak (by refine fun γ => ⟨rfl, fun w' h => ?_⟩; clear h; go_simp <;> omega) (ak (by refine fun γ => ⟨rfl, fun w' h => ?_⟩; clear h; go_simp) (ak (fun γ => ⟨rfl, fun w' h => ⟨30, #[.slice p1 k c1, .slice p2 n c2, .bool false], exec_call rfl call30 rfl (mpn rfl), wrong_any p1 p2 k n c1 c2 false w'⟩⟩) (ak (fun _ => ⟨rfl, fun _ _ => rfl⟩) trivial)))))))))))
  intro _ w2 H2
  clear H1
  refine rest0 rfl (then_normal (wp_seq (wp_seq ?_)))
  refine walk_seqB 2 [.quiet (.int .i64 ((we k n false : Nat) : Int)), .quiet (.bool true)] H2 ?ho3 ?he3
  case ho3 => exact ak (fun _ => ⟨rfl, fun _ _ => rfl⟩) (ak (by refine fun γ => ⟨rfl, fun w' h => ?_⟩; clear h; go_simp <;> omega) trivial)
  intro _ w3 H3
  clear H2
  refine rest0 rfl (then_normal (wp_cond_true rfl (wp_seq ?_)))
  refine walk_seqB 3 [.quiet (.int .i64 ((we k n false : Nat) : Int)), .quiet (.slice none 0 0), .quiet (.int .i64 ((we k n false : Nat) : Int))] H3 ?ho4 ?he4
  case ho4 => exact ak (fun _ => ⟨rfl, fun _ _ => rfl⟩) (ak (fun _ => ⟨rfl, fun _ _ => rfl⟩) (ak (fun _ => ⟨rfl, fun _ _ => rfl⟩) trivial))
  intro _ w4 H4
  clear H3
  refine rest0 rfl (then_normal (wp_ret ?_))
  repeat (first | refine then_ret ?_ | refine block_ret ?_)
  refine bodyPost_ret (v := .tuple #[.slice none 0 0, .int .i64 ((we k n false : Nat) : Int)]) (by simp [results, Try.results19, go_sem, *]) rfl ?_
  exact ⟨rfl, H4.out.2⟩
set_option maxRecDepth 100000 in
theorem Seal_errB (p1 p2 : Option Addr) (k n c1 c2 : Nat) (m s cm cs : Nat) (pm ps : Option Addr) (hm : 1048576 < m) (hE : we k n true ≠ 0) (w : World) :
    Calls Try.prog 19 #[.slice p1 k c1, .slice p2 n c2, .slice pm m cm, .slice ps s cs] w fun e w' => e = .returned (.tuple #[.slice none 0 0, .int .i64 ((we k n true : Nat) : Int)]) ∧ Below w.heap.size w w' := by
  have H0 : Hid (_ ∧ _) := ⟨Mm.nil w, Below.refl w.heap.size w⟩
  go_enter Try.func19, Try.ntmps19
  refine wp_seq ?_
  refine walk_seqB 2 [.quiet (.slice none 0 0), .quiet (.int .i64 0)] H0 ?ho1 ?he1
  case ho1 => exact ak (fun _ => ⟨rfl, fun _ _ => rfl⟩) (ak (fun _ => ⟨rfl, fun _ _ => rfl⟩) trivial)
  intro _ w1 H1
  refine rest0 rfl (then_normal (wp_seq ?_))
  refine walk_seqB 12 [.quiet (.slice p1 k c1), .quiet (.slice p2 n c2), .quiet (.slice pm m cm), .quiet (.int .i64 ((m : Nat) : Int)), .quiet (.bool true), .quiet (.bool true), .gone, .gone, .gone, .quiet (.bool true), .call (.int .i64 ((we k n true : Nat) : Int)), .quiet (.int .i64 ((we k n true : Nat) : Int))] H1 ?ho2 ?he2
  case ho2 => exact ak (fun _ => ⟨rfl, fun _ _ => rfl⟩) (ak (fun _ => ⟨rfl, fun _ _ => rfl⟩) (ak (fun _ => ⟨rfl, fun _ _ => rfl⟩) (ak (by refine fun γ => ⟨rfl, fun w' h => ?_⟩; clear h; go_simp) (ak (by refine fun γ => ⟨rfl, fun w' h => ?_⟩; clear h; go_simp <;> omega) (ak (fun _ => ⟨rfl, fun _ _ => rfl⟩) (ak (fun γ => rfl) (ak (fun γ => rfl) (ak (fun γ => rfl) (ak (by refine fun γ => ⟨rfl, fun w' h => ?_⟩; clear h; go_simp) (ak (fun γ => ⟨rfl, fun w' h => ⟨30, #[.slice p1 k c1, .slice p2 n c2, .bool true], exec_call rfl call30 rfl (mpn rfl), wrong_any p1 p2 k n c1 c2 true w'⟩⟩) (ak (fun _ => ⟨rfl, fun _ _ => rfl⟩) trivial)))))))))))
  intro _ w2 H2
  clear H1
  refine rest0 rfl (then_normal (wp_seq (wp_seq ?_)))
  refine walk_seqB 2 [.quiet (.int .i64 ((we k n true : Nat) : Int)), .quiet (.bool true)] H2 ?ho3 ?he3
  case ho3 => exact ak (fun _ => ⟨rfl, fun _ _ => rfl⟩) (ak (by refine fun γ => ⟨rfl, fun w' h => ?_⟩; clear h; go_simp <;> omega) trivial)
  intro _ w3 H3
  clear H2
  refine rest0 rfl (then_normal (wp_cond_true rfl (wp_seq ?_)))
  refine walk_seqB 3 [.quiet (.int .i64 ((we k n true : Nat) : Int)), .quiet (.slice none 0 0), .quiet (.int .i64 ((we k n true : Nat) : Int))] H3 ?ho4 ?he4
  case ho4 => exact ak (fun _ => ⟨rfl, fun _ _ => rfl⟩) (ak (fun _ => ⟨rfl, fun _ _ => rfl⟩) (ak (fun _ => ⟨rfl, fun _ _ => rfl⟩) trivial))
  intro _ w4 H4
  clear H3
  refine rest0 rfl (then_normal (wp_ret ?_))
  repeat (first | refine then_ret ?_ | refine block_ret ?_)
  refine bodyPost_ret (v := .tuple #[.slice none 0 0, .int .i64 ((we k n true : Nat) : Int)]) (by simp [results, Try.results19, go_sem, *]) rfl ?_
  exact ⟨rfl, H4.out.2⟩
set_option maxRecDepth 100000 in
theorem Seal_errC (p1 p2 : Option Addr) (k n c1 c2 : Nat) (m s cm cs : Nat) (pm ps : Option Addr) (hm : m ≤ 1048576) (hs : 1048576 < s) (hE : we k n true ≠ 0) (w : World) :
    Calls Try.prog 19 #[.slice p1 k c1, .slice p2 n c2, .slice pm m cm, .slice ps s cs] w fun e w' => e = .returned (.tuple #[.slice none 0 0, .int .i64 ((we k n true : Nat) : Int)]) ∧ Below w.heap.size w w' := by
  have H0 : Hid (_ ∧ _) := ⟨Mm.nil w, Below.refl w.heap.size w⟩
  go_enter Try.func19, Try.ntmps19
  refine wp_seq ?_
  refine walk_seqB 2 [.quiet (.slice none 0 0), .quiet (.int .i64 0)] H0 ?ho1 ?he1
  case ho1 => exact ak (fun _ => ⟨rfl, fun _ _ => rfl⟩) (ak (fun _ => ⟨rfl, fun _ _ => rfl⟩) trivial)
  intro _ w1 H1
  refine rest0 rfl (then_normal (wp_seq ?_))
  refine walk_seqB 12 [.quiet (.slice p1 k c1), .quiet (.slice p2 n c2), .quiet (.slice pm m cm), .quiet (.int .i64 ((m : Nat) : Int)), .quiet (.bool false), .quiet (.bool false), .quiet (.slice ps s cs), .quiet (.int .i64 ((s : Nat) : Int)), .quiet (.bool true), .quiet (.bool true), .call (.int .i64 ((we k n true : Nat) : Int)), .quiet (.int .i64 ((we k n true : Nat) : Int))] H1 ?ho2 ?he2
  case ho2 => exact ak (fun _ => ⟨rfl, fun _ _ => rfl⟩) (ak (fun _ => ⟨rfl, fun _ _ => rfl⟩) (ak (fun _ => ⟨rfl, fun _ _ => rfl⟩) (ak (by refine fun γ => ⟨rfl, fun w' h => ?_⟩; clear h; go_simp) (ak (by refine fun γ => ⟨rfl, fun w' h => ?_⟩; clear h; go_simp <;> omega) (ak (fun _ => ⟨rfl, fun _ _ => rfl⟩) (ak (fun _ => ⟨rfl, fun _ _ => rfl⟩) (ak (by refine fun γ => ⟨rfl, fun w' h => ?_⟩; clear h; go_simp) (ak (by refine fun γ => ⟨rfl, fun w' h => ?_⟩; clear h; go_simp <;> omega) (ak (by refine fun γ => ⟨rfl, fun w' h => ?_⟩; clear h; go_simp) (ak (fun γ => ⟨rfl, fun w' h => ⟨30, #[.slice p1 k c1, .slice p2 n c2, .bool true], exec_call rfl call30 rfl (mpn rfl), wrong_any p1 p2 k n c1 c2 true w'⟩⟩) (ak (fun _ => ⟨rfl, fun _ _ => rfl⟩) trivial)))))))))))
  intro _ w2 H2
  clear H1
  refine rest0 rfl (then_normal (wp_seq (wp_seq ?_)))
  refine walk_seqB 2 [.quiet (.int .i64 ((we k n true : Nat) : Int)), .quiet (.bool true)] H2 ?ho3 ?he3
  case ho3 => exact ak (fun _ => ⟨rfl, fun _ _ => rfl⟩) (ak (by refine fun γ => ⟨rfl, fun w' h => ?_⟩; clear h; go_simp <;> omega) trivial)
  intro _ w3 H3
  clear H2
  refine rest0 rfl (then_normal (wp_cond_true rfl (wp_seq ?_)))
  refine walk_seqB 3 [.quiet (.int .i64 ((we k n true : Nat) : Int)), .quiet (.slice none 0 0), .quiet (.int .i64 ((we k n true : Nat) : Int))] H3 ?ho4 ?he4
  case ho4 => exact ak (fun _ => ⟨rfl, fun _ _ => rfl⟩) (ak (fun _ => ⟨rfl, fun _ _ => rfl⟩) (ak (fun _ => ⟨rfl, fun _ _ => rfl⟩) trivial))
  intro _ w4 H4
  clear H3
  refine rest0 rfl (then_normal (wp_ret ?_))
  repeat (first | refine then_ret ?_ | refine block_ret ?_)
  refine bodyPost_ret (v := .tuple #[.slice none 0 0, .int .i64 ((we k n true : Nat) : Int)]) (by simp [results, Try.results19, go_sem, *]) rfl ?_
  exact ⟨rfl, H4.out.2⟩
set_option maxRecDepth 100000 in
theorem Open_errA (p1 p2 : Option Addr) (k n c1 c2 : Nat) (m s cm cs : Nat) (pm ps : Option Addr) (hm : m ≤ 1048592) (hs : s ≤ 1048576) (hE : we k n false ≠ 0) (w : World) :
    Calls Try.prog 21 #[.slice p1 k c1, .slice p2 n c2, .slice pm m cm, .slice ps s cs] w fun e w' => e = .returned (.tuple #[.slice none 0 0, .int .i64 ((we k n false : Nat) : Int)]) ∧ Below w.heap.size w w' := by
  have H0 : Hid (_ ∧ _) := ⟨Mm.nil w, Below.refl w.heap.size w⟩
  go_enter Try.func21, Try.ntmps21
  refine wp_seq ?_
  refine walk_seqB 2 [.quiet (.slice none 0 0), .quiet (.int .i64 0)] H0 ?ho1 ?he1
  case ho1 => exact ak (fun _ => ⟨rfl, fun _ _ => rfl⟩) (ak (fun _ => ⟨rfl, fun _ _ => rfl⟩) trivial)
  intro _ w1 H1
  refine rest0 rfl (then_normal (wp_seq ?_))
  refine walk_seqB 12 [.quiet (.slice p1 k c1), .quiet (.slice p2 n c2), .quiet (.slice pm m cm), .quiet (.int .i64 ((m : Nat) : Int)), .quiet (.bool false), .quiet (.bool false), .quiet (.slice ps s cs), .quiet (.int .i64 ((s : Nat) : Int)), .quiet (.bool false), .quiet (.bool false), .call (.int .i64 ((we k n false : Nat) : Int)), .quiet (.int .i64 ((we k n false : Nat) : Int))] H1 ?ho2 ?he2
  case ho2 => exact ak (fun _ => ⟨rfl, fun _ _ => rfl⟩) (ak (fun _ => ⟨rfl, fun _ _ => rfl⟩) (ak (fun _ => ⟨rfl, fun _ _ => rfl⟩) (ak (by refine fun γ => ⟨rfl, fun w' h => ?_⟩; clear h; go_simp) (ak (by refine fun γ => ⟨rfl, fun w' h => ?_⟩; clear h; go_simp <;> omega) (ak (fun _ => ⟨rfl, fun _ _ => rfl⟩) (ak (fun _ => ⟨rfl, fun _ _ => rfl⟩) (ak (by refine fun γ => ⟨rfl, fun w' h => ?_⟩; clear h; go_simp) (ak (by refine fun γ => ⟨rfl, fun w' h => ?_⟩; clear h; go_simp <;> omega) (ak (by refine fun γ => ⟨rfl, fun w' h => ?_⟩; clear h; go_simp) (ak (fun γ => ⟨rfl, fun w' h => ⟨30, #[.slice p1 k c1, .slice p2 n c2, .bool false], exec_call rfl call30 rfl (mpn rfl), wrong_any p1 p2 k n c1 c2 false w'⟩⟩) (ak (fun _ => ⟨rfl, fun _ _ => rfl⟩) trivial)))))))))))
  intro _ w2 H2
  clear H1
  refine rest0 rfl (then_normal (wp_seq (wp_seq ?_)))
  refine walk_seqB 2 [.quiet (.int .i64 ((we k n false : Nat) : Int)), .quiet (.bool true)] H2 ?ho3 ?he3
  case ho3 => exact ak (fun _ => ⟨rfl, fun _ _ => rfl⟩) (ak (by refine fun γ => ⟨rfl, fun w' h => ?_⟩; clear h; go_simp <;> omega) trivial)
  intro _ w3 H3
  clear H2
  refine rest0 rfl (then_normal (wp_cond_true rfl (wp_seq ?_)))
  refine walk_seqB 3 [.quiet (.int .i64 ((we k n false : Nat) : Int)), .quiet (.slice none 0 0), .quiet (.int .i64 ((we k n false : Nat) : Int))] H3 ?ho4 ?he4
  case ho4 => exact ak (fun _ => ⟨rfl, fun _ _ => rfl⟩) (ak (fun _ => ⟨rfl, fun _ _ => rfl⟩) (ak (fun _ => ⟨rfl, fun _ _ => rfl⟩) trivial))
  intro _ w4 H4
  clear H3
  refine rest0 rfl (then_normal (wp_ret ?_))
  repeat (first | refine then_ret ?_ | refine block_ret ?_)
  refine bodyPost_ret (v := .tuple #[.slice none 0 0, .int .i64 ((we k n false : Nat) : Int)]) (by simp [results, Try.results21, go_sem, *]) rfl ?_
  exact ⟨rfl, H4.out.2⟩
set_option maxRecDepth 100000 in
theorem Open_errB (p1 p2 : Option Addr) (k n c1 c2 : Nat) (m s cm cs : Nat) (pm ps : Option Addr) (hm : 1048592 < m) (hE : we k n true ≠ 0) (w : World) :
    Calls Try.prog 21 #[.slice p1 k c1, .slice p2 n c2, .slice pm m cm, .slice ps s cs] w fun e w' => e = .returned (.tuple #[.slice none 0 0, .int .i64 ((we k n true : Nat) : Int)]) ∧ Below w.heap.size w w' := by
  have H0 : Hid (_ ∧ _) := ⟨Mm.nil w, Below.refl w.heap.size w⟩
  go_enter Try.func21, Try.ntmps21
  refine wp_seq ?_
  refine walk_seqB 2 [.quiet (.slice none 0 0), .quiet (.int .i64 0)] H0 ?ho1 ?he1
  case ho1 => exact ak (fun _ => ⟨rfl, fun _ _ => rfl⟩) (ak (fun _ => ⟨rfl, fun _ _ => rfl⟩) trivial)
  intro _ w1 H1
  refine rest0 rfl (then_normal (wp_seq ?_))
  refine walk_seqB 12 [.quiet (.slice p1 k c1), .quiet (.slice p2 n c2), .quiet (.slice pm m cm), .quiet (.int .i64 ((m : Nat) : Int)), .quiet (.bool true), .quiet (.bool true), .gone, .gone, .gone, .quiet (.bool true), .call (.int .i64 ((we k n true : Nat) : Int)), .quiet (.int .i64 ((we k n true : Nat) : Int))] H1 ?ho2 ?he2
  case ho2 => exact ak (fun _ => ⟨rfl, fun _ _ => rfl⟩) (ak (fun _ => ⟨rfl, fun _ _ => rfl⟩) (ak (fun _ => ⟨rfl, fun _ _ => rfl⟩) (ak (by refine fun γ => ⟨rfl, fun w' h => ?_⟩; clear h; go_simp) (ak (by refine fun γ => ⟨rfl, fun w' h => ?_⟩; clear h; go_simp <;> omega) (ak (fun _ => ⟨rfl, fun _ _ => rfl⟩) (ak (fun γ => rfl) (ak (fun γ => rfl) (ak (fun γ => rfl) (ak (by refine fun γ => ⟨rfl, fun w' h => ?_⟩; clear h; go_simp) (ak (fun γ => ⟨rfl, fun w' h => ⟨30, #[.slice p1 k c1, .slice p2 n c2, .bool true], exec_call rfl call30 rfl (mpn rfl), wrong_any p1 p2 k n c1 c2 true w'⟩⟩) (ak (fun _ => ⟨rfl, fun _ _ => rfl⟩) trivial)))))))))))
  intro _ w2 H2
  clear H1
  refine rest0 rfl (then_normal (wp_seq (wp_seq ?_)))
  refine walk_seqB 2 [.quiet (.int .i64 ((we k n true : Nat) : Int)), .quiet (.bool true)] H2 ?ho3 ?he3
  case ho3 => exact ak (fun _ => ⟨rfl, fun _ _ => rfl⟩) (ak (by refine fun γ => ⟨rfl, fun w' h => ?_⟩; clear h; go_simp <;> omega) trivial)
  intro _ w3 H3
  clear H2
  refine rest0 rfl (then_normal (wp_cond_true rfl (wp_seq ?_)))
  refine walk_seqB 3 [.quiet (.int .i64 ((we k n true : Nat) : Int)), .quiet (.slice none 0 0), .quiet (.int .i64 ((we k n true : Nat) : Int))] H3 ?ho4 ?he4
  case ho4 => exact ak (fun _ => ⟨rfl, fun _ _ => rfl⟩) (ak (fun _ => ⟨rfl, fun _ _ => rfl⟩) (ak (fun _ => ⟨rfl, fun _ _ => rfl⟩) trivial))
  intro _ w4 H4
  clear H3
  refine rest0 rfl (then_normal (wp_ret ?_))
  repeat (first | refine then_ret ?_ | refine block_ret ?_)
  refine bodyPost_ret (v := .tuple #[.slice none 0 0, .int .i64 ((we k n true : Nat) : Int)]) (by simp [results, Try.results21, go_sem, *]) rfl ?_
  exact ⟨rfl, H4.out.2⟩
set_option maxRecDepth 100000 in
theorem Open_errC (p1 p2 : Option Addr) (k n c1 c2 : Nat) (m s cm cs : Nat) (pm ps : Option Addr) (hm : m ≤ 1048592) (hs : 1048576 < s) (hE : we k n true ≠ 0) (w : World) :
    Calls Try.prog 21 #[.slice p1 k c1, .slice p2 n c2, .slice pm m cm, .slice ps s cs] w fun e w' => e = .returned (.tuple #[.slice none 0 0, .int .i64 ((we k n true : Nat) : Int)]) ∧ Below w.heap.size w w' := by
  have H0 : Hid (_ ∧ _) := ⟨Mm.nil w, Below.refl w.heap.size w⟩
  go_enter Try.func21, Try.ntmps21
  refine wp_seq ?_
  refine walk_seqB 2 [.quiet (.slice none 0 0), .quiet (.int .i64 0)] H0 ?ho1 ?he1
  case ho1 => exact ak (fun _ => ⟨rfl, fun _ _ => rfl⟩) (ak (fun _ => ⟨rfl, fun _ _ => rfl⟩) trivial)
  intro _ w1 H1
  refine rest0 rfl (then_normal (wp_seq ?_))
  refine walk_seqB 12 [.quiet (.slice p1 k c1), .quiet (.slice p2 n c2), .quiet (.slice pm m cm), .quiet (.int .i64 ((m : Nat) : Int)), .quiet (.bool false), .quiet (.bool false), .quiet (.slice ps s cs), .quiet (.int .i64 ((s : Nat) : Int)), .quiet (.bool true), .quiet (.bool true), .call (.int .i64 ((we k n true : Nat) : Int)), .quiet (.int .i64 ((we k n true : Nat) : Int))] H1 ?ho2 ?he2
  case ho2 => exact ak (fun _ => ⟨rfl, fun _ _ => rfl⟩) (ak (fun _ => ⟨rfl, fun _ _ => rfl⟩) (ak (fun _ => ⟨rfl, fun _ _ => rfl⟩) (ak (by refine fun γ => ⟨rfl, fun w' h => ?_⟩; clear h; go_simp) (ak (by refine fun γ => ⟨rfl, fun w' h => ?_⟩; clear h; go_simp <;> omega) (ak (fun _ => ⟨rfl, fun _ _ => rfl⟩) (ak (fun _ => ⟨rfl, fun _ _ => rfl⟩) (ak (by refine fun γ => ⟨rfl, fun w' h => ?_⟩; clear h; go_simp) (ak (by refine fun γ => ⟨rfl, fun w' h => ?_⟩; clear h; go_simp <;> omega) (ak (by refine fun γ => ⟨rfl, fun w' h => ?_⟩; clear h; go_simp) (ak (fun γ => ⟨rfl, fun w' h => ⟨30, #[.slice p1 k c1, .slice p2 n c2, .bool true], exec_call rfl call30 rfl (mpn rfl), wrong_any p1 p2 k n c1 c2 true w'⟩⟩) (ak (fun _ => ⟨rfl, fun _ _ => rfl⟩) trivial)))))))))))
  intro _ w2 H2
  clear H1
  refine rest0 rfl (then_normal (wp_seq (wp_seq ?_)))
  refine walk_seqB 2 [.quiet (.int .i64 ((we k n true : Nat) : Int)), .quiet (.bool true)] H2 ?ho3 ?he3
  case ho3 => exact ak (fun _ => ⟨rfl, fun _ _ => rfl⟩) (ak (by refine fun γ => ⟨rfl, fun w' h => ?_⟩; clear h; go_simp <;> omega) trivial)
  intro _ w3 H3
  clear H2
  refine rest0 rfl (then_normal (wp_cond_true rfl (wp_seq ?_)))
  refine walk_seqB 3 [.quiet (.int .i64 ((we k n true : Nat) : Int)), .quiet (.slice none 0 0), .quiet (.int .i64 ((we k n true : Nat) : Int))] H3 ?ho4 ?he4
  case ho4 => exact ak (fun _ => ⟨rfl, fun _ _ => rfl⟩) (ak (fun _ => ⟨rfl, fun _ _ => rfl⟩) (ak (fun _ => ⟨rfl, fun _ _ => rfl⟩) trivial))
  intro _ w4 H4
  clear H3
  refine rest0 rfl (then_normal (wp_ret ?_))
  repeat (first | refine then_ret ?_ | refine block_ret ?_)
  refine bodyPost_ret (v := .tuple #[.slice none 0 0, .int .i64 ((we k n true : Nat) : Int)]) (by simp [results, Try.results21, go_sem, *]) rfl ?_
  exact ⟨rfl, H4.out.2⟩
set_option maxRecDepth 100000 in
theorem Open_short (p1 p2 : Option Addr) (k n c1 c2 : Nat) (m s cm cs : Nat) (pm ps : Option Addr) (hk : we k n false = 0) (hm : m < 16) (hs : s ≤ 1048576) (w : World) :
    Calls Try.prog 21 #[.slice p1 k c1, .slice p2 n c2, .slice pm m cm, .slice ps s cs] w fun e w' => e = .returned (.tuple #[.slice none 0 0, .int .i64 200]) ∧ Below w.heap.size w w' := by
  have H0 : Hid (_ ∧ _) := ⟨Mm.nil w, Below.refl w.heap.size w⟩
  go_enter Try.func21, Try.ntmps21
  refine wp_seq ?_
  refine walk_seqB 2 [.quiet (.slice none 0 0), .quiet (.int .i64 0)] H0 ?ho1 ?he1
  case ho1 => exact ak (fun _ => ⟨rfl, fun _ _ => rfl⟩) (ak (fun _ => ⟨rfl, fun _ _ => rfl⟩) trivial)
  intro _ w1 H1
  refine rest0 rfl (then_normal (wp_seq ?_))
  refine walk_seqB 12 [.quiet (.slice p1 k c1), .quiet (.slice p2 n c2), .quiet (.slice pm m cm), .quiet (.int .i64 ((m : Nat) : Int)), .quiet (.bool false), .quiet (.bool false), .quiet (.slice ps s cs), .quiet (.int .i64 ((s : Nat) : Int)), .quiet (.bool false), .quiet (.bool false), .call (.int .i64 ((we k n false : Nat) : Int)), .quiet (.int .i64 ((we k n false : Nat) : Int))] H1 ?ho2 ?he2
  case ho2 => exact ak (fun _ => ⟨rfl, fun _ _ => rfl⟩) (ak (fun _ => ⟨rfl, fun _ _ => rfl⟩) (ak (fun _ => ⟨rfl, fun _ _ => rfl⟩) (ak (by refine fun γ => ⟨rfl, fun w' h => ?_⟩; clear h; go_simp) (ak (by refine fun γ => ⟨rfl, fun w' h => ?_⟩; clear h; go_simp <;> omega) (ak (fun _ => ⟨rfl, fun _ _ => rfl⟩) (ak (fun _ => ⟨rfl, fun _ _ => rfl⟩) (ak (by refine fun γ => ⟨rfl, fun w' h => ?_⟩; clear h; go_simp) (ak (by refine fun γ => ⟨rfl, fun w' h => ?_⟩; clear h; go_simp <;> omega) (ak (by refine fun γ => ⟨rfl, fun w' h => ?_⟩; clear h; go_simp) (ak (fun γ => ⟨rfl, fun w' h => ⟨30, #[.slice p1 k c1, .slice p2 n c2, .bool false], exec_call rfl call30 rfl (mpn rfl), wrong_any p1 p2 k n c1 c2 false w'⟩⟩) (ak (fun _ => ⟨rfl, fun _ _ => rfl⟩) trivial)))))))))))
  intro _ w2 H2
  clear H1
  refine rest0 rfl (then_normal (wp_seq (wp_seq ?_)))
  refine walk_seqB 2 [.quiet (.int .i64 ((we k n false : Nat) : Int)), .quiet (.bool false)] H2 ?ho3 ?he3
  case ho3 => exact ak (fun _ => ⟨rfl, fun _ _ => rfl⟩) (ak (by refine fun γ => ⟨rfl, fun w' h => ?_⟩; clear h; go_simp <;> omega) trivial)
  intro _ w3 H3
  clear H2
  refine rest0 rfl (then_normal (wp_cond_false rfl ?_))
  refine wp_skip (then_normal ?_)
  refine wp_seq (wp_seq ?_)
  refine walk_seqB 3 [.quiet (.slice pm m cm), .quiet (.int .i64 ((m : Nat) : Int)), .quiet (.bool true)] H3 ?ho4 ?he4
  case ho4 => exact ak (fun _ => ⟨rfl, fun _ _ => rfl⟩) (ak (by refine fun γ => ⟨rfl, fun w' h => ?_⟩; clear h; go_simp) (ak (by refine fun γ => ⟨rfl, fun w' h => ?_⟩; clear h; go_simp <;> omega) trivial))
  intro _ w4 H4
  clear H3
  refine rest0 rfl (then_normal (wp_cond_true rfl (wp_seq ?_)))
  refine walk_seqB 2 [.quiet (.slice none 0 0), .quiet (.int .i64 200)] H4 ?ho5 ?he5
  case ho5 => exact ak (fun _ => ⟨rfl, fun _ _ => rfl⟩) (ak (fun _ => ⟨rfl, fun _ _ => rfl⟩) trivial)
  intro _ w5 H5
  clear H4
  refine rest0 rfl (then_normal (wp_ret ?_))
  repeat (first | refine then_ret ?_ | refine block_ret ?_)
  refine bodyPost_ret (v := .tuple #[.slice none 0 0, .int .i64 200]) (by simp [results, Try.results21, go_sem, *]) rfl ?_
  exact ⟨rfl, H5.out.2⟩
end Rg
end Go.Proofs.Ytkkippfikfjdpaa
end
section
namespace Go.Proofs.Ytkkippfikfjdpaa
open Go.RowKit
namespace Rg
set_option maxRecDepth 100000
theorem so_256 (K N : Nat → Nat) (c : Nat) (P : Nat → Nat) (j : Nat) : so K N c P j < 256 := Nat.mod_lt _ (by decide)
/-- An own row as a slice, nil or not. -/
theorem own_slice {w : World} {B n : Nat} {vv : Value} {P : Nat → Nat} (h : w.ownsRow B 5 1 vv n (ints .u8 P n)) : ∃ p c g, vv = .slice p n c ∧ (0 < n → p = some ⟨g, 0, none⟩) ∧ (p = none → c = 0) ∧ Rs g 0 n P w := by
  rcases h.2 with ⟨h1, h2⟩ | ⟨g, cap, cur, h1, _⟩
  · subst h1 h2
    exact ⟨none, 0, 0, rfl, fun hh => absurd hh (by decide), fun _ => rfl, ⟨fun hh => absurd hh (by decide), fun i hi => absurd hi (by omega)⟩⟩
  · subst h1
    exact ⟨_, cap, g, rfl, fun _ => rfl, (fun e => by cases e), own_rs h⟩
theorem call41 : ∀ args w, (callFunc 41 args).run Try.prog w = .ok (.enter 41 args) w := by intro args w; go_simp
set_option maxHeartbeats 1000000 in
set_option maxRecDepth 100000 in
theorem Seal_ok (K N P M : Nat → Nat) (gk ok ck gn on cn gb ob n cb gm om m cm : Nat) (pb pm : Option Addr) (hP : ∀ j, P j < 256) (hM : ∀ j, M j < 256) (hpb : 0 < n → pb = some ⟨gb, ob, none⟩) (hpm : 0 < m → pm = some ⟨gm, om, none⟩) (hnm0 : pm = none → cm = 0) (hn : n ≤ 100000) (hm : m ≤ 100000) (w : World) (hRk : Rs gk ok 32 K w) (hRn : Rs gn on 12 N w) (hRb : Rs gb ob n P w) (hRm : Rs gm om m M w) :
    Calls Try.prog 19 #[.slice (some ⟨gk, ok, none⟩) 32 ck, .slice (some ⟨gn, on, none⟩) 12 cn, .slice pb n cb, .slice pm m cm] w fun e w' => Below w.heap.size w w' ∧ ∃ v, e = .returned (.tuple #[v, .int .i64 0]) ∧ w'.ownsRow w.heap.size 5 1 v (n + 16) (ints .u8 (ct (so K N 1 P) n (mrk K N M m (so K N 1 P) n)) (n + 16)) := by
  have H0 : Hid (_ ∧ _) := ⟨Mm.nil w, Below.refl w.heap.size w⟩
  have RK : Hid (Rs gk ok 32 K w) := hRk
  have RN : Hid (Rs gn on 12 N w) := hRn
  have RB : Hid (Rs gb ob n P w) := hRb
  have RM : Hid (Rs gm om m M w) := hRm
  have hnm : Hid (pm = none → cm = 0) := hnm0
  clear hRk hRn hRb hRm hnm0
  go_enter Try.func19, Try.ntmps19
  refine wp_seq ?_
  refine walk_seqB 2 [.quiet (.slice none 0 0), .quiet (.int .i64 0)] H0 ?ho1 ?he1
  case ho1 => exact ak (fun _ => ⟨rfl, fun _ _ => rfl⟩) (ak (fun _ => ⟨rfl, fun _ _ => rfl⟩) trivial)
  intro _ w1 H1
  refine rest0 rfl (then_normal (wp_seq ?_))
  refine walk_seqB 12 [.quiet (.slice (some ⟨gk, ok, none⟩) 32 ck), .quiet (.slice (some ⟨gn, on, none⟩) 12 cn), .quiet (.slice pb n cb), .quiet (.int .i64 ((n : Nat) : Int)), .quiet (.bool false), .quiet (.bool false), .quiet (.slice pm m cm), .quiet (.int .i64 ((m : Nat) : Int)), .quiet (.bool false), .quiet (.bool false), .call (.int .i64 0), .quiet (.int .i64 0)] H1 ?ho2 ?he2
  case ho2 => exact ak (fun _ => ⟨rfl, fun _ _ => rfl⟩) (ak (fun _ => ⟨rfl, fun _ _ => rfl⟩) (ak (fun _ => ⟨rfl, fun _ _ => rfl⟩) (ak (by refine fun γ => ⟨rfl, fun w' h => ?_⟩; clear h; go_simp) (ak (by refine fun γ => ⟨rfl, fun w' h => ?_⟩; clear h; go_simp <;> omega) (ak (fun _ => ⟨rfl, fun _ _ => rfl⟩) (ak (fun _ => ⟨rfl, fun _ _ => rfl⟩) (ak (by refine fun γ => ⟨rfl, fun w' h => ?_⟩; clear h; go_simp) (ak (by refine fun γ => ⟨rfl, fun w' h => ?_⟩; clear h; go_simp <;> omega) (ak (by refine fun γ => ⟨rfl, fun w' h => ?_⟩; clear h; go_simp) (ak (fun γ => ⟨rfl, fun w' h => ⟨30, #[.slice (some ⟨gk, ok, none⟩) 32 ck, .slice (some ⟨gn, on, none⟩) 12 cn, .bool false], exec_call rfl call30 rfl (mpn rfl), wrong_ok _ _ 32 12 _ _ rfl rfl w'⟩⟩) (ak (fun _ => ⟨rfl, fun _ _ => rfl⟩) trivial)))))))))))
  intro _ w2 H2
  clear H1
  refine rest0 rfl (then_normal (wp_seq (wp_seq ?_)))
  refine walk_seqB 2 [.quiet (.int .i64 0), .quiet (.bool false)] H2 ?ho3 ?he3
  case ho3 => exact ak (fun _ => ⟨rfl, fun _ _ => rfl⟩) (ak (by refine fun γ => ⟨rfl, fun w' h => ?_⟩; clear h; go_simp <;> omega) trivial)
  intro _ w3 H3
  clear H2
  refine rest0 rfl (then_normal (wp_cond_false rfl ?_))
  refine wp_skip (then_normal (wp_seq ?_))
  refine walk_seqB 3 [.quiet (.slice (some ⟨gk, ok, none⟩) 32 ck), .quiet (.slice (some ⟨gn, on, none⟩) 12 cn), .quiet (.slice pb n cb)] H3 ?ho4 ?he4
  case ho4 => exact ak (fun _ => ⟨rfl, fun _ _ => rfl⟩) (ak (fun _ => ⟨rfl, fun _ _ => rfl⟩) (ak (fun _ => ⟨rfl, fun _ _ => rfl⟩) trivial))
  intro _ w4 H4
  clear H3
  refine rest_at (l := [3, 4]) rfl ?_
  refine rest_enter (d := 29) (R := fun vv w' => Below w4.heap.size w4 w' ∧ w'.ownsRow w4.heap.size 5 1 vv n (ints .u8 (so K N 1 P) n)) rfl rfl rfl (exec_call (args := #[.slice (some ⟨gk, ok, none⟩) 32 ck, .slice (some ⟨gn, on, none⟩) 12 cn, .int .u32 1, .slice pb n cb]) rfl call33 rfl (mpn rfl)) (Calls.mono (stream_any K N P gk ok ck gn on cn 1 gb ob n cb pb hP hpb (by omega) w4 (RK.out.below H4.out.2) (RN.out.below H4.out.2) (RB.out.below H4.out.2)) (fun e w2 ⟨hb, v, he, ho⟩ => ⟨v, he, hb, ho⟩)) ?_
  intro v5 w5 hR
  simp only [Act.put, sa, sz, ss]
  have H5 : Hid (Mm w5 [] ∧ Ow w [] v5 n (so K N 1 P) w5) := ⟨H4.out.1.below hR.1, H4.out.2.trans (hR.1.mono H4.out.2.size), own_mono hR.2 H4.out.2.size, fun g hg => by cases hg⟩
  clear hR H4
  refine rest_set (d := 11) (v := v5) (w' := w5) rfl rfl rfl rfl ?_
  simp only [Act.put, sa, sz, ss]
  refine rest_nil ?_
  obtain ⟨ps, cs, gs, es, hps, hns0, hRs⟩ := own_slice H5.out.2.own
  rw [es] at H5 ⊢
  clear es
  have RS : Hid (Rs gs 0 n (so K N 1 P) w5) := hRs
  have hns : Hid (ps = none → cs = 0) := hns0
  clear hRs hns0
  refine then_normal (wp_seq ?_)
  refine walk_seqA 5 [.quiet (.slice ps n cs), .quiet (.slice (some ⟨gk, ok, none⟩) 32 ck), .quiet (.slice (some ⟨gn, on, none⟩) 12 cn), .quiet (.slice ps n cs), .quiet (.slice pm m cm)] (sB H5) ?ho5 ?he5
  case ho5 => exact ak (fun _ => ⟨rfl, fun _ _ => rfl⟩) (ak (fun _ => ⟨rfl, fun _ _ => rfl⟩) (ak (fun _ => ⟨rfl, fun _ _ => rfl⟩) (ak (fun _ => ⟨rfl, fun _ _ => rfl⟩) (ak (fun _ => ⟨rfl, fun _ _ => rfl⟩) trivial))))
  intro γ w6 l hM hl
  have M6 : Mm w6 [] := H5.out.1.grow hM (Nat.le_refl _) hl [] rfl (by decide)
  have B6 : Ow w [] (.slice ps n cs) n (so K N 1 P) w6 := Ow.step H5.out.2 (hM.below)
  clear hM hl l H5
  clear γ
  have H6 : Hid (_ ∧ _) := ⟨M6, B6⟩
  clear M6 B6
  refine rest_at (l := [5, 6, 7, 8]) rfl ?_
  have hbs : Rs gs 0 n (so K N 1 P) w6 := by
    obtain ⟨p', c', g', e', hp', _, hR'⟩ := own_slice H6.out.2.own
    refine ⟨fun hn => ?_, fun i hi => ?_⟩
    · have e1 := hps hn
      have e2 := hp' hn
      injection e' with e3
      rw [e1, e2] at e3
      injection e3 with e3
      injection e3 with e3
      rw [e3]
      exact hR'.lt hn
    · have e1 := hps (by omega)
      have e2 := hp' (by omega)
      injection e' with e3
      rw [e1, e2] at e3
      injection e3 with e3
      injection e3 with e3
      rw [e3]
      exact hR'.at_ i hi
  have HBS : Hid (Rs gs 0 n (so K N 1 P) w6) := hbs
  clear hbs
  refine rest_enter (d := 35) (R := fun vv w' => Below w6.heap.size w6 w' ∧ ∃ g x, vv = .slice (some ⟨g, 0, none⟩) 16 (16 + x) ∧ w6.heap.size ≤ g ∧ g < w'.heap.size ∧ Blk w' g (ints .u8 (mrk K N M m (so K N 1 P) n) 16) ∧ ∃ o, w'.heap[g]? = some o ∧ Eo 16 (mrk K N M m (so K N 1 P) n) o x) rfl rfl rfl (exec_call (args := #[.slice (some ⟨gk, ok, none⟩) 32 ck, .slice (some ⟨gn, on, none⟩) 12 cn, .slice ps n cs, .slice pm m cm]) rfl call41 rfl (mpn rfl)) (Calls.mono (mark_any K N (so K N 1 P) M gk ok ck gn on cn gs 0 n cs gm om m cm ps pm (so_256 K N 1 P) hM hps hpm hns.out hnm.out (by omega) (by omega) w6 (RK.out.below H6.out.2.b) (RN.out.below H6.out.2.b) HBS.out (RM.out.below H6.out.2.b)) (fun e w2 ⟨hb, g, x, _, he, h1, h2, h3, h4⟩ => ⟨_, he, hb, g, x, rfl, h1, h2, h3, h4⟩)) ?_
  intro _ w7 hR
  obtain ⟨hb, γr7, ξr7, rfl, h1, h2, h3, h4⟩ := hR
  simp only [Act.put, sa, sz, ss]
  have o_γr7 : Hid (w.heap.size ≤ γr7) := Nat.le_trans H6.out.2.size h1
  have oo_γr7 : Hid (γr7 < w7.heap.size ∧ Blk w7 γr7 (ints .u8 (mrk K N M m (so K N 1 P) n) 16) ∧ ∃ o, w7.heap[γr7]? = some o ∧ Eo 16 (mrk K N M m (so K N 1 P) n) o ξr7) := ⟨h2, h3, h4⟩
  have H7 : Hid (Mm w7 [(γr7, ints .u8 (mrk K N M m (so K N 1 P) n) 16)] ∧ Ow w [] (.slice ps n cs) n (so K N 1 P) w7) := ⟨(H6.out.1.below hb).cons h3 h2 (fun p hp => by have := (H6.out.1.blk p hp).1; omega), Ow.step H6.out.2 (hb)⟩
  clear hb h1 h2 h3 h4 H6
  obtain ⟨v8, w8, hr, h2, h3, h5⟩ := own_app H7.out.2.own H7.out.2.b.size 16 (16 + ξr7) (mrk K N M m (so K N 1 P) n) (H7.out.1.rs 0 rfl (Nat.le_refl _)).add (by omega) 22
  refine rest_set (d := 36) (v := v8) (w' := w8) rfl rfl rfl (ex_app rfl rfl rfl hr) ?_
  simp only [Act.put, sa, sz, ss]
  have H8 : Hid (Mm w8 [] ∧ Ow w [] v8 (n + 16) (ct (so K N 1 P) n (mrk K N M m (so K N 1 P) n)) w8) := ⟨Mm.nil _, H7.out.2.b.trans ((Below.refl _ _).grown h3 H7.out.2.b.size (fun k hk => (World.ownsRow.lt H7.out.2.own k hk).1)), h2, fun g hg => by cases hg⟩
  clear hr h2 h3 h5 H7
  refine rest_set (d := 8) (v := v8) (w' := w8) rfl rfl rfl rfl ?_
  simp only [Act.put, sa, sz, ss]
  refine rest_set (d := 9) (v := .int .i64 0) (w' := w8) rfl rfl rfl rfl ?_
  simp only [Act.put, sa, sz, ss]
  refine rest_nil (then_normal (wp_ret ?_))
  repeat (first | refine then_ret ?_ | refine block_ret ?_)
  refine bodyPost_ret (v := .tuple #[v8, .int .i64 0]) (by simp [results, Try.results19, go_sem, *]) rfl ?_
  exact ⟨H8.out.2.b, _, rfl, H8.out.2.own⟩
end Rg
end Go.Proofs.Ytkkippfikfjdpaa
end
section
namespace Go.Proofs.Ytkkippfikfjdpaa
open Go.RowKit
namespace Rg
set_option maxRecDepth 100000
/-- A sealed text: the stream, the tag behind it. -/
def sl0 (K N P : Nat → Nat) (n : Nat) (M : Nat → Nat) (m : Nat) : Nat → Nat := ct (so K N 1 P) n (mt K N M m (so K N 1 P) n)
theorem sl0_256 (K N P : Nat → Nat) (n : Nat) (M : Nat → Nat) (m : Nat) : ∀ j, sl0 K N P n M m j < 256 := ct_lt (so_256 K N 1 P) (mt_256 K N M m _ n)
theorem seal_eq (K N P M : Nat → Nat) (n m j : Nat) (_ : j < n + 16) : py (szr K N 1 P (fun _ => 0) n) (0 + n) 16 (mt K N M m (szr K N 1 P (fun _ => 0) n) n) j = sl0 K N P n M m j := by
  rw [mt_cg (S' := so K N 1 P) (szr_lt K N 1 P (fun _ => 0) n)]
  unfold py sl0 ct
  by_cases e : j < n
  · rw [if_neg (by omega), if_pos e, szr_lt K N 1 P _ n j e]
  · rw [if_pos (by omega), if_neg e, Nat.zero_add]
theorem call40 : ∀ args w, (callFunc 40 args).run Try.prog w = .ok (.enter 40 args) w := by intro args w; go_simp
theorem call42 : ∀ args w, (callFunc 42 args).run Try.prog w = .ok (.enter 42 args) w := by intro args w; go_simp
set_option maxHeartbeats 2000000 in
set_option maxRecDepth 100000 in
theorem PSeal_ok (K N : Nat → Nat) (gk ok ck gn on cn : Nat) (hck : 32 ≤ ck) (hcn : 12 ≤ cn) (q mo : Pt8) (hq : Pok q) (hmo : Pok mo) (hfmo : ∀ j, mo.f j < 256) (hl : q.n ≤ 1048576) (hm : mo.n ≤ 1048576) (w : World) (hRk : Rs gk ok 32 K w) (hRn : Rs gn on 12 N w) (hRb : q.rs w) (hRm : mo.rs w) :
    Calls Try.prog 18 #[.slice (some ⟨gk, ok, none⟩) 32 ck, .slice (some ⟨gn, on, none⟩) 12 cn, .slice q.p q.n q.cp, .slice mo.p mo.n mo.cp] w fun e w' => Below w.heap.size w w' ∧ ∃ g, e = .returned (.tuple #[.slice (some ⟨g, 0, none⟩) (q.n + 16) (q.n + 16), .int .i64 0]) ∧ w.heap.size ≤ g ∧ g < w'.heap.size ∧ Blk w' g (ints .u8 (sl0 K N q.f q.n mo.f mo.n) (q.n + 16)) := by
  have H0 : Hid (_ ∧ _) := ⟨Mm.nil w, Below.refl w.heap.size w⟩
  have RK : Hid (Rs gk ok 32 K w) := hRk
  have RN : Hid (Rs gn on 12 N w) := hRn
  have RB : Hid (q.rs w) := hRb
  have RM : Hid (mo.rs w) := hRm
  clear hRk hRn hRb hRm
  go_enter Try.func18, Try.ntmps18
  refine wp_seq ?_
  refine walk_seqB 2 [.quiet (.slice none 0 0), .quiet (.int .i64 0)] H0 ?ho1 ?he1
  case ho1 => exact ak (fun _ => ⟨rfl, fun _ _ => rfl⟩) (ak (fun _ => ⟨rfl, fun _ _ => rfl⟩) trivial)
  intro _ w1 H1
  refine rest0 rfl (then_normal (wp_seq (wp_seq ?_)))
  refine walk_seqB 4 [.quiet (.slice (some ⟨gk, ok, none⟩) 32 ck), .quiet (.slice (some ⟨gn, on, none⟩) 12 cn), .call (.bool true), .quiet (.bool false)] H1 ?ho2 ?he2
  case ho2 => exact ak (fun _ => ⟨rfl, fun _ _ => rfl⟩) (ak (fun _ => ⟨rfl, fun _ _ => rfl⟩) (ak (fun γ => ⟨rfl, fun w' h => ⟨27, #[.slice (some ⟨gk, ok, none⟩) 32 ck, .slice (some ⟨gn, on, none⟩) 12 cn], exec_call rfl call27 rfl (mpn rfl), fit_yes _ _ 32 12 _ _ rfl rfl w'⟩⟩) (ak (by refine fun γ => ⟨rfl, fun w' h => ?_⟩; clear h; go_simp) trivial)))
  intro _ w2 H2
  clear H1
  refine rest0 rfl (then_normal (wp_cond_false rfl ?_))
  refine wp_skip (then_normal ?_)
  refine wp_seq (wp_seq ?_)
  refine walk_seqB 8 [.quiet (.slice q.p q.n q.cp), .quiet (.int .i64 ((q.n : Nat) : Int)), .quiet (.bool false), .quiet (.bool false), .quiet (.slice mo.p mo.n mo.cp), .quiet (.int .i64 ((mo.n : Nat) : Int)), .quiet (.bool false), .quiet (.bool false)] H2 ?ho3 ?he3
  case ho3 => exact ak (fun _ => ⟨rfl, fun _ _ => rfl⟩) (ak (by refine fun γ => ⟨rfl, fun w' h => ?_⟩; clear h; go_simp) (ak (by refine fun γ => ⟨rfl, fun w' h => ?_⟩; clear h; go_simp <;> omega) (ak (fun _ => ⟨rfl, fun _ _ => rfl⟩) (ak (fun _ => ⟨rfl, fun _ _ => rfl⟩) (ak (by refine fun γ => ⟨rfl, fun w' h => ?_⟩; clear h; go_simp) (ak (by refine fun γ => ⟨rfl, fun w' h => ?_⟩; clear h; go_simp <;> omega) (ak (by refine fun γ => ⟨rfl, fun w' h => ?_⟩; clear h; go_simp) trivial)))))))
  intro _ w3 H3
  clear H2
  refine rest0 rfl (then_normal (wp_cond_false rfl ?_))
  refine wp_skip (then_normal (wp_seq ?_))
  refine walk_seqB 3 [.quiet (.slice q.p q.n q.cp), .quiet (.int .i64 ((q.n : Nat) : Int)), .quiet (.int .i64 ((q.n + 16 : Nat) : Int))] H3 ?ho4 ?he4
  case ho4 => exact ak (fun _ => ⟨rfl, fun _ _ => rfl⟩) (ak (by refine fun γ => ⟨rfl, fun w' h => ?_⟩; clear h; go_simp) (ak (by refine fun γ => ⟨rfl, fun w' h => ?_⟩; clear h; go_simp; rw [IntKind.wrap_i64]; omega) trivial))
  intro _ w4 H4
  clear H3
  refine rest_at (l := [3, 4]) rfl ?_
  refine rest_set (d := 28) (v := .slice (some ⟨w4.heap.size, 0, none⟩) (q.n + 16) (q.n + 16)) (w' := (w4.alloc (.cells (ints .u8 (fun _ => 0) (q.n + 16)).toArray 5))) rfl rfl rfl (ex_mkB (m := (q.n + 16)) (by omega) rfl rfl rfl) ?_
  simp only [Act.put, sa, sz, ss]
  have o_γs5 : Hid (w.heap.size ≤ w4.heap.size) := H4.out.2.size
  have H5 : Hid (Mm (w4.alloc (.cells (ints .u8 (fun _ => 0) (q.n + 16)).toArray 5)) ((w4.heap.size, ints .u8 (fun _ => 0) (q.n + 16)) :: []) ∧ Below w.heap.size w (w4.alloc (.cells (ints .u8 (fun _ => 0) (q.n + 16)).toArray 5))) := ⟨H4.out.1.alloc _ 5 rfl, H4.out.2.alloc H4.out.2.size _⟩
  clear H4
  generalize hgw : (w4.alloc (.cells (ints .u8 (fun _ => 0) (q.n + 16)).toArray 5)) = w5 at H5 ⊢
  clear hgw
  generalize w4.heap.size = γs5 at o_γs5 H5 ⊢
  refine rest_set (d := 10) (v := .slice (some ⟨γs5, 0, none⟩) (q.n + 16) (q.n + 16)) (w' := w5) rfl rfl rfl rfl ?_
  simp only [Act.put, sa, sz, ss]
  refine rest_nil (then_normal (wp_seq ?_))
  refine walk_seqB 5 [.quiet (.slice (some ⟨γs5, 0, none⟩) (q.n + 16) (q.n + 16)), .quiet (.slice q.p q.n q.cp), .quiet (.int .i64 ((q.n : Nat) : Int)), .quiet (.slice (some ⟨γs5, 0, none⟩) q.n (q.n + 16)), .quiet (.slice (some ⟨γs5, 0, none⟩) q.n (q.n + 16))] H5 ?ho5 ?he5
  case ho5 => exact ak (fun _ => ⟨rfl, fun _ _ => rfl⟩) (ak (fun _ => ⟨rfl, fun _ _ => rfl⟩) (ak (by refine fun γ => ⟨rfl, fun w' h => ?_⟩; clear h; go_simp) (ak (fun γ => ⟨rfl, fun w' _ => ex_slH22 (l := q.n) rfl rfl rfl (by omega)⟩) (ak (fun _ => ⟨rfl, fun _ _ => rfl⟩) trivial))))
  intro _ w6 H6
  clear H5
  refine rest0 rfl (then_normal (wp_seq ?_))
  refine (walk_seq) 5 [.quiet (.slice (some ⟨γs5, 0, none⟩) q.n (q.n + 16)), .quiet (.slice (some ⟨gk, ok, none⟩) 32 ck), .quiet (.slice (some ⟨gn, on, none⟩) 12 cn), .call (.agg (ints .u32 (k3 K N 1 3) 16).toArray), .quiet (.slice q.p q.n q.cp)] (fun u' => Mm u' [(γs5, ints .u8 (fun _ => 0) (q.n + 16))] ∧ (Rs gk ok 32 K u' ∧ Rs gn on 12 N u' ∧ q.rs u' ∧ mo.rs u')) ?pre6 ?F6 ?hpre6 (fun γ => ?hF6) (by kernel_rfl) ?hL6 ?hS6 ?ho6 ?he6
  case hpre6 => simp only [tk, tz]; rfl
  case hF6 => simp only [fill, Kind.val, Act.put, sa, sz, ss]; rfl
  case hL6 => exact trivial
  case hS6 => exact fun w' hb => ⟨H6.out.1.below hb, ⟨RK.out.below (H6.out.2.trans (hb.mono H6.out.2.size)), RN.out.below (H6.out.2.trans (hb.mono H6.out.2.size)), RB.out.below (H6.out.2.trans (hb.mono H6.out.2.size)), RM.out.below (H6.out.2.trans (hb.mono H6.out.2.size))⟩⟩
  case ho6 =>
    refine ak (fun _ => ⟨rfl, fun _ _ => rfl⟩) ?_
    refine ak (fun _ => ⟨rfl, fun _ _ => rfl⟩) ?_
    refine ak (fun _ => ⟨rfl, fun _ _ => rfl⟩) ?_
    refine ak (fun γ => ⟨rfl, fun w' hX => ⟨28, #[.slice (some ⟨gk, ok, none⟩) 32 ck, .slice (some ⟨gn, on, none⟩) 12 cn, .int .u32 1], exec_call rfl call28 rfl (mpn rfl), begun_any K N gk ok ck gn on cn 1 hck hcn w' hX.2.1 hX.2.2.1⟩⟩) ?_
    refine ak (fun _ => ⟨rfl, fun _ _ => rfl⟩) ?_
    exact trivial
  intro γ w7 l hM hl
  have H7 := keepB H6 hM.below
  clear hM hl l H6 γ
  refine rest_at (l := [5]) rfl ?_
  refine rest_enter (d := 38) (R := fun vv w' => vv = .tuple #[] ∧ Mm w' [(γs5, ints .u8 (szr K N 1 q.f (fun _ => 0) q.n) (q.n + 16))] ∧ Kp γs5 w7 w') rfl rfl rfl (exec_call (args := #[.slice (some ⟨γs5, 0, none⟩) q.n (q.n + 16), .agg (ints .u32 (k3 K N 1 3) 16).toArray, .slice q.p q.n q.cp]) rfl call32 rfl (mpn rfl)) (Calls.mono (pstream_any K N (fun _ => 0) 1 γs5 (q.n + 16) q (by decide) (hq) (fun hn => by have h1 := RB.out.lt hn; have h2 := o_γs5.out; omega) (by omega) (by omega) w7 (H7.out.1.one 0 rfl) (RB.out.below H7.out.2)) (fun e w2 hh => ⟨_, hh.1, rfl, hh.2⟩)) ?_
  rintro _ w8 ⟨rfl, hn, hp⟩
  have H8 : Hid (Mm w8 [(γs5, ints .u8 (szr K N 1 q.f (fun _ => 0) q.n) (q.n + 16))] ∧ Below w.heap.size w w8) := ⟨H7.out.1.change 0 rfl hp hn, Below.kp H7.out.2 hp o_γs5.out H7.out.2.size⟩
  clear hn hp H7
  simp only [Act.put, sa, sz, ss]
  refine rest_nil (then_normal (wp_seq ?_))
  refine (walk_seq) 7 [.quiet (.slice (some ⟨gk, ok, none⟩) 32 ck), .quiet (.slice (some ⟨gn, on, none⟩) 12 cn), .quiet (.slice (some ⟨γs5, 0, none⟩) q.n (q.n + 16)), .quiet (.slice mo.p mo.n mo.cp), .call (.agg (ints .u8 (mt K N mo.f mo.n (szr K N 1 q.f (fun _ => 0) q.n) q.n) 16).toArray), .made (ints .u8 (fun _ => 0) 16) 65, .laid 5 (ints .u8 (fun _ => 0) 16) (ints .u8 (mt K N mo.f mo.n (szr K N 1 q.f (fun _ => 0) q.n) q.n) 16)] (fun u' => Mm u' [(γs5, ints .u8 (szr K N 1 q.f (fun _ => 0) q.n) (q.n + 16))] ∧ (Rs gk ok 32 K u' ∧ Rs gn on 12 N u' ∧ q.rs u' ∧ mo.rs u')) ?pre7 ?F7 ?hpre7 (fun γ => ?hF7) (by kernel_rfl) ?hL7 ?hS7 ?ho7 ?he7
  case hpre7 => simp only [tk, tz]; rfl
  case hF7 => simp only [fill, Kind.val, Act.put, sa, sz, ss]; rfl
  case hL7 => exact ⟨⟨_, rfl⟩, trivial⟩
  case hS7 => exact fun w' hb => ⟨H8.out.1.below hb, ⟨RK.out.below (H8.out.2.trans (hb.mono H8.out.2.size)), RN.out.below (H8.out.2.trans (hb.mono H8.out.2.size)), RB.out.below (H8.out.2.trans (hb.mono H8.out.2.size)), RM.out.below (H8.out.2.trans (hb.mono H8.out.2.size))⟩⟩
  case ho7 =>
    refine ak (fun _ => ⟨rfl, fun _ _ => rfl⟩) ?_
    refine ak (fun _ => ⟨rfl, fun _ _ => rfl⟩) ?_
    refine ak (fun _ => ⟨rfl, fun _ _ => rfl⟩) ?_
    refine ak (fun _ => ⟨rfl, fun _ _ => rfl⟩) ?_
    refine ak (fun γ => ⟨rfl, fun w' hX => have h := hX.1; ⟨40, #[.slice (some ⟨gk, ok, none⟩) 32 ck, .slice (some ⟨gn, on, none⟩) 12 cn, .slice (some ⟨γs5, 0, none⟩) q.n (q.n + 16), .slice mo.p mo.n mo.cp], exec_call rfl call40 rfl (mpn rfl), sealTag_any K N gk ok ck gn on cn hck hcn (pc γs5 q.n (q.n + 16) (szr K N 1 q.f (fun _ => 0) q.n)) mo (pc_ok _ _ 16 _) hmo (szr_256 (fun _ => by decide)) hfmo (by show q.n ≤ 1048592; omega) (by omega) w' hX.2.1 hX.2.2.1 (h.rs 0 rfl (Nat.le_add_right _ _)) hX.2.2.2.2⟩⟩) ?_
    refine ak (fun γ => ⟨rfl, fun w' => ex_mk65 rfl⟩) ?_
    refine ak (fun γ => ⟨rfl, rfl, (ints_len _ _ _).trans (ints_len _ _ _).symm, fun w' h => ex_laidI h Try.sizeOf65 rfl rfl rfl⟩) ?_
    exact trivial
  intro γ w9 l hM hl
  have H9 : Hid (Mm w9 [(γ 5, ints .u8 (mt K N mo.f mo.n (szr K N 1 q.f (fun _ => 0) q.n) q.n) 16), (γs5, ints .u8 (szr K N 1 q.f (fun _ => 0) q.n) (q.n + 16))] ∧ _) := growB H8 hM (Nat.le_refl _) hl [5] rfl (by decide)
  have o7_5 := ownB H8 hM (Nat.le_refl _) hl (i := 5) rfl
  clear hM hl l H8
  generalize γ 5 = γ7_5 at H9 o7_5 ⊢
  clear γ
  refine rest0 rfl (then_normal (wp_seq ?_))
  refine walk_anyB 5 [.quiet (.slice (some ⟨γs5, 0, none⟩) (q.n + 16) (q.n + 16)), .quiet (.slice q.p q.n q.cp), .quiet (.int .i64 ((q.n : Nat) : Int)), .quiet (.slice (some ⟨γs5, (0 + q.n), none⟩) ((q.n + 16) - q.n) ((q.n + 16) - q.n)), .quiet (.slice (some ⟨γ7_5, 0, none⟩) 16 16)] H9 ?ho8 ?he8
  case ho8 => exact ak (fun _ => ⟨rfl, fun _ _ => rfl⟩) (ak (fun _ => ⟨rfl, fun _ _ => rfl⟩) (ak (by refine fun γ => ⟨rfl, fun w' h => ?_⟩; clear h; go_simp) (ak (fun γ => ⟨rfl, fun w' _ => ex_slT (l := q.n) rfl rfl rfl (by omega) (by omega)⟩) (ak (by refine fun γ => ⟨rfl, fun w' h => ?_⟩; clear h; go_simp) trivial))))
  intro _ w10 H10
  clear H9
  refine rest_at (l := [5]) rfl ?_
  refine rest_set (d := 49) (v := .int .i64 ((16 : Nat) : Int)) (w' := w10.setCells γs5 (0 + q.n) (ints .u8 (mt K N mo.f mo.n (szr K N 1 q.f (fun _ => 0) q.n) q.n) 16)) rfl rfl rfl (ex_copyR (mm := 16) H10.out.1 1 rfl ((H10.out.1.rs 0 rfl (Nat.le_refl _)).at_) (show 16 = min 16 (q.n + 16 - q.n) by omega) (by omega) rfl rfl rfl) ?_
  simp only [Act.put, sa, sz, ss]
  have H11 : Hid (Mm (w10.setCells γs5 (0 + q.n) (ints .u8 (mt K N mo.f mo.n (szr K N 1 q.f (fun _ => 0) q.n) q.n) 16)) [(γ7_5, ints .u8 (mt K N mo.f mo.n (szr K N 1 q.f (fun _ => 0) q.n) q.n) 16), (γs5, ints .u8 (py (szr K N 1 q.f (fun _ => 0) q.n) (0 + q.n) 16 (mt K N mo.f mo.n (szr K N 1 q.f (fun _ => 0) q.n) q.n)) (q.n + 16))] ∧ Below w.heap.size w (w10.setCells γs5 (0 + q.n) (ints .u8 (mt K N mo.f mo.n (szr K N 1 q.f (fun _ => 0) q.n) q.n) 16))) := ⟨by
    have h := H10.out.1.put 1 (off := (0 + q.n)) (vs := ints .u8 (mt K N mo.f mo.n (szr K N 1 q.f (fun _ => 0) q.n) q.n) 16) rfl (by rw [ints_len, ints_len]; omega)
    rw [ints_part _ _ (by omega)] at h
    exact h, below_setCells _ o_γs5.out _ _ _ H10.out.2⟩
  clear H10
  generalize hgw : World.setCells _ _ _ _ = w11 at H11 ⊢
  clear hgw
  refine rest_nil (then_normal (wp_seq ?_))
  refine walk_seqB 3 [.quiet (.slice (some ⟨γs5, 0, none⟩) (q.n + 16) (q.n + 16)), .quiet (.slice (some ⟨γs5, 0, none⟩) (q.n + 16) (q.n + 16)), .quiet (.int .i64 0)] H11 ?ho9 ?he9
  case ho9 => exact ak (fun _ => ⟨rfl, fun _ _ => rfl⟩) (ak (fun _ => ⟨rfl, fun _ _ => rfl⟩) (ak (fun _ => ⟨rfl, fun _ _ => rfl⟩) trivial))
  intro _ w12 H12
  clear H11
  refine rest0 rfl (then_normal (wp_ret ?_))
  repeat (first | refine then_ret ?_ | refine block_ret ?_)
  refine bodyPost_ret (v := .tuple #[.slice (some ⟨γs5, 0, none⟩) (q.n + 16) (q.n + 16), .int .i64 0]) (by simp [results, Try.results18, go_sem, *]) rfl ?_
  have hM := H12.out.1.one 1 rfl
  rw [ints_congr (seal_eq K N q.f mo.f q.n mo.n)] at hM
  exact ⟨H12.out.2, _, rfl, o_γs5.out, (hM.blk _ (List.mem_singleton.2 rfl)).1, (hM.blk _ (List.mem_singleton.2 rfl)).2⟩
theorem Rs.head {g o n m : Nat} {f : Nat → Nat} {w : World} (h : Rs g o n f w) (hm : m ≤ n) : Rs g o m f w := ⟨fun h0 => h.lt (by omega), fun i hi => h.at_ i (by omega)⟩
set_option maxHeartbeats 2000000 in
set_option maxRecDepth 100000 in
theorem POpen_bad (K N : Nat → Nat) (gk ok ck gn on cn : Nat) (hck : 32 ≤ ck) (hcn : 12 ≤ cn) (P : Nat → Nat) (gb ob n cb : Nat) (mo : Pt8) (hmo : Pok mo) (hP : ∀ j, P j < 256) (hfmo : ∀ j, mo.f j < 256) (h16 : 16 ≤ n) (hcb : n ≤ cb) (hl : n ≤ 1048592) (hm : mo.n ≤ 1048576) (hT : ¬ (∀ j, j < 16 → mt K N mo.f mo.n P (n - 16) j = P ((n - 16) + j))) (w : World) (hRk : Rs gk ok 32 K w) (hRn : Rs gn on 12 N w) (hRb : Rs gb ob n P w) (hRm : mo.rs w) :
    Calls Try.prog 20 #[.slice (some ⟨gk, ok, none⟩) 32 ck, .slice (some ⟨gn, on, none⟩) 12 cn, .slice (some ⟨gb, ob, none⟩) n cb, .slice mo.p mo.n mo.cp] w fun e w' => e = .returned (.tuple #[.slice none 0 0, .int .i64 200]) ∧ Below w.heap.size w w' := by
  have H0 : Hid (_ ∧ _) := ⟨Mm.nil w, Below.refl w.heap.size w⟩
  have RK : Hid (Rs gk ok 32 K w) := hRk
  have RN : Hid (Rs gn on 12 N w) := hRn
  have RB : Hid (Rs gb ob n P w) := hRb
  have RM : Hid (mo.rs w) := hRm
  clear hRk hRn hRb hRm
  go_enter Try.func20, Try.ntmps20
  refine wp_seq ?_
  refine walk_seqB 2 [.quiet (.slice none 0 0), .quiet (.int .i64 0)] H0 ?ho1 ?he1
  case ho1 => exact ak (fun _ => ⟨rfl, fun _ _ => rfl⟩) (ak (fun _ => ⟨rfl, fun _ _ => rfl⟩) trivial)
  intro _ w1 H1
  refine rest0 rfl (then_normal (wp_seq (wp_seq ?_)))
  refine walk_seqB 4 [.quiet (.slice (some ⟨gk, ok, none⟩) 32 ck), .quiet (.slice (some ⟨gn, on, none⟩) 12 cn), .call (.bool true), .quiet (.bool false)] H1 ?ho2 ?he2
  case ho2 => exact ak (fun _ => ⟨rfl, fun _ _ => rfl⟩) (ak (fun _ => ⟨rfl, fun _ _ => rfl⟩) (ak (fun γ => ⟨rfl, fun w' h => ⟨27, #[.slice (some ⟨gk, ok, none⟩) 32 ck, .slice (some ⟨gn, on, none⟩) 12 cn], exec_call rfl call27 rfl (mpn rfl), fit_yes _ _ 32 12 _ _ rfl rfl w'⟩⟩) (ak (by refine fun γ => ⟨rfl, fun w' h => ?_⟩; clear h; go_simp) trivial)))
  intro _ w2 H2
  clear H1
  refine rest0 rfl (then_normal (wp_cond_false rfl ?_))
  refine wp_skip (then_normal ?_)
  refine wp_seq (wp_seq ?_)
  refine walk_seqB 8 [.quiet (.slice (some ⟨gb, ob, none⟩) n cb), .quiet (.int .i64 ((n : Nat) : Int)), .quiet (.bool false), .quiet (.bool false), .quiet (.slice mo.p mo.n mo.cp), .quiet (.int .i64 ((mo.n : Nat) : Int)), .quiet (.bool false), .quiet (.bool false)] H2 ?ho3 ?he3
  case ho3 => exact ak (fun _ => ⟨rfl, fun _ _ => rfl⟩) (ak (by refine fun γ => ⟨rfl, fun w' h => ?_⟩; clear h; go_simp) (ak (by refine fun γ => ⟨rfl, fun w' h => ?_⟩; clear h; go_simp <;> omega) (ak (fun _ => ⟨rfl, fun _ _ => rfl⟩) (ak (fun _ => ⟨rfl, fun _ _ => rfl⟩) (ak (by refine fun γ => ⟨rfl, fun w' h => ?_⟩; clear h; go_simp) (ak (by refine fun γ => ⟨rfl, fun w' h => ?_⟩; clear h; go_simp <;> omega) (ak (by refine fun γ => ⟨rfl, fun w' h => ?_⟩; clear h; go_simp) trivial)))))))
  intro _ w3 H3
  clear H2
  refine rest0 rfl (then_normal (wp_cond_false rfl ?_))
  refine wp_skip (then_normal ?_)
  refine wp_seq (wp_seq ?_)
  refine walk_seqB 3 [.quiet (.slice (some ⟨gb, ob, none⟩) n cb), .quiet (.int .i64 ((n : Nat) : Int)), .quiet (.bool false)] H3 ?ho4 ?he4
  case ho4 => exact ak (fun _ => ⟨rfl, fun _ _ => rfl⟩) (ak (by refine fun γ => ⟨rfl, fun w' h => ?_⟩; clear h; go_simp) (ak (by refine fun γ => ⟨rfl, fun w' h => ?_⟩; clear h; go_simp <;> omega) trivial))
  intro _ w4 H4
  clear H3
  refine rest0 rfl (then_normal (wp_cond_false rfl ?_))
  refine wp_skip (then_normal (wp_seq ?_))
  refine walk_seqB 4 [.quiet (.slice (some ⟨gb, ob, none⟩) n cb), .quiet (.int .i64 ((n : Nat) : Int)), .quiet (.int .i64 ((n - 16 : Nat) : Int)), .quiet (.int .i64 ((n - 16 : Nat) : Int))] H4 ?ho5 ?he5
  case ho5 => exact ak (fun _ => ⟨rfl, fun _ _ => rfl⟩) (ak (by refine fun γ => ⟨rfl, fun w' h => ?_⟩; clear h; go_simp) (ak (by refine fun γ => ⟨rfl, fun w' h => ?_⟩; clear h; go_simp; rw [IntKind.wrap_i64]; omega) (ak (fun _ => ⟨rfl, fun _ _ => rfl⟩) trivial)))
  intro _ w5 H5
  clear H4
  refine rest0 rfl (then_normal (wp_seq ?_))
  refine walk_seqB 4 [.quiet (.slice (some ⟨gb, ob, none⟩) n cb), .quiet (.int .i64 ((n - 16 : Nat) : Int)), .quiet (.slice (some ⟨gb, ob, none⟩) (n - 16) cb), .quiet (.slice (some ⟨gb, ob, none⟩) (n - 16) cb)] H5 ?ho6 ?he6
  case ho6 => exact ak (fun _ => ⟨rfl, fun _ _ => rfl⟩) (ak (fun _ => ⟨rfl, fun _ _ => rfl⟩) (ak (fun γ => ⟨rfl, fun w' _ => ex_slH22 (l := n - 16) rfl rfl rfl (by omega)⟩) (ak (fun _ => ⟨rfl, fun _ _ => rfl⟩) trivial)))
  intro _ w6 H6
  clear H5
  refine rest0 rfl (then_normal (wp_seq (wp_seq ?_)))
  refine (walk_any) (by kernel_rfl) 12 [.quiet (.slice (some ⟨gk, ok, none⟩) 32 ck), .quiet (.slice (some ⟨gn, on, none⟩) 12 cn), .quiet (.slice (some ⟨gb, ob, none⟩) (n - 16) cb), .quiet (.slice mo.p mo.n mo.cp), .call (.agg (ints .u8 (mt K N mo.f mo.n P (n - 16)) 16).toArray), .quiet (.slice (some ⟨gb, ob, none⟩) n cb), .quiet (.int .i64 ((n - 16 : Nat) : Int)), .quiet (.slice (some ⟨gb, (ob + (n - 16)), none⟩) (n - (n - 16)) (cb - (n - 16))), .quiet (PT gb (ob + (n - 16))), .quiet (.agg (ints .u8 (fun j => P ((n - 16) + j)) 16).toArray), .call (.bool false), .quiet (.bool true)] (fun u' => Mm u' [] ∧ (Rs gk ok 32 K u' ∧ Rs gn on 12 N u' ∧ Rs gb ob n P u' ∧ mo.rs u')) ?pre7 ?F7 ?hpre7 (fun γ => ?hF7) (by kernel_rfl) ?hL7 ?hS7 ?ho7 ?he7
  case hpre7 => simp only [tk, tz]; rfl
  case hF7 => simp only [fill, Kind.val, Act.put, sa, sz, ss]; rfl
  case hL7 => exact trivial
  case hS7 => exact fun w' hb => ⟨H6.out.1.below hb, ⟨RK.out.below (H6.out.2.trans (hb.mono H6.out.2.size)), RN.out.below (H6.out.2.trans (hb.mono H6.out.2.size)), RB.out.below (H6.out.2.trans (hb.mono H6.out.2.size)), RM.out.below (H6.out.2.trans (hb.mono H6.out.2.size))⟩⟩
  case ho7 =>
    refine ak (fun _ => ⟨rfl, fun _ _ => rfl⟩) ?_
    refine ak (fun _ => ⟨rfl, fun _ _ => rfl⟩) ?_
    refine ak (fun _ => ⟨rfl, fun _ _ => rfl⟩) ?_
    refine ak (fun _ => ⟨rfl, fun _ _ => rfl⟩) ?_
    refine ak (fun γ => ⟨rfl, fun w' hX => ⟨40, #[.slice (some ⟨gk, ok, none⟩) 32 ck, .slice (some ⟨gn, on, none⟩) 12 cn, .slice (some ⟨gb, ob, none⟩) (n - 16) cb, .slice mo.p mo.n mo.cp], exec_call rfl call40 rfl (mpn rfl), sealTag_any K N gk ok ck gn on cn hck hcn (pa gb ob (n - 16) cb P) mo (pa_ok gb ob P (by omega)) hmo hP hfmo (by show n - 16 ≤ 1048592; omega) (by omega) w' hX.2.1 hX.2.2.1 (Rs.head hX.2.2.2.1 (Nat.sub_le _ _)) hX.2.2.2.2⟩⟩) ?_
    refine ak (fun _ => ⟨rfl, fun _ _ => rfl⟩) ?_
    refine ak (fun _ => ⟨rfl, fun _ _ => rfl⟩) ?_
    refine ak (fun γ => ⟨rfl, fun w' _ => ex_slT (l := n - 16) rfl rfl rfl (by omega) (by omega)⟩) ?_
    refine ak (fun γ => ⟨rfl, fun w' _ => ex_toArr rfl rfl (by omega)⟩) ?_
    refine ak (fun γ => ⟨rfl, fun w' hX => ex_ldA (hX.2.2.2.1.part (n - 16)) (by omega) rfl rfl⟩) ?_
    refine ak (fun γ => ⟨rfl, fun w' hX => ⟨42, #[.agg (ints .u8 (mt K N mo.f mo.n P (n - 16)) 16).toArray, .agg (ints .u8 (fun j => P ((n - 16) + j)) 16).toArray], exec_call rfl call42 rfl (mpn rfl), psame_any _ _ (mt_256 _ _ _ _ _ _) (fun j => hP _) false (by simpa using hT) w'⟩⟩) ?_
    refine ak (by refine fun γ => ⟨rfl, fun w' h => ?_⟩; clear h; go_simp) ?_
    exact trivial
  intro γ w7 l hM hl
  have H7 := keepB H6 hM.below
  clear hM hl l H6 γ
  refine rest0 rfl (then_normal (wp_cond_true rfl (wp_seq ?_)))
  refine walk_seqB 2 [.quiet (.slice none 0 0), .quiet (.int .i64 200)] H7 ?ho8 ?he8
  case ho8 => exact ak (fun _ => ⟨rfl, fun _ _ => rfl⟩) (ak (fun _ => ⟨rfl, fun _ _ => rfl⟩) trivial)
  intro _ w8 H8
  clear H7
  refine rest0 rfl (then_normal (wp_ret ?_))
  repeat (first | refine then_ret ?_ | refine block_ret ?_)
  refine bodyPost_ret (v := .tuple #[.slice none 0 0, .int .i64 200]) (by simp [results, Try.results20, go_sem, *]) rfl ?_
  exact ⟨rfl, H8.out.2⟩
set_option maxHeartbeats 2000000 in
set_option maxRecDepth 100000 in
theorem POpen_ok (K N : Nat → Nat) (gk ok ck gn on cn : Nat) (hck : 32 ≤ ck) (hcn : 12 ≤ cn) (P : Nat → Nat) (gb ob n cb : Nat) (mo : Pt8) (hmo : Pok mo) (hP : ∀ j, P j < 256) (hfmo : ∀ j, mo.f j < 256) (h16 : 16 ≤ n) (hcb : n ≤ cb) (hl : n ≤ 1048592) (hm : mo.n ≤ 1048576) (hT : ∀ j, j < 16 → mt K N mo.f mo.n P (n - 16) j = P ((n - 16) + j)) (w : World) (hRk : Rs gk ok 32 K w) (hRn : Rs gn on 12 N w) (hRb : Rs gb ob n P w) (hRm : mo.rs w) :
    Calls Try.prog 20 #[.slice (some ⟨gk, ok, none⟩) 32 ck, .slice (some ⟨gn, on, none⟩) 12 cn, .slice (some ⟨gb, ob, none⟩) n cb, .slice mo.p mo.n mo.cp] w fun e w' => Below w.heap.size w w' ∧ ∃ g, e = .returned (.tuple #[.slice (some ⟨g, 0, none⟩) (n - 16) (n - 16), .int .i64 0]) ∧ w.heap.size ≤ g ∧ g < w'.heap.size ∧ Blk w' g (ints .u8 (so K N 1 P) (n - 16)) := by
  have H0 : Hid (_ ∧ _) := ⟨Mm.nil w, Below.refl w.heap.size w⟩
  have RK : Hid (Rs gk ok 32 K w) := hRk
  have RN : Hid (Rs gn on 12 N w) := hRn
  have RB : Hid (Rs gb ob n P w) := hRb
  have RM : Hid (mo.rs w) := hRm
  clear hRk hRn hRb hRm
  go_enter Try.func20, Try.ntmps20
  refine wp_seq ?_
  refine walk_seqB 2 [.quiet (.slice none 0 0), .quiet (.int .i64 0)] H0 ?ho1 ?he1
  case ho1 => exact ak (fun _ => ⟨rfl, fun _ _ => rfl⟩) (ak (fun _ => ⟨rfl, fun _ _ => rfl⟩) trivial)
  intro _ w1 H1
  refine rest0 rfl (then_normal (wp_seq (wp_seq ?_)))
  refine walk_seqB 4 [.quiet (.slice (some ⟨gk, ok, none⟩) 32 ck), .quiet (.slice (some ⟨gn, on, none⟩) 12 cn), .call (.bool true), .quiet (.bool false)] H1 ?ho2 ?he2
  case ho2 => exact ak (fun _ => ⟨rfl, fun _ _ => rfl⟩) (ak (fun _ => ⟨rfl, fun _ _ => rfl⟩) (ak (fun γ => ⟨rfl, fun w' h => ⟨27, #[.slice (some ⟨gk, ok, none⟩) 32 ck, .slice (some ⟨gn, on, none⟩) 12 cn], exec_call rfl call27 rfl (mpn rfl), fit_yes _ _ 32 12 _ _ rfl rfl w'⟩⟩) (ak (by refine fun γ => ⟨rfl, fun w' h => ?_⟩; clear h; go_simp) trivial)))
  intro _ w2 H2
  clear H1
  refine rest0 rfl (then_normal (wp_cond_false rfl ?_))
  refine wp_skip (then_normal ?_)
  refine wp_seq (wp_seq ?_)
  refine walk_seqB 8 [.quiet (.slice (some ⟨gb, ob, none⟩) n cb), .quiet (.int .i64 ((n : Nat) : Int)), .quiet (.bool false), .quiet (.bool false), .quiet (.slice mo.p mo.n mo.cp), .quiet (.int .i64 ((mo.n : Nat) : Int)), .quiet (.bool false), .quiet (.bool false)] H2 ?ho3 ?he3
  case ho3 => exact ak (fun _ => ⟨rfl, fun _ _ => rfl⟩) (ak (by refine fun γ => ⟨rfl, fun w' h => ?_⟩; clear h; go_simp) (ak (by refine fun γ => ⟨rfl, fun w' h => ?_⟩; clear h; go_simp <;> omega) (ak (fun _ => ⟨rfl, fun _ _ => rfl⟩) (ak (fun _ => ⟨rfl, fun _ _ => rfl⟩) (ak (by refine fun γ => ⟨rfl, fun w' h => ?_⟩; clear h; go_simp) (ak (by refine fun γ => ⟨rfl, fun w' h => ?_⟩; clear h; go_simp <;> omega) (ak (by refine fun γ => ⟨rfl, fun w' h => ?_⟩; clear h; go_simp) trivial)))))))
  intro _ w3 H3
  clear H2
  refine rest0 rfl (then_normal (wp_cond_false rfl ?_))
  refine wp_skip (then_normal ?_)
  refine wp_seq (wp_seq ?_)
  refine walk_seqB 3 [.quiet (.slice (some ⟨gb, ob, none⟩) n cb), .quiet (.int .i64 ((n : Nat) : Int)), .quiet (.bool false)] H3 ?ho4 ?he4
  case ho4 => exact ak (fun _ => ⟨rfl, fun _ _ => rfl⟩) (ak (by refine fun γ => ⟨rfl, fun w' h => ?_⟩; clear h; go_simp) (ak (by refine fun γ => ⟨rfl, fun w' h => ?_⟩; clear h; go_simp <;> omega) trivial))
  intro _ w4 H4
  clear H3
  refine rest0 rfl (then_normal (wp_cond_false rfl ?_))
  refine wp_skip (then_normal (wp_seq ?_))
  refine walk_seqB 4 [.quiet (.slice (some ⟨gb, ob, none⟩) n cb), .quiet (.int .i64 ((n : Nat) : Int)), .quiet (.int .i64 ((n - 16 : Nat) : Int)), .quiet (.int .i64 ((n - 16 : Nat) : Int))] H4 ?ho5 ?he5
  case ho5 => exact ak (fun _ => ⟨rfl, fun _ _ => rfl⟩) (ak (by refine fun γ => ⟨rfl, fun w' h => ?_⟩; clear h; go_simp) (ak (by refine fun γ => ⟨rfl, fun w' h => ?_⟩; clear h; go_simp; rw [IntKind.wrap_i64]; omega) (ak (fun _ => ⟨rfl, fun _ _ => rfl⟩) trivial)))
  intro _ w5 H5
  clear H4
  refine rest0 rfl (then_normal (wp_seq ?_))
  refine walk_seqB 4 [.quiet (.slice (some ⟨gb, ob, none⟩) n cb), .quiet (.int .i64 ((n - 16 : Nat) : Int)), .quiet (.slice (some ⟨gb, ob, none⟩) (n - 16) cb), .quiet (.slice (some ⟨gb, ob, none⟩) (n - 16) cb)] H5 ?ho6 ?he6
  case ho6 => exact ak (fun _ => ⟨rfl, fun _ _ => rfl⟩) (ak (fun _ => ⟨rfl, fun _ _ => rfl⟩) (ak (fun γ => ⟨rfl, fun w' _ => ex_slH22 (l := n - 16) rfl rfl rfl (by omega)⟩) (ak (fun _ => ⟨rfl, fun _ _ => rfl⟩) trivial)))
  intro _ w6 H6
  clear H5
  refine rest0 rfl (then_normal (wp_seq (wp_seq ?_)))
  refine (walk_any) (by kernel_rfl) 12 [.quiet (.slice (some ⟨gk, ok, none⟩) 32 ck), .quiet (.slice (some ⟨gn, on, none⟩) 12 cn), .quiet (.slice (some ⟨gb, ob, none⟩) (n - 16) cb), .quiet (.slice mo.p mo.n mo.cp), .call (.agg (ints .u8 (mt K N mo.f mo.n P (n - 16)) 16).toArray), .quiet (.slice (some ⟨gb, ob, none⟩) n cb), .quiet (.int .i64 ((n - 16 : Nat) : Int)), .quiet (.slice (some ⟨gb, (ob + (n - 16)), none⟩) (n - (n - 16)) (cb - (n - 16))), .quiet (PT gb (ob + (n - 16))), .quiet (.agg (ints .u8 (fun j => P ((n - 16) + j)) 16).toArray), .call (.bool true), .quiet (.bool false)] (fun u' => Mm u' [] ∧ (Rs gk ok 32 K u' ∧ Rs gn on 12 N u' ∧ Rs gb ob n P u' ∧ mo.rs u')) ?pre7 ?F7 ?hpre7 (fun γ => ?hF7) (by kernel_rfl) ?hL7 ?hS7 ?ho7 ?he7
  case hpre7 => simp only [tk, tz]; rfl
  case hF7 => simp only [fill, Kind.val, Act.put, sa, sz, ss]; rfl
  case hL7 => exact trivial
  case hS7 => exact fun w' hb => ⟨H6.out.1.below hb, ⟨RK.out.below (H6.out.2.trans (hb.mono H6.out.2.size)), RN.out.below (H6.out.2.trans (hb.mono H6.out.2.size)), RB.out.below (H6.out.2.trans (hb.mono H6.out.2.size)), RM.out.below (H6.out.2.trans (hb.mono H6.out.2.size))⟩⟩
  case ho7 =>
    refine ak (fun _ => ⟨rfl, fun _ _ => rfl⟩) ?_
    refine ak (fun _ => ⟨rfl, fun _ _ => rfl⟩) ?_
    refine ak (fun _ => ⟨rfl, fun _ _ => rfl⟩) ?_
    refine ak (fun _ => ⟨rfl, fun _ _ => rfl⟩) ?_
    refine ak (fun γ => ⟨rfl, fun w' hX => ⟨40, #[.slice (some ⟨gk, ok, none⟩) 32 ck, .slice (some ⟨gn, on, none⟩) 12 cn, .slice (some ⟨gb, ob, none⟩) (n - 16) cb, .slice mo.p mo.n mo.cp], exec_call rfl call40 rfl (mpn rfl), sealTag_any K N gk ok ck gn on cn hck hcn (pa gb ob (n - 16) cb P) mo (pa_ok gb ob P (by omega)) hmo hP hfmo (by show n - 16 ≤ 1048592; omega) (by omega) w' hX.2.1 hX.2.2.1 (Rs.head hX.2.2.2.1 (Nat.sub_le _ _)) hX.2.2.2.2⟩⟩) ?_
    refine ak (fun _ => ⟨rfl, fun _ _ => rfl⟩) ?_
    refine ak (fun _ => ⟨rfl, fun _ _ => rfl⟩) ?_
    refine ak (fun γ => ⟨rfl, fun w' _ => ex_slT (l := n - 16) rfl rfl rfl (by omega) (by omega)⟩) ?_
    refine ak (fun γ => ⟨rfl, fun w' _ => ex_toArr rfl rfl (by omega)⟩) ?_
    refine ak (fun γ => ⟨rfl, fun w' hX => ex_ldA (hX.2.2.2.1.part (n - 16)) (by omega) rfl rfl⟩) ?_
    refine ak (fun γ => ⟨rfl, fun w' hX => ⟨42, #[.agg (ints .u8 (mt K N mo.f mo.n P (n - 16)) 16).toArray, .agg (ints .u8 (fun j => P ((n - 16) + j)) 16).toArray], exec_call rfl call42 rfl (mpn rfl), psame_any _ _ (mt_256 _ _ _ _ _ _) (fun j => hP _) true (⟨fun _ => hT, fun _ => rfl⟩) w'⟩⟩) ?_
    refine ak (by refine fun γ => ⟨rfl, fun w' h => ?_⟩; clear h; go_simp) ?_
    exact trivial
  intro γ w7 l hM hl
  have H7 := keepB H6 hM.below
  clear hM hl l H6 γ
  refine rest0 rfl (then_normal (wp_cond_false rfl ?_))
  refine wp_skip (then_normal (wp_seq ?_))
  refine walk_seqB 1 [.quiet (.int .i64 ((n - 16 : Nat) : Int))] H7 ?ho8 ?he8
  case ho8 => exact ak (fun _ => ⟨rfl, fun _ _ => rfl⟩) trivial
  intro _ w8 H8
  clear H7
  refine rest_at (l := [1, 2]) rfl ?_
  refine rest_set (d := 47) (v := .slice (some ⟨w8.heap.size, 0, none⟩) (n - 16) (n - 16)) (w' := (w8.alloc (.cells (ints .u8 (fun _ => 0) (n - 16)).toArray 5))) rfl rfl rfl (ex_mkB (m := (n - 16)) (by omega) rfl rfl rfl) ?_
  simp only [Act.put, sa, sz, ss]
  have o_γs9 : Hid (w.heap.size ≤ w8.heap.size) := H8.out.2.size
  have H9 : Hid (Mm (w8.alloc (.cells (ints .u8 (fun _ => 0) (n - 16)).toArray 5)) ((w8.heap.size, ints .u8 (fun _ => 0) (n - 16)) :: []) ∧ Below w.heap.size w (w8.alloc (.cells (ints .u8 (fun _ => 0) (n - 16)).toArray 5))) := ⟨H8.out.1.alloc _ 5 rfl, H8.out.2.alloc H8.out.2.size _⟩
  clear H8
  generalize hgw : (w8.alloc (.cells (ints .u8 (fun _ => 0) (n - 16)).toArray 5)) = w9 at H9 ⊢
  clear hgw
  generalize w8.heap.size = γs9 at o_γs9 H9 ⊢
  refine rest_set (d := 12) (v := .slice (some ⟨γs9, 0, none⟩) (n - 16) (n - 16)) (w' := w9) rfl rfl rfl rfl ?_
  simp only [Act.put, sa, sz, ss]
  refine rest_nil (then_normal (wp_seq ?_))
  refine (walk_seq) 5 [.quiet (.slice (some ⟨γs9, 0, none⟩) (n - 16) (n - 16)), .quiet (.slice (some ⟨gk, ok, none⟩) 32 ck), .quiet (.slice (some ⟨gn, on, none⟩) 12 cn), .call (.agg (ints .u32 (k3 K N 1 3) 16).toArray), .quiet (.slice (some ⟨gb, ob, none⟩) (n - 16) cb)] (fun u' => Mm u' [(γs9, ints .u8 (fun _ => 0) (n - 16))] ∧ (Rs gk ok 32 K u' ∧ Rs gn on 12 N u' ∧ Rs gb ob n P u' ∧ mo.rs u')) ?pre9 ?F9 ?hpre9 (fun γ => ?hF9) (by kernel_rfl) ?hL9 ?hS9 ?ho9 ?he9
  case hpre9 => simp only [tk, tz]; rfl
  case hF9 => simp only [fill, Kind.val, Act.put, sa, sz, ss]; rfl
  case hL9 => exact trivial
  case hS9 => exact fun w' hb => ⟨H9.out.1.below hb, ⟨RK.out.below (H9.out.2.trans (hb.mono H9.out.2.size)), RN.out.below (H9.out.2.trans (hb.mono H9.out.2.size)), RB.out.below (H9.out.2.trans (hb.mono H9.out.2.size)), RM.out.below (H9.out.2.trans (hb.mono H9.out.2.size))⟩⟩
  case ho9 =>
    refine ak (fun _ => ⟨rfl, fun _ _ => rfl⟩) ?_
    refine ak (fun _ => ⟨rfl, fun _ _ => rfl⟩) ?_
    refine ak (fun _ => ⟨rfl, fun _ _ => rfl⟩) ?_
    refine ak (fun γ => ⟨rfl, fun w' hX => ⟨28, #[.slice (some ⟨gk, ok, none⟩) 32 ck, .slice (some ⟨gn, on, none⟩) 12 cn, .int .u32 1], exec_call rfl call28 rfl (mpn rfl), begun_any K N gk ok ck gn on cn 1 hck hcn w' hX.2.1 hX.2.2.1⟩⟩) ?_
    refine ak (fun _ => ⟨rfl, fun _ _ => rfl⟩) ?_
    exact trivial
  intro γ w10 l hM hl
  have H10 := keepB H9 hM.below
  clear hM hl l H9 γ
  refine rest_at (l := [5]) rfl ?_
  refine rest_enter (d := 53) (R := fun vv w' => vv = .tuple #[] ∧ Mm w' [(γs9, ints .u8 (szr K N 1 P (fun _ => 0) (n - 16)) (n - 16))] ∧ Kp γs9 w10 w') rfl rfl rfl (exec_call (args := #[.slice (some ⟨γs9, 0, none⟩) (n - 16) (n - 16), .agg (ints .u32 (k3 K N 1 3) 16).toArray, .slice (some ⟨gb, ob, none⟩) (n - 16) cb]) rfl call32 rfl (mpn rfl)) (Calls.mono (pstream_any K N (fun _ => 0) 1 γs9 (n - 16) (pa gb ob (n - 16) cb P) (by decide) (pa_ok gb ob P (by omega)) (fun hn => by have h1 := RB.out.lt (by omega); have h2 := o_γs9.out; show gb ≠ γs9; omega) (by show n - 16 ≤ 1048592; omega) (Nat.le_refl _) w10 (H10.out.1.one 0 rfl) (Rs.head (RB.out.below H10.out.2) (Nat.sub_le _ _))) (fun e w2 hh => ⟨_, hh.1, rfl, hh.2⟩)) ?_
  rintro _ w11 ⟨rfl, hn, hp⟩
  have H11 : Hid (Mm w11 [(γs9, ints .u8 (szr K N 1 P (fun _ => 0) (n - 16)) (n - 16))] ∧ Below w.heap.size w w11) := ⟨H10.out.1.change 0 rfl hp hn, Below.kp H10.out.2 hp o_γs9.out H10.out.2.size⟩
  clear hn hp H10
  simp only [Act.put, sa, sz, ss]
  refine rest_nil (then_normal (wp_seq ?_))
  refine walk_seqB 3 [.quiet (.slice (some ⟨γs9, 0, none⟩) (n - 16) (n - 16)), .quiet (.slice (some ⟨γs9, 0, none⟩) (n - 16) (n - 16)), .quiet (.int .i64 0)] H11 ?ho10 ?he10
  case ho10 => exact ak (fun _ => ⟨rfl, fun _ _ => rfl⟩) (ak (fun _ => ⟨rfl, fun _ _ => rfl⟩) (ak (fun _ => ⟨rfl, fun _ _ => rfl⟩) trivial))
  intro _ w12 H12
  clear H11
  refine rest0 rfl (then_normal (wp_ret ?_))
  repeat (first | refine then_ret ?_ | refine block_ret ?_)
  refine bodyPost_ret (v := .tuple #[.slice (some ⟨γs9, 0, none⟩) (n - 16) (n - 16), .int .i64 0]) (by simp [results, Try.results20, go_sem, *]) rfl ?_
  have hM := H12.out.1.one 0 rfl
  rw [ints_congr (szr_lt K N 1 P _ (n - 16))] at hM
  exact ⟨H12.out.2, _, rfl, o_γs9.out, (hM.blk _ (List.mem_singleton.2 rfl)).1, (hM.blk _ (List.mem_singleton.2 rfl)).2⟩
end Rg
end Go.Proofs.Ytkkippfikfjdpaa
end
section
namespace Go.Proofs.Ytkkippfikfjdpaa
open Go.RowKit
namespace Rg
set_option maxRecDepth 100000
/-- The number of a text's pieces, the last one with a byte 1 behind it. -/
def tga (r : Nat) (f : Nat → Nat) (n : Nat) : Nat := if n % 16 = 0 then pgs r 0 f (n / 16) else ga r (pgs r 0 f (n / 16)) (lst (fun j => f (16 * (n / 16) + j)) (n % 16))
end Rg
end Go.Proofs.Ytkkippfikfjdpaa
end
section
namespace Go.Proofs.Ytkkippfikfjdpaa
open Go.RowKit
namespace Rg
set_option maxRecDepth 100000
theorem Pt8.bsl {a : Pt8} {w : World} (h : Pok a) (hr : a.rs w) : BSl w ((List.range a.n).map fun i => ((a.f i : Nat) : Int)) a.cp (.slice a.p a.n a.cp) := by
  rcases Nat.eq_zero_or_pos a.n with e | e
  · rw [e]
    exact .void _ rfl
  · rw [h.at e]
    have hl : ((List.range a.n).map fun i => ((a.f i : Nat) : Int)).length = a.n := by simp
    have hb : BSl w ((List.range a.n).map fun i => ((a.f i : Nat) : Int)) a.cp (.slice (some ⟨a.gb, a.o, none⟩) ((List.range a.n).map fun i => ((a.f i : Nat) : Int)).length a.cp) :=
      .full a.gb a.o (hr.lt e) (by rw [hl]; exact h.le) (fun i hi => by
        rw [hl] at hi
        rw [hr.at_ i hi]
        simp [hi])
    rw [hl] at hb
    exact hb
theorem rng_eq {f g : Nat → Nat} {n m : Nat} : ((List.range n).map fun i => ((f i : Nat) : Int)) = ((List.range m).map fun i => ((g i : Nat) : Int)) ↔ n = m ∧ ∀ j, j < n → f j = g j := by
  constructor
  · intro h
    have hl : n = m := by simpa using congrArg List.length h
    subst hl
    refine ⟨rfl, fun j hj => ?_⟩
    have h2 := congrArg (fun l => l[j]?) h
    have h3 : ((f j : Nat) : Int) = ((g j : Nat) : Int) := by simpa [hj] using h2
    omega
  · rintro ⟨rfl, h⟩
    exact List.map_congr_left (fun j hj => by rw [h j (List.mem_range.1 hj)])
/-- SameBytes of any two parts. -/
theorem same_pt (a b : Pt8) (ha : Pok a) (hb : Pok b) (hfa : ∀ j, a.f j < 256) (hfb : ∀ j, b.f j < 256) (t : Bool) (ht : t = true ↔ a.n = b.n ∧ ∀ j, j < a.n → a.f j = b.f j) (w : World) (hRa : a.rs w) (hRb : b.rs w) : Calls Try.prog 15 #[.slice a.p a.n a.cp, .slice b.p b.n b.cp] w fun e w' => e = .returned (.bool t) ∧ Below w.heap.size w w' := by
  have h := same_all (fun x hx => by obtain ⟨i, _, rfl⟩ := List.mem_map.1 hx; have := hfa i; omega) (fun x hx => by obtain ⟨i, _, rfl⟩ := List.mem_map.1 hx; have := hfb i; omega) w (Pt8.bsl ha hRa) (Pt8.bsl hb hRb)
  refine Calls.mono h (fun e w' hh => ⟨?_, by rw [hh.2]; exact Below.refl _ _⟩)
  rw [hh.1]
  congr 2
  cases t with
  | true => exact decide_eq_true (rng_eq.2 (ht.1 rfl))
  | false => exact decide_eq_false (fun e => Bool.noConfusion (ht.2 (rng_eq.1 e)))
/-- No part. -/
def pno : Pt8 := ⟨0, 0, 0, 0, none, fun _ => 0⟩
theorem pno_ok : Pok pno := ⟨Bv.void _ _ _ _ _, Nat.le_refl _⟩
theorem pno_rs (w : World) : pno.rs w := Rs.void _ _ _ _
section
variable {ρ : Operand → Value} {o : Oper} {x y : Operand} {a b g : Nat} {w : World}
end
end Rg
end Go.Proofs.Ytkkippfikfjdpaa
end
section
namespace Go.Proofs.Ytkkippfikfjdpaa
open Go.RowKit
namespace Rg
set_option maxRecDepth 100000
theorem eb8_dg (n j : Nat) : eb8 n j = dg (c64 n) j := by
  unfold eb8 sr dg
  rw [show (2 : Nat) ^ (8 * j) = 256 ^ j by rw [Nat.pow_mul]]
theorem zf_up (n : Nat) : n + zf n = 16 * ((n + 15) / 16) := by
  unfold zf
  omega
theorem al_a {M S : Nat → Nat} {m s j : Nat} (h : j < m + zf m) : al M m S s j = kz M m j := by
  unfold al ct
  rw [if_pos (by omega), if_pos (by omega), if_pos h]
theorem al_b {M S : Nat → Nat} {m s j : Nat} (h : j < s + zf s) : al M m S s (m + zf m + j) = kz S s j := by
  unfold al ct
  rw [if_pos (by omega), if_pos (by omega), if_neg (by omega), Nat.add_sub_cancel_left]
theorem al_c {M S : Nat → Nat} {m s j : Nat} (h : j < 16) : al M m S s (m + zf m + (s + zf s) + j) = dg (c64 m + c64 s * 18446744073709551616) j := by
  rw [dg_two (show c64 m < 18446744073709551616 from Nat.mod_lt _ (by decide))]
  unfold al ct
  by_cases e : j < 8
  · rw [if_pos (by omega), if_neg (by omega), if_pos e, Nat.add_sub_cancel_left, eb8_dg]
  · rw [if_neg (by omega), if_neg e, eb8_dg]
    congr 1
    omega
/-- The tag's number of what is put together is that of the sealed text. -/
theorem tga_al (B M S : Nat → Nat) (m s : Nat) : tga (rk B) (al M m S s) (ll m s) = sgn B M m S s := by
  have e1 := zf_up m
  have e2 := zf_up s
  unfold tga ll
  rw [if_pos (by omega), show (m + zf m + (s + zf s) + 8 + 8) / 16 = (m + 15) / 16 + ((s + 15) / 16 + 1) by omega, pgs_add, pgs_succ]
  rw [pgs_cg (f := al M m S s) (f' := kz M m) (k := (m + 15) / 16) (fun j hj => al_a (by omega))]
  rw [pgs_cg (f := fun j => al M m S s (16 * ((m + 15) / 16) + j)) (f' := kz S s) (k := (s + 15) / 16) (fun j hj => by rw [← e1]; exact al_b (by omega))]
  rw [nv_cg (f := fun j => al M m S s (16 * ((m + 15) / 16) + (16 * ((s + 15) / 16) + j))) (g := dg (c64 m + c64 s * 18446744073709551616)) 16 (fun j hj => by
    show al M m S s (16 * ((m + 15) / 16) + (16 * ((s + 15) / 16) + j)) = _
    rw [← Nat.add_assoc, ← e1, ← e2]
    exact al_c hj)]
  rfl
theorem mm_ne {w : World} {l : List (Nat × List Value)} (h : Mm w l) (i j : Nat) {p q : Nat × List Value} (hi : l[i]? = some p) (hj : l[j]? = some q) (hij : i ≠ j) : p.1 ≠ q.1 := by
  have := (h.two i j hi hj hij).nd
  simp only [List.pairwise_cons, List.mem_singleton, forall_eq] at this
  exact this.1
end Rg
end Go.Proofs.Ytkkippfikfjdpaa
end
section
namespace Go.Proofs.Ytkkippfikfjdpaa
open Go.RowKit
namespace Rg
set_option maxRecDepth 100000
theorem and_split {a b c d k : Nat} (ha : a < 2 ^ k) (hc : c < 2 ^ k) : (a + b * 2 ^ k) &&& (c + d * 2 ^ k) = (a &&& c) + (b &&& d) * 2 ^ k := by
  have hp : 0 < 2 ^ k := Nat.two_pow_pos k
  have h1 := Nat.and_div_two_pow (a := a + b * 2 ^ k) (b := c + d * 2 ^ k) (n := k)
  have h2 := Nat.and_mod_two_pow (a := a + b * 2 ^ k) (b := c + d * 2 ^ k) (n := k)
  rw [Nat.add_mul_div_right _ _ hp, Nat.add_mul_div_right _ _ hp, Nat.div_eq_of_lt ha, Nat.div_eq_of_lt hc, Nat.zero_add, Nat.zero_add] at h1
  rw [Nat.add_mul_mod_self_right, Nat.add_mul_mod_self_right, Nat.mod_eq_of_lt ha, Nat.mod_eq_of_lt hc] at h2
  have h3 := Nat.mod_add_div ((a + b * 2 ^ k) &&& (c + d * 2 ^ k)) (2 ^ k)
  rw [h1, h2, Nat.mul_comm] at h3
  exact h3.symm
theorem nv_and {f g : Nat → Nat} : ∀ n, (∀ i, i < n → f i < 256) → (∀ i, i < n → g i < 256) → nv f n &&& nv g n = nv (fun i => f i &&& g i) n
  | 0, _, _ => Nat.and_self _
  | n + 1, hf, hg => by
    have e : (256 : Nat) ^ n = 2 ^ (8 * n) := by rw [Nat.pow_mul]
    have h1 := nv_lt n (fun i hi => hf i (by omega))
    have h2 := nv_lt n (fun i hi => hg i (by omega))
    rw [nv_succ, nv_succ, nv_succ, ← nv_and n (fun i hi => hf i (by omega)) (fun i hi => hg i (by omega))]
    rw [e] at h1 h2 ⊢
    exact and_split h1 h2
def mk1 (j : Nat) : Nat := [255, 255, 255, 15, 252, 255, 255, 15].getD j 0
def mk2 (j : Nat) : Nat := [252, 255, 255, 15, 252, 255, 255, 15].getD j 0
theorem a255 : ∀ a, a < 256 → a &&& 255 = a := by decide
theorem a15 : ∀ a, a < 256 → a &&& 15 = a % 16 := by decide
theorem a252 : ∀ a, a < 256 → a &&& 252 = a - a % 4 := by decide
theorem clq_0 {K : Nat → Nat} {j : Nat} (h : j < 16) (h1 : j % 4 ≠ 3) (h2 : j % 4 ≠ 0 ∨ j < 4) : clq K 3 j = K j := by
  unfold clq cl1 gr
  rw [if_neg (by omega), if_neg (by omega), if_pos h]
theorem clq_3 {K : Nat → Nat} {j : Nat} (h : j < 16) (h1 : j % 4 = 3) : clq K 3 j = K j % 16 := by
  unfold clq cl1
  rw [if_neg (by omega), if_pos (by omega)]
theorem clq_4 {K : Nat → Nat} {j : Nat} (h : j < 16) (h1 : j % 4 = 0) (h2 : 4 ≤ j) : clq K 3 j = K j - K j % 4 := by
  unfold clq
  rw [if_pos (by omega)]
theorem rk_clq {K : Nat → Nat} (hK : ∀ j, K j < 256) : rk K = nv (clq K 3) 34 := by
  rw [nv_more (f := clq K 3) (m := 16) (n := 34) (by decide) (fun i h1 _ => by unfold clq cl1 gr; rw [if_neg (by omega), if_neg (by omega), if_neg (by omega)]), nv16]
  unfold rk rl rh
  have e1 : nv K 8 &&& 1152921487695413247 = nv (clq K 3) 8 := by
    rw [show (1152921487695413247 : Nat) = nv mk1 8 from rfl, nv_and 8 (fun i _ => hK i) (fun i hi => by
      rcases (by omega : i = 0 ∨ i = 1 ∨ i = 2 ∨ i = 3 ∨ i = 4 ∨ i = 5 ∨ i = 6 ∨ i = 7) with rfl | rfl | rfl | rfl | rfl | rfl | rfl | rfl <;> decide)]
    refine nv_cg 8 (fun i hi => ?_)
    rcases (by omega : i = 0 ∨ i = 1 ∨ i = 2 ∨ i = 3 ∨ i = 4 ∨ i = 5 ∨ i = 6 ∨ i = 7) with rfl | rfl | rfl | rfl | rfl | rfl | rfl | rfl
    · rw [clq_0 (by decide) (by decide) (by decide)]; exact a255 _ (hK _)
    · rw [clq_0 (by decide) (by decide) (by decide)]; exact a255 _ (hK _)
    · rw [clq_0 (by decide) (by decide) (by decide)]; exact a255 _ (hK _)
    · rw [clq_3 (by decide) (by decide)]; exact a15 _ (hK _)
    · rw [clq_4 (by decide) (by decide) (by decide)]; exact a252 _ (hK _)
    · rw [clq_0 (by decide) (by decide) (by decide)]; exact a255 _ (hK _)
    · rw [clq_0 (by decide) (by decide) (by decide)]; exact a255 _ (hK _)
    · rw [clq_3 (by decide) (by decide)]; exact a15 _ (hK _)
  have e2 : nv (fun j => K (8 + j)) 8 &&& 1152921487695413244 = nv (fun j => clq K 3 (8 + j)) 8 := by
    rw [show (1152921487695413244 : Nat) = nv mk2 8 from rfl, nv_and 8 (fun i _ => hK _) (fun i hi => by
      rcases (by omega : i = 0 ∨ i = 1 ∨ i = 2 ∨ i = 3 ∨ i = 4 ∨ i = 5 ∨ i = 6 ∨ i = 7) with rfl | rfl | rfl | rfl | rfl | rfl | rfl | rfl <;> decide)]
    refine nv_cg 8 (fun i hi => ?_)
    rcases (by omega : i = 0 ∨ i = 1 ∨ i = 2 ∨ i = 3 ∨ i = 4 ∨ i = 5 ∨ i = 6 ∨ i = 7) with rfl | rfl | rfl | rfl | rfl | rfl | rfl | rfl
    · rw [clq_4 (by decide) (by decide) (by decide)]; exact a252 _ (hK _)
    · rw [clq_0 (by decide) (by decide) (by decide)]; exact a255 _ (hK _)
    · rw [clq_0 (by decide) (by decide) (by decide)]; exact a255 _ (hK _)
    · rw [clq_3 (by decide) (by decide)]; exact a15 _ (hK _)
    · rw [clq_4 (by decide) (by decide) (by decide)]; exact a252 _ (hK _)
    · rw [clq_0 (by decide) (by decide) (by decide)]; exact a255 _ (hK _)
    · rw [clq_0 (by decide) (by decide) (by decide)]; exact a255 _ (hK _)
    · rw [clq_3 (by decide) (by decide)]; exact a15 _ (hK _)
  rw [e1, e2]
theorem ga_mod (r a x : Nat) : ga r a x % P5 = (a % P5 + x) * r % P5 := by
  unfold ga
  rw [fN_mod, Nat.mul_mod, Nat.add_mod, ← Nat.mul_mod_mod, Nat.mod_mod]
  conv => rhs; rw [Nat.mul_mod, Nat.add_mod, Nat.mod_mod]
theorem bv_16 {P : Nat → Nat} {n k : Nat} (h : 16 * k + 16 ≤ n) : bv P n k = nv (fun j => P (16 * k + j)) 16 + 1 * 340282366920938463463374607431768211456 := by
  have e : bl n k = 16 := by unfold bl; omega
  unfold bv
  rw [e]
theorem pgs_tg (r : Nat) (P : Nat → Nat) (n : Nat) : ∀ k, 16 * k ≤ n → pgs r 0 P k % P5 = tg r P n k
  | 0, _ => by show 0 % P5 = 0; decide
  | k + 1, h => by
    rw [pgs_succ, ga_mod, pgs_tg r P n k (by omega), ← bv_16 (P := P) (n := n) (k := k) (by omega)]
    rfl
theorem tga_tg (r : Nat) (P : Nat → Nat) (n : Nat) : tga r P n % P5 = tg r P n ((n + 15) / 16) := by
  unfold tga
  by_cases h : n % 16 = 0
  · rw [if_pos h, show (n + 15) / 16 = n / 16 by omega]
    exact pgs_tg r P n _ (by omega)
  · rw [if_neg h, show (n + 15) / 16 = n / 16 + 1 by omega, ga_mod, pgs_tg r P n _ (by omega)]
    have e : bl n (n / 16) = n % 16 := by unfold bl; omega
    show (tg r P n (n / 16) + lst _ _) * r % P5 = (tg r P n (n / 16) + bv P n (n / 16)) * r % P5
    unfold lst bv
    rw [e]
theorem tga_ok {r : Nat} {P : Nat → Nat} (hr : Rk r) (hP : ∀ j, P j < 256) (n : Nat) : Ab (tga r P n) := by
  unfold tga
  by_cases h : n % 16 = 0
  · rw [if_pos h]
    exact pgs_ok hr ab_zero hP _
  · rw [if_neg h]
    exact ga_ok hr (pgs_ok hr ab_zero hP _) (lst_bd (fun j => hP _) (Nat.mod_lt _ (by decide)))
theorem dz_dg (z : Nat → Nat) {j : Nat} (hj : j < 16) : dz z j = dg (nv z 16) j := by
  have h1 := nv_digit (f := dz z) (n := 16) (i := j) (fun j _ => dz_lt z j) hj
  have h2 := nv_dz z 16
  have h3 := nv_lt (f := dz z) 16 (fun j _ => dz_lt z j)
  rw [← h1]
  refine dg_low ?_ j hj
  rw [← h2]
  rw [show (256 : Nat) ^ 16 = 340282366920938463463374607431768211456 from rfl] at h3 ⊢
  rw [Nat.add_mul_mod_self_right]
theorem tt_tb {a : Nat} (ha : Ab a) (K : Nat → Nat) {j : Nat} (hj : j < 16) : tt a (sk K) j = tb (a % P5) K j := by
  unfold tb
  rw [dz_dg _ hj]
  have e : nv (z2 (a % P5) K) 16 = a % P5 % 340282366920938463463374607431768211456 + sk K := by
    unfold z2 sk
    rw [nv_add, nv_dg]
  rw [e]
  unfold tt
  refine dg_low ?_ j hj
  unfold Ab at ha
  rw [show P5 = 1361129467683753853853498429727072845819 from rfl]
  have h2 : a < 1361129467683753853853498429727072845819 ∨ (1361129467683753853853498429727072845819 ≤ a ∧ a < 2722258935367507707706996859454145691638) := by omega
  rcases h2 with h | ⟨h, h3⟩
  · rw [Nat.mod_eq_of_lt h, show (a + 5) / 1361129467683753853853498429727072845824 = 0 from Nat.div_eq_of_lt (by omega)]
    omega
  · rw [show a % 1361129467683753853853498429727072845819 = a - 1361129467683753853853498429727072845819 by omega, show (a + 5) / 1361129467683753853853498429727072845824 = 1 by omega]
    omega
/-- The program's tag is the document's. -/
theorem tag_doc {K P : Nat → Nat} (hK : ∀ j, K j < 256) (hP : ∀ j, P j < 256) (n : Nat) {j : Nat} (hj : j < 16) : tt (tga (rk K) P n) (sk K) j = tb (tg (nv (clq K 3) 34) P n ((n + 15) / 16)) K j := by
  rw [tt_tb (tga_ok (rk_ok K) hP n) K hj, tga_tg, rk_clq hK]
/-- The program's tag of a sealed text is the document's. -/
theorem mt_mrk (K N : Nat → Nat) {M S : Nat → Nat} (hM : ∀ j, M j < 256) (hS : ∀ j, S j < 256) (m s : Nat) {j : Nat} (hj : j < 16) : mt K N M m S s j = mrk K N M m S s j := by
  unfold mt mrk
  rw [← tga_al, tag_doc (bk_256 K N 0) (al_256 hM hS m s) _ hj]
end Rg
end Go.Proofs.Ytkkippfikfjdpaa
end
section
namespace Go.Proofs.Ytkkippfikfjdpaa
open Go.RowKit
namespace Rg
set_option maxRecDepth 100000
/-- The program's answer: n bytes that f says, in memory of its own (or none). -/
structure Rz (r : Ap) (n : Nat) (f : Nat → Nat) (w w' : World) : Prop where
  ok : r.Ok
  len : r.n = n
  eq : ∀ j, j < n → r.f j = f j
  row : r.row r.f w'
  at_ : r.p ≠ none → w.heap.size ≤ r.g ∧ r.g < w'.heap.size
  b : Below w.heap.size w w'
/-- The document's answer: n bytes that f says. -/
structure Dz (t : Pt8) (n : Nat) (f : Nat → Nat) (w w' : World) : Prop where
  ok : Pok t
  by_ : ∀ j, t.f j < 256
  len : t.n = n
  eq : ∀ j, j < n → t.f j = f j
  rs : t.rs w'
  b : Below w.heap.size w w'
/-- No bytes beside an error. -/
def az (e n : Nat) : Nat := if e = 0 then n else 0
theorem az_no {e : Nat} (n : Nat) (h : e ≠ 0) : az e n = 0 := if_neg h
theorem rz_nil {f : Nat → Nat} {w w' : World} (hb : Below w.heap.size w w') : Rz apn 0 f w w' := ⟨apn_ok, rfl, fun _j h => absurd h (Nat.not_lt_zero _), .inl rfl, fun h => absurd rfl h, hb⟩
theorem rz_some {g n : Nat} {f : Nat → Nat} {w w' : World} (hn : n ≤ 1048576) (hf : ∀ j, f j < 256) (hb : Below w.heap.size w w') (h1 : w.heap.size ≤ g) (h2 : g < w'.heap.size) (h3 : Blk w' g (ints .u8 f n)) : Rz (ap g n n f) n f w w' :=
  ⟨⟨.inl rfl, Nat.le_refl _, hn, hf⟩, rfl, fun _ _ => rfl, .inr ⟨fun p hp => by rw [List.mem_singleton.1 hp]; exact ⟨h2, h3⟩, List.pairwise_singleton _ _⟩, fun _ => ⟨h1, h2⟩, hb⟩
theorem dz_nil {f : Nat → Nat} {w w' : World} (hb : Below w.heap.size w w') : Dz pno 0 f w w' := ⟨pno_ok, fun _ => (by decide : (0 : Nat) < 256), rfl, fun j h => absurd h (Nat.not_lt_zero _), pno_rs _, hb⟩
theorem dz_own {n B : Nat} {f : Nat → Nat} {v : Value} {w w' : World} (hf : ∀ j, f j < 256) (hb : Below w.heap.size w w') (h : w'.ownsRow B 5 1 v n (ints .u8 f n)) : ∃ t : Pt8, v = .slice t.p t.n t.cp ∧ Dz t n f w w' := by
  obtain ⟨t, rfl, h1, _, h2, h3, h4, _⟩ := own_part h
  exact ⟨t, rfl, h1, fun j => by rw [h3]; exact hf j, h2, fun j _ => by rw [h3], h4, hb⟩
/-- The program's answer, as it stays. -/
def Rw (r : Ap) (u : World) : Prop := r.row r.f u ∧ (r.p ≠ none → r.g < u.heap.size)
theorem Rw.below {r : Ap} {x y : World} (hb : Below x.heap.size x y) (h : Rw r x) : Rw r y := ⟨h.1.below hb, fun hp => Nat.lt_of_lt_of_le (h.2 hp) hb.size⟩
theorem Bk.of2 {w w1 w2 : World} {G : World → Prop} (h : Below w.heap.size w w1) (hb : Below w1.heap.size w1 w2) (st : ∀ {x y : World}, Below x.heap.size x y → G x → G y) (h2 : G w2) : Bk w G w2 := ⟨h.trans (hb.mono h.size), st, h2⟩
theorem Bk.and2 {w w1 w2 : World} {F G : World → Prop} (h : Bk w F w1) (hb : Below w1.heap.size w1 w2) (st : ∀ {x y : World}, Below x.heap.size x y → G x → G y) (h2 : G w2) : Bk w (fun u => F u ∧ G u) w2 := ⟨h.b.trans (hb.mono h.b.size), fun hb h' => ⟨h.st hb h'.1, st hb h'.2⟩, h.st hb h.r, h2⟩
theorem same_rt {r : Ap} {t : Pt8} {n : Nat} {f g : Nat → Nat} (hr : r.Ok ∧ r.n = n ∧ ∀ j, j < n → r.f j = f j) (ht : Pok t ∧ (∀ j, t.f j < 256) ∧ t.n = n ∧ ∀ j, j < n → t.f j = g j) (e : ∀ j, j < n → f j = g j) (w : World) (h1 : r.row r.f w) (h2 : t.rs w) :
    Calls Try.prog 15 #[.slice r.p r.n r.c, .slice t.p t.n t.cp] w fun e w' => e = .returned (.bool true) ∧ Below w.heap.size w w' := by
  obtain ⟨ho, hn, hf⟩ := hr
  obtain ⟨ht1, ht2, ht3, ht4⟩ := ht
  refine same_pt ⟨r.g, 0, r.n, r.c, r.p, r.f⟩ t ⟨?_, ho.le⟩ ht1 ho.by_ ht2 true ⟨fun _ => ⟨by show r.n = t.n; omega, fun j hj => ?_⟩, fun _ => rfl⟩ w ?_ h2
  · show Bv r.g 0 r.n r.c 0 (.slice r.p r.n r.c)
    rcases ho.at_ with e | ⟨_, e2, _⟩
    · rw [e]; exact Bv.start _ _ _ _
    · rw [e2]; exact Bv.void _ _ _ _ _
  · have hj' : j < n := by rw [← hn]; exact hj
    show r.f j = t.f j
    rw [hf j hj', ht4 j hj', e j hj']
  · show Rs r.g 0 r.n r.f w
    rcases h1 with e | hm
    · rcases ho.at_ with e2 | ⟨_, e2, _⟩
      · exact absurd (e2.symm.trans e) (by simp)
      · rw [e2]; exact Rs.void _ _ _ _
    · exact hm.rs 0 rfl ho.le
theorem apart4g {w : World} {gs : Nat} {A0 A1 A2 A3 : Ap} (h0 : A0.Ok) (h1 : A1.Ok) (h2 : A2.Ok) (h3 : A3.Ok) (r0 : A0.row A0.f w) (r1 : A1.row A1.f w) (r2 : A2.row A2.f w) (r3 : A3.row A3.f w) (n01 : A0.p ≠ none → A1.p ≠ none → A0.g ≠ A1.g) (n02 : A0.p ≠ none → A2.p ≠ none → A0.g ≠ A2.g) (n03 : A0.p ≠ none → A3.p ≠ none → A0.g ≠ A3.g) (n12 : A1.p ≠ none → A2.p ≠ none → A1.g ≠ A2.g) (n13 : A1.p ≠ none → A3.p ≠ none → A1.g ≠ A3.g) (n23 : A2.p ≠ none → A3.p ≠ none → A2.g ≠ A3.g) (l0 : A0.p ≠ none → A0.g ≠ gs) (l1 : A1.p ≠ none → A1.g ≠ gs) (l2 : A2.p ≠ none → A2.g ≠ gs) (l3 : A3.p ≠ none → A3.g ≠ gs)
    (hm : Mm w [(gs, [.slice A0.p A0.n A0.c, .slice A1.p A1.n A1.c, .slice A2.p A2.n A2.c, .slice A3.p A3.n A3.c])]) :
    Calls Try.prog 17 #[.slice (some ⟨gs, 0, none⟩) 4 4] w fun e w' => e = .returned (.bool true) ∧ Below w.heap.size w w' := by
  refine apart_any gs 4 (A5 A0 A1 A2 A3 A3) ⟨fun i hi => ?_, fun i j hi hj hne hp hq => ?_, fun i hi hp => ?_, by decide⟩ w ⟨hm.one 0 rfl, fun i hi => ?_⟩
  · rcases (by omega : i = 0 ∨ i = 1 ∨ i = 2 ∨ i = 3) with rfl | rfl | rfl | rfl
    · exact h0
    · exact h1
    · exact h2
    · exact h3
  · rcases (by omega : i = 0 ∨ i = 1 ∨ i = 2 ∨ i = 3) with rfl | rfl | rfl | rfl <;> rcases (by omega : j = 0 ∨ j = 1 ∨ j = 2 ∨ j = 3) with rfl | rfl | rfl | rfl <;> first | exact absurd rfl hne | exact n01 hp hq | exact (n01 hq hp).symm | exact n02 hp hq | exact (n02 hq hp).symm | exact n03 hp hq | exact (n03 hq hp).symm | exact n12 hp hq | exact (n12 hq hp).symm | exact n13 hp hq | exact (n13 hq hp).symm | exact n23 hp hq | exact (n23 hq hp).symm
  · rcases (by omega : i = 0 ∨ i = 1 ∨ i = 2 ∨ i = 3) with rfl | rfl | rfl | rfl
    · exact l0 hp
    · exact l1 hp
    · exact l2 hp
    · exact l3 hp
  · rcases (by omega : i = 0 ∨ i = 1 ∨ i = 2 ∨ i = 3) with rfl | rfl | rfl | rfl
    · exact r0
    · exact r1
    · exact r2
    · exact r3
set_option maxRecDepth 100000 in
theorem few_a (q : Pt8) (h : q.n ≤ 2000) (w : World) :
    Calls Try.prog 7 #[.slice q.p q.n q.cp] w fun e w' => e = .returned (.bool true) ∧ Below w.heap.size w w' := by
  have H0 : Hid (_ ∧ _) := ⟨Mm.nil w, Below.refl w.heap.size w⟩
  go_enter Try.func7, Try.ntmps7
  refine wp_seq ?_
  refine walk_seqB 1 [.quiet (.bool false)] H0 ?ho1 ?he1
  case ho1 => exact ak (fun _ => ⟨rfl, fun _ _ => rfl⟩) trivial
  intro _ w1 H1
  refine rest0 rfl (then_normal (wp_seq ?_))
  refine walk_seqB 14 [.quiet (.slice q.p q.n q.cp), .quiet (.int .i64 ((q.n : Nat) : Int)), .quiet (.bool true), .quiet (.bool true), .gone, .gone, .gone, .gone, .gone, .gone, .gone, .gone, .quiet (.bool true), .quiet (.bool true)] H1 ?ho2 ?he2
  case ho2 => exact ak (fun _ => ⟨rfl, fun _ _ => rfl⟩) (ak (by refine fun γ => ⟨rfl, fun w' h => ?_⟩; clear h; go_simp) (ak (by refine fun γ => ⟨rfl, fun w' h => ?_⟩; clear h; go_simp <;> omega) (ak (fun _ => ⟨rfl, fun _ _ => rfl⟩) (ak (fun γ => rfl) (ak (fun γ => rfl) (ak (fun γ => rfl) (ak (fun γ => rfl) (ak (fun γ => rfl) (ak (fun γ => rfl) (ak (fun γ => rfl) (ak (fun γ => rfl) (ak (by refine fun γ => ⟨rfl, fun w' h => ?_⟩; clear h; go_simp) (ak (fun _ => ⟨rfl, fun _ _ => rfl⟩) trivial)))))))))))))
  intro _ w2 H2
  clear H1
  refine rest0 rfl (then_normal (wp_ret ?_))
  repeat (first | refine then_ret ?_ | refine block_ret ?_)
  refine bodyPost_ret (v := .bool true) (by simp [results, Try.results7, go_sem, *]) rfl ?_
  exact ⟨rfl, H2.out.2⟩
set_option maxRecDepth 100000 in
theorem few_b (q : Pt8) (h : 1048576 < q.n) (h2 : q.n ≤ 1048616) (w : World) :
    Calls Try.prog 7 #[.slice q.p q.n q.cp] w fun e w' => e = .returned (.bool true) ∧ Below w.heap.size w w' := by
  have H0 : Hid (_ ∧ _) := ⟨Mm.nil w, Below.refl w.heap.size w⟩
  go_enter Try.func7, Try.ntmps7
  refine wp_seq ?_
  refine walk_seqB 1 [.quiet (.bool false)] H0 ?ho1 ?he1
  case ho1 => exact ak (fun _ => ⟨rfl, fun _ _ => rfl⟩) trivial
  intro _ w1 H1
  refine rest0 rfl (then_normal (wp_seq ?_))
  refine walk_seqB 14 [.quiet (.slice q.p q.n q.cp), .quiet (.int .i64 ((q.n : Nat) : Int)), .quiet (.bool false), .quiet (.bool false), .quiet (.slice q.p q.n q.cp), .quiet (.int .i64 ((q.n : Nat) : Int)), .quiet (.bool true), .quiet (.bool true), .quiet (.slice q.p q.n q.cp), .quiet (.int .i64 ((q.n : Nat) : Int)), .quiet (.bool true), .quiet (.bool true), .quiet (.bool true), .quiet (.bool true)] H1 ?ho2 ?he2
  case ho2 => exact ak (fun _ => ⟨rfl, fun _ _ => rfl⟩) (ak (by refine fun γ => ⟨rfl, fun w' h => ?_⟩; clear h; go_simp) (ak (by refine fun γ => ⟨rfl, fun w' h => ?_⟩; clear h; go_simp <;> omega) (ak (fun _ => ⟨rfl, fun _ _ => rfl⟩) (ak (fun _ => ⟨rfl, fun _ _ => rfl⟩) (ak (by refine fun γ => ⟨rfl, fun w' h => ?_⟩; clear h; go_simp) (ak (by refine fun γ => ⟨rfl, fun w' h => ?_⟩; clear h; go_simp <;> omega) (ak (fun _ => ⟨rfl, fun _ _ => rfl⟩) (ak (fun _ => ⟨rfl, fun _ _ => rfl⟩) (ak (by refine fun γ => ⟨rfl, fun w' h => ?_⟩; clear h; go_simp) (ak (by refine fun γ => ⟨rfl, fun w' h => ?_⟩; clear h; go_simp <;> omega) (ak (by refine fun γ => ⟨rfl, fun w' h => ?_⟩; clear h; go_simp) (ak (by refine fun γ => ⟨rfl, fun w' h => ?_⟩; clear h; go_simp) (ak (fun _ => ⟨rfl, fun _ _ => rfl⟩) trivial)))))))))))))
  intro _ w2 H2
  clear H1
  refine rest0 rfl (then_normal (wp_ret ?_))
  repeat (first | refine then_ret ?_ | refine block_ret ?_)
  refine bodyPost_ret (v := .bool true) (by simp [results, Try.results7, go_sem, *]) rfl ?_
  exact ⟨rfl, H2.out.2⟩
set_option maxRecDepth 100000 in
theorem few_c (q : Pt8) (h : 1048616 < q.n) (w : World) :
    Calls Try.prog 7 #[.slice q.p q.n q.cp] w fun e w' => e = .returned (.bool false) ∧ Below w.heap.size w w' := by
  have H0 : Hid (_ ∧ _) := ⟨Mm.nil w, Below.refl w.heap.size w⟩
  go_enter Try.func7, Try.ntmps7
  refine wp_seq ?_
  refine walk_seqB 1 [.quiet (.bool false)] H0 ?ho1 ?he1
  case ho1 => exact ak (fun _ => ⟨rfl, fun _ _ => rfl⟩) trivial
  intro _ w1 H1
  refine rest0 rfl (then_normal (wp_seq ?_))
  refine walk_seqB 14 [.quiet (.slice q.p q.n q.cp), .quiet (.int .i64 ((q.n : Nat) : Int)), .quiet (.bool false), .quiet (.bool false), .quiet (.slice q.p q.n q.cp), .quiet (.int .i64 ((q.n : Nat) : Int)), .quiet (.bool true), .quiet (.bool true), .quiet (.slice q.p q.n q.cp), .quiet (.int .i64 ((q.n : Nat) : Int)), .quiet (.bool false), .quiet (.bool false), .quiet (.bool false), .quiet (.bool false)] H1 ?ho2 ?he2
  case ho2 => exact ak (fun _ => ⟨rfl, fun _ _ => rfl⟩) (ak (by refine fun γ => ⟨rfl, fun w' h => ?_⟩; clear h; go_simp) (ak (by refine fun γ => ⟨rfl, fun w' h => ?_⟩; clear h; go_simp <;> omega) (ak (fun _ => ⟨rfl, fun _ _ => rfl⟩) (ak (fun _ => ⟨rfl, fun _ _ => rfl⟩) (ak (by refine fun γ => ⟨rfl, fun w' h => ?_⟩; clear h; go_simp) (ak (by refine fun γ => ⟨rfl, fun w' h => ?_⟩; clear h; go_simp <;> omega) (ak (fun _ => ⟨rfl, fun _ _ => rfl⟩) (ak (fun _ => ⟨rfl, fun _ _ => rfl⟩) (ak (by refine fun γ => ⟨rfl, fun w' h => ?_⟩; clear h; go_simp) (ak (by refine fun γ => ⟨rfl, fun w' h => ?_⟩; clear h; go_simp <;> omega) (ak (by refine fun γ => ⟨rfl, fun w' h => ?_⟩; clear h; go_simp) (ak (by refine fun γ => ⟨rfl, fun w' h => ?_⟩; clear h; go_simp) (ak (fun _ => ⟨rfl, fun _ _ => rfl⟩) trivial)))))))))))))
  intro _ w2 H2
  clear H1
  refine rest0 rfl (then_normal (wp_ret ?_))
  repeat (first | refine then_ret ?_ | refine block_ret ?_)
  refine bodyPost_ret (v := .bool false) (by simp [results, Try.results7, go_sem, *]) rfl ?_
  exact ⟨rfl, H2.out.2⟩
set_option maxRecDepth 100000 in
theorem few_d (q : Pt8) (h : 2000 < q.n) (h2 : q.n ≤ 1048576) (w : World) :
    Calls Try.prog 7 #[.slice q.p q.n q.cp] w fun e w' => e = .returned (.bool false) ∧ Below w.heap.size w w' := by
  have H0 : Hid (_ ∧ _) := ⟨Mm.nil w, Below.refl w.heap.size w⟩
  go_enter Try.func7, Try.ntmps7
  refine wp_seq ?_
  refine walk_seqB 1 [.quiet (.bool false)] H0 ?ho1 ?he1
  case ho1 => exact ak (fun _ => ⟨rfl, fun _ _ => rfl⟩) trivial
  intro _ w1 H1
  refine rest0 rfl (then_normal (wp_seq ?_))
  refine walk_seqB 14 [.quiet (.slice q.p q.n q.cp), .quiet (.int .i64 ((q.n : Nat) : Int)), .quiet (.bool false), .quiet (.bool false), .quiet (.slice q.p q.n q.cp), .quiet (.int .i64 ((q.n : Nat) : Int)), .quiet (.bool false), .quiet (.bool false), .gone, .gone, .gone, .quiet (.bool false), .quiet (.bool false), .quiet (.bool false)] H1 ?ho2 ?he2
  case ho2 => exact ak (fun _ => ⟨rfl, fun _ _ => rfl⟩) (ak (by refine fun γ => ⟨rfl, fun w' h => ?_⟩; clear h; go_simp) (ak (by refine fun γ => ⟨rfl, fun w' h => ?_⟩; clear h; go_simp <;> omega) (ak (fun _ => ⟨rfl, fun _ _ => rfl⟩) (ak (fun _ => ⟨rfl, fun _ _ => rfl⟩) (ak (by refine fun γ => ⟨rfl, fun w' h => ?_⟩; clear h; go_simp) (ak (by refine fun γ => ⟨rfl, fun w' h => ?_⟩; clear h; go_simp <;> omega) (ak (fun _ => ⟨rfl, fun _ _ => rfl⟩) (ak (fun γ => rfl) (ak (fun γ => rfl) (ak (fun γ => rfl) (ak (by refine fun γ => ⟨rfl, fun w' h => ?_⟩; clear h; go_simp) (ak (by refine fun γ => ⟨rfl, fun w' h => ?_⟩; clear h; go_simp) (ak (fun _ => ⟨rfl, fun _ _ => rfl⟩) trivial)))))))))))))
  intro _ w2 H2
  clear H1
  refine rest0 rfl (then_normal (wp_ret ?_))
  repeat (first | refine then_ret ?_ | refine block_ret ?_)
  refine bodyPost_ret (v := .bool false) (by simp [results, Try.results7, go_sem, *]) rfl ?_
  exact ⟨rfl, H2.out.2⟩
def Few (n : Nat) : Prop := n ≤ 2000 ∨ (1048576 < n ∧ n ≤ 1048616)
theorem few_yes (q : Pt8) (h : Few q.n) (w : World) : Calls Try.prog 7 #[.slice q.p q.n q.cp] w fun e w' => e = .returned (.bool true) ∧ Below w.heap.size w w' := by
  rcases h with h | ⟨h1, h2⟩
  · exact few_a q h w
  · exact few_b q h1 h2 w
theorem few_no (q : Pt8) (h : ¬ Few q.n) (w : World) : Calls Try.prog 7 #[.slice q.p q.n q.cp] w fun e w' => e = .returned (.bool false) ∧ Below w.heap.size w w' := by
  unfold Few at h
  by_cases h1 : q.n ≤ 1048576
  · exact few_d q (by omega) h1 w
  · exact few_c q (by omega) w
end Rg
end Go.Proofs.Ytkkippfikfjdpaa
end
section
namespace Go.Proofs.Ytkkippfikfjdpaa
open Go.RowKit
namespace Rg
section
variable {P : Program} {full : Array Oper} {Q : Exit → Act → World → Prop} {S : World → Prop}
/-- Operations one behind the other, the free ones being done. -/
def Ch (P : Program) (full : Array Oper) (Q : Act → World → Prop) (S : World → Prop) : List Nat → Act → World → Prop
  | [], b, w => Q b w
  | i :: r, b, w => ∃ o d, full[i]? = some o ∧ o.dst = some d ∧
      ((∃ v w', (execOp b.eval o).run P w = .ok (.value v) w' ∧ S w' ∧ Ch P full Q S r (b.put (some d) v) w') ∨
       (∃ (f : FuncId) (args : Array Value) (R : Value → World → Prop), (execOp b.eval o).run P w = .ok (.enter f args) w ∧ Calls P f args w (fun e w' => ∃ v, e = .returned v ∧ R v w') ∧ ∀ v w', R v w' → S w' ∧ Ch P full Q S r (b.put (some d) v) w'))
theorem ch_nil {E : Act → World → Prop} {b : Act} {w : World} (h : E b w) : Ch P full E S [] b w := h
theorem ch_set {E : Act → World → Prop} {i d : Nat} {r : List Nat} {o : Oper} {v : Value} {b : Act} {w w' : World} (ho : full[i]? = some o) (hd : o.dst = some d) (_ : True) (hx : (execOp b.eval o).run P w = .ok (.value v) w') (hS : S w') (h : Ch P full E S r (b.put (some d) v) w') : Ch P full E S (i :: r) b w :=
  ⟨o, d, ho, hd, .inl ⟨v, w', hx, hS, h⟩⟩
theorem ch_enter {E : Act → World → Prop} {i d : Nat} {r : List Nat} {o : Oper} {f : FuncId} {args : Array Value} {R : Value → World → Prop} {b : Act} {w : World} (ho : full[i]? = some o) (hd : o.dst = some d) (_ : True) (hx : (execOp b.eval o).run P w = .ok (.enter f args) w)
    (hc : Calls P f args w (fun e w' => ∃ v, e = .returned v ∧ R v w')) (hS : ∀ v w', R v w' → S w') (h : ∀ v w', R v w' → Ch P full E S r (b.put (some d) v) w') : Ch P full E S (i :: r) b w :=
  ⟨o, d, ho, hd, .inr ⟨f, args, R, hx, hc, fun v w' hr => ⟨hS v w' hr, h v w' hr⟩⟩⟩
def chainly (full : Array Oper) (free : List Nat) : List Nat → Bool
  | [] => true
  | c :: r => !(free.contains c) && r.all (fun j => match full[j]? with | some o => waitsT full 12 o c | none => false) && chainly full free r
def freely (full : Array Oper) (n : Nat) (free chain : List Nat) : Bool :=
  eachOp full (fun i o => o.after.all fun e => !Region.binds .any e || decide (e.on < i)) && Region.noSelect full &&
  eachOp full (fun _ o => o.guard.isNone && (match o.dst with | some d => decide (d < n) | none => false)) &&
  eachOp full (fun i o => eachOp full fun j oj => !(free.contains j) || decide (i = j) || oj.dst != o.dst) &&
  eachOp full (fun i o => !(free.contains i || chain.contains i) || (o.looksAt full).all fun d => eachOp full fun j oj => oj.dst != some d || (if free.contains j then waitsT full 12 o j else !(free.contains i) || !(chain.contains j))) &&
  chainly full free chain
/-- All operations are of a list. -/
def allin (full : Array Oper) (l : List Nat) : Bool := (List.range full.size).all fun i => l.contains i
/-- Operations that come behind the chain's last one. -/
def behind (full : Array Oper) (free chain rm : List Nat) : Bool := rm.all fun j => !(free.contains j) && !(chain.contains j) && (match chain.getLast?, full[j]? with | some c, some o => waitsT full 12 o c | _, _ => false)
/-- A frame that lacks just what free operations have still to bring. -/
structure Ag (full : Array Oper) (free : List Nat) (l : Array Bool) (a b : Act) : Prop where
  defers : a.defers = b.defers
  size : a.tmps.size = b.tmps.size
  slots : ∀ d, (∀ i, i ∈ free → ∀ o, full[i]? = some o → o.dst = some d → l.getD i false = true) → a.tmps[d]? = b.tmps[d]?
theorem Ag.whole {free : List Nat} {l : Array Bool} {a b : Act} (h : Ag full free l a b) (hl : ∀ i, i < full.size → l.getD i false = true) : a = b := by
  obtain ⟨t, df⟩ := a
  obtain ⟨t', df'⟩ := b
  have h1 := h.defers
  have h2 : t = t' := by
    apply Array.ext_getElem?
    intro d
    exact h.slots d (fun i _ o ho _ => hl i (Array.getElem?_eq_some_iff.1 ho).1)
  simp only at h1 h2
  rw [h1, h2]
theorem put_at (a : Act) {d : Nat} (v : Value) (h : d < a.tmps.size) : (a.put (some d) v).tmps[d]? = some v := by
  simp only [Act.put, Array.getElem?_setIfInBounds, if_true, h]
theorem chainly_at {free : List Nat} : ∀ {c : List Nat}, chainly full free c = true → ∀ {p r : List Nat} {x : Nat}, c = p ++ x :: r → x ∉ free ∧ ∀ j, j ∈ r → ∃ o, full[j]? = some o ∧ waitsT full 12 o x = true
  | [], _, p, r, x, e => by cases p <;> cases e
  | y :: c, h, p, r, x, e => by
    unfold chainly at h
    simp only [Bool.and_eq_true] at h
    cases p with
    | nil =>
      injection e with e1 e2
      subst e1 e2
      refine ⟨fun hm => ?_, fun j hj => ?_⟩
      · have h2 := h.1.1
        rw [List.contains_iff_mem.2 hm] at h2
        cases h2
      · have h2 := List.all_eq_true.1 h.1.2 j hj
        cases ho : full[j]? with
        | none => rw [ho] at h2; cases h2
        | some o => rw [ho] at h2; exact ⟨o, rfl, h2⟩
    | cons z p =>
      injection e with e1 e2
      exact chainly_at h.2 e2
theorem free_any {n : Nat} {free chain : List Nat} {a₁ : Act} (hchk : freely full n free chain = true) (_hn : a₁.tmps.size = n)
    (hfree : ∀ i, i ∈ free → ∃ o d v, full[i]? = some o ∧ o.dst = some d ∧ a₁.tmps[d]? = some v ∧ ∀ w, S w → (execOp a₁.eval o).run P w = .ok (.value v) w) :
    ∀ (fuel : Nat) (l : Array Bool) (a b : Act) (w : World) (p r : List Nat), l.size = full.size → l.toList.count false ≤ fuel → Closed full l → chain = p ++ r → (∀ i, i ∈ r → l.getD i false = false) → (∀ i, i < full.size → l.getD i true = false → i ∈ r ∨ i ∈ free) →
      Ag full free l a b → (∀ d, (∀ j, j ∈ chain → ∀ oj, full[j]? = some oj → oj.dst ≠ some d) → b.tmps[d]? = a₁.tmps[d]?) → b.tmps.size = n → S w → Ch P full (Q .normal) S r b w → wpAny P .any full Q fuel l a w := by
  unfold freely at hchk
  simp only [Bool.and_eq_true] at hchk
  obtain ⟨⟨⟨⟨⟨c1, c2⟩, c3⟩, c4⟩, c5⟩, c6⟩ := hchk
  have hup : ∀ {i : Nat} {o : Oper}, full[i]? = some o → ∀ e ∈ o.after, Region.binds .any e = true → e.on < i := fun ho e he hb => by
    have := Array.all_eq_true_iff_forall_mem.1 (eachOp_spec c1 ho) e he
    simpa [hb] using this
  have hgu : ∀ {i : Nat} {o : Oper}, full[i]? = some o → o.guard = none := fun ho => by
    have := eachOp_spec c3 ho
    simp only [Bool.and_eq_true, Option.isNone_iff_eq_none] at this
    exact this.1
  have hsel : ∀ {i : Nat} {o : Oper}, full[i]? = some o → ∀ cs b, o.op ≠ .select cs b := fun {i o} ho cs b => Region.noSelect_spec c2 i o cs b ho
  have hlook : ∀ {i : Nat} {o : Oper}, i ∈ free ∨ i ∈ chain → full[i]? = some o → ∀ d, d ∈ o.looksAt full → ∀ {j : Nat} {oj : Oper}, full[j]? = some oj → oj.dst = some d → (j ∈ free → waitsT full 12 o j = true) ∧ (j ∉ free → i ∈ free → j ∉ chain) := fun {i o} him ho d hd {j oj} hj hdj => by
    have h0 := eachOp_spec c5 ho
    have h1 : (free.contains i || chain.contains i) = true := by
      rw [Bool.or_eq_true, List.contains_iff_mem, List.contains_iff_mem]
      exact him
    rw [h1, Bool.not_true, Bool.false_or] at h0
    have := eachOp_spec (List.all_eq_true.1 h0 d hd) hj
    simp only [hdj, bne_self_eq_false, Bool.false_or] at this
    refine ⟨fun hm => ?_, fun hm hi hc => ?_⟩
    · rwa [if_pos (List.contains_iff_mem.2 hm)] at this
    · rw [if_neg (by rw [List.contains_iff_mem]; exact hm), List.contains_iff_mem.2 hi, List.contains_iff_mem.2 hc] at this
      cases this
  have huniq : ∀ {i j : Nat} {o oj : Oper}, full[i]? = some o → full[j]? = some oj → j ∈ free → oj.dst = o.dst → i = j := fun {i j o oj} ho hj hm e => by
    have := eachOp_spec (eachOp_spec c4 ho) hj
    simp only [List.contains_iff_mem.2 hm, e, bne_self_eq_false, Bool.or_false, Bool.not_true, Bool.false_or, decide_eq_true_eq] at this
    exact this
  -- what an operation sees
  have sees : ∀ {l : Array Bool} {a b : Act} {i : Nat} {o : Oper}, i ∈ free ∨ i ∈ chain → Closed full l → Ag full free l a b → full[i]? = some o → (∀ e ∈ o.after, Region.binds .any e = true → l.getD e.on false = true) → execOp a.eval o = execOp b.eval o := fun {l a b i o} him hcl hA ho hedge => by
    refine execOp_congr o (hsel ho) (fun x hx => ?_)
    cases x with
    | tmp t =>
      have hd : t ∈ o.looksAt full := List.mem_append_left _ (List.mem_filterMap.2 ⟨.tmp t, by simpa using hx, rfl⟩)
      have := hA.slots t (fun j hj oj hoj hdj => waitsT_spec hcl 12 o ((hlook him ho t hd hoj hdj).1 hj) hedge)
      simp only [Act.eval, Array.getD_eq_getD_getElem?, this]
    | _ => rfl
  intro fuel
  induction fuel with
  | zero =>
    intro l a b w p r hsz hc hcl hch hr hun hA hF hbs hSw hQ
    have hall : ∀ i, i < full.size → l.getD i false = true := fun i hi => by
      cases hb : l.getD i true with
      | false => have := count_set hb; omega
      | true =>
        have hi' : i < l.size := by omega
        simpa [hi'] using hb
    cases r with
    | cons c r =>
      have h1 := hr c (by simp)
      obtain ⟨o, d, ho, _⟩ := hQ
      rw [hall c (Array.getElem?_eq_some_iff.1 ho).1] at h1
      cases h1
    | nil =>
      refine ⟨?_, by rw [hA.whole hall]; exact hQ⟩
      apply List.eq_nil_iff_forall_not_mem.2
      intro i hi
      obtain ⟨h1, o, ho, _⟩ := mem_ready.1 hi
      have h2 := hall i (Array.getElem?_eq_some_iff.1 ho).1
      rw [(getD_same h1).1] at h2
      cases h2
  | succ fuel ih =>
    intro l a b w p r hsz hc hcl hch hr hun hA hF hbs hSw hQ
    refine ⟨fun hrd => ?_, fun i hi => ?_⟩
    · have hall := ready_all hup hsz hrd
      cases r with
      | cons c r =>
        have h1 := hr c (by simp)
        obtain ⟨o, d, ho, _⟩ := hQ
        rw [hall c (Array.getElem?_eq_some_iff.1 ho).1] at h1
        cases h1
      | nil => rw [hA.whole hall]; exact hQ
    · obtain ⟨hui, o, ho, hedge⟩ := mem_ready.1 hi
      have hilt : i < full.size := (Array.getElem?_eq_some_iff.1 ho).1
      have hcnt := count_set hui
      have him : i ∈ free ∨ i ∈ chain := by
        rcases hun i hilt hui with h | h
        · exact .inr (by rw [hch]; exact List.mem_append_right _ h)
        · exact .inl h
      have hse := sees him hcl hA ho hedge
      have hwn : Region.wanted o (yielded full a.tmps) = true := by unfold Region.wanted; rw [hgu ho]
      by_cases hfi : i ∈ free
      · obtain ⟨o', d, v, ho', hd, hv, hx⟩ := hfree i hfi
        rw [ho] at ho'
        injection ho' with ho'
        subst ho'
        have hse2 : execOp b.eval o = execOp a₁.eval o := by
          refine execOp_congr o (hsel ho) (fun x hx => ?_)
          cases x with
          | tmp t =>
            have hd : t ∈ o.looksAt full := List.mem_append_left _ (List.mem_filterMap.2 ⟨.tmp t, by simpa using hx, rfl⟩)
            have := hF t (fun j hj oj hoj hdj => by
              have h1 := (hlook (.inl hfi) ho t hd hoj hdj).2 (fun hm => by
                obtain ⟨s1, s2, e⟩ := List.append_of_mem hj
                exact (chainly_at c6 e).1 hm) hfi
              exact h1 hj)
            simp only [Act.eval, Array.getD_eq_getD_getElem?, this]
          | _ => rfl
        refine wpOp_step ho (fun K' hK => ?_)
        rw [if_pos hwn]
        unfold Oper.wp
        rw [hse, hse2, hx w hSw]
        have hbd : b.tmps[d]? = some v := by
          rw [hF d (fun j hj oj hoj hdj => ?_)]
          · exact hv
          · have e := huniq hoj ho hfi (by rw [hd, hdj])
            subst e
            obtain ⟨s1, s2, e⟩ := List.append_of_mem hj
            exact (chainly_at c6 e).1 hfi
        have hdlt : d < a.tmps.size := by rw [hA.size]; exact (Array.getElem?_eq_some_iff.1 hbd).1
        refine hK _ _ (ih _ _ b w p r (by simp [hsz]) (by omega) (hcl.step ho hedge) hch (fun j hj => ?_) (fun j hj hj2 => ?_) ⟨?_, ?_, fun d' hd' => ?_⟩ hF hbs hSw hQ)
        · have hne : i ≠ j := fun e => by
            subst e
            have h3 : i ∈ chain := by rw [hch]; exact List.mem_append_right _ hj
            obtain ⟨s1, s2, e⟩ := List.append_of_mem h3
            exact (chainly_at c6 e).1 hfi
          rw [getD_set_ne false hne]
          exact hr j hj
        · by_cases e : i = j
          · subst e; exact .inr hfi
          · rw [getD_set_ne true e] at hj2
            exact hun j hj hj2
        · rw [hd, put_defers']; exact hA.defers
        · rw [hd, put_size]; exact hA.size
        · by_cases e : d' = d
          · subst e
            rw [hd, put_at a v hdlt, hbd]
          · rw [put_other a o.dst v d' (by rw [hd]; intro h; injection h with h; exact e h.symm)]
            refine hA.slots d' (fun j hj oj hoj hdj => ?_)
            have hne : i ≠ j := fun e2 => by
              subst e2
              rw [ho] at hoj
              injection hoj with hoj
              subst hoj
              rw [hd] at hdj
              injection hdj with hdj
              exact e hdj.symm
            have := hd' j hj oj hoj hdj
            rwa [getD_set_ne false hne] at this
      · have hir := (hun i hilt hui).resolve_right hfi
        cases r with
        | nil => cases hir
        | cons c r =>
          have hcc := chainly_at c6 hch
          have hic : i = c := by
            rcases List.mem_cons.1 hir with e | e
            · exact e
            · obtain ⟨o', ho', hw'⟩ := hcc.2 i e
              rw [ho] at ho'
              injection ho' with ho'
              subst ho'
              have h1 := waitsT_spec hcl 12 o hw' hedge
              rw [hr c (by simp)] at h1
              cases h1
          subst hic
          obtain ⟨o', d, ho', hd, hstep⟩ := hQ
          rw [ho] at ho'
          injection ho' with ho'
          subst ho'
          have hdn : d < n := by
            have := eachOp_spec c3 ho
            simp only [Bool.and_eq_true, hd, decide_eq_true_eq] at this
            exact this.2
          have hnr : i ∉ r := fun hm => by
            obtain ⟨o', ho', hw'⟩ := hcc.2 i hm
            rw [ho] at ho'
            injection ho' with ho'
            subst ho'
            have h1 := waitsT_spec hcl 12 o hw' hedge
            rw [hr i (by simp)] at h1
            cases h1
          have next : ∀ v w', S w' → Ch P full (Q .normal) S r (b.put (some d) v) w' → wpAny P .any full Q fuel (l.setIfInBounds i true) (a.put o.dst v) w' := fun v w' hS' hQ' => by
            refine ih _ _ (b.put (some d) v) w' (p ++ [i]) r (by simp [hsz]) (by omega) (hcl.step ho hedge) (by rw [hch]; simp) (fun j hj => ?_) (fun j hj hj2 => ?_) ⟨?_, ?_, fun d' hd' => ?_⟩ (fun d' hd' => ?_) (by rw [put_size]; exact hbs) hS' hQ'
            · rw [getD_set_ne false (fun e => hnr (by rw [e]; exact hj))]
              exact hr j (by simp [hj])
            · by_cases e : i = j
              · subst e
                have hi' : i < l.size := by omega
                simp [hi'] at hj2
              · rw [getD_set_ne true e] at hj2
                rcases hun j hj hj2 with h | h
                · rcases List.mem_cons.1 h with h | h
                  · exact absurd h.symm e
                  · exact .inl h
                · exact .inr h
            · rw [put_defers', put_defers']; exact hA.defers
            · rw [put_size, put_size]; exact hA.size
            · by_cases e : d' = d
              · subst e
                rw [hd, put_at a v (by rw [hA.size, hbs]; exact hdn), put_at b v (by rw [hbs]; exact hdn)]
              · rw [put_other a o.dst v d' (by rw [hd]; intro h; injection h with h; exact e h.symm), put_other b (some d) v d' (by intro h; injection h with h; exact e h.symm)]
                refine hA.slots d' (fun j hj oj hoj hdj => ?_)
                have hne : i ≠ j := fun e2 => hfi (by rw [e2]; exact hj)
                have := hd' j hj oj hoj hdj
                rwa [getD_set_ne false hne] at this
            · rw [put_other b (some d) v d' (fun h => by
                injection h with h
                exact hd' i (by rw [hch]; simp) o ho (by rw [hd, h]))]
              exact hF d' hd'
          refine wpOp_step ho (fun K' hK => ?_)
          rw [if_pos hwn]
          unfold Oper.wp
          rw [hse]
          rcases hstep with ⟨v, w', hx, hS', hQ'⟩ | ⟨f, args, R, hx, hcall, hQ'⟩
          · rw [hx]
            exact hK _ _ (next v w' hS' hQ')
          · rw [hx]
            refine Calls.mono hcall ?_
            rintro e w' ⟨v, rfl, hR⟩
            exact hK _ _ (next v w' (hQ' v w' hR).1 (hQ' v w' hR).2)
/-- Values put into a frame. -/
def fillv : List (Nat × Value) → Act → Act
  | [], a => a
  | (d, v) :: r, a => fillv r (a.put (some d) v)
theorem fillv_size : ∀ (l : List (Nat × Value)) (a : Act), (fillv l a).tmps.size = a.tmps.size
  | [], _ => rfl
  | (d, v) :: r, a => by rw [fillv, fillv_size r, put_size]
theorem fillv_defers : ∀ (l : List (Nat × Value)) (a : Act), (fillv l a).defers = a.defers
  | [], _ => rfl
  | (d, v) :: r, a => by rw [fillv, fillv_defers r, put_defers']
theorem fillv_other : ∀ (l : List (Nat × Value)) (a : Act) {d : Nat}, (∀ p, p ∈ l → p.1 ≠ d) → (fillv l a).tmps[d]? = a.tmps[d]?
  | [], _, _, _ => rfl
  | (d, v) :: r, a, d', h => by
    rw [fillv, fillv_other r _ (fun p hp => h p (by simp [hp])), put_other a (some d) v d' (fun e => by injection e with e; exact h (d, v) (by simp) e)]
/-- The free operations, each with its slot and its value. -/
def FreeOk (P : Program) (full : Array Oper) (S : World → Prop) (b : Act) : List Nat → List (Nat × Value) → Prop
  | i :: r, (d, v) :: s => (∃ o, full[i]? = some o ∧ o.dst = some d ∧ b.tmps[d]? = some v ∧ ∀ w, S w → (execOp b.eval o).run P w = .ok (.value v) w) ∧ FreeOk P full S b r s
  | [], [] => True
  | _, _ => False
theorem FreeOk.at {b : Act} : ∀ {f : List Nat} {s : List (Nat × Value)}, FreeOk P full S b f s → ∀ {i : Nat}, i ∈ f → ∃ o d v, full[i]? = some o ∧ o.dst = some d ∧ (d, v) ∈ s ∧ b.tmps[d]? = some v ∧ ∀ w, S w → (execOp b.eval o).run P w = .ok (.value v) w
  | [], _, _, i, h => by cases h
  | j :: f, [], h, _, _ => by cases h
  | j :: f, (d, v) :: s, h, i, hi => by
    rcases List.mem_cons.1 hi with e | hi
    · subst e
      obtain ⟨o, h1, h2, h3, h4⟩ := h.1
      exact ⟨o, d, v, h1, h2, by simp, h3, h4⟩
    · obtain ⟨o, d', v', h1, h2, h3, h4, h5⟩ := h.2.at hi
      exact ⟨o, d', v', h1, h2, by simp [h3], h4, h5⟩
theorem FreeOk.back {b : Act} : ∀ {f : List Nat} {s : List (Nat × Value)}, FreeOk P full S b f s → ∀ {p : Nat × Value}, p ∈ s → ∃ i o, i ∈ f ∧ full[i]? = some o ∧ o.dst = some p.1
  | [], [], _, p, h => by cases h
  | [], _ :: _, h, _, _ => by cases h
  | j :: f, [], h, _, _ => by cases h
  | j :: f, (d, v) :: s, h, p, hp => by
    rcases List.mem_cons.1 hp with e | hp
    · subst e
      obtain ⟨o, h1, h2, _⟩ := h.1
      exact ⟨j, o, by simp, h1, h2⟩
    · obtain ⟨i, o, h1, h2, h3⟩ := h.2.back hp
      exact ⟨i, o, by simp [h1], h2, h3⟩
/-- **The law of such a region.** -/
theorem walk_free {a b : Act} {w : World} {id : Nat} (hm : P.follows .mixedOrders = true) (free chain : List Nat) (vs : List (Nat × Value)) (S : World → Prop) (hb : fillv vs a = b) (hchk : (freely full a.tmps.size free chain && allin full (free ++ chain)) = true)
    (hok : FreeOk P full S b free vs) (hS : S w.drew) (h : Ch P full (Q .normal) S chain b w.drew) : (Code.region id full true).wp P Q a w := by
  subst hb
  rw [Bool.and_eq_true] at hchk
  refine wp_region_any hm (free_any (a₁ := fillv vs a) (S := S) hchk.1 (fillv_size vs a) (fun i hi => ?_) full.size _ a (fillv vs a) w.drew [] chain (by simp) (by simp) (Closed.none _ _) rfl (fun i _ => none_listed _ _) (fun i hi _ => ?_) ⟨(fillv_defers vs a).symm, (fillv_size vs a).symm, fun d hd => ?_⟩ (fun _ _ => rfl) (fillv_size vs a) hS h)
  · obtain ⟨o, d, v, h1, h2, _, h4, h5⟩ := hok.at hi
    exact ⟨o, d, v, h1, h2, h4, h5⟩
  · have := List.all_eq_true.1 hchk.2 i (List.mem_range.2 hi)
    rw [List.contains_iff_mem, List.mem_append] at this
    exact this.symm
  · rw [fillv_other vs a (fun p hp e => ?_)]
    obtain ⟨i, o, h1, h2, h3⟩ := hok.back hp
    have := hd i h1 o h2 (by rw [h3, e])
    rw [none_listed] at this
    cases this
end
end Rg
end Go.Proofs.Ytkkippfikfjdpaa
end
