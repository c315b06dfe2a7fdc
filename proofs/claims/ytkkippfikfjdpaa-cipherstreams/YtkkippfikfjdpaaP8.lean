/- Texts of the proof, joined. -/
import Derived.Test.YtkkippfikfjdpaaP7
import Derived.ProofKit
import Derived.OpenShut
import Derived.ChangeSlices
import Derived.Test.YtkkippfikfjdpaaRows
section
namespace Go.Proofs.Ytkkippfikfjdpaa
open Go.RowKit
namespace Rg
set_option maxRecDepth 100000
/-- Which error a key's, a nonce's length and a long text call for. -/
def we (k n : Nat) (long : Bool) : Nat := if k ≠ 32 ∨ n ≠ 12 then 2 else if long = true then 3 else 0
theorem we_arg {k n : Nat} (l : Bool) (h : k ≠ 32 ∨ n ≠ 12) : we k n l = 2 := by unfold we; rw [if_pos h]
theorem we_long : we 32 12 true = 3 := rfl
theorem we_ok : we 32 12 false = 0 := rfl
theorem block_own (K N : Nat → Nat) (gk ok ck gn on cn c : Nat) (w : World) (hRk : Rs gk ok 32 K w) (hRn : Rs gn on 12 N w) :
    Calls Try.prog 31 #[.slice (some ⟨gk, ok, none⟩) 32 ck, .slice (some ⟨gn, on, none⟩) 12 cn, W32 c] w fun e w' => Below w.heap.size w w' ∧ ∃ (g x y : Nat), e = .returned ((fun g x _ => .slice (some ⟨g, 0, none⟩) 64 (64 + x)) g x y) ∧ w.heap.size ≤ g ∧ g < w'.heap.size ∧ Blk w' g (ints .u8 (bk K N c) 64) ∧ ∃ o, w'.heap[g]? = some o ∧ Eo 64 (bk K N c) o x := by
  refine Calls.mono (block_any K N gk ok ck gn on cn c w hRk hRn) ?_
  rintro e w' ⟨hb, g, cap, rfl, ho⟩
  obtain ⟨g4, x4, e4, b1, b2, b3, b4⟩ := own_told ho (by simp [Value.ownBlock])
  exact ⟨hb, g4, x4, 0, by rw [e4], b1, b2, b3, b4⟩
theorem call30 : ∀ args w, (callFunc 30 args).run Try.prog w = .ok (.enter 30 args) w := by intro args w; go_simp
theorem call33 : ∀ args w, (callFunc 33 args).run Try.prog w = .ok (.enter 33 args) w := by intro args w; go_simp
set_option maxRecDepth 100000 in
theorem wrong_key (p1 p2 : Option Addr) (k n c1 c2 : Nat) (l : Bool) (hk : k ≠ 32) (w : World) :
    Calls Try.prog 30 #[.slice p1 k c1, .slice p2 n c2, .bool l] w fun e w' => e = .returned (.int .i64 2) ∧ Below w.heap.size w w' := by
  have H0 : Hid (_ ∧ _) := ⟨Mm.nil w, Below.refl w.heap.size w⟩
  go_enter Try.func30, Try.ntmps30
  refine wp_seq ?_
  refine walk_seqB 1 [.quiet (.int .i64 0)] H0 ?ho1 ?he1
  case ho1 => exact ak (fun _ => ⟨rfl, fun _ _ => rfl⟩) trivial
  intro _ w1 H1
  refine rest0 rfl (then_normal (wp_seq (wp_seq ?_)))
  refine walk_seqB 8 [.quiet (.slice p1 k c1), .quiet (.int .i64 ((k : Nat) : Int)), .quiet (.bool true), .quiet (.bool true), .gone, .gone, .gone, .quiet (.bool true)] H1 ?ho2 ?he2
  case ho2 => exact ak (fun _ => ⟨rfl, fun _ _ => rfl⟩) (ak (by refine fun γ => ⟨rfl, fun w' h => ?_⟩; clear h; go_simp) (ak (by refine fun γ => ⟨rfl, fun w' h => ?_⟩; clear h; go_simp <;> omega) (ak (fun _ => ⟨rfl, fun _ _ => rfl⟩) (ak (fun γ => rfl) (ak (fun γ => rfl) (ak (fun γ => rfl) (ak (by refine fun γ => ⟨rfl, fun w' h => ?_⟩; clear h; go_simp) trivial)))))))
  intro _ w2 H2
  clear H1
  refine rest0 rfl (then_normal (wp_cond_true rfl (wp_seq ?_)))
  refine walk_seqB 1 [.quiet (.int .i64 2)] H2 ?ho3 ?he3
  case ho3 => exact ak (fun _ => ⟨rfl, fun _ _ => rfl⟩) trivial
  intro _ w3 H3
  clear H2
  refine rest0 rfl (then_normal (wp_ret ?_))
  repeat (first | refine then_ret ?_ | refine block_ret ?_)
  refine bodyPost_ret (v := .int .i64 2) (by simp [results, Try.results30, go_sem, *]) rfl ?_
  exact ⟨rfl, H3.out.2⟩
set_option maxRecDepth 100000 in
theorem wrong_non (p1 p2 : Option Addr) (k n c1 c2 : Nat) (l : Bool) (hk : k = 32) (hn : n ≠ 12) (w : World) :
    Calls Try.prog 30 #[.slice p1 k c1, .slice p2 n c2, .bool l] w fun e w' => e = .returned (.int .i64 2) ∧ Below w.heap.size w w' := by
  have H0 : Hid (_ ∧ _) := ⟨Mm.nil w, Below.refl w.heap.size w⟩
  go_enter Try.func30, Try.ntmps30
  refine wp_seq ?_
  refine walk_seqB 1 [.quiet (.int .i64 0)] H0 ?ho1 ?he1
  case ho1 => exact ak (fun _ => ⟨rfl, fun _ _ => rfl⟩) trivial
  intro _ w1 H1
  refine rest0 rfl (then_normal (wp_seq (wp_seq ?_)))
  refine walk_seqB 8 [.quiet (.slice p1 k c1), .quiet (.int .i64 ((k : Nat) : Int)), .quiet (.bool false), .quiet (.bool false), .quiet (.slice p2 n c2), .quiet (.int .i64 ((n : Nat) : Int)), .quiet (.bool true), .quiet (.bool true)] H1 ?ho2 ?he2
  case ho2 => exact ak (fun _ => ⟨rfl, fun _ _ => rfl⟩) (ak (by refine fun γ => ⟨rfl, fun w' h => ?_⟩; clear h; go_simp) (ak (by refine fun γ => ⟨rfl, fun w' h => ?_⟩; clear h; go_simp <;> omega) (ak (fun _ => ⟨rfl, fun _ _ => rfl⟩) (ak (fun _ => ⟨rfl, fun _ _ => rfl⟩) (ak (by refine fun γ => ⟨rfl, fun w' h => ?_⟩; clear h; go_simp) (ak (by refine fun γ => ⟨rfl, fun w' h => ?_⟩; clear h; go_simp <;> omega) (ak (by refine fun γ => ⟨rfl, fun w' h => ?_⟩; clear h; go_simp) trivial)))))))
  intro _ w2 H2
  clear H1
  refine rest0 rfl (then_normal (wp_cond_true rfl (wp_seq ?_)))
  refine walk_seqB 1 [.quiet (.int .i64 2)] H2 ?ho3 ?he3
  case ho3 => exact ak (fun _ => ⟨rfl, fun _ _ => rfl⟩) trivial
  intro _ w3 H3
  clear H2
  refine rest0 rfl (then_normal (wp_ret ?_))
  repeat (first | refine then_ret ?_ | refine block_ret ?_)
  refine bodyPost_ret (v := .int .i64 2) (by simp [results, Try.results30, go_sem, *]) rfl ?_
  exact ⟨rfl, H3.out.2⟩
set_option maxRecDepth 100000 in
theorem wrong_long (p1 p2 : Option Addr) (k n c1 c2 : Nat) (hk : k = 32) (hn : n = 12) (w : World) :
    Calls Try.prog 30 #[.slice p1 k c1, .slice p2 n c2, .bool true] w fun e w' => e = .returned (.int .i64 3) ∧ Below w.heap.size w w' := by
  have H0 : Hid (_ ∧ _) := ⟨Mm.nil w, Below.refl w.heap.size w⟩
  go_enter Try.func30, Try.ntmps30
  refine wp_seq ?_
  refine walk_seqB 1 [.quiet (.int .i64 0)] H0 ?ho1 ?he1
  case ho1 => exact ak (fun _ => ⟨rfl, fun _ _ => rfl⟩) trivial
  intro _ w1 H1
  refine rest0 rfl (then_normal (wp_seq (wp_seq ?_)))
  refine walk_seqB 8 [.quiet (.slice p1 k c1), .quiet (.int .i64 ((k : Nat) : Int)), .quiet (.bool false), .quiet (.bool false), .quiet (.slice p2 n c2), .quiet (.int .i64 ((n : Nat) : Int)), .quiet (.bool false), .quiet (.bool false)] H1 ?ho2 ?he2
  case ho2 => exact ak (fun _ => ⟨rfl, fun _ _ => rfl⟩) (ak (by refine fun γ => ⟨rfl, fun w' h => ?_⟩; clear h; go_simp) (ak (by refine fun γ => ⟨rfl, fun w' h => ?_⟩; clear h; go_simp <;> omega) (ak (fun _ => ⟨rfl, fun _ _ => rfl⟩) (ak (fun _ => ⟨rfl, fun _ _ => rfl⟩) (ak (by refine fun γ => ⟨rfl, fun w' h => ?_⟩; clear h; go_simp) (ak (by refine fun γ => ⟨rfl, fun w' h => ?_⟩; clear h; go_simp <;> omega) (ak (by refine fun γ => ⟨rfl, fun w' h => ?_⟩; clear h; go_simp) trivial)))))))
  intro _ w2 H2
  clear H1
  refine rest0 rfl (then_normal (wp_cond_false rfl ?_))
  refine wp_skip (then_normal ?_)
  refine wp_seq (wp_seq ?_)
  refine walk_seqB 1 [.quiet (.bool true)] H2 ?ho3 ?he3
  case ho3 => exact ak (fun _ => ⟨rfl, fun _ _ => rfl⟩) trivial
  intro _ w3 H3
  clear H2
  refine rest0 rfl (then_normal (wp_cond_true rfl (wp_seq ?_)))
  refine walk_seqB 1 [.quiet (.int .i64 3)] H3 ?ho4 ?he4
  case ho4 => exact ak (fun _ => ⟨rfl, fun _ _ => rfl⟩) trivial
  intro _ w4 H4
  clear H3
  refine rest0 rfl (then_normal (wp_ret ?_))
  repeat (first | refine then_ret ?_ | refine block_ret ?_)
  refine bodyPost_ret (v := .int .i64 3) (by simp [results, Try.results30, go_sem, *]) rfl ?_
  exact ⟨rfl, H4.out.2⟩
set_option maxRecDepth 100000 in
theorem wrong_ok (p1 p2 : Option Addr) (k n c1 c2 : Nat) (hk : k = 32) (hn : n = 12) (w : World) :
    Calls Try.prog 30 #[.slice p1 k c1, .slice p2 n c2, .bool false] w fun e w' => e = .returned (.int .i64 0) ∧ Below w.heap.size w w' := by
  have H0 : Hid (_ ∧ _) := ⟨Mm.nil w, Below.refl w.heap.size w⟩
  go_enter Try.func30, Try.ntmps30
  refine wp_seq ?_
  refine walk_seqB 1 [.quiet (.int .i64 0)] H0 ?ho1 ?he1
  case ho1 => exact ak (fun _ => ⟨rfl, fun _ _ => rfl⟩) trivial
  intro _ w1 H1
  refine rest0 rfl (then_normal (wp_seq (wp_seq ?_)))
  refine walk_seqB 8 [.quiet (.slice p1 k c1), .quiet (.int .i64 ((k : Nat) : Int)), .quiet (.bool false), .quiet (.bool false), .quiet (.slice p2 n c2), .quiet (.int .i64 ((n : Nat) : Int)), .quiet (.bool false), .quiet (.bool false)] H1 ?ho2 ?he2
  case ho2 => exact ak (fun _ => ⟨rfl, fun _ _ => rfl⟩) (ak (by refine fun γ => ⟨rfl, fun w' h => ?_⟩; clear h; go_simp) (ak (by refine fun γ => ⟨rfl, fun w' h => ?_⟩; clear h; go_simp <;> omega) (ak (fun _ => ⟨rfl, fun _ _ => rfl⟩) (ak (fun _ => ⟨rfl, fun _ _ => rfl⟩) (ak (by refine fun γ => ⟨rfl, fun w' h => ?_⟩; clear h; go_simp) (ak (by refine fun γ => ⟨rfl, fun w' h => ?_⟩; clear h; go_simp <;> omega) (ak (by refine fun γ => ⟨rfl, fun w' h => ?_⟩; clear h; go_simp) trivial)))))))
  intro _ w2 H2
  clear H1
  refine rest0 rfl (then_normal (wp_cond_false rfl ?_))
  refine wp_skip (then_normal ?_)
  refine wp_seq (wp_seq ?_)
  refine walk_seqB 1 [.quiet (.bool false)] H2 ?ho3 ?he3
  case ho3 => exact ak (fun _ => ⟨rfl, fun _ _ => rfl⟩) trivial
  intro _ w3 H3
  clear H2
  refine rest0 rfl (then_normal (wp_cond_false rfl ?_))
  refine wp_skip (then_normal (wp_seq ?_))
  refine walk_seqB 1 [.quiet (.int .i64 0)] H3 ?ho4 ?he4
  case ho4 => exact ak (fun _ => ⟨rfl, fun _ _ => rfl⟩) trivial
  intro _ w4 H4
  clear H3
  refine rest0 rfl (then_normal (wp_ret ?_))
  repeat (first | refine then_ret ?_ | refine block_ret ?_)
  refine bodyPost_ret (v := .int .i64 0) (by simp [results, Try.results30, go_sem, *]) rfl ?_
  exact ⟨rfl, H4.out.2⟩
theorem wrong_any (p1 p2 : Option Addr) (k n c1 c2 : Nat) (l : Bool) (w : World) : Calls Try.prog 30 #[.slice p1 k c1, .slice p2 n c2, .bool l] w fun e w' => e = .returned (.int .i64 ((we k n l : Nat) : Int)) ∧ Below w.heap.size w w' := by
  by_cases hk : k = 32
  · by_cases hn : n = 12
    · cases l with
      | false =>
        have h := wrong_ok p1 p2 k n c1 c2 hk hn w
        rw [show we k n false = 0 by rw [hk, hn]; rfl]
        exact h
      | true =>
        have h := wrong_long p1 p2 k n c1 c2 hk hn w
        rw [show we k n true = 3 by rw [hk, hn]; rfl]
        exact h
    · rw [we_arg l (.inr hn)]
      exact wrong_non p1 p2 k n c1 c2 l hk hn w
  · rw [we_arg l (.inl hk)]
    exact wrong_key p1 p2 k n c1 c2 l hk w
set_option maxRecDepth 100000 in
theorem Block_err (p1 p2 : Option Addr) (k n c1 c2 : Nat) (c : Nat) (hE : we k n false ≠ 0) (w : World) :
    Calls Try.prog 10 #[.slice p1 k c1, .slice p2 n c2, W32 c] w fun e w' => e = .returned (.tuple #[.slice none 0 0, .int .i64 ((we k n false : Nat) : Int)]) ∧ Below w.heap.size w w' := by
  have H0 : Hid (_ ∧ _) := ⟨Mm.nil w, Below.refl w.heap.size w⟩
  go_enter Try.func10, Try.ntmps10
  refine wp_seq ?_
  refine walk_seqB 2 [.quiet (.slice none 0 0), .quiet (.int .i64 0)] H0 ?ho1 ?he1
  case ho1 => exact ak (fun _ => ⟨rfl, fun _ _ => rfl⟩) (ak (fun _ => ⟨rfl, fun _ _ => rfl⟩) trivial)
  intro _ w1 H1
  refine rest0 rfl (then_normal (wp_seq ?_))
  refine walk_seqB 4 [.quiet (.slice p1 k c1), .quiet (.slice p2 n c2), .call (.int .i64 ((we k n false : Nat) : Int)), .quiet (.int .i64 ((we k n false : Nat) : Int))] H1 ?ho2 ?he2
  case ho2 => exact ak (fun _ => ⟨rfl, fun _ _ => rfl⟩) (ak (fun _ => ⟨rfl, fun _ _ => rfl⟩) (ak (fun γ => ⟨rfl, fun w' h => ⟨30, #[.slice p1 k c1, .slice p2 n c2, .bool false], exec_call rfl call30 rfl (mpn rfl), wrong_any p1 p2 k n c1 c2 false w'⟩⟩) (ak (fun _ => ⟨rfl, fun _ _ => rfl⟩) trivial)))
  intro _ w2 H2
  clear H1
  refine rest0 rfl (then_normal (wp_seq (wp_seq ?_)))
  refine walk_seqB 2 [.quiet (.int .i64 ((we k n false : Nat) : Int)), .quiet (.bool true)] H2 ?ho3 ?he3
  case ho3 => exact ak (fun _ => ⟨rfl, fun _ _ => rfl⟩) (ak (by refine fun γ => ⟨rfl, fun w' h => ?_⟩; clear h; go_simp <;> omega) trivial)
  intro _ w3 H3
  clear H2
  refine rest0 rfl (then_normal (wp_cond_true rfl (wp_seq ?_)))
  refine walk_seqB 3 [.quiet (.int .i64 ((we k n false : Nat) : Int)), .quiet (.slice none 0 0), .quiet (.int .i64 ((we k n false : Nat) : Int))] H3 ?ho4 ?he4
  case ho4 => exact ak (fun _ => ⟨rfl, fun _ _ => rfl⟩) (ak (fun _ => ⟨rfl, fun _ _ => rfl⟩) (ak (fun _ => ⟨rfl, fun _ _ => rfl⟩) trivial))
  intro _ w4 H4
  clear H3
  refine rest0 rfl (then_normal (wp_ret ?_))
  repeat (first | refine then_ret ?_ | refine block_ret ?_)
  refine bodyPost_ret (v := .tuple #[.slice none 0 0, .int .i64 ((we k n false : Nat) : Int)]) (by simp [results, Try.results10, go_sem, *]) rfl ?_
  exact ⟨rfl, H4.out.2⟩
set_option maxRecDepth 100000 in
theorem Stream_errA (p1 p2 : Option Addr) (k n c1 c2 : Nat) (c m cm : Nat) (pm : Option Addr) (hm : m ≤ 1048576) (hE : we k n false ≠ 0) (w : World) :
    Calls Try.prog 12 #[.slice p1 k c1, .slice p2 n c2, W32 c, .slice pm m cm] w fun e w' => e = .returned (.tuple #[.slice none 0 0, .int .i64 ((we k n false : Nat) : Int)]) ∧ Below w.heap.size w w' := by
  have H0 : Hid (_ ∧ _) := ⟨Mm.nil w, Below.refl w.heap.size w⟩
  go_enter Try.func12, Try.ntmps12
  refine wp_seq ?_
  refine walk_seqB 2 [.quiet (.slice none 0 0), .quiet (.int .i64 0)] H0 ?ho1 ?he1
  case ho1 => exact ak (fun _ => ⟨rfl, fun _ _ => rfl⟩) (ak (fun _ => ⟨rfl, fun _ _ => rfl⟩) trivial)
  intro _ w1 H1
  refine rest0 rfl (then_normal (wp_seq ?_))
  refine walk_seqB 7 [.quiet (.slice p1 k c1), .quiet (.slice p2 n c2), .quiet (.slice pm m cm), .quiet (.int .i64 ((m : Nat) : Int)), .quiet (.bool false), .call (.int .i64 ((we k n false : Nat) : Int)), .quiet (.int .i64 ((we k n false : Nat) : Int))] H1 ?ho2 ?he2
  case ho2 => exact ak (fun _ => ⟨rfl, fun _ _ => rfl⟩) (ak (fun _ => ⟨rfl, fun _ _ => rfl⟩) (ak (fun _ => ⟨rfl, fun _ _ => rfl⟩) (ak (by refine fun γ => ⟨rfl, fun w' h => ?_⟩; clear h; go_simp) (ak (by refine fun γ => ⟨rfl, fun w' h => ?_⟩; clear h; go_simp <;> omega) (ak (fun γ => ⟨rfl, fun w' h => ⟨30, #[.slice p1 k c1, .slice p2 n c2, .bool false], exec_call rfl call30 rfl (mpn rfl), wrong_any p1 p2 k n c1 c2 false w'⟩⟩) (ak (fun _ => ⟨rfl, fun _ _ => rfl⟩) trivial))))))
  intro _ w2 H2
  clear H1
  refine rest0 rfl (then_normal (wp_seq (wp_seq ?_)))
  refine walk_seqB 2 [.quiet (.int .i64 ((we k n false : Nat) : Int)), .quiet (.bool true)] H2 ?ho3 ?he3
  case ho3 => exact ak (fun _ => ⟨rfl, fun _ _ => rfl⟩) (ak (by refine fun γ => ⟨rfl, fun w' h => ?_⟩; clear h; go_simp <;> omega) trivial)
  intro _ w3 H3
  clear H2
  refine rest0 rfl (then_normal (wp_cond_true rfl (wp_seq ?_)))
  refine walk_seqB 3 [.quiet (.int .i64 ((we k n false : Nat) : Int)), .quiet (.slice none 0 0), .quiet (.int .i64 ((we k n false : Nat) : Int))] H3 ?ho4 ?he4
  case ho4 => exact ak (fun _ => ⟨rfl, fun _ _ => rfl⟩) (ak (fun _ => ⟨rfl, fun _ _ => rfl⟩) (ak (fun _ => ⟨rfl, fun _ _ => rfl⟩) trivial))
  intro _ w4 H4
  clear H3
  refine rest0 rfl (then_normal (wp_ret ?_))
  repeat (first | refine then_ret ?_ | refine block_ret ?_)
  refine bodyPost_ret (v := .tuple #[.slice none 0 0, .int .i64 ((we k n false : Nat) : Int)]) (by simp [results, Try.results12, go_sem, *]) rfl ?_
  exact ⟨rfl, H4.out.2⟩
set_option maxRecDepth 100000 in
theorem Stream_errB (p1 p2 : Option Addr) (k n c1 c2 : Nat) (c m cm : Nat) (pm : Option Addr) (hm : 1048576 < m) (hE : we k n true ≠ 0) (w : World) :
    Calls Try.prog 12 #[.slice p1 k c1, .slice p2 n c2, W32 c, .slice pm m cm] w fun e w' => e = .returned (.tuple #[.slice none 0 0, .int .i64 ((we k n true : Nat) : Int)]) ∧ Below w.heap.size w w' := by
  have H0 : Hid (_ ∧ _) := ⟨Mm.nil w, Below.refl w.heap.size w⟩
  go_enter Try.func12, Try.ntmps12
  refine wp_seq ?_
  refine walk_seqB 2 [.quiet (.slice none 0 0), .quiet (.int .i64 0)] H0 ?ho1 ?he1
  case ho1 => exact ak (fun _ => ⟨rfl, fun _ _ => rfl⟩) (ak (fun _ => ⟨rfl, fun _ _ => rfl⟩) trivial)
  intro _ w1 H1
  refine rest0 rfl (then_normal (wp_seq ?_))
  refine walk_seqB 7 [.quiet (.slice p1 k c1), .quiet (.slice p2 n c2), .quiet (.slice pm m cm), .quiet (.int .i64 ((m : Nat) : Int)), .quiet (.bool true), .call (.int .i64 ((we k n true : Nat) : Int)), .quiet (.int .i64 ((we k n true : Nat) : Int))] H1 ?ho2 ?he2
  case ho2 => exact ak (fun _ => ⟨rfl, fun _ _ => rfl⟩) (ak (fun _ => ⟨rfl, fun _ _ => rfl⟩) (ak (fun _ => ⟨rfl, fun _ _ => rfl⟩) (ak (by refine fun γ => ⟨rfl, fun w' h => ?_⟩; clear h; go_simp) (ak (by refine fun γ => ⟨rfl, fun w' h => ?_⟩; clear h; go_simp <;> omega) (ak (fun γ => ⟨rfl, fun w' h => ⟨30, #[.slice p1 k c1, .slice p2 n c2, .bool true], exec_call rfl call30 rfl (mpn rfl), wrong_any p1 p2 k n c1 c2 true w'⟩⟩) (ak (fun _ => ⟨rfl, fun _ _ => rfl⟩) trivial))))))
  intro _ w2 H2
  clear H1
  refine rest0 rfl (then_normal (wp_seq (wp_seq ?_)))
  refine walk_seqB 2 [.quiet (.int .i64 ((we k n true : Nat) : Int)), .quiet (.bool true)] H2 ?ho3 ?he3
  case ho3 => exact ak (fun _ => ⟨rfl, fun _ _ => rfl⟩) (ak (by refine fun γ => ⟨rfl, fun w' h => ?_⟩; clear h; go_simp <;> omega) trivial)
  intro _ w3 H3
  clear H2
  refine rest0 rfl (then_normal (wp_cond_true rfl (wp_seq ?_)))
  refine walk_seqB 3 [.quiet (.int .i64 ((we k n true : Nat) : Int)), .quiet (.slice none 0 0), .quiet (.int .i64 ((we k n true : Nat) : Int))] H3 ?ho4 ?he4
  case ho4 => exact ak (fun _ => ⟨rfl, fun _ _ => rfl⟩) (ak (fun _ => ⟨rfl, fun _ _ => rfl⟩) (ak (fun _ => ⟨rfl, fun _ _ => rfl⟩) trivial))
  intro _ w4 H4
  clear H3
  refine rest0 rfl (then_normal (wp_ret ?_))
  repeat (first | refine then_ret ?_ | refine block_ret ?_)
  refine bodyPost_ret (v := .tuple #[.slice none 0 0, .int .i64 ((we k n true : Nat) : Int)]) (by simp [results, Try.results12, go_sem, *]) rfl ?_
  exact ⟨rfl, H4.out.2⟩
set_option maxRecDepth 100000 in
theorem Tag_key (p1 pm : Option Addr) (k c1 m cm : Nat) (hk : k ≠ 32) (w : World) :
    Calls Try.prog 14 #[.slice p1 k c1, .slice pm m cm] w fun e w' => e = .returned (.tuple #[.slice none 0 0, .int .i64 2]) ∧ Below w.heap.size w w' := by
  have H0 : Hid (_ ∧ _) := ⟨Mm.nil w, Below.refl w.heap.size w⟩
  go_enter Try.func14, Try.ntmps14
  refine wp_seq ?_
  refine walk_seqB 2 [.quiet (.slice none 0 0), .quiet (.int .i64 0)] H0 ?ho1 ?he1
  case ho1 => exact ak (fun _ => ⟨rfl, fun _ _ => rfl⟩) (ak (fun _ => ⟨rfl, fun _ _ => rfl⟩) trivial)
  intro _ w1 H1
  refine rest0 rfl (then_normal (wp_seq (wp_seq ?_)))
  refine walk_seqB 3 [.quiet (.slice p1 k c1), .quiet (.int .i64 ((k : Nat) : Int)), .quiet (.bool true)] H1 ?ho2 ?he2
  case ho2 => exact ak (fun _ => ⟨rfl, fun _ _ => rfl⟩) (ak (by refine fun γ => ⟨rfl, fun w' h => ?_⟩; clear h; go_simp) (ak (by refine fun γ => ⟨rfl, fun w' h => ?_⟩; clear h; go_simp <;> omega) trivial))
  intro _ w2 H2
  clear H1
  refine rest0 rfl (then_normal (wp_cond_true rfl (wp_seq ?_)))
  refine walk_seqB 2 [.quiet (.slice none 0 0), .quiet (.int .i64 2)] H2 ?ho3 ?he3
  case ho3 => exact ak (fun _ => ⟨rfl, fun _ _ => rfl⟩) (ak (fun _ => ⟨rfl, fun _ _ => rfl⟩) trivial)
  intro _ w3 H3
  clear H2
  refine rest0 rfl (then_normal (wp_ret ?_))
  repeat (first | refine then_ret ?_ | refine block_ret ?_)
  refine bodyPost_ret (v := .tuple #[.slice none 0 0, .int .i64 2]) (by simp [results, Try.results14, go_sem, *]) rfl ?_
  exact ⟨rfl, H3.out.2⟩
set_option maxRecDepth 100000 in
theorem Tag_long (p1 pm : Option Addr) (c1 m cm : Nat) (hm : 1048576 < m) (w : World) :
    Calls Try.prog 14 #[.slice p1 32 c1, .slice pm m cm] w fun e w' => e = .returned (.tuple #[.slice none 0 0, .int .i64 3]) ∧ Below w.heap.size w w' := by
  have H0 : Hid (_ ∧ _) := ⟨Mm.nil w, Below.refl w.heap.size w⟩
  go_enter Try.func14, Try.ntmps14
  refine wp_seq ?_
  refine walk_seqB 2 [.quiet (.slice none 0 0), .quiet (.int .i64 0)] H0 ?ho1 ?he1
  case ho1 => exact ak (fun _ => ⟨rfl, fun _ _ => rfl⟩) (ak (fun _ => ⟨rfl, fun _ _ => rfl⟩) trivial)
  intro _ w1 H1
  refine rest0 rfl (then_normal (wp_seq (wp_seq ?_)))
  refine walk_seqB 3 [.quiet (.slice p1 32 c1), .quiet (.int .i64 ((32 : Nat) : Int)), .quiet (.bool false)] H1 ?ho2 ?he2
  case ho2 => exact ak (fun _ => ⟨rfl, fun _ _ => rfl⟩) (ak (by refine fun γ => ⟨rfl, fun w' h => ?_⟩; clear h; go_simp) (ak (by refine fun γ => ⟨rfl, fun w' h => ?_⟩; clear h; go_simp <;> omega) trivial))
  intro _ w2 H2
  clear H1
  refine rest0 rfl (then_normal (wp_cond_false rfl ?_))
  refine wp_skip (then_normal ?_)
  refine wp_seq (wp_seq ?_)
  refine walk_seqB 3 [.quiet (.slice pm m cm), .quiet (.int .i64 ((m : Nat) : Int)), .quiet (.bool true)] H2 ?ho3 ?he3
  case ho3 => exact ak (fun _ => ⟨rfl, fun _ _ => rfl⟩) (ak (by refine fun γ => ⟨rfl, fun w' h => ?_⟩; clear h; go_simp) (ak (by refine fun γ => ⟨rfl, fun w' h => ?_⟩; clear h; go_simp <;> omega) trivial))
  intro _ w3 H3
  clear H2
  refine rest0 rfl (then_normal (wp_cond_true rfl (wp_seq ?_)))
  refine walk_seqB 2 [.quiet (.slice none 0 0), .quiet (.int .i64 3)] H3 ?ho4 ?he4
  case ho4 => exact ak (fun _ => ⟨rfl, fun _ _ => rfl⟩) (ak (fun _ => ⟨rfl, fun _ _ => rfl⟩) trivial)
  intro _ w4 H4
  clear H3
  refine rest0 rfl (then_normal (wp_ret ?_))
  repeat (first | refine then_ret ?_ | refine block_ret ?_)
  refine bodyPost_ret (v := .tuple #[.slice none 0 0, .int .i64 3]) (by simp [results, Try.results14, go_sem, *]) rfl ?_
  exact ⟨rfl, H4.out.2⟩
set_option maxHeartbeats 1000000 in
set_option maxRecDepth 100000 in
theorem Block_ok (K N : Nat → Nat) (gk ok ck gn on cn c : Nat) (w : World) (hRk : Rs gk ok 32 K w) (hRn : Rs gn on 12 N w) :
    Calls Try.prog 10 #[.slice (some ⟨gk, ok, none⟩) 32 ck, .slice (some ⟨gn, on, none⟩) 12 cn, W32 c] w fun e w' => Below w.heap.size w w' ∧ ∃ v, e = .returned (.tuple #[v, .int .i64 0]) ∧ w'.ownsRow w.heap.size 5 1 v 64 (ints .u8 (bk K N c) 64) := by
  have H0 : Hid (_ ∧ _) := ⟨Mm.nil w, Below.refl w.heap.size w⟩
  have RK : Hid (Rs gk ok 32 K w) := hRk
  have RN : Hid (Rs gn on 12 N w) := hRn
  clear hRk hRn
  go_enter Try.func10, Try.ntmps10
  refine wp_seq ?_
  refine walk_seqB 2 [.quiet (.slice none 0 0), .quiet (.int .i64 0)] H0 ?ho1 ?he1
  case ho1 => exact ak (fun _ => ⟨rfl, fun _ _ => rfl⟩) (ak (fun _ => ⟨rfl, fun _ _ => rfl⟩) trivial)
  intro _ w1 H1
  refine rest0 rfl (then_normal (wp_seq ?_))
  refine walk_seqB 4 [.quiet (.slice (some ⟨gk, ok, none⟩) 32 ck), .quiet (.slice (some ⟨gn, on, none⟩) 12 cn), .call (.int .i64 0), .quiet (.int .i64 0)] H1 ?ho2 ?he2
  case ho2 => exact ak (fun _ => ⟨rfl, fun _ _ => rfl⟩) (ak (fun _ => ⟨rfl, fun _ _ => rfl⟩) (ak (fun γ => ⟨rfl, fun w' h => ⟨30, #[.slice (some ⟨gk, ok, none⟩) 32 ck, .slice (some ⟨gn, on, none⟩) 12 cn, .bool false], exec_call rfl call30 rfl (mpn rfl), wrong_ok _ _ 32 12 _ _ rfl rfl w'⟩⟩) (ak (fun _ => ⟨rfl, fun _ _ => rfl⟩) trivial)))
  intro _ w2 H2
  clear H1
  refine rest0 rfl (then_normal (wp_seq (wp_seq ?_)))
  refine walk_seqB 2 [.quiet (.int .i64 0), .quiet (.bool false)] H2 ?ho3 ?he3
  case ho3 => exact ak (fun _ => ⟨rfl, fun _ _ => rfl⟩) (ak (by refine fun γ => ⟨rfl, fun w' h => ?_⟩; clear h; go_simp <;> omega) trivial)
  intro _ w3 H3
  clear H2
  refine rest0 rfl (then_normal (wp_cond_false rfl ?_))
  refine wp_skip (then_normal (wp_seq ?_))
  refine walk_seqB 3 [.quiet (.slice (some ⟨gk, ok, none⟩) 32 ck), .quiet (.slice (some ⟨gn, on, none⟩) 12 cn), .quiet (W32 c)] H3 ?ho4 ?he4
  case ho4 => exact ak (fun _ => ⟨rfl, fun _ _ => rfl⟩) (ak (fun _ => ⟨rfl, fun _ _ => rfl⟩) (ak (fun _ => ⟨rfl, fun _ _ => rfl⟩) trivial))
  intro _ w4 H4
  clear H3
  refine rest_at (l := [3, 4, 5]) rfl ?_
  refine rest_enter (d := 18) (R := fun vv w' => Below w4.heap.size w4 w' ∧ ∃ g x, vv = .slice (some ⟨g, 0, none⟩) 64 (64 + x) ∧ w4.heap.size ≤ g ∧ g < w'.heap.size ∧ Blk w' g (ints .u8 (bk K N c) 64) ∧ ∃ o, w'.heap[g]? = some o ∧ Eo 64 (bk K N c) o x) rfl rfl rfl (exec_call (args := #[.slice (some ⟨gk, ok, none⟩) 32 ck, .slice (some ⟨gn, on, none⟩) 12 cn, W32 c]) rfl call31 rfl (mpn rfl)) (Calls.mono (block_own K N gk ok ck gn on cn c w4 (RK.out.below H4.out.2) (RN.out.below H4.out.2)) (fun e w2 ⟨hb, g, x, _, he, h1, h2, h3, h4⟩ => ⟨_, he, hb, g, x, rfl, h1, h2, h3, h4⟩)) ?_
  intro _ w5 hR
  obtain ⟨hb, γr5, ξr5, rfl, h1, h2, h3, h4⟩ := hR
  simp only [Act.put, sa, sz, ss]
  have o_γr5 : Hid (w.heap.size ≤ γr5) := Nat.le_trans H4.out.2.size h1
  have oo_γr5 : Hid (γr5 < w5.heap.size ∧ Blk w5 γr5 (ints .u8 (bk K N c) 64) ∧ ∃ o, w5.heap[γr5]? = some o ∧ Eo 64 (bk K N c) o ξr5) := ⟨h2, h3, h4⟩
  have H5 : Hid (Mm w5 [(γr5, ints .u8 (bk K N c) 64)] ∧ Below w.heap.size w w5) := ⟨(H4.out.1.below hb).cons h3 h2 (fun p hp => by have := (H4.out.1.blk p hp).1; omega), H4.out.2.trans (hb.mono H4.out.2.size)⟩
  clear hb h1 h2 h3 h4 H4
  refine rest_set (d := 6) (v := .slice (some ⟨γr5, 0, none⟩) 64 (64 + ξr5)) (w' := w5) rfl rfl rfl rfl ?_
  simp only [Act.put, sa, sz, ss]
  refine rest_set (d := 7) (v := .int .i64 0) (w' := w5) rfl rfl rfl rfl ?_
  simp only [Act.put, sa, sz, ss]
  refine rest_nil (then_normal (wp_ret ?_))
  repeat (first | refine then_ret ?_ | refine block_ret ?_)
  refine bodyPost_ret (v := .tuple #[.slice (some ⟨γr5, 0, none⟩) 64 (64 + ξr5), .int .i64 0]) (by simp [results, Try.results10, go_sem, *]) rfl ?_
  exact ⟨H5.out.2, _, rfl, Eo.own oo_γr5.out.2.2 o_γr5.out⟩
set_option maxHeartbeats 1000000 in
set_option maxRecDepth 100000 in
theorem Tag_ok (K P : Nat → Nat) (gk ok ck gb ob n cb : Nat) (pb : Option Addr) (hK : ∀ j, K j < 256) (hP : ∀ j, P j < 256) (hpb : 0 < n → pb = some ⟨gb, ob, none⟩) (hn : n ≤ 1048576) (w : World) (hRk : Rs gk ok 32 K w) (hRn : Rs gb ob n P w) :
    Calls Try.prog 14 #[.slice (some ⟨gk, ok, none⟩) 32 ck, .slice pb n cb] w fun e w' => Below w.heap.size w w' ∧ ∃ v, e = .returned (.tuple #[v, .int .i64 0]) ∧ w'.ownsRow w.heap.size 5 1 v 16 (ints .u8 (tb (tg (nv (clq K 3) 34) P n ((n + 15) / 16)) K) 16) := by
  have H0 : Hid (_ ∧ _) := ⟨Mm.nil w, Below.refl w.heap.size w⟩
  have RK : Hid (Rs gk ok 32 K w) := hRk
  have RN : Hid (Rs gb ob n P w) := hRn
  clear hRk hRn
  go_enter Try.func14, Try.ntmps14
  refine wp_seq ?_
  refine walk_seqB 2 [.quiet (.slice none 0 0), .quiet (.int .i64 0)] H0 ?ho1 ?he1
  case ho1 => exact ak (fun _ => ⟨rfl, fun _ _ => rfl⟩) (ak (fun _ => ⟨rfl, fun _ _ => rfl⟩) trivial)
  intro _ w1 H1
  refine rest0 rfl (then_normal (wp_seq (wp_seq ?_)))
  refine walk_seqB 3 [.quiet (.slice (some ⟨gk, ok, none⟩) 32 ck), .quiet (.int .i64 ((32 : Nat) : Int)), .quiet (.bool false)] H1 ?ho2 ?he2
  case ho2 => exact ak (fun _ => ⟨rfl, fun _ _ => rfl⟩) (ak (by refine fun γ => ⟨rfl, fun w' h => ?_⟩; clear h; go_simp) (ak (by refine fun γ => ⟨rfl, fun w' h => ?_⟩; clear h; go_simp <;> omega) trivial))
  intro _ w2 H2
  clear H1
  refine rest0 rfl (then_normal (wp_cond_false rfl ?_))
  refine wp_skip (then_normal ?_)
  refine wp_seq (wp_seq ?_)
  refine walk_seqB 3 [.quiet (.slice pb n cb), .quiet (.int .i64 ((n : Nat) : Int)), .quiet (.bool false)] H2 ?ho3 ?he3
  case ho3 => exact ak (fun _ => ⟨rfl, fun _ _ => rfl⟩) (ak (by refine fun γ => ⟨rfl, fun w' h => ?_⟩; clear h; go_simp) (ak (by refine fun γ => ⟨rfl, fun w' h => ?_⟩; clear h; go_simp <;> omega) trivial))
  intro _ w3 H3
  clear H2
  refine rest0 rfl (then_normal (wp_cond_false rfl ?_))
  refine wp_skip (then_normal (wp_seq ?_))
  refine walk_seqB 2 [.quiet (.slice (some ⟨gk, ok, none⟩) 32 ck), .quiet (.slice pb n cb)] H3 ?ho4 ?he4
  case ho4 => exact ak (fun _ => ⟨rfl, fun _ _ => rfl⟩) (ak (fun _ => ⟨rfl, fun _ _ => rfl⟩) trivial)
  intro _ w4 H4
  clear H3
  refine rest_at (l := [2, 3, 4]) rfl ?_
  refine rest_enter (d := 14) (R := fun vv w' => Below w4.heap.size w4 w' ∧ ∃ g x, vv = .slice (some ⟨g, 0, none⟩) 16 (16 + x) ∧ w4.heap.size ≤ g ∧ g < w'.heap.size ∧ Blk w' g (ints .u8 (tb (tg (nv (clq K 3) 34) P n ((n + 15) / 16)) K) 16) ∧ ∃ o, w'.heap[g]? = some o ∧ Eo 16 (tb (tg (nv (clq K 3) 34) P n ((n + 15) / 16)) K) o x) rfl rfl rfl (exec_call (args := #[.slice (some ⟨gk, ok, none⟩) 32 ck, .slice pb n cb]) rfl call38 rfl (mpn rfl)) (Calls.mono (tag_own K P gk ok ck gb ob n cb pb hK hP hpb (by omega) w4 (RK.out.below H4.out.2) (RN.out.below H4.out.2)) (fun e w2 ⟨hb, g, x, _, he, h1, h2, h3, h4⟩ => ⟨_, he, hb, g, x, rfl, h1, h2, h3, h4⟩)) ?_
  intro _ w5 hR
  obtain ⟨hb, γr5, ξr5, rfl, h1, h2, h3, h4⟩ := hR
  simp only [Act.put, sa, sz, ss]
  have o_γr5 : Hid (w.heap.size ≤ γr5) := Nat.le_trans H4.out.2.size h1
  have oo_γr5 : Hid (γr5 < w5.heap.size ∧ Blk w5 γr5 (ints .u8 (tb (tg (nv (clq K 3) 34) P n ((n + 15) / 16)) K) 16) ∧ ∃ o, w5.heap[γr5]? = some o ∧ Eo 16 (tb (tg (nv (clq K 3) 34) P n ((n + 15) / 16)) K) o ξr5) := ⟨h2, h3, h4⟩
  have H5 : Hid (Mm w5 [(γr5, ints .u8 (tb (tg (nv (clq K 3) 34) P n ((n + 15) / 16)) K) 16)] ∧ Below w.heap.size w w5) := ⟨(H4.out.1.below hb).cons h3 h2 (fun p hp => by have := (H4.out.1.blk p hp).1; omega), H4.out.2.trans (hb.mono H4.out.2.size)⟩
  clear hb h1 h2 h3 h4 H4
  refine rest_set (d := 4) (v := .slice (some ⟨γr5, 0, none⟩) 16 (16 + ξr5)) (w' := w5) rfl rfl rfl rfl ?_
  simp only [Act.put, sa, sz, ss]
  refine rest_set (d := 5) (v := .int .i64 0) (w' := w5) rfl rfl rfl rfl ?_
  simp only [Act.put, sa, sz, ss]
  refine rest_nil (then_normal (wp_ret ?_))
  repeat (first | refine then_ret ?_ | refine block_ret ?_)
  refine bodyPost_ret (v := .tuple #[.slice (some ⟨γr5, 0, none⟩) 16 (16 + ξr5), .int .i64 0]) (by simp [results, Try.results14, go_sem, *]) rfl ?_
  exact ⟨H5.out.2, _, rfl, Eo.own oo_γr5.out.2.2 o_γr5.out⟩
set_option maxHeartbeats 1000000 in
set_option maxRecDepth 100000 in
theorem Stream_ok (K N P : Nat → Nat) (gk ok ck gn on cn c gb ob n cb : Nat) (pb : Option Addr) (hP : ∀ j, P j < 256) (hpb : 0 < n → pb = some ⟨gb, ob, none⟩) (hn : n ≤ 1048576) (w : World) (hRk : Rs gk ok 32 K w) (hRn : Rs gn on 12 N w) (hRb : Rs gb ob n P w) :
    Calls Try.prog 12 #[.slice (some ⟨gk, ok, none⟩) 32 ck, .slice (some ⟨gn, on, none⟩) 12 cn, W32 c, .slice pb n cb] w fun e w' => Below w.heap.size w w' ∧ ∃ v, e = .returned (.tuple #[v, .int .i64 0]) ∧ w'.ownsRow w.heap.size 5 1 v n (ints .u8 (so K N c P) n) := by
  have H0 : Hid (_ ∧ _) := ⟨Mm.nil w, Below.refl w.heap.size w⟩
  have RK : Hid (Rs gk ok 32 K w) := hRk
  have RN : Hid (Rs gn on 12 N w) := hRn
  have RB : Hid (Rs gb ob n P w) := hRb
  clear hRk hRn hRb
  go_enter Try.func12, Try.ntmps12
  refine wp_seq ?_
  refine walk_seqB 2 [.quiet (.slice none 0 0), .quiet (.int .i64 0)] H0 ?ho1 ?he1
  case ho1 => exact ak (fun _ => ⟨rfl, fun _ _ => rfl⟩) (ak (fun _ => ⟨rfl, fun _ _ => rfl⟩) trivial)
  intro _ w1 H1
  refine rest0 rfl (then_normal (wp_seq ?_))
  refine walk_seqB 7 [.quiet (.slice (some ⟨gk, ok, none⟩) 32 ck), .quiet (.slice (some ⟨gn, on, none⟩) 12 cn), .quiet (.slice pb n cb), .quiet (.int .i64 ((n : Nat) : Int)), .quiet (.bool false), .call (.int .i64 0), .quiet (.int .i64 0)] H1 ?ho2 ?he2
  case ho2 => exact ak (fun _ => ⟨rfl, fun _ _ => rfl⟩) (ak (fun _ => ⟨rfl, fun _ _ => rfl⟩) (ak (fun _ => ⟨rfl, fun _ _ => rfl⟩) (ak (by refine fun γ => ⟨rfl, fun w' h => ?_⟩; clear h; go_simp) (ak (by refine fun γ => ⟨rfl, fun w' h => ?_⟩; clear h; go_simp <;> omega) (ak (fun γ => ⟨rfl, fun w' h => ⟨30, #[.slice (some ⟨gk, ok, none⟩) 32 ck, .slice (some ⟨gn, on, none⟩) 12 cn, .bool false], exec_call rfl call30 rfl (mpn rfl), wrong_ok _ _ 32 12 _ _ rfl rfl w'⟩⟩) (ak (fun _ => ⟨rfl, fun _ _ => rfl⟩) trivial))))))
  intro _ w2 H2
  clear H1
  refine rest0 rfl (then_normal (wp_seq (wp_seq ?_)))
  refine walk_seqB 2 [.quiet (.int .i64 0), .quiet (.bool false)] H2 ?ho3 ?he3
  case ho3 => exact ak (fun _ => ⟨rfl, fun _ _ => rfl⟩) (ak (by refine fun γ => ⟨rfl, fun w' h => ?_⟩; clear h; go_simp <;> omega) trivial)
  intro _ w3 H3
  clear H2
  refine rest0 rfl (then_normal (wp_cond_false rfl ?_))
  refine wp_skip (then_normal (wp_seq ?_))
  refine walk_seqB 4 [.quiet (.slice (some ⟨gk, ok, none⟩) 32 ck), .quiet (.slice (some ⟨gn, on, none⟩) 12 cn), .quiet (W32 c), .quiet (.slice pb n cb)] H3 ?ho4 ?he4
  case ho4 => exact ak (fun _ => ⟨rfl, fun _ _ => rfl⟩) (ak (fun _ => ⟨rfl, fun _ _ => rfl⟩) (ak (fun _ => ⟨rfl, fun _ _ => rfl⟩) (ak (fun _ => ⟨rfl, fun _ _ => rfl⟩) trivial)))
  intro _ w4 H4
  clear H3
  refine rest_at (l := [4, 5, 6]) rfl ?_
  refine rest_enter (d := 24) (R := fun vv w' => Below w4.heap.size w4 w' ∧ w'.ownsRow w4.heap.size 5 1 vv n (ints .u8 (so K N c P) n)) rfl rfl rfl (exec_call (args := #[.slice (some ⟨gk, ok, none⟩) 32 ck, .slice (some ⟨gn, on, none⟩) 12 cn, W32 c, .slice pb n cb]) rfl call33 rfl (mpn rfl)) (Calls.mono (stream_any K N P gk ok ck gn on cn c gb ob n cb pb hP hpb (by omega) w4 (RK.out.below H4.out.2) (RN.out.below H4.out.2) (RB.out.below H4.out.2)) (fun e w2 ⟨hb, v, he, ho⟩ => ⟨v, he, hb, ho⟩)) ?_
  intro v5 w5 hR
  simp only [Act.put, sa, sz, ss]
  have HO : Hid (w5.ownsRow w.heap.size 5 1 v5 n (ints .u8 (so K N c P) n)) := own_mono hR.2 H4.out.2.size
  have H5 : Hid (Mm w5 [] ∧ Below w.heap.size w w5) := ⟨H4.out.1.below hR.1, H4.out.2.trans (hR.1.mono H4.out.2.size)⟩
  clear hR H4
  refine rest_set (d := 8) (v := v5) (w' := w5) rfl rfl rfl rfl ?_
  simp only [Act.put, sa, sz, ss]
  refine rest_set (d := 9) (v := .int .i64 0) (w' := w5) rfl rfl rfl rfl ?_
  simp only [Act.put, sa, sz, ss]
  refine rest_nil (then_normal (wp_ret ?_))
  repeat (first | refine then_ret ?_ | refine block_ret ?_)
  refine bodyPost_ret (v := .tuple #[v5, .int .i64 0]) (by simp [results, Try.results12, go_sem, *]) rfl ?_
  exact ⟨H5.out.2, _, rfl, HO.out⟩
end Rg
end Go.Proofs.Ytkkippfikfjdpaa
end
section
namespace Go.Proofs.Ytkkippfikfjdpaa
open Go.RowKit
namespace Rg
set_option maxRecDepth 100000
theorem so_256 (K N : Nat → Nat) (c : Nat) (P : Nat → Nat) (j : Nat) : so K N c P j < 256 := Nat.mod_lt _ (by decide)
end Rg
end Go.Proofs.Ytkkippfikfjdpaa
end
section
namespace Go.Proofs.Ytkkippfikfjdpaa
open Go.RowKit
namespace Rg
set_option maxRecDepth 100000
end Rg
end Go.Proofs.Ytkkippfikfjdpaa
end
section
namespace Go.Proofs.Ytkkippfikfjdpaa
open Go.RowKit
namespace Rg
set_option maxRecDepth 100000
/-- The number of a text's pieces, the last one with a byte 1 behind it. -/
def tga (r : Nat) (f : Nat → Nat) (n : Nat) : Nat := if n % 16 = 0 then pgs r 0 f (n / 16) else ga r (pgs r 0 f (n / 16)) (lst (fun j => f (16 * (n / 16) + j)) (n % 16))
theorem call35 : ∀ args w, (callFunc 35 args).run Try.prog w = .ok (.enter 35 args) w := by intro args w; go_simp
set_option maxHeartbeats 1000000 in
set_option maxRecDepth 100000 in
theorem PTag_whole (K : Nat → Nat) (gk ok ck : Nat) (hck : 32 ≤ ck) (hK : ∀ j, K j < 256) (q : Pt8) (hq : Pok q) (hf : ∀ j, q.f j < 256) (hl : q.n ≤ 1048576) (hm : q.n % 16 = 0) (w : World) (hRk : Rs gk ok 32 K w) (hRb : q.rs w) :
    Calls Try.prog 13 #[.slice (some ⟨gk, ok, none⟩) 32 ck, .slice q.p q.n q.cp] w fun e w' => Below w.heap.size w w' ∧ ∃ g, e = .returned (.tuple #[.slice (some ⟨g, 0, none⟩) 16 16, .int .i64 0]) ∧ w.heap.size ≤ g ∧ g < w'.heap.size ∧ Blk w' g (ints .u8 (tt (pgs (rk K) 0 q.f (q.n / 16)) (sk K)) 16) := by
  have H0 : Hid (_ ∧ _) := ⟨Mm.nil w, Below.refl w.heap.size w⟩
  have RK : Hid (Rs gk ok 32 K w) := hRk
  have RB : Hid (q.rs w) := hRb
  clear hRk hRb
  go_enter Try.func13, Try.ntmps13
  refine wp_seq ?_
  refine walk_seqB 2 [.quiet (.slice none 0 0), .quiet (.int .i64 0)] H0 ?ho1 ?he1
  case ho1 => exact ak (fun _ => ⟨rfl, fun _ _ => rfl⟩) (ak (fun _ => ⟨rfl, fun _ _ => rfl⟩) trivial)
  intro _ w1 H1
  refine rest0 rfl (then_normal (wp_seq (wp_seq ?_)))
  refine walk_seqB 3 [.quiet (.slice (some ⟨gk, ok, none⟩) 32 ck), .quiet (.int .i64 ((32 : Nat) : Int)), .quiet (.bool false)] H1 ?ho2 ?he2
  case ho2 => exact ak (fun _ => ⟨rfl, fun _ _ => rfl⟩) (ak (by refine fun γ => ⟨rfl, fun w' h => ?_⟩; clear h; go_simp) (ak (by refine fun γ => ⟨rfl, fun w' h => ?_⟩; clear h; go_simp <;> omega) trivial))
  intro _ w2 H2
  clear H1
  refine rest0 rfl (then_normal (wp_cond_false rfl ?_))
  refine wp_skip (then_normal ?_)
  refine wp_seq (wp_seq ?_)
  refine walk_seqB 3 [.quiet (.slice q.p q.n q.cp), .quiet (.int .i64 ((q.n : Nat) : Int)), .quiet (.bool false)] H2 ?ho3 ?he3
  case ho3 => exact ak (fun _ => ⟨rfl, fun _ _ => rfl⟩) (ak (by refine fun γ => ⟨rfl, fun w' h => ?_⟩; clear h; go_simp) (ak (by refine fun γ => ⟨rfl, fun w' h => ?_⟩; clear h; go_simp <;> omega) trivial))
  intro _ w3 H3
  clear H2
  refine rest0 rfl (then_normal (wp_cond_false rfl ?_))
  refine wp_skip (then_normal (wp_seq ?_))
  refine (walk_seq) 4 [.quiet (.slice (some ⟨gk, ok, none⟩) 32 ck), .call (.agg (ints .u64 (wk9 0 (rk K) (sk K)) 9).toArray), .made (ints .u64 (fun _ => 0) 9) 61, .laid 2 (ints .u64 (fun _ => 0) 9) (ints .u64 (wk9 0 (rk K) (sk K)) 9)] (fun u' => Mm u' [] ∧ Rs gk ok 32 K u') ?pre4 ?F4 ?hpre4 (fun γ => ?hF4) (by kernel_rfl) ?hL4 ?hS4 ?ho4 ?he4
  case hpre4 => simp only [tk, tz]; rfl
  case hF4 => simp only [fill, Kind.val, Act.put, sa, sz, ss]; rfl
  case hL4 => exact ⟨⟨_, rfl⟩, trivial⟩
  case hS4 => exact fun w' hb => ⟨H3.out.1.below hb, RK.out.below (H3.out.2.trans (hb.mono H3.out.2.size))⟩
  case ho4 =>
    refine ak (fun _ => ⟨rfl, fun _ _ => rfl⟩) ?_
    refine ak (fun γ => ⟨rfl, fun w' hX => ⟨34, #[.slice (some ⟨gk, ok, none⟩) 32 ck], exec_call rfl call34 rfl (mpn rfl), under_any K gk ok ck hck hK w' hX.2⟩⟩) ?_
    refine ak (fun γ => ⟨rfl, fun w' => ex_mk61 rfl⟩) ?_
    refine ak (fun γ => ⟨rfl, rfl, (ints_len _ _ _).trans (ints_len _ _ _).symm, fun w' h => ex_laidI h Try.sizeOf61 rfl rfl rfl⟩) ?_
    exact trivial
  intro γ w4 l hM hl
  have H4 : Hid (Mm w4 [(γ 2, ints .u64 (wk9 0 (rk K) (sk K)) 9)] ∧ _) := growB H3 hM (Nat.le_refl _) hl [2] rfl (by decide)
  have o4_2 := ownB H3 hM (Nat.le_refl _) hl (i := 2) rfl
  clear hM hl l H3
  generalize γ 2 = γ4_2 at H4 o4_2 ⊢
  clear γ
  refine rest0 rfl (then_normal (wp_seq ?_))
  refine walk_seqB 1 [.quiet (.slice q.p q.n q.cp)] H4 ?ho5 ?he5
  case ho5 => exact ak (fun _ => ⟨rfl, fun _ _ => rfl⟩) trivial
  intro _ w5 H5
  clear H4
  refine rest_at (l := [1, 2]) rfl ?_
  refine rest_enter (d := 18) (R := fun vv w' => (∃ p c, vv = .slice p (q.n % 16) c ∧ (0 < q.n % 16 → p = some ⟨q.gb, q.o + 16 * (q.n / 16), none⟩ ∧ q.n % 16 ≤ c)) ∧ Mm w' [(γ4_2, ints .u64 (wk9 (pgs (rk K) 0 q.f (q.n / 16)) (rk K) (sk K)) 9)] ∧ Kp γ4_2 w5 w') rfl rfl rfl (exec_call (args := #[PT γ4_2 0, .slice q.p q.n q.cp]) rfl call36 rfl (mpn rfl)) (Calls.mono (whole_any γ4_2 0 (rk K) (sk K) q hq (rk_ok _) ab_zero hf (fun hn => by have h1 := RB.out.lt hn; have h2 := o4_2.out; omega) (by omega) w5 (H5.out.1.one 0 rfl) (RB.out.below H5.out.2)) (fun e w2 hh => by obtain ⟨⟨p, c, he, hp⟩, h2⟩ := hh; exact ⟨_, he, ⟨p, c, rfl, hp⟩, h2⟩)) ?_
  rintro _ w6 ⟨⟨pw1, cw1, rfl, hp1⟩, hn1, hk1⟩
  simp only [Act.put, sa, sz, ss]
  have H6 : Hid (Mm w6 [(γ4_2, ints .u64 (wk9 (pgs (rk K) 0 q.f (q.n / 16)) (rk K) (sk K)) 9)] ∧ Below w.heap.size w w6) := ⟨H5.out.1.change 0 rfl hk1 hn1, Below.kp H5.out.2 hk1 o4_2.out H5.out.2.size⟩
  clear hn1 hk1 H5
  rw [hm]
  clear hp1
  refine rest_enter (d := 19) (R := fun vv w' => vv = .tuple #[] ∧ Below w6.heap.size w6 w') rfl rfl rfl (exec_call (args := #[PT γ4_2 0, .slice pw1 0 cw1]) rfl call35 rfl (mpn rfl)) (Calls.mono (last_zero _ _ _ w6) (fun e w2 hh => ⟨_, hh.1, rfl, hh.2⟩)) ?_
  rintro _ w7 ⟨rfl, hb⟩
  have H7 : Hid (_ ∧ _) := ⟨H6.out.1.below hb, H6.out.2.trans (hb.mono H6.out.2.size)⟩
  clear hb H6
  simp only [Act.put, sa, sz, ss]
  refine rest_nil (then_normal (wp_seq ?_))
  refine walk_seqB 0 [] H7 ?ho6 ?he6
  case ho6 => exact trivial
  intro _ w8 H8
  clear H7
  refine rest_at (l := [0, 1]) rfl ?_
  refine rest_set (d := 20) (v := .slice (some ⟨w8.heap.size, 0, none⟩) 16 16) (w' := (w8.alloc (.cells (ints .u8 (fun _ => 0) 16).toArray 5))) rfl rfl rfl (ex_mkB (m := 16) (by decide) rfl rfl rfl) ?_
  simp only [Act.put, sa, sz, ss]
  have o_γs9 : Hid (w.heap.size ≤ w8.heap.size) := H8.out.2.size
  have H9 : Hid (Mm (w8.alloc (.cells (ints .u8 (fun _ => 0) 16).toArray 5)) ((w8.heap.size, ints .u8 (fun _ => 0) 16) :: [(γ4_2, ints .u64 (wk9 (pgs (rk K) 0 q.f (q.n / 16)) (rk K) (sk K)) 9)]) ∧ Below w.heap.size w (w8.alloc (.cells (ints .u8 (fun _ => 0) 16).toArray 5))) := ⟨H8.out.1.alloc _ 5 rfl, H8.out.2.alloc H8.out.2.size _⟩
  clear H8
  generalize hgw : (w8.alloc (.cells (ints .u8 (fun _ => 0) 16).toArray 5)) = w9 at H9 ⊢
  clear hgw
  generalize w8.heap.size = γs9 at o_γs9 H9 ⊢
  refine rest_set (d := 7) (v := .slice (some ⟨γs9, 0, none⟩) 16 16) (w' := w9) rfl rfl rfl rfl ?_
  simp only [Act.put, sa, sz, ss]
  refine rest_nil (then_normal (wp_seq ?_))
  refine walk_seqA 3 [.call (.agg (ints .u8 (tt (pgs (rk K) 0 q.f (q.n / 16)) (sk K)) 16).toArray), .made (ints .u8 (fun _ => 0) 16) 65, .laid 1 (ints .u8 (fun _ => 0) 16) (ints .u8 (tt (pgs (rk K) 0 q.f (q.n / 16)) (sk K)) 16)] (sB H9) ?ho7 ?he7 (hL := ?hL7)
  case hL7 => exact ⟨⟨_, rfl⟩, trivial⟩
  case ho7 => exact ak (fun γ => ⟨rfl, fun w' h => ⟨37, #[PT γ4_2 0], exec_call rfl call37 rfl (mpn rfl), wtag_any γ4_2 (pgs (rk K) 0 q.f (q.n / 16)) (rk K) (sk K) (pgs_ok (rk_ok _) ab_zero hf _) (sk_lt hK) w' (h.one 1 rfl)⟩⟩) (ak (fun γ => ⟨rfl, fun w' => ex_mk65 rfl⟩) (ak (fun γ => ⟨rfl, rfl, (ints_len _ _ _).trans (ints_len _ _ _).symm, fun w' h => ex_laidI h Try.sizeOf65 rfl rfl rfl⟩) trivial))
  intro γ w10 l hM hl
  have H10 : Hid (Mm w10 [(γ 1, ints .u8 (tt (pgs (rk K) 0 q.f (q.n / 16)) (sk K)) 16), (γs9, ints .u8 (fun _ => 0) 16), (γ4_2, ints .u64 (wk9 (pgs (rk K) 0 q.f (q.n / 16)) (rk K) (sk K)) 9)] ∧ _) := growB H9 hM (Nat.le_refl _) hl [1] rfl (by decide)
  have o7_1 := ownB H9 hM (Nat.le_refl _) hl (i := 1) rfl
  clear hM hl l H9
  generalize γ 1 = γ7_1 at H10 o7_1 ⊢
  clear γ
  refine rest0 rfl (then_normal (wp_seq ?_))
  refine walk_seqB 2 [.quiet (.slice (some ⟨γs9, 0, none⟩) 16 16), .quiet (.slice (some ⟨γ7_1, 0, none⟩) 16 16)] H10 ?ho8 ?he8
  case ho8 => exact ak (fun _ => ⟨rfl, fun _ _ => rfl⟩) (ak (by refine fun γ => ⟨rfl, fun w' h => ?_⟩; clear h; go_simp) trivial)
  intro _ w11 H11
  clear H10
  refine rest_at (l := [2]) rfl ?_
  refine rest_set (d := 24) (v := .int .i64 ((16 : Nat) : Int)) (w' := w11.setCells γs9 0 (ints .u8 (tt (pgs (rk K) 0 q.f (q.n / 16)) (sk K)) 16)) rfl rfl rfl (ex_copyR (mm := 16) H11.out.1 1 rfl ((H11.out.1.rs 0 rfl (Nat.le_refl _)).at_) (rfl) (by decide) rfl rfl rfl) ?_
  simp only [Act.put, sa, sz, ss]
  have H12 : Hid (Mm (w11.setCells γs9 0 (ints .u8 (tt (pgs (rk K) 0 q.f (q.n / 16)) (sk K)) 16)) [(γ7_1, ints .u8 (tt (pgs (rk K) 0 q.f (q.n / 16)) (sk K)) 16), (γs9, ints .u8 (py (fun _ => 0) 0 16 (tt (pgs (rk K) 0 q.f (q.n / 16)) (sk K))) 16), (γ4_2, ints .u64 (wk9 (pgs (rk K) 0 q.f (q.n / 16)) (rk K) (sk K)) 9)] ∧ Below w.heap.size w (w11.setCells γs9 0 (ints .u8 (tt (pgs (rk K) 0 q.f (q.n / 16)) (sk K)) 16))) := ⟨by
    have h := H11.out.1.put 1 (off := 0) (vs := ints .u8 (tt (pgs (rk K) 0 q.f (q.n / 16)) (sk K)) 16) rfl (by rw [ints_len, ints_len]; decide)
    rw [ints_part _ _ (by decide)] at h
    exact h, below_setCells _ o_γs9.out _ _ _ H11.out.2⟩
  clear H11
  generalize hgw : World.setCells _ _ _ _ = w12 at H12 ⊢
  clear hgw
  refine rest_nil (then_normal (wp_seq ?_))
  refine walk_seqB 3 [.quiet (.slice (some ⟨γs9, 0, none⟩) 16 16), .quiet (.slice (some ⟨γs9, 0, none⟩) 16 16), .quiet (.int .i64 0)] H12 ?ho9 ?he9
  case ho9 => exact ak (fun _ => ⟨rfl, fun _ _ => rfl⟩) (ak (fun _ => ⟨rfl, fun _ _ => rfl⟩) (ak (fun _ => ⟨rfl, fun _ _ => rfl⟩) trivial))
  intro _ w13 H13
  clear H12
  refine rest0 rfl (then_normal (wp_ret ?_))
  repeat (first | refine then_ret ?_ | refine block_ret ?_)
  refine bodyPost_ret (v := .tuple #[.slice (some ⟨γs9, 0, none⟩) 16 16, .int .i64 0]) (by simp [results, Try.results13, go_sem, *]) rfl ?_
  have hM := H13.out.1.one 1 rfl
  rw [ints_congr (py_all _ _ 16)] at hM
  exact ⟨H13.out.2, _, rfl, o_γs9.out, (hM.blk _ (List.mem_singleton.2 rfl)).1, (hM.blk _ (List.mem_singleton.2 rfl)).2⟩
set_option maxHeartbeats 1000000 in
set_option maxRecDepth 100000 in
theorem PTag_more (K : Nat → Nat) (gk ok ck : Nat) (hck : 32 ≤ ck) (hK : ∀ j, K j < 256) (q : Pt8) (hq : Pok q) (hf : ∀ j, q.f j < 256) (hl : q.n ≤ 1048576) (hm : 0 < q.n % 16) (w : World) (hRk : Rs gk ok 32 K w) (hRb : q.rs w) :
    Calls Try.prog 13 #[.slice (some ⟨gk, ok, none⟩) 32 ck, .slice q.p q.n q.cp] w fun e w' => Below w.heap.size w w' ∧ ∃ g, e = .returned (.tuple #[.slice (some ⟨g, 0, none⟩) 16 16, .int .i64 0]) ∧ w.heap.size ≤ g ∧ g < w'.heap.size ∧ Blk w' g (ints .u8 (tt (ga (rk K) (pgs (rk K) 0 q.f (q.n / 16)) (lst (fun j => q.f (16 * (q.n / 16) + j)) (q.n % 16))) (sk K)) 16) := by
  have H0 : Hid (_ ∧ _) := ⟨Mm.nil w, Below.refl w.heap.size w⟩
  have RK : Hid (Rs gk ok 32 K w) := hRk
  have RB : Hid (q.rs w) := hRb
  clear hRk hRb
  go_enter Try.func13, Try.ntmps13
  refine wp_seq ?_
  refine walk_seqB 2 [.quiet (.slice none 0 0), .quiet (.int .i64 0)] H0 ?ho1 ?he1
  case ho1 => exact ak (fun _ => ⟨rfl, fun _ _ => rfl⟩) (ak (fun _ => ⟨rfl, fun _ _ => rfl⟩) trivial)
  intro _ w1 H1
  refine rest0 rfl (then_normal (wp_seq (wp_seq ?_)))
  refine walk_seqB 3 [.quiet (.slice (some ⟨gk, ok, none⟩) 32 ck), .quiet (.int .i64 ((32 : Nat) : Int)), .quiet (.bool false)] H1 ?ho2 ?he2
  case ho2 => exact ak (fun _ => ⟨rfl, fun _ _ => rfl⟩) (ak (by refine fun γ => ⟨rfl, fun w' h => ?_⟩; clear h; go_simp) (ak (by refine fun γ => ⟨rfl, fun w' h => ?_⟩; clear h; go_simp <;> omega) trivial))
  intro _ w2 H2
  clear H1
  refine rest0 rfl (then_normal (wp_cond_false rfl ?_))
  refine wp_skip (then_normal ?_)
  refine wp_seq (wp_seq ?_)
  refine walk_seqB 3 [.quiet (.slice q.p q.n q.cp), .quiet (.int .i64 ((q.n : Nat) : Int)), .quiet (.bool false)] H2 ?ho3 ?he3
  case ho3 => exact ak (fun _ => ⟨rfl, fun _ _ => rfl⟩) (ak (by refine fun γ => ⟨rfl, fun w' h => ?_⟩; clear h; go_simp) (ak (by refine fun γ => ⟨rfl, fun w' h => ?_⟩; clear h; go_simp <;> omega) trivial))
  intro _ w3 H3
  clear H2
  refine rest0 rfl (then_normal (wp_cond_false rfl ?_))
  refine wp_skip (then_normal (wp_seq ?_))
  refine (walk_seq) 4 [.quiet (.slice (some ⟨gk, ok, none⟩) 32 ck), .call (.agg (ints .u64 (wk9 0 (rk K) (sk K)) 9).toArray), .made (ints .u64 (fun _ => 0) 9) 61, .laid 2 (ints .u64 (fun _ => 0) 9) (ints .u64 (wk9 0 (rk K) (sk K)) 9)] (fun u' => Mm u' [] ∧ Rs gk ok 32 K u') ?pre4 ?F4 ?hpre4 (fun γ => ?hF4) (by kernel_rfl) ?hL4 ?hS4 ?ho4 ?he4
  case hpre4 => simp only [tk, tz]; rfl
  case hF4 => simp only [fill, Kind.val, Act.put, sa, sz, ss]; rfl
  case hL4 => exact ⟨⟨_, rfl⟩, trivial⟩
  case hS4 => exact fun w' hb => ⟨H3.out.1.below hb, RK.out.below (H3.out.2.trans (hb.mono H3.out.2.size))⟩
  case ho4 =>
    refine ak (fun _ => ⟨rfl, fun _ _ => rfl⟩) ?_
    refine ak (fun γ => ⟨rfl, fun w' hX => ⟨34, #[.slice (some ⟨gk, ok, none⟩) 32 ck], exec_call rfl call34 rfl (mpn rfl), under_any K gk ok ck hck hK w' hX.2⟩⟩) ?_
    refine ak (fun γ => ⟨rfl, fun w' => ex_mk61 rfl⟩) ?_
    refine ak (fun γ => ⟨rfl, rfl, (ints_len _ _ _).trans (ints_len _ _ _).symm, fun w' h => ex_laidI h Try.sizeOf61 rfl rfl rfl⟩) ?_
    exact trivial
  intro γ w4 l hM hl
  have H4 : Hid (Mm w4 [(γ 2, ints .u64 (wk9 0 (rk K) (sk K)) 9)] ∧ _) := growB H3 hM (Nat.le_refl _) hl [2] rfl (by decide)
  have o4_2 := ownB H3 hM (Nat.le_refl _) hl (i := 2) rfl
  clear hM hl l H3
  generalize γ 2 = γ4_2 at H4 o4_2 ⊢
  clear γ
  refine rest0 rfl (then_normal (wp_seq ?_))
  refine walk_seqB 1 [.quiet (.slice q.p q.n q.cp)] H4 ?ho5 ?he5
  case ho5 => exact ak (fun _ => ⟨rfl, fun _ _ => rfl⟩) trivial
  intro _ w5 H5
  clear H4
  refine rest_at (l := [1, 2]) rfl ?_
  refine rest_enter (d := 18) (R := fun vv w' => (∃ p c, vv = .slice p (q.n % 16) c ∧ (0 < q.n % 16 → p = some ⟨q.gb, q.o + 16 * (q.n / 16), none⟩ ∧ q.n % 16 ≤ c)) ∧ Mm w' [(γ4_2, ints .u64 (wk9 (pgs (rk K) 0 q.f (q.n / 16)) (rk K) (sk K)) 9)] ∧ Kp γ4_2 w5 w') rfl rfl rfl (exec_call (args := #[PT γ4_2 0, .slice q.p q.n q.cp]) rfl call36 rfl (mpn rfl)) (Calls.mono (whole_any γ4_2 0 (rk K) (sk K) q hq (rk_ok _) ab_zero hf (fun hn => by have h1 := RB.out.lt hn; have h2 := o4_2.out; omega) (by omega) w5 (H5.out.1.one 0 rfl) (RB.out.below H5.out.2)) (fun e w2 hh => by obtain ⟨⟨p, c, he, hp⟩, h2⟩ := hh; exact ⟨_, he, ⟨p, c, rfl, hp⟩, h2⟩)) ?_
  rintro _ w6 ⟨⟨pw1, cw1, rfl, hp1⟩, hn1, hk1⟩
  simp only [Act.put, sa, sz, ss]
  have H6 : Hid (Mm w6 [(γ4_2, ints .u64 (wk9 (pgs (rk K) 0 q.f (q.n / 16)) (rk K) (sk K)) 9)] ∧ Below w.heap.size w w6) := ⟨H5.out.1.change 0 rfl hk1 hn1, Below.kp H5.out.2 hk1 o4_2.out H5.out.2.size⟩
  clear hn1 hk1 H5
  obtain ⟨rfl, hc1⟩ := hp1 hm
  refine rest_enter (d := 19) (R := fun vv w' => vv = .tuple #[] ∧ Mm w' [(γ4_2, ints .u64 (wk9 (ga (rk K) (pgs (rk K) 0 q.f (q.n / 16)) (lst (fun j => q.f (16 * (q.n / 16) + j)) (q.n % 16))) (rk K) (sk K)) 9)] ∧ Kp γ4_2 w6 w') rfl rfl rfl (exec_call (args := #[PT γ4_2 0, .slice (some ⟨q.gb, (q.o + 16 * (q.n / 16)), none⟩) (q.n % 16) cw1]) rfl call35 rfl (mpn rfl)) (Calls.mono (last_any γ4_2 (pgs (rk K) 0 q.f (q.n / 16)) (rk K) (sk K) q.gb (q.o + 16 * (q.n / 16)) (q.n % 16) cw1 (fun j => q.f (16 * (q.n / 16) + j)) (rk_ok _) (pgs_ok (rk_ok _) ab_zero hf _) (fun j => hf _) (by have h1 := RB.out.lt (by omega); have h2 := o4_2.out; omega) hm (by omega) w6 (H6.out.1.one 0 rfl) (by have h3 := (RB.out.below H6.out.2).part (16 * (q.n / 16)); exact ⟨fun _ => h3.lt (by omega), fun i hi => h3.at_ i (by omega)⟩)) (fun e w2 hh => ⟨_, hh.1, rfl, hh.2⟩)) ?_
  rintro _ w7 ⟨rfl, hn, hp⟩
  have H7 : Hid (Mm w7 [(γ4_2, ints .u64 (wk9 (ga (rk K) (pgs (rk K) 0 q.f (q.n / 16)) (lst (fun j => q.f (16 * (q.n / 16) + j)) (q.n % 16))) (rk K) (sk K)) 9)] ∧ Below w.heap.size w w7) := ⟨H6.out.1.change 0 rfl hp hn, Below.kp H6.out.2 hp o4_2.out H6.out.2.size⟩
  clear hn hp H6
  simp only [Act.put, sa, sz, ss]
  refine rest_nil (then_normal (wp_seq ?_))
  refine walk_seqB 0 [] H7 ?ho6 ?he6
  case ho6 => exact trivial
  intro _ w8 H8
  clear H7
  refine rest_at (l := [0, 1]) rfl ?_
  refine rest_set (d := 20) (v := .slice (some ⟨w8.heap.size, 0, none⟩) 16 16) (w' := (w8.alloc (.cells (ints .u8 (fun _ => 0) 16).toArray 5))) rfl rfl rfl (ex_mkB (m := 16) (by decide) rfl rfl rfl) ?_
  simp only [Act.put, sa, sz, ss]
  have o_γs9 : Hid (w.heap.size ≤ w8.heap.size) := H8.out.2.size
  have H9 : Hid (Mm (w8.alloc (.cells (ints .u8 (fun _ => 0) 16).toArray 5)) ((w8.heap.size, ints .u8 (fun _ => 0) 16) :: [(γ4_2, ints .u64 (wk9 (ga (rk K) (pgs (rk K) 0 q.f (q.n / 16)) (lst (fun j => q.f (16 * (q.n / 16) + j)) (q.n % 16))) (rk K) (sk K)) 9)]) ∧ Below w.heap.size w (w8.alloc (.cells (ints .u8 (fun _ => 0) 16).toArray 5))) := ⟨H8.out.1.alloc _ 5 rfl, H8.out.2.alloc H8.out.2.size _⟩
  clear H8
  generalize hgw : (w8.alloc (.cells (ints .u8 (fun _ => 0) 16).toArray 5)) = w9 at H9 ⊢
  clear hgw
  generalize w8.heap.size = γs9 at o_γs9 H9 ⊢
  refine rest_set (d := 7) (v := .slice (some ⟨γs9, 0, none⟩) 16 16) (w' := w9) rfl rfl rfl rfl ?_
  simp only [Act.put, sa, sz, ss]
  refine rest_nil (then_normal (wp_seq ?_))
  refine walk_seqA 3 [.call (.agg (ints .u8 (tt (ga (rk K) (pgs (rk K) 0 q.f (q.n / 16)) (lst (fun j => q.f (16 * (q.n / 16) + j)) (q.n % 16))) (sk K)) 16).toArray), .made (ints .u8 (fun _ => 0) 16) 65, .laid 1 (ints .u8 (fun _ => 0) 16) (ints .u8 (tt (ga (rk K) (pgs (rk K) 0 q.f (q.n / 16)) (lst (fun j => q.f (16 * (q.n / 16) + j)) (q.n % 16))) (sk K)) 16)] (sB H9) ?ho7 ?he7 (hL := ?hL7)
  case hL7 => exact ⟨⟨_, rfl⟩, trivial⟩
  case ho7 => exact ak (fun γ => ⟨rfl, fun w' h => ⟨37, #[PT γ4_2 0], exec_call rfl call37 rfl (mpn rfl), wtag_any γ4_2 (ga (rk K) (pgs (rk K) 0 q.f (q.n / 16)) (lst (fun j => q.f (16 * (q.n / 16) + j)) (q.n % 16))) (rk K) (sk K) (ga_ok (rk_ok _) (pgs_ok (rk_ok _) ab_zero hf _) (lst_bd (fun j => hf _) (by omega))) (sk_lt hK) w' (h.one 1 rfl)⟩⟩) (ak (fun γ => ⟨rfl, fun w' => ex_mk65 rfl⟩) (ak (fun γ => ⟨rfl, rfl, (ints_len _ _ _).trans (ints_len _ _ _).symm, fun w' h => ex_laidI h Try.sizeOf65 rfl rfl rfl⟩) trivial))
  intro γ w10 l hM hl
  have H10 : Hid (Mm w10 [(γ 1, ints .u8 (tt (ga (rk K) (pgs (rk K) 0 q.f (q.n / 16)) (lst (fun j => q.f (16 * (q.n / 16) + j)) (q.n % 16))) (sk K)) 16), (γs9, ints .u8 (fun _ => 0) 16), (γ4_2, ints .u64 (wk9 (ga (rk K) (pgs (rk K) 0 q.f (q.n / 16)) (lst (fun j => q.f (16 * (q.n / 16) + j)) (q.n % 16))) (rk K) (sk K)) 9)] ∧ _) := growB H9 hM (Nat.le_refl _) hl [1] rfl (by decide)
  have o7_1 := ownB H9 hM (Nat.le_refl _) hl (i := 1) rfl
  clear hM hl l H9
  generalize γ 1 = γ7_1 at H10 o7_1 ⊢
  clear γ
  refine rest0 rfl (then_normal (wp_seq ?_))
  refine walk_seqB 2 [.quiet (.slice (some ⟨γs9, 0, none⟩) 16 16), .quiet (.slice (some ⟨γ7_1, 0, none⟩) 16 16)] H10 ?ho8 ?he8
  case ho8 => exact ak (fun _ => ⟨rfl, fun _ _ => rfl⟩) (ak (by refine fun γ => ⟨rfl, fun w' h => ?_⟩; clear h; go_simp) trivial)
  intro _ w11 H11
  clear H10
  refine rest_at (l := [2]) rfl ?_
  refine rest_set (d := 24) (v := .int .i64 ((16 : Nat) : Int)) (w' := w11.setCells γs9 0 (ints .u8 (tt (ga (rk K) (pgs (rk K) 0 q.f (q.n / 16)) (lst (fun j => q.f (16 * (q.n / 16) + j)) (q.n % 16))) (sk K)) 16)) rfl rfl rfl (ex_copyR (mm := 16) H11.out.1 1 rfl ((H11.out.1.rs 0 rfl (Nat.le_refl _)).at_) (rfl) (by decide) rfl rfl rfl) ?_
  simp only [Act.put, sa, sz, ss]
  have H12 : Hid (Mm (w11.setCells γs9 0 (ints .u8 (tt (ga (rk K) (pgs (rk K) 0 q.f (q.n / 16)) (lst (fun j => q.f (16 * (q.n / 16) + j)) (q.n % 16))) (sk K)) 16)) [(γ7_1, ints .u8 (tt (ga (rk K) (pgs (rk K) 0 q.f (q.n / 16)) (lst (fun j => q.f (16 * (q.n / 16) + j)) (q.n % 16))) (sk K)) 16), (γs9, ints .u8 (py (fun _ => 0) 0 16 (tt (ga (rk K) (pgs (rk K) 0 q.f (q.n / 16)) (lst (fun j => q.f (16 * (q.n / 16) + j)) (q.n % 16))) (sk K))) 16), (γ4_2, ints .u64 (wk9 (ga (rk K) (pgs (rk K) 0 q.f (q.n / 16)) (lst (fun j => q.f (16 * (q.n / 16) + j)) (q.n % 16))) (rk K) (sk K)) 9)] ∧ Below w.heap.size w (w11.setCells γs9 0 (ints .u8 (tt (ga (rk K) (pgs (rk K) 0 q.f (q.n / 16)) (lst (fun j => q.f (16 * (q.n / 16) + j)) (q.n % 16))) (sk K)) 16))) := ⟨by
    have h := H11.out.1.put 1 (off := 0) (vs := ints .u8 (tt (ga (rk K) (pgs (rk K) 0 q.f (q.n / 16)) (lst (fun j => q.f (16 * (q.n / 16) + j)) (q.n % 16))) (sk K)) 16) rfl (by rw [ints_len, ints_len]; decide)
    rw [ints_part _ _ (by decide)] at h
    exact h, below_setCells _ o_γs9.out _ _ _ H11.out.2⟩
  clear H11
  generalize hgw : World.setCells _ _ _ _ = w12 at H12 ⊢
  clear hgw
  refine rest_nil (then_normal (wp_seq ?_))
  refine walk_seqB 3 [.quiet (.slice (some ⟨γs9, 0, none⟩) 16 16), .quiet (.slice (some ⟨γs9, 0, none⟩) 16 16), .quiet (.int .i64 0)] H12 ?ho9 ?he9
  case ho9 => exact ak (fun _ => ⟨rfl, fun _ _ => rfl⟩) (ak (fun _ => ⟨rfl, fun _ _ => rfl⟩) (ak (fun _ => ⟨rfl, fun _ _ => rfl⟩) trivial))
  intro _ w13 H13
  clear H12
  refine rest0 rfl (then_normal (wp_ret ?_))
  repeat (first | refine then_ret ?_ | refine block_ret ?_)
  refine bodyPost_ret (v := .tuple #[.slice (some ⟨γs9, 0, none⟩) 16 16, .int .i64 0]) (by simp [results, Try.results13, go_sem, *]) rfl ?_
  have hM := H13.out.1.one 1 rfl
  rw [ints_congr (py_all _ _ 16)] at hM
  exact ⟨H13.out.2, _, rfl, o_γs9.out, (hM.blk _ (List.mem_singleton.2 rfl)).1, (hM.blk _ (List.mem_singleton.2 rfl)).2⟩
theorem PTag_ok (K : Nat → Nat) (gk ok ck : Nat) (hck : 32 ≤ ck) (hK : ∀ j, K j < 256) (q : Pt8) (hq : Pok q) (hf : ∀ j, q.f j < 256) (hl : q.n ≤ 1048576) (w : World) (hRk : Rs gk ok 32 K w) (hRb : q.rs w) : Calls Try.prog 13 #[.slice (some ⟨gk, ok, none⟩) 32 ck, .slice q.p q.n q.cp] w fun e w' => Below w.heap.size w w' ∧ ∃ g, e = .returned (.tuple #[.slice (some ⟨g, 0, none⟩) 16 16, .int .i64 0]) ∧ w.heap.size ≤ g ∧ g < w'.heap.size ∧ Blk w' g (ints .u8 (tt (tga (rk K) q.f q.n) (sk K)) 16) := by
  unfold tga
  rcases Nat.eq_zero_or_pos (q.n % 16) with e | e
  · rw [if_pos e]
    exact PTag_whole K gk ok ck hck hK q hq hf hl e w hRk hRb
  · rw [if_neg (by omega)]
    exact PTag_more K gk ok ck hck hK q hq hf hl e w hRk hRb
end Rg
end Go.Proofs.Ytkkippfikfjdpaa
end
section
namespace Go.Proofs.Ytkkippfikfjdpaa
open Go.RowKit
namespace Rg
set_option maxRecDepth 100000
theorem Pt8.bsl {a : Pt8} {w : World} (h : Pok a) (hr : a.rs w) : BSl w ((List.range a.n).map fun i => ((a.f i : Nat) : Int)) a.cp (.slice a.p a.n a.cp) := by
  rcases Nat.eq_zero_or_pos a.n with e | e
  · rw [e]
    exact .void _ rfl
  · rw [h.at e]
    have hl : ((List.range a.n).map fun i => ((a.f i : Nat) : Int)).length = a.n := by simp
    have hb : BSl w ((List.range a.n).map fun i => ((a.f i : Nat) : Int)) a.cp (.slice (some ⟨a.gb, a.o, none⟩) ((List.range a.n).map fun i => ((a.f i : Nat) : Int)).length a.cp) :=
      .full a.gb a.o (hr.lt e) (by rw [hl]; exact h.le) (fun i hi => by
        rw [hl] at hi
        rw [hr.at_ i hi]
        simp [hi])
    rw [hl] at hb
    exact hb
theorem rng_eq {f g : Nat → Nat} {n m : Nat} : ((List.range n).map fun i => ((f i : Nat) : Int)) = ((List.range m).map fun i => ((g i : Nat) : Int)) ↔ n = m ∧ ∀ j, j < n → f j = g j := by
  constructor
  · intro h
    have hl : n = m := by simpa using congrArg List.length h
    subst hl
    refine ⟨rfl, fun j hj => ?_⟩
    have h2 := congrArg (fun l => l[j]?) h
    have h3 : ((f j : Nat) : Int) = ((g j : Nat) : Int) := by simpa [hj] using h2
    omega
  · rintro ⟨rfl, h⟩
    exact List.map_congr_left (fun j hj => by rw [h j (List.mem_range.1 hj)])
/-- SameBytes of any two parts. -/
theorem same_pt (a b : Pt8) (ha : Pok a) (hb : Pok b) (hfa : ∀ j, a.f j < 256) (hfb : ∀ j, b.f j < 256) (t : Bool) (ht : t = true ↔ a.n = b.n ∧ ∀ j, j < a.n → a.f j = b.f j) (w : World) (hRa : a.rs w) (hRb : b.rs w) : Calls Try.prog 15 #[.slice a.p a.n a.cp, .slice b.p b.n b.cp] w fun e w' => e = .returned (.bool t) ∧ Below w.heap.size w w' := by
  have h := same_all (fun x hx => by obtain ⟨i, _, rfl⟩ := List.mem_map.1 hx; have := hfa i; omega) (fun x hx => by obtain ⟨i, _, rfl⟩ := List.mem_map.1 hx; have := hfb i; omega) w (Pt8.bsl ha hRa) (Pt8.bsl hb hRb)
  refine Calls.mono h (fun e w' hh => ⟨?_, by rw [hh.2]; exact Below.refl _ _⟩)
  rw [hh.1]
  congr 2
  cases t with
  | true => exact decide_eq_true (rng_eq.2 (ht.1 rfl))
  | false => exact decide_eq_false (fun e => Bool.noConfusion (ht.2 (rng_eq.1 e)))
/-- No part. -/
def pno : Pt8 := ⟨0, 0, 0, 0, none, fun _ => 0⟩
theorem pno_ok : Pok pno := ⟨Bv.void _ _ _ _ _, Nat.le_refl _⟩
theorem pno_rs (w : World) : pno.rs w := Rs.void _ _ _ _
section
variable {ρ : Operand → Value} {o : Oper} {x y : Operand} {a b g : Nat} {w : World}
end
end Rg
end Go.Proofs.Ytkkippfikfjdpaa
end
section
namespace Go.Proofs.Ytkkippfikfjdpaa
open Go.RowKit
namespace Rg
set_option maxRecDepth 100000
theorem mm_ne {w : World} {l : List (Nat × List Value)} (h : Mm w l) (i j : Nat) {p q : Nat × List Value} (hi : l[i]? = some p) (hj : l[j]? = some q) (hij : i ≠ j) : p.1 ≠ q.1 := by
  have := (h.two i j hi hj hij).nd
  simp only [List.pairwise_cons, List.mem_singleton, forall_eq] at this
  exact this.1
end Rg
end Go.Proofs.Ytkkippfikfjdpaa
end
section
namespace Go.Proofs.Ytkkippfikfjdpaa
open Go.RowKit
namespace Rg
set_option maxRecDepth 100000
theorem and_split {a b c d k : Nat} (ha : a < 2 ^ k) (hc : c < 2 ^ k) : (a + b * 2 ^ k) &&& (c + d * 2 ^ k) = (a &&& c) + (b &&& d) * 2 ^ k := by
  have hp : 0 < 2 ^ k := Nat.two_pow_pos k
  have h1 := Nat.and_div_two_pow (a := a + b * 2 ^ k) (b := c + d * 2 ^ k) (n := k)
  have h2 := Nat.and_mod_two_pow (a := a + b * 2 ^ k) (b := c + d * 2 ^ k) (n := k)
  rw [Nat.add_mul_div_right _ _ hp, Nat.add_mul_div_right _ _ hp, Nat.div_eq_of_lt ha, Nat.div_eq_of_lt hc, Nat.zero_add, Nat.zero_add] at h1
  rw [Nat.add_mul_mod_self_right, Nat.add_mul_mod_self_right, Nat.mod_eq_of_lt ha, Nat.mod_eq_of_lt hc] at h2
  have h3 := Nat.mod_add_div ((a + b * 2 ^ k) &&& (c + d * 2 ^ k)) (2 ^ k)
  rw [h1, h2, Nat.mul_comm] at h3
  exact h3.symm
theorem nv_and {f g : Nat → Nat} : ∀ n, (∀ i, i < n → f i < 256) → (∀ i, i < n → g i < 256) → nv f n &&& nv g n = nv (fun i => f i &&& g i) n
  | 0, _, _ => Nat.and_self _
  | n + 1, hf, hg => by
    have e : (256 : Nat) ^ n = 2 ^ (8 * n) := by rw [Nat.pow_mul]
    have h1 := nv_lt n (fun i hi => hf i (by omega))
    have h2 := nv_lt n (fun i hi => hg i (by omega))
    rw [nv_succ, nv_succ, nv_succ, ← nv_and n (fun i hi => hf i (by omega)) (fun i hi => hg i (by omega))]
    rw [e] at h1 h2 ⊢
    exact and_split h1 h2
def mk1 (j : Nat) : Nat := [255, 255, 255, 15, 252, 255, 255, 15].getD j 0
def mk2 (j : Nat) : Nat := [252, 255, 255, 15, 252, 255, 255, 15].getD j 0
theorem a255 : ∀ a, a < 256 → a &&& 255 = a := by decide
theorem a15 : ∀ a, a < 256 → a &&& 15 = a % 16 := by decide
theorem a252 : ∀ a, a < 256 → a &&& 252 = a - a % 4 := by decide
theorem clq_0 {K : Nat → Nat} {j : Nat} (h : j < 16) (h1 : j % 4 ≠ 3) (h2 : j % 4 ≠ 0 ∨ j < 4) : clq K 3 j = K j := by
  unfold clq cl1 gr
  rw [if_neg (by omega), if_neg (by omega), if_pos h]
theorem clq_3 {K : Nat → Nat} {j : Nat} (h : j < 16) (h1 : j % 4 = 3) : clq K 3 j = K j % 16 := by
  unfold clq cl1
  rw [if_neg (by omega), if_pos (by omega)]
theorem clq_4 {K : Nat → Nat} {j : Nat} (h : j < 16) (h1 : j % 4 = 0) (h2 : 4 ≤ j) : clq K 3 j = K j - K j % 4 := by
  unfold clq
  rw [if_pos (by omega)]
theorem rk_clq {K : Nat → Nat} (hK : ∀ j, K j < 256) : rk K = nv (clq K 3) 34 := by
  rw [nv_more (f := clq K 3) (m := 16) (n := 34) (by decide) (fun i h1 _ => by unfold clq cl1 gr; rw [if_neg (by omega), if_neg (by omega), if_neg (by omega)]), nv16]
  unfold rk rl rh
  have e1 : nv K 8 &&& 1152921487695413247 = nv (clq K 3) 8 := by
    rw [show (1152921487695413247 : Nat) = nv mk1 8 from rfl, nv_and 8 (fun i _ => hK i) (fun i hi => by
      rcases (by omega : i = 0 ∨ i = 1 ∨ i = 2 ∨ i = 3 ∨ i = 4 ∨ i = 5 ∨ i = 6 ∨ i = 7) with rfl | rfl | rfl | rfl | rfl | rfl | rfl | rfl <;> decide)]
    refine nv_cg 8 (fun i hi => ?_)
    rcases (by omega : i = 0 ∨ i = 1 ∨ i = 2 ∨ i = 3 ∨ i = 4 ∨ i = 5 ∨ i = 6 ∨ i = 7) with rfl | rfl | rfl | rfl | rfl | rfl | rfl | rfl
    · rw [clq_0 (by decide) (by decide) (by decide)]; exact a255 _ (hK _)
    · rw [clq_0 (by decide) (by decide) (by decide)]; exact a255 _ (hK _)
    · rw [clq_0 (by decide) (by decide) (by decide)]; exact a255 _ (hK _)
    · rw [clq_3 (by decide) (by decide)]; exact a15 _ (hK _)
    · rw [clq_4 (by decide) (by decide) (by decide)]; exact a252 _ (hK _)
    · rw [clq_0 (by decide) (by decide) (by decide)]; exact a255 _ (hK _)
    · rw [clq_0 (by decide) (by decide) (by decide)]; exact a255 _ (hK _)
    · rw [clq_3 (by decide) (by decide)]; exact a15 _ (hK _)
  have e2 : nv (fun j => K (8 + j)) 8 &&& 1152921487695413244 = nv (fun j => clq K 3 (8 + j)) 8 := by
    rw [show (1152921487695413244 : Nat) = nv mk2 8 from rfl, nv_and 8 (fun i _ => hK _) (fun i hi => by
      rcases (by omega : i = 0 ∨ i = 1 ∨ i = 2 ∨ i = 3 ∨ i = 4 ∨ i = 5 ∨ i = 6 ∨ i = 7) with rfl | rfl | rfl | rfl | rfl | rfl | rfl | rfl <;> decide)]
    refine nv_cg 8 (fun i hi => ?_)
    rcases (by omega : i = 0 ∨ i = 1 ∨ i = 2 ∨ i = 3 ∨ i = 4 ∨ i = 5 ∨ i = 6 ∨ i = 7) with rfl | rfl | rfl | rfl | rfl | rfl | rfl | rfl
    · rw [clq_4 (by decide) (by decide) (by decide)]; exact a252 _ (hK _)
    · rw [clq_0 (by decide) (by decide) (by decide)]; exact a255 _ (hK _)
    · rw [clq_0 (by decide) (by decide) (by decide)]; exact a255 _ (hK _)
    · rw [clq_3 (by decide) (by decide)]; exact a15 _ (hK _)
    · rw [clq_4 (by decide) (by decide) (by decide)]; exact a252 _ (hK _)
    · rw [clq_0 (by decide) (by decide) (by decide)]; exact a255 _ (hK _)
    · rw [clq_0 (by decide) (by decide) (by decide)]; exact a255 _ (hK _)
    · rw [clq_3 (by decide) (by decide)]; exact a15 _ (hK _)
  rw [e1, e2]
theorem ga_mod (r a x : Nat) : ga r a x % P5 = (a % P5 + x) * r % P5 := by
  unfold ga
  rw [fN_mod, Nat.mul_mod, Nat.add_mod, ← Nat.mul_mod_mod, Nat.mod_mod]
  conv => rhs; rw [Nat.mul_mod, Nat.add_mod, Nat.mod_mod]
theorem bv_16 {P : Nat → Nat} {n k : Nat} (h : 16 * k + 16 ≤ n) : bv P n k = nv (fun j => P (16 * k + j)) 16 + 1 * 340282366920938463463374607431768211456 := by
  have e : bl n k = 16 := by unfold bl; omega
  unfold bv
  rw [e]
theorem pgs_tg (r : Nat) (P : Nat → Nat) (n : Nat) : ∀ k, 16 * k ≤ n → pgs r 0 P k % P5 = tg r P n k
  | 0, _ => by show 0 % P5 = 0; decide
  | k + 1, h => by
    rw [pgs_succ, ga_mod, pgs_tg r P n k (by omega), ← bv_16 (P := P) (n := n) (k := k) (by omega)]
    rfl
theorem tga_tg (r : Nat) (P : Nat → Nat) (n : Nat) : tga r P n % P5 = tg r P n ((n + 15) / 16) := by
  unfold tga
  by_cases h : n % 16 = 0
  · rw [if_pos h, show (n + 15) / 16 = n / 16 by omega]
    exact pgs_tg r P n _ (by omega)
  · rw [if_neg h, show (n + 15) / 16 = n / 16 + 1 by omega, ga_mod, pgs_tg r P n _ (by omega)]
    have e : bl n (n / 16) = n % 16 := by unfold bl; omega
    show (tg r P n (n / 16) + lst _ _) * r % P5 = (tg r P n (n / 16) + bv P n (n / 16)) * r % P5
    unfold lst bv
    rw [e]
theorem tga_ok {r : Nat} {P : Nat → Nat} (hr : Rk r) (hP : ∀ j, P j < 256) (n : Nat) : Ab (tga r P n) := by
  unfold tga
  by_cases h : n % 16 = 0
  · rw [if_pos h]
    exact pgs_ok hr ab_zero hP _
  · rw [if_neg h]
    exact ga_ok hr (pgs_ok hr ab_zero hP _) (lst_bd (fun j => hP _) (Nat.mod_lt _ (by decide)))
theorem dz_dg (z : Nat → Nat) {j : Nat} (hj : j < 16) : dz z j = dg (nv z 16) j := by
  have h1 := nv_digit (f := dz z) (n := 16) (i := j) (fun j _ => dz_lt z j) hj
  have h2 := nv_dz z 16
  have h3 := nv_lt (f := dz z) 16 (fun j _ => dz_lt z j)
  rw [← h1]
  refine dg_low ?_ j hj
  rw [← h2]
  rw [show (256 : Nat) ^ 16 = 340282366920938463463374607431768211456 from rfl] at h3 ⊢
  rw [Nat.add_mul_mod_self_right]
theorem tt_tb {a : Nat} (ha : Ab a) (K : Nat → Nat) {j : Nat} (hj : j < 16) : tt a (sk K) j = tb (a % P5) K j := by
  unfold tb
  rw [dz_dg _ hj]
  have e : nv (z2 (a % P5) K) 16 = a % P5 % 340282366920938463463374607431768211456 + sk K := by
    unfold z2 sk
    rw [nv_add, nv_dg]
  rw [e]
  unfold tt
  refine dg_low ?_ j hj
  unfold Ab at ha
  rw [show P5 = 1361129467683753853853498429727072845819 from rfl]
  have h2 : a < 1361129467683753853853498429727072845819 ∨ (1361129467683753853853498429727072845819 ≤ a ∧ a < 2722258935367507707706996859454145691638) := by omega
  rcases h2 with h | ⟨h, h3⟩
  · rw [Nat.mod_eq_of_lt h, show (a + 5) / 1361129467683753853853498429727072845824 = 0 from Nat.div_eq_of_lt (by omega)]
    omega
  · rw [show a % 1361129467683753853853498429727072845819 = a - 1361129467683753853853498429727072845819 by omega, show (a + 5) / 1361129467683753853853498429727072845824 = 1 by omega]
    omega
/-- The program's tag is the document's. -/
theorem tag_doc {K P : Nat → Nat} (hK : ∀ j, K j < 256) (hP : ∀ j, P j < 256) (n : Nat) {j : Nat} (hj : j < 16) : tt (tga (rk K) P n) (sk K) j = tb (tg (nv (clq K 3) 34) P n ((n + 15) / 16)) K j := by
  rw [tt_tb (tga_ok (rk_ok K) hP n) K hj, tga_tg, rk_clq hK]
end Rg
end Go.Proofs.Ytkkippfikfjdpaa
end
section
namespace Go.Proofs.Ytkkippfikfjdpaa
open Go.RowKit
namespace Rg
set_option maxRecDepth 100000
/-- The program's answer: n bytes that f says, in memory of its own (or none). -/
structure Rz (r : Ap) (n : Nat) (f : Nat → Nat) (w w' : World) : Prop where
  ok : r.Ok
  len : r.n = n
  eq : ∀ j, j < n → r.f j = f j
  row : r.row r.f w'
  at_ : r.p ≠ none → w.heap.size ≤ r.g ∧ r.g < w'.heap.size
  b : Below w.heap.size w w'
/-- The document's answer: n bytes that f says. -/
structure Dz (t : Pt8) (n : Nat) (f : Nat → Nat) (w w' : World) : Prop where
  ok : Pok t
  by_ : ∀ j, t.f j < 256
  len : t.n = n
  eq : ∀ j, j < n → t.f j = f j
  rs : t.rs w'
  b : Below w.heap.size w w'
/-- No bytes beside an error. -/
def az (e n : Nat) : Nat := if e = 0 then n else 0
theorem az_no {e : Nat} (n : Nat) (h : e ≠ 0) : az e n = 0 := if_neg h
def lg (n : Nat) : Bool := decide (1048576 < n)
theorem lg_t {n : Nat} (h : 1048576 < n) : lg n = true := decide_eq_true h
theorem lg_f {n : Nat} (h : n ≤ 1048576) : lg n = false := decide_eq_false (by omega)
theorem rz_nil {f : Nat → Nat} {w w' : World} (hb : Below w.heap.size w w') : Rz apn 0 f w w' := ⟨apn_ok, rfl, fun _j h => absurd h (Nat.not_lt_zero _), .inl rfl, fun h => absurd rfl h, hb⟩
theorem rz_some {g n : Nat} {f : Nat → Nat} {w w' : World} (hn : n ≤ 1048576) (hf : ∀ j, f j < 256) (hb : Below w.heap.size w w') (h1 : w.heap.size ≤ g) (h2 : g < w'.heap.size) (h3 : Blk w' g (ints .u8 f n)) : Rz (ap g n n f) n f w w' :=
  ⟨⟨.inl rfl, Nat.le_refl _, hn, hf⟩, rfl, fun _ _ => rfl, .inr ⟨fun p hp => by rw [List.mem_singleton.1 hp]; exact ⟨h2, h3⟩, List.pairwise_singleton _ _⟩, fun _ => ⟨h1, h2⟩, hb⟩
theorem dz_nil {f : Nat → Nat} {w w' : World} (hb : Below w.heap.size w w') : Dz pno 0 f w w' := ⟨pno_ok, fun _ => (by decide : (0 : Nat) < 256), rfl, fun j h => absurd h (Nat.not_lt_zero _), pno_rs _, hb⟩
theorem dz_own {n B : Nat} {f : Nat → Nat} {v : Value} {w w' : World} (hf : ∀ j, f j < 256) (hb : Below w.heap.size w w') (h : w'.ownsRow B 5 1 v n (ints .u8 f n)) : ∃ t : Pt8, v = .slice t.p t.n t.cp ∧ Dz t n f w w' := by
  obtain ⟨t, rfl, h1, _, h2, h3, h4, _⟩ := own_part h
  exact ⟨t, rfl, h1, fun j => by rw [h3]; exact hf j, h2, fun j _ => by rw [h3], h4, hb⟩
/-- The program's answer, as it stays. -/
def Rw (r : Ap) (u : World) : Prop := r.row r.f u ∧ (r.p ≠ none → r.g < u.heap.size)
theorem Rw.below {r : Ap} {x y : World} (hb : Below x.heap.size x y) (h : Rw r x) : Rw r y := ⟨h.1.below hb, fun hp => Nat.lt_of_lt_of_le (h.2 hp) hb.size⟩
theorem Bk.of2 {w w1 w2 : World} {G : World → Prop} (h : Below w.heap.size w w1) (hb : Below w1.heap.size w1 w2) (st : ∀ {x y : World}, Below x.heap.size x y → G x → G y) (h2 : G w2) : Bk w G w2 := ⟨h.trans (hb.mono h.size), st, h2⟩
theorem Bk.and2 {w w1 w2 : World} {F G : World → Prop} (h : Bk w F w1) (hb : Below w1.heap.size w1 w2) (st : ∀ {x y : World}, Below x.heap.size x y → G x → G y) (h2 : G w2) : Bk w (fun u => F u ∧ G u) w2 := ⟨h.b.trans (hb.mono h.b.size), fun hb h' => ⟨h.st hb h'.1, st hb h'.2⟩, h.st hb h.r, h2⟩
theorem same_rt {r : Ap} {t : Pt8} {n : Nat} {f g : Nat → Nat} (hr : r.Ok ∧ r.n = n ∧ ∀ j, j < n → r.f j = f j) (ht : Pok t ∧ (∀ j, t.f j < 256) ∧ t.n = n ∧ ∀ j, j < n → t.f j = g j) (e : ∀ j, j < n → f j = g j) (w : World) (h1 : r.row r.f w) (h2 : t.rs w) :
    Calls Try.prog 15 #[.slice r.p r.n r.c, .slice t.p t.n t.cp] w fun e w' => e = .returned (.bool true) ∧ Below w.heap.size w w' := by
  obtain ⟨ho, hn, hf⟩ := hr
  obtain ⟨ht1, ht2, ht3, ht4⟩ := ht
  refine same_pt ⟨r.g, 0, r.n, r.c, r.p, r.f⟩ t ⟨?_, ho.le⟩ ht1 ho.by_ ht2 true ⟨fun _ => ⟨by show r.n = t.n; omega, fun j hj => ?_⟩, fun _ => rfl⟩ w ?_ h2
  · show Bv r.g 0 r.n r.c 0 (.slice r.p r.n r.c)
    rcases ho.at_ with e | ⟨_, e2, _⟩
    · rw [e]; exact Bv.start _ _ _ _
    · rw [e2]; exact Bv.void _ _ _ _ _
  · have hj' : j < n := by rw [← hn]; exact hj
    show r.f j = t.f j
    rw [hf j hj', ht4 j hj', e j hj']
  · show Rs r.g 0 r.n r.f w
    rcases h1 with e | hm
    · rcases ho.at_ with e2 | ⟨_, e2, _⟩
      · exact absurd (e2.symm.trans e) (by simp)
      · rw [e2]; exact Rs.void _ _ _ _
    · exact hm.rs 0 rfl ho.le
theorem apart5g {w : World} {gs : Nat} {A0 A1 A2 A3 A4 : Ap} (h0 : A0.Ok) (h1 : A1.Ok) (h2 : A2.Ok) (h3 : A3.Ok) (h4 : A4.Ok) (r0 : A0.row A0.f w) (r1 : A1.row A1.f w) (r2 : A2.row A2.f w) (r3 : A3.row A3.f w) (r4 : A4.row A4.f w) (n01 : A0.p ≠ none → A1.p ≠ none → A0.g ≠ A1.g) (n02 : A0.p ≠ none → A2.p ≠ none → A0.g ≠ A2.g) (n03 : A0.p ≠ none → A3.p ≠ none → A0.g ≠ A3.g) (n04 : A0.p ≠ none → A4.p ≠ none → A0.g ≠ A4.g) (n12 : A1.p ≠ none → A2.p ≠ none → A1.g ≠ A2.g) (n13 : A1.p ≠ none → A3.p ≠ none → A1.g ≠ A3.g) (n14 : A1.p ≠ none → A4.p ≠ none → A1.g ≠ A4.g) (n23 : A2.p ≠ none → A3.p ≠ none → A2.g ≠ A3.g) (n24 : A2.p ≠ none → A4.p ≠ none → A2.g ≠ A4.g) (n34 : A3.p ≠ none → A4.p ≠ none → A3.g ≠ A4.g) (l0 : A0.p ≠ none → A0.g ≠ gs) (l1 : A1.p ≠ none → A1.g ≠ gs) (l2 : A2.p ≠ none → A2.g ≠ gs) (l3 : A3.p ≠ none → A3.g ≠ gs) (l4 : A4.p ≠ none → A4.g ≠ gs)
    (hm : Mm w [(gs, [.slice A0.p A0.n A0.c, .slice A1.p A1.n A1.c, .slice A2.p A2.n A2.c, .slice A3.p A3.n A3.c, .slice A4.p A4.n A4.c])]) :
    Calls Try.prog 17 #[.slice (some ⟨gs, 0, none⟩) 5 5] w fun e w' => e = .returned (.bool true) ∧ Below w.heap.size w w' := by
  refine apart_any gs 5 (A5 A0 A1 A2 A3 A4) ⟨fun i hi => ?_, fun i j hi hj hne hp hq => ?_, fun i hi hp => ?_, by decide⟩ w ⟨hm.one 0 rfl, fun i hi => ?_⟩
  · rcases (by omega : i = 0 ∨ i = 1 ∨ i = 2 ∨ i = 3 ∨ i = 4) with rfl | rfl | rfl | rfl | rfl
    · exact h0
    · exact h1
    · exact h2
    · exact h3
    · exact h4
  · rcases (by omega : i = 0 ∨ i = 1 ∨ i = 2 ∨ i = 3 ∨ i = 4) with rfl | rfl | rfl | rfl | rfl <;> rcases (by omega : j = 0 ∨ j = 1 ∨ j = 2 ∨ j = 3 ∨ j = 4) with rfl | rfl | rfl | rfl | rfl <;> first | exact absurd rfl hne | exact n01 hp hq | exact (n01 hq hp).symm | exact n02 hp hq | exact (n02 hq hp).symm | exact n03 hp hq | exact (n03 hq hp).symm | exact n04 hp hq | exact (n04 hq hp).symm | exact n12 hp hq | exact (n12 hq hp).symm | exact n13 hp hq | exact (n13 hq hp).symm | exact n14 hp hq | exact (n14 hq hp).symm | exact n23 hp hq | exact (n23 hq hp).symm | exact n24 hp hq | exact (n24 hq hp).symm | exact n34 hp hq | exact (n34 hq hp).symm
  · rcases (by omega : i = 0 ∨ i = 1 ∨ i = 2 ∨ i = 3 ∨ i = 4) with rfl | rfl | rfl | rfl | rfl
    · exact l0 hp
    · exact l1 hp
    · exact l2 hp
    · exact l3 hp
    · exact l4 hp
  · rcases (by omega : i = 0 ∨ i = 1 ∨ i = 2 ∨ i = 3 ∨ i = 4) with rfl | rfl | rfl | rfl | rfl
    · exact r0
    · exact r1
    · exact r2
    · exact r3
    · exact r4
theorem blockP (a d : Pt8) (ha : Pok a) (hd : Pok d) (c : Nat)  (w : World) (Ra : a.rs w) (Rd : d.rs w) : Calls Try.prog 9 #[.slice a.p a.n a.cp, .slice d.p d.n d.cp, W32 c] w fun e w' => ∃ r : Ap, e = .returned (.tuple #[.slice r.p r.n r.c, .int .i64 ((we a.n d.n false : Nat) : Int)]) ∧ Rz r (az (we a.n d.n false) 64) (bk a.f d.f c) w w' := by
  by_cases h : a.n ≠ 32 ∨ d.n ≠ 12
  · rw [we_arg false h]
    exact Calls.mono (PBlock_err _ _ _ _ _ _ c h w) (fun e w' hh => ⟨apn, hh.1, rz_nil hh.2⟩)
  · have e0 := ha.at (by omega)
    have la := ha.le
    have h0 : a.n = 32 := by omega
    have Ra' : Rs a.gb a.o 32 a.f w := by rw [← h0]; exact Ra
    have e1 := hd.at (by omega)
    have ld := hd.le
    have h1 : d.n = 12 := by omega
    have Rd' : Rs d.gb d.o 12 d.f w := by rw [← h1]; exact Rd
    rw [e0, e1, h0, h1, we_ok]
    exact Calls.mono (PBlock_ok a.f d.f a.gb a.o a.cp d.gb d.o d.cp (by omega) (by omega) c w Ra' Rd') (fun e w' hh => by obtain ⟨hb, g, he, g1, g2, g3⟩ := hh; exact ⟨ap g 64 64 _, he, rz_some (by decide) (bk_256 _ _ _) hb g1 g2 g3⟩)
theorem blockD (a d : Pt8) (ha : Pok a) (hd : Pok d) (c : Nat)  (w : World) (Ra : a.rs w) (Rd : d.rs w) : Calls Try.prog 10 #[.slice a.p a.n a.cp, .slice d.p d.n d.cp, W32 c] w fun e w' => ∃ t : Pt8, e = .returned (.tuple #[.slice t.p t.n t.cp, .int .i64 ((we a.n d.n false : Nat) : Int)]) ∧ Dz t (az (we a.n d.n false) 64) (bk a.f d.f c) w w' := by
  by_cases h : a.n ≠ 32 ∨ d.n ≠ 12
  · have h2 : we a.n d.n false ≠ 0 := by rw [we_arg false h]; decide
    rw [az_no _ h2]
    exact Calls.mono (Block_err _ _ _ _ _ _ c h2 w) (fun e w' hh => ⟨pno, hh.1, dz_nil hh.2⟩)
  · have e0 := ha.at (by omega)
    have la := ha.le
    have h0 : a.n = 32 := by omega
    have Ra' : Rs a.gb a.o 32 a.f w := by rw [← h0]; exact Ra
    have e1 := hd.at (by omega)
    have ld := hd.le
    have h1 : d.n = 12 := by omega
    have Rd' : Rs d.gb d.o 12 d.f w := by rw [← h1]; exact Rd
    rw [e0, e1, h0, h1, we_ok]
    exact Calls.mono (Block_ok a.f d.f a.gb a.o a.cp d.gb d.o d.cp c w Ra' Rd') (fun e w' hh => by obtain ⟨hb, v, he, ho⟩ := hh; obtain ⟨t, rfl, ht⟩ := dz_own (bk_256 _ _ _) hb ho; exact ⟨t, he, ht⟩)
theorem streamP (a d q : Pt8) (ha : Pok a) (hd : Pok d) (hq : Pok q) (c : Nat) (hc : c < 4294967296) (w : World) (Ra : a.rs w) (Rd : d.rs w) (Rq : q.rs w) : Calls Try.prog 11 #[.slice a.p a.n a.cp, .slice d.p d.n d.cp, W32 c, .slice q.p q.n q.cp] w fun e w' => ∃ r : Ap, e = .returned (.tuple #[.slice r.p r.n r.c, .int .i64 ((we a.n d.n (lg q.n) : Nat) : Int)]) ∧ Rz r (az (we a.n d.n (lg q.n)) q.n) (so a.f d.f c q.f) w w' := by
  by_cases h : a.n ≠ 32 ∨ d.n ≠ 12
  · rw [we_arg _ h]
    exact Calls.mono (PStream_err _ _ _ _ _ _ c _ h w) (fun e w' hh => ⟨apn, hh.1, rz_nil hh.2⟩)
  · have e0 := ha.at (by omega)
    have la := ha.le
    have h0 : a.n = 32 := by omega
    have Ra' : Rs a.gb a.o 32 a.f w := by rw [← h0]; exact Ra
    have e1 := hd.at (by omega)
    have ld := hd.le
    have h1 : d.n = 12 := by omega
    have Rd' : Rs d.gb d.o 12 d.f w := by rw [← h1]; exact Rd
    rw [e0, e1, h0, h1]
    by_cases hl : q.n ≤ 1048576
    · rw [lg_f hl, we_ok]
      exact Calls.mono (PStream_ok a.f d.f a.gb a.o a.cp d.gb d.o d.cp (by omega) (by omega) c q hc hq hl w Ra' Rd' Rq) (fun e w' hh => by obtain ⟨hb, g, he, g1, g2, g3⟩ := hh; exact ⟨ap g q.n q.n _, he, rz_some (hl) (so_256 _ _ _ _) hb g1 g2 g3⟩)
    · rw [lg_t (by omega), we_long]
      exact Calls.mono (PStream_long _ _ _ _ c q (by omega) w) (fun e w' hh => ⟨apn, hh.1, rz_nil hh.2⟩)
theorem streamD (a d q : Pt8) (ha : Pok a) (hd : Pok d) (hq : Pok q) (c : Nat) (hf : ∀ j, q.f j < 256) (w : World) (Ra : a.rs w) (Rd : d.rs w) (Rq : q.rs w) : Calls Try.prog 12 #[.slice a.p a.n a.cp, .slice d.p d.n d.cp, W32 c, .slice q.p q.n q.cp] w fun e w' => ∃ t : Pt8, e = .returned (.tuple #[.slice t.p t.n t.cp, .int .i64 ((we a.n d.n (lg q.n) : Nat) : Int)]) ∧ Dz t (az (we a.n d.n (lg q.n)) q.n) (so a.f d.f c q.f) w w' := by
  by_cases hl : q.n ≤ 1048576
  · rw [lg_f hl]
    by_cases h : a.n ≠ 32 ∨ d.n ≠ 12
    · have h2 : we a.n d.n false ≠ 0 := by rw [we_arg false h]; decide
      rw [az_no _ h2]
      exact Calls.mono (Stream_errA _ _ _ _ _ _ c _ _ _ hl h2 w) (fun e w' hh => ⟨pno, hh.1, dz_nil hh.2⟩)
    · have e0 := ha.at (by omega)
      have la := ha.le
      have h0 : a.n = 32 := by omega
      have Ra' : Rs a.gb a.o 32 a.f w := by rw [← h0]; exact Ra
      have e1 := hd.at (by omega)
      have ld := hd.le
      have h1 : d.n = 12 := by omega
      have Rd' : Rs d.gb d.o 12 d.f w := by rw [← h1]; exact Rd
      rw [e0, e1, h0, h1, we_ok]
      exact Calls.mono (Stream_ok a.f d.f q.f a.gb a.o a.cp d.gb d.o d.cp c q.gb q.o q.n q.cp q.p hf hq.at hl w Ra' Rd' Rq) (fun e w' hh => by obtain ⟨hb, v, he, ho⟩ := hh; obtain ⟨t, rfl, ht⟩ := dz_own (so_256 _ _ _ _) hb ho; exact ⟨t, he, ht⟩)
  · have h2 : we a.n d.n true ≠ 0 := by
      by_cases h : a.n ≠ 32 ∨ d.n ≠ 12
      · rw [we_arg true h]; decide
      · rw [show a.n = 32 by omega, show d.n = 12 by omega]; decide
    rw [lg_t (by omega), az_no _ h2]
    exact Calls.mono (Stream_errB _ _ _ _ _ _ c _ _ _ (by omega) h2 w) (fun e w' hh => ⟨pno, hh.1, dz_nil hh.2⟩)
theorem tagP (a q : Pt8) (ha : Pok a) (hq : Pok q) (hfa : ∀ j, a.f j < 256) (hf : ∀ j, q.f j < 256) (w : World) (Ra : a.rs w) (Rq : q.rs w) : Calls Try.prog 13 #[.slice a.p a.n a.cp, .slice q.p q.n q.cp] w fun e w' => ∃ r : Ap, e = .returned (.tuple #[.slice r.p r.n r.c, .int .i64 ((we a.n 12 (lg q.n) : Nat) : Int)]) ∧ Rz r (az (we a.n 12 (lg q.n)) 16) (tt (tga (rk a.f) q.f q.n) (sk a.f)) w w' := by
  by_cases h : a.n ≠ 32
  · rw [we_arg _ (.inl h)]
    exact Calls.mono (PTag_key _ _ _ _ h w) (fun e w' hh => ⟨apn, hh.1, rz_nil hh.2⟩)
  · have e0 := ha.at (by omega)
    have la := ha.le
    have h0 : a.n = 32 := by omega
    have Ra' : Rs a.gb a.o 32 a.f w := by rw [← h0]; exact Ra
    rw [e0, h0]
    by_cases hl : q.n ≤ 1048576
    · rw [lg_f hl, we_ok]
      exact Calls.mono (PTag_ok a.f a.gb a.o a.cp (by omega) hfa q hq hf hl w Ra' Rq) (fun e w' hh => by obtain ⟨hb, g, he, g1, g2, g3⟩ := hh; exact ⟨ap g 16 16 _, he, rz_some (by decide) (dg_lt _) hb g1 g2 g3⟩)
    · rw [lg_t (by omega), we_long]
      exact Calls.mono (PTag_long _ _ q (by omega) w) (fun e w' hh => ⟨apn, hh.1, rz_nil hh.2⟩)
theorem tagD (a q : Pt8) (ha : Pok a) (hq : Pok q) (hfa : ∀ j, a.f j < 256) (hf : ∀ j, q.f j < 256) (w : World) (Ra : a.rs w) (Rq : q.rs w) : Calls Try.prog 14 #[.slice a.p a.n a.cp, .slice q.p q.n q.cp] w fun e w' => ∃ t : Pt8, e = .returned (.tuple #[.slice t.p t.n t.cp, .int .i64 ((we a.n 12 (lg q.n) : Nat) : Int)]) ∧ Dz t (az (we a.n 12 (lg q.n)) 16) (tb (tg (nv (clq a.f 3) 34) q.f q.n ((q.n + 15) / 16)) a.f) w w' := by
  by_cases h : a.n ≠ 32
  · rw [we_arg _ (.inl h)]
    exact Calls.mono (Tag_key _ _ _ _ _ _ h w) (fun e w' hh => ⟨pno, hh.1, dz_nil hh.2⟩)
  · have e0 := ha.at (by omega)
    have la := ha.le
    have h0 : a.n = 32 := by omega
    have Ra' : Rs a.gb a.o 32 a.f w := by rw [← h0]; exact Ra
    rw [e0, h0]
    by_cases hl : q.n ≤ 1048576
    · rw [lg_f hl, we_ok]
      exact Calls.mono (Tag_ok a.f q.f a.gb a.o a.cp q.gb q.o q.n q.cp q.p hfa hf hq.at hl w Ra' Rq) (fun e w' hh => by obtain ⟨hb, v, he, ho⟩ := hh; obtain ⟨t, rfl, ht⟩ := dz_own (fun j => Nat.mod_lt _ (by decide)) hb ho; exact ⟨t, he, ht⟩)
    · rw [lg_t (by omega), we_long]
      exact Calls.mono (Tag_long _ _ _ _ _ (by omega) w) (fun e w' hh => ⟨pno, hh.1, dz_nil hh.2⟩)
set_option maxRecDepth 100000 in
theorem few_a (q : Pt8) (h : q.n ≤ 2000) (w : World) :
    Calls Try.prog 7 #[.slice q.p q.n q.cp] w fun e w' => e = .returned (.bool true) ∧ Below w.heap.size w w' := by
  have H0 : Hid (_ ∧ _) := ⟨Mm.nil w, Below.refl w.heap.size w⟩
  go_enter Try.func7, Try.ntmps7
  refine wp_seq ?_
  refine walk_seqB 1 [.quiet (.bool false)] H0 ?ho1 ?he1
  case ho1 => exact ak (fun _ => ⟨rfl, fun _ _ => rfl⟩) trivial
  intro _ w1 H1
  refine rest0 rfl (then_normal (wp_seq ?_))
  refine walk_seqB 14 [.quiet (.slice q.p q.n q.cp), .quiet (.int .i64 ((q.n : Nat) : Int)), .quiet (.bool true), .quiet (.bool true), .gone, .gone, .gone, .gone, .gone, .gone, .gone, .gone, .quiet (.bool true), .quiet (.bool true)] H1 ?ho2 ?he2
  case ho2 => exact ak (fun _ => ⟨rfl, fun _ _ => rfl⟩) (ak (by refine fun γ => ⟨rfl, fun w' h => ?_⟩; clear h; go_simp) (ak (by refine fun γ => ⟨rfl, fun w' h => ?_⟩; clear h; go_simp <;> omega) (ak (fun _ => ⟨rfl, fun _ _ => rfl⟩) (ak (fun γ => rfl) (ak (fun γ => rfl) (ak (fun γ => rfl) (ak (fun γ => rfl) (ak (fun γ => rfl) (ak (fun γ => rfl) (ak (fun γ => rfl) (ak (fun γ => rfl) (ak (by refine fun γ => ⟨rfl, fun w' h => ?_⟩; clear h; go_simp) (ak (fun _ => ⟨rfl, fun _ _ => rfl⟩) trivial)))))))))))))
  intro _ w2 H2
  clear H1
  refine rest0 rfl (then_normal (wp_ret ?_))
  repeat (first | refine then_ret ?_ | refine block_ret ?_)
  refine bodyPost_ret (v := .bool true) (by simp [results, Try.results7, go_sem, *]) rfl ?_
  exact ⟨rfl, H2.out.2⟩
set_option maxRecDepth 100000 in
theorem few_b (q : Pt8) (h : 1048576 < q.n) (h2 : q.n ≤ 1048616) (w : World) :
    Calls Try.prog 7 #[.slice q.p q.n q.cp] w fun e w' => e = .returned (.bool true) ∧ Below w.heap.size w w' := by
  have H0 : Hid (_ ∧ _) := ⟨Mm.nil w, Below.refl w.heap.size w⟩
  go_enter Try.func7, Try.ntmps7
  refine wp_seq ?_
  refine walk_seqB 1 [.quiet (.bool false)] H0 ?ho1 ?he1
  case ho1 => exact ak (fun _ => ⟨rfl, fun _ _ => rfl⟩) trivial
  intro _ w1 H1
  refine rest0 rfl (then_normal (wp_seq ?_))
  refine walk_seqB 14 [.quiet (.slice q.p q.n q.cp), .quiet (.int .i64 ((q.n : Nat) : Int)), .quiet (.bool false), .quiet (.bool false), .quiet (.slice q.p q.n q.cp), .quiet (.int .i64 ((q.n : Nat) : Int)), .quiet (.bool true), .quiet (.bool true), .quiet (.slice q.p q.n q.cp), .quiet (.int .i64 ((q.n : Nat) : Int)), .quiet (.bool true), .quiet (.bool true), .quiet (.bool true), .quiet (.bool true)] H1 ?ho2 ?he2
  case ho2 => exact ak (fun _ => ⟨rfl, fun _ _ => rfl⟩) (ak (by refine fun γ => ⟨rfl, fun w' h => ?_⟩; clear h; go_simp) (ak (by refine fun γ => ⟨rfl, fun w' h => ?_⟩; clear h; go_simp <;> omega) (ak (fun _ => ⟨rfl, fun _ _ => rfl⟩) (ak (fun _ => ⟨rfl, fun _ _ => rfl⟩) (ak (by refine fun γ => ⟨rfl, fun w' h => ?_⟩; clear h; go_simp) (ak (by refine fun γ => ⟨rfl, fun w' h => ?_⟩; clear h; go_simp <;> omega) (ak (fun _ => ⟨rfl, fun _ _ => rfl⟩) (ak (fun _ => ⟨rfl, fun _ _ => rfl⟩) (ak (by refine fun γ => ⟨rfl, fun w' h => ?_⟩; clear h; go_simp) (ak (by refine fun γ => ⟨rfl, fun w' h => ?_⟩; clear h; go_simp <;> omega) (ak (by refine fun γ => ⟨rfl, fun w' h => ?_⟩; clear h; go_simp) (ak (by refine fun γ => ⟨rfl, fun w' h => ?_⟩; clear h; go_simp) (ak (fun _ => ⟨rfl, fun _ _ => rfl⟩) trivial)))))))))))))
  intro _ w2 H2
  clear H1
  refine rest0 rfl (then_normal (wp_ret ?_))
  repeat (first | refine then_ret ?_ | refine block_ret ?_)
  refine bodyPost_ret (v := .bool true) (by simp [results, Try.results7, go_sem, *]) rfl ?_
  exact ⟨rfl, H2.out.2⟩
set_option maxRecDepth 100000 in
theorem few_c (q : Pt8) (h : 1048616 < q.n) (w : World) :
    Calls Try.prog 7 #[.slice q.p q.n q.cp] w fun e w' => e = .returned (.bool false) ∧ Below w.heap.size w w' := by
  have H0 : Hid (_ ∧ _) := ⟨Mm.nil w, Below.refl w.heap.size w⟩
  go_enter Try.func7, Try.ntmps7
  refine wp_seq ?_
  refine walk_seqB 1 [.quiet (.bool false)] H0 ?ho1 ?he1
  case ho1 => exact ak (fun _ => ⟨rfl, fun _ _ => rfl⟩) trivial
  intro _ w1 H1
  refine rest0 rfl (then_normal (wp_seq ?_))
  refine walk_seqB 14 [.quiet (.slice q.p q.n q.cp), .quiet (.int .i64 ((q.n : Nat) : Int)), .quiet (.bool false), .quiet (.bool false), .quiet (.slice q.p q.n q.cp), .quiet (.int .i64 ((q.n : Nat) : Int)), .quiet (.bool true), .quiet (.bool true), .quiet (.slice q.p q.n q.cp), .quiet (.int .i64 ((q.n : Nat) : Int)), .quiet (.bool false), .quiet (.bool false), .quiet (.bool false), .quiet (.bool false)] H1 ?ho2 ?he2
  case ho2 => exact ak (fun _ => ⟨rfl, fun _ _ => rfl⟩) (ak (by refine fun γ => ⟨rfl, fun w' h => ?_⟩; clear h; go_simp) (ak (by refine fun γ => ⟨rfl, fun w' h => ?_⟩; clear h; go_simp <;> omega) (ak (fun _ => ⟨rfl, fun _ _ => rfl⟩) (ak (fun _ => ⟨rfl, fun _ _ => rfl⟩) (ak (by refine fun γ => ⟨rfl, fun w' h => ?_⟩; clear h; go_simp) (ak (by refine fun γ => ⟨rfl, fun w' h => ?_⟩; clear h; go_simp <;> omega) (ak (fun _ => ⟨rfl, fun _ _ => rfl⟩) (ak (fun _ => ⟨rfl, fun _ _ => rfl⟩) (ak (by refine fun γ => ⟨rfl, fun w' h => ?_⟩; clear h; go_simp) (ak (by refine fun γ => ⟨rfl, fun w' h => ?_⟩; clear h; go_simp <;> omega) (ak (by refine fun γ => ⟨rfl, fun w' h => ?_⟩; clear h; go_simp) (ak (by refine fun γ => ⟨rfl, fun w' h => ?_⟩; clear h; go_simp) (ak (fun _ => ⟨rfl, fun _ _ => rfl⟩) trivial)))))))))))))
  intro _ w2 H2
  clear H1
  refine rest0 rfl (then_normal (wp_ret ?_))
  repeat (first | refine then_ret ?_ | refine block_ret ?_)
  refine bodyPost_ret (v := .bool false) (by simp [results, Try.results7, go_sem, *]) rfl ?_
  exact ⟨rfl, H2.out.2⟩
set_option maxRecDepth 100000 in
theorem few_d (q : Pt8) (h : 2000 < q.n) (h2 : q.n ≤ 1048576) (w : World) :
    Calls Try.prog 7 #[.slice q.p q.n q.cp] w fun e w' => e = .returned (.bool false) ∧ Below w.heap.size w w' := by
  have H0 : Hid (_ ∧ _) := ⟨Mm.nil w, Below.refl w.heap.size w⟩
  go_enter Try.func7, Try.ntmps7
  refine wp_seq ?_
  refine walk_seqB 1 [.quiet (.bool false)] H0 ?ho1 ?he1
  case ho1 => exact ak (fun _ => ⟨rfl, fun _ _ => rfl⟩) trivial
  intro _ w1 H1
  refine rest0 rfl (then_normal (wp_seq ?_))
  refine walk_seqB 14 [.quiet (.slice q.p q.n q.cp), .quiet (.int .i64 ((q.n : Nat) : Int)), .quiet (.bool false), .quiet (.bool false), .quiet (.slice q.p q.n q.cp), .quiet (.int .i64 ((q.n : Nat) : Int)), .quiet (.bool false), .quiet (.bool false), .gone, .gone, .gone, .quiet (.bool false), .quiet (.bool false), .quiet (.bool false)] H1 ?ho2 ?he2
  case ho2 => exact ak (fun _ => ⟨rfl, fun _ _ => rfl⟩) (ak (by refine fun γ => ⟨rfl, fun w' h => ?_⟩; clear h; go_simp) (ak (by refine fun γ => ⟨rfl, fun w' h => ?_⟩; clear h; go_simp <;> omega) (ak (fun _ => ⟨rfl, fun _ _ => rfl⟩) (ak (fun _ => ⟨rfl, fun _ _ => rfl⟩) (ak (by refine fun γ => ⟨rfl, fun w' h => ?_⟩; clear h; go_simp) (ak (by refine fun γ => ⟨rfl, fun w' h => ?_⟩; clear h; go_simp <;> omega) (ak (fun _ => ⟨rfl, fun _ _ => rfl⟩) (ak (fun γ => rfl) (ak (fun γ => rfl) (ak (fun γ => rfl) (ak (by refine fun γ => ⟨rfl, fun w' h => ?_⟩; clear h; go_simp) (ak (by refine fun γ => ⟨rfl, fun w' h => ?_⟩; clear h; go_simp) (ak (fun _ => ⟨rfl, fun _ _ => rfl⟩) trivial)))))))))))))
  intro _ w2 H2
  clear H1
  refine rest0 rfl (then_normal (wp_ret ?_))
  repeat (first | refine then_ret ?_ | refine block_ret ?_)
  refine bodyPost_ret (v := .bool false) (by simp [results, Try.results7, go_sem, *]) rfl ?_
  exact ⟨rfl, H2.out.2⟩
def Few (n : Nat) : Prop := n ≤ 2000 ∨ (1048576 < n ∧ n ≤ 1048616)
theorem few_yes (q : Pt8) (h : Few q.n) (w : World) : Calls Try.prog 7 #[.slice q.p q.n q.cp] w fun e w' => e = .returned (.bool true) ∧ Below w.heap.size w w' := by
  rcases h with h | ⟨h1, h2⟩
  · exact few_a q h w
  · exact few_b q h1 h2 w
theorem few_no (q : Pt8) (h : ¬ Few q.n) (w : World) : Calls Try.prog 7 #[.slice q.p q.n q.cp] w fun e w' => e = .returned (.bool false) ∧ Below w.heap.size w w' := by
  unfold Few at h
  by_cases h1 : q.n ≤ 1048576
  · exact few_d q (by omega) h1 w
  · exact few_c q (by omega) w
end Rg
end Go.Proofs.Ytkkippfikfjdpaa
end
section
namespace Go.Proofs.Ytkkippfikfjdpaa
open Go.RowKit
namespace Rg
set_option maxRecDepth 100000
theorem az_lt {e n j : Nat} (h : j < az e n) : j < n := by
  unfold az at h
  split at h
  · exact h
  · exact absurd h (Nat.not_lt_zero _)
theorem ex_bsL5 {ρ : Operand → Value} {o : Oper} {x0 x1 x2 x3 x4 : Operand} {w : World} {p0 p1 p2 p3 p4 : Option Addr} {n0 c0 n1 c1 n2 c2 n3 c3 n4 c4 : Nat} (ho : o.op = .buildSlice 37 5 #[(0, x0), (1, x1), (2, x2), (3, x3), (4, x4)]) (h0 : ρ x0 = .slice p0 n0 c0) (h1 : ρ x1 = .slice p1 n1 c1) (h2 : ρ x2 = .slice p2 n2 c2) (h3 : ρ x3 = .slice p3 n3 c3) (h4 : ρ x4 = .slice p4 n4 c4) : (execOp ρ o).run Try.prog w = .ok (.value (.slice (some ⟨w.heap.size, 0, none⟩) 5 5)) (w.alloc (.cells ([.slice p0 n0 c0, .slice p1 n1 c1, .slice p2 n2 c2, .slice p3 n3 c3, .slice p4 n4 c4] : List Value).toArray 22)) := by
  simp only [execOp, ho, List.map_toArray, List.map_cons, List.map_nil, h0, h1, h2, h3, h4]
  kernel_rfl
theorem ap_ok {g n c : Nat} {f : Nat → Nat} (h1 : n ≤ c) (h2 : c ≤ 1048576) (h3 : ∀ j, f j < 256) : (ap g n c f).Ok := ⟨.inl rfl, h1, h2, h3⟩
theorem bsl_ar {w : World} {xs : List Int} {c : Nat} {v : Value} (hx : ∀ x ∈ xs, 0 ≤ x ∧ x < 256) (h : BSl w xs c v) (h0 : v = .slice none 0 0 ∨ ∃ a k c', v = .slice (some a) k c') :
    ∃ q : Pt8, v = .slice q.p q.n q.cp ∧ Ar xs q ∧ q.bs xs w := by
  obtain ⟨q, e, h1, h2, h3, h4, h5, h6⟩ := bsl_part hx h h0
  subst e
  exact ⟨q, rfl, ⟨h1, h2, h4, h5, hx⟩, by rw [h6]; rw [h6] at h; exact h, h3⟩
theorem call7 : ∀ args w, (callFunc 7 args).run Try.prog w = .ok (.enter 7 args) w := by intro args w; go_simp
theorem call8 : ∀ args w, (callFunc 8 args).run Try.prog w = .ok (.enter 8 args) w := by intro args w; go_simp
theorem call9 : ∀ args w, (callFunc 9 args).run Try.prog w = .ok (.enter 9 args) w := by intro args w; go_simp
theorem call10 : ∀ args w, (callFunc 10 args).run Try.prog w = .ok (.enter 10 args) w := by intro args w; go_simp
theorem call11 : ∀ args w, (callFunc 11 args).run Try.prog w = .ok (.enter 11 args) w := by intro args w; go_simp
theorem call12 : ∀ args w, (callFunc 12 args).run Try.prog w = .ok (.enter 12 args) w := by intro args w; go_simp
theorem call13 : ∀ args w, (callFunc 13 args).run Try.prog w = .ok (.enter 13 args) w := by intro args w; go_simp
theorem call14 : ∀ args w, (callFunc 14 args).run Try.prog w = .ok (.enter 14 args) w := by intro args w; go_simp
theorem call16 : ∀ args w, (callFunc 16 args).run Try.prog w = .ok (.enter 16 args) w := by intro args w; go_simp
theorem call17 : ∀ args w, (callFunc 17 args).run Try.prog w = .ok (.enter 17 args) w := by intro args w; go_simp
set_option maxHeartbeats 8000000 in
set_option maxRecDepth 100000 in
theorem streams_few (xs ys zs : List Int) (a d q : Pt8) (c : Nat) (hfw : ¬ Few q.n) (w : World) (hRa : a.bs xs w) (hRd : d.bs ys w) (hRq : q.bs zs w) :
    Calls Try.prog 3 #[.slice a.p a.n a.cp, .slice d.p d.n d.cp, W32 c, .slice q.p q.n q.cp] w fun e w' => e = .returned (.bool true) ∧ Below w.heap.size w w' := by
  have H0 : Hid (_ ∧ _) := ⟨Mm.nil w, Below.refl w.heap.size w⟩
  have RA : Hid (a.bs xs w) := hRa
  have RD : Hid (d.bs ys w) := hRd
  have RQ : Hid (q.bs zs w) := hRq
  clear hRa hRd hRq
  go_enter Try.func3, Try.ntmps3
  refine wp_seq ?_
  refine walk_seqB 1 [.quiet (.bool false)] H0 ?ho1 ?he1
  case ho1 => exact ak (fun _ => ⟨rfl, fun _ _ => rfl⟩) trivial
  intro _ w1 H1
  refine rest0 rfl (then_normal (wp_seq (wp_seq ?_)))
  refine walk_seqB 13 [.quiet (.slice q.p q.n q.cp), .call (.bool false), .quiet (.bool true), .quiet (.bool true), .gone, .gone, .gone, .quiet (.bool true), .quiet (.bool true), .gone, .gone, .gone, .quiet (.bool true)] H1 ?ho2 ?he2
  case ho2 => exact ak (fun _ => ⟨rfl, fun _ _ => rfl⟩) (ak (fun γ => ⟨rfl, fun w' h => ⟨7, #[.slice q.p q.n q.cp], exec_call rfl call7 rfl (mpn rfl), few_no q hfw w'⟩⟩) (ak (by refine fun γ => ⟨rfl, fun w' h => ?_⟩; clear h; go_simp) (ak (fun _ => ⟨rfl, fun _ _ => rfl⟩) (ak (fun γ => rfl) (ak (fun γ => rfl) (ak (fun γ => rfl) (ak (by refine fun γ => ⟨rfl, fun w' h => ?_⟩; clear h; go_simp) (ak (fun _ => ⟨rfl, fun _ _ => rfl⟩) (ak (fun γ => rfl) (ak (fun γ => rfl) (ak (fun γ => rfl) (ak (by refine fun γ => ⟨rfl, fun w' h => ?_⟩; clear h; go_simp) trivial))))))))))))
  intro _ w2 H2
  clear H1
  refine rest0 rfl (then_normal (wp_cond_true rfl (wp_seq ?_)))
  refine walk_seqB 1 [.quiet (.bool true)] H2 ?ho3 ?he3
  case ho3 => exact ak (fun _ => ⟨rfl, fun _ _ => rfl⟩) trivial
  intro _ w3 H3
  clear H2
  refine rest0 rfl (then_normal (wp_ret ?_))
  repeat (first | refine then_ret ?_ | refine block_ret ?_)
  refine bodyPost_ret (v := .bool true) (by simp [results, Try.results3, go_sem, *]) rfl ?_
  exact ⟨rfl, H3.out.2⟩
set_option maxHeartbeats 8000000 in
set_option maxRecDepth 100000 in
theorem streams_a (xs ys zs : List Int) (a d q : Pt8) (c : Nat) (hfw : Few q.n) (hk : 2000 < a.n) (w : World) (hRa : a.bs xs w) (hRd : d.bs ys w) (hRq : q.bs zs w) :
    Calls Try.prog 3 #[.slice a.p a.n a.cp, .slice d.p d.n d.cp, W32 c, .slice q.p q.n q.cp] w fun e w' => e = .returned (.bool true) ∧ Below w.heap.size w w' := by
  have H0 : Hid (_ ∧ _) := ⟨Mm.nil w, Below.refl w.heap.size w⟩
  have RA : Hid (a.bs xs w) := hRa
  have RD : Hid (d.bs ys w) := hRd
  have RQ : Hid (q.bs zs w) := hRq
  clear hRa hRd hRq
  go_enter Try.func3, Try.ntmps3
  refine wp_seq ?_
  refine walk_seqB 1 [.quiet (.bool false)] H0 ?ho1 ?he1
  case ho1 => exact ak (fun _ => ⟨rfl, fun _ _ => rfl⟩) trivial
  intro _ w1 H1
  refine rest0 rfl (then_normal (wp_seq (wp_seq ?_)))
  refine walk_seqB 13 [.quiet (.slice q.p q.n q.cp), .call (.bool true), .quiet (.bool false), .quiet (.bool false), .quiet (.slice a.p a.n a.cp), .quiet (.int .i64 ((a.n : Nat) : Int)), .quiet (.bool true), .quiet (.bool true), .quiet (.bool true), .gone, .gone, .gone, .quiet (.bool true)] H1 ?ho2 ?he2
  case ho2 => exact ak (fun _ => ⟨rfl, fun _ _ => rfl⟩) (ak (fun γ => ⟨rfl, fun w' h => ⟨7, #[.slice q.p q.n q.cp], exec_call rfl call7 rfl (mpn rfl), few_yes q hfw w'⟩⟩) (ak (by refine fun γ => ⟨rfl, fun w' h => ?_⟩; clear h; go_simp) (ak (fun _ => ⟨rfl, fun _ _ => rfl⟩) (ak (fun _ => ⟨rfl, fun _ _ => rfl⟩) (ak (by refine fun γ => ⟨rfl, fun w' h => ?_⟩; clear h; go_simp) (ak (by refine fun γ => ⟨rfl, fun w' h => ?_⟩; clear h; go_simp <;> omega) (ak (by refine fun γ => ⟨rfl, fun w' h => ?_⟩; clear h; go_simp) (ak (fun _ => ⟨rfl, fun _ _ => rfl⟩) (ak (fun γ => rfl) (ak (fun γ => rfl) (ak (fun γ => rfl) (ak (by refine fun γ => ⟨rfl, fun w' h => ?_⟩; clear h; go_simp) trivial))))))))))))
  intro _ w2 H2
  clear H1
  refine rest0 rfl (then_normal (wp_cond_true rfl (wp_seq ?_)))
  refine walk_seqB 1 [.quiet (.bool true)] H2 ?ho3 ?he3
  case ho3 => exact ak (fun _ => ⟨rfl, fun _ _ => rfl⟩) trivial
  intro _ w3 H3
  clear H2
  refine rest0 rfl (then_normal (wp_ret ?_))
  repeat (first | refine then_ret ?_ | refine block_ret ?_)
  refine bodyPost_ret (v := .bool true) (by simp [results, Try.results3, go_sem, *]) rfl ?_
  exact ⟨rfl, H3.out.2⟩
set_option maxHeartbeats 8000000 in
set_option maxRecDepth 100000 in
theorem streams_d (xs ys zs : List Int) (a d q : Pt8) (c : Nat) (hfw : Few q.n) (hk : a.n ≤ 2000) (hl : 2000 < d.n) (w : World) (hRa : a.bs xs w) (hRd : d.bs ys w) (hRq : q.bs zs w) :
    Calls Try.prog 3 #[.slice a.p a.n a.cp, .slice d.p d.n d.cp, W32 c, .slice q.p q.n q.cp] w fun e w' => e = .returned (.bool true) ∧ Below w.heap.size w w' := by
  have H0 : Hid (_ ∧ _) := ⟨Mm.nil w, Below.refl w.heap.size w⟩
  have RA : Hid (a.bs xs w) := hRa
  have RD : Hid (d.bs ys w) := hRd
  have RQ : Hid (q.bs zs w) := hRq
  clear hRa hRd hRq
  go_enter Try.func3, Try.ntmps3
  refine wp_seq ?_
  refine walk_seqB 1 [.quiet (.bool false)] H0 ?ho1 ?he1
  case ho1 => exact ak (fun _ => ⟨rfl, fun _ _ => rfl⟩) trivial
  intro _ w1 H1
  refine rest0 rfl (then_normal (wp_seq (wp_seq ?_)))
  refine walk_seqB 13 [.quiet (.slice q.p q.n q.cp), .call (.bool true), .quiet (.bool false), .quiet (.bool false), .quiet (.slice a.p a.n a.cp), .quiet (.int .i64 ((a.n : Nat) : Int)), .quiet (.bool false), .quiet (.bool false), .quiet (.bool false), .quiet (.slice d.p d.n d.cp), .quiet (.int .i64 ((d.n : Nat) : Int)), .quiet (.bool true), .quiet (.bool true)] H1 ?ho2 ?he2
  case ho2 => exact ak (fun _ => ⟨rfl, fun _ _ => rfl⟩) (ak (fun γ => ⟨rfl, fun w' h => ⟨7, #[.slice q.p q.n q.cp], exec_call rfl call7 rfl (mpn rfl), few_yes q hfw w'⟩⟩) (ak (by refine fun γ => ⟨rfl, fun w' h => ?_⟩; clear h; go_simp) (ak (fun _ => ⟨rfl, fun _ _ => rfl⟩) (ak (fun _ => ⟨rfl, fun _ _ => rfl⟩) (ak (by refine fun γ => ⟨rfl, fun w' h => ?_⟩; clear h; go_simp) (ak (by refine fun γ => ⟨rfl, fun w' h => ?_⟩; clear h; go_simp <;> omega) (ak (by refine fun γ => ⟨rfl, fun w' h => ?_⟩; clear h; go_simp) (ak (fun _ => ⟨rfl, fun _ _ => rfl⟩) (ak (fun _ => ⟨rfl, fun _ _ => rfl⟩) (ak (by refine fun γ => ⟨rfl, fun w' h => ?_⟩; clear h; go_simp) (ak (by refine fun γ => ⟨rfl, fun w' h => ?_⟩; clear h; go_simp <;> omega) (ak (by refine fun γ => ⟨rfl, fun w' h => ?_⟩; clear h; go_simp) trivial))))))))))))
  intro _ w2 H2
  clear H1
  refine rest0 rfl (then_normal (wp_cond_true rfl (wp_seq ?_)))
  refine walk_seqB 1 [.quiet (.bool true)] H2 ?ho3 ?he3
  case ho3 => exact ak (fun _ => ⟨rfl, fun _ _ => rfl⟩) trivial
  intro _ w3 H3
  clear H2
  refine rest0 rfl (then_normal (wp_ret ?_))
  repeat (first | refine then_ret ?_ | refine block_ret ?_)
  refine bodyPost_ret (v := .bool true) (by simp [results, Try.results3, go_sem, *]) rfl ?_
  exact ⟨rfl, H3.out.2⟩
set_option maxHeartbeats 8000000 in
set_option maxRecDepth 100000 in
theorem streams_ok (xs ys zs : List Int) (a d q : Pt8) (ha : Ar xs a) (hd : Ar ys d) (hq : Ar zs q) (c : Nat) (hc : c < 4294967296) (hfw : Few q.n) (hk : a.n ≤ 2000) (hl : d.n ≤ 2000) (w : World) (hRa : a.bs xs w) (hRd : d.bs ys w) (hRq : q.bs zs w) :
    Calls Try.prog 3 #[.slice a.p a.n a.cp, .slice d.p d.n d.cp, W32 c, .slice q.p q.n q.cp] w fun e w' => e = .returned (.bool true) ∧ Below w.heap.size w w' := by
  have H0 : Hid (_ ∧ _) := ⟨Mm.nil w, Below.refl w.heap.size w⟩
  have RA : Hid (a.bs xs w) := hRa
  have RD : Hid (d.bs ys w) := hRd
  have RQ : Hid (q.bs zs w) := hRq
  clear hRa hRd hRq
  have hfq : q.n ≤ 1048616 := by unfold Few at hfw; omega
  go_enter Try.func3, Try.ntmps3
  refine wp_seq ?_
  refine walk_seqB 1 [.quiet (.bool false)] H0 ?ho1 ?he1
  case ho1 => exact ak (fun _ => ⟨rfl, fun _ _ => rfl⟩) trivial
  intro _ w1 H1
  refine rest0 rfl (then_normal (wp_seq (wp_seq ?_)))
  refine walk_seqB 13 [.quiet (.slice q.p q.n q.cp), .call (.bool true), .quiet (.bool false), .quiet (.bool false), .quiet (.slice a.p a.n a.cp), .quiet (.int .i64 ((a.n : Nat) : Int)), .quiet (.bool false), .quiet (.bool false), .quiet (.bool false), .quiet (.slice d.p d.n d.cp), .quiet (.int .i64 ((d.n : Nat) : Int)), .quiet (.bool false), .quiet (.bool false)] H1 ?ho2 ?he2
  case ho2 => exact ak (fun _ => ⟨rfl, fun _ _ => rfl⟩) (ak (fun γ => ⟨rfl, fun w' h => ⟨7, #[.slice q.p q.n q.cp], exec_call rfl call7 rfl (mpn rfl), few_yes q hfw w'⟩⟩) (ak (by refine fun γ => ⟨rfl, fun w' h => ?_⟩; clear h; go_simp) (ak (fun _ => ⟨rfl, fun _ _ => rfl⟩) (ak (fun _ => ⟨rfl, fun _ _ => rfl⟩) (ak (by refine fun γ => ⟨rfl, fun w' h => ?_⟩; clear h; go_simp) (ak (by refine fun γ => ⟨rfl, fun w' h => ?_⟩; clear h; go_simp <;> omega) (ak (by refine fun γ => ⟨rfl, fun w' h => ?_⟩; clear h; go_simp) (ak (fun _ => ⟨rfl, fun _ _ => rfl⟩) (ak (fun _ => ⟨rfl, fun _ _ => rfl⟩) (ak (by refine fun γ => ⟨rfl, fun w' h => ?_⟩; clear h; go_simp) (ak (by refine fun γ => ⟨rfl, fun w' h => ?_⟩; clear h; go_simp <;> omega) (ak (by refine fun γ => ⟨rfl, fun w' h => ?_⟩; clear h; go_simp) trivial))))))))))))
  intro _ w2 H2
  clear H1
  refine rest0 rfl (then_normal (wp_cond_false rfl ?_))
  refine wp_skip (then_normal (wp_seq ?_))
  refine (walk_seq) 6 [.quiet (.slice a.p a.n a.cp), .born (fun g => .slice (some ⟨g, 0, none⟩) a.n (a.n + 3)) (ints .u8 (lf xs) (a.n + 3)), .quiet (.slice d.p d.n d.cp), .born (fun g => .slice (some ⟨g, 0, none⟩) d.n (d.n + 3)) (ints .u8 (lf ys) (d.n + 3)), .quiet (.slice q.p q.n q.cp), .born (fun g => .slice (some ⟨g, 0, none⟩) q.n (q.n + 3)) (ints .u8 (lf zs) (q.n + 3))] (fun u' => Mm u' [] ∧ (a.bs xs u' ∧ d.bs ys u' ∧ q.bs zs u')) ?pre3 ?F3 ?hpre3 (fun γ => ?hF3) (by kernel_rfl) ?hL3 ?hS3 ?ho3 ?he3
  case hpre3 => simp only [tk, tz]; rfl
  case hF3 => simp only [fill, Kind.val, Act.put, sa, sz, ss]; rfl
  case hL3 => exact trivial
  case hS3 => exact fun w' hb => ⟨H2.out.1.below hb, ⟨RA.out.below (H2.out.2.trans (hb.mono H2.out.2.size)), RD.out.below (H2.out.2.trans (hb.mono H2.out.2.size)), RQ.out.below (H2.out.2.trans (hb.mono H2.out.2.size))⟩⟩
  case ho3 =>
    refine ak (fun _ => ⟨rfl, fun _ _ => rfl⟩) ?_
    refine ak (fun γ => ⟨rfl, fun w' hX => ⟨8, #[.slice a.p a.n a.cp], exec_call rfl call8 rfl (mpn rfl), lent_partB ha (by omega) w' hX.2.1⟩⟩) ?_
    refine ak (fun _ => ⟨rfl, fun _ _ => rfl⟩) ?_
    refine ak (fun γ => ⟨rfl, fun w' hX => ⟨8, #[.slice d.p d.n d.cp], exec_call rfl call8 rfl (mpn rfl), lent_partB hd (by omega) w' hX.2.2.1⟩⟩) ?_
    refine ak (fun _ => ⟨rfl, fun _ _ => rfl⟩) ?_
    refine ak (fun γ => ⟨rfl, fun w' hX => ⟨8, #[.slice q.p q.n q.cp], exec_call rfl call8 rfl (mpn rfl), lent_partB hq (by omega) w' hX.2.2.2⟩⟩) ?_
    exact trivial
  intro γ w3 l hM hl
  have H3 : Hid (Mm w3 [(γ 1, ints .u8 (lf xs) (a.n + 3)), (γ 3, ints .u8 (lf ys) (d.n + 3)), (γ 5, ints .u8 (lf zs) (q.n + 3))] ∧ _) := growB H2 hM (Nat.le_refl _) hl [1, 3, 5] rfl (by decide)
  have o3_1 := ownB H2 hM (Nat.le_refl _) hl (i := 1) rfl
  have o3_3 := ownB H2 hM (Nat.le_refl _) hl (i := 3) rfl
  have o3_5 := ownB H2 hM (Nat.le_refl _) hl (i := 5) rfl
  clear hM hl l H2
  generalize γ 1 = γ3_1 at H3 o3_1 ⊢
  generalize γ 3 = γ3_3 at H3 o3_3 ⊢
  generalize γ 5 = γ3_5 at H3 o3_5 ⊢
  clear γ
  refine rest_at (l := [6, 7, 8]) rfl ?_
  refine rest_set (d := 9) (v := .slice (some ⟨γ3_1, 0, none⟩) a.n (a.n + 3)) (w' := w3) rfl rfl rfl rfl ?_
  simp only [Act.put, sa, sz, ss]
  refine rest_set (d := 10) (v := .slice (some ⟨γ3_3, 0, none⟩) d.n (d.n + 3)) (w' := w3) rfl rfl rfl rfl ?_
  simp only [Act.put, sa, sz, ss]
  refine rest_set (d := 11) (v := .slice (some ⟨γ3_5, 0, none⟩) q.n (q.n + 3)) (w' := w3) rfl rfl rfl rfl ?_
  simp only [Act.put, sa, sz, ss]
  refine rest_nil (then_normal (wp_seq ?_))
  refine walk_seqB 3 [.quiet (.slice (some ⟨γ3_1, 0, none⟩) a.n (a.n + 3)), .quiet (.slice (some ⟨γ3_3, 0, none⟩) d.n (d.n + 3)), .quiet (W32 c)] H3 ?ho4 ?he4
  case ho4 => exact ak (fun _ => ⟨rfl, fun _ _ => rfl⟩) (ak (fun _ => ⟨rfl, fun _ _ => rfl⟩) (ak (fun _ => ⟨rfl, fun _ _ => rfl⟩) trivial))
  intro _ w4 H4
  clear H3
  refine rest_at (l := [3, 4, 5, 6, 7, 8]) rfl ?_
  refine rest_enter (d := 47) rfl rfl rfl (exec_call (args := #[.slice (some ⟨γ3_1, 0, none⟩) a.n (a.n + 3), .slice (some ⟨γ3_3, 0, none⟩) d.n (d.n + 3), W32 c]) rfl call9 rfl (mpn rfl)) ((Calls.mono (blockP (pc γ3_1 a.n (a.n + 3) (lf xs)) (pc γ3_3 d.n (d.n + 3) (lf ys)) (pc_ok _ _ _ _) (pc_ok _ _ _ _) c  w4 (H4.out.1.rs 0 rfl (Nat.le_add_right _ _)) (H4.out.1.rs 1 rfl (Nat.le_add_right _ _))) (fun e w2 hh => by obtain ⟨r, he, hr⟩ := hh; exact ⟨_, he, r, rfl, hr⟩) : Calls Try.prog 9 #[.slice (some ⟨γ3_1, 0, none⟩) a.n (a.n + 3), .slice (some ⟨γ3_3, 0, none⟩) d.n (d.n + 3), W32 c] w4 (fun e w' => ∃ v, e = .returned v ∧ (∃ r : Ap, v = .tuple #[.slice r.p r.n r.c, .int .i64 ((we a.n d.n false : Nat) : Int)] ∧ Rz r (az (we a.n d.n false) 64) (bk (lf xs) (lf ys) c) w4 w')))) ?_
  rintro _ w5 ⟨rb, rfl, hr⟩
  have Krb : Hid (rb.Ok ∧ rb.n = az (we a.n d.n false) 64 ∧ ∀ j, j < az (we a.n d.n false) 64 → rb.f j = (bk (lf xs) (lf ys) c) j) := ⟨hr.ok, hr.len, hr.eq⟩
  have Mxsrb : Hid (rb.p ≠ none → rb.g ≠ γ3_1) := fun h2 => by have a1 := (H4.out.1.blk (γ3_1, ints .u8 (lf xs) (a.n + 3)) (List.mem_of_getElem? (i := 0) rfl)).1; have a2 := (hr.at_ h2).1; dsimp only at a1; omega
  have Mysrb : Hid (rb.p ≠ none → rb.g ≠ γ3_3) := fun h2 => by have a1 := (H4.out.1.blk (γ3_3, ints .u8 (lf ys) (d.n + 3)) (List.mem_of_getElem? (i := 1) rfl)).1; have a2 := (hr.at_ h2).1; dsimp only at a1; omega
  have Mzsrb : Hid (rb.p ≠ none → rb.g ≠ γ3_5) := fun h2 => by have a1 := (H4.out.1.blk (γ3_5, ints .u8 (lf zs) (q.n + 3)) (List.mem_of_getElem? (i := 2) rfl)).1; have a2 := (hr.at_ h2).1; dsimp only at a1; omega
  have hb := hr.b
  have hR : Rw rb w5 := ⟨hr.row, fun h => (hr.at_ h).2⟩
  clear hr
  have H5 : Hid (Mm w5 [(γ3_1, ints .u8 (lf xs) (a.n + 3)), (γ3_3, ints .u8 (lf ys) (d.n + 3)), (γ3_5, ints .u8 (lf zs) (q.n + 3))] ∧ Bk w (fun u => Rw rb u) w5) := ⟨H4.out.1.below hb, Bk.of2 H4.out.2 hb (fun hb h => Rw.below hb h) (hR)⟩
  clear hb hR H4
  simp only [Act.put, sa, sz, ss]
  refine rest_set (d := 43) (v := .tuple #[.slice rb.p rb.n rb.c, .int .i64 ((we a.n d.n false : Nat) : Int)]) (w' := w5) rfl rfl rfl rfl ?_
  simp only [Act.put, sa, sz, ss]
  refine rest_set (d := 48) (v := .slice rb.p rb.n rb.c) (w' := w5) rfl rfl rfl (by go_simp) ?_
  simp only [Act.put, sa, sz, ss]
  refine rest_set (d := 49) (v := .int .i64 ((we a.n d.n false : Nat) : Int)) (w' := w5) rfl rfl rfl (by go_simp) ?_
  simp only [Act.put, sa, sz, ss]
  refine rest_set (d := 12) (v := .slice rb.p rb.n rb.c) (w' := w5) rfl rfl rfl rfl ?_
  simp only [Act.put, sa, sz, ss]
  refine rest_set (d := 13) (v := .int .i64 ((we a.n d.n false : Nat) : Int)) (w' := w5) rfl rfl rfl rfl ?_
  simp only [Act.put, sa, sz, ss]
  refine rest_nil (then_normal (wp_seq ?_))
  refine walk_seqA 3 [.quiet (.slice a.p a.n a.cp), .quiet (.slice d.p d.n d.cp), .quiet (W32 c)] (sB H5) ?ho5 ?he5
  case ho5 => exact ak (fun _ => ⟨rfl, fun _ _ => rfl⟩) (ak (fun _ => ⟨rfl, fun _ _ => rfl⟩) (ak (fun _ => ⟨rfl, fun _ _ => rfl⟩) trivial))
  intro γ w6 l hM hl
  have M6 : Mm w6 [(γ3_1, ints .u8 (lf xs) (a.n + 3)), (γ3_3, ints .u8 (lf ys) (d.n + 3)), (γ3_5, ints .u8 (lf zs) (q.n + 3))] := H5.out.1.grow hM (Nat.le_refl _) hl [] rfl (by decide)
  have B6 : Bk w (fun u => Rw rb u) w6 := Bk.step H5.out.2 (hM.below)
  clear hM hl l H5
  clear γ
  have H6 : Hid (_ ∧ _) := ⟨M6, B6⟩
  clear M6 B6
  refine rest_at (l := [3, 4, 5, 6, 7, 8]) rfl ?_
  refine rest_enter (d := 54) rfl rfl rfl (exec_call (args := #[.slice a.p a.n a.cp, .slice d.p d.n d.cp, W32 c]) rfl call10 rfl (mpn rfl)) ((Calls.mono (blockD a d ha.ok hd.ok c  w6 (RA.out.below H6.out.2.b).2 (RD.out.below H6.out.2.b).2) (fun e w2 hh => by obtain ⟨r, he, hr⟩ := hh; exact ⟨_, he, r, rfl, hr⟩) : Calls Try.prog 10 #[.slice a.p a.n a.cp, .slice d.p d.n d.cp, W32 c] w6 (fun e w' => ∃ v, e = .returned v ∧ (∃ r : Pt8, v = .tuple #[.slice r.p r.n r.cp, .int .i64 ((we a.n d.n false : Nat) : Int)] ∧ Dz r (az (we a.n d.n false) 64) (bk a.f d.f c) w6 w')))) ?_
  rintro _ w7 ⟨tb_, rfl, hr⟩
  have Ktb_ : Hid (Pok tb_ ∧ (∀ j, tb_.f j < 256) ∧ tb_.n = az (we a.n d.n false) 64 ∧ ∀ j, j < az (we a.n d.n false) 64 → tb_.f j = (bk a.f d.f c) j) := ⟨hr.ok, hr.by_, hr.len, hr.eq⟩
  have hb := hr.b
  have hR : tb_.rs w7 := hr.rs
  clear hr
  have H7 : Hid (Mm w7 [(γ3_1, ints .u8 (lf xs) (a.n + 3)), (γ3_3, ints .u8 (lf ys) (d.n + 3)), (γ3_5, ints .u8 (lf zs) (q.n + 3))] ∧ Bk w (fun u => (Rw rb u ∧ tb_.rs u)) w7) := ⟨H6.out.1.below hb, Bk.and2 H6.out.2 hb (fun hb h => Rs.below h hb) (hR)⟩
  clear hb hR H6
  simp only [Act.put, sa, sz, ss]
  refine rest_set (d := 50) (v := .tuple #[.slice tb_.p tb_.n tb_.cp, .int .i64 ((we a.n d.n false : Nat) : Int)]) (w' := w7) rfl rfl rfl rfl ?_
  simp only [Act.put, sa, sz, ss]
  refine rest_set (d := 55) (v := .slice tb_.p tb_.n tb_.cp) (w' := w7) rfl rfl rfl (by go_simp) ?_
  simp only [Act.put, sa, sz, ss]
  refine rest_set (d := 56) (v := .int .i64 ((we a.n d.n false : Nat) : Int)) (w' := w7) rfl rfl rfl (by go_simp) ?_
  simp only [Act.put, sa, sz, ss]
  refine rest_set (d := 14) (v := .slice tb_.p tb_.n tb_.cp) (w' := w7) rfl rfl rfl rfl ?_
  simp only [Act.put, sa, sz, ss]
  refine rest_set (d := 15) (v := .int .i64 ((we a.n d.n false : Nat) : Int)) (w' := w7) rfl rfl rfl rfl ?_
  simp only [Act.put, sa, sz, ss]
  refine rest_nil (then_normal (wp_seq ?_))
  refine walk_seqA 4 [.quiet (.slice (some ⟨γ3_1, 0, none⟩) a.n (a.n + 3)), .quiet (.slice (some ⟨γ3_3, 0, none⟩) d.n (d.n + 3)), .quiet (W32 c), .quiet (.slice (some ⟨γ3_5, 0, none⟩) q.n (q.n + 3))] (sB H7) ?ho6 ?he6
  case ho6 => exact ak (fun _ => ⟨rfl, fun _ _ => rfl⟩) (ak (fun _ => ⟨rfl, fun _ _ => rfl⟩) (ak (fun _ => ⟨rfl, fun _ _ => rfl⟩) (ak (fun _ => ⟨rfl, fun _ _ => rfl⟩) trivial)))
  intro γ w8 l hM hl
  have M8 : Mm w8 [(γ3_1, ints .u8 (lf xs) (a.n + 3)), (γ3_3, ints .u8 (lf ys) (d.n + 3)), (γ3_5, ints .u8 (lf zs) (q.n + 3))] := H7.out.1.grow hM (Nat.le_refl _) hl [] rfl (by decide)
  have B8 : Bk w (fun u => (Rw rb u ∧ tb_.rs u)) w8 := Bk.step H7.out.2 (hM.below)
  clear hM hl l H7
  clear γ
  have H8 : Hid (_ ∧ _) := ⟨M8, B8⟩
  clear M8 B8
  refine rest_at (l := [4, 5, 6, 7, 8, 9]) rfl ?_
  refine rest_enter (d := 62) rfl rfl rfl (exec_call (args := #[.slice (some ⟨γ3_1, 0, none⟩) a.n (a.n + 3), .slice (some ⟨γ3_3, 0, none⟩) d.n (d.n + 3), W32 c, .slice (some ⟨γ3_5, 0, none⟩) q.n (q.n + 3)]) rfl call11 rfl (mpn rfl)) ((Calls.mono (streamP (pc γ3_1 a.n (a.n + 3) (lf xs)) (pc γ3_3 d.n (d.n + 3) (lf ys)) (pc γ3_5 q.n (q.n + 3) (lf zs)) (pc_ok _ _ _ _) (pc_ok _ _ _ _) (pc_ok _ _ _ _) c hc w8 (H8.out.1.rs 0 rfl (Nat.le_add_right _ _)) (H8.out.1.rs 1 rfl (Nat.le_add_right _ _)) (H8.out.1.rs 2 rfl (Nat.le_add_right _ _))) (fun e w2 hh => by obtain ⟨r, he, hr⟩ := hh; exact ⟨_, he, r, rfl, hr⟩) : Calls Try.prog 11 #[.slice (some ⟨γ3_1, 0, none⟩) a.n (a.n + 3), .slice (some ⟨γ3_3, 0, none⟩) d.n (d.n + 3), W32 c, .slice (some ⟨γ3_5, 0, none⟩) q.n (q.n + 3)] w8 (fun e w' => ∃ v, e = .returned v ∧ (∃ r : Ap, v = .tuple #[.slice r.p r.n r.c, .int .i64 ((we a.n d.n (lg q.n) : Nat) : Int)] ∧ Rz r (az (we a.n d.n (lg q.n)) q.n) (so (lf xs) (lf ys) c (lf zs)) w8 w')))) ?_
  rintro _ w9 ⟨rs_, rfl, hr⟩
  have Krs_ : Hid (rs_.Ok ∧ rs_.n = az (we a.n d.n (lg q.n)) q.n ∧ ∀ j, j < az (we a.n d.n (lg q.n)) q.n → rs_.f j = (so (lf xs) (lf ys) c (lf zs)) j) := ⟨hr.ok, hr.len, hr.eq⟩
  have Nrbrs_ : Hid (rb.p ≠ none → rs_.p ≠ none → rb.g ≠ rs_.g) := fun h1 h2 => by have a1 := (H8.out.2.r.1).2 h1; have a2 := (hr.at_ h2).1; omega
  have Mxsrs_ : Hid (rs_.p ≠ none → rs_.g ≠ γ3_1) := fun h2 => by have a1 := (H8.out.1.blk (γ3_1, ints .u8 (lf xs) (a.n + 3)) (List.mem_of_getElem? (i := 0) rfl)).1; have a2 := (hr.at_ h2).1; dsimp only at a1; omega
  have Mysrs_ : Hid (rs_.p ≠ none → rs_.g ≠ γ3_3) := fun h2 => by have a1 := (H8.out.1.blk (γ3_3, ints .u8 (lf ys) (d.n + 3)) (List.mem_of_getElem? (i := 1) rfl)).1; have a2 := (hr.at_ h2).1; dsimp only at a1; omega
  have Mzsrs_ : Hid (rs_.p ≠ none → rs_.g ≠ γ3_5) := fun h2 => by have a1 := (H8.out.1.blk (γ3_5, ints .u8 (lf zs) (q.n + 3)) (List.mem_of_getElem? (i := 2) rfl)).1; have a2 := (hr.at_ h2).1; dsimp only at a1; omega
  have hb := hr.b
  have hR : Rw rs_ w9 := ⟨hr.row, fun h => (hr.at_ h).2⟩
  clear hr
  have H9 : Hid (Mm w9 [(γ3_1, ints .u8 (lf xs) (a.n + 3)), (γ3_3, ints .u8 (lf ys) (d.n + 3)), (γ3_5, ints .u8 (lf zs) (q.n + 3))] ∧ Bk w (fun u => ((Rw rb u ∧ tb_.rs u) ∧ Rw rs_ u)) w9) := ⟨H8.out.1.below hb, Bk.and2 H8.out.2 hb (fun hb h => Rw.below hb h) (hR)⟩
  clear hb hR H8
  simp only [Act.put, sa, sz, ss]
  refine rest_set (d := 57) (v := .tuple #[.slice rs_.p rs_.n rs_.c, .int .i64 ((we a.n d.n (lg q.n) : Nat) : Int)]) (w' := w9) rfl rfl rfl rfl ?_
  simp only [Act.put, sa, sz, ss]
  refine rest_set (d := 63) (v := .slice rs_.p rs_.n rs_.c) (w' := w9) rfl rfl rfl (by go_simp) ?_
  simp only [Act.put, sa, sz, ss]
  refine rest_set (d := 64) (v := .int .i64 ((we a.n d.n (lg q.n) : Nat) : Int)) (w' := w9) rfl rfl rfl (by go_simp) ?_
  simp only [Act.put, sa, sz, ss]
  refine rest_set (d := 16) (v := .slice rs_.p rs_.n rs_.c) (w' := w9) rfl rfl rfl rfl ?_
  simp only [Act.put, sa, sz, ss]
  refine rest_set (d := 17) (v := .int .i64 ((we a.n d.n (lg q.n) : Nat) : Int)) (w' := w9) rfl rfl rfl rfl ?_
  simp only [Act.put, sa, sz, ss]
  refine rest_nil (then_normal (wp_seq ?_))
  refine walk_seqA 4 [.quiet (.slice a.p a.n a.cp), .quiet (.slice d.p d.n d.cp), .quiet (W32 c), .quiet (.slice q.p q.n q.cp)] (sB H9) ?ho7 ?he7
  case ho7 => exact ak (fun _ => ⟨rfl, fun _ _ => rfl⟩) (ak (fun _ => ⟨rfl, fun _ _ => rfl⟩) (ak (fun _ => ⟨rfl, fun _ _ => rfl⟩) (ak (fun _ => ⟨rfl, fun _ _ => rfl⟩) trivial)))
  intro γ w10 l hM hl
  have M10 : Mm w10 [(γ3_1, ints .u8 (lf xs) (a.n + 3)), (γ3_3, ints .u8 (lf ys) (d.n + 3)), (γ3_5, ints .u8 (lf zs) (q.n + 3))] := H9.out.1.grow hM (Nat.le_refl _) hl [] rfl (by decide)
  have B10 : Bk w (fun u => ((Rw rb u ∧ tb_.rs u) ∧ Rw rs_ u)) w10 := Bk.step H9.out.2 (hM.below)
  clear hM hl l H9
  clear γ
  have H10 : Hid (_ ∧ _) := ⟨M10, B10⟩
  clear M10 B10
  refine rest_at (l := [4, 5, 6, 7, 8, 9]) rfl ?_
  refine rest_enter (d := 70) rfl rfl rfl (exec_call (args := #[.slice a.p a.n a.cp, .slice d.p d.n d.cp, W32 c, .slice q.p q.n q.cp]) rfl call12 rfl (mpn rfl)) ((Calls.mono (streamD a d q ha.ok hd.ok hq.ok c (fun j => by rw [hq.f]; exact lf_lt hq.by_ j) w10 (RA.out.below H10.out.2.b).2 (RD.out.below H10.out.2.b).2 (RQ.out.below H10.out.2.b).2) (fun e w2 hh => by obtain ⟨r, he, hr⟩ := hh; exact ⟨_, he, r, rfl, hr⟩) : Calls Try.prog 12 #[.slice a.p a.n a.cp, .slice d.p d.n d.cp, W32 c, .slice q.p q.n q.cp] w10 (fun e w' => ∃ v, e = .returned v ∧ (∃ r : Pt8, v = .tuple #[.slice r.p r.n r.cp, .int .i64 ((we a.n d.n (lg q.n) : Nat) : Int)] ∧ Dz r (az (we a.n d.n (lg q.n)) q.n) (so a.f d.f c q.f) w10 w')))) ?_
  rintro _ w11 ⟨ts_, rfl, hr⟩
  have Kts_ : Hid (Pok ts_ ∧ (∀ j, ts_.f j < 256) ∧ ts_.n = az (we a.n d.n (lg q.n)) q.n ∧ ∀ j, j < az (we a.n d.n (lg q.n)) q.n → ts_.f j = (so a.f d.f c q.f) j) := ⟨hr.ok, hr.by_, hr.len, hr.eq⟩
  have hb := hr.b
  have hR : ts_.rs w11 := hr.rs
  clear hr
  have H11 : Hid (Mm w11 [(γ3_1, ints .u8 (lf xs) (a.n + 3)), (γ3_3, ints .u8 (lf ys) (d.n + 3)), (γ3_5, ints .u8 (lf zs) (q.n + 3))] ∧ Bk w (fun u => (((Rw rb u ∧ tb_.rs u) ∧ Rw rs_ u) ∧ ts_.rs u)) w11) := ⟨H10.out.1.below hb, Bk.and2 H10.out.2 hb (fun hb h => Rs.below h hb) (hR)⟩
  clear hb hR H10
  simp only [Act.put, sa, sz, ss]
  refine rest_set (d := 65) (v := .tuple #[.slice ts_.p ts_.n ts_.cp, .int .i64 ((we a.n d.n (lg q.n) : Nat) : Int)]) (w' := w11) rfl rfl rfl rfl ?_
  simp only [Act.put, sa, sz, ss]
  refine rest_set (d := 71) (v := .slice ts_.p ts_.n ts_.cp) (w' := w11) rfl rfl rfl (by go_simp) ?_
  simp only [Act.put, sa, sz, ss]
  refine rest_set (d := 72) (v := .int .i64 ((we a.n d.n (lg q.n) : Nat) : Int)) (w' := w11) rfl rfl rfl (by go_simp) ?_
  simp only [Act.put, sa, sz, ss]
  refine rest_set (d := 18) (v := .slice ts_.p ts_.n ts_.cp) (w' := w11) rfl rfl rfl rfl ?_
  simp only [Act.put, sa, sz, ss]
  refine rest_set (d := 19) (v := .int .i64 ((we a.n d.n (lg q.n) : Nat) : Int)) (w' := w11) rfl rfl rfl rfl ?_
  simp only [Act.put, sa, sz, ss]
  refine rest_nil (then_normal (wp_seq ?_))
  refine walk_seqA 2 [.quiet (.slice (some ⟨γ3_1, 0, none⟩) a.n (a.n + 3)), .quiet (.slice (some ⟨γ3_5, 0, none⟩) q.n (q.n + 3))] (sB H11) ?ho8 ?he8
  case ho8 => exact ak (fun _ => ⟨rfl, fun _ _ => rfl⟩) (ak (fun _ => ⟨rfl, fun _ _ => rfl⟩) trivial)
  intro γ w12 l hM hl
  have M12 : Mm w12 [(γ3_1, ints .u8 (lf xs) (a.n + 3)), (γ3_3, ints .u8 (lf ys) (d.n + 3)), (γ3_5, ints .u8 (lf zs) (q.n + 3))] := H11.out.1.grow hM (Nat.le_refl _) hl [] rfl (by decide)
  have B12 : Bk w (fun u => (((Rw rb u ∧ tb_.rs u) ∧ Rw rs_ u) ∧ ts_.rs u)) w12 := Bk.step H11.out.2 (hM.below)
  clear hM hl l H11
  clear γ
  have H12 : Hid (_ ∧ _) := ⟨M12, B12⟩
  clear M12 B12
  refine rest_at (l := [2, 3, 4, 5, 6, 7]) rfl ?_
  refine rest_enter (d := 76) rfl rfl rfl (exec_call (args := #[.slice (some ⟨γ3_1, 0, none⟩) a.n (a.n + 3), .slice (some ⟨γ3_5, 0, none⟩) q.n (q.n + 3)]) rfl call13 rfl (mpn rfl)) ((Calls.mono (tagP (pc γ3_1 a.n (a.n + 3) (lf xs)) (pc γ3_5 q.n (q.n + 3) (lf zs)) (pc_ok _ _ _ _) (pc_ok _ _ _ _) (lf_lt ha.by_) (lf_lt hq.by_) w12 (H12.out.1.rs 0 rfl (Nat.le_add_right _ _)) (H12.out.1.rs 2 rfl (Nat.le_add_right _ _))) (fun e w2 hh => by obtain ⟨r, he, hr⟩ := hh; exact ⟨_, he, r, rfl, hr⟩) : Calls Try.prog 13 #[.slice (some ⟨γ3_1, 0, none⟩) a.n (a.n + 3), .slice (some ⟨γ3_5, 0, none⟩) q.n (q.n + 3)] w12 (fun e w' => ∃ v, e = .returned v ∧ (∃ r : Ap, v = .tuple #[.slice r.p r.n r.c, .int .i64 ((we a.n 12 (lg q.n) : Nat) : Int)] ∧ Rz r (az (we a.n 12 (lg q.n)) 16) (tt (tga (rk (lf xs)) (lf zs) q.n) (sk (lf xs))) w12 w')))) ?_
  rintro _ w13 ⟨rt_, rfl, hr⟩
  have Krt_ : Hid (rt_.Ok ∧ rt_.n = az (we a.n 12 (lg q.n)) 16 ∧ ∀ j, j < az (we a.n 12 (lg q.n)) 16 → rt_.f j = (tt (tga (rk (lf xs)) (lf zs) q.n) (sk (lf xs))) j) := ⟨hr.ok, hr.len, hr.eq⟩
  have Nrbrt_ : Hid (rb.p ≠ none → rt_.p ≠ none → rb.g ≠ rt_.g) := fun h1 h2 => by have a1 := (H12.out.2.r.1.1.1).2 h1; have a2 := (hr.at_ h2).1; omega
  have Nrs_rt_ : Hid (rs_.p ≠ none → rt_.p ≠ none → rs_.g ≠ rt_.g) := fun h1 h2 => by have a1 := (H12.out.2.r.1.2).2 h1; have a2 := (hr.at_ h2).1; omega
  have Mxsrt_ : Hid (rt_.p ≠ none → rt_.g ≠ γ3_1) := fun h2 => by have a1 := (H12.out.1.blk (γ3_1, ints .u8 (lf xs) (a.n + 3)) (List.mem_of_getElem? (i := 0) rfl)).1; have a2 := (hr.at_ h2).1; dsimp only at a1; omega
  have Mysrt_ : Hid (rt_.p ≠ none → rt_.g ≠ γ3_3) := fun h2 => by have a1 := (H12.out.1.blk (γ3_3, ints .u8 (lf ys) (d.n + 3)) (List.mem_of_getElem? (i := 1) rfl)).1; have a2 := (hr.at_ h2).1; dsimp only at a1; omega
  have Mzsrt_ : Hid (rt_.p ≠ none → rt_.g ≠ γ3_5) := fun h2 => by have a1 := (H12.out.1.blk (γ3_5, ints .u8 (lf zs) (q.n + 3)) (List.mem_of_getElem? (i := 2) rfl)).1; have a2 := (hr.at_ h2).1; dsimp only at a1; omega
  have hb := hr.b
  have hR : Rw rt_ w13 := ⟨hr.row, fun h => (hr.at_ h).2⟩
  clear hr
  have H13 : Hid (Mm w13 [(γ3_1, ints .u8 (lf xs) (a.n + 3)), (γ3_3, ints .u8 (lf ys) (d.n + 3)), (γ3_5, ints .u8 (lf zs) (q.n + 3))] ∧ Bk w (fun u => ((((Rw rb u ∧ tb_.rs u) ∧ Rw rs_ u) ∧ ts_.rs u) ∧ Rw rt_ u)) w13) := ⟨H12.out.1.below hb, Bk.and2 H12.out.2 hb (fun hb h => Rw.below hb h) (hR)⟩
  clear hb hR H12
  simp only [Act.put, sa, sz, ss]
  refine rest_set (d := 73) (v := .tuple #[.slice rt_.p rt_.n rt_.c, .int .i64 ((we a.n 12 (lg q.n) : Nat) : Int)]) (w' := w13) rfl rfl rfl rfl ?_
  simp only [Act.put, sa, sz, ss]
  refine rest_set (d := 77) (v := .slice rt_.p rt_.n rt_.c) (w' := w13) rfl rfl rfl (by go_simp) ?_
  simp only [Act.put, sa, sz, ss]
  refine rest_set (d := 78) (v := .int .i64 ((we a.n 12 (lg q.n) : Nat) : Int)) (w' := w13) rfl rfl rfl (by go_simp) ?_
  simp only [Act.put, sa, sz, ss]
  refine rest_set (d := 20) (v := .slice rt_.p rt_.n rt_.c) (w' := w13) rfl rfl rfl rfl ?_
  simp only [Act.put, sa, sz, ss]
  refine rest_set (d := 21) (v := .int .i64 ((we a.n 12 (lg q.n) : Nat) : Int)) (w' := w13) rfl rfl rfl rfl ?_
  simp only [Act.put, sa, sz, ss]
  refine rest_nil (then_normal (wp_seq ?_))
  refine walk_seqA 2 [.quiet (.slice a.p a.n a.cp), .quiet (.slice q.p q.n q.cp)] (sB H13) ?ho9 ?he9
  case ho9 => exact ak (fun _ => ⟨rfl, fun _ _ => rfl⟩) (ak (fun _ => ⟨rfl, fun _ _ => rfl⟩) trivial)
  intro γ w14 l hM hl
  have M14 : Mm w14 [(γ3_1, ints .u8 (lf xs) (a.n + 3)), (γ3_3, ints .u8 (lf ys) (d.n + 3)), (γ3_5, ints .u8 (lf zs) (q.n + 3))] := H13.out.1.grow hM (Nat.le_refl _) hl [] rfl (by decide)
  have B14 : Bk w (fun u => ((((Rw rb u ∧ tb_.rs u) ∧ Rw rs_ u) ∧ ts_.rs u) ∧ Rw rt_ u)) w14 := Bk.step H13.out.2 (hM.below)
  clear hM hl l H13
  clear γ
  have H14 : Hid (_ ∧ _) := ⟨M14, B14⟩
  clear M14 B14
  refine rest_at (l := [2, 3, 4, 5, 6, 7]) rfl ?_
  refine rest_enter (d := 82) rfl rfl rfl (exec_call (args := #[.slice a.p a.n a.cp, .slice q.p q.n q.cp]) rfl call14 rfl (mpn rfl)) ((Calls.mono (tagD a q ha.ok hq.ok (fun j => by rw [ha.f]; exact lf_lt ha.by_ j) (fun j => by rw [hq.f]; exact lf_lt hq.by_ j) w14 (RA.out.below H14.out.2.b).2 (RQ.out.below H14.out.2.b).2) (fun e w2 hh => by obtain ⟨r, he, hr⟩ := hh; exact ⟨_, he, r, rfl, hr⟩) : Calls Try.prog 14 #[.slice a.p a.n a.cp, .slice q.p q.n q.cp] w14 (fun e w' => ∃ v, e = .returned v ∧ (∃ r : Pt8, v = .tuple #[.slice r.p r.n r.cp, .int .i64 ((we a.n 12 (lg q.n) : Nat) : Int)] ∧ Dz r (az (we a.n 12 (lg q.n)) 16) (tb (tg (nv (clq a.f 3) 34) q.f q.n ((q.n + 15) / 16)) a.f) w14 w')))) ?_
  rintro _ w15 ⟨tt_, rfl, hr⟩
  have Ktt_ : Hid (Pok tt_ ∧ (∀ j, tt_.f j < 256) ∧ tt_.n = az (we a.n 12 (lg q.n)) 16 ∧ ∀ j, j < az (we a.n 12 (lg q.n)) 16 → tt_.f j = (tb (tg (nv (clq a.f 3) 34) q.f q.n ((q.n + 15) / 16)) a.f) j) := ⟨hr.ok, hr.by_, hr.len, hr.eq⟩
  have hb := hr.b
  have hR : tt_.rs w15 := hr.rs
  clear hr
  have H15 : Hid (Mm w15 [(γ3_1, ints .u8 (lf xs) (a.n + 3)), (γ3_3, ints .u8 (lf ys) (d.n + 3)), (γ3_5, ints .u8 (lf zs) (q.n + 3))] ∧ Bk w (fun u => (((((Rw rb u ∧ tb_.rs u) ∧ Rw rs_ u) ∧ ts_.rs u) ∧ Rw rt_ u) ∧ tt_.rs u)) w15) := ⟨H14.out.1.below hb, Bk.and2 H14.out.2 hb (fun hb h => Rs.below h hb) (hR)⟩
  clear hb hR H14
  simp only [Act.put, sa, sz, ss]
  refine rest_set (d := 79) (v := .tuple #[.slice tt_.p tt_.n tt_.cp, .int .i64 ((we a.n 12 (lg q.n) : Nat) : Int)]) (w' := w15) rfl rfl rfl rfl ?_
  simp only [Act.put, sa, sz, ss]
  refine rest_set (d := 83) (v := .slice tt_.p tt_.n tt_.cp) (w' := w15) rfl rfl rfl (by go_simp) ?_
  simp only [Act.put, sa, sz, ss]
  refine rest_set (d := 84) (v := .int .i64 ((we a.n 12 (lg q.n) : Nat) : Int)) (w' := w15) rfl rfl rfl (by go_simp) ?_
  simp only [Act.put, sa, sz, ss]
  refine rest_set (d := 22) (v := .slice tt_.p tt_.n tt_.cp) (w' := w15) rfl rfl rfl rfl ?_
  simp only [Act.put, sa, sz, ss]
  refine rest_set (d := 23) (v := .int .i64 ((we a.n 12 (lg q.n) : Nat) : Int)) (w' := w15) rfl rfl rfl rfl ?_
  simp only [Act.put, sa, sz, ss]
  refine rest_nil (then_normal ?_)
  refine wp_seq (wp_seq ?_)
  refine (walk_seq) 31 [.quiet (.slice rb.p rb.n rb.c), .quiet (.slice tb_.p tb_.n tb_.cp), .call (.bool true), .quiet (.bool false), .quiet (.bool false), .quiet (.int .i64 ((we a.n d.n false : Nat) : Int)), .quiet (.int .i64 ((we a.n d.n false : Nat) : Int)), .quiet (.bool false), .quiet (.bool false), .quiet (.bool false), .quiet (.slice rs_.p rs_.n rs_.c), .quiet (.slice ts_.p ts_.n ts_.cp), .call (.bool true), .quiet (.bool false), .quiet (.bool false), .quiet (.bool false), .quiet (.int .i64 ((we a.n d.n (lg q.n) : Nat) : Int)), .quiet (.int .i64 ((we a.n d.n (lg q.n) : Nat) : Int)), .quiet (.bool false), .quiet (.bool false), .quiet (.bool false), .quiet (.slice rt_.p rt_.n rt_.c), .quiet (.slice tt_.p tt_.n tt_.cp), .call (.bool true), .quiet (.bool false), .quiet (.bool false), .quiet (.bool false), .quiet (.int .i64 ((we a.n 12 (lg q.n) : Nat) : Int)), .quiet (.int .i64 ((we a.n 12 (lg q.n) : Nat) : Int)), .quiet (.bool false), .quiet (.bool false)] (fun u' => Mm u' [(γ3_1, ints .u8 (lf xs) (a.n + 3)), (γ3_3, ints .u8 (lf ys) (d.n + 3)), (γ3_5, ints .u8 (lf zs) (q.n + 3))] ∧ (a.bs xs u' ∧ d.bs ys u' ∧ q.bs zs u' ∧ (((((Rw rb u'  ∧ tb_.rs u' ) ∧ Rw rs_ u' ) ∧ ts_.rs u' ) ∧ Rw rt_ u' ) ∧ tt_.rs u' ))) ?pre10 ?F10 ?hpre10 (fun γ => ?hF10) (by kernel_rfl) ?hL10 ?hS10 ?ho10 ?he10
  case hpre10 => simp only [tk, tz]; rfl
  case hF10 => simp only [fill, Kind.val, Act.put, sa, sz, ss]; rfl
  case hL10 => exact trivial
  case hS10 => exact fun w' hb => ⟨H15.out.1.below hb, ⟨RA.out.below (Bk.step H15.out.2 (hb)).b, RD.out.below (Bk.step H15.out.2 (hb)).b, RQ.out.below (Bk.step H15.out.2 (hb)).b, (Bk.step H15.out.2 (hb)).r⟩⟩
  case ho10 =>
    refine ak (fun _ => ⟨rfl, fun _ _ => rfl⟩) ?_
    refine ak (fun _ => ⟨rfl, fun _ _ => rfl⟩) ?_
    refine ak (fun γ => ⟨rfl, fun w' hX => ⟨15, #[.slice rb.p rb.n rb.c, .slice tb_.p tb_.n tb_.cp], exec_call rfl call15 rfl (mpn rfl), same_rt Krb.out Ktb_.out (fun j _ => by rw [ha.f, hd.f]) w' (hX.2.2.2.2.1.1.1.1.1).1 (hX.2.2.2.2.1.1.1.1.2)⟩⟩) ?_
    refine ak (by refine fun γ => ⟨rfl, fun w' h => ?_⟩; clear h; go_simp) ?_
    refine ak (fun _ => ⟨rfl, fun _ _ => rfl⟩) ?_
    refine ak (fun _ => ⟨rfl, fun _ _ => rfl⟩) ?_
    refine ak (fun _ => ⟨rfl, fun _ _ => rfl⟩) ?_
    refine ak (by refine fun γ => ⟨rfl, fun w' h => ?_⟩; clear h; go_simp <;> omega) ?_
    refine ak (by refine fun γ => ⟨rfl, fun w' h => ?_⟩; clear h; go_simp) ?_
    refine ak (fun _ => ⟨rfl, fun _ _ => rfl⟩) ?_
    refine ak (fun _ => ⟨rfl, fun _ _ => rfl⟩) ?_
    refine ak (fun _ => ⟨rfl, fun _ _ => rfl⟩) ?_
    refine ak (fun γ => ⟨rfl, fun w' hX => ⟨15, #[.slice rs_.p rs_.n rs_.c, .slice ts_.p ts_.n ts_.cp], exec_call rfl call15 rfl (mpn rfl), same_rt Krs_.out Kts_.out (fun j _ => by rw [ha.f, hd.f, hq.f]) w' (hX.2.2.2.2.1.1.1.2).1 (hX.2.2.2.2.1.1.2)⟩⟩) ?_
    refine ak (by refine fun γ => ⟨rfl, fun w' h => ?_⟩; clear h; go_simp) ?_
    refine ak (by refine fun γ => ⟨rfl, fun w' h => ?_⟩; clear h; go_simp) ?_
    refine ak (fun _ => ⟨rfl, fun _ _ => rfl⟩) ?_
    refine ak (fun _ => ⟨rfl, fun _ _ => rfl⟩) ?_
    refine ak (fun _ => ⟨rfl, fun _ _ => rfl⟩) ?_
    refine ak (by refine fun γ => ⟨rfl, fun w' h => ?_⟩; clear h; go_simp <;> omega) ?_
    refine ak (by refine fun γ => ⟨rfl, fun w' h => ?_⟩; clear h; go_simp) ?_
    refine ak (fun _ => ⟨rfl, fun _ _ => rfl⟩) ?_
    refine ak (fun _ => ⟨rfl, fun _ _ => rfl⟩) ?_
    refine ak (fun _ => ⟨rfl, fun _ _ => rfl⟩) ?_
    refine ak (fun γ => ⟨rfl, fun w' hX => ⟨15, #[.slice rt_.p rt_.n rt_.c, .slice tt_.p tt_.n tt_.cp], exec_call rfl call15 rfl (mpn rfl), same_rt Krt_.out Ktt_.out (fun j hj => by rw [ha.f, hq.f]; exact tag_doc (lf_lt ha.by_) (lf_lt hq.by_) _ (az_lt hj)) w' (hX.2.2.2.2.1.2).1 (hX.2.2.2.2.2)⟩⟩) ?_
    refine ak (by refine fun γ => ⟨rfl, fun w' h => ?_⟩; clear h; go_simp) ?_
    refine ak (by refine fun γ => ⟨rfl, fun w' h => ?_⟩; clear h; go_simp) ?_
    refine ak (fun _ => ⟨rfl, fun _ _ => rfl⟩) ?_
    refine ak (fun _ => ⟨rfl, fun _ _ => rfl⟩) ?_
    refine ak (fun _ => ⟨rfl, fun _ _ => rfl⟩) ?_
    refine ak (by refine fun γ => ⟨rfl, fun w' h => ?_⟩; clear h; go_simp <;> omega) ?_
    refine ak (by refine fun γ => ⟨rfl, fun w' h => ?_⟩; clear h; go_simp) ?_
    exact trivial
  intro γ w16 l hM hl
  have M16 : Mm w16 [(γ3_1, ints .u8 (lf xs) (a.n + 3)), (γ3_3, ints .u8 (lf ys) (d.n + 3)), (γ3_5, ints .u8 (lf zs) (q.n + 3))] := H15.out.1.grow hM (Nat.le_refl _) hl [] rfl (by decide)
  have B16 : Bk w (fun u => (((((Rw rb u ∧ tb_.rs u) ∧ Rw rs_ u) ∧ ts_.rs u) ∧ Rw rt_ u) ∧ tt_.rs u)) w16 := Bk.step H15.out.2 (hM.below)
  clear hM hl l H15
  clear γ
  have H16 : Hid (_ ∧ _) := ⟨M16, B16⟩
  clear M16 B16
  refine rest0 rfl (then_normal (wp_cond_false rfl ?_))
  refine wp_skip (then_normal (wp_seq ?_))
  refine (walk_seq) 19 [.quiet (.slice (some ⟨γ3_1, 0, none⟩) a.n (a.n + 3)), .quiet (.slice a.p a.n a.cp), .call (.bool true), .quiet (.bool true), .quiet (.slice (some ⟨γ3_3, 0, none⟩) d.n (d.n + 3)), .quiet (.slice d.p d.n d.cp), .call (.bool true), .quiet (.bool true), .quiet (.bool true), .quiet (.slice (some ⟨γ3_5, 0, none⟩) q.n (q.n + 3)), .quiet (.slice q.p q.n q.cp), .call (.bool true), .quiet (.bool true), .quiet (.bool true), .quiet (.slice rb.p rb.n rb.c), .quiet (.slice rs_.p rs_.n rs_.c), .quiet (.slice rt_.p rt_.n rt_.c), .quiet (.slice (some ⟨γ3_1, 0, none⟩) a.n (a.n + 3)), .quiet (.slice (some ⟨γ3_3, 0, none⟩) d.n (d.n + 3))] (fun u' => Mm u' [(γ3_1, ints .u8 (lf xs) (a.n + 3)), (γ3_3, ints .u8 (lf ys) (d.n + 3)), (γ3_5, ints .u8 (lf zs) (q.n + 3))] ∧ (a.bs xs u' ∧ d.bs ys u' ∧ q.bs zs u' ∧ (((((Rw rb u'  ∧ tb_.rs u' ) ∧ Rw rs_ u' ) ∧ ts_.rs u' ) ∧ Rw rt_ u' ) ∧ tt_.rs u' ))) ?pre11 ?F11 ?hpre11 (fun γ => ?hF11) (by kernel_rfl) ?hL11 ?hS11 ?ho11 ?he11
  case hpre11 => simp only [tk, tz]; rfl
  case hF11 => simp only [fill, Kind.val, Act.put, sa, sz, ss]; rfl
  case hL11 => exact trivial
  case hS11 => exact fun w' hb => ⟨H16.out.1.below hb, ⟨RA.out.below (Bk.step H16.out.2 (hb)).b, RD.out.below (Bk.step H16.out.2 (hb)).b, RQ.out.below (Bk.step H16.out.2 (hb)).b, (Bk.step H16.out.2 (hb)).r⟩⟩
  case ho11 =>
    refine ak (fun _ => ⟨rfl, fun _ _ => rfl⟩) ?_
    refine ak (fun _ => ⟨rfl, fun _ _ => rfl⟩) ?_
    refine ak (fun γ => ⟨rfl, fun w' hX => ⟨16, #[.slice (some ⟨γ3_1, 0, none⟩) a.n (a.n + 3), .slice a.p a.n a.cp], exec_call rfl call16 rfl (mpn rfl), kept_partB ha (by omega) hX.1 0 rfl hX.2.1⟩⟩) ?_
    refine ak (fun _ => ⟨rfl, fun _ _ => rfl⟩) ?_
    refine ak (fun _ => ⟨rfl, fun _ _ => rfl⟩) ?_
    refine ak (fun _ => ⟨rfl, fun _ _ => rfl⟩) ?_
    refine ak (fun γ => ⟨rfl, fun w' hX => ⟨16, #[.slice (some ⟨γ3_3, 0, none⟩) d.n (d.n + 3), .slice d.p d.n d.cp], exec_call rfl call16 rfl (mpn rfl), kept_partB hd (by omega) hX.1 1 rfl hX.2.2.1⟩⟩) ?_
    refine ak (by refine fun γ => ⟨rfl, fun w' h => ?_⟩; clear h; go_simp) ?_
    refine ak (fun _ => ⟨rfl, fun _ _ => rfl⟩) ?_
    refine ak (fun _ => ⟨rfl, fun _ _ => rfl⟩) ?_
    refine ak (fun _ => ⟨rfl, fun _ _ => rfl⟩) ?_
    refine ak (fun γ => ⟨rfl, fun w' hX => ⟨16, #[.slice (some ⟨γ3_5, 0, none⟩) q.n (q.n + 3), .slice q.p q.n q.cp], exec_call rfl call16 rfl (mpn rfl), kept_partB hq (by omega) hX.1 2 rfl hX.2.2.2.1⟩⟩) ?_
    refine ak (by refine fun γ => ⟨rfl, fun w' h => ?_⟩; clear h; go_simp) ?_
    refine ak (fun _ => ⟨rfl, fun _ _ => rfl⟩) ?_
    refine ak (fun _ => ⟨rfl, fun _ _ => rfl⟩) ?_
    refine ak (fun _ => ⟨rfl, fun _ _ => rfl⟩) ?_
    refine ak (fun _ => ⟨rfl, fun _ _ => rfl⟩) ?_
    refine ak (fun _ => ⟨rfl, fun _ _ => rfl⟩) ?_
    refine ak (fun _ => ⟨rfl, fun _ _ => rfl⟩) ?_
    exact trivial
  intro γ w17 l hM hl
  have M17 : Mm w17 [(γ3_1, ints .u8 (lf xs) (a.n + 3)), (γ3_3, ints .u8 (lf ys) (d.n + 3)), (γ3_5, ints .u8 (lf zs) (q.n + 3))] := H16.out.1.grow hM (Nat.le_refl _) hl [] rfl (by decide)
  have B17 : Bk w (fun u => (((((Rw rb u ∧ tb_.rs u) ∧ Rw rs_ u) ∧ ts_.rs u) ∧ Rw rt_ u) ∧ tt_.rs u)) w17 := Bk.step H16.out.2 (hM.below)
  clear hM hl l H16
  clear γ
  have H17 : Hid (_ ∧ _) := ⟨M17, B17⟩
  clear M17 B17
  refine rest_at (l := [19, 20, 21, 22]) rfl ?_
  have Lrb : Hid (rb.p ≠ none → rb.g ≠ w17.heap.size) := fun h => by have a1 := (H17.out.2.r.1.1.1.1.1).2 h; omega
  have Lrs_ : Hid (rs_.p ≠ none → rs_.g ≠ w17.heap.size) := fun h => by have a1 := (H17.out.2.r.1.1.1.2).2 h; omega
  have Lrt_ : Hid (rt_.p ≠ none → rt_.g ≠ w17.heap.size) := fun h => by have a1 := (H17.out.2.r.1.2).2 h; omega
  refine rest_set (d := 135) (v := .slice (some ⟨w17.heap.size, 0, none⟩) 5 5) (w' := (w17.alloc (.cells ([Value.slice rb.p rb.n rb.c, Value.slice rs_.p rs_.n rs_.c, Value.slice rt_.p rt_.n rt_.c, Value.slice (some ⟨γ3_1, 0, none⟩) a.n (a.n + 3), Value.slice (some ⟨γ3_3, 0, none⟩) d.n (d.n + 3)] : List Value).toArray 22))) rfl rfl rfl (ex_bsL5 rfl rfl rfl rfl rfl rfl) ?_
  simp only [Act.put, sa, sz, ss]
  have o_γs18 : Hid (w.heap.size ≤ w17.heap.size) := H17.out.2.size
  have H18 : Hid (Mm (w17.alloc (.cells ([Value.slice rb.p rb.n rb.c, Value.slice rs_.p rs_.n rs_.c, Value.slice rt_.p rt_.n rt_.c, Value.slice (some ⟨γ3_1, 0, none⟩) a.n (a.n + 3), Value.slice (some ⟨γ3_3, 0, none⟩) d.n (d.n + 3)] : List Value).toArray 22)) ((w17.heap.size, [Value.slice rb.p rb.n rb.c, Value.slice rs_.p rs_.n rs_.c, Value.slice rt_.p rt_.n rt_.c, Value.slice (some ⟨γ3_1, 0, none⟩) a.n (a.n + 3), Value.slice (some ⟨γ3_3, 0, none⟩) d.n (d.n + 3)]) :: [(γ3_1, ints .u8 (lf xs) (a.n + 3)), (γ3_3, ints .u8 (lf ys) (d.n + 3)), (γ3_5, ints .u8 (lf zs) (q.n + 3))]) ∧ Bk w (fun u => (((((Rw rb u ∧ tb_.rs u) ∧ Rw rs_ u) ∧ ts_.rs u) ∧ Rw rt_ u) ∧ tt_.rs u)) (w17.alloc (.cells ([Value.slice rb.p rb.n rb.c, Value.slice rs_.p rs_.n rs_.c, Value.slice rt_.p rt_.n rt_.c, Value.slice (some ⟨γ3_1, 0, none⟩) a.n (a.n + 3), Value.slice (some ⟨γ3_3, 0, none⟩) d.n (d.n + 3)] : List Value).toArray 22))) := ⟨H17.out.1.alloc _ 22 rfl, Bk.step H17.out.2 (((Below.refl _ _).alloc (Nat.le_refl _) _))⟩
  clear H17
  generalize hgw : (w17.alloc (.cells ([Value.slice rb.p rb.n rb.c, Value.slice rs_.p rs_.n rs_.c, Value.slice rt_.p rt_.n rt_.c, Value.slice (some ⟨γ3_1, 0, none⟩) a.n (a.n + 3), Value.slice (some ⟨γ3_3, 0, none⟩) d.n (d.n + 3)] : List Value).toArray 22)) = w18 at H18 ⊢
  clear hgw
  generalize w17.heap.size = γs18 at o_γs18 Lrb Lrs_ Lrt_ H18 ⊢
  refine rest_enter (d := 136) (R := fun vv w' => vv = .bool true ∧ Below w18.heap.size w18 w') rfl rfl rfl (exec_call (args := #[.slice (some ⟨γs18, 0, none⟩) 5 5]) rfl call17 rfl (mpn rfl)) (Calls.mono (apart5g (A0 := rb) (A1 := rs_) (A2 := rt_) (A3 := ap γ3_1 a.n (a.n + 3) (lf xs)) (A4 := ap γ3_3 d.n (d.n + 3) (lf ys)) Krb.out.1 Krs_.out.1 Krt_.out.1 (ap_ok (Nat.le_add_right _ _) (by omega) (lf_lt ha.by_)) (ap_ok (Nat.le_add_right _ _) (by omega) (lf_lt hd.by_)) (H18.out.2.r.1.1.1.1.1).1 (H18.out.2.r.1.1.1.2).1 (H18.out.2.r.1.2).1 (.inr (H18.out.1.one 1 rfl)) (.inr (H18.out.1.one 2 rfl)) Nrbrs_.out Nrbrt_.out (fun h _ => Mxsrb.out h) (fun h _ => Mysrb.out h) Nrs_rt_.out (fun h _ => Mxsrs_.out h) (fun h _ => Mysrs_.out h) (fun h _ => Mxsrt_.out h) (fun h _ => Mysrt_.out h) (fun _ _ => mm_ne H18.out.1 1 2 rfl rfl (by decide)) Lrb.out Lrs_.out Lrt_.out (fun _ => mm_ne H18.out.1 1 0 rfl rfl (by decide)) (fun _ => mm_ne H18.out.1 2 0 rfl rfl (by decide)) (H18.out.1.one 0 rfl)) (fun e w2 hh => ⟨_, hh.1, rfl, hh.2⟩)) ?_
  rintro _ w19 ⟨rfl, hb⟩
  have H19 : Hid (_ ∧ _) := ⟨H18.out.1.below hb, Bk.step H18.out.2 (hb)⟩
  clear hb H18
  simp only [Act.put, sa, sz, ss]
  refine rest_set (d := 137) (v := .bool true) (w' := w19) rfl rfl rfl (by go_simp) ?_
  simp only [Act.put, sa, sz, ss]
  refine rest_set (d := 8) (v := .bool true) (w' := w19) rfl rfl rfl rfl ?_
  simp only [Act.put, sa, sz, ss]
  refine rest_nil (then_normal (wp_ret ?_))
  repeat (first | refine then_ret ?_ | refine block_ret ?_)
  refine bodyPost_ret (v := .bool true) (by simp [results, Try.results3, go_sem, *]) rfl ?_
  exact ⟨rfl, H19.out.2.b⟩
theorem streams_any (xs : List Int) (c1 : Nat) (v : Value) (hx : ∀ x ∈ xs, 0 ≤ x ∧ x < 256) (ys : List Int) (c2 : Nat) (u : Value) (hy : ∀ x ∈ ys, 0 ≤ x ∧ x < 256) (c : Nat) (hc : c < 4294967296) (zs : List Int) (c3 : Nat) (t : Value) (ht : ∀ x ∈ zs, 0 ≤ x ∧ x < 256) (w : World) (h : BSl w xs c1 v) (h0 : v = .slice none 0 0 ∨ ∃ a k c', v = .slice (some a) k c') (k : BSl w ys c2 u) (k0 : u = .slice none 0 0 ∨ ∃ a k c', u = .slice (some a) k c') (hz : BSl w zs c3 t) (q0 : t = .slice none 0 0 ∨ ∃ a k c', t = .slice (some a) k c') : Calls Try.prog 3 #[v, u, W32 c, t] w fun e w' => e = .returned (.bool true) ∧ Below w.heap.size w w' := by
  obtain ⟨a, rfl, ha, hA⟩ := bsl_ar hx h h0
  obtain ⟨d, rfl, hd, hD⟩ := bsl_ar hy k k0
  obtain ⟨q, rfl, hq, hQ⟩ := bsl_ar ht hz q0
  by_cases hf : Few q.n
  · by_cases h1 : 2000 < a.n
    · exact streams_a xs ys zs a d q c hf h1 w hA hD hQ
    · by_cases h2 : 2000 < d.n
      · exact streams_d xs ys zs a d q c hf (by omega) h2 w hA hD hQ
      · exact streams_ok xs ys zs a d q ha hd hq c hc hf (by omega) (by omega) w hA hD hQ
  · exact streams_few xs ys zs a d q c hf w hA hD hQ
end Rg
end Go.Proofs.Ytkkippfikfjdpaa
end
section
namespace Go.Proofs.Ytkkippfikfjdpaa
open Go.ChangeShapes Go.WideShapes Go.ChangeAt Go.RowKit
theorem Try.own : ownKnob Try.prog.godebug = none := by kernel_rfl
theorem Try.laidOut : laidOutB Try.prog = true := by kernel_rfl
theorem Try.cells5 : Try.prog.cellsOf 5 = 1 := by kernel_rfl
set_option maxRecDepth 100000 in
theorem open_bytes {H : Type} {enc : TypeId × Value → H} {w : World} {base : Nat} {sp : Nat → Bool} {held : Bool} {r : Reach} {b0 : Nat} {v : Value} {d : DataW H} {ps : List MemPlace}
    (hval : Value.okWide Try.prog w r b0 22 v) (hd : DataW.Trod enc Try.prog w base sp held 22 v d ps) :
    ∃ xs c, BSl w xs c v ∧ (∀ x ∈ xs, 0 ≤ x ∧ x < 256) ∧ (v = .slice none 0 0 ∨ ∃ a k c', v = .slice (some a) k c') ∧ ∀ x ∈ ps, x.block < w.heap.size := by
  obtain ⟨a0, len, cap, rfl⟩ := okWide_slice Try.underlying22 hval
  obtain ⟨fuel, hf⟩ := hd
  rcases open_ints Try.underlying22 Try.underlying5 Try.cells5 hf with ⟨hcs, hx⟩ | ⟨a, len', cap', zs, hcs, _, hl, hm, hz, hx, hcell, hwz⟩
  · simp [Value.cells] at hcs
    obtain ⟨rfl, rfl, rfl⟩ := hcs
    simp only [Prod.mk.injEq] at hx
    obtain ⟨_, rfl⟩ := hx
    exact ⟨[], 0, .void none rfl, by simp, .inl rfl, by simp⟩
  · simp [Value.cells] at hcs
    obtain ⟨rfl, rfl, rfl⟩ := hcs
    simp only [Prod.mk.injEq] at hx
    obtain ⟨_, rfl⟩ := hx
    have hlz : len ≤ zs.length := by rw [hz]; split <;> omega
    have hps : ∀ x ∈ MemPlace.row a zs.length, x.block < w.heap.size := fun x hx => by
      obtain ⟨i, hi, rfl⟩ := MemPlace.mem_row.1 hx
      have := World.block_lt_of_cell? w _ (hcell i hi)
      obtain ⟨b, off, rfl, _⟩ := ints_at hcell (by omega)
      exact World.block_lt_of_cell? w _ (hcell 0 (by omega))
    have hb : ∀ x ∈ zs, 0 ≤ x ∧ x < 256 := fun x hx => by
      have := bounds_u8 (hwz x hx)
      omega
    by_cases h0 : len = 0
    · subst h0
      exact ⟨[], cap, .void (some a) rfl, by simp, .inr ⟨_, _, _, rfl⟩, hps⟩
    · obtain ⟨b, off, rfl, hc⟩ := ints_at hcell (by omega)
      refine ⟨zs.take len, cap, ?_, fun x hx => hb x (List.mem_of_mem_take hx), .inr ⟨_, _, _, rfl⟩, hps⟩
      have hlen : (zs.take len).length = len := by simp; omega
      have hf : BSl w (zs.take len) cap (.slice (some ⟨b, off, none⟩) (zs.take len).length cap) := .full b off (World.block_lt_of_cell? w _ (hc 0 (by omega))) (by rw [hlen]; exact hl) (fun i hi => by
        rw [hlen] at hi
        rw [hc i (by omega)]
        simp [hi])
      rw [hlen] at hf
      exact hf
section
variable {H : Type} {enc : TypeId × Value → H} {w : World} {base : Nat} {sp : Nat → Bool} {held : Bool} {r : Reach} {b0 : Nat} {v : Value} {d : DataW H} {ps : List MemPlace}
theorem open_W (hval : Value.okWide Try.prog w r b0 23 v) (hd : DataW.Trod enc Try.prog w base sp held 23 v d ps) : ∃ a : Nat, a < 4294967296 ∧ v = .int .u32 (a : Int) ∧ ps = [] := by
  obtain ⟨n, rfl, rfl, rfl, hn⟩ := open_int Try.underlying23 hval hd
  have hb := bounds_u32 hn
  exact ⟨n.toNat, by omega, by rw [Int.toNat_of_nonneg hb.1], rfl⟩
end
theorem w_stays {H : Type} {enc : TypeId × Value → H} {W W' : World} {v : Value} {d : DataW H}
    (h : DataW.Trod enc Try.prog W 0 (fun _ => true) true 23 v d []) (hb : Below W.heap.size W W') :
    DataW.Trod enc Try.prog W' 0 (fun b => decide (b < W.heap.size)) true 23 v d [] :=
  Below.trod Try.laidOut (by kernel_rfl) (by decide +kernel) h hb (fun _ hx => by cases hx)
section
variable {H : Type} {enc : TypeId × Value → H} {P : Program} {w : World} {base : Nat} {spare : Nat → Bool} {held : Bool}
end
end Go.Proofs.Ytkkippfikfjdpaa
end
