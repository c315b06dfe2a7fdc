/- Texts of the proof, joined. -/
import Derived.Test.YtahghpkjkfaieaaGreatDoorP9
import Derived.ProofKit
import Derived.OpenShut
import Derived.Test.YtahghpkjkfaieaaGreatDoorRows
import Derived.LaidMore
import Derived.Stop.Joined
import Derived.Test.YtahghpkjkfaieaaGreatDoorTie
set_option maxRecDepth 100000
section
namespace Go.Proofs.YtahghpkjkfaieaaGreatDoor
open Go.RowKit
namespace Rg
namespace Wi
theorem call16 : CO 16 := by intro args w; go_simp
theorem call17 : CO 17 := by intro args w; go_simp
theorem call18 : CO 18 := by intro args w; go_simp
theorem call20 : CO 20 := by intro args w; go_simp
theorem call21 : CO 21 := by intro args w; go_simp
theorem call22 : CO 22 := by intro args w; go_simp
theorem call23 : CO 23 := by intro args w; go_simp
theorem call24 : CO 24 := by intro args w; go_simp
theorem call25 : CO 25 := by intro args w; go_simp
theorem call72 : CO 72 := by intro args w; go_simp
theorem call73 : CO 73 := by intro args w; go_simp
theorem call74 : CO 74 := by intro args w; go_simp
set_option maxRecDepth 100000
set_option maxHeartbeats 2000000 in
theorem sameI_0  (w : World) :
  Calls Tryz.prog 72 #[.slice none 0 0, .slice none 0 0] w (Rt w (.bool true)) := by
 have H0 : Hid (_ ∧ _) := ⟨Mm.nil w, Below.refl w.heap.size w⟩
 go_enter Tryz.func72, Tryz.ntmps72
 refine wp_seq ?_
 refine zN (l := [0]) rfl (fun u0 hu0 => ?_)
 have H1 : Hid (Mm u0 [] ∧ Below w.heap.size w u0) := by rw [hu0]; exact H0
 clear hu0 H0
 refine zA (d := 4) (v := .bool false) (w' := u0) rfl rfl rfl (rfl) ?_
 simp only [Act.put, sa, sz, ss]
 refine zC (zB ?_)
 refine wp_seq (wp_seq ?_)
 refine zD (l := [0, 1, 2, 3, 4]) rfl ?_
 refine zA (d := 6) (v := .slice none 0 0) (w' := u0) rfl rfl rfl (rfl) ?_
 simp only [Act.put, sa, sz, ss]
 refine zA (d := 7) (v := .int .i64 0) (w' := u0) rfl rfl rfl (by go_simp) ?_
 simp only [Act.put, sa, sz, ss]
 refine zA (d := 8) (v := .slice none 0 0) (w' := u0) rfl rfl rfl (rfl) ?_
 simp only [Act.put, sa, sz, ss]
 refine zA (d := 9) (v := .int .i64 0) (w' := u0) rfl rfl rfl (by go_simp) ?_
 simp only [Act.put, sa, sz, ss]
 refine zA (d := 10) (v := .bool false) (w' := u0) rfl rfl rfl (by kernel_rfl) ?_
 simp only [Act.put, sa, sz, ss]
 refine zC (zB ?_)
 refine wp_cond_false rfl (wp_skip ?_)
 refine zB (wp_seq (wp_seq ?_))
 refine zD (l := [0]) rfl ?_
 refine zA (d := 5) (v := .int .i64 0) (w' := u0) rfl rfl rfl (rfl) ?_
 simp only [Act.put, sa, sz, ss]
 refine zC (zB (wp_block ?_))
 refine wp_loop_rounds 1 ?_
 refine zU (n := 0) ?_
 refine wp_seq (wp_seq ?_)
 refine zD (l := [0, 1, 2, 3]) rfl ?_
 refine zA (d := 11) (v := .int .i64 0) (w' := u0) rfl rfl rfl (rfl) ?_
 simp only [Act.put, sa, sz, ss]
 refine zA (d := 12) (v := .slice none 0 0) (w' := u0) rfl rfl rfl (rfl) ?_
 simp only [Act.put, sa, sz, ss]
 refine zA (d := 13) (v := .int .i64 0) (w' := u0) rfl rfl rfl (by go_simp) ?_
 simp only [Act.put, sa, sz, ss]
 refine zA (d := 14) (v := .bool false) (w' := u0) rfl rfl rfl (by kernel_rfl) ?_
 simp only [Act.put, sa, sz, ss]
 refine zC (zB (wp_cond_false rfl ?_))
 refine wp_exit ?_
 repeat refine zX ?_
 refine zT ?_
 refine zB (wp_seq ?_)
 refine zD (l := [0]) rfl ?_
 refine zA (d := 4) (v := .bool true) (w' := u0) rfl rfl rfl (rfl) ?_
 simp only [Act.put, sa, sz, ss]
 refine zC (zB (wp_ret ?_))
 repeat (first | refine zL ?_ | refine zK ?_)
 refine bodyPost_ret (v := .bool true) (by simp [results, Tryz.results72, go_sem, *]) rfl ?_
 exact ⟨rfl, H1.out.2⟩
set_option maxHeartbeats 2000000 in
theorem sameN_0  (w : World) :
  Calls Tryz.prog 73 #[.slice none 0 0, .slice none 0 0] w (Rt w (.bool true)) := by
 have H0 : Hid (_ ∧ _) := ⟨Mm.nil w, Below.refl w.heap.size w⟩
 go_enter Tryz.func73, Tryz.ntmps73
 refine wp_seq ?_
 refine zN (l := [0]) rfl (fun u0 hu0 => ?_)
 have H1 : Hid (Mm u0 [] ∧ Below w.heap.size w u0) := by rw [hu0]; exact H0
 clear hu0 H0
 refine zA (d := 4) (v := .bool false) (w' := u0) rfl rfl rfl (rfl) ?_
 simp only [Act.put, sa, sz, ss]
 refine zC (zB ?_)
 refine wp_seq (wp_seq ?_)
 refine zD (l := [0, 1, 2, 3, 4]) rfl ?_
 refine zA (d := 6) (v := .slice none 0 0) (w' := u0) rfl rfl rfl (rfl) ?_
 simp only [Act.put, sa, sz, ss]
 refine zA (d := 7) (v := .int .i64 0) (w' := u0) rfl rfl rfl (by go_simp) ?_
 simp only [Act.put, sa, sz, ss]
 refine zA (d := 8) (v := .slice none 0 0) (w' := u0) rfl rfl rfl (rfl) ?_
 simp only [Act.put, sa, sz, ss]
 refine zA (d := 9) (v := .int .i64 0) (w' := u0) rfl rfl rfl (by go_simp) ?_
 simp only [Act.put, sa, sz, ss]
 refine zA (d := 10) (v := .bool false) (w' := u0) rfl rfl rfl (by kernel_rfl) ?_
 simp only [Act.put, sa, sz, ss]
 refine zC (zB ?_)
 refine wp_cond_false rfl (wp_skip ?_)
 refine zB (wp_seq (wp_seq ?_))
 refine zD (l := [0]) rfl ?_
 refine zA (d := 5) (v := .int .i64 0) (w' := u0) rfl rfl rfl (rfl) ?_
 simp only [Act.put, sa, sz, ss]
 refine zC (zB (wp_block ?_))
 refine wp_loop_rounds 1 ?_
 refine zU (n := 0) ?_
 refine wp_seq (wp_seq ?_)
 refine zD (l := [0, 1, 2, 3]) rfl ?_
 refine zA (d := 11) (v := .int .i64 0) (w' := u0) rfl rfl rfl (rfl) ?_
 simp only [Act.put, sa, sz, ss]
 refine zA (d := 12) (v := .slice none 0 0) (w' := u0) rfl rfl rfl (rfl) ?_
 simp only [Act.put, sa, sz, ss]
 refine zA (d := 13) (v := .int .i64 0) (w' := u0) rfl rfl rfl (by go_simp) ?_
 simp only [Act.put, sa, sz, ss]
 refine zA (d := 14) (v := .bool false) (w' := u0) rfl rfl rfl (by kernel_rfl) ?_
 simp only [Act.put, sa, sz, ss]
 refine zC (zB (wp_cond_false rfl ?_))
 refine wp_exit ?_
 repeat refine zX ?_
 refine zT ?_
 refine zB (wp_seq ?_)
 refine zD (l := [0]) rfl ?_
 refine zA (d := 4) (v := .bool true) (w' := u0) rfl rfl rfl (rfl) ?_
 simp only [Act.put, sa, sz, ss]
 refine zC (zB (wp_ret ?_))
 repeat (first | refine zL ?_ | refine zK ?_)
 refine bodyPost_ret (v := .bool true) (by simp [results, Tryz.results73, go_sem, *]) rfl ?_
 exact ⟨rfl, H1.out.2⟩
set_option maxHeartbeats 2000000 in
theorem sameK_0  (w : World) :
  Calls Tryz.prog 74 #[.slice none 0 0, .slice none 0 0] w (Rt w (.bool true)) := by
 have H0 : Hid (_ ∧ _) := ⟨Mm.nil w, Below.refl w.heap.size w⟩
 go_enter Tryz.func74, Tryz.ntmps74
 refine wp_seq ?_
 refine zN (l := [0]) rfl (fun u0 hu0 => ?_)
 have H1 : Hid (Mm u0 [] ∧ Below w.heap.size w u0) := by rw [hu0]; exact H0
 clear hu0 H0
 refine zA (d := 4) (v := .bool false) (w' := u0) rfl rfl rfl (rfl) ?_
 simp only [Act.put, sa, sz, ss]
 refine zC (zB ?_)
 refine wp_seq (wp_seq ?_)
 refine zD (l := [0, 1, 2, 3, 4]) rfl ?_
 refine zA (d := 6) (v := .slice none 0 0) (w' := u0) rfl rfl rfl (rfl) ?_
 simp only [Act.put, sa, sz, ss]
 refine zA (d := 7) (v := .int .i64 0) (w' := u0) rfl rfl rfl (by go_simp) ?_
 simp only [Act.put, sa, sz, ss]
 refine zA (d := 8) (v := .slice none 0 0) (w' := u0) rfl rfl rfl (rfl) ?_
 simp only [Act.put, sa, sz, ss]
 refine zA (d := 9) (v := .int .i64 0) (w' := u0) rfl rfl rfl (by go_simp) ?_
 simp only [Act.put, sa, sz, ss]
 refine zA (d := 10) (v := .bool false) (w' := u0) rfl rfl rfl (by kernel_rfl) ?_
 simp only [Act.put, sa, sz, ss]
 refine zC (zB ?_)
 refine wp_cond_false rfl (wp_skip ?_)
 refine zB (wp_seq (wp_seq ?_))
 refine zD (l := [0]) rfl ?_
 refine zA (d := 5) (v := .int .i64 0) (w' := u0) rfl rfl rfl (rfl) ?_
 simp only [Act.put, sa, sz, ss]
 refine zC (zB (wp_block ?_))
 refine wp_loop_rounds 1 ?_
 refine zU (n := 0) ?_
 refine wp_seq (wp_seq ?_)
 refine zD (l := [0, 1, 2, 3]) rfl ?_
 refine zA (d := 11) (v := .int .i64 0) (w' := u0) rfl rfl rfl (rfl) ?_
 simp only [Act.put, sa, sz, ss]
 refine zA (d := 12) (v := .slice none 0 0) (w' := u0) rfl rfl rfl (rfl) ?_
 simp only [Act.put, sa, sz, ss]
 refine zA (d := 13) (v := .int .i64 0) (w' := u0) rfl rfl rfl (by go_simp) ?_
 simp only [Act.put, sa, sz, ss]
 refine zA (d := 14) (v := .bool false) (w' := u0) rfl rfl rfl (by kernel_rfl) ?_
 simp only [Act.put, sa, sz, ss]
 refine zC (zB (wp_cond_false rfl ?_))
 refine wp_exit ?_
 repeat refine zX ?_
 refine zT ?_
 refine zB (wp_seq ?_)
 refine zD (l := [0]) rfl ?_
 refine zA (d := 4) (v := .bool true) (w' := u0) rfl rfl rfl (rfl) ?_
 simp only [Act.put, sa, sz, ss]
 refine zC (zB (wp_ret ?_))
 repeat (first | refine zL ?_ | refine zK ?_)
 refine bodyPost_ret (v := .bool true) (by simp [results, Tryz.results74, go_sem, *]) rfl ?_
 exact ⟨rfl, H1.out.2⟩
set_option maxHeartbeats 8000000 in
theorem SameEntry_1  (w : World) :
  Calls Tryz.prog 23 #[.agg (e1c).toArray, .agg (e1c).toArray] w (Rt w (.bool true)) := by
 have H0 : Hid (_ ∧ _) := ⟨Mm.nil w, Below.refl w.heap.size w⟩
 go_enter Tryz.func23, Tryz.ntmps23
 refine wp_seq ?_
 refine zN (l := [0, 1, 2]) rfl (fun u0 hu0 => ?_)
 have H1 : Hid (Mm u0 [] ∧ Below w.heap.size w u0) := by rw [hu0]; exact H0
 clear hu0 H0
 refine zA (d := 2) (v := PT u0.heap.size 0) (w' := (u0.alloc (.cells (e1c : List Value).toArray 64))) rfl rfl rfl (ex_boxT rfl rfl) ?_
 simp only [Act.put, sa, sz, ss]
 have o_Js2 : Hid (w.heap.size ≤ u0.heap.size) := H1.out.2.size
 have H2 : Hid (Mm (u0.alloc (.cells (e1c : List Value).toArray 64)) ((u0.heap.size, e1c) :: []) ∧ Below w.heap.size w (u0.alloc (.cells (e1c : List Value).toArray 64))) := ⟨H1.out.1.alloc _ 64 rfl, H1.out.2.trans (((Below.refl _ _).alloc (Nat.le_refl _) _).mono H1.out.2.size)⟩
 clear H1
 generalize hgw : u0.alloc (.cells (e1c : List Value).toArray 64) = w2 at H2 ⊢
 clear hgw
 generalize u0.heap.size = Js2 at o_Js2 H2 ⊢
 refine zA (d := 3) (v := PT w2.heap.size 0) (w' := (w2.alloc (.cells (e1c : List Value).toArray 64))) rfl rfl rfl (ex_boxT rfl rfl) ?_
 simp only [Act.put, sa, sz, ss]
 have o_Js3 : Hid (w.heap.size ≤ w2.heap.size) := H2.out.2.size
 have H3 : Hid (Mm (w2.alloc (.cells (e1c : List Value).toArray 64)) ((w2.heap.size, e1c) :: [(Js2, e1c)]) ∧ Below w.heap.size w (w2.alloc (.cells (e1c : List Value).toArray 64))) := ⟨H2.out.1.alloc _ 64 rfl, H2.out.2.trans (((Below.refl _ _).alloc (Nat.le_refl _) _).mono H2.out.2.size)⟩
 clear H2
 generalize hgw : w2.alloc (.cells (e1c : List Value).toArray 64) = w3 at H3 ⊢
 clear hgw
 generalize w2.heap.size = Js3 at o_Js3 H3 ⊢
 refine zA (d := 4) (v := .bool false) (w' := w3) rfl rfl rfl (rfl) ?_
 simp only [Act.put, sa, sz, ss]
 refine zC (zB ?_)
 refine wp_seq (wp_seq ?_)
 refine zD (l := [0, 1, 2, 3, 4, 5, 6, 7, 8, 9, 10, 11, 12, 13, 14, 15, 16, 17, 18, 19, 20, 21, 22, 23, 24, 25, 26, 27, 28, 29, 30, 31, 32, 33, 34, 35, 36, 37, 38, 39, 40, 41, 42, 43, 44, 45, 46, 47, 48, 49, 50, 51, 52, 53, 54, 55, 56, 57, 58, 59, 60, 61, 62, 63, 64, 65, 66, 67, 68, 69, 70, 71, 72, 73, 74, 75, 76, 77, 78, 79, 80]) rfl ?_
 refine zA (d := 6) (v := PT Js2 0) (w' := w3) rfl rfl rfl (by go_simp) ?_
 simp only [Act.put, sa, sz, ss]
 refine zA (d := 7) (v := .int .i64 3) (w' := w3) rfl rfl rfl (zJ H3.out.1 1 rfl rfl rfl Ai3 rfl) ?_
 simp only [Act.put, sa, sz, ss]
 refine zA (d := 8) (v := PT Js3 0) (w' := w3) rfl rfl rfl (by go_simp) ?_
 simp only [Act.put, sa, sz, ss]
 refine zA (d := 9) (v := .int .i64 3) (w' := w3) rfl rfl rfl (zJ H3.out.1 0 rfl rfl rfl Ai3 rfl) ?_
 simp only [Act.put, sa, sz, ss]
 refine zA (d := 10) (v := .bool false) (w' := w3) rfl rfl rfl (by kernel_rfl) ?_
 simp only [Act.put, sa, sz, ss]
 refine zA (d := 11) (v := .bool false) (w' := w3) rfl rfl rfl (rfl) ?_
 simp only [Act.put, sa, sz, ss]
 refine zA (d := 12) (v := PT Js2 1) (w' := w3) rfl rfl rfl (by go_simp) ?_
 simp only [Act.put, sa, sz, ss]
 refine zA (d := 13) (v := .int .i64 1) (w' := w3) rfl rfl rfl (zJ H3.out.1 1 rfl rfl rfl Ai3 rfl) ?_
 simp only [Act.put, sa, sz, ss]
 refine zA (d := 14) (v := PT Js3 1) (w' := w3) rfl rfl rfl (by go_simp) ?_
 simp only [Act.put, sa, sz, ss]
 refine zA (d := 15) (v := .int .i64 1) (w' := w3) rfl rfl rfl (zJ H3.out.1 0 rfl rfl rfl Ai3 rfl) ?_
 simp only [Act.put, sa, sz, ss]
 refine zA (d := 16) (v := .bool false) (w' := w3) rfl rfl rfl (by kernel_rfl) ?_
 simp only [Act.put, sa, sz, ss]
 refine zA (d := 17) (v := .bool false) (w' := w3) rfl rfl rfl (by go_simp) ?_
 simp only [Act.put, sa, sz, ss]
 refine zA (d := 18) (v := .bool false) (w' := w3) rfl rfl rfl (rfl) ?_
 simp only [Act.put, sa, sz, ss]
 refine zA (d := 19) (v := PT Js2 2) (w' := w3) rfl rfl rfl (by go_simp) ?_
 simp only [Act.put, sa, sz, ss]
 refine zA (d := 20) (v := .string ⟨#[97]⟩) (w' := w3) rfl rfl rfl (zJ H3.out.1 1 rfl rfl rfl Ai9 rfl) ?_
 simp only [Act.put, sa, sz, ss]
 refine zA (d := 21) (v := PT Js3 2) (w' := w3) rfl rfl rfl (by go_simp) ?_
 simp only [Act.put, sa, sz, ss]
 refine zA (d := 22) (v := .string ⟨#[97]⟩) (w' := w3) rfl rfl rfl (zJ H3.out.1 0 rfl rfl rfl Ai9 rfl) ?_
 simp only [Act.put, sa, sz, ss]
 refine zA (d := 23) (v := .bool false) (w' := w3) rfl rfl rfl (by kernel_rfl) ?_
 simp only [Act.put, sa, sz, ss]
 refine zA (d := 24) (v := .bool false) (w' := w3) rfl rfl rfl (by go_simp) ?_
 simp only [Act.put, sa, sz, ss]
 refine zA (d := 25) (v := .bool false) (w' := w3) rfl rfl rfl (rfl) ?_
 simp only [Act.put, sa, sz, ss]
 refine zA (d := 26) (v := PT Js2 3) (w' := w3) rfl rfl rfl (by go_simp) ?_
 simp only [Act.put, sa, sz, ss]
 refine zA (d := 27) (v := .string ⟨#[]⟩) (w' := w3) rfl rfl rfl (zJ H3.out.1 1 rfl rfl rfl Ai9 rfl) ?_
 simp only [Act.put, sa, sz, ss]
 refine zA (d := 28) (v := PT Js3 3) (w' := w3) rfl rfl rfl (by go_simp) ?_
 simp only [Act.put, sa, sz, ss]
 refine zA (d := 29) (v := .string ⟨#[]⟩) (w' := w3) rfl rfl rfl (zJ H3.out.1 0 rfl rfl rfl Ai9 rfl) ?_
 simp only [Act.put, sa, sz, ss]
 refine zA (d := 30) (v := .bool false) (w' := w3) rfl rfl rfl (by kernel_rfl) ?_
 simp only [Act.put, sa, sz, ss]
 refine zA (d := 31) (v := .bool false) (w' := w3) rfl rfl rfl (by go_simp) ?_
 simp only [Act.put, sa, sz, ss]
 refine zA (d := 32) (v := .bool false) (w' := w3) rfl rfl rfl (rfl) ?_
 simp only [Act.put, sa, sz, ss]
 refine zA (d := 33) (v := PT Js2 4) (w' := w3) rfl rfl rfl (by go_simp) ?_
 simp only [Act.put, sa, sz, ss]
 refine zA (d := 34) (v := .string ⟨#[]⟩) (w' := w3) rfl rfl rfl (zJ H3.out.1 1 rfl rfl rfl Ai9 rfl) ?_
 simp only [Act.put, sa, sz, ss]
 refine zA (d := 35) (v := PT Js3 4) (w' := w3) rfl rfl rfl (by go_simp) ?_
 simp only [Act.put, sa, sz, ss]
 refine zA (d := 36) (v := .string ⟨#[]⟩) (w' := w3) rfl rfl rfl (zJ H3.out.1 0 rfl rfl rfl Ai9 rfl) ?_
 simp only [Act.put, sa, sz, ss]
 refine zA (d := 37) (v := .bool false) (w' := w3) rfl rfl rfl (by kernel_rfl) ?_
 simp only [Act.put, sa, sz, ss]
 refine zA (d := 38) (v := .bool false) (w' := w3) rfl rfl rfl (by go_simp) ?_
 simp only [Act.put, sa, sz, ss]
 refine zA (d := 39) (v := .bool false) (w' := w3) rfl rfl rfl (rfl) ?_
 simp only [Act.put, sa, sz, ss]
 refine zA (d := 40) (v := PT Js2 5) (w' := w3) rfl rfl rfl (by go_simp) ?_
 simp only [Act.put, sa, sz, ss]
 refine zA (d := 41) (v := .slice none 0 0) (w' := w3) rfl rfl rfl (zJ H3.out.1 1 rfl rfl rfl Ai51 rfl) ?_
 simp only [Act.put, sa, sz, ss]
 refine zA (d := 42) (v := PT Js3 5) (w' := w3) rfl rfl rfl (by go_simp) ?_
 simp only [Act.put, sa, sz, ss]
 refine zA (d := 43) (v := .slice none 0 0) (w' := w3) rfl rfl rfl (zJ H3.out.1 0 rfl rfl rfl Ai51 rfl) ?_
 simp only [Act.put, sa, sz, ss]
 refine zF (d := 44) (R := fun vv w' => vv = .bool true ∧ Below w3.heap.size w3 w') rfl rfl rfl (zG (args := #[.slice none 0 0, .slice none 0 0]) rfl call24 rfl (mpn rfl)) (Calls.mono (same_bb (.void none rfl : BSl w3 [] 0 (.slice none 0 0)) (.void none rfl : BSl w3 [] 0 (.slice none 0 0))) (fun e w2 hh => ⟨_, hh.1, rfl, hh.2⟩)) ?_
 rintro _ w4 ⟨rfl, hb⟩
 have H4 : Hid (Mm w4 [(Js3, e1c), (Js2, e1c)] ∧ Below w.heap.size w w4) := ⟨H3.out.1.below hb, H3.out.2.trans (hb.mono H3.out.2.size)⟩
 clear hb
 clear H3
 simp only [Act.put, sa, sz, ss]
 refine zA (d := 45) (v := .bool false) (w' := w4) rfl rfl rfl (by go_simp) ?_
 simp only [Act.put, sa, sz, ss]
 refine zA (d := 46) (v := .bool false) (w' := w4) rfl rfl rfl (by go_simp) ?_
 simp only [Act.put, sa, sz, ss]
 refine zA (d := 47) (v := .bool false) (w' := w4) rfl rfl rfl (rfl) ?_
 simp only [Act.put, sa, sz, ss]
 refine zA (d := 48) (v := PT Js2 6) (w' := w4) rfl rfl rfl (by go_simp) ?_
 simp only [Act.put, sa, sz, ss]
 refine zA (d := 49) (v := .slice none 0 0) (w' := w4) rfl rfl rfl (zJ H4.out.1 1 rfl rfl rfl Ai59 rfl) ?_
 simp only [Act.put, sa, sz, ss]
 refine zA (d := 50) (v := PT Js3 6) (w' := w4) rfl rfl rfl (by go_simp) ?_
 simp only [Act.put, sa, sz, ss]
 refine zA (d := 51) (v := .slice none 0 0) (w' := w4) rfl rfl rfl (zJ H4.out.1 0 rfl rfl rfl Ai59 rfl) ?_
 simp only [Act.put, sa, sz, ss]
 refine zF (d := 52) (R := fun vv w' => vv = .bool true ∧ Below w4.heap.size w4 w') rfl rfl rfl (zG (args := #[.slice none 0 0, .slice none 0 0]) rfl call72 rfl (mpn rfl)) (Calls.mono (sameI_0 w4) (fun e w2 hh => ⟨_, hh.1, rfl, hh.2⟩)) ?_
 rintro _ w5 ⟨rfl, hb⟩
 have H5 : Hid (Mm w5 [(Js3, e1c), (Js2, e1c)] ∧ Below w.heap.size w w5) := ⟨H4.out.1.below hb, H4.out.2.trans (hb.mono H4.out.2.size)⟩
 clear hb
 clear H4
 simp only [Act.put, sa, sz, ss]
 refine zA (d := 53) (v := .bool false) (w' := w5) rfl rfl rfl (by go_simp) ?_
 simp only [Act.put, sa, sz, ss]
 refine zA (d := 54) (v := .bool false) (w' := w5) rfl rfl rfl (by go_simp) ?_
 simp only [Act.put, sa, sz, ss]
 refine zA (d := 55) (v := .bool false) (w' := w5) rfl rfl rfl (rfl) ?_
 simp only [Act.put, sa, sz, ss]
 refine zA (d := 56) (v := PT Js2 7) (w' := w5) rfl rfl rfl (by go_simp) ?_
 simp only [Act.put, sa, sz, ss]
 refine zA (d := 57) (v := .int .i64 0) (w' := w5) rfl rfl rfl (zJ H5.out.1 1 rfl rfl rfl Ai28 rfl) ?_
 simp only [Act.put, sa, sz, ss]
 refine zA (d := 58) (v := PT Js3 7) (w' := w5) rfl rfl rfl (by go_simp) ?_
 simp only [Act.put, sa, sz, ss]
 refine zA (d := 59) (v := .int .i64 0) (w' := w5) rfl rfl rfl (zJ H5.out.1 0 rfl rfl rfl Ai28 rfl) ?_
 simp only [Act.put, sa, sz, ss]
 refine zA (d := 60) (v := .bool false) (w' := w5) rfl rfl rfl (by kernel_rfl) ?_
 simp only [Act.put, sa, sz, ss]
 refine zA (d := 61) (v := .bool false) (w' := w5) rfl rfl rfl (by go_simp) ?_
 simp only [Act.put, sa, sz, ss]
 refine zA (d := 62) (v := .bool false) (w' := w5) rfl rfl rfl (rfl) ?_
 simp only [Act.put, sa, sz, ss]
 refine zA (d := 63) (v := PT Js2 8) (w' := w5) rfl rfl rfl (by go_simp) ?_
 simp only [Act.put, sa, sz, ss]
 refine zA (d := 64) (v := .slice none 0 0) (w' := w5) rfl rfl rfl (zJ H5.out.1 1 rfl rfl rfl Ai60 rfl) ?_
 simp only [Act.put, sa, sz, ss]
 refine zA (d := 65) (v := PT Js3 8) (w' := w5) rfl rfl rfl (by go_simp) ?_
 simp only [Act.put, sa, sz, ss]
 refine zA (d := 66) (v := .slice none 0 0) (w' := w5) rfl rfl rfl (zJ H5.out.1 0 rfl rfl rfl Ai60 rfl) ?_
 simp only [Act.put, sa, sz, ss]
 refine zF (d := 67) (R := fun vv w' => vv = .bool true ∧ Below w5.heap.size w5 w') rfl rfl rfl (zG (args := #[.slice none 0 0, .slice none 0 0]) rfl call73 rfl (mpn rfl)) (Calls.mono (sameN_0 w5) (fun e w2 hh => ⟨_, hh.1, rfl, hh.2⟩)) ?_
 rintro _ w6 ⟨rfl, hb⟩
 have H6 : Hid (Mm w6 [(Js3, e1c), (Js2, e1c)] ∧ Below w.heap.size w w6) := ⟨H5.out.1.below hb, H5.out.2.trans (hb.mono H5.out.2.size)⟩
 clear hb
 clear H5
 simp only [Act.put, sa, sz, ss]
 refine zA (d := 68) (v := .bool false) (w' := w6) rfl rfl rfl (by go_simp) ?_
 simp only [Act.put, sa, sz, ss]
 refine zA (d := 69) (v := .bool false) (w' := w6) rfl rfl rfl (by go_simp) ?_
 simp only [Act.put, sa, sz, ss]
 refine zA (d := 70) (v := .bool false) (w' := w6) rfl rfl rfl (rfl) ?_
 simp only [Act.put, sa, sz, ss]
 refine zA (d := 71) (v := PT Js2 9) (w' := w6) rfl rfl rfl (by go_simp) ?_
 simp only [Act.put, sa, sz, ss]
 refine zA (d := 72) (v := .slice none 0 0) (w' := w6) rfl rfl rfl (zJ H6.out.1 1 rfl rfl rfl Ai61 rfl) ?_
 simp only [Act.put, sa, sz, ss]
 refine zA (d := 73) (v := PT Js3 9) (w' := w6) rfl rfl rfl (by go_simp) ?_
 simp only [Act.put, sa, sz, ss]
 refine zA (d := 74) (v := .slice none 0 0) (w' := w6) rfl rfl rfl (zJ H6.out.1 0 rfl rfl rfl Ai61 rfl) ?_
 simp only [Act.put, sa, sz, ss]
 refine zF (d := 75) (R := fun vv w' => vv = .bool true ∧ Below w6.heap.size w6 w') rfl rfl rfl (zG (args := #[.slice none 0 0, .slice none 0 0]) rfl call74 rfl (mpn rfl)) (Calls.mono (sameK_0 w6) (fun e w2 hh => ⟨_, hh.1, rfl, hh.2⟩)) ?_
 rintro _ w7 ⟨rfl, hb⟩
 have H7 : Hid (Mm w7 [(Js3, e1c), (Js2, e1c)] ∧ Below w.heap.size w w7) := ⟨H6.out.1.below hb, H6.out.2.trans (hb.mono H6.out.2.size)⟩
 clear hb
 clear H6
 simp only [Act.put, sa, sz, ss]
 refine zA (d := 76) (v := .bool false) (w' := w7) rfl rfl rfl (by go_simp) ?_
 simp only [Act.put, sa, sz, ss]
 refine zA (d := 77) (v := .bool false) (w' := w7) rfl rfl rfl (by go_simp) ?_
 simp only [Act.put, sa, sz, ss]
 refine zA (d := 78) (v := .bool false) (w' := w7) rfl rfl rfl (rfl) ?_
 simp only [Act.put, sa, sz, ss]
 refine zA (d := 79) (v := PT Js2 10) (w' := w7) rfl rfl rfl (by go_simp) ?_
 simp only [Act.put, sa, sz, ss]
 refine zA (d := 80) (v := .slice none 0 0) (w' := w7) rfl rfl rfl (zJ H7.out.1 1 rfl rfl rfl Ai62 rfl) ?_
 simp only [Act.put, sa, sz, ss]
 refine zA (d := 81) (v := .int .i64 0) (w' := w7) rfl rfl rfl (by go_simp) ?_
 simp only [Act.put, sa, sz, ss]
 refine zA (d := 82) (v := PT Js3 10) (w' := w7) rfl rfl rfl (by go_simp) ?_
 simp only [Act.put, sa, sz, ss]
 refine zA (d := 83) (v := .slice none 0 0) (w' := w7) rfl rfl rfl (zJ H7.out.1 0 rfl rfl rfl Ai62 rfl) ?_
 simp only [Act.put, sa, sz, ss]
 refine zA (d := 84) (v := .int .i64 0) (w' := w7) rfl rfl rfl (by go_simp) ?_
 simp only [Act.put, sa, sz, ss]
 refine zA (d := 85) (v := .bool false) (w' := w7) rfl rfl rfl (by kernel_rfl) ?_
 simp only [Act.put, sa, sz, ss]
 refine zA (d := 86) (v := .bool false) (w' := w7) rfl rfl rfl (by go_simp) ?_
 simp only [Act.put, sa, sz, ss]
 refine zC (zB ?_)
 refine wp_cond_false rfl (wp_skip ?_)
 refine zB (wp_seq (wp_seq ?_))
 refine zD (l := [0]) rfl ?_
 refine zA (d := 5) (v := .int .i64 0) (w' := w7) rfl rfl rfl (rfl) ?_
 simp only [Act.put, sa, sz, ss]
 refine zC (zB (wp_block ?_))
 refine wp_loop_rounds 1 ?_
 refine zU (n := 0) ?_
 refine wp_seq (wp_seq ?_)
 refine zD (l := [0, 1, 2, 3, 4]) rfl ?_
 refine zA (d := 87) (v := .int .i64 0) (w' := w7) rfl rfl rfl (rfl) ?_
 simp only [Act.put, sa, sz, ss]
 refine zA (d := 88) (v := PT Js2 10) (w' := w7) rfl rfl rfl (by go_simp) ?_
 simp only [Act.put, sa, sz, ss]
 refine zA (d := 89) (v := .slice none 0 0) (w' := w7) rfl rfl rfl (zJ H7.out.1 1 rfl rfl rfl Ai62 rfl) ?_
 simp only [Act.put, sa, sz, ss]
 refine zA (d := 90) (v := .int .i64 0) (w' := w7) rfl rfl rfl (by go_simp) ?_
 simp only [Act.put, sa, sz, ss]
 refine zA (d := 91) (v := .bool false) (w' := w7) rfl rfl rfl (by kernel_rfl) ?_
 simp only [Act.put, sa, sz, ss]
 refine zC (zB (wp_cond_false rfl ?_))
 refine wp_exit ?_
 repeat refine zX ?_
 refine zT ?_
 refine zB (wp_seq ?_)
 refine zD (l := [0]) rfl ?_
 refine zA (d := 4) (v := .bool true) (w' := w7) rfl rfl rfl (rfl) ?_
 simp only [Act.put, sa, sz, ss]
 refine zC (zB (wp_ret ?_))
 repeat (first | refine zL ?_ | refine zK ?_)
 refine bodyPost_ret (v := .bool true) (by simp [results, Tryz.results23, go_sem, *]) rfl ?_
 exact ⟨rfl, H7.out.2⟩
theorem ex_lit_8_0 {ρ : Operand → Value} {o : Oper} {w : World} (ho : o.op = .buildSlice 51 8 #[(0, .const (.int .u8 0)), (1, .const (.int .u8 0)), (2, .const (.int .u8 0)), (3, .const (.int .u8 0)), (4, .const (.int .u8 0)), (5, .const (.int .u8 0)), (6, .const (.int .u8 1)), (7, .const (.int .u8 2))]) (hc : ∀ v, ρ (.const v) = v) : (execOp ρ o).run Tryz.prog w = .ok (.value (.slice (some ⟨w.heap.size, 0, none⟩) 8 8)) (w.alloc (.cells (zH .u8 (lb [0, 0, 0, 0, 0, 0, 1, 2]) 8).toArray 5)) := by
 simp only [execOp, ho, List.map_toArray, List.map_cons, List.map_nil, hc]
 kernel_rfl
theorem ex_lit_13_0 {ρ : Operand → Value} {o : Oper} {w : World} (ho : o.op = .buildSlice 51 13 #[(0, .const (.int .u8 0)), (1, .const (.int .u8 0)), (2, .const (.int .u8 0)), (3, .const (.int .u8 2)), (4, .const (.int .u8 0)), (5, .const (.int .u8 0)), (6, .const (.int .u8 0)), (7, .const (.int .u8 1)), (8, .const (.int .u8 7)), (9, .const (.int .u8 0)), (10, .const (.int .u8 0)), (11, .const (.int .u8 0)), (12, .const (.int .u8 0))]) (hc : ∀ v, ρ (.const v) = v) : (execOp ρ o).run Tryz.prog w = .ok (.value (.slice (some ⟨w.heap.size, 0, none⟩) 13 13)) (w.alloc (.cells (zH .u8 (lb [0, 0, 0, 2, 0, 0, 0, 1, 7, 0, 0, 0, 0]) 13).toArray 5)) := by
 simp only [execOp, ho, List.map_toArray, List.map_cons, List.map_nil, hc]
 kernel_rfl
theorem ex_lit_13_3 {ρ : Operand → Value} {o : Oper} {w : World} (ho : o.op = .buildSlice 51 13 #[(0, .const (.int .u8 3)), (1, .const (.int .u8 1)), (2, .const (.int .u8 1)), (3, .const (.int .u8 97)), (4, .const (.int .u8 0)), (5, .const (.int .u8 0)), (6, .const (.int .u8 0)), (7, .const (.int .u8 0)), (8, .const (.int .u8 0)), (9, .const (.int .u8 0)), (10, .const (.int .u8 0)), (11, .const (.int .u8 0)), (12, .const (.int .u8 0))]) (hc : ∀ v, ρ (.const v) = v) : (execOp ρ o).run Tryz.prog w = .ok (.value (.slice (some ⟨w.heap.size, 0, none⟩) 13 13)) (w.alloc (.cells (zH .u8 (lb [3, 1, 1, 97, 0, 0, 0, 0, 0, 0, 0, 0, 0]) 13).toArray 5)) := by
 simp only [execOp, ho, List.map_toArray, List.map_cons, List.map_nil, hc]
 kernel_rfl
theorem ex_lit_1_0 {ρ : Operand → Value} {o : Oper} {w : World} (ho : o.op = .buildSlice 51 1 #[(0, .const (.int .u8 0))]) (hc : ∀ v, ρ (.const v) = v) : (execOp ρ o).run Tryz.prog w = .ok (.value (.slice (some ⟨w.heap.size, 0, none⟩) 1 1)) (w.alloc (.cells (zH .u8 (lb [0]) 1).toArray 5)) := by
 simp only [execOp, ho, List.map_toArray, List.map_cons, List.map_nil, hc]
 kernel_rfl
theorem own_mono {w1 : World} {B B' n : Nat} {vv : Value} {xs : List Value} (h : w1.ownsRow B 5 1 vv n xs) (hB : B' ≤ B) : w1.ownsRow B' 5 1 vv n xs := by
 refine ⟨h.1, ?_⟩
 rcases h.2 with h1 | ⟨g, cap, cur, h1, h2, h3⟩
 ·exact .inl h1
 ·exact .inr ⟨g, cap, cur, h1, Nat.le_trans hB h2, h3⟩
theorem Ow.out {w0 w w1 : World} {l : List (Nat × List Value)} {vv : Value} {n : Nat} {P : Nat → Nat} (hb : Below w0.heap.size w0 w) (hm : Mm w l) (h : Ow w [] vv n P w1) : Ow w0 (l.map Prod.fst) vv n P w1 :=
 ⟨hb.trans (h.b.mono hb.size), own_mono h.own hb.size, fun g hg e => by
  obtain ⟨p, hp, rfl⟩ := List.mem_map.1 hg
  have h1 := (hm.blk p hp).1
  have h2 := (World.ownsRow.lt h.own _ e.symm).1
  omega⟩
section
variable {ρ : Operand → Value} {o : Oper} {x y : Operand} {w : World}
theorem ex_mk7 (ho : o.op = .makeSlice 51 x y) (hx : ρ x = .int .i64 7) (hy : ρ y = .int .i64 7) : (execOp ρ o).run Tryz.prog w = .ok (.value (.slice (some ⟨w.heap.size, 0, none⟩) 7 7)) (w.alloc (.cells (zH .u8 (fun _ => 0) 7).toArray 5)) := by
 simp only [execOp, ho, hx, hy]
 kernel_rfl
theorem ex_bs57_2 {p q : Option Addr} {n c m d : Nat} (ho : o.op = .buildSlice 57 2 #[(0, x), (1, y)]) (hx : ρ x = .slice p n c) (hy : ρ y = .slice q m d) : (execOp ρ o).run Tryz.prog w = .ok (.value (.slice (some ⟨w.heap.size, 0, none⟩) 2 2)) (w.alloc (.cells ([.slice p n c, .slice q m d] : List Value).toArray 51)) := by
 simp only [execOp, ho, List.map_toArray, List.map_cons, List.map_nil, hx, hy]
 kernel_rfl
theorem ex_bz (ho : o.op = .buildSlice 51 0 #[]) : (execOp ρ o).run Tryz.prog w = .ok (.value (.slice (some ⟨w.heap.size, 0, none⟩) 0 0)) (w.alloc (.cells #[] 5)) := by
 simp only [execOp, ho, List.map_toArray, List.map_nil]
 kernel_rfl
theorem ex_num (ho : o.op = .build 24 #[(0, .const (.int .u64 65521))]) (hc : ∀ v, ρ (.const v) = v) : (execOp ρ o).run Tryz.prog w = .ok (.value (N 65521)) w := by
 simp only [execOp, ho, List.map_toArray, List.map_cons, List.map_nil, hc]
 kernel_rfl
theorem ex_bsNum {a : Nat} (ho : o.op = .buildSlice 60 1 #[(0, x)]) (hx : ρ x = N a) : (execOp ρ o).run Tryz.prog w = .ok (.value (.slice (some ⟨w.heap.size, 0, none⟩) 1 1)) (w.alloc (.cells (zE a : List Value).toArray 24)) := by
 simp only [execOp, ho, List.map_toArray, List.map_cons, List.map_nil, hx]
 kernel_rfl
theorem ex_bsKey (ho : o.op = .buildSlice 61 1 #[(0, x)]) (hx : ρ x = .agg (zkc : List Value).toArray) : (execOp ρ o).run Tryz.prog w = .ok (.value (.slice (some ⟨w.heap.size, 0, none⟩) 1 1)) (w.alloc (.cells (zkc : List Value).toArray 37)) := by
 simp only [execOp, ho, List.map_toArray, List.map_cons, List.map_nil, hx]
 kernel_rfl
end
set_option maxHeartbeats 2000000 in
theorem Copy_13 (gb x : Nat) (w : World) (hm : Mm w [(gb, zH .u8 (lb [3, 1, 1, 97, 0, 0, 0, 0, 0, 0, 0, 0, 0]) 13)]) :
  Calls Tryz.prog 22 #[.slice (some ⟨gb, 0, none⟩) 13 (13 + x)] w fun e w' => ∃ v, e = .returned v ∧ Ow w [] v 13 (lb [3, 1, 1, 97, 0, 0, 0, 0, 0, 0, 0, 0, 0]) w' := by
 have H0 : Hid (_ ∧ _) := ⟨hm, Below.refl w.heap.size w⟩
 clear hm
 go_enter Tryz.func22, Tryz.ntmps22
 refine wp_seq ?_
 refine zN (l := [0]) rfl (fun u0 hu0 => ?_)
 have H1 : Hid (Mm u0 [(gb, zH .u8 (lb [3, 1, 1, 97, 0, 0, 0, 0, 0, 0, 0, 0, 0]) 13)] ∧ Below w.heap.size w u0) := by rw [hu0]; exact H0
 clear hu0 H0
 refine zA (d := 2) (v := .slice none 0 0) (w' := u0) rfl rfl rfl (rfl) ?_
 simp only [Act.put, sa, sz, ss]
 refine zC (zB (wp_seq ?_))
 refine zD (l := [0, 1, 2, 3]) rfl ?_
 refine zA (d := 3) (v := .slice (some ⟨u0.heap.size, 0, none⟩) 0 0) (w' := (u0.alloc (.cells #[] 5))) rfl rfl rfl (ex_bz rfl) ?_
 simp only [Act.put, sa, sz, ss]
 have H2 : Hid (Mm (u0.alloc (.cells #[] 5)) [(gb, zH .u8 (lb [3, 1, 1, 97, 0, 0, 0, 0, 0, 0, 0, 0, 0]) 13)] ∧ Ow w [gb] (.slice (some ⟨u0.heap.size, 0, none⟩) 0 0) 0 (lb []) (u0.alloc (.cells #[] 5))) := ⟨H1.out.1.below ((Below.refl _ _).alloc (Nat.le_refl _) _), Ow.made H1.out.2 H1.out.1 _ 0 (by decide) _ rfl⟩
 clear H1
 generalize hgw : u0.alloc (.cells #[] 5) = w2 at H2 ⊢
 clear hgw
 generalize u0.heap.size = Jm at H2 ⊢
 refine zA (d := 4) (v := .slice (some ⟨gb, 0, none⟩) 13 (13 + x)) (w' := w2) rfl rfl rfl (rfl) ?_
 simp only [Act.put, sa, sz, ss]
 obtain ⟨v3, w3, hr, hO, hM⟩ := H2.out.2.appP H2.out.1 rfl (q := Pt8.at gb 13 (13 + x) (lb [3, 1, 1, 97, 0, 0, 0, 0, 0, 0, 0, 0, 0])) (Pt8.at_ok _ _ _ _ (by omega)) (fun e => by cases e) (Pt8.at_rs H2.out.1 0 rfl (fun i hi => ints_get _ _ hi)) (show 0 + 13 ≤ 2097152 from by decide) 51
 refine zA (d := 5) (v := v3) (w' := w3) rfl rfl rfl (ex_app rfl rfl rfl hr) ?_
 simp only [Act.put, sa, sz, ss]
 have H3 : Hid (Mm w3 [(gb, zH .u8 (lb [3, 1, 1, 97, 0, 0, 0, 0, 0, 0, 0, 0, 0]) 13)] ∧ Ow w [gb] v3 13 (lb [3, 1, 1, 97, 0, 0, 0, 0, 0, 0, 0, 0, 0]) w3) := ⟨hM, hO.cg (P' := (lb [3, 1, 1, 97, 0, 0, 0, 0, 0, 0, 0, 0, 0])) (show ∀ j, j < 13 → ct (lb []) 0 (lb [3, 1, 1, 97, 0, 0, 0, 0, 0, 0, 0, 0, 0]) j = lb [3, 1, 1, 97, 0, 0, 0, 0, 0, 0, 0, 0, 0] j from by decide)⟩
 clear hr hO hM H2
 refine zA (d := 2) (v := v3) (w' := w3) rfl rfl rfl (rfl) ?_
 simp only [Act.put, sa, sz, ss]
 refine zC (zB (wp_ret ?_))
 repeat (first | refine zL ?_ | refine zK ?_)
 refine bodyPost_ret (v := v3) (by simp [results, Tryz.results22, go_sem, *]) rfl ?_
 exact ⟨_, rfl, H3.out.2.sub (fun _ h => by cases h)⟩
set_option maxHeartbeats 16000000 in
theorem wireKnown_any  (w : World) (hm : Mm w [(0, dtab)]) :
  Calls Tryz.prog 4 #[] w (Rt w (.bool true)) := by
 have H0 : Hid (_ ∧ _) := ⟨hm, Below.refl w.heap.size w⟩
 clear hm
 go_enter Tryz.func4, Tryz.ntmps4
 refine wp_seq ?_
 refine zN (l := [0]) rfl (fun u0 hu0 => ?_)
 have H1 : Hid (Mm u0 [(0, dtab)] ∧ Below w.heap.size w u0) := by rw [hu0]; exact H0
 clear hu0 H0
 refine zA (d := 0) (v := .bool false) (w' := u0) rfl rfl rfl (rfl) ?_
 simp only [Act.put, List.setIfInBounds_toArray, List.set_cons_zero]
 refine zC (zB (wp_seq ?_))
 refine zD (l := [0, 1, 2, 3, 4, 5]) rfl ?_
 refine zF (d := 19) (R := fun vv w' => Below u0.heap.size u0 w' ∧ ∃ g x, vv = .tuple #[.slice (some ⟨g, 0, none⟩) 8 (8 + x), .int .i64 0] ∧ u0.heap.size ≤ g ∧ g < w'.heap.size ∧ Blk w' g (zH .u8 (lb [0, 0, 0, 0, 0, 0, 1, 2]) 8)) rfl rfl rfl (zG (args := #[.int .i64 258]) rfl call16 rfl (mpn rfl)) (Calls.mono (Int_258 u0) (fun e w2 hh => by obtain ⟨hb, g, x, he, h1, h2, h3⟩ := hh; exact ⟨_, he, hb, g, x, rfl, h1, h2, h3⟩)) ?_
 rintro _ w2 ⟨hb, Js2, xs2, rfl, hg1, hg2, hg3⟩
 have o_Js2 : Hid (w.heap.size ≤ Js2) := Nat.le_trans H1.out.2.size hg1
 have H2 : Hid (Mm w2 [(Js2, zH .u8 (lb [0, 0, 0, 0, 0, 0, 1, 2]) 8), (0, dtab)] ∧ Below w.heap.size w w2) := ⟨Mm.cons (H1.out.1.below hb) hg3 hg2 (fun p hp => Nat.ne_of_lt (Nat.lt_of_lt_of_le (H1.out.1.blk p hp).1 hg1)), H1.out.2.trans (hb.mono H1.out.2.size)⟩
 clear hb hg1 hg2 hg3
 clear H1
 simp only [Act.put, sa, sz, ss]
 refine zA (d := 18) (v := .tuple #[.slice (some ⟨Js2, 0, none⟩) 8 (8 + xs2), .int .i64 0]) (w' := w2) rfl rfl rfl (rfl) ?_
 simp only [Act.put, sa, sz, ss]
 refine zA (d := 20) (v := .slice (some ⟨Js2, 0, none⟩) 8 (8 + xs2)) (w' := w2) rfl rfl rfl (by go_simp) ?_
 simp only [Act.put, sa, sz, ss]
 refine zA (d := 21) (v := .int .i64 0) (w' := w2) rfl rfl rfl (by go_simp) ?_
 simp only [Act.put, sa, sz, ss]
 refine zA (d := 1) (v := .slice (some ⟨Js2, 0, none⟩) 8 (8 + xs2)) (w' := w2) rfl rfl rfl (rfl) ?_
 simp only [Act.put, sa, sz, ss]
 refine zA (d := 2) (v := .int .i64 0) (w' := w2) rfl rfl rfl (rfl) ?_
 simp only [Act.put, sa, sz, ss]
 refine zC (zB (wp_seq ?_))
 refine zD (l := [0, 1, 2, 3, 4, 5]) rfl ?_
 refine zF (d := 23) (R := fun vv w' => vv = .tuple #[.slice none 0 0, .int .i64 2] ∧ Below w2.heap.size w2 w') rfl rfl rfl (zG (args := #[.int .i64 (-1)]) rfl call16 rfl (mpn rfl)) (Calls.mono (Int_neg w2) (fun e w2 hh => ⟨_, hh.1, rfl, hh.2⟩)) ?_
 rintro _ w3 ⟨rfl, hb⟩
 have H3 : Hid (Mm w3 [(Js2, zH .u8 (lb [0, 0, 0, 0, 0, 0, 1, 2]) 8), (0, dtab)] ∧ Below w.heap.size w w3) := ⟨H2.out.1.below hb, H2.out.2.trans (hb.mono H2.out.2.size)⟩
 clear hb
 clear H2
 simp only [Act.put, sa, sz, ss]
 refine zA (d := 22) (v := .tuple #[.slice none 0 0, .int .i64 2]) (w' := w3) rfl rfl rfl (rfl) ?_
 simp only [Act.put, sa, sz, ss]
 refine zA (d := 24) (v := .slice none 0 0) (w' := w3) rfl rfl rfl (by go_simp) ?_
 simp only [Act.put, sa, sz, ss]
 refine zA (d := 25) (v := .int .i64 2) (w' := w3) rfl rfl rfl (by go_simp) ?_
 simp only [Act.put, sa, sz, ss]
 refine zA (d := 3) (v := .slice none 0 0) (w' := w3) rfl rfl rfl (rfl) ?_
 simp only [Act.put, sa, sz, ss]
 refine zA (d := 4) (v := .int .i64 2) (w' := w3) rfl rfl rfl (rfl) ?_
 simp only [Act.put, sa, sz, ss]
 refine zC (zB (wp_seq ?_))
 refine zD (l := [0, 1, 2, 3, 4, 5, 6]) rfl ?_
 refine zA (d := 27) (v := .slice (some ⟨w3.heap.size, 0, none⟩) 7 7) (w' := (w3.alloc (.cells (zH .u8 (fun _ => 0) 7 : List Value).toArray 5))) rfl rfl rfl (ex_mk7 rfl rfl rfl) ?_
 simp only [Act.put, sa, sz, ss]
 have o_Js4 : Hid (w.heap.size ≤ w3.heap.size) := H3.out.2.size
 have H4 : Hid (Mm (w3.alloc (.cells (zH .u8 (fun _ => 0) 7 : List Value).toArray 5)) ((w3.heap.size, zH .u8 (fun _ => 0) 7) :: [(Js2, zH .u8 (lb [0, 0, 0, 0, 0, 0, 1, 2]) 8), (0, dtab)]) ∧ Below w.heap.size w (w3.alloc (.cells (zH .u8 (fun _ => 0) 7 : List Value).toArray 5))) := ⟨H3.out.1.alloc _ 5 rfl, H3.out.2.trans (((Below.refl _ _).alloc (Nat.le_refl _) _).mono H3.out.2.size)⟩
 clear H3
 generalize hgw : w3.alloc (.cells (zH .u8 (fun _ => 0) 7 : List Value).toArray 5) = w4 at H4 ⊢
 clear hgw
 generalize w3.heap.size = Js4 at o_Js4 H4 ⊢
 refine zF (d := 28) (R := fun vv w' => vv = .tuple #[.int .i64 0, .int .i64 4] ∧ Below w4.heap.size w4 w') rfl rfl rfl (zG (args := #[.slice (some ⟨Js4, 0, none⟩) 7 7]) rfl call17 rfl (mpn rfl)) (Calls.mono (ReadInt_7 Js4 w4) (fun e w2 hh => ⟨_, hh.1, rfl, hh.2⟩)) ?_
 rintro _ w5 ⟨rfl, hb⟩
 have H5 : Hid (Mm w5 [(Js4, zH .u8 (fun _ => 0) 7), (Js2, zH .u8 (lb [0, 0, 0, 0, 0, 0, 1, 2]) 8), (0, dtab)] ∧ Below w.heap.size w w5) := ⟨H4.out.1.below hb, H4.out.2.trans (hb.mono H4.out.2.size)⟩
 clear hb
 clear H4
 simp only [Act.put, sa, sz, ss]
 refine zA (d := 26) (v := .tuple #[.int .i64 0, .int .i64 4]) (w' := w5) rfl rfl rfl (rfl) ?_
 simp only [Act.put, sa, sz, ss]
 refine zA (d := 29) (v := .int .i64 0) (w' := w5) rfl rfl rfl (by go_simp) ?_
 simp only [Act.put, sa, sz, ss]
 refine zA (d := 30) (v := .int .i64 4) (w' := w5) rfl rfl rfl (by go_simp) ?_
 simp only [Act.put, sa, sz, ss]
 refine zA (d := 5) (v := .int .i64 0) (w' := w5) rfl rfl rfl (rfl) ?_
 simp only [Act.put, sa, sz, ss]
 refine zA (d := 6) (v := .int .i64 4) (w' := w5) rfl rfl rfl (rfl) ?_
 simp only [Act.put, sa, sz, ss]
 refine zC (zB (wp_seq ?_))
 refine zD (l := [0, 1, 2, 3, 4, 5, 6, 7]) rfl ?_
 refine zA (d := 32) (v := .slice (some ⟨w5.heap.size, 0, none⟩) 1 1) (w' := (w5.alloc (.cells ([Z8 7] : List Value).toArray 5))) rfl rfl rfl (ex_bsB rfl rfl) ?_
 simp only [Act.put, sa, sz, ss]
 have o_Js6 : Hid (w.heap.size ≤ w5.heap.size) := H5.out.2.size
 have H6 : Hid (Mm (w5.alloc (.cells ([Z8 7] : List Value).toArray 5)) ((w5.heap.size, [Z8 7]) :: [(Js4, zH .u8 (fun _ => 0) 7), (Js2, zH .u8 (lb [0, 0, 0, 0, 0, 0, 1, 2]) 8), (0, dtab)]) ∧ Below w.heap.size w (w5.alloc (.cells ([Z8 7] : List Value).toArray 5))) := ⟨H5.out.1.alloc _ 5 rfl, H5.out.2.trans (((Below.refl _ _).alloc (Nat.le_refl _) _).mono H5.out.2.size)⟩
 clear H5
 generalize hgw : w5.alloc (.cells ([Z8 7] : List Value).toArray 5) = w6 at H6 ⊢
 clear hgw
 generalize w5.heap.size = Js6 at o_Js6 H6 ⊢
 refine zA (d := 33) (v := .slice (some ⟨w6.heap.size, 0, none⟩) 2 2) (w' := (w6.alloc (.cells ([Value.slice (some ⟨Js6, 0, none⟩) 1 1, Value.slice none 0 0] : List Value).toArray 51))) rfl rfl rfl (ex_bs57_2 rfl rfl rfl) ?_
 simp only [Act.put, sa, sz, ss]
 have o_Js7 : Hid (w.heap.size ≤ w6.heap.size) := H6.out.2.size
 have H7 : Hid (Mm (w6.alloc (.cells ([Value.slice (some ⟨Js6, 0, none⟩) 1 1, Value.slice none 0 0] : List Value).toArray 51)) ((w6.heap.size, [Value.slice (some ⟨Js6, 0, none⟩) 1 1, Value.slice none 0 0]) :: [(Js6, [Z8 7]), (Js4, zH .u8 (fun _ => 0) 7), (Js2, zH .u8 (lb [0, 0, 0, 0, 0, 0, 1, 2]) 8), (0, dtab)]) ∧ Below w.heap.size w (w6.alloc (.cells ([Value.slice (some ⟨Js6, 0, none⟩) 1 1, Value.slice none 0 0] : List Value).toArray 51))) := ⟨H6.out.1.alloc _ 51 rfl, H6.out.2.trans (((Below.refl _ _).alloc (Nat.le_refl _) _).mono H6.out.2.size)⟩
 clear H6
 generalize hgw : w6.alloc (.cells ([Value.slice (some ⟨Js6, 0, none⟩) 1 1, Value.slice none 0 0] : List Value).toArray 51) = w7 at H7 ⊢
 clear hgw
 generalize w6.heap.size = Js7 at o_Js7 H7 ⊢
 refine zF (d := 34) (R := fun vv w' => Below w7.heap.size w7 w' ∧ ∃ g x, vv = .tuple #[.slice (some ⟨g, 0, none⟩) 13 (13 + x), .int .i64 0] ∧ w7.heap.size ≤ g ∧ g < w'.heap.size ∧ Blk w' g (zH .u8 (lb [0, 0, 0, 2, 0, 0, 0, 1, 7, 0, 0, 0, 0]) 13)) rfl rfl rfl (zG (args := #[.slice (some ⟨Js7, 0, none⟩) 2 2]) rfl call18 rfl (mpn rfl)) (Calls.mono (Fields_b Js7 Js6 w7 (H7.out.1.two 0 1 rfl rfl (by decide))) (fun e w2 hh => by obtain ⟨hb, g, x, he, h1, h2, h3⟩ := hh; exact ⟨_, he, hb, g, x, rfl, h1, h2, h3⟩)) ?_
 rintro _ w8 ⟨hb, Js8, xs8, rfl, hg1, hg2, hg3⟩
 have o_Js8 : Hid (w.heap.size ≤ Js8) := Nat.le_trans H7.out.2.size hg1
 have H8 : Hid (Mm w8 [(Js8, zH .u8 (lb [0, 0, 0, 2, 0, 0, 0, 1, 7, 0, 0, 0, 0]) 13), (Js7, [Value.slice (some ⟨Js6, 0, none⟩) 1 1, Value.slice none 0 0]), (Js6, [Z8 7]), (Js4, zH .u8 (fun _ => 0) 7), (Js2, zH .u8 (lb [0, 0, 0, 0, 0, 0, 1, 2]) 8), (0, dtab)] ∧ Below w.heap.size w w8) := ⟨Mm.cons (H7.out.1.below hb) hg3 hg2 (fun p hp => Nat.ne_of_lt (Nat.lt_of_lt_of_le (H7.out.1.blk p hp).1 hg1)), H7.out.2.trans (hb.mono H7.out.2.size)⟩
 clear hb hg1 hg2 hg3
 clear H7
 simp only [Act.put, sa, sz, ss]
 refine zA (d := 31) (v := .tuple #[.slice (some ⟨Js8, 0, none⟩) 13 (13 + xs8), .int .i64 0]) (w' := w8) rfl rfl rfl (rfl) ?_
 simp only [Act.put, sa, sz, ss]
 refine zA (d := 35) (v := .slice (some ⟨Js8, 0, none⟩) 13 (13 + xs8)) (w' := w8) rfl rfl rfl (by go_simp) ?_
 simp only [Act.put, sa, sz, ss]
 refine zA (d := 36) (v := .int .i64 0) (w' := w8) rfl rfl rfl (by go_simp) ?_
 simp only [Act.put, sa, sz, ss]
 refine zA (d := 7) (v := .slice (some ⟨Js8, 0, none⟩) 13 (13 + xs8)) (w' := w8) rfl rfl rfl (rfl) ?_
 simp only [Act.put, sa, sz, ss]
 refine zA (d := 8) (v := .int .i64 0) (w' := w8) rfl rfl rfl (rfl) ?_
 simp only [Act.put, sa, sz, ss]
 refine zC (zB (wp_seq ?_))
 refine zD (l := [0, 1, 2, 3, 4, 5, 6]) rfl ?_
 refine zA (d := 38) (v := .agg (e1c).toArray) (w' := w8) rfl rfl rfl (by kernel_rfl) ?_
 simp only [Act.put, sa, sz, ss]
 refine zF (d := 39) (R := fun vv w' => Below w8.heap.size w8 w' ∧ ∃ g x, vv = .tuple #[.slice (some ⟨g, 0, none⟩) 13 (13 + x), .int .i64 0] ∧ w8.heap.size ≤ g ∧ g < w'.heap.size ∧ Blk w' g (zH .u8 (lb [3, 1, 1, 97, 0, 0, 0, 0, 0, 0, 0, 0, 0]) 13)) rfl rfl rfl (zG (args := #[.agg (e1c).toArray]) rfl call19 rfl (mpn rfl)) (Calls.mono (Entry_1 w8) (fun e w2 hh => by obtain ⟨hb, g, x, he, h1, h2, h3⟩ := hh; exact ⟨_, he, hb, g, x, rfl, h1, h2, h3⟩)) ?_
 rintro _ w9 ⟨hb, Js9, xs9, rfl, hg1, hg2, hg3⟩
 have o_Js9 : Hid (w.heap.size ≤ Js9) := Nat.le_trans H8.out.2.size hg1
 have H9 : Hid (Mm w9 [(Js9, zH .u8 (lb [3, 1, 1, 97, 0, 0, 0, 0, 0, 0, 0, 0, 0]) 13), (Js8, zH .u8 (lb [0, 0, 0, 2, 0, 0, 0, 1, 7, 0, 0, 0, 0]) 13), (Js7, [Value.slice (some ⟨Js6, 0, none⟩) 1 1, Value.slice none 0 0]), (Js6, [Z8 7]), (Js4, zH .u8 (fun _ => 0) 7), (Js2, zH .u8 (lb [0, 0, 0, 0, 0, 0, 1, 2]) 8), (0, dtab)] ∧ Below w.heap.size w w9) := ⟨Mm.cons (H8.out.1.below hb) hg3 hg2 (fun p hp => Nat.ne_of_lt (Nat.lt_of_lt_of_le (H8.out.1.blk p hp).1 hg1)), H8.out.2.trans (hb.mono H8.out.2.size)⟩
 clear hb hg1 hg2 hg3
 clear H8
 simp only [Act.put, sa, sz, ss]
 refine zA (d := 37) (v := .tuple #[.slice (some ⟨Js9, 0, none⟩) 13 (13 + xs9), .int .i64 0]) (w' := w9) rfl rfl rfl (rfl) ?_
 simp only [Act.put, sa, sz, ss]
 refine zA (d := 40) (v := .slice (some ⟨Js9, 0, none⟩) 13 (13 + xs9)) (w' := w9) rfl rfl rfl (by go_simp) ?_
 simp only [Act.put, sa, sz, ss]
 refine zA (d := 41) (v := .int .i64 0) (w' := w9) rfl rfl rfl (by go_simp) ?_
 simp only [Act.put, sa, sz, ss]
 refine zA (d := 9) (v := .slice (some ⟨Js9, 0, none⟩) 13 (13 + xs9)) (w' := w9) rfl rfl rfl (rfl) ?_
 simp only [Act.put, sa, sz, ss]
 refine zA (d := 10) (v := .int .i64 0) (w' := w9) rfl rfl rfl (rfl) ?_
 simp only [Act.put, sa, sz, ss]
 refine zC (zB ?_)
 refine wp_seq (wp_seq ?_)
 refine zD (l := [0, 1, 2, 3, 4, 5, 6, 7, 8, 9, 10, 11, 12, 13, 14, 15, 16, 17, 18, 19, 20, 21, 22, 23, 24, 25, 26, 27]) rfl ?_
 refine zA (d := 42) (v := .int .i64 0) (w' := w9) rfl rfl rfl (rfl) ?_
 simp only [Act.put, sa, sz, ss]
 refine zA (d := 43) (v := .bool false) (w' := w9) rfl rfl rfl (by kernel_rfl) ?_
 simp only [Act.put, sa, sz, ss]
 refine zA (d := 44) (v := .bool false) (w' := w9) rfl rfl rfl (rfl) ?_
 simp only [Act.put, sa, sz, ss]
 refine zA (d := 45) (v := .int .i64 2) (w' := w9) rfl rfl rfl (rfl) ?_
 simp only [Act.put, sa, sz, ss]
 refine zA (d := 46) (v := .bool false) (w' := w9) rfl rfl rfl (by kernel_rfl) ?_
 simp only [Act.put, sa, sz, ss]
 refine zA (d := 47) (v := .bool false) (w' := w9) rfl rfl rfl (by go_simp) ?_
 simp only [Act.put, sa, sz, ss]
 refine zA (d := 48) (v := .bool false) (w' := w9) rfl rfl rfl (rfl) ?_
 simp only [Act.put, sa, sz, ss]
 refine zA (d := 49) (v := .int .i64 4) (w' := w9) rfl rfl rfl (rfl) ?_
 simp only [Act.put, sa, sz, ss]
 refine zA (d := 50) (v := .bool false) (w' := w9) rfl rfl rfl (by kernel_rfl) ?_
 simp only [Act.put, sa, sz, ss]
 refine zA (d := 51) (v := .bool false) (w' := w9) rfl rfl rfl (by go_simp) ?_
 simp only [Act.put, sa, sz, ss]
 refine zA (d := 52) (v := .bool false) (w' := w9) rfl rfl rfl (rfl) ?_
 simp only [Act.put, sa, sz, ss]
 refine zA (d := 53) (v := .int .i64 0) (w' := w9) rfl rfl rfl (rfl) ?_
 simp only [Act.put, sa, sz, ss]
 refine zA (d := 54) (v := .bool false) (w' := w9) rfl rfl rfl (by kernel_rfl) ?_
 simp only [Act.put, sa, sz, ss]
 refine zA (d := 55) (v := .bool false) (w' := w9) rfl rfl rfl (by go_simp) ?_
 simp only [Act.put, sa, sz, ss]
 refine zA (d := 56) (v := .bool false) (w' := w9) rfl rfl rfl (rfl) ?_
 simp only [Act.put, sa, sz, ss]
 refine zA (d := 57) (v := .int .i64 0) (w' := w9) rfl rfl rfl (rfl) ?_
 simp only [Act.put, sa, sz, ss]
 refine zA (d := 58) (v := .bool false) (w' := w9) rfl rfl rfl (by kernel_rfl) ?_
 simp only [Act.put, sa, sz, ss]
 refine zA (d := 59) (v := .bool false) (w' := w9) rfl rfl rfl (by go_simp) ?_
 simp only [Act.put, sa, sz, ss]
 refine zA (d := 60) (v := .bool false) (w' := w9) rfl rfl rfl (rfl) ?_
 simp only [Act.put, sa, sz, ss]
 refine zA (d := 61) (v := .slice (some ⟨Js8, 0, none⟩) 13 (13 + xs8)) (w' := w9) rfl rfl rfl (rfl) ?_
 simp only [Act.put, sa, sz, ss]
 refine zA (d := 62) (v := .int .i64 13) (w' := w9) rfl rfl rfl (by go_simp) ?_
 simp only [Act.put, sa, sz, ss]
 refine zA (d := 63) (v := .bool false) (w' := w9) rfl rfl rfl (by kernel_rfl) ?_
 simp only [Act.put, sa, sz, ss]
 refine zA (d := 64) (v := .bool false) (w' := w9) rfl rfl rfl (by go_simp) ?_
 simp only [Act.put, sa, sz, ss]
 refine zA (d := 65) (v := .bool false) (w' := w9) rfl rfl rfl (rfl) ?_
 simp only [Act.put, sa, sz, ss]
 refine zA (d := 66) (v := .slice (some ⟨Js9, 0, none⟩) 13 (13 + xs9)) (w' := w9) rfl rfl rfl (rfl) ?_
 simp only [Act.put, sa, sz, ss]
 refine zA (d := 67) (v := .int .i64 13) (w' := w9) rfl rfl rfl (by go_simp) ?_
 simp only [Act.put, sa, sz, ss]
 refine zA (d := 68) (v := .bool false) (w' := w9) rfl rfl rfl (by kernel_rfl) ?_
 simp only [Act.put, sa, sz, ss]
 refine zA (d := 69) (v := .bool false) (w' := w9) rfl rfl rfl (by go_simp) ?_
 simp only [Act.put, sa, sz, ss]
 refine zC (zB ?_)
 refine wp_cond_false rfl (wp_skip ?_)
 refine zB (wp_seq ?_)
 refine zD (l := [0, 1, 2, 3, 4, 5, 6, 7]) rfl ?_
 refine zA (d := 71) (v := .slice (some ⟨Js8, 0, none⟩) 13 (13 + xs8)) (w' := w9) rfl rfl rfl (rfl) ?_
 simp only [Act.put, sa, sz, ss]
 refine zA (d := 72) (v := .slice (some ⟨Js8, 0, none⟩) 12 (13 + xs8)) (w' := w9) rfl rfl rfl (ex_take (k := 12) (by omega) rfl rfl rfl) ?_
 simp only [Act.put, sa, sz, ss]
 refine zF (d := 73) (R := fun vv w' => vv = .tuple #[.slice none 0 0, .int .i64 4] ∧ Below w9.heap.size w9 w') rfl rfl rfl (zG (args := #[.slice (some ⟨Js8, 0, none⟩) 12 (13 + xs8)]) rfl call20 rfl (mpn rfl)) (Calls.mono (ReadFields_12 Js8 xs8 w9 (H9.out.1.one 1 rfl)) (fun e w2 hh => ⟨_, hh.1, rfl, hh.2⟩)) ?_
 rintro _ w10 ⟨rfl, hb⟩
 have H10 : Hid (Mm w10 [(Js9, zH .u8 (lb [3, 1, 1, 97, 0, 0, 0, 0, 0, 0, 0, 0, 0]) 13), (Js8, zH .u8 (lb [0, 0, 0, 2, 0, 0, 0, 1, 7, 0, 0, 0, 0]) 13), (Js7, [Value.slice (some ⟨Js6, 0, none⟩) 1 1, Value.slice none 0 0]), (Js6, [Z8 7]), (Js4, zH .u8 (fun _ => 0) 7), (Js2, zH .u8 (lb [0, 0, 0, 0, 0, 0, 1, 2]) 8), (0, dtab)] ∧ Below w.heap.size w w10) := ⟨H9.out.1.below hb, H9.out.2.trans (hb.mono H9.out.2.size)⟩
 clear hb
 clear H9
 simp only [Act.put, sa, sz, ss]
 refine zA (d := 70) (v := .tuple #[.slice none 0 0, .int .i64 4]) (w' := w10) rfl rfl rfl (rfl) ?_
 simp only [Act.put, sa, sz, ss]
 refine zA (d := 74) (v := .slice none 0 0) (w' := w10) rfl rfl rfl (by go_simp) ?_
 simp only [Act.put, sa, sz, ss]
 refine zA (d := 75) (v := .int .i64 4) (w' := w10) rfl rfl rfl (by go_simp) ?_
 simp only [Act.put, sa, sz, ss]
 refine zA (d := 11) (v := .slice none 0 0) (w' := w10) rfl rfl rfl (rfl) ?_
 simp only [Act.put, sa, sz, ss]
 refine zA (d := 12) (v := .int .i64 4) (w' := w10) rfl rfl rfl (rfl) ?_
 simp only [Act.put, sa, sz, ss]
 refine zC (zB (wp_seq ?_))
 refine zD (l := [0, 1, 2, 3, 4, 5, 6, 7]) rfl ?_
 refine zA (d := 77) (v := .slice (some ⟨Js9, 0, none⟩) 13 (13 + xs9)) (w' := w10) rfl rfl rfl (rfl) ?_
 simp only [Act.put, sa, sz, ss]
 refine zF (d := 78) (R := fun vv w' => vv = .tuple #[.agg (e1c).toArray, .int .i64 0] ∧ Below w10.heap.size w10 w') rfl rfl rfl (zG (args := #[.slice (some ⟨Js9, 0, none⟩) 13 (13 + xs9)]) rfl call21 rfl (mpn rfl)) (Calls.mono (ReadEntry_13 Js9 xs9 w10 (H10.out.1.one 0 rfl)) (fun e w2 hh => ⟨_, hh.1, rfl, hh.2⟩)) ?_
 rintro _ w11 ⟨rfl, hb⟩
 have H11 : Hid (Mm w11 [(Js9, zH .u8 (lb [3, 1, 1, 97, 0, 0, 0, 0, 0, 0, 0, 0, 0]) 13), (Js8, zH .u8 (lb [0, 0, 0, 2, 0, 0, 0, 1, 7, 0, 0, 0, 0]) 13), (Js7, [Value.slice (some ⟨Js6, 0, none⟩) 1 1, Value.slice none 0 0]), (Js6, [Z8 7]), (Js4, zH .u8 (fun _ => 0) 7), (Js2, zH .u8 (lb [0, 0, 0, 0, 0, 0, 1, 2]) 8), (0, dtab)] ∧ Below w.heap.size w w11) := ⟨H10.out.1.below hb, H10.out.2.trans (hb.mono H10.out.2.size)⟩
 clear hb
 clear H10
 simp only [Act.put, sa, sz, ss]
 refine zA (d := 76) (v := .tuple #[.agg (e1c).toArray, .int .i64 0]) (w' := w11) rfl rfl rfl (rfl) ?_
 simp only [Act.put, sa, sz, ss]
 refine zA (d := 79) (v := .agg (e1c).toArray) (w' := w11) rfl rfl rfl (by go_simp) ?_
 simp only [Act.put, sa, sz, ss]
 refine zA (d := 80) (v := .int .i64 0) (w' := w11) rfl rfl rfl (by go_simp) ?_
 simp only [Act.put, sa, sz, ss]
 refine zA (d := 13) (v := PT w11.heap.size 0) (w' := (w11.alloc (.cells ([Value.int .i64 0, Value.int .i64 0, Value.string ⟨#[]⟩, Value.string ⟨#[]⟩, Value.string ⟨#[]⟩, Value.slice none 0 0, Value.slice none 0 0, Value.int .i64 0, Value.slice none 0 0, Value.slice none 0 0, Value.slice none 0 0] : List Value).toArray 64))) rfl rfl rfl (ex_mk64 rfl) ?_
 simp only [Act.put, sa, sz, ss]
 have o_Js12 : Hid (w.heap.size ≤ w11.heap.size) := H11.out.2.size
 have H12 : Hid (Mm (w11.alloc (.cells ([Value.int .i64 0, Value.int .i64 0, Value.string ⟨#[]⟩, Value.string ⟨#[]⟩, Value.string ⟨#[]⟩, Value.slice none 0 0, Value.slice none 0 0, Value.int .i64 0, Value.slice none 0 0, Value.slice none 0 0, Value.slice none 0 0] : List Value).toArray 64)) ((w11.heap.size, [Value.int .i64 0, Value.int .i64 0, Value.string ⟨#[]⟩, Value.string ⟨#[]⟩, Value.string ⟨#[]⟩, Value.slice none 0 0, Value.slice none 0 0, Value.int .i64 0, Value.slice none 0 0, Value.slice none 0 0, Value.slice none 0 0]) :: [(Js9, zH .u8 (lb [3, 1, 1, 97, 0, 0, 0, 0, 0, 0, 0, 0, 0]) 13), (Js8, zH .u8 (lb [0, 0, 0, 2, 0, 0, 0, 1, 7, 0, 0, 0, 0]) 13), (Js7, [Value.slice (some ⟨Js6, 0, none⟩) 1 1, Value.slice none 0 0]), (Js6, [Z8 7]), (Js4, zH .u8 (fun _ => 0) 7), (Js2, zH .u8 (lb [0, 0, 0, 0, 0, 0, 1, 2]) 8), (0, dtab)]) ∧ Below w.heap.size w (w11.alloc (.cells ([Value.int .i64 0, Value.int .i64 0, Value.string ⟨#[]⟩, Value.string ⟨#[]⟩, Value.string ⟨#[]⟩, Value.slice none 0 0, Value.slice none 0 0, Value.int .i64 0, Value.slice none 0 0, Value.slice none 0 0, Value.slice none 0 0] : List Value).toArray 64))) := ⟨H11.out.1.alloc _ 64 rfl, H11.out.2.trans (((Below.refl _ _).alloc (Nat.le_refl _) _).mono H11.out.2.size)⟩
 clear H11
 generalize hgw : w11.alloc (.cells ([Value.int .i64 0, Value.int .i64 0, Value.string ⟨#[]⟩, Value.string ⟨#[]⟩, Value.string ⟨#[]⟩, Value.slice none 0 0, Value.slice none 0 0, Value.int .i64 0, Value.slice none 0 0, Value.slice none 0 0, Value.slice none 0 0] : List Value).toArray 64) = w12 at H12 ⊢
 clear hgw
 generalize w11.heap.size = Js12 at o_Js12 H12 ⊢
 refine sG rfl (fun h => ex_storeT (vs := e1c) h 0 rfl rfl rfl rfl As64 rfl (Nat.le_of_ble_eq_true rfl)) 0 [(_, e1c), _, _, _, _, _, _, _] H12 o_Js12 fun w13 H13 => ?_
 clear H12
 refine zA (d := 14) (v := .int .i64 0) (w' := w13) rfl rfl rfl (rfl) ?_
 simp only [Act.put, sa, sz, ss]
 refine zC (zB (wp_seq ?_))
 refine zD (l := [0, 1, 2, 3, 4, 5, 6, 7, 8, 9, 10]) rfl ?_
 refine zA (d := 82) (v := .slice (some ⟨Js9, 0, none⟩) 13 (13 + xs9)) (w' := w13) rfl rfl rfl (rfl) ?_
 simp only [Act.put, sa, sz, ss]
 refine zF (d := 83) (R := fun vv w' => Ow w13 [] vv 13 (lb [3, 1, 1, 97, 0, 0, 0, 0, 0, 0, 0, 0, 0]) w') rfl rfl rfl (zG (args := #[.slice (some ⟨Js9, 0, none⟩) 13 (13 + xs9)]) rfl call22 rfl (mpn rfl)) (Calls.mono (Copy_13 Js9 xs9 w13 (H13.out.1.one 1 rfl)) (fun e w2 hh => by obtain ⟨v, he, hb⟩ := hh; exact ⟨_, he, hb⟩)) ?_
 rintro vcp w14 hO
 have H14 : Hid (Mm w14 [(Js12, e1c), (Js9, zH .u8 (lb [3, 1, 1, 97, 0, 0, 0, 0, 0, 0, 0, 0, 0]) 13), (Js8, zH .u8 (lb [0, 0, 0, 2, 0, 0, 0, 1, 7, 0, 0, 0, 0]) 13), (Js7, [Value.slice (some ⟨Js6, 0, none⟩) 1 1, Value.slice none 0 0]), (Js6, [Z8 7]), (Js4, zH .u8 (fun _ => 0) 7), (Js2, zH .u8 (lb [0, 0, 0, 0, 0, 0, 1, 2]) 8), (0, dtab)] ∧ Ow w [Js12, Js9, Js8, Js7, Js6, Js4, Js2, 0] vcp 13 (lb [3, 1, 1, 97, 0, 0, 0, 0, 0, 0, 0, 0, 0]) w14) := ⟨H13.out.1.below hO.b, Ow.out H13.out.2 H13.out.1 hO⟩
 clear hO
 clear H13
 simp only [Act.put, sa, sz, ss]
 refine zA (d := 84) (v := .slice (some ⟨w14.heap.size, 0, none⟩) 1 1) (w' := (w14.alloc (.cells (zH .u8 (lb [0]) 1 : List Value).toArray 5))) rfl rfl rfl (ex_lit_1_0 rfl (fun _ => rfl)) ?_
 simp only [Act.put, sa, sz, ss]
 have o_Js15 : Hid (w.heap.size ≤ w14.heap.size) := H14.out.2.size
 have H15 : Hid (Mm (w14.alloc (.cells (zH .u8 (lb [0]) 1 : List Value).toArray 5)) ((w14.heap.size, zH .u8 (lb [0]) 1) :: [(Js12, e1c), (Js9, zH .u8 (lb [3, 1, 1, 97, 0, 0, 0, 0, 0, 0, 0, 0, 0]) 13), (Js8, zH .u8 (lb [0, 0, 0, 2, 0, 0, 0, 1, 7, 0, 0, 0, 0]) 13), (Js7, [Value.slice (some ⟨Js6, 0, none⟩) 1 1, Value.slice none 0 0]), (Js6, [Z8 7]), (Js4, zH .u8 (fun _ => 0) 7), (Js2, zH .u8 (lb [0, 0, 0, 0, 0, 0, 1, 2]) 8), (0, dtab)]) ∧ Ow w [w14.heap.size, Js12, Js9, Js8, Js7, Js6, Js4, Js2, 0] vcp 13 (lb [3, 1, 1, 97, 0, 0, 0, 0, 0, 0, 0, 0, 0]) (w14.alloc (.cells (zH .u8 (lb [0]) 1 : List Value).toArray 5))) := ⟨H14.out.1.alloc _ 5 rfl, Ow.alloc H14.out.2 _⟩
 clear H14
 generalize hgw : w14.alloc (.cells (zH .u8 (lb [0]) 1 : List Value).toArray 5) = w15 at H15 ⊢
 clear hgw
 generalize w14.heap.size = Js15 at o_Js15 H15 ⊢
 obtain ⟨v16, w16, hr, hO, hM⟩ := H15.out.2.app H15.out.1 rfl (a := ⟨Js15, 0, none⟩) 1 1 (lb [0]) (fun j hj => by rw [add_z]; obtain rfl : j = 0 := (by omega); exact H15.out.1.get 0 rfl 0 rfl) (by decide) 51
 refine zA (d := 85) (v := v16) (w' := w16) rfl rfl rfl (ex_app rfl rfl rfl hr) ?_
 simp only [Act.put, sa, sz, ss]
 have hO2 := hO.cg (P' := lb [3, 1, 1, 97, 0, 0, 0, 0, 0, 0, 0, 0, 0, 0]) (show ∀ j, j < 13 + 1 → ct (lb [3, 1, 1, 97, 0, 0, 0, 0, 0, 0, 0, 0, 0]) 13 (lb [0]) j = lb [3, 1, 1, 97, 0, 0, 0, 0, 0, 0, 0, 0, 0, 0] j from by decide)
 obtain ⟨Js16, xs16, hv, hg1, hg2, hg3⟩ := hO2.fin (by decide)
 have hne : ∀ p ∈ [(Js15, zH .u8 (lb [0]) 1), (Js12, e1c), (Js9, zH .u8 (lb [3, 1, 1, 97, 0, 0, 0, 0, 0, 0, 0, 0, 0]) 13), (Js8, zH .u8 (lb [0, 0, 0, 2, 0, 0, 0, 1, 7, 0, 0, 0, 0]) 13), (Js7, [Value.slice (some ⟨Js6, 0, none⟩) 1 1, Value.slice none 0 0]), (Js6, [Z8 7]), (Js4, zH .u8 (fun _ => 0) 7), (Js2, zH .u8 (lb [0, 0, 0, 0, 0, 0, 1, 2]) 8), (0, dtab)], p.1 ≠ Js16 := fun p hp e => hO2.ne p.1 (List.mem_map_of_mem (f := Prod.fst) hp) (by rw [hv, e]; rfl)
 have o_Js16 : Hid (w.heap.size ≤ Js16) := hg1
 have H16 : Hid (Mm w16 [(Js16, zH .u8 (lb [3, 1, 1, 97, 0, 0, 0, 0, 0, 0, 0, 0, 0, 0]) 14), (Js15, zH .u8 (lb [0]) 1), (Js12, e1c), (Js9, zH .u8 (lb [3, 1, 1, 97, 0, 0, 0, 0, 0, 0, 0, 0, 0]) 13), (Js8, zH .u8 (lb [0, 0, 0, 2, 0, 0, 0, 1, 7, 0, 0, 0, 0]) 13), (Js7, [Value.slice (some ⟨Js6, 0, none⟩) 1 1, Value.slice none 0 0]), (Js6, [Z8 7]), (Js4, zH .u8 (fun _ => 0) 7), (Js2, zH .u8 (lb [0, 0, 0, 0, 0, 0, 1, 2]) 8), (0, dtab)] ∧ Below w.heap.size w w16) := ⟨Mm.cons hM hg3 hg2 hne, hO2.b⟩
 subst hv
 clear hr hO hO2 hM hne hg1 hg2 hg3 H15
 refine zF (d := 86) (R := fun vv w' => vv = .tuple #[.agg ([Value.int .i64 0, Value.int .i64 0, Value.string ⟨#[]⟩, Value.string ⟨#[]⟩, Value.string ⟨#[]⟩, Value.slice none 0 0, Value.slice none 0 0, Value.int .i64 0, Value.slice none 0 0, Value.slice none 0 0, Value.slice none 0 0]).toArray, .int .i64 4] ∧ Below w16.heap.size w16 w') rfl rfl rfl (zG (args := #[.slice (some ⟨Js16, 0, none⟩) 14 (13 + 1 + xs16)]) rfl call21 rfl (mpn rfl)) (Calls.mono (ReadEntry_14 Js16 xs16 w16 (H16.out.1.one 0 rfl)) (fun e w2 hh => ⟨_, hh.1, rfl, hh.2⟩)) ?_
 rintro _ w17 ⟨rfl, hb⟩
 have H17 : Hid (Mm w17 [(Js16, zH .u8 (lb [3, 1, 1, 97, 0, 0, 0, 0, 0, 0, 0, 0, 0, 0]) 14), (Js15, zH .u8 (lb [0]) 1), (Js12, e1c), (Js9, zH .u8 (lb [3, 1, 1, 97, 0, 0, 0, 0, 0, 0, 0, 0, 0]) 13), (Js8, zH .u8 (lb [0, 0, 0, 2, 0, 0, 0, 1, 7, 0, 0, 0, 0]) 13), (Js7, [Value.slice (some ⟨Js6, 0, none⟩) 1 1, Value.slice none 0 0]), (Js6, [Z8 7]), (Js4, zH .u8 (fun _ => 0) 7), (Js2, zH .u8 (lb [0, 0, 0, 0, 0, 0, 1, 2]) 8), (0, dtab)] ∧ Below w.heap.size w w17) := ⟨H16.out.1.below hb, H16.out.2.trans (hb.mono H16.out.2.size)⟩
 clear hb
 clear H16
 simp only [Act.put, sa, sz, ss]
 refine zA (d := 81) (v := .tuple #[.agg ([Value.int .i64 0, Value.int .i64 0, Value.string ⟨#[]⟩, Value.string ⟨#[]⟩, Value.string ⟨#[]⟩, Value.slice none 0 0, Value.slice none 0 0, Value.int .i64 0, Value.slice none 0 0, Value.slice none 0 0, Value.slice none 0 0]).toArray, .int .i64 4]) (w' := w17) rfl rfl rfl (rfl) ?_
 simp only [Act.put, sa, sz, ss]
 refine zA (d := 87) (v := .agg ([Value.int .i64 0, Value.int .i64 0, Value.string ⟨#[]⟩, Value.string ⟨#[]⟩, Value.string ⟨#[]⟩, Value.slice none 0 0, Value.slice none 0 0, Value.int .i64 0, Value.slice none 0 0, Value.slice none 0 0, Value.slice none 0 0]).toArray) (w' := w17) rfl rfl rfl (by go_simp) ?_
 simp only [Act.put, sa, sz, ss]
 refine zA (d := 88) (v := .int .i64 4) (w' := w17) rfl rfl rfl (by go_simp) ?_
 simp only [Act.put, sa, sz, ss]
 refine zA (d := 15) (v := PT w17.heap.size 0) (w' := (w17.alloc (.cells ([Value.int .i64 0, Value.int .i64 0, Value.string ⟨#[]⟩, Value.string ⟨#[]⟩, Value.string ⟨#[]⟩, Value.slice none 0 0, Value.slice none 0 0, Value.int .i64 0, Value.slice none 0 0, Value.slice none 0 0, Value.slice none 0 0] : List Value).toArray 64))) rfl rfl rfl (ex_mk64 rfl) ?_
 simp only [Act.put, sa, sz, ss]
 have o_Js18 : Hid (w.heap.size ≤ w17.heap.size) := H17.out.2.size
 have H18 : Hid (Mm (w17.alloc (.cells ([Value.int .i64 0, Value.int .i64 0, Value.string ⟨#[]⟩, Value.string ⟨#[]⟩, Value.string ⟨#[]⟩, Value.slice none 0 0, Value.slice none 0 0, Value.int .i64 0, Value.slice none 0 0, Value.slice none 0 0, Value.slice none 0 0] : List Value).toArray 64)) ((w17.heap.size, [Value.int .i64 0, Value.int .i64 0, Value.string ⟨#[]⟩, Value.string ⟨#[]⟩, Value.string ⟨#[]⟩, Value.slice none 0 0, Value.slice none 0 0, Value.int .i64 0, Value.slice none 0 0, Value.slice none 0 0, Value.slice none 0 0]) :: [(Js16, zH .u8 (lb [3, 1, 1, 97, 0, 0, 0, 0, 0, 0, 0, 0, 0, 0]) 14), (Js15, zH .u8 (lb [0]) 1), (Js12, e1c), (Js9, zH .u8 (lb [3, 1, 1, 97, 0, 0, 0, 0, 0, 0, 0, 0, 0]) 13), (Js8, zH .u8 (lb [0, 0, 0, 2, 0, 0, 0, 1, 7, 0, 0, 0, 0]) 13), (Js7, [Value.slice (some ⟨Js6, 0, none⟩) 1 1, Value.slice none 0 0]), (Js6, [Z8 7]), (Js4, zH .u8 (fun _ => 0) 7), (Js2, zH .u8 (lb [0, 0, 0, 0, 0, 0, 1, 2]) 8), (0, dtab)]) ∧ Below w.heap.size w (w17.alloc (.cells ([Value.int .i64 0, Value.int .i64 0, Value.string ⟨#[]⟩, Value.string ⟨#[]⟩, Value.string ⟨#[]⟩, Value.slice none 0 0, Value.slice none 0 0, Value.int .i64 0, Value.slice none 0 0, Value.slice none 0 0, Value.slice none 0 0] : List Value).toArray 64))) := ⟨H17.out.1.alloc _ 64 rfl, H17.out.2.trans (((Below.refl _ _).alloc (Nat.le_refl _) _).mono H17.out.2.size)⟩
 clear H17
 generalize hgw : w17.alloc (.cells ([Value.int .i64 0, Value.int .i64 0, Value.string ⟨#[]⟩, Value.string ⟨#[]⟩, Value.string ⟨#[]⟩, Value.slice none 0 0, Value.slice none 0 0, Value.int .i64 0, Value.slice none 0 0, Value.slice none 0 0, Value.slice none 0 0] : List Value).toArray 64) = w18 at H18 ⊢
 clear hgw
 generalize w17.heap.size = Js18 at o_Js18 H18 ⊢
 refine sG rfl (fun h => ex_storeT (vs := [Value.int .i64 0, Value.int .i64 0, Value.string ⟨#[]⟩, Value.string ⟨#[]⟩, Value.string ⟨#[]⟩, Value.slice none 0 0, Value.slice none 0 0, Value.int .i64 0, Value.slice none 0 0, Value.slice none 0 0, Value.slice none 0 0]) h 0 rfl rfl rfl rfl As64 rfl (Nat.le_of_ble_eq_true rfl)) 0 [(_, [Value.int .i64 0, Value.int .i64 0, Value.string ⟨#[]⟩, Value.string ⟨#[]⟩, Value.string ⟨#[]⟩, Value.slice none 0 0, Value.slice none 0 0, Value.int .i64 0, Value.slice none 0 0, Value.slice none 0 0, Value.slice none 0 0]), _, _, _, _, _, _, _, _, _, _] H18 o_Js18 fun w19 H19 => ?_
 clear H18
 refine zA (d := 16) (v := .int .i64 4) (w' := w19) rfl rfl rfl (rfl) ?_
 simp only [Act.put, sa, sz, ss]
 refine zC (zB (wp_seq ?_))
 refine zD (l := [0, 1, 2, 3, 4, 5, 6, 7, 8, 9, 10, 11, 12, 13, 14, 15]) rfl ?_
 refine zA (d := 89) (v := .int .i64 4) (w' := w19) rfl rfl rfl (rfl) ?_
 simp only [Act.put, sa, sz, ss]
 refine zA (d := 90) (v := .bool true) (w' := w19) rfl rfl rfl (by kernel_rfl) ?_
 simp only [Act.put, sa, sz, ss]
 refine zA (d := 91) (v := .bool true) (w' := w19) rfl rfl rfl (rfl) ?_
 simp only [Act.put, sa, sz, ss]
 refine zA (d := 92) (v := .int .i64 0) (w' := w19) rfl rfl rfl (rfl) ?_
 simp only [Act.put, sa, sz, ss]
 refine zA (d := 93) (v := .bool true) (w' := w19) rfl rfl rfl (by kernel_rfl) ?_
 simp only [Act.put, sa, sz, ss]
 refine zA (d := 94) (v := .bool true) (w' := w19) rfl rfl rfl (by go_simp) ?_
 simp only [Act.put, sa, sz, ss]
 refine zA (d := 95) (v := .bool true) (w' := w19) rfl rfl rfl (rfl) ?_
 simp only [Act.put, sa, sz, ss]
 refine zA (d := 96) (v := .int .i64 4) (w' := w19) rfl rfl rfl (rfl) ?_
 simp only [Act.put, sa, sz, ss]
 refine zA (d := 97) (v := .bool true) (w' := w19) rfl rfl rfl (by kernel_rfl) ?_
 simp only [Act.put, sa, sz, ss]
 refine zA (d := 98) (v := .bool true) (w' := w19) rfl rfl rfl (by go_simp) ?_
 simp only [Act.put, sa, sz, ss]
 refine zA (d := 99) (v := .bool true) (w' := w19) rfl rfl rfl (rfl) ?_
 simp only [Act.put, sa, sz, ss]
 refine zA (d := 100) (v := .agg (e1c).toArray) (w' := w19) rfl rfl rfl (ex_loadT H19.out.1 3 rfl rfl rfl Ai64 As64 rfl rfl) ?_
 simp only [Act.put, sa, sz, ss]
 refine zA (d := 101) (v := .agg (e1c).toArray) (w' := w19) rfl rfl rfl (by kernel_rfl) ?_
 simp only [Act.put, sa, sz, ss]
 refine zF (d := 102) (R := fun vv w' => vv = .bool true ∧ Below w19.heap.size w19 w') rfl rfl rfl (zG (args := #[.agg (e1c).toArray, .agg (e1c).toArray]) rfl call23 rfl (mpn rfl)) (Calls.mono (SameEntry_1 w19) (fun e w2 hh => ⟨_, hh.1, rfl, hh.2⟩)) ?_
 rintro _ w20 ⟨rfl, hb⟩
 have H20 : Hid (Mm w20 [(Js18, [Value.int .i64 0, Value.int .i64 0, Value.string ⟨#[]⟩, Value.string ⟨#[]⟩, Value.string ⟨#[]⟩, Value.slice none 0 0, Value.slice none 0 0, Value.int .i64 0, Value.slice none 0 0, Value.slice none 0 0, Value.slice none 0 0]), (Js16, zH .u8 (lb [3, 1, 1, 97, 0, 0, 0, 0, 0, 0, 0, 0, 0, 0]) 14), (Js15, zH .u8 (lb [0]) 1), (Js12, e1c), (Js9, zH .u8 (lb [3, 1, 1, 97, 0, 0, 0, 0, 0, 0, 0, 0, 0]) 13), (Js8, zH .u8 (lb [0, 0, 0, 2, 0, 0, 0, 1, 7, 0, 0, 0, 0]) 13), (Js7, [Value.slice (some ⟨Js6, 0, none⟩) 1 1, Value.slice none 0 0]), (Js6, [Z8 7]), (Js4, zH .u8 (fun _ => 0) 7), (Js2, zH .u8 (lb [0, 0, 0, 0, 0, 0, 1, 2]) 8), (0, dtab)] ∧ Below w.heap.size w w20) := ⟨H19.out.1.below hb, H19.out.2.trans (hb.mono H19.out.2.size)⟩
 clear hb
 clear H19
 simp only [Act.put, sa, sz, ss]
 refine zA (d := 103) (v := .bool true) (w' := w20) rfl rfl rfl (by go_simp) ?_
 simp only [Act.put, sa, sz, ss]
 refine zA (d := 17) (v := .bool true) (w' := w20) rfl rfl rfl (rfl) ?_
 simp only [Act.put, sa, sz, ss]
 refine zC (zB (wp_seq ?_))
 refine zD (l := [0, 1, 2, 3, 4, 5, 6, 7, 8, 9, 10, 11, 12, 13, 14, 15, 16]) rfl ?_
 refine zA (d := 104) (v := .bool true) (w' := w20) rfl rfl rfl (rfl) ?_
 simp only [Act.put, sa, sz, ss]
 refine zA (d := 105) (v := .bool true) (w' := w20) rfl rfl rfl (rfl) ?_
 simp only [Act.put, sa, sz, ss]
 refine zA (d := 106) (v := .slice (some ⟨Js2, 0, none⟩) 8 (8 + xs2)) (w' := w20) rfl rfl rfl (rfl) ?_
 simp only [Act.put, sa, sz, ss]
 refine zA (d := 107) (v := .slice (some ⟨w20.heap.size, 0, none⟩) 8 8) (w' := (w20.alloc (.cells (zH .u8 (lb [0, 0, 0, 0, 0, 0, 1, 2]) 8 : List Value).toArray 5))) rfl rfl rfl (ex_lit_8_0 rfl (fun _ => rfl)) ?_
 simp only [Act.put, sa, sz, ss]
 have o_Js21 : Hid (w.heap.size ≤ w20.heap.size) := H20.out.2.size
 have H21 : Hid (Mm (w20.alloc (.cells (zH .u8 (lb [0, 0, 0, 0, 0, 0, 1, 2]) 8 : List Value).toArray 5)) ((w20.heap.size, zH .u8 (lb [0, 0, 0, 0, 0, 0, 1, 2]) 8) :: [(Js18, [Value.int .i64 0, Value.int .i64 0, Value.string ⟨#[]⟩, Value.string ⟨#[]⟩, Value.string ⟨#[]⟩, Value.slice none 0 0, Value.slice none 0 0, Value.int .i64 0, Value.slice none 0 0, Value.slice none 0 0, Value.slice none 0 0]), (Js16, zH .u8 (lb [3, 1, 1, 97, 0, 0, 0, 0, 0, 0, 0, 0, 0, 0]) 14), (Js15, zH .u8 (lb [0]) 1), (Js12, e1c), (Js9, zH .u8 (lb [3, 1, 1, 97, 0, 0, 0, 0, 0, 0, 0, 0, 0]) 13), (Js8, zH .u8 (lb [0, 0, 0, 2, 0, 0, 0, 1, 7, 0, 0, 0, 0]) 13), (Js7, [Value.slice (some ⟨Js6, 0, none⟩) 1 1, Value.slice none 0 0]), (Js6, [Z8 7]), (Js4, zH .u8 (fun _ => 0) 7), (Js2, zH .u8 (lb [0, 0, 0, 0, 0, 0, 1, 2]) 8), (0, dtab)]) ∧ Below w.heap.size w (w20.alloc (.cells (zH .u8 (lb [0, 0, 0, 0, 0, 0, 1, 2]) 8 : List Value).toArray 5))) := ⟨H20.out.1.alloc _ 5 rfl, H20.out.2.trans (((Below.refl _ _).alloc (Nat.le_refl _) _).mono H20.out.2.size)⟩
 clear H20
 generalize hgw : w20.alloc (.cells (zH .u8 (lb [0, 0, 0, 0, 0, 0, 1, 2]) 8 : List Value).toArray 5) = w21 at H21 ⊢
 clear hgw
 generalize w20.heap.size = Js21 at o_Js21 H21 ⊢
 refine zF (d := 108) (R := fun vv w' => vv = .bool true ∧ Below w21.heap.size w21 w') rfl rfl rfl (zG (args := #[.slice (some ⟨Js2, 0, none⟩) 8 (8 + xs2), .slice (some ⟨Js21, 0, none⟩) 8 8]) rfl call24 rfl (mpn rfl)) (Calls.mono (same_bb (H21.out.1.bsl 10 rfl (Nat.le_refl _) (by omega)) (H21.out.1.bsl 0 rfl (Nat.le_refl _) (by omega))) (fun e w2 hh => ⟨_, hh.1, rfl, hh.2⟩)) ?_
 rintro _ w22 ⟨rfl, hb⟩
 have H22 : Hid (Mm w22 [(Js21, zH .u8 (lb [0, 0, 0, 0, 0, 0, 1, 2]) 8), (Js18, [Value.int .i64 0, Value.int .i64 0, Value.string ⟨#[]⟩, Value.string ⟨#[]⟩, Value.string ⟨#[]⟩, Value.slice none 0 0, Value.slice none 0 0, Value.int .i64 0, Value.slice none 0 0, Value.slice none 0 0, Value.slice none 0 0]), (Js16, zH .u8 (lb [3, 1, 1, 97, 0, 0, 0, 0, 0, 0, 0, 0, 0, 0]) 14), (Js15, zH .u8 (lb [0]) 1), (Js12, e1c), (Js9, zH .u8 (lb [3, 1, 1, 97, 0, 0, 0, 0, 0, 0, 0, 0, 0]) 13), (Js8, zH .u8 (lb [0, 0, 0, 2, 0, 0, 0, 1, 7, 0, 0, 0, 0]) 13), (Js7, [Value.slice (some ⟨Js6, 0, none⟩) 1 1, Value.slice none 0 0]), (Js6, [Z8 7]), (Js4, zH .u8 (fun _ => 0) 7), (Js2, zH .u8 (lb [0, 0, 0, 0, 0, 0, 1, 2]) 8), (0, dtab)] ∧ Below w.heap.size w w22) := ⟨H21.out.1.below hb, H21.out.2.trans (hb.mono H21.out.2.size)⟩
 clear hb
 clear H21
 simp only [Act.put, sa, sz, ss]
 refine zA (d := 109) (v := .bool true) (w' := w22) rfl rfl rfl (by go_simp) ?_
 simp only [Act.put, sa, sz, ss]
 refine zA (d := 110) (v := .bool true) (w' := w22) rfl rfl rfl (rfl) ?_
 simp only [Act.put, sa, sz, ss]
 refine zA (d := 111) (v := .slice (some ⟨Js8, 0, none⟩) 13 (13 + xs8)) (w' := w22) rfl rfl rfl (rfl) ?_
 simp only [Act.put, sa, sz, ss]
 refine zA (d := 112) (v := .slice (some ⟨w22.heap.size, 0, none⟩) 13 13) (w' := (w22.alloc (.cells (zH .u8 (lb [0, 0, 0, 2, 0, 0, 0, 1, 7, 0, 0, 0, 0]) 13 : List Value).toArray 5))) rfl rfl rfl (ex_lit_13_0 rfl (fun _ => rfl)) ?_
 simp only [Act.put, sa, sz, ss]
 have o_Js23 : Hid (w.heap.size ≤ w22.heap.size) := H22.out.2.size
 have H23 : Hid (Mm (w22.alloc (.cells (zH .u8 (lb [0, 0, 0, 2, 0, 0, 0, 1, 7, 0, 0, 0, 0]) 13 : List Value).toArray 5)) ((w22.heap.size, zH .u8 (lb [0, 0, 0, 2, 0, 0, 0, 1, 7, 0, 0, 0, 0]) 13) :: [(Js21, zH .u8 (lb [0, 0, 0, 0, 0, 0, 1, 2]) 8), (Js18, [Value.int .i64 0, Value.int .i64 0, Value.string ⟨#[]⟩, Value.string ⟨#[]⟩, Value.string ⟨#[]⟩, Value.slice none 0 0, Value.slice none 0 0, Value.int .i64 0, Value.slice none 0 0, Value.slice none 0 0, Value.slice none 0 0]), (Js16, zH .u8 (lb [3, 1, 1, 97, 0, 0, 0, 0, 0, 0, 0, 0, 0, 0]) 14), (Js15, zH .u8 (lb [0]) 1), (Js12, e1c), (Js9, zH .u8 (lb [3, 1, 1, 97, 0, 0, 0, 0, 0, 0, 0, 0, 0]) 13), (Js8, zH .u8 (lb [0, 0, 0, 2, 0, 0, 0, 1, 7, 0, 0, 0, 0]) 13), (Js7, [Value.slice (some ⟨Js6, 0, none⟩) 1 1, Value.slice none 0 0]), (Js6, [Z8 7]), (Js4, zH .u8 (fun _ => 0) 7), (Js2, zH .u8 (lb [0, 0, 0, 0, 0, 0, 1, 2]) 8), (0, dtab)]) ∧ Below w.heap.size w (w22.alloc (.cells (zH .u8 (lb [0, 0, 0, 2, 0, 0, 0, 1, 7, 0, 0, 0, 0]) 13 : List Value).toArray 5))) := ⟨H22.out.1.alloc _ 5 rfl, H22.out.2.trans (((Below.refl _ _).alloc (Nat.le_refl _) _).mono H22.out.2.size)⟩
 clear H22
 generalize hgw : w22.alloc (.cells (zH .u8 (lb [0, 0, 0, 2, 0, 0, 0, 1, 7, 0, 0, 0, 0]) 13 : List Value).toArray 5) = w23 at H23 ⊢
 clear hgw
 generalize w22.heap.size = Js23 at o_Js23 H23 ⊢
 refine zF (d := 113) (R := fun vv w' => vv = .bool true ∧ Below w23.heap.size w23 w') rfl rfl rfl (zG (args := #[.slice (some ⟨Js8, 0, none⟩) 13 (13 + xs8), .slice (some ⟨Js23, 0, none⟩) 13 13]) rfl call24 rfl (mpn rfl)) (Calls.mono (same_bb (H23.out.1.bsl 7 rfl (Nat.le_refl _) (by omega)) (H23.out.1.bsl 0 rfl (Nat.le_refl _) (by omega))) (fun e w2 hh => ⟨_, hh.1, rfl, hh.2⟩)) ?_
 rintro _ w24 ⟨rfl, hb⟩
 have H24 : Hid (Mm w24 [(Js23, zH .u8 (lb [0, 0, 0, 2, 0, 0, 0, 1, 7, 0, 0, 0, 0]) 13), (Js21, zH .u8 (lb [0, 0, 0, 0, 0, 0, 1, 2]) 8), (Js18, [Value.int .i64 0, Value.int .i64 0, Value.string ⟨#[]⟩, Value.string ⟨#[]⟩, Value.string ⟨#[]⟩, Value.slice none 0 0, Value.slice none 0 0, Value.int .i64 0, Value.slice none 0 0, Value.slice none 0 0, Value.slice none 0 0]), (Js16, zH .u8 (lb [3, 1, 1, 97, 0, 0, 0, 0, 0, 0, 0, 0, 0, 0]) 14), (Js15, zH .u8 (lb [0]) 1), (Js12, e1c), (Js9, zH .u8 (lb [3, 1, 1, 97, 0, 0, 0, 0, 0, 0, 0, 0, 0]) 13), (Js8, zH .u8 (lb [0, 0, 0, 2, 0, 0, 0, 1, 7, 0, 0, 0, 0]) 13), (Js7, [Value.slice (some ⟨Js6, 0, none⟩) 1 1, Value.slice none 0 0]), (Js6, [Z8 7]), (Js4, zH .u8 (fun _ => 0) 7), (Js2, zH .u8 (lb [0, 0, 0, 0, 0, 0, 1, 2]) 8), (0, dtab)] ∧ Below w.heap.size w w24) := ⟨H23.out.1.below hb, H23.out.2.trans (hb.mono H23.out.2.size)⟩
 clear hb
 clear H23
 simp only [Act.put, sa, sz, ss]
 refine zA (d := 114) (v := .bool true) (w' := w24) rfl rfl rfl (by go_simp) ?_
 simp only [Act.put, sa, sz, ss]
 refine zA (d := 115) (v := .bool true) (w' := w24) rfl rfl rfl (rfl) ?_
 simp only [Act.put, sa, sz, ss]
 refine zA (d := 116) (v := .slice (some ⟨Js9, 0, none⟩) 13 (13 + xs9)) (w' := w24) rfl rfl rfl (rfl) ?_
 simp only [Act.put, sa, sz, ss]
 refine zA (d := 117) (v := .slice (some ⟨w24.heap.size, 0, none⟩) 13 13) (w' := (w24.alloc (.cells (zH .u8 (lb [3, 1, 1, 97, 0, 0, 0, 0, 0, 0, 0, 0, 0]) 13 : List Value).toArray 5))) rfl rfl rfl (ex_lit_13_3 rfl (fun _ => rfl)) ?_
 simp only [Act.put, sa, sz, ss]
 have o_Js25 : Hid (w.heap.size ≤ w24.heap.size) := H24.out.2.size
 have H25 : Hid (Mm (w24.alloc (.cells (zH .u8 (lb [3, 1, 1, 97, 0, 0, 0, 0, 0, 0, 0, 0, 0]) 13 : List Value).toArray 5)) ((w24.heap.size, zH .u8 (lb [3, 1, 1, 97, 0, 0, 0, 0, 0, 0, 0, 0, 0]) 13) :: [(Js23, zH .u8 (lb [0, 0, 0, 2, 0, 0, 0, 1, 7, 0, 0, 0, 0]) 13), (Js21, zH .u8 (lb [0, 0, 0, 0, 0, 0, 1, 2]) 8), (Js18, [Value.int .i64 0, Value.int .i64 0, Value.string ⟨#[]⟩, Value.string ⟨#[]⟩, Value.string ⟨#[]⟩, Value.slice none 0 0, Value.slice none 0 0, Value.int .i64 0, Value.slice none 0 0, Value.slice none 0 0, Value.slice none 0 0]), (Js16, zH .u8 (lb [3, 1, 1, 97, 0, 0, 0, 0, 0, 0, 0, 0, 0, 0]) 14), (Js15, zH .u8 (lb [0]) 1), (Js12, e1c), (Js9, zH .u8 (lb [3, 1, 1, 97, 0, 0, 0, 0, 0, 0, 0, 0, 0]) 13), (Js8, zH .u8 (lb [0, 0, 0, 2, 0, 0, 0, 1, 7, 0, 0, 0, 0]) 13), (Js7, [Value.slice (some ⟨Js6, 0, none⟩) 1 1, Value.slice none 0 0]), (Js6, [Z8 7]), (Js4, zH .u8 (fun _ => 0) 7), (Js2, zH .u8 (lb [0, 0, 0, 0, 0, 0, 1, 2]) 8), (0, dtab)]) ∧ Below w.heap.size w (w24.alloc (.cells (zH .u8 (lb [3, 1, 1, 97, 0, 0, 0, 0, 0, 0, 0, 0, 0]) 13 : List Value).toArray 5))) := ⟨H24.out.1.alloc _ 5 rfl, H24.out.2.trans (((Below.refl _ _).alloc (Nat.le_refl _) _).mono H24.out.2.size)⟩
 clear H24
 generalize hgw : w24.alloc (.cells (zH .u8 (lb [3, 1, 1, 97, 0, 0, 0, 0, 0, 0, 0, 0, 0]) 13 : List Value).toArray 5) = w25 at H25 ⊢
 clear hgw
 generalize w24.heap.size = Js25 at o_Js25 H25 ⊢
 refine zF (d := 118) (R := fun vv w' => vv = .bool true ∧ Below w25.heap.size w25 w') rfl rfl rfl (zG (args := #[.slice (some ⟨Js9, 0, none⟩) 13 (13 + xs9), .slice (some ⟨Js25, 0, none⟩) 13 13]) rfl call24 rfl (mpn rfl)) (Calls.mono (same_bb (H25.out.1.bsl 7 rfl (Nat.le_refl _) (by omega)) (H25.out.1.bsl 0 rfl (Nat.le_refl _) (by omega))) (fun e w2 hh => ⟨_, hh.1, rfl, hh.2⟩)) ?_
 rintro _ w26 ⟨rfl, hb⟩
 have H26 : Hid (Mm w26 [(Js25, zH .u8 (lb [3, 1, 1, 97, 0, 0, 0, 0, 0, 0, 0, 0, 0]) 13), (Js23, zH .u8 (lb [0, 0, 0, 2, 0, 0, 0, 1, 7, 0, 0, 0, 0]) 13), (Js21, zH .u8 (lb [0, 0, 0, 0, 0, 0, 1, 2]) 8), (Js18, [Value.int .i64 0, Value.int .i64 0, Value.string ⟨#[]⟩, Value.string ⟨#[]⟩, Value.string ⟨#[]⟩, Value.slice none 0 0, Value.slice none 0 0, Value.int .i64 0, Value.slice none 0 0, Value.slice none 0 0, Value.slice none 0 0]), (Js16, zH .u8 (lb [3, 1, 1, 97, 0, 0, 0, 0, 0, 0, 0, 0, 0, 0]) 14), (Js15, zH .u8 (lb [0]) 1), (Js12, e1c), (Js9, zH .u8 (lb [3, 1, 1, 97, 0, 0, 0, 0, 0, 0, 0, 0, 0]) 13), (Js8, zH .u8 (lb [0, 0, 0, 2, 0, 0, 0, 1, 7, 0, 0, 0, 0]) 13), (Js7, [Value.slice (some ⟨Js6, 0, none⟩) 1 1, Value.slice none 0 0]), (Js6, [Z8 7]), (Js4, zH .u8 (fun _ => 0) 7), (Js2, zH .u8 (lb [0, 0, 0, 0, 0, 0, 1, 2]) 8), (0, dtab)] ∧ Below w.heap.size w w26) := ⟨H25.out.1.below hb, H25.out.2.trans (hb.mono H25.out.2.size)⟩
 clear hb
 clear H25
 simp only [Act.put, sa, sz, ss]
 refine zA (d := 119) (v := .bool true) (w' := w26) rfl rfl rfl (by go_simp) ?_
 simp only [Act.put, sa, sz, ss]
 refine zA (d := 17) (v := .bool true) (w' := w26) rfl rfl rfl (rfl) ?_
 simp only [Act.put, sa, sz, ss]
 refine zC (zB (wp_seq ?_))
 refine zD (l := [0, 1, 2, 3, 4, 5, 6, 7, 8, 9, 10, 11, 12, 13, 14, 15, 16, 17, 18, 19, 20, 21, 22, 23, 24, 25]) rfl ?_
 refine zA (d := 120) (v := .bool true) (w' := w26) rfl rfl rfl (rfl) ?_
 simp only [Act.put, sa, sz, ss]
 refine zA (d := 121) (v := .bool true) (w' := w26) rfl rfl rfl (rfl) ?_
 simp only [Act.put, sa, sz, ss]
 refine zA (d := 122) (v := .agg ([Value.int .i64 256, Value.int .i64 0, Value.string ⟨#[]⟩, Value.string ⟨#[]⟩, Value.string ⟨#[]⟩, Value.slice none 0 0, Value.slice none 0 0, Value.int .i64 0, Value.slice none 0 0, Value.slice none 0 0, Value.slice none 0 0]).toArray) (w' := w26) rfl rfl rfl (by kernel_rfl) ?_
 simp only [Act.put, sa, sz, ss]
 refine zF (d := 123) (R := fun vv w' => vv = .int .i64 2 ∧ Below w26.heap.size w26 w') rfl rfl rfl (zG (args := #[.agg ([Value.int .i64 256, Value.int .i64 0, Value.string ⟨#[]⟩, Value.string ⟨#[]⟩, Value.string ⟨#[]⟩, Value.slice none 0 0, Value.slice none 0 0, Value.int .i64 0, Value.slice none 0 0, Value.slice none 0 0, Value.slice none 0 0]).toArray]) rfl call25 rfl (mpn rfl)) (Calls.mono (Check_2 w26) (fun e w2 hh => ⟨_, hh.1, rfl, hh.2⟩)) ?_
 rintro _ w27 ⟨rfl, hb⟩
 have H27 : Hid (Mm w27 [(Js25, zH .u8 (lb [3, 1, 1, 97, 0, 0, 0, 0, 0, 0, 0, 0, 0]) 13), (Js23, zH .u8 (lb [0, 0, 0, 2, 0, 0, 0, 1, 7, 0, 0, 0, 0]) 13), (Js21, zH .u8 (lb [0, 0, 0, 0, 0, 0, 1, 2]) 8), (Js18, [Value.int .i64 0, Value.int .i64 0, Value.string ⟨#[]⟩, Value.string ⟨#[]⟩, Value.string ⟨#[]⟩, Value.slice none 0 0, Value.slice none 0 0, Value.int .i64 0, Value.slice none 0 0, Value.slice none 0 0, Value.slice none 0 0]), (Js16, zH .u8 (lb [3, 1, 1, 97, 0, 0, 0, 0, 0, 0, 0, 0, 0, 0]) 14), (Js15, zH .u8 (lb [0]) 1), (Js12, e1c), (Js9, zH .u8 (lb [3, 1, 1, 97, 0, 0, 0, 0, 0, 0, 0, 0, 0]) 13), (Js8, zH .u8 (lb [0, 0, 0, 2, 0, 0, 0, 1, 7, 0, 0, 0, 0]) 13), (Js7, [Value.slice (some ⟨Js6, 0, none⟩) 1 1, Value.slice none 0 0]), (Js6, [Z8 7]), (Js4, zH .u8 (fun _ => 0) 7), (Js2, zH .u8 (lb [0, 0, 0, 0, 0, 0, 1, 2]) 8), (0, dtab)] ∧ Below w.heap.size w w27) := ⟨H26.out.1.below hb, H26.out.2.trans (hb.mono H26.out.2.size)⟩
 clear hb
 clear H26
 simp only [Act.put, sa, sz, ss]
 refine zA (d := 124) (v := .bool true) (w' := w27) rfl rfl rfl (by kernel_rfl) ?_
 simp only [Act.put, sa, sz, ss]
 refine zA (d := 125) (v := .bool true) (w' := w27) rfl rfl rfl (by go_simp) ?_
 simp only [Act.put, sa, sz, ss]
 refine zA (d := 126) (v := .bool true) (w' := w27) rfl rfl rfl (rfl) ?_
 simp only [Act.put, sa, sz, ss]
 refine zA (d := 127) (v := .agg ([Value.int .i64 0, Value.int .i64 0, Value.string ⟨#[]⟩, Value.string ⟨#[]⟩, Value.string ⟨#[]⟩, Value.slice none 0 0, Value.slice none 0 0, Value.int .i64 3, Value.slice none 0 0, Value.slice none 0 0, Value.slice none 0 0]).toArray) (w' := w27) rfl rfl rfl (by kernel_rfl) ?_
 simp only [Act.put, sa, sz, ss]
 refine zF (d := 128) (R := fun vv w' => vv = .int .i64 2 ∧ Below w27.heap.size w27 w') rfl rfl rfl (zG (args := #[.agg ([Value.int .i64 0, Value.int .i64 0, Value.string ⟨#[]⟩, Value.string ⟨#[]⟩, Value.string ⟨#[]⟩, Value.slice none 0 0, Value.slice none 0 0, Value.int .i64 3, Value.slice none 0 0, Value.slice none 0 0, Value.slice none 0 0]).toArray]) rfl call25 rfl (mpn rfl)) (Calls.mono (Check_3 w27) (fun e w2 hh => ⟨_, hh.1, rfl, hh.2⟩)) ?_
 rintro _ w28 ⟨rfl, hb⟩
 have H28 : Hid (Mm w28 [(Js25, zH .u8 (lb [3, 1, 1, 97, 0, 0, 0, 0, 0, 0, 0, 0, 0]) 13), (Js23, zH .u8 (lb [0, 0, 0, 2, 0, 0, 0, 1, 7, 0, 0, 0, 0]) 13), (Js21, zH .u8 (lb [0, 0, 0, 0, 0, 0, 1, 2]) 8), (Js18, [Value.int .i64 0, Value.int .i64 0, Value.string ⟨#[]⟩, Value.string ⟨#[]⟩, Value.string ⟨#[]⟩, Value.slice none 0 0, Value.slice none 0 0, Value.int .i64 0, Value.slice none 0 0, Value.slice none 0 0, Value.slice none 0 0]), (Js16, zH .u8 (lb [3, 1, 1, 97, 0, 0, 0, 0, 0, 0, 0, 0, 0, 0]) 14), (Js15, zH .u8 (lb [0]) 1), (Js12, e1c), (Js9, zH .u8 (lb [3, 1, 1, 97, 0, 0, 0, 0, 0, 0, 0, 0, 0]) 13), (Js8, zH .u8 (lb [0, 0, 0, 2, 0, 0, 0, 1, 7, 0, 0, 0, 0]) 13), (Js7, [Value.slice (some ⟨Js6, 0, none⟩) 1 1, Value.slice none 0 0]), (Js6, [Z8 7]), (Js4, zH .u8 (fun _ => 0) 7), (Js2, zH .u8 (lb [0, 0, 0, 0, 0, 0, 1, 2]) 8), (0, dtab)] ∧ Below w.heap.size w w28) := ⟨H27.out.1.below hb, H27.out.2.trans (hb.mono H27.out.2.size)⟩
 clear hb
 clear H27
 simp only [Act.put, sa, sz, ss]
 refine zA (d := 129) (v := .bool true) (w' := w28) rfl rfl rfl (by kernel_rfl) ?_
 simp only [Act.put, sa, sz, ss]
 refine zA (d := 130) (v := .bool true) (w' := w28) rfl rfl rfl (by go_simp) ?_
 simp only [Act.put, sa, sz, ss]
 refine zA (d := 131) (v := .bool true) (w' := w28) rfl rfl rfl (rfl) ?_
 simp only [Act.put, sa, sz, ss]
 refine zA (d := 132) (v := N 65521) (w' := w28) rfl rfl rfl (ex_num rfl (fun _ => rfl)) ?_
 simp only [Act.put, sa, sz, ss]
 refine zA (d := 133) (v := .slice (some ⟨w28.heap.size, 0, none⟩) 1 1) (w' := (w28.alloc (.cells (zE 65521 : List Value).toArray 24))) rfl rfl rfl (ex_bsNum rfl rfl) ?_
 simp only [Act.put, sa, sz, ss]
 have o_Js29 : Hid (w.heap.size ≤ w28.heap.size) := H28.out.2.size
 have H29 : Hid (Mm (w28.alloc (.cells (zE 65521 : List Value).toArray 24)) ((w28.heap.size, zE 65521) :: [(Js25, zH .u8 (lb [3, 1, 1, 97, 0, 0, 0, 0, 0, 0, 0, 0, 0]) 13), (Js23, zH .u8 (lb [0, 0, 0, 2, 0, 0, 0, 1, 7, 0, 0, 0, 0]) 13), (Js21, zH .u8 (lb [0, 0, 0, 0, 0, 0, 1, 2]) 8), (Js18, [Value.int .i64 0, Value.int .i64 0, Value.string ⟨#[]⟩, Value.string ⟨#[]⟩, Value.string ⟨#[]⟩, Value.slice none 0 0, Value.slice none 0 0, Value.int .i64 0, Value.slice none 0 0, Value.slice none 0 0, Value.slice none 0 0]), (Js16, zH .u8 (lb [3, 1, 1, 97, 0, 0, 0, 0, 0, 0, 0, 0, 0, 0]) 14), (Js15, zH .u8 (lb [0]) 1), (Js12, e1c), (Js9, zH .u8 (lb [3, 1, 1, 97, 0, 0, 0, 0, 0, 0, 0, 0, 0]) 13), (Js8, zH .u8 (lb [0, 0, 0, 2, 0, 0, 0, 1, 7, 0, 0, 0, 0]) 13), (Js7, [Value.slice (some ⟨Js6, 0, none⟩) 1 1, Value.slice none 0 0]), (Js6, [Z8 7]), (Js4, zH .u8 (fun _ => 0) 7), (Js2, zH .u8 (lb [0, 0, 0, 0, 0, 0, 1, 2]) 8), (0, dtab)]) ∧ Below w.heap.size w (w28.alloc (.cells (zE 65521 : List Value).toArray 24))) := ⟨H28.out.1.alloc _ 24 rfl, H28.out.2.trans (((Below.refl _ _).alloc (Nat.le_refl _) _).mono H28.out.2.size)⟩
 clear H28
 generalize hgw : w28.alloc (.cells (zE 65521 : List Value).toArray 24) = w29 at H29 ⊢
 clear hgw
 generalize w28.heap.size = Js29 at o_Js29 H29 ⊢
 refine zA (d := 134) (v := .agg ([Value.int .i64 0, Value.int .i64 0, Value.string ⟨#[]⟩, Value.string ⟨#[]⟩, Value.string ⟨#[]⟩, Value.slice none 0 0, Value.slice none 0 0, Value.int .i64 1, Value.slice (some ⟨Js29, 0, none⟩) 1 1, Value.slice none 0 0, Value.slice none 0 0]).toArray) (w' := w29) rfl rfl rfl (by kernel_rfl) ?_
 simp only [Act.put, sa, sz, ss]
 refine zF (d := 135) (R := fun vv w' => vv = .int .i64 2 ∧ Below w29.heap.size w29 w') rfl rfl rfl (zG (args := #[.agg ([Value.int .i64 0, Value.int .i64 0, Value.string ⟨#[]⟩, Value.string ⟨#[]⟩, Value.string ⟨#[]⟩, Value.slice none 0 0, Value.slice none 0 0, Value.int .i64 1, Value.slice (some ⟨Js29, 0, none⟩) 1 1, Value.slice none 0 0, Value.slice none 0 0]).toArray]) rfl call25 rfl (mpn rfl)) (Calls.mono (Check_4 Js29 w29 (H29.out.1.one 0 rfl)) (fun e w2 hh => ⟨_, hh.1, rfl, hh.2⟩)) ?_
 rintro _ w30 ⟨rfl, hb⟩
 have H30 : Hid (Mm w30 [(Js29, zE 65521), (Js25, zH .u8 (lb [3, 1, 1, 97, 0, 0, 0, 0, 0, 0, 0, 0, 0]) 13), (Js23, zH .u8 (lb [0, 0, 0, 2, 0, 0, 0, 1, 7, 0, 0, 0, 0]) 13), (Js21, zH .u8 (lb [0, 0, 0, 0, 0, 0, 1, 2]) 8), (Js18, [Value.int .i64 0, Value.int .i64 0, Value.string ⟨#[]⟩, Value.string ⟨#[]⟩, Value.string ⟨#[]⟩, Value.slice none 0 0, Value.slice none 0 0, Value.int .i64 0, Value.slice none 0 0, Value.slice none 0 0, Value.slice none 0 0]), (Js16, zH .u8 (lb [3, 1, 1, 97, 0, 0, 0, 0, 0, 0, 0, 0, 0, 0]) 14), (Js15, zH .u8 (lb [0]) 1), (Js12, e1c), (Js9, zH .u8 (lb [3, 1, 1, 97, 0, 0, 0, 0, 0, 0, 0, 0, 0]) 13), (Js8, zH .u8 (lb [0, 0, 0, 2, 0, 0, 0, 1, 7, 0, 0, 0, 0]) 13), (Js7, [Value.slice (some ⟨Js6, 0, none⟩) 1 1, Value.slice none 0 0]), (Js6, [Z8 7]), (Js4, zH .u8 (fun _ => 0) 7), (Js2, zH .u8 (lb [0, 0, 0, 0, 0, 0, 1, 2]) 8), (0, dtab)] ∧ Below w.heap.size w w30) := ⟨H29.out.1.below hb, H29.out.2.trans (hb.mono H29.out.2.size)⟩
 clear hb
 clear H29
 simp only [Act.put, sa, sz, ss]
 refine zA (d := 136) (v := .bool true) (w' := w30) rfl rfl rfl (by kernel_rfl) ?_
 simp only [Act.put, sa, sz, ss]
 refine zA (d := 137) (v := .bool true) (w' := w30) rfl rfl rfl (by go_simp) ?_
 simp only [Act.put, sa, sz, ss]
 refine zA (d := 138) (v := .bool true) (w' := w30) rfl rfl rfl (rfl) ?_
 simp only [Act.put, sa, sz, ss]
 refine zA (d := 139) (v := .agg (zkc).toArray) (w' := w30) rfl rfl rfl (by kernel_rfl) ?_
 simp only [Act.put, sa, sz, ss]
 refine zA (d := 140) (v := .slice (some ⟨w30.heap.size, 0, none⟩) 1 1) (w' := (w30.alloc (.cells (zkc : List Value).toArray 37))) rfl rfl rfl (ex_bsKey rfl rfl) ?_
 simp only [Act.put, sa, sz, ss]
 have o_Js31 : Hid (w.heap.size ≤ w30.heap.size) := H30.out.2.size
 have H31 : Hid (Mm (w30.alloc (.cells (zkc : List Value).toArray 37)) ((w30.heap.size, zkc) :: [(Js29, zE 65521), (Js25, zH .u8 (lb [3, 1, 1, 97, 0, 0, 0, 0, 0, 0, 0, 0, 0]) 13), (Js23, zH .u8 (lb [0, 0, 0, 2, 0, 0, 0, 1, 7, 0, 0, 0, 0]) 13), (Js21, zH .u8 (lb [0, 0, 0, 0, 0, 0, 1, 2]) 8), (Js18, [Value.int .i64 0, Value.int .i64 0, Value.string ⟨#[]⟩, Value.string ⟨#[]⟩, Value.string ⟨#[]⟩, Value.slice none 0 0, Value.slice none 0 0, Value.int .i64 0, Value.slice none 0 0, Value.slice none 0 0, Value.slice none 0 0]), (Js16, zH .u8 (lb [3, 1, 1, 97, 0, 0, 0, 0, 0, 0, 0, 0, 0, 0]) 14), (Js15, zH .u8 (lb [0]) 1), (Js12, e1c), (Js9, zH .u8 (lb [3, 1, 1, 97, 0, 0, 0, 0, 0, 0, 0, 0, 0]) 13), (Js8, zH .u8 (lb [0, 0, 0, 2, 0, 0, 0, 1, 7, 0, 0, 0, 0]) 13), (Js7, [Value.slice (some ⟨Js6, 0, none⟩) 1 1, Value.slice none 0 0]), (Js6, [Z8 7]), (Js4, zH .u8 (fun _ => 0) 7), (Js2, zH .u8 (lb [0, 0, 0, 0, 0, 0, 1, 2]) 8), (0, dtab)]) ∧ Below w.heap.size w (w30.alloc (.cells (zkc : List Value).toArray 37))) := ⟨H30.out.1.alloc _ 37 rfl, H30.out.2.trans (((Below.refl _ _).alloc (Nat.le_refl _) _).mono H30.out.2.size)⟩
 clear H30
 generalize hgw : w30.alloc (.cells (zkc : List Value).toArray 37) = w31 at H31 ⊢
 clear hgw
 generalize w30.heap.size = Js31 at o_Js31 H31 ⊢
 refine zA (d := 141) (v := .agg ([Value.int .i64 0, Value.int .i64 0, Value.string ⟨#[]⟩, Value.string ⟨#[]⟩, Value.string ⟨#[]⟩, Value.slice none 0 0, Value.slice none 0 0, Value.int .i64 0, Value.slice none 0 0, Value.slice (some ⟨Js31, 0, none⟩) 1 1, Value.slice none 0 0]).toArray) (w' := w31) rfl rfl rfl (by kernel_rfl) ?_
 simp only [Act.put, sa, sz, ss]
 refine zF (d := 142) (R := fun vv w' => vv = .int .i64 5 ∧ Below w31.heap.size w31 w') rfl rfl rfl (zG (args := #[.agg ([Value.int .i64 0, Value.int .i64 0, Value.string ⟨#[]⟩, Value.string ⟨#[]⟩, Value.string ⟨#[]⟩, Value.slice none 0 0, Value.slice none 0 0, Value.int .i64 0, Value.slice none 0 0, Value.slice (some ⟨Js31, 0, none⟩) 1 1, Value.slice none 0 0]).toArray]) rfl call25 rfl (mpn rfl)) (Calls.mono (Check_5 Js31 w31 (H31.out.1.two 0 15 rfl rfl (by decide))) (fun e w2 hh => ⟨_, hh.1, rfl, hh.2⟩)) ?_
 rintro _ w32 ⟨rfl, hb⟩
 have H32 : Hid (Mm w32 [(Js31, zkc), (Js29, zE 65521), (Js25, zH .u8 (lb [3, 1, 1, 97, 0, 0, 0, 0, 0, 0, 0, 0, 0]) 13), (Js23, zH .u8 (lb [0, 0, 0, 2, 0, 0, 0, 1, 7, 0, 0, 0, 0]) 13), (Js21, zH .u8 (lb [0, 0, 0, 0, 0, 0, 1, 2]) 8), (Js18, [Value.int .i64 0, Value.int .i64 0, Value.string ⟨#[]⟩, Value.string ⟨#[]⟩, Value.string ⟨#[]⟩, Value.slice none 0 0, Value.slice none 0 0, Value.int .i64 0, Value.slice none 0 0, Value.slice none 0 0, Value.slice none 0 0]), (Js16, zH .u8 (lb [3, 1, 1, 97, 0, 0, 0, 0, 0, 0, 0, 0, 0, 0]) 14), (Js15, zH .u8 (lb [0]) 1), (Js12, e1c), (Js9, zH .u8 (lb [3, 1, 1, 97, 0, 0, 0, 0, 0, 0, 0, 0, 0]) 13), (Js8, zH .u8 (lb [0, 0, 0, 2, 0, 0, 0, 1, 7, 0, 0, 0, 0]) 13), (Js7, [Value.slice (some ⟨Js6, 0, none⟩) 1 1, Value.slice none 0 0]), (Js6, [Z8 7]), (Js4, zH .u8 (fun _ => 0) 7), (Js2, zH .u8 (lb [0, 0, 0, 0, 0, 0, 1, 2]) 8), (0, dtab)] ∧ Below w.heap.size w w32) := ⟨H31.out.1.below hb, H31.out.2.trans (hb.mono H31.out.2.size)⟩
 clear hb
 clear H31
 simp only [Act.put, sa, sz, ss]
 refine zA (d := 143) (v := .bool true) (w' := w32) rfl rfl rfl (by kernel_rfl) ?_
 simp only [Act.put, sa, sz, ss]
 refine zA (d := 144) (v := .bool true) (w' := w32) rfl rfl rfl (by go_simp) ?_
 simp only [Act.put, sa, sz, ss]
 refine zA (d := 0) (v := .bool true) (w' := w32) rfl rfl rfl (rfl) ?_
 simp only [Act.put, List.setIfInBounds_toArray, List.set_cons_zero]
 refine zC (zB (wp_ret ?_))
 repeat (first | refine zL ?_ | refine zK ?_)
 refine bodyPost_ret (v := .bool true) (by simp [results, Tryz.results4, go_sem, *]) rfl ?_
 exact ⟨rfl, H32.out.2⟩
end Wi
end Rg
end Go.Proofs.YtahghpkjkfaieaaGreatDoor
end
section
namespace Go.Proofs.YtahghpkjkfaieaaGreatDoor
open Go.ChangeShapes Go.WideShapes Go.ChangeAt Go.RowKit
set_option maxRecDepth 100000
theorem Tryz.own : ownKnob Tryz.prog.godebug = none := by kernel_rfl
end Go.Proofs.YtahghpkjkfaieaaGreatDoor
end
section
namespace Go.Proofs.YtahghpkjkfaieaaGreatDoor
open Go.ChangeShapes Go.WideShapes Go.ChangeAt Go.RowKit
namespace Rg
set_option maxRecDepth 100000
abbrev laidL : List (String × DataW Unit) := Rows.wireKnownRow.laid
abbrev tabName : String := match laidL with
 | (n, _) :: _ => n
 | [] => Tryz.f3.name
theorem gTab : Tryz.prog.globalNamed tabName = some 0 := by kernel_rfl
theorem tTab : (Tryz.prog.globals[0]?).map (·.type) = some 253 := by kernel_rfl
theorem datTab : (Rows.laid_math_bits_deBruijn64tab : DataW Unit) = .agg (Lib.deBruijn64tab.map fun k => .lit (.int .u8 ((k : Nat) : Int))) := by kernel_rfl
theorem tab_of_laid {W : World} (h : laidMetH Tryz.prog laidL W) : Mm W [(0, dtab)] := by
 rw [MakeChecks.laidMetH_plain _ _ _ (by kernel_rfl)] at h
 obtain ⟨ps, ⟨g, t, cs, fuel, p, q, hg, ht, hv, hd, hq, hps⟩, hnd, hc⟩ := h
 obtain rfl := Option.some.inj (gTab.symm.trans hg)
 obtain rfl := Option.some.inj (tTab.symm.trans ht)
 obtain ⟨xs, m, -, hx, hlen, hn, hel⟩ := DataW.trod_array Tryz.underlying253 hd
 rw [datTab] at hx
 simp only [Prod.mk.injEq, DataW.agg.injEq] at hx
 have hc5 : Tryz.prog.cellsOf 5 = 1 := by kernel_rfl
 have hc81 : Tryz.prog.cellsOf 253 = 64 := by kernel_rfl
 rw [hc81] at hlen
 have hsz : cs.size = 64 := by simpa using hlen
 have hpl : ∀ i, i < 64 → MemPlace.cell 0 i ∈ ps := fun i hi => by
  rw [hps]
  refine List.mem_append_left _ (List.mem_append_left _ ?_)
  unfold MemPlace.row
  simp [hsz]
  omega
 obtain ⟨⟨c0, t0, hheap⟩, _⟩ := hc 0 0 (hpl 0 (by decide))
 have h0 : 0 < W.heap.size := by
  rcases Nat.lt_or_ge 0 W.heap.size with h' | h'
  ·exact h'
  ·rw [Array.getElem?_eq_none (by omega)] at hheap; cases hheap
 refine ⟨fun pq hpq => ?_, List.pairwise_singleton _ _⟩
 rw [List.mem_singleton.1 hpq]
 refine ⟨h0, fun j v hj => ?_⟩
 have hj64 : j < 64 := by
  have := (List.getElem?_eq_some_iff.1 hj).1
  exact this
 refine ⟨?_, ?_⟩
 ·rw [World.var?_cell hg hv j]
  have h1 := hel j hj64
  rw [hc5, Nat.mul_one] at h1
  have hlt : j < xs.length := by omega
  rw [List.getElem?_eq_getElem hlt] at h1
  obtain ⟨n, e1, e2, _⟩ := DataW.trod_int Tryz.underlying5 h1
  have e3 : cs[j]? = some (.int .u8 n) := by
   have e4 : ((cs.toList.drop j).take 1)[0]? = some (.int .u8 n) := by rw [e1]; rfl
   rw [List.getElem?_take, if_pos (by decide), List.getElem?_drop] at e4
   simpa using e4
  have e5 : (xs.map (·.1))[j]? = (Lib.deBruijn64tab.map fun k => DataW.lit (.int .u8 ((k : Nat) : Int)))[j]? := by rw [hx.1]
  rw [List.getElem?_map, List.getElem?_eq_getElem hlt, e2, List.getElem?_map] at e5
  unfold dtab at hj
  rw [List.getElem?_map] at hj
  cases hk : Lib.deBruijn64tab[j]? with
  | none => rw [hk] at hj; cases hj
  | some k =>
   rw [hk] at hj e5
   simp only [Option.map_some, Option.some.injEq, DataW.lit.injEq] at hj e5
   rw [e3, ← hj]
   simp only [Option.some.injEq]
   injection e5 with _ e6
   rw [e6]
 ·unfold World.frozen?
  rw [hheap]
  simp
theorem door_met (os : Os) (args : Array Value) : laidMetH Tryz.prog laidL ((World.doorLaid Tryz.prog 400 os).forCall (fun _ _ => 0) ⟨#[], args, []⟩).memory :=
 laidMetH_of_parts3 (fuel := 8) (laidMet_of_run' 8 (by kernel_rfl) (by kernel_rfl)) (by kernel_rfl) (by kernel_rfl)
end Rg
end Go.Proofs.YtahghpkjkfaieaaGreatDoor
end
