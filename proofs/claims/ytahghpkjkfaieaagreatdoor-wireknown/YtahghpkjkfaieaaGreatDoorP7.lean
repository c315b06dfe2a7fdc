/- Texts of the proof, joined. -/
import Derived.Test.YtahghpkjkfaieaaGreatDoorP6
import Derived.BigRegion
set_option maxRecDepth 100000
section
namespace Go.Proofs.YtahghpkjkfaieaaGreatDoor
open Go.RowKit
namespace Rg
namespace Wi
theorem call8 : CO 8 := by intro args w; go_simp
theorem call85 : CO 85 := by intro args w; go_simp
theorem call98 : CO 98 := by intro args w; go_simp
theorem call99 : CO 99 := by intro args w; go_simp
theorem call100 : CO 100 := by intro args w; go_simp
theorem call101 : CO 101 := by intro args w; go_simp
theorem call148 : CO 148 := by intro args w; go_simp
theorem call150 : CO 150 := by intro args w; go_simp
theorem call187 : CO 187 := by intro args w; go_simp
set_option maxRecDepth 100000
set_option maxHeartbeats 2000000 in
theorem ixI_nil (fv : Value) (w : World) :
  Calls Tryz.prog 187 #[.slice none 0 0, fv] w (Rt w (.int .i64 (-1))) := by
 have H0 : Hid (_ ∧ _) := ⟨Mm.nil w, Below.refl w.heap.size w⟩
 go_enter Tryz.func187, Tryz.ntmps187
 refine wp_seq ?_
 refine zN (l := [0]) rfl (fun u0 hu0 => ?_)
 have H1 : Hid (Mm u0 [] ∧ Below w.heap.size w u0) := by rw [hu0]; exact H0
 clear hu0 H0
 refine zA (d := 4) (v := .int .i64 0) (w' := u0) rfl rfl rfl (rfl) ?_
 simp only [Act.put, sa, sz, ss]
 refine zC (zB ?_)
 refine wp_seq (wp_seq ?_)
 refine zD (l := [0, 1, 2]) rfl ?_
 refine zA (d := 6) (v := .slice none 0 0) (w' := u0) rfl rfl rfl (rfl) ?_
 simp only [Act.put, sa, sz, ss]
 refine zA (d := 7) (v := .int .i64 0) (w' := u0) rfl rfl rfl (by go_simp) ?_
 simp only [Act.put, sa, sz, ss]
 refine zA (d := 8) (v := .int .i64 0) (w' := u0) rfl rfl rfl (rfl) ?_
 simp only [Act.put, sa, sz, ss]
 refine zC (zB (wp_block ?_))
 refine wp_loop_rounds 1 ?_
 refine zU (n := 0) ?_
 refine wp_seq ?_
 refine zD (l := [0]) rfl ?_
 refine zA (d := 9) (v := .bool false) (w' := u0) rfl rfl rfl (by kernel_rfl) ?_
 simp only [Act.put, sa, sz, ss]
 refine zC (zB ?_)
 refine wp_seq (wp_cond_false rfl ?_)
 refine wp_exit ?_
 repeat refine zX ?_
 refine zT ?_
 refine zB (wp_seq ?_)
 refine zD (l := [0]) rfl ?_
 refine zA (d := 4) (v := .int .i64 (-1)) (w' := u0) rfl rfl rfl (rfl) ?_
 simp only [Act.put, sa, sz, ss]
 refine zC (zB (wp_ret ?_))
 repeat (first | refine zL ?_ | refine zK ?_)
 refine bodyPost_ret (v := .int .i64 (-1)) (by simp [results, Tryz.results187, go_sem, *]) rfl ?_
 exact ⟨rfl, H1.out.2⟩
set_option maxHeartbeats 2000000 in
theorem ixN_nil (fv : Value) (w : World) :
  Calls Tryz.prog 150 #[.slice none 0 0, fv] w (Rt w (.int .i64 (-1))) := by
 have H0 : Hid (_ ∧ _) := ⟨Mm.nil w, Below.refl w.heap.size w⟩
 go_enter Tryz.func150, Tryz.ntmps150
 refine wp_seq ?_
 refine zN (l := [0]) rfl (fun u0 hu0 => ?_)
 have H1 : Hid (Mm u0 [] ∧ Below w.heap.size w u0) := by rw [hu0]; exact H0
 clear hu0 H0
 refine zA (d := 4) (v := .int .i64 0) (w' := u0) rfl rfl rfl (rfl) ?_
 simp only [Act.put, sa, sz, ss]
 refine zC (zB ?_)
 refine wp_seq (wp_seq ?_)
 refine zD (l := [0, 1, 2]) rfl ?_
 refine zA (d := 6) (v := .slice none 0 0) (w' := u0) rfl rfl rfl (rfl) ?_
 simp only [Act.put, sa, sz, ss]
 refine zA (d := 7) (v := .int .i64 0) (w' := u0) rfl rfl rfl (by go_simp) ?_
 simp only [Act.put, sa, sz, ss]
 refine zA (d := 8) (v := .int .i64 0) (w' := u0) rfl rfl rfl (rfl) ?_
 simp only [Act.put, sa, sz, ss]
 refine zC (zB (wp_block ?_))
 refine wp_loop_rounds 1 ?_
 refine zU (n := 0) ?_
 refine wp_seq ?_
 refine zD (l := [0]) rfl ?_
 refine zA (d := 9) (v := .bool false) (w' := u0) rfl rfl rfl (by kernel_rfl) ?_
 simp only [Act.put, sa, sz, ss]
 refine zC (zB ?_)
 refine wp_seq (wp_cond_false rfl ?_)
 refine wp_exit ?_
 repeat refine zX ?_
 refine zT ?_
 refine zB (wp_seq ?_)
 refine zD (l := [0]) rfl ?_
 refine zA (d := 4) (v := .int .i64 (-1)) (w' := u0) rfl rfl rfl (rfl) ?_
 simp only [Act.put, sa, sz, ss]
 refine zC (zB (wp_ret ?_))
 repeat (first | refine zL ?_ | refine zK ?_)
 refine bodyPost_ret (v := .int .i64 (-1)) (by simp [results, Tryz.results150, go_sem, *]) rfl ?_
 exact ⟨rfl, H1.out.2⟩
set_option maxHeartbeats 2000000 in
theorem cfI_nil (fv : Value) (w : World) :
  Calls Tryz.prog 148 #[.slice none 0 0, fv] w (Rt w (.bool false)) := by
 have H0 : Hid (_ ∧ _) := ⟨Mm.nil w, Below.refl w.heap.size w⟩
 go_enter Tryz.func148, Tryz.ntmps148
 refine wp_seq ?_
 refine zN (l := [0]) rfl (fun u0 hu0 => ?_)
 have H1 : Hid (Mm u0 [] ∧ Below w.heap.size w u0) := by rw [hu0]; exact H0
 clear hu0 H0
 refine zA (d := 4) (v := .bool false) (w' := u0) rfl rfl rfl (rfl) ?_
 simp only [Act.put, sa, sz, ss]
 refine zC (zB (wp_seq ?_))
 refine zD (l := [0, 1, 2, 3, 4]) rfl ?_
 refine zA (d := 5) (v := .slice none 0 0) (w' := u0) rfl rfl rfl (rfl) ?_
 simp only [Act.put, sa, sz, ss]
 refine zA (d := 6) (v := fv) (w' := u0) rfl rfl rfl (rfl) ?_
 simp only [Act.put, sa, sz, ss]
 refine zF (d := 7) (R := fun vv w' => vv = .int .i64 (-1) ∧ Below u0.heap.size u0 w') rfl rfl rfl (zG (args := #[.slice none 0 0, fv]) rfl call187 rfl (mpn rfl)) (Calls.mono (ixI_nil fv u0) (fun e w2 hh => ⟨_, hh.1, rfl, hh.2⟩)) ?_
 rintro _ w2 ⟨rfl, hb⟩
 have H2 : Hid (Mm w2 [] ∧ Below w.heap.size w w2) := ⟨H1.out.1.below hb, H1.out.2.trans (hb.mono H1.out.2.size)⟩
 clear hb
 clear H1
 simp only [Act.put, sa, sz, ss]
 refine zA (d := 8) (v := .bool false) (w' := w2) rfl rfl rfl (by kernel_rfl) ?_
 simp only [Act.put, sa, sz, ss]
 refine zA (d := 4) (v := .bool false) (w' := w2) rfl rfl rfl (rfl) ?_
 simp only [Act.put, sa, sz, ss]
 refine zC (zB (wp_ret ?_))
 repeat (first | refine zL ?_ | refine zK ?_)
 refine bodyPost_ret (v := .bool false) (by simp [results, Tryz.results148, go_sem, *]) rfl ?_
 exact ⟨rfl, H2.out.2⟩
set_option maxHeartbeats 2000000 in
theorem cfN_nil (fv : Value) (w : World) :
  Calls Tryz.prog 100 #[.slice none 0 0, fv] w (Rt w (.bool false)) := by
 have H0 : Hid (_ ∧ _) := ⟨Mm.nil w, Below.refl w.heap.size w⟩
 go_enter Tryz.func100, Tryz.ntmps100
 refine wp_seq ?_
 refine zN (l := [0]) rfl (fun u0 hu0 => ?_)
 have H1 : Hid (Mm u0 [] ∧ Below w.heap.size w u0) := by rw [hu0]; exact H0
 clear hu0 H0
 refine zA (d := 4) (v := .bool false) (w' := u0) rfl rfl rfl (rfl) ?_
 simp only [Act.put, sa, sz, ss]
 refine zC (zB (wp_seq ?_))
 refine zD (l := [0, 1, 2, 3, 4]) rfl ?_
 refine zA (d := 5) (v := .slice none 0 0) (w' := u0) rfl rfl rfl (rfl) ?_
 simp only [Act.put, sa, sz, ss]
 refine zA (d := 6) (v := fv) (w' := u0) rfl rfl rfl (rfl) ?_
 simp only [Act.put, sa, sz, ss]
 refine zF (d := 7) (R := fun vv w' => vv = .int .i64 (-1) ∧ Below u0.heap.size u0 w') rfl rfl rfl (zG (args := #[.slice none 0 0, fv]) rfl call150 rfl (mpn rfl)) (Calls.mono (ixN_nil fv u0) (fun e w2 hh => ⟨_, hh.1, rfl, hh.2⟩)) ?_
 rintro _ w2 ⟨rfl, hb⟩
 have H2 : Hid (Mm w2 [] ∧ Below w.heap.size w w2) := ⟨H1.out.1.below hb, H1.out.2.trans (hb.mono H1.out.2.size)⟩
 clear hb
 clear H1
 simp only [Act.put, sa, sz, ss]
 refine zA (d := 8) (v := .bool false) (w' := w2) rfl rfl rfl (by kernel_rfl) ?_
 simp only [Act.put, sa, sz, ss]
 refine zA (d := 4) (v := .bool false) (w' := w2) rfl rfl rfl (rfl) ?_
 simp only [Act.put, sa, sz, ss]
 refine zC (zB (wp_ret ?_))
 repeat (first | refine zL ?_ | refine zK ?_)
 refine bodyPost_ret (v := .bool false) (by simp [results, Tryz.results100, go_sem, *]) rfl ?_
 exact ⟨rfl, H2.out.2⟩
set_option maxHeartbeats 2000000 in
theorem outside_31 (v2 v3 v4 v5 v7 v8 v9 v10 : Value) (w : World) :
  Calls Tryz.prog 98 #[.agg ([Value.int .i64 3, Value.int .i64 1, v2, v3, v4, v5, Value.slice none 0 0, v7, v8, v9, v10]).toArray] w (Rt w (.bool false)) := by
 have H0 : Hid (_ ∧ _) := ⟨Mm.nil w, Below.refl w.heap.size w⟩
 go_enter Tryz.func98, Tryz.ntmps98
 refine wp_seq ?_
 refine zN (l := [0, 1]) rfl (fun u0 hu0 => ?_)
 have H1 : Hid (Mm u0 [] ∧ Below w.heap.size w u0) := by rw [hu0]; exact H0
 clear hu0 H0
 refine zA (d := 1) (v := PT u0.heap.size 0) (w' := (u0.alloc (.cells ([Value.int .i64 3, Value.int .i64 1, v2, v3, v4, v5, Value.slice none 0 0, v7, v8, v9, v10] : List Value).toArray 64))) rfl rfl rfl (ex_boxT rfl rfl) ?_
 simp only [Act.put, sa, sz, ss]
 have o_Js2 : Hid (w.heap.size ≤ u0.heap.size) := H1.out.2.size
 have H2 : Hid (Mm (u0.alloc (.cells ([Value.int .i64 3, Value.int .i64 1, v2, v3, v4, v5, Value.slice none 0 0, v7, v8, v9, v10] : List Value).toArray 64)) ((u0.heap.size, [Value.int .i64 3, Value.int .i64 1, v2, v3, v4, v5, Value.slice none 0 0, v7, v8, v9, v10]) :: []) ∧ Below w.heap.size w (u0.alloc (.cells ([Value.int .i64 3, Value.int .i64 1, v2, v3, v4, v5, Value.slice none 0 0, v7, v8, v9, v10] : List Value).toArray 64))) := ⟨H1.out.1.alloc _ 64 rfl, H1.out.2.trans (((Below.refl _ _).alloc (Nat.le_refl _) _).mono H1.out.2.size)⟩
 clear H1
 generalize hgw : u0.alloc (.cells ([Value.int .i64 3, Value.int .i64 1, v2, v3, v4, v5, Value.slice none 0 0, v7, v8, v9, v10] : List Value).toArray 64) = w2 at H2 ⊢
 clear hgw
 generalize u0.heap.size = Js2 at o_Js2 H2 ⊢
 refine zA (d := 2) (v := .bool false) (w' := w2) rfl rfl rfl (rfl) ?_
 simp only [Act.put, sa, sz, ss]
 refine zC (zB (wp_seq ?_))
 refine zD (l := [0, 1, 2, 3, 4, 5, 6, 7, 8, 9, 10, 11, 12, 13, 14, 15, 16, 17, 18, 19, 20, 21, 22, 23]) rfl ?_
 refine zA (d := 3) (v := PT Js2 0) (w' := w2) rfl rfl rfl (by go_simp) ?_
 simp only [Act.put, sa, sz, ss]
 refine zA (d := 4) (v := .int .i64 3) (w' := w2) rfl rfl rfl (zJ H2.out.1 0 rfl rfl rfl Ai3 rfl) ?_
 simp only [Act.put, sa, sz, ss]
 refine zA (d := 5) (v := .bool false) (w' := w2) rfl rfl rfl (by kernel_rfl) ?_
 simp only [Act.put, sa, sz, ss]
 refine zA (d := 6) (v := .bool false) (w' := w2) rfl rfl rfl (rfl) ?_
 simp only [Act.put, sa, sz, ss]
 refine zA (d := 7) (v := PT Js2 0) (w' := w2) rfl rfl rfl (by go_simp) ?_
 simp only [Act.put, sa, sz, ss]
 refine zA (d := 8) (v := .int .i64 3) (w' := w2) rfl rfl rfl (zJ H2.out.1 0 rfl rfl rfl Ai3 rfl) ?_
 simp only [Act.put, sa, sz, ss]
 refine zA (d := 9) (v := .bool false) (w' := w2) rfl rfl rfl (by kernel_rfl) ?_
 simp only [Act.put, sa, sz, ss]
 refine zA (d := 10) (v := .bool false) (w' := w2) rfl rfl rfl (by go_simp) ?_
 simp only [Act.put, sa, sz, ss]
 refine zA (d := 11) (v := .bool false) (w' := w2) rfl rfl rfl (rfl) ?_
 simp only [Act.put, sa, sz, ss]
 refine zA (d := 12) (v := PT Js2 1) (w' := w2) rfl rfl rfl (by go_simp) ?_
 simp only [Act.put, sa, sz, ss]
 refine zA (d := 13) (v := .int .i64 1) (w' := w2) rfl rfl rfl (zJ H2.out.1 0 rfl rfl rfl Ai3 rfl) ?_
 simp only [Act.put, sa, sz, ss]
 refine zA (d := 14) (v := .bool false) (w' := w2) rfl rfl rfl (by kernel_rfl) ?_
 simp only [Act.put, sa, sz, ss]
 refine zA (d := 15) (v := .bool false) (w' := w2) rfl rfl rfl (by go_simp) ?_
 simp only [Act.put, sa, sz, ss]
 refine zA (d := 16) (v := .bool false) (w' := w2) rfl rfl rfl (rfl) ?_
 simp only [Act.put, sa, sz, ss]
 refine zA (d := 17) (v := PT Js2 1) (w' := w2) rfl rfl rfl (by go_simp) ?_
 simp only [Act.put, sa, sz, ss]
 refine zA (d := 18) (v := .int .i64 1) (w' := w2) rfl rfl rfl (zJ H2.out.1 0 rfl rfl rfl Ai3 rfl) ?_
 simp only [Act.put, sa, sz, ss]
 refine zA (d := 19) (v := .bool false) (w' := w2) rfl rfl rfl (by kernel_rfl) ?_
 simp only [Act.put, sa, sz, ss]
 refine zA (d := 20) (v := .bool false) (w' := w2) rfl rfl rfl (by go_simp) ?_
 simp only [Act.put, sa, sz, ss]
 refine zA (d := 21) (v := .bool false) (w' := w2) rfl rfl rfl (rfl) ?_
 simp only [Act.put, sa, sz, ss]
 refine zA (d := 22) (v := PT Js2 6) (w' := w2) rfl rfl rfl (by go_simp) ?_
 simp only [Act.put, sa, sz, ss]
 refine zA (d := 23) (v := .slice none 0 0) (w' := w2) rfl rfl rfl (zJ H2.out.1 0 rfl rfl rfl Ai59 rfl) ?_
 simp only [Act.put, sa, sz, ss]
 refine zF (d := 24) (R := fun vv w' => vv = .bool false ∧ Below w2.heap.size w2 w') rfl rfl rfl (zG (args := #[.slice none 0 0, .func (.func 149) #[] #[]]) rfl call148 rfl (mpn rfl)) (Calls.mono (cfI_nil (.func (.func 149) #[] #[]) w2) (fun e w2 hh => ⟨_, hh.1, rfl, hh.2⟩)) ?_
 rintro _ w3 ⟨rfl, hb⟩
 have H3 : Hid (Mm w3 [(Js2, [Value.int .i64 3, Value.int .i64 1, v2, v3, v4, v5, Value.slice none 0 0, v7, v8, v9, v10])] ∧ Below w.heap.size w w3) := ⟨H2.out.1.below hb, H2.out.2.trans (hb.mono H2.out.2.size)⟩
 clear hb
 clear H2
 simp only [Act.put, sa, sz, ss]
 refine zA (d := 25) (v := .bool false) (w' := w3) rfl rfl rfl (by go_simp) ?_
 simp only [Act.put, sa, sz, ss]
 refine zA (d := 2) (v := .bool false) (w' := w3) rfl rfl rfl (rfl) ?_
 simp only [Act.put, sa, sz, ss]
 refine zC (zB (wp_ret ?_))
 repeat (first | refine zL ?_ | refine zK ?_)
 refine bodyPost_ret (v := .bool false) (by simp [results, Tryz.results98, go_sem, *]) rfl ?_
 exact ⟨rfl, H3.out.2⟩
set_option maxHeartbeats 2000000 in
theorem outside_00 (v2 v3 v4 v5 v7 v8 v9 v10 : Value) (w : World) :
  Calls Tryz.prog 98 #[.agg ([Value.int .i64 0, Value.int .i64 0, v2, v3, v4, v5, Value.slice none 0 0, v7, v8, v9, v10]).toArray] w (Rt w (.bool false)) := by
 have H0 : Hid (_ ∧ _) := ⟨Mm.nil w, Below.refl w.heap.size w⟩
 go_enter Tryz.func98, Tryz.ntmps98
 refine wp_seq ?_
 refine zN (l := [0, 1]) rfl (fun u0 hu0 => ?_)
 have H1 : Hid (Mm u0 [] ∧ Below w.heap.size w u0) := by rw [hu0]; exact H0
 clear hu0 H0
 refine zA (d := 1) (v := PT u0.heap.size 0) (w' := (u0.alloc (.cells ([Value.int .i64 0, Value.int .i64 0, v2, v3, v4, v5, Value.slice none 0 0, v7, v8, v9, v10] : List Value).toArray 64))) rfl rfl rfl (ex_boxT rfl rfl) ?_
 simp only [Act.put, sa, sz, ss]
 have o_Js2 : Hid (w.heap.size ≤ u0.heap.size) := H1.out.2.size
 have H2 : Hid (Mm (u0.alloc (.cells ([Value.int .i64 0, Value.int .i64 0, v2, v3, v4, v5, Value.slice none 0 0, v7, v8, v9, v10] : List Value).toArray 64)) ((u0.heap.size, [Value.int .i64 0, Value.int .i64 0, v2, v3, v4, v5, Value.slice none 0 0, v7, v8, v9, v10]) :: []) ∧ Below w.heap.size w (u0.alloc (.cells ([Value.int .i64 0, Value.int .i64 0, v2, v3, v4, v5, Value.slice none 0 0, v7, v8, v9, v10] : List Value).toArray 64))) := ⟨H1.out.1.alloc _ 64 rfl, H1.out.2.trans (((Below.refl _ _).alloc (Nat.le_refl _) _).mono H1.out.2.size)⟩
 clear H1
 generalize hgw : u0.alloc (.cells ([Value.int .i64 0, Value.int .i64 0, v2, v3, v4, v5, Value.slice none 0 0, v7, v8, v9, v10] : List Value).toArray 64) = w2 at H2 ⊢
 clear hgw
 generalize u0.heap.size = Js2 at o_Js2 H2 ⊢
 refine zA (d := 2) (v := .bool false) (w' := w2) rfl rfl rfl (rfl) ?_
 simp only [Act.put, sa, sz, ss]
 refine zC (zB (wp_seq ?_))
 refine zD (l := [0, 1, 2, 3, 4, 5, 6, 7, 8, 9, 10, 11, 12, 13, 14, 15, 16, 17, 18, 19, 20, 21, 22, 23]) rfl ?_
 refine zA (d := 3) (v := PT Js2 0) (w' := w2) rfl rfl rfl (by go_simp) ?_
 simp only [Act.put, sa, sz, ss]
 refine zA (d := 4) (v := .int .i64 0) (w' := w2) rfl rfl rfl (zJ H2.out.1 0 rfl rfl rfl Ai3 rfl) ?_
 simp only [Act.put, sa, sz, ss]
 refine zA (d := 5) (v := .bool false) (w' := w2) rfl rfl rfl (by kernel_rfl) ?_
 simp only [Act.put, sa, sz, ss]
 refine zA (d := 6) (v := .bool false) (w' := w2) rfl rfl rfl (rfl) ?_
 simp only [Act.put, sa, sz, ss]
 refine zA (d := 7) (v := PT Js2 0) (w' := w2) rfl rfl rfl (by go_simp) ?_
 simp only [Act.put, sa, sz, ss]
 refine zA (d := 8) (v := .int .i64 0) (w' := w2) rfl rfl rfl (zJ H2.out.1 0 rfl rfl rfl Ai3 rfl) ?_
 simp only [Act.put, sa, sz, ss]
 refine zA (d := 9) (v := .bool false) (w' := w2) rfl rfl rfl (by kernel_rfl) ?_
 simp only [Act.put, sa, sz, ss]
 refine zA (d := 10) (v := .bool false) (w' := w2) rfl rfl rfl (by go_simp) ?_
 simp only [Act.put, sa, sz, ss]
 refine zA (d := 11) (v := .bool false) (w' := w2) rfl rfl rfl (rfl) ?_
 simp only [Act.put, sa, sz, ss]
 refine zA (d := 12) (v := PT Js2 1) (w' := w2) rfl rfl rfl (by go_simp) ?_
 simp only [Act.put, sa, sz, ss]
 refine zA (d := 13) (v := .int .i64 0) (w' := w2) rfl rfl rfl (zJ H2.out.1 0 rfl rfl rfl Ai3 rfl) ?_
 simp only [Act.put, sa, sz, ss]
 refine zA (d := 14) (v := .bool false) (w' := w2) rfl rfl rfl (by kernel_rfl) ?_
 simp only [Act.put, sa, sz, ss]
 refine zA (d := 15) (v := .bool false) (w' := w2) rfl rfl rfl (by go_simp) ?_
 simp only [Act.put, sa, sz, ss]
 refine zA (d := 16) (v := .bool false) (w' := w2) rfl rfl rfl (rfl) ?_
 simp only [Act.put, sa, sz, ss]
 refine zA (d := 17) (v := PT Js2 1) (w' := w2) rfl rfl rfl (by go_simp) ?_
 simp only [Act.put, sa, sz, ss]
 refine zA (d := 18) (v := .int .i64 0) (w' := w2) rfl rfl rfl (zJ H2.out.1 0 rfl rfl rfl Ai3 rfl) ?_
 simp only [Act.put, sa, sz, ss]
 refine zA (d := 19) (v := .bool false) (w' := w2) rfl rfl rfl (by kernel_rfl) ?_
 simp only [Act.put, sa, sz, ss]
 refine zA (d := 20) (v := .bool false) (w' := w2) rfl rfl rfl (by go_simp) ?_
 simp only [Act.put, sa, sz, ss]
 refine zA (d := 21) (v := .bool false) (w' := w2) rfl rfl rfl (rfl) ?_
 simp only [Act.put, sa, sz, ss]
 refine zA (d := 22) (v := PT Js2 6) (w' := w2) rfl rfl rfl (by go_simp) ?_
 simp only [Act.put, sa, sz, ss]
 refine zA (d := 23) (v := .slice none 0 0) (w' := w2) rfl rfl rfl (zJ H2.out.1 0 rfl rfl rfl Ai59 rfl) ?_
 simp only [Act.put, sa, sz, ss]
 refine zF (d := 24) (R := fun vv w' => vv = .bool false ∧ Below w2.heap.size w2 w') rfl rfl rfl (zG (args := #[.slice none 0 0, .func (.func 149) #[] #[]]) rfl call148 rfl (mpn rfl)) (Calls.mono (cfI_nil (.func (.func 149) #[] #[]) w2) (fun e w2 hh => ⟨_, hh.1, rfl, hh.2⟩)) ?_
 rintro _ w3 ⟨rfl, hb⟩
 have H3 : Hid (Mm w3 [(Js2, [Value.int .i64 0, Value.int .i64 0, v2, v3, v4, v5, Value.slice none 0 0, v7, v8, v9, v10])] ∧ Below w.heap.size w w3) := ⟨H2.out.1.below hb, H2.out.2.trans (hb.mono H2.out.2.size)⟩
 clear hb
 clear H2
 simp only [Act.put, sa, sz, ss]
 refine zA (d := 25) (v := .bool false) (w' := w3) rfl rfl rfl (by go_simp) ?_
 simp only [Act.put, sa, sz, ss]
 refine zA (d := 2) (v := .bool false) (w' := w3) rfl rfl rfl (rfl) ?_
 simp only [Act.put, sa, sz, ss]
 refine zC (zB (wp_ret ?_))
 repeat (first | refine zL ?_ | refine zK ?_)
 refine bodyPost_ret (v := .bool false) (by simp [results, Tryz.results98, go_sem, *]) rfl ?_
 exact ⟨rfl, H3.out.2⟩
set_option maxHeartbeats 2000000 in
theorem outside_256 (v2 v3 v4 v5 v7 v8 v9 v10 : Value) (w : World) :
  Calls Tryz.prog 98 #[.agg ([Value.int .i64 256, Value.int .i64 0, v2, v3, v4, v5, Value.slice none 0 0, v7, v8, v9, v10]).toArray] w (Rt w (.bool true)) := by
 have H0 : Hid (_ ∧ _) := ⟨Mm.nil w, Below.refl w.heap.size w⟩
 go_enter Tryz.func98, Tryz.ntmps98
 refine wp_seq ?_
 refine zN (l := [0, 1]) rfl (fun u0 hu0 => ?_)
 have H1 : Hid (Mm u0 [] ∧ Below w.heap.size w u0) := by rw [hu0]; exact H0
 clear hu0 H0
 refine zA (d := 1) (v := PT u0.heap.size 0) (w' := (u0.alloc (.cells ([Value.int .i64 256, Value.int .i64 0, v2, v3, v4, v5, Value.slice none 0 0, v7, v8, v9, v10] : List Value).toArray 64))) rfl rfl rfl (ex_boxT rfl rfl) ?_
 simp only [Act.put, sa, sz, ss]
 have o_Js2 : Hid (w.heap.size ≤ u0.heap.size) := H1.out.2.size
 have H2 : Hid (Mm (u0.alloc (.cells ([Value.int .i64 256, Value.int .i64 0, v2, v3, v4, v5, Value.slice none 0 0, v7, v8, v9, v10] : List Value).toArray 64)) ((u0.heap.size, [Value.int .i64 256, Value.int .i64 0, v2, v3, v4, v5, Value.slice none 0 0, v7, v8, v9, v10]) :: []) ∧ Below w.heap.size w (u0.alloc (.cells ([Value.int .i64 256, Value.int .i64 0, v2, v3, v4, v5, Value.slice none 0 0, v7, v8, v9, v10] : List Value).toArray 64))) := ⟨H1.out.1.alloc _ 64 rfl, H1.out.2.trans (((Below.refl _ _).alloc (Nat.le_refl _) _).mono H1.out.2.size)⟩
 clear H1
 generalize hgw : u0.alloc (.cells ([Value.int .i64 256, Value.int .i64 0, v2, v3, v4, v5, Value.slice none 0 0, v7, v8, v9, v10] : List Value).toArray 64) = w2 at H2 ⊢
 clear hgw
 generalize u0.heap.size = Js2 at o_Js2 H2 ⊢
 refine zA (d := 2) (v := .bool false) (w' := w2) rfl rfl rfl (rfl) ?_
 simp only [Act.put, sa, sz, ss]
 refine zC (zB (wp_seq ?_))
 refine zD (l := [0, 1, 2, 3, 4, 5, 6, 7, 8, 9, 10, 11, 12, 13, 14, 15, 16, 17, 18, 19, 20, 21, 22, 23]) rfl ?_
 refine zA (d := 3) (v := PT Js2 0) (w' := w2) rfl rfl rfl (by go_simp) ?_
 simp only [Act.put, sa, sz, ss]
 refine zA (d := 4) (v := .int .i64 256) (w' := w2) rfl rfl rfl (zJ H2.out.1 0 rfl rfl rfl Ai3 rfl) ?_
 simp only [Act.put, sa, sz, ss]
 refine zA (d := 5) (v := .bool false) (w' := w2) rfl rfl rfl (by kernel_rfl) ?_
 simp only [Act.put, sa, sz, ss]
 refine zA (d := 6) (v := .bool false) (w' := w2) rfl rfl rfl (rfl) ?_
 simp only [Act.put, sa, sz, ss]
 refine zA (d := 7) (v := PT Js2 0) (w' := w2) rfl rfl rfl (by go_simp) ?_
 simp only [Act.put, sa, sz, ss]
 refine zA (d := 8) (v := .int .i64 256) (w' := w2) rfl rfl rfl (zJ H2.out.1 0 rfl rfl rfl Ai3 rfl) ?_
 simp only [Act.put, sa, sz, ss]
 refine zA (d := 9) (v := .bool true) (w' := w2) rfl rfl rfl (by kernel_rfl) ?_
 simp only [Act.put, sa, sz, ss]
 refine zA (d := 10) (v := .bool true) (w' := w2) rfl rfl rfl (by go_simp) ?_
 simp only [Act.put, sa, sz, ss]
 refine zA (d := 11) (v := .bool true) (w' := w2) rfl rfl rfl (rfl) ?_
 simp only [Act.put, sa, sz, ss]
 refine rest_gone1 (d := 12) rfl rfl rfl ?_
 simp only [Act.put, sa, sz, ss]
 refine rest_gone1 (d := 13) rfl rfl rfl ?_
 simp only [Act.put, sa, sz, ss]
 refine rest_gone1 (d := 14) rfl rfl rfl ?_
 simp only [Act.put, sa, sz, ss]
 refine zA (d := 15) (v := .bool true) (w' := w2) rfl rfl rfl (by go_simp) ?_
 simp only [Act.put, sa, sz, ss]
 refine zA (d := 16) (v := .bool true) (w' := w2) rfl rfl rfl (rfl) ?_
 simp only [Act.put, sa, sz, ss]
 refine rest_gone1 (d := 17) rfl rfl rfl ?_
 simp only [Act.put, sa, sz, ss]
 refine rest_gone1 (d := 18) rfl rfl rfl ?_
 simp only [Act.put, sa, sz, ss]
 refine rest_gone1 (d := 19) rfl rfl rfl ?_
 simp only [Act.put, sa, sz, ss]
 refine zA (d := 20) (v := .bool true) (w' := w2) rfl rfl rfl (by go_simp) ?_
 simp only [Act.put, sa, sz, ss]
 refine zA (d := 21) (v := .bool true) (w' := w2) rfl rfl rfl (rfl) ?_
 simp only [Act.put, sa, sz, ss]
 refine rest_gone1 (d := 22) rfl rfl rfl ?_
 simp only [Act.put, sa, sz, ss]
 refine rest_gone1 (d := 23) rfl rfl rfl ?_
 simp only [Act.put, sa, sz, ss]
 refine rest_gone1 (d := 24) rfl rfl rfl ?_
 simp only [Act.put, sa, sz, ss]
 refine zA (d := 25) (v := .bool true) (w' := w2) rfl rfl rfl (by go_simp) ?_
 simp only [Act.put, sa, sz, ss]
 refine zA (d := 2) (v := .bool true) (w' := w2) rfl rfl rfl (rfl) ?_
 simp only [Act.put, sa, sz, ss]
 refine zC (zB (wp_ret ?_))
 repeat (first | refine zL ?_ | refine zK ?_)
 refine bodyPost_ret (v := .bool true) (by simp [results, Tryz.results98, go_sem, *]) rfl ?_
 exact ⟨rfl, H2.out.2⟩
set_option maxHeartbeats 2000000 in
theorem long_1  (w : World) :
  Calls Tryz.prog 99 #[.agg ([Value.int .i64 3, Value.int .i64 1, Value.string ⟨#[97]⟩, Value.string ⟨#[]⟩, Value.string ⟨#[]⟩, Value.slice none 0 0, Value.slice none 0 0, Value.int .i64 0, Value.slice none 0 0, Value.slice none 0 0, Value.slice none 0 0]).toArray] w (Rt w (.bool false)) := by
 have H0 : Hid (_ ∧ _) := ⟨Mm.nil w, Below.refl w.heap.size w⟩
 go_enter Tryz.func99, Tryz.ntmps99
 refine wp_seq ?_
 refine zN (l := [0, 1]) rfl (fun u0 hu0 => ?_)
 have H1 : Hid (Mm u0 [] ∧ Below w.heap.size w u0) := by rw [hu0]; exact H0
 clear hu0 H0
 refine zA (d := 1) (v := PT u0.heap.size 0) (w' := (u0.alloc (.cells ([Value.int .i64 3, Value.int .i64 1, Value.string ⟨#[97]⟩, Value.string ⟨#[]⟩, Value.string ⟨#[]⟩, Value.slice none 0 0, Value.slice none 0 0, Value.int .i64 0, Value.slice none 0 0, Value.slice none 0 0, Value.slice none 0 0] : List Value).toArray 64))) rfl rfl rfl (ex_boxT rfl rfl) ?_
 simp only [Act.put, sa, sz, ss]
 have o_Js2 : Hid (w.heap.size ≤ u0.heap.size) := H1.out.2.size
 have H2 : Hid (Mm (u0.alloc (.cells ([Value.int .i64 3, Value.int .i64 1, Value.string ⟨#[97]⟩, Value.string ⟨#[]⟩, Value.string ⟨#[]⟩, Value.slice none 0 0, Value.slice none 0 0, Value.int .i64 0, Value.slice none 0 0, Value.slice none 0 0, Value.slice none 0 0] : List Value).toArray 64)) ((u0.heap.size, [Value.int .i64 3, Value.int .i64 1, Value.string ⟨#[97]⟩, Value.string ⟨#[]⟩, Value.string ⟨#[]⟩, Value.slice none 0 0, Value.slice none 0 0, Value.int .i64 0, Value.slice none 0 0, Value.slice none 0 0, Value.slice none 0 0]) :: []) ∧ Below w.heap.size w (u0.alloc (.cells ([Value.int .i64 3, Value.int .i64 1, Value.string ⟨#[97]⟩, Value.string ⟨#[]⟩, Value.string ⟨#[]⟩, Value.slice none 0 0, Value.slice none 0 0, Value.int .i64 0, Value.slice none 0 0, Value.slice none 0 0, Value.slice none 0 0] : List Value).toArray 64))) := ⟨H1.out.1.alloc _ 64 rfl, H1.out.2.trans (((Below.refl _ _).alloc (Nat.le_refl _) _).mono H1.out.2.size)⟩
 clear H1
 generalize hgw : u0.alloc (.cells ([Value.int .i64 3, Value.int .i64 1, Value.string ⟨#[97]⟩, Value.string ⟨#[]⟩, Value.string ⟨#[]⟩, Value.slice none 0 0, Value.slice none 0 0, Value.int .i64 0, Value.slice none 0 0, Value.slice none 0 0, Value.slice none 0 0] : List Value).toArray 64) = w2 at H2 ⊢
 clear hgw
 generalize u0.heap.size = Js2 at o_Js2 H2 ⊢
 refine zA (d := 2) (v := .bool false) (w' := w2) rfl rfl rfl (rfl) ?_
 simp only [Act.put, sa, sz, ss]
 refine zC (zB (wp_seq ?_))
 refine zD (l := [0, 1, 2, 3, 4, 5, 6, 7, 8, 9, 10, 11, 12, 13, 14, 15, 16, 17, 18, 19, 20, 21, 22, 23, 24, 25, 26, 27, 28, 29, 30, 31, 32, 33, 34, 35, 36]) rfl ?_
 refine zA (d := 3) (v := PT Js2 2) (w' := w2) rfl rfl rfl (by go_simp) ?_
 simp only [Act.put, sa, sz, ss]
 refine zA (d := 4) (v := .string ⟨#[97]⟩) (w' := w2) rfl rfl rfl (zJ H2.out.1 0 rfl rfl rfl Ai9 rfl) ?_
 simp only [Act.put, sa, sz, ss]
 refine zA (d := 5) (v := .int .i64 1) (w' := w2) rfl rfl rfl (by kernel_rfl) ?_
 simp only [Act.put, sa, sz, ss]
 refine zA (d := 6) (v := PT Js2 3) (w' := w2) rfl rfl rfl (by go_simp) ?_
 simp only [Act.put, sa, sz, ss]
 refine zA (d := 7) (v := .string ⟨#[]⟩) (w' := w2) rfl rfl rfl (zJ H2.out.1 0 rfl rfl rfl Ai9 rfl) ?_
 simp only [Act.put, sa, sz, ss]
 refine zA (d := 8) (v := .int .i64 0) (w' := w2) rfl rfl rfl (by kernel_rfl) ?_
 simp only [Act.put, sa, sz, ss]
 refine zA (d := 9) (v := PT Js2 4) (w' := w2) rfl rfl rfl (by go_simp) ?_
 simp only [Act.put, sa, sz, ss]
 refine zA (d := 10) (v := .string ⟨#[]⟩) (w' := w2) rfl rfl rfl (zJ H2.out.1 0 rfl rfl rfl Ai9 rfl) ?_
 simp only [Act.put, sa, sz, ss]
 refine zA (d := 11) (v := .int .i64 0) (w' := w2) rfl rfl rfl (by kernel_rfl) ?_
 simp only [Act.put, sa, sz, ss]
 refine zA (d := 12) (v := .int .i64 1) (w' := w2) rfl rfl rfl (by kernel_rfl) ?_
 simp only [Act.put, sa, sz, ss]
 refine zA (d := 13) (v := .bool false) (w' := w2) rfl rfl rfl (by kernel_rfl) ?_
 simp only [Act.put, sa, sz, ss]
 refine zA (d := 14) (v := .bool false) (w' := w2) rfl rfl rfl (rfl) ?_
 simp only [Act.put, sa, sz, ss]
 refine zA (d := 15) (v := PT Js2 5) (w' := w2) rfl rfl rfl (by go_simp) ?_
 simp only [Act.put, sa, sz, ss]
 refine zA (d := 16) (v := .slice none 0 0) (w' := w2) rfl rfl rfl (zJ H2.out.1 0 rfl rfl rfl Ai51 rfl) ?_
 simp only [Act.put, sa, sz, ss]
 refine zA (d := 17) (v := .int .i64 0) (w' := w2) rfl rfl rfl (by go_simp) ?_
 simp only [Act.put, sa, sz, ss]
 refine zA (d := 18) (v := .bool false) (w' := w2) rfl rfl rfl (by kernel_rfl) ?_
 simp only [Act.put, sa, sz, ss]
 refine zA (d := 19) (v := .bool false) (w' := w2) rfl rfl rfl (by go_simp) ?_
 simp only [Act.put, sa, sz, ss]
 refine zA (d := 20) (v := .bool false) (w' := w2) rfl rfl rfl (rfl) ?_
 simp only [Act.put, sa, sz, ss]
 refine zA (d := 21) (v := PT Js2 6) (w' := w2) rfl rfl rfl (by go_simp) ?_
 simp only [Act.put, sa, sz, ss]
 refine zA (d := 22) (v := .slice none 0 0) (w' := w2) rfl rfl rfl (zJ H2.out.1 0 rfl rfl rfl Ai59 rfl) ?_
 simp only [Act.put, sa, sz, ss]
 refine zA (d := 23) (v := .int .i64 0) (w' := w2) rfl rfl rfl (by go_simp) ?_
 simp only [Act.put, sa, sz, ss]
 refine zA (d := 24) (v := .bool false) (w' := w2) rfl rfl rfl (by kernel_rfl) ?_
 simp only [Act.put, sa, sz, ss]
 refine zA (d := 25) (v := .bool false) (w' := w2) rfl rfl rfl (by go_simp) ?_
 simp only [Act.put, sa, sz, ss]
 refine zA (d := 26) (v := .bool false) (w' := w2) rfl rfl rfl (rfl) ?_
 simp only [Act.put, sa, sz, ss]
 refine zA (d := 27) (v := PT Js2 8) (w' := w2) rfl rfl rfl (by go_simp) ?_
 simp only [Act.put, sa, sz, ss]
 refine zA (d := 28) (v := .slice none 0 0) (w' := w2) rfl rfl rfl (zJ H2.out.1 0 rfl rfl rfl Ai60 rfl) ?_
 simp only [Act.put, sa, sz, ss]
 refine zA (d := 29) (v := .int .i64 0) (w' := w2) rfl rfl rfl (by go_simp) ?_
 simp only [Act.put, sa, sz, ss]
 refine zA (d := 30) (v := PT Js2 9) (w' := w2) rfl rfl rfl (by go_simp) ?_
 simp only [Act.put, sa, sz, ss]
 refine zA (d := 31) (v := .slice none 0 0) (w' := w2) rfl rfl rfl (zJ H2.out.1 0 rfl rfl rfl Ai61 rfl) ?_
 simp only [Act.put, sa, sz, ss]
 refine zA (d := 32) (v := .int .i64 0) (w' := w2) rfl rfl rfl (by go_simp) ?_
 simp only [Act.put, sa, sz, ss]
 refine zA (d := 33) (v := PT Js2 10) (w' := w2) rfl rfl rfl (by go_simp) ?_
 simp only [Act.put, sa, sz, ss]
 refine zA (d := 34) (v := .slice none 0 0) (w' := w2) rfl rfl rfl (zJ H2.out.1 0 rfl rfl rfl Ai62 rfl) ?_
 simp only [Act.put, sa, sz, ss]
 refine zA (d := 35) (v := .int .i64 0) (w' := w2) rfl rfl rfl (by go_simp) ?_
 simp only [Act.put, sa, sz, ss]
 refine zA (d := 36) (v := .int .i64 0) (w' := w2) rfl rfl rfl (by kernel_rfl) ?_
 simp only [Act.put, sa, sz, ss]
 refine zA (d := 37) (v := .bool false) (w' := w2) rfl rfl rfl (by kernel_rfl) ?_
 simp only [Act.put, sa, sz, ss]
 refine zA (d := 38) (v := .bool false) (w' := w2) rfl rfl rfl (by go_simp) ?_
 simp only [Act.put, sa, sz, ss]
 refine zA (d := 2) (v := .bool false) (w' := w2) rfl rfl rfl (rfl) ?_
 simp only [Act.put, sa, sz, ss]
 refine zC (zB (wp_ret ?_))
 repeat (first | refine zL ?_ | refine zK ?_)
 refine bodyPost_ret (v := .bool false) (by simp [results, Tryz.results99, go_sem, *]) rfl ?_
 exact ⟨rfl, H2.out.2⟩
set_option maxHeartbeats 2000000 in
theorem long_4 (gn : Nat) (w : World) :
  Calls Tryz.prog 99 #[.agg ([Value.int .i64 0, Value.int .i64 0, Value.string ⟨#[]⟩, Value.string ⟨#[]⟩, Value.string ⟨#[]⟩, Value.slice none 0 0, Value.slice none 0 0, Value.int .i64 1, Value.slice (some ⟨gn, 0, none⟩) 1 1, Value.slice none 0 0, Value.slice none 0 0]).toArray] w (Rt w (.bool false)) := by
 have H0 : Hid (_ ∧ _) := ⟨Mm.nil w, Below.refl w.heap.size w⟩
 go_enter Tryz.func99, Tryz.ntmps99
 refine wp_seq ?_
 refine zN (l := [0, 1]) rfl (fun u0 hu0 => ?_)
 have H1 : Hid (Mm u0 [] ∧ Below w.heap.size w u0) := by rw [hu0]; exact H0
 clear hu0 H0
 refine zA (d := 1) (v := PT u0.heap.size 0) (w' := (u0.alloc (.cells ([Value.int .i64 0, Value.int .i64 0, Value.string ⟨#[]⟩, Value.string ⟨#[]⟩, Value.string ⟨#[]⟩, Value.slice none 0 0, Value.slice none 0 0, Value.int .i64 1, Value.slice (some ⟨gn, 0, none⟩) 1 1, Value.slice none 0 0, Value.slice none 0 0] : List Value).toArray 64))) rfl rfl rfl (ex_boxT rfl rfl) ?_
 simp only [Act.put, sa, sz, ss]
 have o_Js2 : Hid (w.heap.size ≤ u0.heap.size) := H1.out.2.size
 have H2 : Hid (Mm (u0.alloc (.cells ([Value.int .i64 0, Value.int .i64 0, Value.string ⟨#[]⟩, Value.string ⟨#[]⟩, Value.string ⟨#[]⟩, Value.slice none 0 0, Value.slice none 0 0, Value.int .i64 1, Value.slice (some ⟨gn, 0, none⟩) 1 1, Value.slice none 0 0, Value.slice none 0 0] : List Value).toArray 64)) ((u0.heap.size, [Value.int .i64 0, Value.int .i64 0, Value.string ⟨#[]⟩, Value.string ⟨#[]⟩, Value.string ⟨#[]⟩, Value.slice none 0 0, Value.slice none 0 0, Value.int .i64 1, Value.slice (some ⟨gn, 0, none⟩) 1 1, Value.slice none 0 0, Value.slice none 0 0]) :: []) ∧ Below w.heap.size w (u0.alloc (.cells ([Value.int .i64 0, Value.int .i64 0, Value.string ⟨#[]⟩, Value.string ⟨#[]⟩, Value.string ⟨#[]⟩, Value.slice none 0 0, Value.slice none 0 0, Value.int .i64 1, Value.slice (some ⟨gn, 0, none⟩) 1 1, Value.slice none 0 0, Value.slice none 0 0] : List Value).toArray 64))) := ⟨H1.out.1.alloc _ 64 rfl, H1.out.2.trans (((Below.refl _ _).alloc (Nat.le_refl _) _).mono H1.out.2.size)⟩
 clear H1
 generalize hgw : u0.alloc (.cells ([Value.int .i64 0, Value.int .i64 0, Value.string ⟨#[]⟩, Value.string ⟨#[]⟩, Value.string ⟨#[]⟩, Value.slice none 0 0, Value.slice none 0 0, Value.int .i64 1, Value.slice (some ⟨gn, 0, none⟩) 1 1, Value.slice none 0 0, Value.slice none 0 0] : List Value).toArray 64) = w2 at H2 ⊢
 clear hgw
 generalize u0.heap.size = Js2 at o_Js2 H2 ⊢
 refine zA (d := 2) (v := .bool false) (w' := w2) rfl rfl rfl (rfl) ?_
 simp only [Act.put, sa, sz, ss]
 refine zC (zB (wp_seq ?_))
 refine zD (l := [0, 1, 2, 3, 4, 5, 6, 7, 8, 9, 10, 11, 12, 13, 14, 15, 16, 17, 18, 19, 20, 21, 22, 23, 24, 25, 26, 27, 28, 29, 30, 31, 32, 33, 34, 35, 36]) rfl ?_
 refine zA (d := 3) (v := PT Js2 2) (w' := w2) rfl rfl rfl (by go_simp) ?_
 simp only [Act.put, sa, sz, ss]
 refine zA (d := 4) (v := .string ⟨#[]⟩) (w' := w2) rfl rfl rfl (zJ H2.out.1 0 rfl rfl rfl Ai9 rfl) ?_
 simp only [Act.put, sa, sz, ss]
 refine zA (d := 5) (v := .int .i64 0) (w' := w2) rfl rfl rfl (by kernel_rfl) ?_
 simp only [Act.put, sa, sz, ss]
 refine zA (d := 6) (v := PT Js2 3) (w' := w2) rfl rfl rfl (by go_simp) ?_
 simp only [Act.put, sa, sz, ss]
 refine zA (d := 7) (v := .string ⟨#[]⟩) (w' := w2) rfl rfl rfl (zJ H2.out.1 0 rfl rfl rfl Ai9 rfl) ?_
 simp only [Act.put, sa, sz, ss]
 refine zA (d := 8) (v := .int .i64 0) (w' := w2) rfl rfl rfl (by kernel_rfl) ?_
 simp only [Act.put, sa, sz, ss]
 refine zA (d := 9) (v := PT Js2 4) (w' := w2) rfl rfl rfl (by go_simp) ?_
 simp only [Act.put, sa, sz, ss]
 refine zA (d := 10) (v := .string ⟨#[]⟩) (w' := w2) rfl rfl rfl (zJ H2.out.1 0 rfl rfl rfl Ai9 rfl) ?_
 simp only [Act.put, sa, sz, ss]
 refine zA (d := 11) (v := .int .i64 0) (w' := w2) rfl rfl rfl (by kernel_rfl) ?_
 simp only [Act.put, sa, sz, ss]
 refine zA (d := 12) (v := .int .i64 0) (w' := w2) rfl rfl rfl (by kernel_rfl) ?_
 simp only [Act.put, sa, sz, ss]
 refine zA (d := 13) (v := .bool false) (w' := w2) rfl rfl rfl (by kernel_rfl) ?_
 simp only [Act.put, sa, sz, ss]
 refine zA (d := 14) (v := .bool false) (w' := w2) rfl rfl rfl (rfl) ?_
 simp only [Act.put, sa, sz, ss]
 refine zA (d := 15) (v := PT Js2 5) (w' := w2) rfl rfl rfl (by go_simp) ?_
 simp only [Act.put, sa, sz, ss]
 refine zA (d := 16) (v := .slice none 0 0) (w' := w2) rfl rfl rfl (zJ H2.out.1 0 rfl rfl rfl Ai51 rfl) ?_
 simp only [Act.put, sa, sz, ss]
 refine zA (d := 17) (v := .int .i64 0) (w' := w2) rfl rfl rfl (by go_simp) ?_
 simp only [Act.put, sa, sz, ss]
 refine zA (d := 18) (v := .bool false) (w' := w2) rfl rfl rfl (by kernel_rfl) ?_
 simp only [Act.put, sa, sz, ss]
 refine zA (d := 19) (v := .bool false) (w' := w2) rfl rfl rfl (by go_simp) ?_
 simp only [Act.put, sa, sz, ss]
 refine zA (d := 20) (v := .bool false) (w' := w2) rfl rfl rfl (rfl) ?_
 simp only [Act.put, sa, sz, ss]
 refine zA (d := 21) (v := PT Js2 6) (w' := w2) rfl rfl rfl (by go_simp) ?_
 simp only [Act.put, sa, sz, ss]
 refine zA (d := 22) (v := .slice none 0 0) (w' := w2) rfl rfl rfl (zJ H2.out.1 0 rfl rfl rfl Ai59 rfl) ?_
 simp only [Act.put, sa, sz, ss]
 refine zA (d := 23) (v := .int .i64 0) (w' := w2) rfl rfl rfl (by go_simp) ?_
 simp only [Act.put, sa, sz, ss]
 refine zA (d := 24) (v := .bool false) (w' := w2) rfl rfl rfl (by kernel_rfl) ?_
 simp only [Act.put, sa, sz, ss]
 refine zA (d := 25) (v := .bool false) (w' := w2) rfl rfl rfl (by go_simp) ?_
 simp only [Act.put, sa, sz, ss]
 refine zA (d := 26) (v := .bool false) (w' := w2) rfl rfl rfl (rfl) ?_
 simp only [Act.put, sa, sz, ss]
 refine zA (d := 27) (v := PT Js2 8) (w' := w2) rfl rfl rfl (by go_simp) ?_
 simp only [Act.put, sa, sz, ss]
 refine zA (d := 28) (v := .slice (some ⟨gn, 0, none⟩) 1 1) (w' := w2) rfl rfl rfl (zJ H2.out.1 0 rfl rfl rfl Ai60 rfl) ?_
 simp only [Act.put, sa, sz, ss]
 refine zA (d := 29) (v := .int .i64 1) (w' := w2) rfl rfl rfl (by go_simp) ?_
 simp only [Act.put, sa, sz, ss]
 refine zA (d := 30) (v := PT Js2 9) (w' := w2) rfl rfl rfl (by go_simp) ?_
 simp only [Act.put, sa, sz, ss]
 refine zA (d := 31) (v := .slice none 0 0) (w' := w2) rfl rfl rfl (zJ H2.out.1 0 rfl rfl rfl Ai61 rfl) ?_
 simp only [Act.put, sa, sz, ss]
 refine zA (d := 32) (v := .int .i64 0) (w' := w2) rfl rfl rfl (by go_simp) ?_
 simp only [Act.put, sa, sz, ss]
 refine zA (d := 33) (v := PT Js2 10) (w' := w2) rfl rfl rfl (by go_simp) ?_
 simp only [Act.put, sa, sz, ss]
 refine zA (d := 34) (v := .slice none 0 0) (w' := w2) rfl rfl rfl (zJ H2.out.1 0 rfl rfl rfl Ai62 rfl) ?_
 simp only [Act.put, sa, sz, ss]
 refine zA (d := 35) (v := .int .i64 0) (w' := w2) rfl rfl rfl (by go_simp) ?_
 simp only [Act.put, sa, sz, ss]
 refine zA (d := 36) (v := .int .i64 1) (w' := w2) rfl rfl rfl (by kernel_rfl) ?_
 simp only [Act.put, sa, sz, ss]
 refine zA (d := 37) (v := .bool false) (w' := w2) rfl rfl rfl (by kernel_rfl) ?_
 simp only [Act.put, sa, sz, ss]
 refine zA (d := 38) (v := .bool false) (w' := w2) rfl rfl rfl (by go_simp) ?_
 simp only [Act.put, sa, sz, ss]
 refine zA (d := 2) (v := .bool false) (w' := w2) rfl rfl rfl (rfl) ?_
 simp only [Act.put, sa, sz, ss]
 refine zC (zB (wp_ret ?_))
 repeat (first | refine zL ?_ | refine zK ?_)
 refine bodyPost_ret (v := .bool false) (by simp [results, Tryz.results99, go_sem, *]) rfl ?_
 exact ⟨rfl, H2.out.2⟩
set_option maxHeartbeats 2000000 in
theorem long_5 (gk : Nat) (w : World) :
  Calls Tryz.prog 99 #[.agg ([Value.int .i64 0, Value.int .i64 0, Value.string ⟨#[]⟩, Value.string ⟨#[]⟩, Value.string ⟨#[]⟩, Value.slice none 0 0, Value.slice none 0 0, Value.int .i64 0, Value.slice none 0 0, Value.slice (some ⟨gk, 0, none⟩) 1 1, Value.slice none 0 0]).toArray] w (Rt w (.bool false)) := by
 have H0 : Hid (_ ∧ _) := ⟨Mm.nil w, Below.refl w.heap.size w⟩
 go_enter Tryz.func99, Tryz.ntmps99
 refine wp_seq ?_
 refine zN (l := [0, 1]) rfl (fun u0 hu0 => ?_)
 have H1 : Hid (Mm u0 [] ∧ Below w.heap.size w u0) := by rw [hu0]; exact H0
 clear hu0 H0
 refine zA (d := 1) (v := PT u0.heap.size 0) (w' := (u0.alloc (.cells ([Value.int .i64 0, Value.int .i64 0, Value.string ⟨#[]⟩, Value.string ⟨#[]⟩, Value.string ⟨#[]⟩, Value.slice none 0 0, Value.slice none 0 0, Value.int .i64 0, Value.slice none 0 0, Value.slice (some ⟨gk, 0, none⟩) 1 1, Value.slice none 0 0] : List Value).toArray 64))) rfl rfl rfl (ex_boxT rfl rfl) ?_
 simp only [Act.put, sa, sz, ss]
 have o_Js2 : Hid (w.heap.size ≤ u0.heap.size) := H1.out.2.size
 have H2 : Hid (Mm (u0.alloc (.cells ([Value.int .i64 0, Value.int .i64 0, Value.string ⟨#[]⟩, Value.string ⟨#[]⟩, Value.string ⟨#[]⟩, Value.slice none 0 0, Value.slice none 0 0, Value.int .i64 0, Value.slice none 0 0, Value.slice (some ⟨gk, 0, none⟩) 1 1, Value.slice none 0 0] : List Value).toArray 64)) ((u0.heap.size, [Value.int .i64 0, Value.int .i64 0, Value.string ⟨#[]⟩, Value.string ⟨#[]⟩, Value.string ⟨#[]⟩, Value.slice none 0 0, Value.slice none 0 0, Value.int .i64 0, Value.slice none 0 0, Value.slice (some ⟨gk, 0, none⟩) 1 1, Value.slice none 0 0]) :: []) ∧ Below w.heap.size w (u0.alloc (.cells ([Value.int .i64 0, Value.int .i64 0, Value.string ⟨#[]⟩, Value.string ⟨#[]⟩, Value.string ⟨#[]⟩, Value.slice none 0 0, Value.slice none 0 0, Value.int .i64 0, Value.slice none 0 0, Value.slice (some ⟨gk, 0, none⟩) 1 1, Value.slice none 0 0] : List Value).toArray 64))) := ⟨H1.out.1.alloc _ 64 rfl, H1.out.2.trans (((Below.refl _ _).alloc (Nat.le_refl _) _).mono H1.out.2.size)⟩
 clear H1
 generalize hgw : u0.alloc (.cells ([Value.int .i64 0, Value.int .i64 0, Value.string ⟨#[]⟩, Value.string ⟨#[]⟩, Value.string ⟨#[]⟩, Value.slice none 0 0, Value.slice none 0 0, Value.int .i64 0, Value.slice none 0 0, Value.slice (some ⟨gk, 0, none⟩) 1 1, Value.slice none 0 0] : List Value).toArray 64) = w2 at H2 ⊢
 clear hgw
 generalize u0.heap.size = Js2 at o_Js2 H2 ⊢
 refine zA (d := 2) (v := .bool false) (w' := w2) rfl rfl rfl (rfl) ?_
 simp only [Act.put, sa, sz, ss]
 refine zC (zB (wp_seq ?_))
 refine zD (l := [0, 1, 2, 3, 4, 5, 6, 7, 8, 9, 10, 11, 12, 13, 14, 15, 16, 17, 18, 19, 20, 21, 22, 23, 24, 25, 26, 27, 28, 29, 30, 31, 32, 33, 34, 35, 36]) rfl ?_
 refine zA (d := 3) (v := PT Js2 2) (w' := w2) rfl rfl rfl (by go_simp) ?_
 simp only [Act.put, sa, sz, ss]
 refine zA (d := 4) (v := .string ⟨#[]⟩) (w' := w2) rfl rfl rfl (zJ H2.out.1 0 rfl rfl rfl Ai9 rfl) ?_
 simp only [Act.put, sa, sz, ss]
 refine zA (d := 5) (v := .int .i64 0) (w' := w2) rfl rfl rfl (by kernel_rfl) ?_
 simp only [Act.put, sa, sz, ss]
 refine zA (d := 6) (v := PT Js2 3) (w' := w2) rfl rfl rfl (by go_simp) ?_
 simp only [Act.put, sa, sz, ss]
 refine zA (d := 7) (v := .string ⟨#[]⟩) (w' := w2) rfl rfl rfl (zJ H2.out.1 0 rfl rfl rfl Ai9 rfl) ?_
 simp only [Act.put, sa, sz, ss]
 refine zA (d := 8) (v := .int .i64 0) (w' := w2) rfl rfl rfl (by kernel_rfl) ?_
 simp only [Act.put, sa, sz, ss]
 refine zA (d := 9) (v := PT Js2 4) (w' := w2) rfl rfl rfl (by go_simp) ?_
 simp only [Act.put, sa, sz, ss]
 refine zA (d := 10) (v := .string ⟨#[]⟩) (w' := w2) rfl rfl rfl (zJ H2.out.1 0 rfl rfl rfl Ai9 rfl) ?_
 simp only [Act.put, sa, sz, ss]
 refine zA (d := 11) (v := .int .i64 0) (w' := w2) rfl rfl rfl (by kernel_rfl) ?_
 simp only [Act.put, sa, sz, ss]
 refine zA (d := 12) (v := .int .i64 0) (w' := w2) rfl rfl rfl (by kernel_rfl) ?_
 simp only [Act.put, sa, sz, ss]
 refine zA (d := 13) (v := .bool false) (w' := w2) rfl rfl rfl (by kernel_rfl) ?_
 simp only [Act.put, sa, sz, ss]
 refine zA (d := 14) (v := .bool false) (w' := w2) rfl rfl rfl (rfl) ?_
 simp only [Act.put, sa, sz, ss]
 refine zA (d := 15) (v := PT Js2 5) (w' := w2) rfl rfl rfl (by go_simp) ?_
 simp only [Act.put, sa, sz, ss]
 refine zA (d := 16) (v := .slice none 0 0) (w' := w2) rfl rfl rfl (zJ H2.out.1 0 rfl rfl rfl Ai51 rfl) ?_
 simp only [Act.put, sa, sz, ss]
 refine zA (d := 17) (v := .int .i64 0) (w' := w2) rfl rfl rfl (by go_simp) ?_
 simp only [Act.put, sa, sz, ss]
 refine zA (d := 18) (v := .bool false) (w' := w2) rfl rfl rfl (by kernel_rfl) ?_
 simp only [Act.put, sa, sz, ss]
 refine zA (d := 19) (v := .bool false) (w' := w2) rfl rfl rfl (by go_simp) ?_
 simp only [Act.put, sa, sz, ss]
 refine zA (d := 20) (v := .bool false) (w' := w2) rfl rfl rfl (rfl) ?_
 simp only [Act.put, sa, sz, ss]
 refine zA (d := 21) (v := PT Js2 6) (w' := w2) rfl rfl rfl (by go_simp) ?_
 simp only [Act.put, sa, sz, ss]
 refine zA (d := 22) (v := .slice none 0 0) (w' := w2) rfl rfl rfl (zJ H2.out.1 0 rfl rfl rfl Ai59 rfl) ?_
 simp only [Act.put, sa, sz, ss]
 refine zA (d := 23) (v := .int .i64 0) (w' := w2) rfl rfl rfl (by go_simp) ?_
 simp only [Act.put, sa, sz, ss]
 refine zA (d := 24) (v := .bool false) (w' := w2) rfl rfl rfl (by kernel_rfl) ?_
 simp only [Act.put, sa, sz, ss]
 refine zA (d := 25) (v := .bool false) (w' := w2) rfl rfl rfl (by go_simp) ?_
 simp only [Act.put, sa, sz, ss]
 refine zA (d := 26) (v := .bool false) (w' := w2) rfl rfl rfl (rfl) ?_
 simp only [Act.put, sa, sz, ss]
 refine zA (d := 27) (v := PT Js2 8) (w' := w2) rfl rfl rfl (by go_simp) ?_
 simp only [Act.put, sa, sz, ss]
 refine zA (d := 28) (v := .slice none 0 0) (w' := w2) rfl rfl rfl (zJ H2.out.1 0 rfl rfl rfl Ai60 rfl) ?_
 simp only [Act.put, sa, sz, ss]
 refine zA (d := 29) (v := .int .i64 0) (w' := w2) rfl rfl rfl (by go_simp) ?_
 simp only [Act.put, sa, sz, ss]
 refine zA (d := 30) (v := PT Js2 9) (w' := w2) rfl rfl rfl (by go_simp) ?_
 simp only [Act.put, sa, sz, ss]
 refine zA (d := 31) (v := .slice (some ⟨gk, 0, none⟩) 1 1) (w' := w2) rfl rfl rfl (zJ H2.out.1 0 rfl rfl rfl Ai61 rfl) ?_
 simp only [Act.put, sa, sz, ss]
 refine zA (d := 32) (v := .int .i64 1) (w' := w2) rfl rfl rfl (by go_simp) ?_
 simp only [Act.put, sa, sz, ss]
 refine zA (d := 33) (v := PT Js2 10) (w' := w2) rfl rfl rfl (by go_simp) ?_
 simp only [Act.put, sa, sz, ss]
 refine zA (d := 34) (v := .slice none 0 0) (w' := w2) rfl rfl rfl (zJ H2.out.1 0 rfl rfl rfl Ai62 rfl) ?_
 simp only [Act.put, sa, sz, ss]
 refine zA (d := 35) (v := .int .i64 0) (w' := w2) rfl rfl rfl (by go_simp) ?_
 simp only [Act.put, sa, sz, ss]
 refine zA (d := 36) (v := .int .i64 1) (w' := w2) rfl rfl rfl (by kernel_rfl) ?_
 simp only [Act.put, sa, sz, ss]
 refine zA (d := 37) (v := .bool false) (w' := w2) rfl rfl rfl (by kernel_rfl) ?_
 simp only [Act.put, sa, sz, ss]
 refine zA (d := 38) (v := .bool false) (w' := w2) rfl rfl rfl (by go_simp) ?_
 simp only [Act.put, sa, sz, ss]
 refine zA (d := 2) (v := .bool false) (w' := w2) rfl rfl rfl (rfl) ?_
 simp only [Act.put, sa, sz, ss]
 refine zC (zB (wp_ret ?_))
 repeat (first | refine zL ?_ | refine zK ?_)
 refine bodyPost_ret (v := .bool false) (by simp [results, Tryz.results99, go_sem, *]) rfl ?_
 exact ⟨rfl, H2.out.2⟩
theorem cmp_same (w : World) : Calls Tryz.prog 85 #[N 65521, N 65521] w (Rt w (.int .i64 0)) := by
 have h := compare_any 65521 65521 (small_big _ (by decide)) (small_big _ (by decide)) w
 rw [show cmpv 65521 65521 = 0 by decide] at h
 exact h
set_option maxHeartbeats 2000000 in
theorem b1_true (go : Nat) (w : World) (hm : Mm w [(go, zE 65521)]) :
  Calls Tryz.prog 101 #[N 65521, PT go 0] w (Rt w (.bool true)) := by
 have H0 : Hid (_ ∧ _) := ⟨hm, Below.refl w.heap.size w⟩
 clear hm
 go_enter Tryz.func101, Tryz.ntmps101
 refine wp_seq ?_
 refine zN (l := [0, 1]) rfl (fun u0 hu0 => ?_)
 have H1 : Hid (Mm u0 [(go, zE 65521)] ∧ Below w.heap.size w u0) := by rw [hu0]; exact H0
 clear hu0 H0
 refine zA (d := 2) (v := PT u0.heap.size 0) (w' := (u0.alloc (.cells (zE 65521 : List Value).toArray 24))) rfl rfl rfl (ex_box6 rfl rfl) ?_
 simp only [Act.put, sa, sz, ss]
 have o_Js2 : Hid (w.heap.size ≤ u0.heap.size) := H1.out.2.size
 have H2 : Hid (Mm (u0.alloc (.cells (zE 65521 : List Value).toArray 24)) ((u0.heap.size, zE 65521) :: [(go, zE 65521)]) ∧ Below w.heap.size w (u0.alloc (.cells (zE 65521 : List Value).toArray 24))) := ⟨H1.out.1.alloc _ 24 rfl, H1.out.2.trans (((Below.refl _ _).alloc (Nat.le_refl _) _).mono H1.out.2.size)⟩
 clear H1
 generalize hgw : u0.alloc (.cells (zE 65521 : List Value).toArray 24) = w2 at H2 ⊢
 clear hgw
 generalize u0.heap.size = Js2 at o_Js2 H2 ⊢
 refine zA (d := 3) (v := .bool false) (w' := w2) rfl rfl rfl (rfl) ?_
 simp only [Act.put, sa, sz, ss]
 refine zC (zB (wp_seq ?_))
 refine zD (l := [0, 1, 2, 3, 4]) rfl ?_
 refine zA (d := 4) (v := N 65521) (w' := w2) rfl rfl rfl (ex_load6 (v := 65521) H2.out.1 0 rfl rfl rfl rfl) ?_
 simp only [Act.put, sa, sz, ss]
 refine zA (d := 5) (v := N 65521) (w' := w2) rfl rfl rfl (ex_load6 (v := 65521) H2.out.1 1 rfl rfl rfl rfl) ?_
 simp only [Act.put, sa, sz, ss]
 refine zF (d := 6) (R := fun vv w' => vv = .int .i64 0 ∧ Below w2.heap.size w2 w') rfl rfl rfl (zG (args := #[N 65521, N 65521]) rfl call85 rfl (mpn rfl)) (Calls.mono (cmp_same w2) (fun e w2 hh => ⟨_, hh.1, rfl, hh.2⟩)) ?_
 rintro _ w3 ⟨rfl, hb⟩
 have H3 : Hid (Mm w3 [(Js2, zE 65521), (go, zE 65521)] ∧ Below w.heap.size w w3) := ⟨H2.out.1.below hb, H2.out.2.trans (hb.mono H2.out.2.size)⟩
 clear hb
 clear H2
 simp only [Act.put, sa, sz, ss]
 refine zA (d := 7) (v := .bool true) (w' := w3) rfl rfl rfl (by kernel_rfl) ?_
 simp only [Act.put, sa, sz, ss]
 refine zA (d := 3) (v := .bool true) (w' := w3) rfl rfl rfl (rfl) ?_
 simp only [Act.put, sa, sz, ss]
 refine zC (zB (wp_ret ?_))
 repeat (first | refine zL ?_ | refine zK ?_)
 refine bodyPost_ret (v := .bool true) (by simp [results, Tryz.results101, go_sem, *]) rfl ?_
 exact ⟨rfl, H3.out.2⟩
set_option maxHeartbeats 2000000 in
theorem ixN_one (gn go : Nat) (w : World) (hm : Mm w [(gn, zE 65521), (go, zE 65521)]) :
  Calls Tryz.prog 150 #[.slice (some ⟨gn, 0, none⟩) 1 1, .func (.func 101) #[] #[PT go 0]] w (Rt w (.int .i64 0)) := by
 have H0 : Hid (_ ∧ _) := ⟨hm, Below.refl w.heap.size w⟩
 clear hm
 go_enter Tryz.func150, Tryz.ntmps150
 refine wp_seq ?_
 refine zN (l := [0]) rfl (fun u0 hu0 => ?_)
 have H1 : Hid (Mm u0 [(gn, zE 65521), (go, zE 65521)] ∧ Below w.heap.size w u0) := by rw [hu0]; exact H0
 clear hu0 H0
 refine zA (d := 4) (v := .int .i64 0) (w' := u0) rfl rfl rfl (rfl) ?_
 simp only [Act.put, sa, sz, ss]
 refine zC (zB ?_)
 refine wp_seq (wp_seq ?_)
 refine zD (l := [0, 1, 2]) rfl ?_
 refine zA (d := 6) (v := .slice (some ⟨gn, 0, none⟩) 1 1) (w' := u0) rfl rfl rfl (rfl) ?_
 simp only [Act.put, sa, sz, ss]
 refine zA (d := 7) (v := .int .i64 1) (w' := u0) rfl rfl rfl (by go_simp) ?_
 simp only [Act.put, sa, sz, ss]
 refine zA (d := 8) (v := .int .i64 0) (w' := u0) rfl rfl rfl (rfl) ?_
 simp only [Act.put, sa, sz, ss]
 refine zC (zB (wp_block ?_))
 refine wp_loop_rounds 2 ?_
 refine zU (n := 1) ?_
 refine wp_seq ?_
 refine zD (l := [0]) rfl ?_
 refine zA (d := 9) (v := .bool true) (w' := u0) rfl rfl rfl (by kernel_rfl) ?_
 simp only [Act.put, sa, sz, ss]
 refine zC (zB ?_)
 refine wp_seq (wp_cond_true rfl ?_)
 refine wp_skip (zB ?_)
 refine wp_seq (wp_block (wp_seq ?_))
 refine zD (l := [0, 1]) rfl ?_
 refine zA (d := 10) (v := .int .i64 0) (w' := u0) rfl rfl rfl (rfl) ?_
 simp only [Act.put, sa, sz, ss]
 refine zA (d := 5) (v := .int .i64 0) (w' := u0) rfl rfl rfl (rfl) ?_
 simp only [Act.put, sa, sz, ss]
 refine zC (zB (wp_seq ?_))
 refine zD (l := [0, 1, 2, 3, 4, 5]) rfl ?_
 refine zA (d := 11) (v := .func (.func 101) #[] #[PT go 0]) (w' := u0) rfl rfl rfl (rfl) ?_
 simp only [Act.put, sa, sz, ss]
 refine zA (d := 12) (v := .slice (some ⟨gn, 0, none⟩) 1 1) (w' := u0) rfl rfl rfl (rfl) ?_
 simp only [Act.put, sa, sz, ss]
 refine zA (d := 13) (v := .int .i64 0) (w' := u0) rfl rfl rfl (rfl) ?_
 simp only [Act.put, sa, sz, ss]
 refine zA (d := 14) (v := PT gn 0) (w' := u0) rfl rfl rfl (by go_simp) ?_
 simp only [Act.put, sa, sz, ss]
 refine zA (d := 15) (v := N 65521) (w' := u0) rfl rfl rfl (ex_load6 (v := 65521) H1.out.1 0 rfl rfl rfl rfl) ?_
 simp only [Act.put, sa, sz, ss]
 refine zF (d := 16) (R := fun vv w' => vv = .bool true ∧ Below u0.heap.size u0 w') rfl rfl rfl (ex_callV rfl call101 rfl (mpn rfl) rfl) (Calls.mono (b1_true go u0 (H1.out.1.one 1 rfl)) (fun e w2 hh => ⟨_, hh.1, rfl, hh.2⟩)) ?_
 rintro _ w2 ⟨rfl, hb⟩
 have H2 : Hid (Mm w2 [(gn, zE 65521), (go, zE 65521)] ∧ Below w.heap.size w w2) := ⟨H1.out.1.below hb, H1.out.2.trans (hb.mono H1.out.2.size)⟩
 clear hb
 clear H1
 simp only [Act.put, sa, sz, ss]
 refine zC (zB ?_)
 refine wp_cond_true rfl (wp_seq ?_)
 refine zD (l := [0, 1]) rfl ?_
 refine zA (d := 17) (v := .int .i64 0) (w' := w2) rfl rfl rfl (rfl) ?_
 simp only [Act.put, sa, sz, ss]
 refine zA (d := 4) (v := .int .i64 0) (w' := w2) rfl rfl rfl (rfl) ?_
 simp only [Act.put, sa, sz, ss]
 refine zC (zB (wp_ret ?_))
 repeat (first | refine zL ?_ | refine zK ?_)
 refine bodyPost_ret (v := .int .i64 0) (by simp [results, Tryz.results150, go_sem, *]) rfl ?_
 exact ⟨rfl, H2.out.2⟩
set_option maxHeartbeats 2000000 in
theorem cfN_one (gn go : Nat) (w : World) (hm : Mm w [(gn, zE 65521), (go, zE 65521)]) :
  Calls Tryz.prog 100 #[.slice (some ⟨gn, 0, none⟩) 1 1, .func (.func 101) #[] #[PT go 0]] w (Rt w (.bool true)) := by
 have H0 : Hid (_ ∧ _) := ⟨hm, Below.refl w.heap.size w⟩
 clear hm
 go_enter Tryz.func100, Tryz.ntmps100
 refine wp_seq ?_
 refine zN (l := [0]) rfl (fun u0 hu0 => ?_)
 have H1 : Hid (Mm u0 [(gn, zE 65521), (go, zE 65521)] ∧ Below w.heap.size w u0) := by rw [hu0]; exact H0
 clear hu0 H0
 refine zA (d := 4) (v := .bool false) (w' := u0) rfl rfl rfl (rfl) ?_
 simp only [Act.put, sa, sz, ss]
 refine zC (zB (wp_seq ?_))
 refine zD (l := [0, 1, 2, 3, 4]) rfl ?_
 refine zA (d := 5) (v := .slice (some ⟨gn, 0, none⟩) 1 1) (w' := u0) rfl rfl rfl (rfl) ?_
 simp only [Act.put, sa, sz, ss]
 refine zA (d := 6) (v := .func (.func 101) #[] #[PT go 0]) (w' := u0) rfl rfl rfl (rfl) ?_
 simp only [Act.put, sa, sz, ss]
 refine zF (d := 7) (R := fun vv w' => vv = .int .i64 0 ∧ Below u0.heap.size u0 w') rfl rfl rfl (zG (args := #[.slice (some ⟨gn, 0, none⟩) 1 1, .func (.func 101) #[] #[PT go 0]]) rfl call150 rfl (mpn rfl)) (Calls.mono (ixN_one gn go u0 (H1.out.1.two 0 1 rfl rfl (by decide))) (fun e w2 hh => ⟨_, hh.1, rfl, hh.2⟩)) ?_
 rintro _ w2 ⟨rfl, hb⟩
 have H2 : Hid (Mm w2 [(gn, zE 65521), (go, zE 65521)] ∧ Below w.heap.size w w2) := ⟨H1.out.1.below hb, H1.out.2.trans (hb.mono H1.out.2.size)⟩
 clear hb
 clear H1
 simp only [Act.put, sa, sz, ss]
 refine zA (d := 8) (v := .bool true) (w' := w2) rfl rfl rfl (by kernel_rfl) ?_
 simp only [Act.put, sa, sz, ss]
 refine zA (d := 4) (v := .bool true) (w' := w2) rfl rfl rfl (rfl) ?_
 simp only [Act.put, sa, sz, ss]
 refine zC (zB (wp_ret ?_))
 repeat (first | refine zL ?_ | refine zK ?_)
 refine bodyPost_ret (v := .bool true) (by simp [results, Tryz.results100, go_sem, *]) rfl ?_
 exact ⟨rfl, H2.out.2⟩
set_option maxHeartbeats 4000000 in
theorem bounds_1  (w : World) :
  Calls Tryz.prog 46 #[.agg ([Value.int .i64 3, Value.int .i64 1, Value.string ⟨#[97]⟩, Value.string ⟨#[]⟩, Value.string ⟨#[]⟩, Value.slice none 0 0, Value.slice none 0 0, Value.int .i64 0, Value.slice none 0 0, Value.slice none 0 0, Value.slice none 0 0]).toArray] w (Rt w (.int .i64 0)) := by
 have H0 : Hid (_ ∧ _) := ⟨Mm.nil w, Below.refl w.heap.size w⟩
 go_enter Tryz.func46, Tryz.ntmps46
 refine wp_seq ?_
 refine zN (l := [0, 1]) rfl (fun u0 hu0 => ?_)
 have H1 : Hid (Mm u0 [] ∧ Below w.heap.size w u0) := by rw [hu0]; exact H0
 clear hu0 H0
 refine zA (d := 1) (v := PT u0.heap.size 0) (w' := (u0.alloc (.cells ([Value.int .i64 3, Value.int .i64 1, Value.string ⟨#[97]⟩, Value.string ⟨#[]⟩, Value.string ⟨#[]⟩, Value.slice none 0 0, Value.slice none 0 0, Value.int .i64 0, Value.slice none 0 0, Value.slice none 0 0, Value.slice none 0 0] : List Value).toArray 64))) rfl rfl rfl (ex_boxT rfl rfl) ?_
 simp only [Act.put, sa, sz, ss]
 have o_Js2 : Hid (w.heap.size ≤ u0.heap.size) := H1.out.2.size
 have H2 : Hid (Mm (u0.alloc (.cells ([Value.int .i64 3, Value.int .i64 1, Value.string ⟨#[97]⟩, Value.string ⟨#[]⟩, Value.string ⟨#[]⟩, Value.slice none 0 0, Value.slice none 0 0, Value.int .i64 0, Value.slice none 0 0, Value.slice none 0 0, Value.slice none 0 0] : List Value).toArray 64)) ((u0.heap.size, [Value.int .i64 3, Value.int .i64 1, Value.string ⟨#[97]⟩, Value.string ⟨#[]⟩, Value.string ⟨#[]⟩, Value.slice none 0 0, Value.slice none 0 0, Value.int .i64 0, Value.slice none 0 0, Value.slice none 0 0, Value.slice none 0 0]) :: []) ∧ Below w.heap.size w (u0.alloc (.cells ([Value.int .i64 3, Value.int .i64 1, Value.string ⟨#[97]⟩, Value.string ⟨#[]⟩, Value.string ⟨#[]⟩, Value.slice none 0 0, Value.slice none 0 0, Value.int .i64 0, Value.slice none 0 0, Value.slice none 0 0, Value.slice none 0 0] : List Value).toArray 64))) := ⟨H1.out.1.alloc _ 64 rfl, H1.out.2.trans (((Below.refl _ _).alloc (Nat.le_refl _) _).mono H1.out.2.size)⟩
 clear H1
 generalize hgw : u0.alloc (.cells ([Value.int .i64 3, Value.int .i64 1, Value.string ⟨#[97]⟩, Value.string ⟨#[]⟩, Value.string ⟨#[]⟩, Value.slice none 0 0, Value.slice none 0 0, Value.int .i64 0, Value.slice none 0 0, Value.slice none 0 0, Value.slice none 0 0] : List Value).toArray 64) = w2 at H2 ⊢
 clear hgw
 generalize u0.heap.size = Js2 at o_Js2 H2 ⊢
 refine zA (d := 2) (v := .int .i64 0) (w' := w2) rfl rfl rfl (rfl) ?_
 simp only [Act.put, sa, sz, ss]
 refine zC (zB (wp_seq ?_))
 refine zD (l := [0, 1, 2, 3, 4, 5, 6, 7, 8]) rfl ?_
 refine zA (d := 6) (v := PT Js2 7) (w' := w2) rfl rfl rfl (by go_simp) ?_
 simp only [Act.put, sa, sz, ss]
 refine zA (d := 7) (v := .int .i64 0) (w' := w2) rfl rfl rfl (zJ H2.out.1 0 rfl rfl rfl Ai28 rfl) ?_
 simp only [Act.put, sa, sz, ss]
 refine zF (d := 8) (R := fun vv w' => vv = .tuple #[N rB, .int .i64 0] ∧ Below w2.heap.size w2 w') rfl rfl rfl (zG (args := #[.int .i64 0]) rfl call8 rfl (mpn rfl)) (Calls.mono (su_great.ord w2) (fun e w2 hh => ⟨_, hh.1, rfl, hh.2⟩)) ?_
 rintro _ w3 ⟨rfl, hb⟩
 have H3 : Hid (Mm w3 [(Js2, [Value.int .i64 3, Value.int .i64 1, Value.string ⟨#[97]⟩, Value.string ⟨#[]⟩, Value.string ⟨#[]⟩, Value.slice none 0 0, Value.slice none 0 0, Value.int .i64 0, Value.slice none 0 0, Value.slice none 0 0, Value.slice none 0 0])] ∧ Below w.heap.size w w3) := ⟨H2.out.1.below hb, H2.out.2.trans (hb.mono H2.out.2.size)⟩
 clear hb
 clear H2
 simp only [Act.put, sa, sz, ss]
 refine zA (d := 5) (v := .tuple #[N rB, .int .i64 0]) (w' := w3) rfl rfl rfl (rfl) ?_
 simp only [Act.put, sa, sz, ss]
 refine zA (d := 9) (v := N rB) (w' := w3) rfl rfl rfl (by go_simp) ?_
 simp only [Act.put, sa, sz, ss]
 refine zA (d := 10) (v := .int .i64 0) (w' := w3) rfl rfl rfl (by go_simp) ?_
 simp only [Act.put, sa, sz, ss]
 refine zA (d := 3) (v := PT w3.heap.size 0) (w' := (w3.alloc (.cells (zero6 : List Value).toArray 24))) rfl rfl rfl (zO rfl) ?_
 simp only [Act.put, sa, sz, ss]
 have o_Js4 : Hid (w.heap.size ≤ w3.heap.size) := H3.out.2.size
 have H4 : Hid (Mm (w3.alloc (.cells (zero6 : List Value).toArray 24)) ((w3.heap.size, zero6) :: [(Js2, [Value.int .i64 3, Value.int .i64 1, Value.string ⟨#[97]⟩, Value.string ⟨#[]⟩, Value.string ⟨#[]⟩, Value.slice none 0 0, Value.slice none 0 0, Value.int .i64 0, Value.slice none 0 0, Value.slice none 0 0, Value.slice none 0 0])]) ∧ Below w.heap.size w (w3.alloc (.cells (zero6 : List Value).toArray 24))) := ⟨H3.out.1.alloc _ 24 rfl, H3.out.2.trans (((Below.refl _ _).alloc (Nat.le_refl _) _).mono H3.out.2.size)⟩
 clear H3
 generalize hgw : w3.alloc (.cells (zero6 : List Value).toArray 24) = w4 at H4 ⊢
 clear hgw
 generalize w3.heap.size = Js4 at o_Js4 H4 ⊢
 refine sG rfl (fun h => zQ (v := rB) h 0 rfl rfl rfl rfl (Nat.le_of_ble_eq_true rfl)) 0 [(_, zE rB), _] H4 o_Js4 fun w5 H5 => ?_
 clear H4
 refine zA (d := 4) (v := .int .i64 0) (w' := w5) rfl rfl rfl (rfl) ?_
 simp only [Act.put, sa, sz, ss]
 refine zC (zB ?_)
 refine wp_seq (wp_block (wp_seq ?_))
 refine zD (l := [0, 1, 2, 3, 4, 5, 6]) rfl ?_
 refine zA (d := 12) (v := .int .i64 0) (w' := w5) rfl rfl rfl (rfl) ?_
 simp only [Act.put, sa, sz, ss]
 refine zA (d := 13) (v := .bool false) (w' := w5) rfl rfl rfl (by kernel_rfl) ?_
 simp only [Act.put, sa, sz, ss]
 refine zA (d := 14) (v := .bool false) (w' := w5) rfl rfl rfl (rfl) ?_
 simp only [Act.put, sa, sz, ss]
 refine zA (d := 15) (v := .agg ([Value.int .i64 3, Value.int .i64 1, Value.string ⟨#[97]⟩, Value.string ⟨#[]⟩, Value.string ⟨#[]⟩, Value.slice none 0 0, Value.slice none 0 0, Value.int .i64 0, Value.slice none 0 0, Value.slice none 0 0, Value.slice none 0 0]).toArray) (w' := w5) rfl rfl rfl (ex_loadT H5.out.1 1 rfl rfl rfl Ai64 As64 rfl rfl) ?_
 simp only [Act.put, sa, sz, ss]
 refine zF (d := 16) (R := fun vv w' => vv = .bool false ∧ Below w5.heap.size w5 w') rfl rfl rfl (zG (args := #[.agg ([Value.int .i64 3, Value.int .i64 1, Value.string ⟨#[97]⟩, Value.string ⟨#[]⟩, Value.string ⟨#[]⟩, Value.slice none 0 0, Value.slice none 0 0, Value.int .i64 0, Value.slice none 0 0, Value.slice none 0 0, Value.slice none 0 0]).toArray]) rfl call98 rfl (mpn rfl)) (Calls.mono (outside_31 (.string ⟨#[97]⟩) (.string ⟨#[]⟩) (.string ⟨#[]⟩) (.slice none 0 0) (.int .i64 0) (.slice none 0 0) (.slice none 0 0) (.slice none 0 0) w5) (fun e w2 hh => ⟨_, hh.1, rfl, hh.2⟩)) ?_
 rintro _ w6 ⟨rfl, hb⟩
 have H6 : Hid (Mm w6 [(Js4, zE rB), (Js2, [Value.int .i64 3, Value.int .i64 1, Value.string ⟨#[97]⟩, Value.string ⟨#[]⟩, Value.string ⟨#[]⟩, Value.slice none 0 0, Value.slice none 0 0, Value.int .i64 0, Value.slice none 0 0, Value.slice none 0 0, Value.slice none 0 0])] ∧ Below w.heap.size w w6) := ⟨H5.out.1.below hb, H5.out.2.trans (hb.mono H5.out.2.size)⟩
 clear hb
 clear H5
 simp only [Act.put, sa, sz, ss]
 refine zA (d := 17) (v := .bool false) (w' := w6) rfl rfl rfl (by go_simp) ?_
 simp only [Act.put, sa, sz, ss]
 refine zA (d := 11) (v := .bool false) (w' := w6) rfl rfl rfl (rfl) ?_
 simp only [Act.put, sa, sz, ss]
 refine zC (zB ?_)
 refine wp_cond_false rfl (wp_seq ?_)
 refine zD (l := [0, 1, 2]) rfl ?_
 refine zA (d := 19) (v := .agg ([Value.int .i64 3, Value.int .i64 1, Value.string ⟨#[97]⟩, Value.string ⟨#[]⟩, Value.string ⟨#[]⟩, Value.slice none 0 0, Value.slice none 0 0, Value.int .i64 0, Value.slice none 0 0, Value.slice none 0 0, Value.slice none 0 0]).toArray) (w' := w6) rfl rfl rfl (ex_loadT H6.out.1 1 rfl rfl rfl Ai64 As64 rfl rfl) ?_
 simp only [Act.put, sa, sz, ss]
 refine zF (d := 20) (R := fun vv w' => vv = .bool false ∧ Below w6.heap.size w6 w') rfl rfl rfl (zG (args := #[.agg ([Value.int .i64 3, Value.int .i64 1, Value.string ⟨#[97]⟩, Value.string ⟨#[]⟩, Value.string ⟨#[]⟩, Value.slice none 0 0, Value.slice none 0 0, Value.int .i64 0, Value.slice none 0 0, Value.slice none 0 0, Value.slice none 0 0]).toArray]) rfl call99 rfl (mpn rfl)) (Calls.mono (long_1 w6) (fun e w2 hh => ⟨_, hh.1, rfl, hh.2⟩)) ?_
 rintro _ w7 ⟨rfl, hb⟩
 have H7 : Hid (Mm w7 [(Js4, zE rB), (Js2, [Value.int .i64 3, Value.int .i64 1, Value.string ⟨#[97]⟩, Value.string ⟨#[]⟩, Value.string ⟨#[]⟩, Value.slice none 0 0, Value.slice none 0 0, Value.int .i64 0, Value.slice none 0 0, Value.slice none 0 0, Value.slice none 0 0])] ∧ Below w.heap.size w w7) := ⟨H6.out.1.below hb, H6.out.2.trans (hb.mono H6.out.2.size)⟩
 clear hb
 clear H6
 simp only [Act.put, sa, sz, ss]
 refine zA (d := 18) (v := .bool false) (w' := w7) rfl rfl rfl (rfl) ?_
 simp only [Act.put, sa, sz, ss]
 refine zC (zB ?_)
 refine wp_cond_false rfl (wp_seq ?_)
 refine zD (l := [0, 1, 2, 3, 4]) rfl ?_
 refine zA (d := 22) (v := PT Js2 8) (w' := w7) rfl rfl rfl (by go_simp) ?_
 simp only [Act.put, sa, sz, ss]
 refine zA (d := 23) (v := .slice none 0 0) (w' := w7) rfl rfl rfl (zJ H7.out.1 1 rfl rfl rfl Ai60 rfl) ?_
 simp only [Act.put, sa, sz, ss]
 refine zA (d := 24) (v := .func (.func 101) #[] #[PT Js4 0]) (w' := w7) rfl rfl rfl (by kernel_rfl) ?_
 simp only [Act.put, sa, sz, ss]
 refine zF (d := 25) (R := fun vv w' => vv = .bool false ∧ Below w7.heap.size w7 w') rfl rfl rfl (zG (args := #[.slice none 0 0, .func (.func 101) #[] #[PT Js4 0]]) rfl call100 rfl (mpn rfl)) (Calls.mono (cfN_nil (.func (.func 101) #[] #[PT Js4 0]) w7) (fun e w2 hh => ⟨_, hh.1, rfl, hh.2⟩)) ?_
 rintro _ w8 ⟨rfl, hb⟩
 have H8 : Hid (Mm w8 [(Js4, zE rB), (Js2, [Value.int .i64 3, Value.int .i64 1, Value.string ⟨#[97]⟩, Value.string ⟨#[]⟩, Value.string ⟨#[]⟩, Value.slice none 0 0, Value.slice none 0 0, Value.int .i64 0, Value.slice none 0 0, Value.slice none 0 0, Value.slice none 0 0])] ∧ Below w.heap.size w w8) := ⟨H7.out.1.below hb, H7.out.2.trans (hb.mono H7.out.2.size)⟩
 clear hb
 clear H7
 simp only [Act.put, sa, sz, ss]
 refine zA (d := 21) (v := .bool false) (w' := w8) rfl rfl rfl (rfl) ?_
 simp only [Act.put, sa, sz, ss]
 refine zC (zB ?_)
 refine wp_cond_false rfl (wp_skip ?_)
 refine zS (zB (wp_seq ?_))
 refine zD (l := [0]) rfl ?_
 refine zA (d := 2) (v := .int .i64 0) (w' := w8) rfl rfl rfl (rfl) ?_
 simp only [Act.put, sa, sz, ss]
 refine zC (zB (wp_ret ?_))
 repeat (first | refine zL ?_ | refine zK ?_)
 refine bodyPost_ret (v := .int .i64 0) (by simp [results, Tryz.results46, go_sem, *]) rfl ?_
 exact ⟨rfl, H8.out.2⟩
set_option maxHeartbeats 4000000 in
theorem bounds_2  (w : World) :
  Calls Tryz.prog 46 #[.agg ([Value.int .i64 256, Value.int .i64 0, Value.string ⟨#[]⟩, Value.string ⟨#[]⟩, Value.string ⟨#[]⟩, Value.slice none 0 0, Value.slice none 0 0, Value.int .i64 0, Value.slice none 0 0, Value.slice none 0 0, Value.slice none 0 0]).toArray] w (Rt w (.int .i64 2)) := by
 have H0 : Hid (_ ∧ _) := ⟨Mm.nil w, Below.refl w.heap.size w⟩
 go_enter Tryz.func46, Tryz.ntmps46
 refine wp_seq ?_
 refine zN (l := [0, 1]) rfl (fun u0 hu0 => ?_)
 have H1 : Hid (Mm u0 [] ∧ Below w.heap.size w u0) := by rw [hu0]; exact H0
 clear hu0 H0
 refine zA (d := 1) (v := PT u0.heap.size 0) (w' := (u0.alloc (.cells ([Value.int .i64 256, Value.int .i64 0, Value.string ⟨#[]⟩, Value.string ⟨#[]⟩, Value.string ⟨#[]⟩, Value.slice none 0 0, Value.slice none 0 0, Value.int .i64 0, Value.slice none 0 0, Value.slice none 0 0, Value.slice none 0 0] : List Value).toArray 64))) rfl rfl rfl (ex_boxT rfl rfl) ?_
 simp only [Act.put, sa, sz, ss]
 have o_Js2 : Hid (w.heap.size ≤ u0.heap.size) := H1.out.2.size
 have H2 : Hid (Mm (u0.alloc (.cells ([Value.int .i64 256, Value.int .i64 0, Value.string ⟨#[]⟩, Value.string ⟨#[]⟩, Value.string ⟨#[]⟩, Value.slice none 0 0, Value.slice none 0 0, Value.int .i64 0, Value.slice none 0 0, Value.slice none 0 0, Value.slice none 0 0] : List Value).toArray 64)) ((u0.heap.size, [Value.int .i64 256, Value.int .i64 0, Value.string ⟨#[]⟩, Value.string ⟨#[]⟩, Value.string ⟨#[]⟩, Value.slice none 0 0, Value.slice none 0 0, Value.int .i64 0, Value.slice none 0 0, Value.slice none 0 0, Value.slice none 0 0]) :: []) ∧ Below w.heap.size w (u0.alloc (.cells ([Value.int .i64 256, Value.int .i64 0, Value.string ⟨#[]⟩, Value.string ⟨#[]⟩, Value.string ⟨#[]⟩, Value.slice none 0 0, Value.slice none 0 0, Value.int .i64 0, Value.slice none 0 0, Value.slice none 0 0, Value.slice none 0 0] : List Value).toArray 64))) := ⟨H1.out.1.alloc _ 64 rfl, H1.out.2.trans (((Below.refl _ _).alloc (Nat.le_refl _) _).mono H1.out.2.size)⟩
 clear H1
 generalize hgw : u0.alloc (.cells ([Value.int .i64 256, Value.int .i64 0, Value.string ⟨#[]⟩, Value.string ⟨#[]⟩, Value.string ⟨#[]⟩, Value.slice none 0 0, Value.slice none 0 0, Value.int .i64 0, Value.slice none 0 0, Value.slice none 0 0, Value.slice none 0 0] : List Value).toArray 64) = w2 at H2 ⊢
 clear hgw
 generalize u0.heap.size = Js2 at o_Js2 H2 ⊢
 refine zA (d := 2) (v := .int .i64 0) (w' := w2) rfl rfl rfl (rfl) ?_
 simp only [Act.put, sa, sz, ss]
 refine zC (zB (wp_seq ?_))
 refine zD (l := [0, 1, 2, 3, 4, 5, 6, 7, 8]) rfl ?_
 refine zA (d := 6) (v := PT Js2 7) (w' := w2) rfl rfl rfl (by go_simp) ?_
 simp only [Act.put, sa, sz, ss]
 refine zA (d := 7) (v := .int .i64 0) (w' := w2) rfl rfl rfl (zJ H2.out.1 0 rfl rfl rfl Ai28 rfl) ?_
 simp only [Act.put, sa, sz, ss]
 refine zF (d := 8) (R := fun vv w' => vv = .tuple #[N rB, .int .i64 0] ∧ Below w2.heap.size w2 w') rfl rfl rfl (zG (args := #[.int .i64 0]) rfl call8 rfl (mpn rfl)) (Calls.mono (su_great.ord w2) (fun e w2 hh => ⟨_, hh.1, rfl, hh.2⟩)) ?_
 rintro _ w3 ⟨rfl, hb⟩
 have H3 : Hid (Mm w3 [(Js2, [Value.int .i64 256, Value.int .i64 0, Value.string ⟨#[]⟩, Value.string ⟨#[]⟩, Value.string ⟨#[]⟩, Value.slice none 0 0, Value.slice none 0 0, Value.int .i64 0, Value.slice none 0 0, Value.slice none 0 0, Value.slice none 0 0])] ∧ Below w.heap.size w w3) := ⟨H2.out.1.below hb, H2.out.2.trans (hb.mono H2.out.2.size)⟩
 clear hb
 clear H2
 simp only [Act.put, sa, sz, ss]
 refine zA (d := 5) (v := .tuple #[N rB, .int .i64 0]) (w' := w3) rfl rfl rfl (rfl) ?_
 simp only [Act.put, sa, sz, ss]
 refine zA (d := 9) (v := N rB) (w' := w3) rfl rfl rfl (by go_simp) ?_
 simp only [Act.put, sa, sz, ss]
 refine zA (d := 10) (v := .int .i64 0) (w' := w3) rfl rfl rfl (by go_simp) ?_
 simp only [Act.put, sa, sz, ss]
 refine zA (d := 3) (v := PT w3.heap.size 0) (w' := (w3.alloc (.cells (zero6 : List Value).toArray 24))) rfl rfl rfl (zO rfl) ?_
 simp only [Act.put, sa, sz, ss]
 have o_Js4 : Hid (w.heap.size ≤ w3.heap.size) := H3.out.2.size
 have H4 : Hid (Mm (w3.alloc (.cells (zero6 : List Value).toArray 24)) ((w3.heap.size, zero6) :: [(Js2, [Value.int .i64 256, Value.int .i64 0, Value.string ⟨#[]⟩, Value.string ⟨#[]⟩, Value.string ⟨#[]⟩, Value.slice none 0 0, Value.slice none 0 0, Value.int .i64 0, Value.slice none 0 0, Value.slice none 0 0, Value.slice none 0 0])]) ∧ Below w.heap.size w (w3.alloc (.cells (zero6 : List Value).toArray 24))) := ⟨H3.out.1.alloc _ 24 rfl, H3.out.2.trans (((Below.refl _ _).alloc (Nat.le_refl _) _).mono H3.out.2.size)⟩
 clear H3
 generalize hgw : w3.alloc (.cells (zero6 : List Value).toArray 24) = w4 at H4 ⊢
 clear hgw
 generalize w3.heap.size = Js4 at o_Js4 H4 ⊢
 refine sG rfl (fun h => zQ (v := rB) h 0 rfl rfl rfl rfl (Nat.le_of_ble_eq_true rfl)) 0 [(_, zE rB), _] H4 o_Js4 fun w5 H5 => ?_
 clear H4
 refine zA (d := 4) (v := .int .i64 0) (w' := w5) rfl rfl rfl (rfl) ?_
 simp only [Act.put, sa, sz, ss]
 refine zC (zB ?_)
 refine wp_seq (wp_block (wp_seq ?_))
 refine zD (l := [0, 1, 2, 3, 4, 5, 6]) rfl ?_
 refine zA (d := 12) (v := .int .i64 0) (w' := w5) rfl rfl rfl (rfl) ?_
 simp only [Act.put, sa, sz, ss]
 refine zA (d := 13) (v := .bool false) (w' := w5) rfl rfl rfl (by kernel_rfl) ?_
 simp only [Act.put, sa, sz, ss]
 refine zA (d := 14) (v := .bool false) (w' := w5) rfl rfl rfl (rfl) ?_
 simp only [Act.put, sa, sz, ss]
 refine zA (d := 15) (v := .agg ([Value.int .i64 256, Value.int .i64 0, Value.string ⟨#[]⟩, Value.string ⟨#[]⟩, Value.string ⟨#[]⟩, Value.slice none 0 0, Value.slice none 0 0, Value.int .i64 0, Value.slice none 0 0, Value.slice none 0 0, Value.slice none 0 0]).toArray) (w' := w5) rfl rfl rfl (ex_loadT H5.out.1 1 rfl rfl rfl Ai64 As64 rfl rfl) ?_
 simp only [Act.put, sa, sz, ss]
 refine zF (d := 16) (R := fun vv w' => vv = .bool true ∧ Below w5.heap.size w5 w') rfl rfl rfl (zG (args := #[.agg ([Value.int .i64 256, Value.int .i64 0, Value.string ⟨#[]⟩, Value.string ⟨#[]⟩, Value.string ⟨#[]⟩, Value.slice none 0 0, Value.slice none 0 0, Value.int .i64 0, Value.slice none 0 0, Value.slice none 0 0, Value.slice none 0 0]).toArray]) rfl call98 rfl (mpn rfl)) (Calls.mono (outside_256 (.string ⟨#[]⟩) (.string ⟨#[]⟩) (.string ⟨#[]⟩) (.slice none 0 0) (.int .i64 0) (.slice none 0 0) (.slice none 0 0) (.slice none 0 0) w5) (fun e w2 hh => ⟨_, hh.1, rfl, hh.2⟩)) ?_
 rintro _ w6 ⟨rfl, hb⟩
 have H6 : Hid (Mm w6 [(Js4, zE rB), (Js2, [Value.int .i64 256, Value.int .i64 0, Value.string ⟨#[]⟩, Value.string ⟨#[]⟩, Value.string ⟨#[]⟩, Value.slice none 0 0, Value.slice none 0 0, Value.int .i64 0, Value.slice none 0 0, Value.slice none 0 0, Value.slice none 0 0])] ∧ Below w.heap.size w w6) := ⟨H5.out.1.below hb, H5.out.2.trans (hb.mono H5.out.2.size)⟩
 clear hb
 clear H5
 simp only [Act.put, sa, sz, ss]
 refine zA (d := 17) (v := .bool true) (w' := w6) rfl rfl rfl (by go_simp) ?_
 simp only [Act.put, sa, sz, ss]
 refine zA (d := 11) (v := .bool true) (w' := w6) rfl rfl rfl (rfl) ?_
 simp only [Act.put, sa, sz, ss]
 refine zC (zB ?_)
 refine wp_cond_true rfl (wp_seq ?_)
 refine zD (l := [0]) rfl ?_
 refine zA (d := 2) (v := .int .i64 2) (w' := w6) rfl rfl rfl (rfl) ?_
 simp only [Act.put, sa, sz, ss]
 refine zC (zB (wp_ret ?_))
 repeat (first | refine zL ?_ | refine zK ?_)
 refine bodyPost_ret (v := .int .i64 2) (by simp [results, Tryz.results46, go_sem, *]) rfl ?_
 exact ⟨rfl, H6.out.2⟩
set_option maxHeartbeats 4000000 in
theorem bounds_3  (w : World) :
  Calls Tryz.prog 46 #[.agg ([Value.int .i64 0, Value.int .i64 0, Value.string ⟨#[]⟩, Value.string ⟨#[]⟩, Value.string ⟨#[]⟩, Value.slice none 0 0, Value.slice none 0 0, Value.int .i64 3, Value.slice none 0 0, Value.slice none 0 0, Value.slice none 0 0]).toArray] w (Rt w (.int .i64 2)) := by
 have H0 : Hid (_ ∧ _) := ⟨Mm.nil w, Below.refl w.heap.size w⟩
 go_enter Tryz.func46, Tryz.ntmps46
 refine wp_seq ?_
 refine zN (l := [0, 1]) rfl (fun u0 hu0 => ?_)
 have H1 : Hid (Mm u0 [] ∧ Below w.heap.size w u0) := by rw [hu0]; exact H0
 clear hu0 H0
 refine zA (d := 1) (v := PT u0.heap.size 0) (w' := (u0.alloc (.cells ([Value.int .i64 0, Value.int .i64 0, Value.string ⟨#[]⟩, Value.string ⟨#[]⟩, Value.string ⟨#[]⟩, Value.slice none 0 0, Value.slice none 0 0, Value.int .i64 3, Value.slice none 0 0, Value.slice none 0 0, Value.slice none 0 0] : List Value).toArray 64))) rfl rfl rfl (ex_boxT rfl rfl) ?_
 simp only [Act.put, sa, sz, ss]
 have o_Js2 : Hid (w.heap.size ≤ u0.heap.size) := H1.out.2.size
 have H2 : Hid (Mm (u0.alloc (.cells ([Value.int .i64 0, Value.int .i64 0, Value.string ⟨#[]⟩, Value.string ⟨#[]⟩, Value.string ⟨#[]⟩, Value.slice none 0 0, Value.slice none 0 0, Value.int .i64 3, Value.slice none 0 0, Value.slice none 0 0, Value.slice none 0 0] : List Value).toArray 64)) ((u0.heap.size, [Value.int .i64 0, Value.int .i64 0, Value.string ⟨#[]⟩, Value.string ⟨#[]⟩, Value.string ⟨#[]⟩, Value.slice none 0 0, Value.slice none 0 0, Value.int .i64 3, Value.slice none 0 0, Value.slice none 0 0, Value.slice none 0 0]) :: []) ∧ Below w.heap.size w (u0.alloc (.cells ([Value.int .i64 0, Value.int .i64 0, Value.string ⟨#[]⟩, Value.string ⟨#[]⟩, Value.string ⟨#[]⟩, Value.slice none 0 0, Value.slice none 0 0, Value.int .i64 3, Value.slice none 0 0, Value.slice none 0 0, Value.slice none 0 0] : List Value).toArray 64))) := ⟨H1.out.1.alloc _ 64 rfl, H1.out.2.trans (((Below.refl _ _).alloc (Nat.le_refl _) _).mono H1.out.2.size)⟩
 clear H1
 generalize hgw : u0.alloc (.cells ([Value.int .i64 0, Value.int .i64 0, Value.string ⟨#[]⟩, Value.string ⟨#[]⟩, Value.string ⟨#[]⟩, Value.slice none 0 0, Value.slice none 0 0, Value.int .i64 3, Value.slice none 0 0, Value.slice none 0 0, Value.slice none 0 0] : List Value).toArray 64) = w2 at H2 ⊢
 clear hgw
 generalize u0.heap.size = Js2 at o_Js2 H2 ⊢
 refine zA (d := 2) (v := .int .i64 0) (w' := w2) rfl rfl rfl (rfl) ?_
 simp only [Act.put, sa, sz, ss]
 refine zC (zB (wp_seq ?_))
 refine zD (l := [0, 1, 2, 3, 4, 5, 6, 7, 8]) rfl ?_
 refine zA (d := 6) (v := PT Js2 7) (w' := w2) rfl rfl rfl (by go_simp) ?_
 simp only [Act.put, sa, sz, ss]
 refine zA (d := 7) (v := .int .i64 3) (w' := w2) rfl rfl rfl (zJ H2.out.1 0 rfl rfl rfl Ai28 rfl) ?_
 simp only [Act.put, sa, sz, ss]
 refine zF (d := 8) (R := fun vv w' => vv = .tuple #[N 0, .int .i64 2] ∧ Below w2.heap.size w2 w') rfl rfl rfl (zG (args := #[.int .i64 3]) rfl call8 rfl (mpn rfl)) (Calls.mono (su_none (by decide) (by decide) (by decide) w2) (fun e w2 hh => ⟨_, hh.1, rfl, hh.2⟩)) ?_
 rintro _ w3 ⟨rfl, hb⟩
 have H3 : Hid (Mm w3 [(Js2, [Value.int .i64 0, Value.int .i64 0, Value.string ⟨#[]⟩, Value.string ⟨#[]⟩, Value.string ⟨#[]⟩, Value.slice none 0 0, Value.slice none 0 0, Value.int .i64 3, Value.slice none 0 0, Value.slice none 0 0, Value.slice none 0 0])] ∧ Below w.heap.size w w3) := ⟨H2.out.1.below hb, H2.out.2.trans (hb.mono H2.out.2.size)⟩
 clear hb
 clear H2
 simp only [Act.put, sa, sz, ss]
 refine zA (d := 5) (v := .tuple #[N 0, .int .i64 2]) (w' := w3) rfl rfl rfl (rfl) ?_
 simp only [Act.put, sa, sz, ss]
 refine zA (d := 9) (v := N 0) (w' := w3) rfl rfl rfl (by go_simp) ?_
 simp only [Act.put, sa, sz, ss]
 refine zA (d := 10) (v := .int .i64 2) (w' := w3) rfl rfl rfl (by go_simp) ?_
 simp only [Act.put, sa, sz, ss]
 refine zA (d := 3) (v := PT w3.heap.size 0) (w' := (w3.alloc (.cells (zero6 : List Value).toArray 24))) rfl rfl rfl (zO rfl) ?_
 simp only [Act.put, sa, sz, ss]
 have o_Js4 : Hid (w.heap.size ≤ w3.heap.size) := H3.out.2.size
 have H4 : Hid (Mm (w3.alloc (.cells (zero6 : List Value).toArray 24)) ((w3.heap.size, zero6) :: [(Js2, [Value.int .i64 0, Value.int .i64 0, Value.string ⟨#[]⟩, Value.string ⟨#[]⟩, Value.string ⟨#[]⟩, Value.slice none 0 0, Value.slice none 0 0, Value.int .i64 3, Value.slice none 0 0, Value.slice none 0 0, Value.slice none 0 0])]) ∧ Below w.heap.size w (w3.alloc (.cells (zero6 : List Value).toArray 24))) := ⟨H3.out.1.alloc _ 24 rfl, H3.out.2.trans (((Below.refl _ _).alloc (Nat.le_refl _) _).mono H3.out.2.size)⟩
 clear H3
 generalize hgw : w3.alloc (.cells (zero6 : List Value).toArray 24) = w4 at H4 ⊢
 clear hgw
 generalize w3.heap.size = Js4 at o_Js4 H4 ⊢
 refine sG rfl (fun h => zQ (v := 0) h 0 rfl rfl rfl rfl (Nat.le_of_ble_eq_true rfl)) 0 [(_, zE 0), _] H4 o_Js4 fun w5 H5 => ?_
 clear H4
 refine zA (d := 4) (v := .int .i64 2) (w' := w5) rfl rfl rfl (rfl) ?_
 simp only [Act.put, sa, sz, ss]
 refine zC (zB ?_)
 refine wp_seq (wp_block (wp_seq ?_))
 refine zD (l := [0, 1, 2, 3, 4, 5, 6]) rfl ?_
 refine zA (d := 12) (v := .int .i64 2) (w' := w5) rfl rfl rfl (rfl) ?_
 simp only [Act.put, sa, sz, ss]
 refine zA (d := 13) (v := .bool true) (w' := w5) rfl rfl rfl (by kernel_rfl) ?_
 simp only [Act.put, sa, sz, ss]
 refine zA (d := 14) (v := .bool true) (w' := w5) rfl rfl rfl (rfl) ?_
 simp only [Act.put, sa, sz, ss]
 refine rest_gone1 (d := 15) rfl rfl rfl ?_
 simp only [Act.put, sa, sz, ss]
 refine rest_gone1 (d := 16) rfl rfl rfl ?_
 simp only [Act.put, sa, sz, ss]
 refine zA (d := 17) (v := .bool true) (w' := w5) rfl rfl rfl (by go_simp) ?_
 simp only [Act.put, sa, sz, ss]
 refine zA (d := 11) (v := .bool true) (w' := w5) rfl rfl rfl (rfl) ?_
 simp only [Act.put, sa, sz, ss]
 refine zC (zB ?_)
 refine wp_cond_true rfl (wp_seq ?_)
 refine zD (l := [0]) rfl ?_
 refine zA (d := 2) (v := .int .i64 2) (w' := w5) rfl rfl rfl (rfl) ?_
 simp only [Act.put, sa, sz, ss]
 refine zC (zB (wp_ret ?_))
 repeat (first | refine zL ?_ | refine zK ?_)
 refine bodyPost_ret (v := .int .i64 2) (by simp [results, Tryz.results46, go_sem, *]) rfl ?_
 exact ⟨rfl, H5.out.2⟩
set_option maxHeartbeats 4000000 in
theorem bounds_4 (gn : Nat) (w : World) (hm : Mm w [(gn, zE 65521)]) :
  Calls Tryz.prog 46 #[.agg ([Value.int .i64 0, Value.int .i64 0, Value.string ⟨#[]⟩, Value.string ⟨#[]⟩, Value.string ⟨#[]⟩, Value.slice none 0 0, Value.slice none 0 0, Value.int .i64 1, Value.slice (some ⟨gn, 0, none⟩) 1 1, Value.slice none 0 0, Value.slice none 0 0]).toArray] w (Rt w (.int .i64 2)) := by
 have H0 : Hid (_ ∧ _) := ⟨hm, Below.refl w.heap.size w⟩
 clear hm
 go_enter Tryz.func46, Tryz.ntmps46
 refine wp_seq ?_
 refine zN (l := [0, 1]) rfl (fun u0 hu0 => ?_)
 have H1 : Hid (Mm u0 [(gn, zE 65521)] ∧ Below w.heap.size w u0) := by rw [hu0]; exact H0
 clear hu0 H0
 refine zA (d := 1) (v := PT u0.heap.size 0) (w' := (u0.alloc (.cells ([Value.int .i64 0, Value.int .i64 0, Value.string ⟨#[]⟩, Value.string ⟨#[]⟩, Value.string ⟨#[]⟩, Value.slice none 0 0, Value.slice none 0 0, Value.int .i64 1, Value.slice (some ⟨gn, 0, none⟩) 1 1, Value.slice none 0 0, Value.slice none 0 0] : List Value).toArray 64))) rfl rfl rfl (ex_boxT rfl rfl) ?_
 simp only [Act.put, sa, sz, ss]
 have o_Js2 : Hid (w.heap.size ≤ u0.heap.size) := H1.out.2.size
 have H2 : Hid (Mm (u0.alloc (.cells ([Value.int .i64 0, Value.int .i64 0, Value.string ⟨#[]⟩, Value.string ⟨#[]⟩, Value.string ⟨#[]⟩, Value.slice none 0 0, Value.slice none 0 0, Value.int .i64 1, Value.slice (some ⟨gn, 0, none⟩) 1 1, Value.slice none 0 0, Value.slice none 0 0] : List Value).toArray 64)) ((u0.heap.size, [Value.int .i64 0, Value.int .i64 0, Value.string ⟨#[]⟩, Value.string ⟨#[]⟩, Value.string ⟨#[]⟩, Value.slice none 0 0, Value.slice none 0 0, Value.int .i64 1, Value.slice (some ⟨gn, 0, none⟩) 1 1, Value.slice none 0 0, Value.slice none 0 0]) :: [(gn, zE 65521)]) ∧ Below w.heap.size w (u0.alloc (.cells ([Value.int .i64 0, Value.int .i64 0, Value.string ⟨#[]⟩, Value.string ⟨#[]⟩, Value.string ⟨#[]⟩, Value.slice none 0 0, Value.slice none 0 0, Value.int .i64 1, Value.slice (some ⟨gn, 0, none⟩) 1 1, Value.slice none 0 0, Value.slice none 0 0] : List Value).toArray 64))) := ⟨H1.out.1.alloc _ 64 rfl, H1.out.2.trans (((Below.refl _ _).alloc (Nat.le_refl _) _).mono H1.out.2.size)⟩
 clear H1
 generalize hgw : u0.alloc (.cells ([Value.int .i64 0, Value.int .i64 0, Value.string ⟨#[]⟩, Value.string ⟨#[]⟩, Value.string ⟨#[]⟩, Value.slice none 0 0, Value.slice none 0 0, Value.int .i64 1, Value.slice (some ⟨gn, 0, none⟩) 1 1, Value.slice none 0 0, Value.slice none 0 0] : List Value).toArray 64) = w2 at H2 ⊢
 clear hgw
 generalize u0.heap.size = Js2 at o_Js2 H2 ⊢
 refine zA (d := 2) (v := .int .i64 0) (w' := w2) rfl rfl rfl (rfl) ?_
 simp only [Act.put, sa, sz, ss]
 refine zC (zB (wp_seq ?_))
 refine zD (l := [0, 1, 2, 3, 4, 5, 6, 7, 8]) rfl ?_
 refine zA (d := 6) (v := PT Js2 7) (w' := w2) rfl rfl rfl (by go_simp) ?_
 simp only [Act.put, sa, sz, ss]
 refine zA (d := 7) (v := .int .i64 1) (w' := w2) rfl rfl rfl (zJ H2.out.1 0 rfl rfl rfl Ai28 rfl) ?_
 simp only [Act.put, sa, sz, ss]
 refine zF (d := 8) (R := fun vv w' => vv = .tuple #[N 65521, .int .i64 0] ∧ Below w2.heap.size w2 w') rfl rfl rfl (zG (args := #[.int .i64 1]) rfl call8 rfl (mpn rfl)) (Calls.mono (su_little.ord w2) (fun e w2 hh => ⟨_, hh.1, rfl, hh.2⟩)) ?_
 rintro _ w3 ⟨rfl, hb⟩
 have H3 : Hid (Mm w3 [(Js2, [Value.int .i64 0, Value.int .i64 0, Value.string ⟨#[]⟩, Value.string ⟨#[]⟩, Value.string ⟨#[]⟩, Value.slice none 0 0, Value.slice none 0 0, Value.int .i64 1, Value.slice (some ⟨gn, 0, none⟩) 1 1, Value.slice none 0 0, Value.slice none 0 0]), (gn, zE 65521)] ∧ Below w.heap.size w w3) := ⟨H2.out.1.below hb, H2.out.2.trans (hb.mono H2.out.2.size)⟩
 clear hb
 clear H2
 simp only [Act.put, sa, sz, ss]
 refine zA (d := 5) (v := .tuple #[N 65521, .int .i64 0]) (w' := w3) rfl rfl rfl (rfl) ?_
 simp only [Act.put, sa, sz, ss]
 refine zA (d := 9) (v := N 65521) (w' := w3) rfl rfl rfl (by go_simp) ?_
 simp only [Act.put, sa, sz, ss]
 refine zA (d := 10) (v := .int .i64 0) (w' := w3) rfl rfl rfl (by go_simp) ?_
 simp only [Act.put, sa, sz, ss]
 refine zA (d := 3) (v := PT w3.heap.size 0) (w' := (w3.alloc (.cells (zero6 : List Value).toArray 24))) rfl rfl rfl (zO rfl) ?_
 simp only [Act.put, sa, sz, ss]
 have o_Js4 : Hid (w.heap.size ≤ w3.heap.size) := H3.out.2.size
 have H4 : Hid (Mm (w3.alloc (.cells (zero6 : List Value).toArray 24)) ((w3.heap.size, zero6) :: [(Js2, [Value.int .i64 0, Value.int .i64 0, Value.string ⟨#[]⟩, Value.string ⟨#[]⟩, Value.string ⟨#[]⟩, Value.slice none 0 0, Value.slice none 0 0, Value.int .i64 1, Value.slice (some ⟨gn, 0, none⟩) 1 1, Value.slice none 0 0, Value.slice none 0 0]), (gn, zE 65521)]) ∧ Below w.heap.size w (w3.alloc (.cells (zero6 : List Value).toArray 24))) := ⟨H3.out.1.alloc _ 24 rfl, H3.out.2.trans (((Below.refl _ _).alloc (Nat.le_refl _) _).mono H3.out.2.size)⟩
 clear H3
 generalize hgw : w3.alloc (.cells (zero6 : List Value).toArray 24) = w4 at H4 ⊢
 clear hgw
 generalize w3.heap.size = Js4 at o_Js4 H4 ⊢
 refine sG rfl (fun h => zQ (v := 65521) h 0 rfl rfl rfl rfl (Nat.le_of_ble_eq_true rfl)) 0 [(_, zE 65521), _, _] H4 o_Js4 fun w5 H5 => ?_
 clear H4
 refine zA (d := 4) (v := .int .i64 0) (w' := w5) rfl rfl rfl (rfl) ?_
 simp only [Act.put, sa, sz, ss]
 refine zC (zB ?_)
 refine wp_seq (wp_block (wp_seq ?_))
 refine zD (l := [0, 1, 2, 3, 4, 5, 6]) rfl ?_
 refine zA (d := 12) (v := .int .i64 0) (w' := w5) rfl rfl rfl (rfl) ?_
 simp only [Act.put, sa, sz, ss]
 refine zA (d := 13) (v := .bool false) (w' := w5) rfl rfl rfl (by kernel_rfl) ?_
 simp only [Act.put, sa, sz, ss]
 refine zA (d := 14) (v := .bool false) (w' := w5) rfl rfl rfl (rfl) ?_
 simp only [Act.put, sa, sz, ss]
 refine zA (d := 15) (v := .agg ([Value.int .i64 0, Value.int .i64 0, Value.string ⟨#[]⟩, Value.string ⟨#[]⟩, Value.string ⟨#[]⟩, Value.slice none 0 0, Value.slice none 0 0, Value.int .i64 1, Value.slice (some ⟨gn, 0, none⟩) 1 1, Value.slice none 0 0, Value.slice none 0 0]).toArray) (w' := w5) rfl rfl rfl (ex_loadT H5.out.1 1 rfl rfl rfl Ai64 As64 rfl rfl) ?_
 simp only [Act.put, sa, sz, ss]
 refine zF (d := 16) (R := fun vv w' => vv = .bool false ∧ Below w5.heap.size w5 w') rfl rfl rfl (zG (args := #[.agg ([Value.int .i64 0, Value.int .i64 0, Value.string ⟨#[]⟩, Value.string ⟨#[]⟩, Value.string ⟨#[]⟩, Value.slice none 0 0, Value.slice none 0 0, Value.int .i64 1, Value.slice (some ⟨gn, 0, none⟩) 1 1, Value.slice none 0 0, Value.slice none 0 0]).toArray]) rfl call98 rfl (mpn rfl)) (Calls.mono (outside_00 (.string ⟨#[]⟩) (.string ⟨#[]⟩) (.string ⟨#[]⟩) (.slice none 0 0) (.int .i64 1) (.slice (some ⟨gn, 0, none⟩) 1 1) (.slice none 0 0) (.slice none 0 0) w5) (fun e w2 hh => ⟨_, hh.1, rfl, hh.2⟩)) ?_
 rintro _ w6 ⟨rfl, hb⟩
 have H6 : Hid (Mm w6 [(Js4, zE 65521), (Js2, [Value.int .i64 0, Value.int .i64 0, Value.string ⟨#[]⟩, Value.string ⟨#[]⟩, Value.string ⟨#[]⟩, Value.slice none 0 0, Value.slice none 0 0, Value.int .i64 1, Value.slice (some ⟨gn, 0, none⟩) 1 1, Value.slice none 0 0, Value.slice none 0 0]), (gn, zE 65521)] ∧ Below w.heap.size w w6) := ⟨H5.out.1.below hb, H5.out.2.trans (hb.mono H5.out.2.size)⟩
 clear hb
 clear H5
 simp only [Act.put, sa, sz, ss]
 refine zA (d := 17) (v := .bool false) (w' := w6) rfl rfl rfl (by go_simp) ?_
 simp only [Act.put, sa, sz, ss]
 refine zA (d := 11) (v := .bool false) (w' := w6) rfl rfl rfl (rfl) ?_
 simp only [Act.put, sa, sz, ss]
 refine zC (zB ?_)
 refine wp_cond_false rfl (wp_seq ?_)
 refine zD (l := [0, 1, 2]) rfl ?_
 refine zA (d := 19) (v := .agg ([Value.int .i64 0, Value.int .i64 0, Value.string ⟨#[]⟩, Value.string ⟨#[]⟩, Value.string ⟨#[]⟩, Value.slice none 0 0, Value.slice none 0 0, Value.int .i64 1, Value.slice (some ⟨gn, 0, none⟩) 1 1, Value.slice none 0 0, Value.slice none 0 0]).toArray) (w' := w6) rfl rfl rfl (ex_loadT H6.out.1 1 rfl rfl rfl Ai64 As64 rfl rfl) ?_
 simp only [Act.put, sa, sz, ss]
 refine zF (d := 20) (R := fun vv w' => vv = .bool false ∧ Below w6.heap.size w6 w') rfl rfl rfl (zG (args := #[.agg ([Value.int .i64 0, Value.int .i64 0, Value.string ⟨#[]⟩, Value.string ⟨#[]⟩, Value.string ⟨#[]⟩, Value.slice none 0 0, Value.slice none 0 0, Value.int .i64 1, Value.slice (some ⟨gn, 0, none⟩) 1 1, Value.slice none 0 0, Value.slice none 0 0]).toArray]) rfl call99 rfl (mpn rfl)) (Calls.mono (long_4 gn w6) (fun e w2 hh => ⟨_, hh.1, rfl, hh.2⟩)) ?_
 rintro _ w7 ⟨rfl, hb⟩
 have H7 : Hid (Mm w7 [(Js4, zE 65521), (Js2, [Value.int .i64 0, Value.int .i64 0, Value.string ⟨#[]⟩, Value.string ⟨#[]⟩, Value.string ⟨#[]⟩, Value.slice none 0 0, Value.slice none 0 0, Value.int .i64 1, Value.slice (some ⟨gn, 0, none⟩) 1 1, Value.slice none 0 0, Value.slice none 0 0]), (gn, zE 65521)] ∧ Below w.heap.size w w7) := ⟨H6.out.1.below hb, H6.out.2.trans (hb.mono H6.out.2.size)⟩
 clear hb
 clear H6
 simp only [Act.put, sa, sz, ss]
 refine zA (d := 18) (v := .bool false) (w' := w7) rfl rfl rfl (rfl) ?_
 simp only [Act.put, sa, sz, ss]
 refine zC (zB ?_)
 refine wp_cond_false rfl (wp_seq ?_)
 refine zD (l := [0, 1, 2, 3, 4]) rfl ?_
 refine zA (d := 22) (v := PT Js2 8) (w' := w7) rfl rfl rfl (by go_simp) ?_
 simp only [Act.put, sa, sz, ss]
 refine zA (d := 23) (v := .slice (some ⟨gn, 0, none⟩) 1 1) (w' := w7) rfl rfl rfl (zJ H7.out.1 1 rfl rfl rfl Ai60 rfl) ?_
 simp only [Act.put, sa, sz, ss]
 refine zA (d := 24) (v := .func (.func 101) #[] #[PT Js4 0]) (w' := w7) rfl rfl rfl (by kernel_rfl) ?_
 simp only [Act.put, sa, sz, ss]
 refine zF (d := 25) (R := fun vv w' => vv = .bool true ∧ Below w7.heap.size w7 w') rfl rfl rfl (zG (args := #[.slice (some ⟨gn, 0, none⟩) 1 1, .func (.func 101) #[] #[PT Js4 0]]) rfl call100 rfl (mpn rfl)) (Calls.mono (cfN_one gn Js4 w7 (H7.out.1.two 2 0 rfl rfl (by decide))) (fun e w2 hh => ⟨_, hh.1, rfl, hh.2⟩)) ?_
 rintro _ w8 ⟨rfl, hb⟩
 have H8 : Hid (Mm w8 [(Js4, zE 65521), (Js2, [Value.int .i64 0, Value.int .i64 0, Value.string ⟨#[]⟩, Value.string ⟨#[]⟩, Value.string ⟨#[]⟩, Value.slice none 0 0, Value.slice none 0 0, Value.int .i64 1, Value.slice (some ⟨gn, 0, none⟩) 1 1, Value.slice none 0 0, Value.slice none 0 0]), (gn, zE 65521)] ∧ Below w.heap.size w w8) := ⟨H7.out.1.below hb, H7.out.2.trans (hb.mono H7.out.2.size)⟩
 clear hb
 clear H7
 simp only [Act.put, sa, sz, ss]
 refine zA (d := 21) (v := .bool true) (w' := w8) rfl rfl rfl (rfl) ?_
 simp only [Act.put, sa, sz, ss]
 refine zC (zB ?_)
 refine wp_cond_true rfl (wp_seq ?_)
 refine zD (l := [0]) rfl ?_
 refine zA (d := 2) (v := .int .i64 2) (w' := w8) rfl rfl rfl (rfl) ?_
 simp only [Act.put, sa, sz, ss]
 refine zC (zB (wp_ret ?_))
 repeat (first | refine zL ?_ | refine zK ?_)
 refine bodyPost_ret (v := .int .i64 2) (by simp [results, Tryz.results46, go_sem, *]) rfl ?_
 exact ⟨rfl, H8.out.2⟩
set_option maxHeartbeats 4000000 in
theorem bounds_5 (gk : Nat) (w : World) :
  Calls Tryz.prog 46 #[.agg ([Value.int .i64 0, Value.int .i64 0, Value.string ⟨#[]⟩, Value.string ⟨#[]⟩, Value.string ⟨#[]⟩, Value.slice none 0 0, Value.slice none 0 0, Value.int .i64 0, Value.slice none 0 0, Value.slice (some ⟨gk, 0, none⟩) 1 1, Value.slice none 0 0]).toArray] w (Rt w (.int .i64 0)) := by
 have H0 : Hid (_ ∧ _) := ⟨Mm.nil w, Below.refl w.heap.size w⟩
 go_enter Tryz.func46, Tryz.ntmps46
 refine wp_seq ?_
 refine zN (l := [0, 1]) rfl (fun u0 hu0 => ?_)
 have H1 : Hid (Mm u0 [] ∧ Below w.heap.size w u0) := by rw [hu0]; exact H0
 clear hu0 H0
 refine zA (d := 1) (v := PT u0.heap.size 0) (w' := (u0.alloc (.cells ([Value.int .i64 0, Value.int .i64 0, Value.string ⟨#[]⟩, Value.string ⟨#[]⟩, Value.string ⟨#[]⟩, Value.slice none 0 0, Value.slice none 0 0, Value.int .i64 0, Value.slice none 0 0, Value.slice (some ⟨gk, 0, none⟩) 1 1, Value.slice none 0 0] : List Value).toArray 64))) rfl rfl rfl (ex_boxT rfl rfl) ?_
 simp only [Act.put, sa, sz, ss]
 have o_Js2 : Hid (w.heap.size ≤ u0.heap.size) := H1.out.2.size
 have H2 : Hid (Mm (u0.alloc (.cells ([Value.int .i64 0, Value.int .i64 0, Value.string ⟨#[]⟩, Value.string ⟨#[]⟩, Value.string ⟨#[]⟩, Value.slice none 0 0, Value.slice none 0 0, Value.int .i64 0, Value.slice none 0 0, Value.slice (some ⟨gk, 0, none⟩) 1 1, Value.slice none 0 0] : List Value).toArray 64)) ((u0.heap.size, [Value.int .i64 0, Value.int .i64 0, Value.string ⟨#[]⟩, Value.string ⟨#[]⟩, Value.string ⟨#[]⟩, Value.slice none 0 0, Value.slice none 0 0, Value.int .i64 0, Value.slice none 0 0, Value.slice (some ⟨gk, 0, none⟩) 1 1, Value.slice none 0 0]) :: []) ∧ Below w.heap.size w (u0.alloc (.cells ([Value.int .i64 0, Value.int .i64 0, Value.string ⟨#[]⟩, Value.string ⟨#[]⟩, Value.string ⟨#[]⟩, Value.slice none 0 0, Value.slice none 0 0, Value.int .i64 0, Value.slice none 0 0, Value.slice (some ⟨gk, 0, none⟩) 1 1, Value.slice none 0 0] : List Value).toArray 64))) := ⟨H1.out.1.alloc _ 64 rfl, H1.out.2.trans (((Below.refl _ _).alloc (Nat.le_refl _) _).mono H1.out.2.size)⟩
 clear H1
 generalize hgw : u0.alloc (.cells ([Value.int .i64 0, Value.int .i64 0, Value.string ⟨#[]⟩, Value.string ⟨#[]⟩, Value.string ⟨#[]⟩, Value.slice none 0 0, Value.slice none 0 0, Value.int .i64 0, Value.slice none 0 0, Value.slice (some ⟨gk, 0, none⟩) 1 1, Value.slice none 0 0] : List Value).toArray 64) = w2 at H2 ⊢
 clear hgw
 generalize u0.heap.size = Js2 at o_Js2 H2 ⊢
 refine zA (d := 2) (v := .int .i64 0) (w' := w2) rfl rfl rfl (rfl) ?_
 simp only [Act.put, sa, sz, ss]
 refine zC (zB (wp_seq ?_))
 refine zD (l := [0, 1, 2, 3, 4, 5, 6, 7, 8]) rfl ?_
 refine zA (d := 6) (v := PT Js2 7) (w' := w2) rfl rfl rfl (by go_simp) ?_
 simp only [Act.put, sa, sz, ss]
 refine zA (d := 7) (v := .int .i64 0) (w' := w2) rfl rfl rfl (zJ H2.out.1 0 rfl rfl rfl Ai28 rfl) ?_
 simp only [Act.put, sa, sz, ss]
 refine zF (d := 8) (R := fun vv w' => vv = .tuple #[N rB, .int .i64 0] ∧ Below w2.heap.size w2 w') rfl rfl rfl (zG (args := #[.int .i64 0]) rfl call8 rfl (mpn rfl)) (Calls.mono (su_great.ord w2) (fun e w2 hh => ⟨_, hh.1, rfl, hh.2⟩)) ?_
 rintro _ w3 ⟨rfl, hb⟩
 have H3 : Hid (Mm w3 [(Js2, [Value.int .i64 0, Value.int .i64 0, Value.string ⟨#[]⟩, Value.string ⟨#[]⟩, Value.string ⟨#[]⟩, Value.slice none 0 0, Value.slice none 0 0, Value.int .i64 0, Value.slice none 0 0, Value.slice (some ⟨gk, 0, none⟩) 1 1, Value.slice none 0 0])] ∧ Below w.heap.size w w3) := ⟨H2.out.1.below hb, H2.out.2.trans (hb.mono H2.out.2.size)⟩
 clear hb
 clear H2
 simp only [Act.put, sa, sz, ss]
 refine zA (d := 5) (v := .tuple #[N rB, .int .i64 0]) (w' := w3) rfl rfl rfl (rfl) ?_
 simp only [Act.put, sa, sz, ss]
 refine zA (d := 9) (v := N rB) (w' := w3) rfl rfl rfl (by go_simp) ?_
 simp only [Act.put, sa, sz, ss]
 refine zA (d := 10) (v := .int .i64 0) (w' := w3) rfl rfl rfl (by go_simp) ?_
 simp only [Act.put, sa, sz, ss]
 refine zA (d := 3) (v := PT w3.heap.size 0) (w' := (w3.alloc (.cells (zero6 : List Value).toArray 24))) rfl rfl rfl (zO rfl) ?_
 simp only [Act.put, sa, sz, ss]
 have o_Js4 : Hid (w.heap.size ≤ w3.heap.size) := H3.out.2.size
 have H4 : Hid (Mm (w3.alloc (.cells (zero6 : List Value).toArray 24)) ((w3.heap.size, zero6) :: [(Js2, [Value.int .i64 0, Value.int .i64 0, Value.string ⟨#[]⟩, Value.string ⟨#[]⟩, Value.string ⟨#[]⟩, Value.slice none 0 0, Value.slice none 0 0, Value.int .i64 0, Value.slice none 0 0, Value.slice (some ⟨gk, 0, none⟩) 1 1, Value.slice none 0 0])]) ∧ Below w.heap.size w (w3.alloc (.cells (zero6 : List Value).toArray 24))) := ⟨H3.out.1.alloc _ 24 rfl, H3.out.2.trans (((Below.refl _ _).alloc (Nat.le_refl _) _).mono H3.out.2.size)⟩
 clear H3
 generalize hgw : w3.alloc (.cells (zero6 : List Value).toArray 24) = w4 at H4 ⊢
 clear hgw
 generalize w3.heap.size = Js4 at o_Js4 H4 ⊢
 refine sG rfl (fun h => zQ (v := rB) h 0 rfl rfl rfl rfl (Nat.le_of_ble_eq_true rfl)) 0 [(_, zE rB), _] H4 o_Js4 fun w5 H5 => ?_
 clear H4
 refine zA (d := 4) (v := .int .i64 0) (w' := w5) rfl rfl rfl (rfl) ?_
 simp only [Act.put, sa, sz, ss]
 refine zC (zB ?_)
 refine wp_seq (wp_block (wp_seq ?_))
 refine zD (l := [0, 1, 2, 3, 4, 5, 6]) rfl ?_
 refine zA (d := 12) (v := .int .i64 0) (w' := w5) rfl rfl rfl (rfl) ?_
 simp only [Act.put, sa, sz, ss]
 refine zA (d := 13) (v := .bool false) (w' := w5) rfl rfl rfl (by kernel_rfl) ?_
 simp only [Act.put, sa, sz, ss]
 refine zA (d := 14) (v := .bool false) (w' := w5) rfl rfl rfl (rfl) ?_
 simp only [Act.put, sa, sz, ss]
 refine zA (d := 15) (v := .agg ([Value.int .i64 0, Value.int .i64 0, Value.string ⟨#[]⟩, Value.string ⟨#[]⟩, Value.string ⟨#[]⟩, Value.slice none 0 0, Value.slice none 0 0, Value.int .i64 0, Value.slice none 0 0, Value.slice (some ⟨gk, 0, none⟩) 1 1, Value.slice none 0 0]).toArray) (w' := w5) rfl rfl rfl (ex_loadT H5.out.1 1 rfl rfl rfl Ai64 As64 rfl rfl) ?_
 simp only [Act.put, sa, sz, ss]
 refine zF (d := 16) (R := fun vv w' => vv = .bool false ∧ Below w5.heap.size w5 w') rfl rfl rfl (zG (args := #[.agg ([Value.int .i64 0, Value.int .i64 0, Value.string ⟨#[]⟩, Value.string ⟨#[]⟩, Value.string ⟨#[]⟩, Value.slice none 0 0, Value.slice none 0 0, Value.int .i64 0, Value.slice none 0 0, Value.slice (some ⟨gk, 0, none⟩) 1 1, Value.slice none 0 0]).toArray]) rfl call98 rfl (mpn rfl)) (Calls.mono (outside_00 (.string ⟨#[]⟩) (.string ⟨#[]⟩) (.string ⟨#[]⟩) (.slice none 0 0) (.int .i64 0) (.slice none 0 0) (.slice (some ⟨gk, 0, none⟩) 1 1) (.slice none 0 0) w5) (fun e w2 hh => ⟨_, hh.1, rfl, hh.2⟩)) ?_
 rintro _ w6 ⟨rfl, hb⟩
 have H6 : Hid (Mm w6 [(Js4, zE rB), (Js2, [Value.int .i64 0, Value.int .i64 0, Value.string ⟨#[]⟩, Value.string ⟨#[]⟩, Value.string ⟨#[]⟩, Value.slice none 0 0, Value.slice none 0 0, Value.int .i64 0, Value.slice none 0 0, Value.slice (some ⟨gk, 0, none⟩) 1 1, Value.slice none 0 0])] ∧ Below w.heap.size w w6) := ⟨H5.out.1.below hb, H5.out.2.trans (hb.mono H5.out.2.size)⟩
 clear hb
 clear H5
 simp only [Act.put, sa, sz, ss]
 refine zA (d := 17) (v := .bool false) (w' := w6) rfl rfl rfl (by go_simp) ?_
 simp only [Act.put, sa, sz, ss]
 refine zA (d := 11) (v := .bool false) (w' := w6) rfl rfl rfl (rfl) ?_
 simp only [Act.put, sa, sz, ss]
 refine zC (zB ?_)
 refine wp_cond_false rfl (wp_seq ?_)
 refine zD (l := [0, 1, 2]) rfl ?_
 refine zA (d := 19) (v := .agg ([Value.int .i64 0, Value.int .i64 0, Value.string ⟨#[]⟩, Value.string ⟨#[]⟩, Value.string ⟨#[]⟩, Value.slice none 0 0, Value.slice none 0 0, Value.int .i64 0, Value.slice none 0 0, Value.slice (some ⟨gk, 0, none⟩) 1 1, Value.slice none 0 0]).toArray) (w' := w6) rfl rfl rfl (ex_loadT H6.out.1 1 rfl rfl rfl Ai64 As64 rfl rfl) ?_
 simp only [Act.put, sa, sz, ss]
 refine zF (d := 20) (R := fun vv w' => vv = .bool false ∧ Below w6.heap.size w6 w') rfl rfl rfl (zG (args := #[.agg ([Value.int .i64 0, Value.int .i64 0, Value.string ⟨#[]⟩, Value.string ⟨#[]⟩, Value.string ⟨#[]⟩, Value.slice none 0 0, Value.slice none 0 0, Value.int .i64 0, Value.slice none 0 0, Value.slice (some ⟨gk, 0, none⟩) 1 1, Value.slice none 0 0]).toArray]) rfl call99 rfl (mpn rfl)) (Calls.mono (long_5 gk w6) (fun e w2 hh => ⟨_, hh.1, rfl, hh.2⟩)) ?_
 rintro _ w7 ⟨rfl, hb⟩
 have H7 : Hid (Mm w7 [(Js4, zE rB), (Js2, [Value.int .i64 0, Value.int .i64 0, Value.string ⟨#[]⟩, Value.string ⟨#[]⟩, Value.string ⟨#[]⟩, Value.slice none 0 0, Value.slice none 0 0, Value.int .i64 0, Value.slice none 0 0, Value.slice (some ⟨gk, 0, none⟩) 1 1, Value.slice none 0 0])] ∧ Below w.heap.size w w7) := ⟨H6.out.1.below hb, H6.out.2.trans (hb.mono H6.out.2.size)⟩
 clear hb
 clear H6
 simp only [Act.put, sa, sz, ss]
 refine zA (d := 18) (v := .bool false) (w' := w7) rfl rfl rfl (rfl) ?_
 simp only [Act.put, sa, sz, ss]
 refine zC (zB ?_)
 refine wp_cond_false rfl (wp_seq ?_)
 refine zD (l := [0, 1, 2, 3, 4]) rfl ?_
 refine zA (d := 22) (v := PT Js2 8) (w' := w7) rfl rfl rfl (by go_simp) ?_
 simp only [Act.put, sa, sz, ss]
 refine zA (d := 23) (v := .slice none 0 0) (w' := w7) rfl rfl rfl (zJ H7.out.1 1 rfl rfl rfl Ai60 rfl) ?_
 simp only [Act.put, sa, sz, ss]
 refine zA (d := 24) (v := .func (.func 101) #[] #[PT Js4 0]) (w' := w7) rfl rfl rfl (by kernel_rfl) ?_
 simp only [Act.put, sa, sz, ss]
 refine zF (d := 25) (R := fun vv w' => vv = .bool false ∧ Below w7.heap.size w7 w') rfl rfl rfl (zG (args := #[.slice none 0 0, .func (.func 101) #[] #[PT Js4 0]]) rfl call100 rfl (mpn rfl)) (Calls.mono (cfN_nil (.func (.func 101) #[] #[PT Js4 0]) w7) (fun e w2 hh => ⟨_, hh.1, rfl, hh.2⟩)) ?_
 rintro _ w8 ⟨rfl, hb⟩
 have H8 : Hid (Mm w8 [(Js4, zE rB), (Js2, [Value.int .i64 0, Value.int .i64 0, Value.string ⟨#[]⟩, Value.string ⟨#[]⟩, Value.string ⟨#[]⟩, Value.slice none 0 0, Value.slice none 0 0, Value.int .i64 0, Value.slice none 0 0, Value.slice (some ⟨gk, 0, none⟩) 1 1, Value.slice none 0 0])] ∧ Below w.heap.size w w8) := ⟨H7.out.1.below hb, H7.out.2.trans (hb.mono H7.out.2.size)⟩
 clear hb
 clear H7
 simp only [Act.put, sa, sz, ss]
 refine zA (d := 21) (v := .bool false) (w' := w8) rfl rfl rfl (rfl) ?_
 simp only [Act.put, sa, sz, ss]
 refine zC (zB ?_)
 refine wp_cond_false rfl (wp_skip ?_)
 refine zS (zB (wp_seq ?_))
 refine zD (l := [0]) rfl ?_
 refine zA (d := 2) (v := .int .i64 0) (w' := w8) rfl rfl rfl (rfl) ?_
 simp only [Act.put, sa, sz, ss]
 refine zC (zB (wp_ret ?_))
 repeat (first | refine zL ?_ | refine zK ?_)
 refine bodyPost_ret (v := .int .i64 0) (by simp [results, Tryz.results46, go_sem, *]) rfl ?_
 exact ⟨rfl, H8.out.2⟩
end Wi
end Rg
end Go.Proofs.YtahghpkjkfaieaaGreatDoor
end
section
namespace Go.Proofs.YtahghpkjkfaieaaGreatDoor
open Go.RowKit
namespace Rg
set_option maxRecDepth 100000
/-! Keys and points held against themselves. -/
theorem eqL0 (w : World) : (Op.equalIn 10000 35 (.agg ([Value.int .u64 0, Value.int .u64 0, Value.bool false]).toArray) (.agg ([Value.int .u64 0, Value.int .u64 0, Value.bool false]).toArray)).run Tryz.prog w = .ok true w := Lt.run_eqP 0 0 0 0 false false w
set_option maxHeartbeats 1000000 in
theorem keyCheck_g (px py : Nat) (pz : Bool) (t : Bool) (hI : ∀ w, Mm w [(0, dtab)] → Calls Tryz.prog 40 #[.agg (cel [px, py] ++ [Value.bool pz]).toArray] w (Rt w (.bool t))) (w : World) (hm : Mm w [(0, dtab)]) :
  Calls Tryz.prog 13 #[.agg ([Value.int .i64 0] ++ (cel [px, py] ++ [Value.bool pz, Value.int .u64 0, Value.int .u64 0, Value.bool false])).toArray] w (Rt w (.bool t)) := by
 have H0 : Hid (_ ∧ _) := ⟨hm, Below.refl w.heap.size w⟩
 clear hm
 have HI : Hid _ := hI
 clear hI
 go_enter Tryz.func13, Tryz.ntmps13
 refine wp_seq ?_
 refine zI 2 [.made ([Value.int .i64 0] ++ (cel [px, py] ++ [Value.bool pz, Value.int .u64 0, Value.int .u64 0, Value.bool false])) 37, .q (.bool false)] (sB H0) ?ho1 ?he1
 case ho1 => exact am (ex_boxT rfl rfl) (ar trivial)
 intro J w1 l hM hl
 have H1 : Hid (Mm w1 ([(J 0, [Value.int .i64 0] ++ (cel [px, py] ++ [Value.bool pz, Value.int .u64 0, Value.int .u64 0, Value.bool false]))] ++ _) ∧ _) := wB H0 hM hl [0]
 have o1_0 := vB H0 hM hl 0
 clear hM hl l
 generalize J 0 = J1_0 at H1 o1_0 ⊢
 clear J
 refine rN (wp_seq ?_)
 refine zM 2 [.q (PT J1_0 0), .q (.int .i64 0)] H1 ?ho2 ?he2
 case ho2 => exact ag (bC 0 Ai28 trivial)
 intro _ w2 H2
 clear H1
 refine rN (wp_block (wp_seq ?_))
 refine zM 2 [.q (.bool true), .q (.bool true)] H2 ?ho3 ?he3
 case ho3 => exact ag (ar trivial)
 intro _ w3 H3
 clear H2
 refine rN (wp_cond_true rfl (wp_seq ?_))
 refine zM 10 [.q (PT J1_0 14), .q (.agg ([Value.int .u64 0, Value.int .u64 0, Value.bool false]).toArray), .q (.agg ([Value.int .u64 0, Value.int .u64 0, Value.bool false]).toArray), .q (.bool true), .q (.bool true), .q (PT J1_0 1), .q (.agg (cel [px, py] ++ [Value.bool pz]).toArray), .call (.bool t), .q (.bool t), .q (.bool t)] H3 ?ho4 ?he4
 case ho4 => exact ag (bT 0 Tryz.isAgg35 Tryz.sizeOf35 (ak (fun J => ⟨rfl, fun w' _ => ex_build35_ rfl⟩) (ak (fun J => ⟨rfl, fun w' _ => exec_eqT35 (fun w => eqL0 w) rfl rfl rfl⟩) (ar (ag (bT 0 Tryz.isAgg33 Tryz.sizeOf33 (ac (fun w' h => eC call40 (HI.out w' (h.one 1 rfl))) (ag (ar trivial)))))))))
 intro _ w4 H4
 clear H3
 refine rN (wp_ret ?_)
 repeat (first | refine zL ?_ | refine zK ?_)
 refine bodyPost_ret (v := .bool t) (by simp [results, Tryz.results13, go_sem, *]) rfl ?_
 exact ⟨rfl, H4.out.2⟩
end Rg
end Go.Proofs.YtahghpkjkfaieaaGreatDoor
end
section
namespace Go.Proofs.YtahghpkjkfaieaaGreatDoor
open Go.RowKit
namespace Rg
theorem inN_1 {α : Type} {en : α → Nat} {fa fs fm : α → α → α} {fi : α → α} {z u b : α} {g : Nat} (_C : Fd1 g en fa fs fm fi z) (t3 : α) (gx gy : Nat) (x y : Nat) (ck : ∀ w, Mm w [(g, modc pB), (0, dtab)] → Calls Tryz.prog 129 #[.agg (G1 g (.func (.func 128) #[] #[PT gx 0, PT gy 0]) (en u) (en b)).toArray, .agg (pc1 x y false).toArray] w (Rt w (.bool false))) (w : World) (hm : Mm w [(g, modc pB), (0, dtab), (gx, [PT g 0]), (gy, zE (en t3))]) :
  Calls Tryz.prog 94 #[.agg (G1 g (.func (.func 128) #[] #[PT gx 0, PT gy 0]) (en u) (en b)).toArray, .agg (pc1 x y false).toArray] w (Rt w (.bool false)) := by
 have H0 : Hid (_ ∧ _) := ⟨hm, Below.refl w.heap.size w⟩
 clear hm
 have CK : Hid _ := ck
 clear ck
 go_enter Tryz.func94, Tryz.ntmps94
 refine wp_seq ?_
 refine zI 3 [.made (G1 g (.func (.func 128) #[] #[PT gx 0, PT gy 0]) (en u) (en b)) 159, .made (pc1 x y false) 152, .q (.bool false)] (sB H0) ?ho1 ?he1
 case ho1 => exact am (ex_boxT rfl rfl) (am (ex_boxT rfl rfl) (ar trivial))
 intro J w1 l hM hl
 have H1 : Hid (Mm w1 ([(J 0, G1 g (.func (.func 128) #[] #[PT gx 0, PT gy 0]) (en u) (en b)), (J 1, pc1 x y false)] ++ _) ∧ _) := wB H0 hM hl [0, 1]
 have o1_0 := vB H0 hM hl 0
 have o1_1 := vB H0 hM hl 1
 clear hM hl l
 generalize J 0 = J1_0 at H1 o1_0 ⊢
 generalize J 1 = J1_1 at H1 o1_1 ⊢
 clear J
 refine rN (wp_seq (wp_seq ?_))
 refine zM 8 [.q (PT J1_1 12), .q (.bool false), .q (.bool false), .q (.agg (G1 g (.func (.func 128) #[] #[PT gx 0, PT gy 0]) (en u) (en b)).toArray), .q (.agg (pc1 x y false).toArray), .call (.bool false), .q (.bool true), .q (.bool true)] H1 ?ho2 ?he2
 case ho2 => exact ag (bC 1 Ai4 (ar (bT 0 Tryz.isAgg159 As159 (bT 1 Tryz.isAgg152 Tryz.sizeOf152 (ac (fun w' h => eC call129 (CK.out w' (h.two 2 3 rfl rfl (by decide)))) (ag (ag trivial)))))))
 intro _ w2 H2
 clear H1
 refine rN (wp_cond_true rfl (wp_seq ?_))
 refine zM 4 [.q (.agg (G1 g (.func (.func 128) #[] #[PT gx 0, PT gy 0]) (en u) (en b)).toArray), .q (.agg (pc1 x y false).toArray), .call (.bool false), .q (.bool false)] H2 ?ho3 ?he3
 case ho3 => exact bT 0 Tryz.isAgg159 As159 (bT 1 Tryz.isAgg152 Tryz.sizeOf152 (ac (fun w' h => eC call129 (CK.out w' (h.two 2 3 rfl rfl (by decide)))) (ar trivial)))
 intro _ w3 H3
 clear H2
 refine rN (wp_ret ?_)
 repeat (first | refine zL ?_ | refine zK ?_)
 refine bodyPost_ret (v := .bool false) (by simp [results, Tryz.results94, go_sem, *]) rfl ?_
 exact ⟨rfl, H3.out.2⟩
end Rg
end Go.Proofs.YtahghpkjkfaieaaGreatDoor
end
section
namespace Go.Proofs.YtahghpkjkfaieaaGreatDoor
open Go.RowKit
/-- What a sign counts as a digit to the base 16. -/
def dgv (c : Int) : Int := if 48 ≤ c ∧ c ≤ 57 then c - 48 else if 97 ≤ c ∧ c ≤ 102 then c - 87 else 0
def dgk (c : Int) : Bool := decide (48 ≤ c ∧ c ≤ 57) || decide (97 ≤ c ∧ c ≤ 102)
theorem dgv_bd (c : Int) : 0 ≤ dgv c ∧ dgv c < 16 := by unfold dgv; split <;> (try split) <;> omega
set_option maxHeartbeats 400000 in
theorem digit_any (c : Int) (h0 : 0 ≤ c) (h1 : c ≤ 255) (w : World) :
  Calls Tryz.prog 168 #[.int .u8 c] w fun e w' => e = .returned (.tuple #[.int .u64 (dgv c), .bool (dgk c)]) ∧ w' = w := by
 unfold dgv dgk
 by_cases a : 48 ≤ c ∧ c ≤ 57
 ·obtain ⟨a1, a2⟩ := a
  have d1 : decide (48 ≤ c) = true := decide_eq_true a1
  have d2 : decide (c ≤ 57) = true := decide_eq_true a2
  rw [if_pos ⟨a1, a2⟩, decide_eq_true (⟨a1, a2⟩ : 48 ≤ c ∧ c ≤ 57)]
  go_enter Tryz.func168, Tryz.ntmps168
  go_wp2
  go_ret2
  exact ⟨by simp, rfl⟩
 ·rw [if_neg a, decide_eq_false a]
  by_cases b : 97 ≤ c ∧ c ≤ 102
  ·obtain ⟨b1, b2⟩ := b
   have d1 : decide (48 ≤ c) = true := decide_eq_true (by omega)
   have d2 : decide (c ≤ 57) = false := decide_eq_false (by omega)
   have d3 : decide (97 ≤ c) = true := decide_eq_true b1
   have d4 : decide (c ≤ 102) = true := decide_eq_true b2
   rw [if_pos ⟨b1, b2⟩, decide_eq_true (⟨b1, b2⟩ : 97 ≤ c ∧ c ≤ 102)]
   clear a
   go_enter Tryz.func168, Tryz.ntmps168
   go_wp2
   rw [show c - 97 + 10 = c - 87 by omega]
   go_ret2
   exact ⟨by simp, rfl⟩
  ·rw [if_neg b, decide_eq_false b]
   by_cases x1 : 48 ≤ c
   ·have d1 : decide (48 ≤ c) = true := decide_eq_true x1
    have d2 : decide (c ≤ 57) = false := decide_eq_false (by omega)
    by_cases x2 : 97 ≤ c
    ·have d3 : decide (97 ≤ c) = true := decide_eq_true x2
     have d4 : decide (c ≤ 102) = false := decide_eq_false (by omega)
     clear a b
     go_enter Tryz.func168, Tryz.ntmps168
     go_wp2
     go_ret2
     exact ⟨by simp, rfl⟩
    ·have d3 : decide (97 ≤ c) = false := decide_eq_false x2
     clear a b
     go_enter Tryz.func168, Tryz.ntmps168
     go_wp2
     go_ret2
     exact ⟨by simp, rfl⟩
   ·have d1 : decide (48 ≤ c) = false := decide_eq_false x1
    have d3 : decide (97 ≤ c) = false := decide_eq_false (by omega)
    clear a b
    go_enter Tryz.func168, Tryz.ntmps168
    go_wp2
    go_ret2
    exact ⟨by simp, rfl⟩
/-- The sign at place i from the right. -/
def ch (s : ByteArray) (i : Nat) : Int := if h : s.size - 1 - i < s.size then ((s[s.size - 1 - i]).toNat : Int) else 0
theorem ch_eq (s : ByteArray) (i : Nat) (h : s.size - 1 - i < s.size) : ch s i = ((s[s.size - 1 - i]).toNat : Int) := dif_pos h
/-- The number of the lowest k digits; whether they are digits. -/
def pvv (s : ByteArray) : Nat → Nat
 | 0 => 0
 | k + 1 => pvv s k + (dgv (ch s k)).toNat * 2 ^ (4 * k)
def okk (s : ByteArray) : Nat → Bool
 | 0 => true
 | k + 1 => okk s k && dgk (ch s k)
theorem pvv_lt (s : ByteArray) : ∀ k, pvv s k < 2 ^ (4 * k)
 | 0 => by simp [pvv]
 | k + 1 => by
  have h1 := pvv_lt s k
  have h2 := dgv_bd (ch s k)
  have h3 : (dgv (ch s k)).toNat * 2 ^ (4 * k) ≤ 15 * 2 ^ (4 * k) := Nat.mul_le_mul_right _ (by omega)
  have e : 2 ^ (4 * (k + 1)) = 16 * 2 ^ (4 * k) := by rw [Nat.mul_add, Nat.pow_add, Nat.mul_comm]
  unfold pvv
  rw [e]
  omega
theorem okk_mono (s : ByteArray) (m : Nat) : ∀ k, okk s (k + m) = true → okk s k = true := by
 induction m with
 | zero => intro k h; exact h
 | succ m ih =>
  intro k h
  have h2 : (okk s (k + m) && dgk (ch s (k + m))) = true := h
  exact ih k (by simp only [Bool.and_eq_true] at h2; exact h2.1)
theorem set_digit (V d k j : Nat) (hV : V < 2 ^ (4 * k)) (hd : d < 16) (hj : j ≠ k / 16) : wd (V + d * 2 ^ (4 * k)) j = wd V j := by
 rw [wd_shr, wd_shr, ← Nat.shiftLeft_eq, Nat.add_comm, Nat.shiftLeft_add_eq_or_of_lt hV]
 congr 1
 apply Nat.eq_of_testBit_eq
 intro i
 simp only [Nat.testBit_or, Nat.testBit_mod_two_pow, Nat.testBit_shiftLeft, Nat.testBit_shiftRight]
 by_cases hi : i < 64
 ·by_cases hk : 4 * k ≤ 64 * j + i
  ·have : d.testBit (64 * j + i - 4 * k) = false := Nat.testBit_lt_two_pow (Nat.lt_of_lt_of_le (show d < 2 ^ 4 from hd) (Nat.pow_le_pow_right (by decide) (by omega)))
   simp [this]
  ·simp [hk]
 ·simp [hi]
theorem or_digit_bits (V d k : Nat) : (V >>> (64 * (k / 16)) % 2 ^ 64) ||| (d <<< (4 * (k % 16)) % 2 ^ 64) = (d <<< (4 * k) ||| V) >>> (64 * (k / 16)) % 2 ^ 64 := by
 apply Nat.eq_of_testBit_eq
 intro i
 simp only [Nat.testBit_or, Nat.testBit_mod_two_pow, Nat.testBit_shiftLeft, Nat.testBit_shiftRight]
 by_cases hi : i < 64
 ·by_cases hk : 4 * (k % 16) ≤ i
  ·have e1 : 4 * k ≤ 64 * (k / 16) + i := by omega
   have e2 : 64 * (k / 16) + i - 4 * k = i - 4 * (k % 16) := by omega
   simp [hi, hk, e1, e2, Bool.or_comm]
  ·have e1 : ¬ 4 * k ≤ 64 * (k / 16) + i := by omega
   simp [hi, hk, e1]
 ·simp [hi]
theorem or_digit (V d k : Nat) (hV : V < 2 ^ (4 * k)) : bits .or .u64 (wd V (k / 16)) (IntKind.u64.wrap ((d : Int) * 2 ^ (4 * (k % 16)))) = wd (V + d * 2 ^ (4 * k)) (k / 16) := by
 rw [wrap_shl, wd_shr, wd_shr, ← Nat.shiftLeft_eq, Nat.add_comm, Nat.shiftLeft_add_eq_or_of_lt hV, ← or_digit_bits]
 exact bits_or_u64_nat _ _ (Nat.mod_lt _ (by decide)) (Nat.mod_lt _ (by decide))
theorem digit_step (s : ByteArray) (k j : Nat) : upd (wd (pvv s k)) (k / 16) (bits .or .u64 (wd (pvv s k) (k / 16)) (IntKind.u64.wrap (dgv (ch s k) * 2 ^ (4 * (k % 16))))) j = wd (pvv s (k + 1)) j := by
 have hd := dgv_bd (ch s k)
 have e : dgv (ch s k) = ((dgv (ch s k)).toNat : Int) := by omega
 have hV := pvv_lt s k
 unfold upd
 by_cases h : j = k / 16
 ·rw [if_pos h, h, e, or_digit _ _ k hV]
  rfl
 ·rw [if_neg h]
  exact (set_digit _ _ k j hV (by omega) h).symm
/-- What the loop of Parse tells, once it is come to. -/
def prv (s : ByteArray) : Value := if okk s s.size then .tuple #[N (pvv s s.size), .int .i64 0] else .tuple #[N 0, .int .i64 4]
set_option maxHeartbeats 1000000 in
theorem parse_loop (s : ByteArray) (h1 : 1 ≤ s.size) (h2 : s.size ≤ 96) (h3 : (((s[0]'h1).toNat : Int) == 48) = false ∨ s.size = 1) (w : World) :
  Calls Tryz.prog 118 #[.string s] w (Rt w (prv s)) := by
 have he : s.toList.isEmpty = false := by
  cases hl : s.toList with
  | nil =>
   rw [ByteArray.toList_eq] at hl
   have h0 : s.data.size = 0 := by rw [← Array.length_toList, hl]; rfl
   have : s.size = s.data.size := rfl
   omega
  | cons a l => rfl
 have hg : decide ((96 : Int) < (s.size : Int)) = false := decide_eq_false (by omega)
 have hq : ((((s[0]'h1).toNat : Int) == 48) && decide ((1 : Int) < (s.size : Int))) = false := by
  rcases h3 with h3 | h3
  ·rw [h3]; rfl
  ·rw [decide_eq_false (show ¬ (1 : Int) < (s.size : Int) by omega), Bool.and_false]
 have hz : ((((s[0]'h1).toNat : Int) == 48) = true ∧ decide ((1 : Int) < (s.size : Int)) = false) ∨ (((s[0]'h1).toNat : Int) == 48) = false := by
  cases hc : (((s[0]'h1).toNat : Int) == 48) with
  | true => rw [hc, Bool.true_and] at hq; exact Or.inl ⟨rfl, hq⟩
  | false => exact Or.inr rfl
 have H2 : Hid (s.size ≤ 96) := h2
 clear h3 hq
 rcases hz with ⟨hz, hz1⟩ | hz
 all_goals
  go_enter Tryz.func118, Tryz.ntmps118
  go_wp2
  try clear hz1
  clear hz hg he
  go_loopw [27] (fun i wr => ∃ k : Nat, k ≤ s.size ∧ i = .int .i64 k ∧ okk s k = true ∧ Row wr w.heap.size 6 (fun _ => 0) ∧ Row wr (w.heap.size + 1) 6 (wd (pvv s k)) ∧ Below w.heap.size w wr) (fun i _ => s.size - (RowKit.intOf i).toNat)
  case atStart =>
   refine ⟨0, by omega, rfl, rfl, ?_, ?_, ?_⟩
   ·exact (Row.new w _ 24 rfl (six_lt (f := fun _ => 0) rfl)).alloc (by first | omega | (simp <;> omega)) _
   ·exact (Row.new _ _ 24 (by first | omega | (simp <;> omega)) (six_lt (f := fun _ => 0) rfl)).congr (fun j _ => (wd_zero j).symm)
   ·exact ((Below.refl _ _).alloc (Nat.le_refl _) _).alloc (by first | omega | (simp <;> omega)) _
  case round =>
   obtain ⟨k, hk, rfl, hok, hZ, hS, hw⟩ := hrel
   by_cases hlt : k < s.size
   ·have hch := ch_eq s k (by omega)
    have hdig := fun w => digit_any (ch s k) (by rw [hch]; omega) (by rw [hch]; have := (s[s.size - 1 - k]).toNat_lt; omega) w
    rw [hch] at hdig
    have HD : Hid _ := hdig
    have HCH : Hid _ := hch
    have hb := dgv_bd (((s[s.size - 1 - k]'(by omega)).toNat : Int))
    obtain ⟨hb0, hb1⟩ := hb
    clear hdig hch
    cases hkk : dgk (((s[s.size - 1 - k]'(by omega)).toNat : Int)) with
    | true =>
     obtain ⟨k1, k2⟩ := hS (k / 16) (by omega)
     have HM : Hid (_ ∧ _ ∧ _) := ⟨hZ, hS, hw⟩
     have HOK : Hid _ := hok
     clear hZ hS hw hok
     go_wp2_with (go_at_call 168; refine (HD.out _).mono ?_; rintro e w' ⟨rfl, rfl⟩)
     go_region
     go_wp2
     go_roundw
     case rel =>
      obtain ⟨hZ, hS, hw⟩ := HM.out
      refine ⟨k + 1, by omega, by go_num, ?_, (hZ.set_other _ (by simp <;> omega)).drew, ((hS.set _).congr (fun j _ => ?_)).drew, (hw.setCell (by simp <;> omega) _).drew⟩
      ·show (okk s k && dgk (ch s k)) = true
       rw [HOK.out, HCH.out, hkk]; rfl
      ·rw [← HCH.out]; exact digit_step s k j
     case measure => simp [RowKit.intOf] <;> omega
    | false =>
     have hfin : Hid (prv s = .tuple #[N 0, .int .i64 4]) := by
      show prv s = _
      unfold prv
      rw [if_neg]
      intro hh
      have h5 := okk_mono s (s.size - (k + 1)) (k + 1) (by rw [show k + 1 + (s.size - (k + 1)) = s.size by omega]; exact hh)
      have h6 : (okk s k && dgk (ch s k)) = true := h5
      rw [HCH.out, hkk, Bool.and_false] at h6
      exact absurd h6 (by decide)
     obtain ⟨z0, z1, z2, z3, z4, z5⟩ := hZ.writes
     obtain ⟨y0, y1, y2, y3, y4, y5⟩ := hZ.reads
     have HW : Hid _ := hw
     clear hZ hS hw hok
     go_wp2_with (go_at_call 168; refine (HD.out _).mono ?_; rintro e w' ⟨rfl, rfl⟩)
     refine bodyPost_ret (v := .tuple #[N 0, .int .i64 4]) ?_ rfl ⟨by rw [hfin.out], ?_⟩
     ·simp [results, Tryz.results118, go_sem, wd_zero, *]
     ·exact below6 HW.out (by omega) _ _ _ _ _ _
   ·have hks : k = s.size := by omega
    subst hks
    have hfin : Hid (prv s = .tuple #[N (pvv s s.size), .int .i64 0]) := by
     show prv s = _
     unfold prv
     rw [if_pos hok]
    obtain ⟨s0, s1, s2, s3, s4, s5⟩ := hS.reads
    obtain ⟨z0, z1, z2, z3, z4, z5⟩ := hZ.writes
    obtain ⟨y0, y1, y2, y3, y4, y5⟩ := hZ.reads
    have HW : Hid _ := hw
    clear hZ hS hw hok
    go_wp2
    refine bodyPost_ret (v := .tuple #[N (pvv s s.size), .int .i64 0]) ?_ rfl ⟨by rw [hfin.out], ?_⟩
    ·simp [results, Tryz.results118, go_sem, *]
    ·exact below6 HW.out (by omega) _ _ _ _ _ _
end Go.Proofs.YtahghpkjkfaieaaGreatDoor
end
section
namespace Go.Proofs.YtahghpkjkfaieaaGreatDoor
open Go.RowKit
namespace Rg
theorem ex_madeQ {ρ : Operand → Value} {o : Oper} {w : World} (ho : o.op = .alloc 73) :
  (execOp ρ o).run Tryz.prog w = .ok (.value (.pointer (some ⟨w.heap.size, 0, none⟩))) (w.alloc (.cells ([Value.pointer none] : List Value).toArray 73)) := by
 simp only [execOp, ho]
 go_simp
theorem ex_storeQ {ρ : Operand → Value} {o : Oper} {x y : Operand} {g off g' : Nat} {cs : List Value} {w : World} {l : List (Nat × List Value)} (h : Mm w l) (k : Nat) (hk : l[k]? = some (g, cs)) (ho : o.op = .store 73 x y) (hx : ρ x = PT g off) (hy : ρ y = PT g' 0) (hc : off + 1 ≤ cs.length) :
  (execOp ρ o).run Tryz.prog w = .ok .skip (w.setCells g off [PT g' 0]) := by
 have hm := List.mem_of_getElem? hk
 have e : cs[off]? = some (cs[off]'(by omega)) := List.getElem?_eq_getElem _
 have c0 := h.cell hm e
 have f0 := h.free hm e
 clear h hm hk
 simp only [execOp, ho, hx, hy]
 go_simp
 simp [World.setCells]
theorem ex_buildFN {ρ : Operand → Value} {o : Oper} {x0 x1 x2 x3 x4 x5 : Operand} {f0 f1 f2 f3 f4 : Fn} {a0 a1 a2 a3 a4 b0 b1 b2 b3 b4 : Array Value} {u : Nat} {w : World} (ho : o.op = .build 156 #[(0, x0), (1, x1), (2, x2), (3, x3), (4, x4), (5, x5)]) (h0 : ρ x0 = .func f0 a0 b0) (h1 : ρ x1 = .func f1 a1 b1) (h2 : ρ x2 = .func f2 a2 b2) (h3 : ρ x3 = .func f3 a3 b3) (h4 : ρ x4 = .func f4 a4 b4) (h5 : ρ x5 = N u) : (execOp ρ o).run Tryz.prog w = .ok (.value (.agg ([Value.func f0 a0 b0, Value.func f1 a1 b1, Value.func f2 a2 b2, Value.func f3 a3 b3, Value.func f4 a4 b4] ++ cel [u]).toArray)) w := by
 simp only [execOp, ho, cel, List.cons_append, List.nil_append]
 go_simp
theorem ex_buildGN {ρ : Operand → Value} {o : Oper} {x0 x1 x2 x3 : Operand} {f0 f1 f2 f3 f4 f5 : Fn} {a0 a1 a2 a3 a4 a5 b0 b1 b2 b3 b4 b5 : Array Value} {u c : Nat} {k : Int} {w : World} (ho : o.op = .build 159 #[(0, x0), (1, x1), (2, x2), (3, x3)]) (h0 : ρ x0 = .agg ([Value.func f0 a0 b0, Value.func f1 a1 b1, Value.func f2 a2 b2, Value.func f3 a3 b3, Value.func f4 a4 b4] ++ cel [u]).toArray) (h1 : ρ x1 = N c) (h2 : ρ x2 = .func f5 a5 b5) (h3 : ρ x3 = .int .i64 k) : (execOp ρ o).run Tryz.prog w = .ok (.value (.agg ([Value.func f0 a0 b0, Value.func f1 a1 b1, Value.func f2 a2 b2, Value.func f3 a3 b3, Value.func f4 a4 b4] ++ (cel [u, c] ++ [Value.func f5 a5 b5, Value.int .i64 k])).toArray)) w := by
 simp only [cel, List.cons_append, List.nil_append] at h0
 simp only [execOp, ho, cel, List.cons_append, List.nil_append]
 go_simp
theorem number_gen (sv : Value) (y : Nat) (ca : ∀ w, Calls Tryz.prog 118 #[sv] w (Rt w (.tuple #[N y, .int .i64 0]))) (w : World) :
  Calls Tryz.prog 84 #[sv] w (Rt w (N y)) := by
 have H0 : Hid (_ ∧ _) := ⟨Mm.nil w, Below.refl w.heap.size w⟩
 have CA : Hid _ := ca
 clear ca
 go_enter Tryz.func84, Tryz.ntmps84
 refine wp_seq ?_
 refine zI 1 [.made zero6 24] (sB H0) ?ho1 ?he1
 case ho1 => exact am (zO rfl) trivial
 intro J w1 l hM hl
 have H1 : Hid (Mm w1 [(J 0, zero6)] ∧ _) := wB H0 hM hl [0]
 have o1_0 := vB H0 hM hl 0
 clear hM hl l
 generalize J 0 = J1_0 at H1 o1_0 ⊢
 clear J
 refine rN (wp_seq ?_)
 refine zI 8 [.q (sv), .call (.tuple #[N y, .int .i64 0]), .q (.tuple #[N y, .int .i64 0]), .q (N y), .q (.int .i64 0), .made zero6 24, .laid 5 zero6 (zE y), .q (.int .i64 0)] (sB H1) ?ho2 ?he2 (hL := ?hL2)
 case hL2 => exact ⟨⟨_, rfl⟩, trivial⟩
 case ho2 => exact ar (ac (fun w' h => eC call118 (CA.out w')) (ar (ag (ag (am (zO rfl) (ak (fun J => ⟨rfl, rfl, rfl, fun w' h => exec_laid6 h rfl rfl rfl⟩) (ar trivial)))))))
 intro J w2 l hM hl
 have H2 : Hid (Mm w2 ([(J 5, zE y)] ++ _) ∧ _) := wB H1 hM hl [5]
 have o2_5 := vB H1 hM hl 5
 clear hM hl l H1
 generalize J 5 = J2_5 at H2 o2_5 ⊢
 clear J
 refine rN (wp_seq ?_)
 refine zM 1 [.q (N y)] H2 ?ho3 ?he3
 case ho3 => exact bN 0 trivial
 intro _ w3 H3
 clear H2
 refine zR (l := [1]) rfl ?_
 refine sG rfl (fun h => zQ h 1 rfl rfl rfl rfl (Nat.le_of_ble_eq_true rfl)) 1 [_, (_, zE y)] H3 o1_0 fun w4 H4 => ?_
 clear H3
 refine zC (zB (wp_ret ?_))
 repeat (first | refine zL ?_ | refine zK ?_)
 have c0 := H4.out.1.get 1 rfl 0 rfl
 have c1 := H4.out.1.get 1 rfl 1 rfl
 have c2 := H4.out.1.get 1 rfl 2 rfl
 have c3 := H4.out.1.get 1 rfl 3 rfl
 have c4 := H4.out.1.get 1 rfl 4 rfl
 have c5 := H4.out.1.get 1 rfl 5 rfl
 refine bodyPost_ret (v := N y) (by simp [results, Tryz.results84, go_sem, *]) rfl ?_
 exact ⟨rfl, H4.out.2⟩
def gx : Nat := 3685416753713387016781088315183077757961620795782546409894578378688607592378376318836054947676345821548104185464507
def gy : Nat := 1339506544944476473020471379941921221584933875938349620426543736416511423956333506472724655353366534992391756441569
def hx0 : Nat := 352701069587466618187139116011060144890029952792775240219908644239793785735715026873347600343865175952761926303160
def hy0 : Nat := 1985150602287291935568054521177171638300868978215655730859378665066344726373823718423869104263333984641494340347905
def hy1 : Nat := 927553665492332455747201965776037880757740193453592970025027978793976877002675564980949289727957565575433344219582
def bs_tr : ByteArray := ⟨#[53, 102, 49, 57, 54, 55, 50, 102, 100, 102, 55, 54, 99, 101, 53, 49, 98, 97, 54, 57, 99, 54, 48, 55, 54, 97, 48, 102, 55, 55, 101, 97, 100, 100, 98, 51, 97, 57, 51, 98, 101, 54, 102, 56, 57, 54, 56, 56, 100, 101, 49, 55, 100, 56, 49, 51, 54, 50, 48, 97, 48, 48, 48, 50, 50, 101, 48, 49, 102, 102, 102, 102, 102, 102, 102, 101, 102, 102, 102, 101]⟩
def tr : Nat := 793479390729215512621379701633421447060886740281060493010456487427281649075476305620758731620350
theorem parse_tr (w : World) : Calls Tryz.prog 118 #[.string bs_tr] w (Rt w (.tuple #[N tr, .int .i64 0])) := by
 have h := parse_loop bs_tr (by decide +kernel) (by decide +kernel) (Or.inl (by decide +kernel)) w
 have e : prv bs_tr = .tuple #[N tr, .int .i64 0] := by
  unfold prv
  rw [if_pos (by decide +kernel), show pvv bs_tr bs_tr.size = tr by decide +kernel]
 rw [e] at h
 exact h
theorem numb_tr (w : World) : Calls Tryz.prog 84 #[.string bs_tr] w (Rt w (N tr)) := number_gen _ tr parse_tr w
theorem belowG_gen (a n : Nat) (r : Int) (cb : ∀ w, Calls Tryz.prog 125 #[] w (Rt w (N n))) (cc : ∀ w, Calls Tryz.prog 85 #[N a, N n] w (Rt w (.int .i64 r))) (bl : Bool) (hr : decide (r < 0) = bl) (w : World) :
  Calls Tryz.prog 127 #[N a] w (Rt w (.bool bl)) := by
 have H0 : Hid (_ ∧ _) := ⟨Mm.nil w, Below.refl w.heap.size w⟩
 have CB : Hid _ := cb
 clear cb
 have CC : Hid _ := cc
 clear cc
 have HR : Hid _ := hr
 clear hr
 go_enter Tryz.func127, Tryz.ntmps127
 refine wp_seq ?_
 refine zI 2 [.made (zE a) 24, .q (.bool false)] (sB H0) ?ho1 ?he1
 case ho1 => exact am (ex_box6 rfl rfl) (ar trivial)
 intro J w1 l hM hl
 have H1 : Hid (Mm w1 [(J 0, zE a)] ∧ _) := wB H0 hM hl [0]
 have o1_0 := vB H0 hM hl 0
 clear hM hl l
 generalize J 0 = J1_0 at H1 o1_0 ⊢
 clear J
 refine rN (wp_seq ?_)
 refine walk_anyB 5 [.q (N a), .call (N n), .call (.int .i64 r), .q (.bool bl), .q (.bool bl)] H1 ?ho2 ?he2
 case ho2 => exact bN 0 (ac (fun w' h => eC call125 (CB.out w')) (ac (fun w' h => eC call85 (CC.out w')) (ak (by refine fun J => ⟨rfl, fun w' h => ?_⟩; clear h; rw [← HR.out]; go_simp) (ar trivial))))
 intro _ w2 H2
 clear H1
 refine rN (wp_ret ?_)
 repeat (first | refine zL ?_ | refine zK ?_)
 refine bodyPost_ret (v := .bool bl) (by simp [results, Tryz.results127, go_sem, *]) rfl ?_
 exact ⟨rfl, H2.out.2⟩
set_option maxHeartbeats 2000000 in
theorem first3_gen (n one four : Nat) (qtr : Nat) (ctr : ∀ w, Calls Tryz.prog 84 #[.string bs_tr] w (Rt w (N qtr))) (co : ∀ w, Calls Tryz.prog 7 #[.int .u64 1] w (Rt w (N one))) (cf : ∀ w, Calls Tryz.prog 7 #[.int .u64 4] w (Rt w (N four))) (cb : ∀ w, Calls Tryz.prog 125 #[] w (Rt w (N n))) (cn : ∀ w, Calls Tryz.prog 75 #[N n] w fun e w' => Below w.heap.size w w' ∧ ∃ g, e = .returned (.tuple #[PT g 0, .int .i64 0]) ∧ w.heap.size ≤ g ∧ g < w'.heap.size ∧ Blk w' g (modc n)) (w : World) :
  Calls Tryz.prog 90 #[] w fun e w' => Below w.heap.size w w' ∧ ∃ g x y, e = .returned (.agg (G1 g (.func (.func 128) #[] #[PT x 0, PT y 0]) one four).toArray) ∧ (∀ q ∈ [(g, modc n), (x, [PT g 0]), (y, zE qtr)], w.heap.size ≤ q.1) ∧ Mm w' [(g, modc n), (x, [PT g 0]), (y, zE qtr)] := by
 have H0 : Hid (_ ∧ _) := ⟨Mm.nil w, Below.refl w.heap.size w⟩
 have CTR : Hid _ := ctr
 clear ctr
 have CO : Hid _ := co
 clear co
 have CF : Hid _ := cf
 clear cf
 have CB : Hid _ := cb
 clear cb
 have CN : Hid _ := cn
 clear cn
 go_enter Tryz.func90, Tryz.ntmps90
 refine wp_seq ?_
 refine zI 1 [.made ([Value.nilFunc, Value.nilFunc, Value.nilFunc, Value.nilFunc, Value.nilFunc] ++ (cel [0, 0] ++ [Value.nilFunc, Value.int .i64 0])) 159] (sB H0) ?ho1 ?he1
 case ho1 => exact am (ex_madeGN rfl) trivial
 intro J w1 l hM hl
 have H1 : Hid (Mm w1 [(J 0, [Value.nilFunc, Value.nilFunc, Value.nilFunc, Value.nilFunc, Value.nilFunc] ++ (cel [0, 0] ++ [Value.nilFunc, Value.int .i64 0]))] ∧ _) := wB H0 hM hl [0]
 have o1_0 := vB H0 hM hl 0
 clear hM hl l
 generalize J 0 = J1_0 at H1 o1_0 ⊢
 clear J
 refine rN (wp_seq ?_)
 refine zI 2 [.call (N n), .born (fun g => .tuple #[PT g 0, .int .i64 0]) (modc n)] (sB H1) ?ho2 ?he2
 case ho2 => exact ak (fun J => ⟨rfl, fun w' h => eC call125 (CB.out w')⟩) (ak (fun J => ⟨rfl, fun w' h => eC call75 (CN.out w')⟩) trivial)
 intro J w2 l hM hl
 have H2 : Hid (Mm w2 ([(J 1, modc n)] ++ _) ∧ _) := wB H1 hM hl [1]
 have o2_1 := vB H1 hM hl 1
 clear hM hl l H1
 generalize J 1 = J2_1 at H2 o2_1 ⊢
 clear J
 refine zR (l := [2, 3, 4, 5, 6, 7]) rfl ?_
 refine zA (d := 4) rfl rfl rfl rfl ?_
 simp only [Act.put, sa, sz, ss]
 refine zA (d := 7) (v := PT J2_1 0) (w' := w2) rfl rfl rfl (by go_simp) ?_
 simp only [Act.put, sa, sz, ss]
 refine zA (d := 8) (v := .int .i64 0) (w' := w2) rfl rfl rfl (by go_simp) ?_
 simp only [Act.put, sa, sz, ss]
 refine zA (d := 1) (v := PT w2.heap.size 0) (w' := w2.alloc (.cells ([Value.pointer none] : List Value).toArray 73)) rfl rfl rfl (ex_madeQ rfl) ?_
 simp only [Act.put, sa, sz, ss]
 have o_Js3 : Hid (w.heap.size ≤ w2.heap.size) := H2.out.2.size
 have H3 : Hid (Mm (w2.alloc (.cells ([Value.pointer none] : List Value).toArray 73)) ((w2.heap.size, [Value.pointer none]) :: [(J2_1, modc n), (J1_0, [Value.nilFunc, Value.nilFunc, Value.nilFunc, Value.nilFunc, Value.nilFunc] ++ (cel [0, 0] ++ [Value.nilFunc, Value.int .i64 0]))]) ∧ Below w.heap.size w (w2.alloc (.cells ([Value.pointer none] : List Value).toArray 73))) := ⟨H2.out.1.alloc _ 73 rfl, H2.out.2.alloc H2.out.2.size _⟩
 clear H2
 generalize hgw : w2.alloc (.cells ([Value.pointer none] : List Value).toArray 73) = w3 at H3 ⊢
 clear hgw
 generalize w2.heap.size = Js3 at o_Js3 H3 ⊢
 refine sG rfl (fun h => ex_storeQ h 0 rfl rfl rfl rfl (Nat.le_of_ble_eq_true rfl)) 0 [(_, [PT J2_1 0]), _, _] H3 o_Js3 fun w4 H4 => ?_
 clear H3
 refine zA (d := 2) rfl rfl rfl rfl ?_
 simp only [Act.put, sa, sz, ss]
 refine zC (zB (wp_seq ?_))
 refine zI 3 [.call (N qtr), .made zero6 24, .laid 1 zero6 (zE qtr)] (sB H4) ?ho3 ?he3 (hL := ?hL3)
 case hL3 => exact ⟨⟨_, rfl⟩, trivial⟩
 case ho3 => exact ac (fun w' h => eC call84 (CTR.out w')) (am (zO rfl) (ak (fun J => ⟨rfl, rfl, rfl, fun w' h => exec_laid6 h rfl rfl rfl⟩) trivial))
 intro J w5 l hM hl
 have H5 : Hid (Mm w5 ([(J 1, zE qtr)] ++ _) ∧ _) := wB H4 hM hl [1]
 have o3_1 := vB H4 hM hl 1
 clear hM hl l H4
 generalize J 1 = J3_1 at H5 o3_1 ⊢
 clear J
 refine rN (wp_seq ?_)
 refine walk_anyB 13 [.q (PT J2_1 0), .q (.func (.func 28) #[PT J2_1 0] #[]), .q (PT J2_1 0), .q (.func (.func 76) #[PT J2_1 0] #[]), .q (PT J2_1 0), .q (.func (.func 126) #[PT J2_1 0] #[]), .q (PT J2_1 0), .q (.func (.func 31) #[PT J2_1 0] #[]), .call (N one), .q (.agg ([Value.func (.func 28) #[PT J2_1 0] #[], Value.func (.func 76) #[PT J2_1 0] #[], Value.func (.func 126) #[PT J2_1 0] #[], Value.func (.func 31) #[PT J2_1 0] #[], Value.func (.func 127) #[] #[]] ++ cel [one]).toArray), .call (N four), .q (.func (.func 128) #[] #[PT Js3 0, PT J3_1 0]), .q (.agg (G1 J2_1 (.func (.func 128) #[] #[PT Js3 0, PT J3_1 0]) one four).toArray)] H5 ?ho4 ?he4
 case ho4 => exact bC 1 Ai73 (ak (fun J => ⟨rfl, fun w' _ => ex_makeM rfl (mpn rfl)⟩) (bC 1 Ai73 (ak (fun J => ⟨rfl, fun w' _ => ex_makeM rfl (mpn rfl)⟩) (bC 1 Ai73 (ak (fun J => ⟨rfl, fun w' _ => ex_makeM rfl (mpn rfl)⟩) (bC 1 Ai73 (ak (fun J => ⟨rfl, fun w' _ => ex_makeM rfl (mpn rfl)⟩) (ac (fun w' h => eC call7 (CO.out w')) (ak (fun J => ⟨rfl, fun w' _ => ex_buildFN rfl rfl rfl rfl rfl rfl rfl⟩) (ac (fun w' h => eC call7 (CF.out w')) (ak (fun J => ⟨rfl, fun w' _ => ex_makeC rfl (mpn rfl)⟩) (ak (fun J => ⟨rfl, fun w' _ => ex_buildGN rfl rfl rfl rfl rfl⟩) trivial))))))))))))
 intro _ w6 H6
 clear H5
 refine zR (l := [13]) rfl ?_
 refine sG rfl (fun h => ex_storeT (vs := G1 J2_1 (.func (.func 128) #[] #[PT Js3 0, PT J3_1 0]) one four) h 3 rfl rfl rfl rfl As159 rfl (Nat.le_of_ble_eq_true rfl)) 3 [_, _, _, (_, G1 J2_1 (.func (.func 128) #[] #[PT Js3 0, PT J3_1 0]) one four)] H6 o1_0 fun w7 H7 => ?_
 clear H6
 refine zC (zB (wp_ret ?_))
 repeat (first | refine zL ?_ | refine zK ?_)
 have hf0 := var_T H7.out.1 3 rfl Tryz.isAgg159 As159 rfl
 refine bodyPost_ret (v := .agg (G1 J2_1 (.func (.func 128) #[] #[PT Js3 0, PT J3_1 0]) one four).toArray) (by simp [results, Tryz.results90, asAddr, hf0]) rfl ?_
 refine ⟨H7.out.2, J2_1, Js3, J3_1, rfl, fun q hq => ?_, H7.out.1.pick [2, 1, 0] rfl (by decide)⟩
 simp only [List.mem_cons, List.not_mem_nil, or_false] at hq
 rcases hq with rfl | rfl | rfl
 ·exact o2_1.out
 ·exact o_Js3.out
 ·exact o3_1.out
theorem Mm.join {w w' : World} {L N' : List (Nat × List Value)} (h : Mm w L) (hb : Below w.heap.size w w') (hM : Mm w' N') (hN : ∀ q ∈ N', w.heap.size ≤ q.1) : Mm w' (N' ++ L) := by
 have h' := h.below hb
 refine ⟨fun p hp => ?_, List.pairwise_append.2 ⟨hM.nd, h'.nd, fun a ha b hb2 => ?_⟩⟩
 ·rcases List.mem_append.1 hp with q | q
  ·exact hM.blk p q
  ·exact h'.blk p q
 ·have h1 := hN a ha
  have h2 := (h.blk b hb2).1
  omega
set_option maxHeartbeats 2000000 in
theorem In_1 (one four qtr x y : Nat) (zb bz : Bool) (cf : ∀ w, Calls Tryz.prog 90 #[] w fun e w' => Below w.heap.size w w' ∧ ∃ g x y, e = .returned (.agg (G1 g (.func (.func 128) #[] #[PT x 0, PT y 0]) one four).toArray) ∧ (∀ q ∈ [(g, modc pB), (x, [PT g 0]), (y, zE qtr)], w.heap.size ≤ q.1) ∧ Mm w' [(g, modc pB), (x, [PT g 0]), (y, zE qtr)]) (ci : ∀ g bx cy w, Mm w [(g, modc pB), (0, dtab), (bx, [PT g 0]), (cy, zE qtr)] → Calls Tryz.prog 94 #[.agg (G1 g (.func (.func 128) #[] #[PT bx 0, PT cy 0]) one four).toArray, .agg (pc1 x y zb).toArray] w (Rt w (.bool bz))) (w : World) (hm : Mm w [(0, dtab)]) :
  Calls Tryz.prog 40 #[.agg (pc1 x y zb).toArray] w (Rt w (.bool bz)) := by
 have H0 : Hid (_ ∧ _) := ⟨hm, Below.refl w.heap.size w⟩
 clear hm
 have CF : Hid _ := cf
 clear cf
 have CI : Hid _ := ci
 clear ci
 go_enter Tryz.func40, Tryz.ntmps40
 refine wp_seq ?_
 refine zI 2 [.made (pc1 x y zb) 33, .q (.bool false)] (sB H0) ?ho1 ?he1
 case ho1 => exact am (ex_boxT rfl rfl) (ar trivial)
 intro J w1 l hM hl
 have H1 : Hid (Mm w1 ([(J 0, pc1 x y zb)] ++ _) ∧ _) := wB H0 hM hl [0]
 have o1_0 := vB H0 hM hl 0
 clear hM hl l
 generalize J 0 = J1_0 at H1 o1_0 ⊢
 clear J
 refine rN (wp_seq ?_)
 refine region_open (o0 := ?oz2) (by kernel_rfl) 2 [.q (.agg (pc1 x y zb).toArray)] ?pre2 ?F2 (fun v w' => ∃ (g x y : Nat), v = .agg (G1 g (.func (.func 128) #[] #[PT x 0, PT y 0]) one four).toArray ∧ (∀ q ∈ [(g, modc pB), (x, [PT g 0]), (y, zE qtr)], w1.heap.size ≤ q.1) ∧ Mm w' [(g, modc pB), (x, [PT g 0]), (y, zE qtr)]) ?hpre2 (fun v J => ?hF2) (fun v => ?hor2) ?hz2 ?hw2 ?hx2 ?hq2 ?he2
 case hpre2 => simp only [tk, tz]; rfl
 case hF2 => simp only [zY, Kind.val, Act.put, sa, sz, ss]; rfl
 case hor2 => kernel_rfl
 case hz2 => exact rfl
 case hw2 => exact rfl
 case hx2 =>
  intro w' hb
  refine eC call90 (Calls.mono (CF.out w') (fun e w2 hh => ?_))
  obtain ⟨hB, g, x, y, he, hg, hM⟩ := hh
  exact ⟨_, he, hB, g, x, y, rfl, fun q hq => Nat.le_trans hb.size (hg q hq), hM⟩
 case hq2 =>
  intro v w' hb i o hi ho
  rcases i with _ | i
  ·first | omega | (obtain rfl := Option.some.inj ho; exact ⟨_, rfl, rfl, by omega⟩)
  rcases i with _ | i
  ·obtain rfl := Option.some.inj ho
   exact ⟨_, rfl, rfl, ex_loadT (H1.out.1.below hb) 0 rfl rfl rfl Tryz.isAgg33 Tryz.sizeOf33 rfl rfl⟩
  ·exact absurd ho (by simp)
 intro _ w2 hb hR
 obtain ⟨J2_g, J2_x, J2_y, rfl, hN, hM⟩ := hR
 have H2 : Hid (Mm w2 [(J2_g, modc pB), (J2_x, [PT J2_g 0]), (J2_y, zE qtr), (J1_0, pc1 x y zb), (0, dtab)] ∧ Below w.heap.size w w2) := ⟨H1.out.1.join hb hM hN, H1.out.2.trans (hb.mono H1.out.2.size)⟩
 clear hb hM hN H1
 refine zR (l := [2, 3]) rfl ?_
 refine zF (d := 5) (R := fun vv w' => vv = .bool bz ∧ Below w2.heap.size w2 w') rfl rfl rfl (zG (args := #[.agg (G1 J2_g (.func (.func 128) #[] #[PT J2_x 0, PT J2_y 0]) one four).toArray, .agg (pc1 x y zb).toArray]) rfl call94 rfl (mpn rfl)) (Calls.mono (CI.out J2_g J2_x J2_y w2 (H2.out.1.pick [0, 4, 1, 2] rfl (by decide))) (fun e w2 hh => ⟨_, hh.1, rfl, hh.2⟩)) ?_
 rintro _ w3 ⟨rfl, hb⟩
 have H3 : Hid (_ ∧ _) := ⟨H2.out.1.below hb, H2.out.2.trans (hb.mono H2.out.2.size)⟩
 clear hb H2
 simp only [Act.put, sa, sz, ss]
 refine zA (d := 2) rfl rfl rfl rfl ?_
 simp only [Act.put, sa, sz, ss]
 refine zC (zB (wp_ret ?_))
 repeat (first | refine zL ?_ | refine zK ?_)
 refine bodyPost_ret (v := .bool bz) (by simp [results, Tryz.results40, go_sem, *]) rfl ?_
 exact ⟨rfl, H3.out.2⟩
end Rg
end Go.Proofs.YtahghpkjkfaieaaGreatDoor
end
section
namespace Go.Proofs.YtahghpkjkfaieaaGreatDoor
namespace EC
end EC
end Go.Proofs.YtahghpkjkfaieaaGreatDoor
end
section
namespace Go.Proofs.YtahghpkjkfaieaaGreatDoor
namespace EC
section
variable {β : Type} (O : Ops β)
end
section
variable {α : Type} (C : Crv α)
end
section
variable {α : Type} [DecidableEq α] (C : Crv α)
/-! Digits of a word, and six words: what the rounds come to. -/
end
end EC
end Go.Proofs.YtahghpkjkfaieaaGreatDoor
end
section
namespace Go.Proofs.YtahghpkjkfaieaaGreatDoor
namespace EC
/-- The bits of a word, from the highest; what stands ahead of them. -/
def wbit (s k : Nat) : Nat := s * 2 ^ k % 18446744073709551616 / 9223372036854775808
section
variable {α : Type} (C : Crv α)
end
section
variable {α : Type} [DecidableEq α] (C : Crv α)
def Crv.bw (s : Nat) (T : Tri α) : Nat → Tri α
 | 0 => C.lift none
 | k + 1 => if wbit s k = 1 then C.tog (C.twice (Crv.bw s T k)) T else C.twice (Crv.bw s T k)
/-- Whether a point is of the group, as the program tells it: n words in a row multiply it, and it is held against the turned one. -/
def Crv.ws (s : Nat) (T : Tri α) : Nat → Tri α
 | 0 => T
 | n + 1 => C.bw s (Crv.ws s T n) 64
end
end EC
end Go.Proofs.YtahghpkjkfaieaaGreatDoor
end
section
namespace Go.Proofs.YtahghpkjkfaieaaGreatDoor
open Go.RowKit
namespace Rg
theorem checkZ_1 {α : Type} {en : α → Nat} {fa fs fm : α → α → α} {fi : α → α} {z u b : α} {g : Nat} {tn : Value} (_C : Fd1 g en fa fs fm fi z) (x y : Nat) (be : Bool) (he : ∀ w, (Op.equalIn 10000 152 (.agg (pc1 x y true).toArray) (.agg (pc1 0 0 true).toArray)).run Tryz.prog w = .ok be w) (w : World) (hm : Mm w [(g, modc pB), (0, dtab)]) :
  Calls Tryz.prog 129 #[.agg (G1 g tn (en u) (en b)).toArray, .agg (pc1 x y true).toArray] w (Rt w (.bool be)) := by
 have H0 : Hid (_ ∧ _) := ⟨hm, Below.refl w.heap.size w⟩
 clear hm
 have HE : Hid _ := he
 clear he
 go_enter Tryz.func129, Tryz.ntmps129
 refine wp_seq ?_
 refine zI 3 [.made (G1 g tn (en u) (en b)) 159, .made (pc1 x y true) 152, .q (.bool false)] (sB H0) ?ho1 ?he1
 case ho1 => exact am (ex_boxT rfl rfl) (am (ex_boxT rfl rfl) (ar trivial))
 intro J w1 l hM hl
 have H1 : Hid (Mm w1 ([(J 0, G1 g tn (en u) (en b)), (J 1, pc1 x y true)] ++ _) ∧ _) := wB H0 hM hl [0, 1]
 have o1_0 := vB H0 hM hl 0
 have o1_1 := vB H0 hM hl 1
 clear hM hl l
 generalize J 0 = J1_0 at H1 o1_0 ⊢
 generalize J 1 = J1_1 at H1 o1_1 ⊢
 clear J
 refine rN (wp_seq (wp_seq ?_))
 refine zM 2 [.q (PT J1_1 12), .q (.bool true)] H1 ?ho2 ?he2
 case ho2 => exact ag (bC 1 Ai4 trivial)
 intro _ w2 H2
 clear H1
 refine rN (wp_cond_true rfl (wp_seq ?_))
 refine zM 4 [.q (.agg (pc1 x y true).toArray), .q (.agg (pc1 0 0 true).toArray), .q (.bool be), .q (.bool be)] H2 ?ho3 ?he3
 case ho3 => exact bT 1 Tryz.isAgg152 Tryz.sizeOf152 (ak (fun J => ⟨rfl, fun w' _ => ex_buildPNt rfl rfl⟩) (ak (fun J => ⟨rfl, fun w' _ => exec_eqT152 HE.out rfl rfl rfl⟩) (ar trivial)))
 intro _ w3 H3
 clear H2
 refine rN (wp_ret ?_)
 repeat (first | refine zL ?_ | refine zK ?_)
 refine bodyPost_ret (v := .bool be) (by simp [results, Tryz.results129, go_sem, *]) rfl ?_
 exact ⟨rfl, H3.out.2⟩
theorem checkX_1 {α : Type} {en : α → Nat} {fa fs fm : α → α → α} {fi : α → α} {z u b : α} {g : Nat} {tn : Value} (_C : Fd1 g en fa fs fm fi z) (x y : Nat) (cx : ∀ w, Mm w [(g, modc pB), (0, dtab)] → Calls Tryz.prog 127 #[N x] w (Rt w (.bool false))) (w : World) (hm : Mm w [(g, modc pB), (0, dtab)]) :
  Calls Tryz.prog 129 #[.agg (G1 g tn (en u) (en b)).toArray, .agg (pc1 x y false).toArray] w (Rt w (.bool false)) := by
 have H0 : Hid (_ ∧ _) := ⟨hm, Below.refl w.heap.size w⟩
 clear hm
 have CX : Hid _ := cx
 clear cx
 go_enter Tryz.func129, Tryz.ntmps129
 refine wp_seq ?_
 refine zI 3 [.made (G1 g tn (en u) (en b)) 159, .made (pc1 x y false) 152, .q (.bool false)] (sB H0) ?ho1 ?he1
 case ho1 => exact am (ex_boxT rfl rfl) (am (ex_boxT rfl rfl) (ar trivial))
 intro J w1 l hM hl
 have H1 : Hid (Mm w1 ([(J 0, G1 g tn (en u) (en b)), (J 1, pc1 x y false)] ++ _) ∧ _) := wB H0 hM hl [0, 1]
 have o1_0 := vB H0 hM hl 0
 have o1_1 := vB H0 hM hl 1
 clear hM hl l
 generalize J 0 = J1_0 at H1 o1_0 ⊢
 generalize J 1 = J1_1 at H1 o1_1 ⊢
 clear J
 refine rN (wp_seq (wp_seq ?_))
 refine zM 2 [.q (PT J1_1 12), .q (.bool false)] H1 ?ho2 ?he2
 case ho2 => exact ag (bC 1 Ai4 trivial)
 intro _ w2 H2
 clear H1
 refine rN (wp_cond_false rfl ?_)
 refine wp_skip (zB (wp_seq ?_))
 refine walk_anyB 46 [.q (PT J1_0 0), .q (PT J1_0 4), .q (.func (.func 127) #[] #[]), .q (PT J1_1 0), .q (N x), .call (.bool false), .q (.bool false), .gone, .gone, .gone, .gone, .gone, .gone, .q (.bool false), .q (.bool false), .gone, .gone, .gone, .gone, .gone, .gone, .gone, .gone, .gone, .gone, .gone, .gone, .gone, .gone, .gone, .gone, .gone, .gone, .gone, .gone, .gone, .gone, .gone, .gone, .gone, .gone, .gone, .gone, .gone, .q (.bool false), .q (.bool false)] H2 ?ho3 ?he3 (hL := ?hL3)
 case hL3 => exact trivial
 case ho3 => exact ag (ag (bC 0 Ai154 (ag (bN 1 (ac (fun w' h => ⟨127, #[N x], ex_callV rfl call127 rfl (mpn rfl) rfl, CX.out w' (h.two 2 3 rfl rfl (by decide))⟩) (ar (ak (fun J => rfl) (ak (fun J => rfl) (ak (fun J => rfl) (ak (fun J => rfl) (ak (fun J => rfl) (ak (fun J => rfl) (ag (ar (ak (fun J => rfl) (ak (fun J => rfl) (ak (fun J => rfl) (ak (fun J => rfl) (ak (fun J => rfl) (ak (fun J => rfl) (ak (fun J => rfl) (ak (fun J => rfl) (ak (fun J => rfl) (ak (fun J => rfl) (ak (fun J => rfl) (ak (fun J => rfl) (ak (fun J => rfl) (ak (fun J => rfl) (ak (fun J => rfl) (ak (fun J => rfl) (ak (fun J => rfl) (ak (fun J => rfl) (ak (fun J => rfl) (ak (fun J => rfl) (ak (fun J => rfl) (ak (fun J => rfl) (ak (fun J => rfl) (ak (fun J => rfl) (ak (fun J => rfl) (ak (fun J => rfl) (ak (fun J => rfl) (ak (fun J => rfl) (ak (fun J => rfl) (ag (ar trivial)))))))))))))))))))))))))))))))))))))))))))))
 intro _ w3 H3
 clear H2
 refine rN (wp_ret ?_)
 repeat (first | refine zL ?_ | refine zK ?_)
 refine bodyPost_ret (v := .bool false) (by simp [results, Tryz.results129, go_sem, *]) rfl ?_
 exact ⟨rfl, H3.out.2⟩
theorem checkY_1 {α : Type} {en : α → Nat} {fa fs fm : α → α → α} {fi : α → α} {z u b : α} {g : Nat} {tn : Value} (_C : Fd1 g en fa fs fm fi z) (x y : Nat) (cx : ∀ w, Mm w [(g, modc pB), (0, dtab)] → Calls Tryz.prog 127 #[N x] w (Rt w (.bool true))) (cy : ∀ w, Mm w [(g, modc pB), (0, dtab)] → Calls Tryz.prog 127 #[N y] w (Rt w (.bool false))) (w : World) (hm : Mm w [(g, modc pB), (0, dtab)]) :
  Calls Tryz.prog 129 #[.agg (G1 g tn (en u) (en b)).toArray, .agg (pc1 x y false).toArray] w (Rt w (.bool false)) := by
 have H0 : Hid (_ ∧ _) := ⟨hm, Below.refl w.heap.size w⟩
 clear hm
 have CX : Hid _ := cx
 clear cx
 have CY : Hid _ := cy
 clear cy
 go_enter Tryz.func129, Tryz.ntmps129
 refine wp_seq ?_
 refine zI 3 [.made (G1 g tn (en u) (en b)) 159, .made (pc1 x y false) 152, .q (.bool false)] (sB H0) ?ho1 ?he1
 case ho1 => exact am (ex_boxT rfl rfl) (am (ex_boxT rfl rfl) (ar trivial))
 intro J w1 l hM hl
 have H1 : Hid (Mm w1 ([(J 0, G1 g tn (en u) (en b)), (J 1, pc1 x y false)] ++ _) ∧ _) := wB H0 hM hl [0, 1]
 have o1_0 := vB H0 hM hl 0
 have o1_1 := vB H0 hM hl 1
 clear hM hl l
 generalize J 0 = J1_0 at H1 o1_0 ⊢
 generalize J 1 = J1_1 at H1 o1_1 ⊢
 clear J
 refine rN (wp_seq (wp_seq ?_))
 refine zM 2 [.q (PT J1_1 12), .q (.bool false)] H1 ?ho2 ?he2
 case ho2 => exact ag (bC 1 Ai4 trivial)
 intro _ w2 H2
 clear H1
 refine rN (wp_cond_false rfl ?_)
 refine wp_skip (zB (wp_seq ?_))
 refine walk_anyB 46 [.q (PT J1_0 0), .q (PT J1_0 4), .q (.func (.func 127) #[] #[]), .q (PT J1_1 0), .q (N x), .call (.bool true), .q (.bool true), .q (PT J1_0 0), .q (PT J1_0 4), .q (.func (.func 127) #[] #[]), .q (PT J1_1 6), .q (N y), .call (.bool false), .q (.bool false), .q (.bool false), .gone, .gone, .gone, .gone, .gone, .gone, .gone, .gone, .gone, .gone, .gone, .gone, .gone, .gone, .gone, .gone, .gone, .gone, .gone, .gone, .gone, .gone, .gone, .gone, .gone, .gone, .gone, .gone, .gone, .q (.bool false), .q (.bool false)] H2 ?ho3 ?he3 (hL := ?hL3)
 case hL3 => exact trivial
 case ho3 => exact ag (ag (bC 0 Ai154 (ag (bN 1 (ac (fun w' h => ⟨127, #[N x], ex_callV rfl call127 rfl (mpn rfl) rfl, CX.out w' (h.two 2 3 rfl rfl (by decide))⟩) (ar (ag (ag (bC 0 Ai154 (ag (bN 1 (ac (fun w' h => ⟨127, #[N y], ex_callV rfl call127 rfl (mpn rfl) rfl, CY.out w' (h.two 2 3 rfl rfl (by decide))⟩) (ag (ar (ak (fun J => rfl) (ak (fun J => rfl) (ak (fun J => rfl) (ak (fun J => rfl) (ak (fun J => rfl) (ak (fun J => rfl) (ak (fun J => rfl) (ak (fun J => rfl) (ak (fun J => rfl) (ak (fun J => rfl) (ak (fun J => rfl) (ak (fun J => rfl) (ak (fun J => rfl) (ak (fun J => rfl) (ak (fun J => rfl) (ak (fun J => rfl) (ak (fun J => rfl) (ak (fun J => rfl) (ak (fun J => rfl) (ak (fun J => rfl) (ak (fun J => rfl) (ak (fun J => rfl) (ak (fun J => rfl) (ak (fun J => rfl) (ak (fun J => rfl) (ak (fun J => rfl) (ak (fun J => rfl) (ak (fun J => rfl) (ak (fun J => rfl) (ag (ar trivial)))))))))))))))))))))))))))))))))))))))))))))
 intro _ w3 H3
 clear H2
 refine rN (wp_ret ?_)
 repeat (first | refine zL ?_ | refine zK ?_)
 refine bodyPost_ret (v := .bool false) (by simp [results, Tryz.results129, go_sem, *]) rfl ?_
 exact ⟨rfl, H3.out.2⟩
set_option maxHeartbeats 4000000 in
theorem checkB_1 {α : Type} {en : α → Nat} {fa fs fm : α → α → α} {fi : α → α} {z u b : α} {g : Nat} {tn : Value} (C : Fd1 g en fa fs fm fi z) (x y : α) (be : Bool) (cx : ∀ w, Mm w [(g, modc pB), (0, dtab)] → Calls Tryz.prog 127 #[N (en x)] w (Rt w (.bool true))) (cy : ∀ w, Mm w [(g, modc pB), (0, dtab)] → Calls Tryz.prog 127 #[N (en y)] w (Rt w (.bool true))) (he : ∀ w, (Op.equalIn 10000 24 (N (en (fm y y))) (N (en (fa (fm x (fm x x)) b)))).run Tryz.prog w = .ok be w) (w : World) (hm : Mm w [(g, modc pB), (0, dtab)]) :
  Calls Tryz.prog 129 #[.agg (G1 g tn (en u) (en b)).toArray, .agg (pc1 (en x) (en y) false).toArray] w (Rt w (.bool be)) := by
 have H0 : Hid (_ ∧ _) := ⟨hm, Below.refl w.heap.size w⟩
 clear hm
 have CX : Hid _ := cx
 clear cx
 have CY : Hid _ := cy
 clear cy
 have HE : Hid _ := he
 clear he
 go_enter Tryz.func129, Tryz.ntmps129
 refine wp_seq ?_
 refine zI 3 [.made (G1 g tn (en u) (en b)) 159, .made (pc1 (en x) (en y) false) 152, .q (.bool false)] (sB H0) ?ho1 ?he1
 case ho1 => exact am (ex_boxT rfl rfl) (am (ex_boxT rfl rfl) (ar trivial))
 intro J w1 l hM hl
 have H1 : Hid (Mm w1 ([(J 0, G1 g tn (en u) (en b)), (J 1, pc1 (en x) (en y) false)] ++ _) ∧ _) := wB H0 hM hl [0, 1]
 have o1_0 := vB H0 hM hl 0
 have o1_1 := vB H0 hM hl 1
 clear hM hl l
 generalize J 0 = J1_0 at H1 o1_0 ⊢
 generalize J 1 = J1_1 at H1 o1_1 ⊢
 clear J
 refine rN (wp_seq (wp_seq ?_))
 refine zM 2 [.q (PT J1_1 12), .q (.bool false)] H1 ?ho2 ?he2
 case ho2 => exact ag (bC 1 Ai4 trivial)
 intro _ w2 H2
 clear H1
 refine rN (wp_cond_false rfl ?_)
 refine wp_skip (zB (wp_seq ?_))
 refine walk_anyB 46 [.q (PT J1_0 0), .q (PT J1_0 4), .q (.func (.func 127) #[] #[]), .q (PT J1_1 0), .q (N (en x)), .call (.bool true), .q (.bool true), .q (PT J1_0 0), .q (PT J1_0 4), .q (.func (.func 127) #[] #[]), .q (PT J1_1 6), .q (N (en y)), .call (.bool true), .q (.bool true), .q (.bool true), .q (PT J1_0 0), .q (PT J1_0 2), .q (.func (.func 126) #[PT g 0] #[]), .q (PT J1_1 6), .q (N (en y)), .q (PT J1_1 6), .q (N (en y)), .call (N (en (fm y y))), .q (PT J1_0 0), .q (PT J1_0 0), .q (.func (.func 28) #[PT g 0] #[]), .q (PT J1_0 0), .q (PT J1_0 2), .q (.func (.func 126) #[PT g 0] #[]), .q (PT J1_1 0), .q (N (en x)), .q (PT J1_0 0), .q (PT J1_0 2), .q (.func (.func 126) #[PT g 0] #[]), .q (PT J1_1 0), .q (N (en x)), .q (PT J1_1 0), .q (N (en x)), .call (N (en (fm x x))), .call (N (en (fm x (fm x x)))), .q (PT J1_0 11), .q (N (en b)), .call (N (en (fa (fm x (fm x x)) b))), .q (.bool be), .q (.bool be), .q (.bool be)] H2 ?ho3 ?he3 (hL := ?hL3)
 case hL3 => exact trivial
 case ho3 => exact ag (ag (bC 0 Ai154 (ag (bN 1 (ac (fun w' h => ⟨127, #[N (en x)], ex_callV rfl call127 rfl (mpn rfl) rfl, CX.out w' (h.two 2 3 rfl rfl (by decide))⟩) (ar (ag (ag (bC 0 Ai154 (ag (bN 1 (ac (fun w' h => ⟨127, #[N (en y)], ex_callV rfl call127 rfl (mpn rfl) rfl, CY.out w' (h.two 2 3 rfl rfl (by decide))⟩) (ag (ar (ag (ag (bC 0 Ai77 (ag (bN 1 (ag (bN 1 (ac (fun w' h => ⟨126, #[PT g 0, N (en y), N (en y)], ex_callV rfl call126 rfl (mpn rfl) rfl, C.cm _ _ w' (h.two 2 3 rfl rfl (by decide))⟩) (ag (ag (bC 0 Ai77 (ag (ag (bC 0 Ai77 (ag (bN 1 (ag (ag (bC 0 Ai77 (ag (bN 1 (ag (bN 1 (ac (fun w' h => ⟨126, #[PT g 0, N (en x), N (en x)], ex_callV rfl call126 rfl (mpn rfl) rfl, C.cm _ _ w' (h.two 2 3 rfl rfl (by decide))⟩) (ac (fun w' h => ⟨126, #[PT g 0, N (en x), N (en (fm x x))], ex_callV rfl call126 rfl (mpn rfl) rfl, C.cm _ _ w' (h.two 2 3 rfl rfl (by decide))⟩) (ag (bN 0 (ac (fun w' h => ⟨28, #[PT g 0, N (en (fm x (fm x x))), N (en b)], ex_callV rfl call28 rfl (mpn rfl) rfl, C.ca _ _ w' (h.two 2 3 rfl rfl (by decide))⟩) (ak (fun J => ⟨rfl, fun w' _ => exec_eq6 HE.out rfl rfl rfl⟩) (ag (ar trivial)))))))))))))))))))))))))))))))))))))))))))))
 intro _ w3 H3
 clear H2
 refine rN (wp_ret ?_)
 repeat (first | refine zL ?_ | refine zK ?_)
 refine bodyPost_ret (v := .bool be) (by simp [results, Tryz.results129, go_sem, *]) rfl ?_
 exact ⟨rfl, H3.out.2⟩
set_option maxHeartbeats 2000000 in
theorem Check_2 (one four x0 x1 y0 y1 : Nat) (zb bz : Bool) (cf : ∀ w, Calls Tryz.prog 96 #[] w fun e w' => Below w.heap.size w w' ∧ ∃ g x, ∃ _y : Nat, e = .returned (.agg (G2 (.func (.func 142) #[] #[PT g 0, PT x 0]) one 0 four four).toArray) ∧ w.heap.size ≤ g ∧ g < w'.heap.size ∧ Blk w' g ([])) (cm : ∀ tn w, Mm w [(0, dtab)] → Calls Tryz.prog 144 #[(.agg (G2 tn one 0 four four).toArray), .agg (pc2 x0 x1 y0 y1 zb).toArray] w (Rt w (.bool bz))) (w : World) (hm : Mm w [(0, dtab)]) :
  Calls Tryz.prog 155 #[.agg (pc2 x0 x1 y0 y1 zb).toArray] w (Rt w (.bool bz)) := by
 have H0 : Hid (_ ∧ _) := ⟨hm, Below.refl w.heap.size w⟩
 clear hm
 have CF : Hid _ := cf
 clear cf
 have CM : Hid _ := cm
 clear cm
 go_enter Tryz.func155, Tryz.ntmps155
 refine wp_seq ?_
 refine zI 2 [.made (pc2 x0 x1 y0 y1 zb) 47, .q (.bool false)] (sB H0) ?ho1 ?he1
 case ho1 => exact am (ex_boxT rfl rfl) (ar trivial)
 intro J w1 l hM hl
 have H1 : Hid (Mm w1 ([(J 0, pc2 x0 x1 y0 y1 zb)] ++ _) ∧ _) := wB H0 hM hl [0]
 have o1_0 := vB H0 hM hl 0
 clear hM hl l
 generalize J 0 = J1_0 at H1 o1_0 ⊢
 clear J
 refine rN (wp_seq ?_)
 refine walk_anyA 4 [.bornX (fun g x y => .agg (G2 (.func (.func 142) #[] #[PT g 0, PT x 0]) one 0 four four).toArray) ([]), .q (.agg (pc2 x0 x1 y0 y1 zb).toArray), .over (.bool bz) 0 ([]), .q (.bool bz)] (sB H1) ?ho2 ?he2 (hL := ?hL2)
 case hL2 => exact ⟨⟨_, rfl⟩, trivial⟩
 case ho2 => exact ak (fun J => ⟨rfl, fun w' h => eC call96 (CF.out w')⟩) (bT 0 Tryz.isAgg47 Tryz.sizeOf47 (ak (fun J => ⟨rfl, fun u w' h0 hge h1 hb hlt => by have h := Mm.over h0 hge h1 hb hlt; exact eC call144 (CM.out _ w' (h.one 2 rfl))⟩) (ar trivial)))
 intro J w2 l hM hl
 have H2 : Hid (Mm w2 ([(J 0, [])] ++ _) ∧ _) := wB H1 hM hl [0]
 have o2_0 := vB H1 hM hl 0
 clear hM hl l H1
 generalize J 0 = J2_0 at H2 o2_0 ⊢
 generalize J 65536 = J2_65536
 clear J
 refine rN (wp_ret ?_)
 repeat (first | refine zL ?_ | refine zK ?_)
 refine bodyPost_ret (v := .bool bz) (by simp [results, Tryz.results155, go_sem, *]) rfl ?_
 exact ⟨rfl, H2.out.2⟩
/-! Elements of twelve parts over the integers: number j of them is a j; w to the power 6 is 1 + i. -/
def m1 (a b : Nat → Int) (i j : Nat) : Int := a (2 * i) * b (2 * j + 1) + a (2 * i + 1) * b (2 * j)
end Rg
end Go.Proofs.YtahghpkjkfaieaaGreatDoor
end
section
namespace Go.Proofs.YtahghpkjkfaieaaGreatDoor
open Go.RowKit
namespace Rg
open NT
/-! What p divides. -/
def Dv (x : Int) : Prop := (pB : Int) ∣ x
theorem pz_iff (x y : Int) : pz x = pz y ↔ Dv (x - y) := by
 have hx := pz_cast x
 have hy := pz_cast y
 constructor
 ·intro h
  exact Int.dvd_of_emod_eq_zero (Int.emod_eq_emod_iff_emod_sub_eq_zero.1 (by rw [← hx, ← hy, h]))
 ·intro h
  exact pz_congr (Int.emod_eq_emod_iff_emod_sub_eq_zero.2 (Int.emod_eq_zero_of_dvd h))
theorem pz_zero_iff (x : Int) : pz x = 0 ↔ Dv x := by
 rw [← pz_zero, pz_iff, Int.sub_zero]
theorem Dv.add {x y : Int} (h : Dv x) (k : Dv y) : Dv (x + y) := Int.dvd_add h k
theorem Dv.sub {x y : Int} (h : Dv x) (k : Dv y) : Dv (x - y) := Int.dvd_sub h k
theorem Dv.mul {x : Int} (h : Dv x) (y : Int) : Dv (y * x) := Int.dvd_trans h (Int.dvd_mul_left y x)
theorem Dv.mulr {x : Int} (h : Dv x) (y : Int) : Dv (x * y) := Int.dvd_trans h (Int.dvd_mul_right x y)
theorem Dv.of {x y : Int} (h : Dv x) (e : x = y) : Dv y := e ▸ h
theorem dv_zero : Dv 0 := Int.dvd_zero _
theorem pB_prm : Prm pB := prm_p
theorem dv_nat (x : Int) : Dv x ↔ pB ∣ x.natAbs := Int.ofNat_dvd_left
theorem Dv.prime {x y : Int} (h : Dv (x * y)) : Dv x ∨ Dv y := by
 rw [dv_nat, Int.natAbs_mul] at h
 rw [dv_nat, dv_nat]
 exact pB_prm.mul h
/-- A number for an integer, with the power that leaves 1. -/
theorem unit_pow {x : Int} (h : ¬ Dv x) : pz x ^ (pB - 1) % pB = 1 :=
 fermat1 pB_prm (pz x) (fun hd => h (by
  rw [← pz_zero_iff]
  obtain ⟨k, hk⟩ := hd
  have := pz_lt x
  rcases Nat.eq_zero_or_pos k with h0 | h0
  ·rw [hk, h0, Nat.mul_zero]
  ·have := Nat.mul_le_mul (Nat.le_refl pB) h0
   omega))
theorem pow_dv {x : Int} (h : Dv x) : ∀ n, 0 < n → pz x ^ n % pB = 0 := fun n hn => by
 rw [(pz_zero_iff x).2 h, Nat.zero_pow hn, Nat.zero_mod]
def eP : Nat := 1000602388805416848354447456433976039139220704984751971333014534031007912622709466110671907282253916009473568139946
theorem pz_mod (x y : Int) (h : Dv (x - y)) : pz x = pz y := (pz_iff x y).2 h
theorem pz_mulN (x y : Int) : pz (x * y) = pz x * pz y % pB := by
 rw [← pz_mul, ← Int.natCast_mul, pz_nat]
def eT : Nat := 1334136518407222464472596608578634718852294273313002628444019378708010550163612621480895876376338554679298090853262
theorem pB_three : pB - 1 = 3 * eT := by decide +kernel
theorem two_third : 2 ^ eT % pB = 793479390729215512621379701633421447060886740281060493010456487427281649075476305620758731620350 := pm_eq (by decide +kernel)
/-- 2 is no cube. -/
theorem two_cb {m k : Int} (h : Dv (m * (m * m) - 2 * (k * (k * k)))) : Dv k := by
 by_cases hk : Dv k
 ·exact hk
 ·exfalso
  have uk := unit_pow hk
  have e : pz m * (pz m * pz m) % pB = 2 * (pz k * (pz k * pz k)) % pB := by
   have h1 := pz_mod _ _ h
   rw [pz_mulN, pz_mulN, pz_mulN, pz_mulN, pz_mulN, Nat.mul_mod_mod, Nat.mul_mod_mod] at h1
   rw [h1, show pz 2 = 2 by decide +kernel, Nat.mul_mod 2, Nat.mul_mod_mod (pz k), ← Nat.mul_mod 2]
  have c3 : ∀ x : Nat, x * (x * x) = x ^ 3 := fun x => by rw [Nat.pow_succ, Nat.pow_two, Nat.mul_assoc]
  rw [c3, c3] at e
  have e2 : (pz m ^ 3) ^ eT % pB = (2 * (pz k ^ 3)) ^ eT % pB := by rw [Nat.pow_mod, e, ← Nat.pow_mod]
  rw [Nat.mul_pow 2, Nat.mul_mod, two_third, ← Nat.pow_mul, ← Nat.pow_mul, ← pB_three, uk] at e2
  by_cases hm : Dv m
  ·rw [pow_dv hm _ (by decide +kernel)] at e2
   revert e2
   decide +kernel
  ·rw [unit_pow hm] at e2
   revert e2
   decide +kernel
/-! Pairs. -/
abbrev Z2 := Int × Int
def cm (a b : Z2) : Z2 := (a.1 * b.1 - a.2 * b.2, a.1 * b.2 + a.2 * b.1)
def ca (a b : Z2) : Z2 := (a.1 + b.1, a.2 + b.2)
def cs (a b : Z2) : Z2 := (a.1 - b.1, a.2 - b.2)
def cn (a : Z2) : Int := a.1 * a.1 + a.2 * a.2
def xi : Z2 := (1, 1)
def O2 (a : Z2) : Prop := Dv a.1 ∧ Dv a.2
theorem O2.mul {a : Z2} (h : O2 a) (b : Z2) : O2 (cm b a) := ⟨(h.1.mul b.1).sub (h.2.mul b.2), (h.2.mul b.1).add (h.1.mul b.2)⟩
theorem O2.add {a b : Z2} (h : O2 a) (k : O2 b) : O2 (ca a b) := ⟨h.1.add k.1, h.2.add k.2⟩
theorem O2.sub {a b : Z2} (h : O2 a) (k : O2 b) : O2 (cs a b) := ⟨h.1.sub k.1, h.2.sub k.2⟩
theorem O2.of {a b : Z2} (h : O2 a) (e : a = b) : O2 b := e ▸ h
theorem O2.cn {a : Z2} (h : O2 a) : Dv (cn a) := (h.1.mul a.1).add (h.2.mul a.2)
/-! Three parts: v v v is 1 + i. -/
def d0 (x y z : Z2) : Z2 := cs (cm x x) (cm xi (cm y z))
def d1 (x y z : Z2) : Z2 := cs (cm xi (cm z z)) (cm x y)
def d2 (x y z : Z2) : Z2 := cs (cm y y) (cm x z)
end Rg
end Go.Proofs.YtahghpkjkfaieaaGreatDoor
end
section
namespace Go.Proofs.YtahghpkjkfaieaaGreatDoor
open Go.RowKit
namespace Rg
open NT
abbrev Fp := {n : Nat // n < pB}
theorem pB_pos : 0 < pB := pB_prm.pos
theorem pB_one : 1 < pB := pB_prm.1
theorem pB_four_lt : 4 < pB := by decide +kernel
def fpR : EC.Rng Fp where
 add := fun a b => ⟨(a.1 + b.1) % pB, Nat.mod_lt _ pB_pos⟩
 mul := fun a b => ⟨a.1 * b.1 % pB, Nat.mod_lt _ pB_pos⟩
 zero := ⟨0, pB_pos⟩
 one := ⟨1, pB_one⟩
 neg := fun a => ⟨(pB - a.1) % pB, Nat.mod_lt _ pB_pos⟩
 add_comm := fun a b => Subtype.ext (by dsimp only; rw [Nat.add_comm])
 add_assoc := fun a b c => Subtype.ext (by dsimp only; rw [Nat.mod_add_mod, Nat.add_mod_mod, Nat.add_assoc])
 zero_add := fun a => Subtype.ext (by dsimp only; rw [Nat.zero_add, Nat.mod_eq_of_lt a.2])
 neg_add := fun a => Subtype.ext (by
  dsimp only
  rw [Nat.mod_add_mod, Nat.sub_add_cancel (Nat.le_of_lt a.2), Nat.mod_self])
 mul_comm := fun a b => Subtype.ext (by dsimp only; rw [Nat.mul_comm])
 mul_assoc := fun a b c => Subtype.ext (by dsimp only; rw [Nat.mod_mul_mod, Nat.mul_mod_mod, Nat.mul_assoc])
 one_mul := fun a => Subtype.ext (by dsimp only; rw [Nat.one_mul, Nat.mod_eq_of_lt a.2])
 mul_add := fun a b c => Subtype.ext (by dsimp only; rw [Nat.mul_mod_mod, Nat.mul_add, Nat.add_mod])
def fpI (a : Fp) : Fp := ⟨invm pB a.1 % pB, Nat.mod_lt _ pB_pos⟩
theorem fp_gcd {a : Fp} (h : a ≠ fpR.zero) : Nat.gcd pB a.1 = 1 := by
 refine pB_prm.cop (fun hd => h ?_)
 refine Subtype.ext ?_
 show a.1 = 0
 have h2 := a.2
 rcases Nat.eq_zero_or_pos a.1 with h0 | h0
 ·exact h0
 ·have := Nat.le_of_dvd h0 hd
  omega
theorem fpI_val {a : Fp} (h : a ≠ fpR.zero) : (fpI a).1 = invm pB a.1 := Nat.mod_eq_of_lt (invm_spec pB_ok (fp_gcd h)).1
theorem fpI_mul (a : Fp) (h : a ≠ fpR.zero) : fpR.mul (fpI a) a = fpR.one := by
 refine Subtype.ext ?_
 show (fpI a).1 * a.1 % pB = 1
 rw [fpI_val h]
 exact (invm_spec pB_ok (fp_gcd h)).2
def fp4 : Fp := ⟨4, pB_four_lt⟩
theorem not_dv {k : Nat} (h0 : 0 < k) (h : k < pB) : ¬ Dv (k : Int) := fun hd => by
 have := Nat.le_of_dvd h0 ((dv_nat (k : Int)).1 hd)
 omega
theorem side_dv {t : Fp} (h : EC.side fpR fp4 t = fpR.zero) : Dv ((t.1 : Int) * ((t.1 : Int) * t.1) + 4) := by
 have e : (t.1 * (t.1 * t.1 % pB) % pB + 4) % pB = 0 := congrArg Subtype.val h
 rw [Nat.mul_mod_mod, Nat.mod_add_mod] at e
 have hd : (pB : Int) ∣ ((t.1 * (t.1 * t.1) + 4 : Nat) : Int) := Int.ofNat_dvd.2 (Nat.dvd_of_mod_eq_zero e)
 rw [Int.natCast_add, Int.natCast_mul, Int.natCast_mul] at hd
 exact hd
theorem fp_cube (t : Fp) : EC.side fpR fp4 t ≠ fpR.zero := fun h => by
 have hd := side_dv h
 have h2 : Dv (2 : Int) := two_cb (m := (t.1 : Int) * t.1) (k := 2) ((hd.mul ((t.1 : Int) * ((t.1 : Int) * t.1) - 4)).of (by grind))
 exact not_dv (k := 2) (by decide) (by decide +kernel) h2
theorem fp_two : fpR.add fpR.one fpR.one ≠ fpR.zero := fun h => by
 have e : (1 + 1) % pB = 0 := congrArg Subtype.val h
 revert e
 decide +kernel
theorem fp_one : fpR.one ≠ fpR.zero := fun h => absurd (congrArg Subtype.val h) (by decide)
/-- The first curve. -/
def Inv1 (I : Fp → Fp) : Prop := ∀ a, a ≠ fpR.zero → fpR.mul (I a) a = fpR.one
theorem inv1_ex : ∃ I, Inv1 I := ⟨fpI, fpI_mul⟩
def K1 {I : Fp → Fp} (hI : Inv1 I) : EC.Crv Fp := ⟨fpR, I, fp4, hI, fp_cube, fp_one, fp_two⟩
/-! Pairs. -/
abbrev Fq := Fp × Fp
theorem fpz (a b : Fp) : (((fpR.add a b).1 : Nat) : Int) % pB = ((a.1 : Int) + b.1) % pB := by
 show (((a.1 + b.1) % pB : Nat) : Int) % pB = _
 rw [Int.natCast_emod, Int.emod_emod, Int.natCast_add]
theorem fpm (a b : Fp) : (((fpR.mul a b).1 : Nat) : Int) % pB = ((a.1 : Int) * b.1) % pB := by
 show (((a.1 * b.1) % pB : Nat) : Int) % pB = _
 rw [Int.natCast_emod, Int.emod_emod, Int.natCast_mul]
theorem fpn (a : Fp) : (((fpR.neg a).1 : Nat) : Int) % pB = (-(a.1 : Int)) % pB := by
 show (((pB - a.1) % pB : Nat) : Int) % pB = _
 rw [Int.natCast_emod, Int.emod_emod, Int.ofNat_sub (Nat.le_of_lt a.2), Int.sub_eq_add_neg, Int.add_emod_left]
/-- A number of the field is congruent to an integer. -/
def Cg (a : Fp) (x : Int) : Prop := Dv ((a.1 : Int) - x)
theorem cg_of {a : Fp} {x : Int} (h : ((a.1 : Nat) : Int) % pB = x % pB) : Cg a x := Int.dvd_of_emod_eq_zero (Int.emod_eq_emod_iff_emod_sub_eq_zero.1 h)
theorem Cg.add {a b : Fp} {x y : Int} (h : Cg a x) (k : Cg b y) : Cg (fpR.add a b) (x + y) := by
 have e : Dv (((fpR.add a b).1 : Int) - ((a.1 : Int) + b.1)) := cg_of (fpz a b)
 have h1 : Dv ((a.1 : Int) - x) := h
 have h2 : Dv ((b.1 : Int) - y) := k
 exact Dv.of ((e.add h1).add h2) (by omega)
theorem Cg.mul {a b : Fp} {x y : Int} (h : Cg a x) (k : Cg b y) : Cg (fpR.mul a b) (x * y) := by
 show Dv (((fpR.mul a b).1 : Int) - x * y)
 have e : Dv (((fpR.mul a b).1 : Int) - ((a.1 : Int) * b.1)) := cg_of (fpm a b)
 have h1 : Dv ((a.1 : Int) - x) := h
 have h2 : Dv ((b.1 : Int) - y) := k
 have h3 := h1.mulr (b.1 : Int)
 have h4 := h2.mul x
 clear h k h1 h2
 generalize ((fpR.mul a b).1 : Int) = m at *
 generalize (a.1 : Int) = u at *
 generalize (b.1 : Int) = v at *
 exact Dv.of ((e.add h3).add h4) (by grind)
theorem Cg.neg {a : Fp} {x : Int} (h : Cg a x) : Cg (fpR.neg a) (-x) := by
 have e : Dv (((fpR.neg a).1 : Int) - -(a.1 : Int)) := cg_of (fpn a)
 have h1 : Dv ((a.1 : Int) - x) := h
 exact Dv.of (e.sub h1) (by omega)
theorem Cg.zero {a : Fp} {x : Int} (h : Cg a x) (e : a = fpR.zero) : Dv x := by
 subst e
 exact ((dv_zero).sub h).of (by show 0 - (((0 : Nat) : Int) - x) = x; omega)
end Rg
end Go.Proofs.YtahghpkjkfaieaaGreatDoor
end
section
namespace Go.Proofs.YtahghpkjkfaieaaGreatDoor
open Go.RowKit
namespace Rg
end Rg
end Go.Proofs.YtahghpkjkfaieaaGreatDoor
end
section
namespace Go.Proofs.YtahghpkjkfaieaaGreatDoor
open Go.RowKit
namespace Rg
open NT
end Rg
end Go.Proofs.YtahghpkjkfaieaaGreatDoor
end
section
namespace Go.Proofs.YtahghpkjkfaieaaGreatDoor
open Go.RowKit
namespace Rg
open NT
def p0 (a : Fp) : Nat := a.1
def q0 (a : Fq) : Nat := a.1.1
def q1 (a : Fq) : Nat := a.2.1
theorem p0_big (a : Fp) : p0 a < big := Nat.lt_trans a.2 pB_lt
theorem sub_val {I : Fp → Fp} (hI : Inv1 I) (x y : Fp) : subm pB (p0 x) (p0 y) = p0 (EC.osub (EC.rops (K1 hI).R) x y) := by
 show (x.1 + (pB - y.1 % pB)) % pB = (x.1 + (pB - y.1) % pB) % pB
 rw [Nat.mod_eq_of_lt y.2, Nat.add_mod_mod]
theorem iv_I {I : Fp → Fp} (hI : Inv1 I) {x : Fp} (hx : x ≠ fpR.zero) : invm pB (p0 x) = p0 ((K1 hI).inv x) := invm_eq (I x).2 (congrArg Subtype.val (hI x hx))
theorem va_1 {I : Fp → Fp} (hI : Inv1 I) (x y : Fp) : (p0 x + p0 y) % pB = p0 ((K1 hI).R.add x y) := rfl
theorem vm_1 {I : Fp → Fp} (hI : Inv1 I) (x y : Fp) : p0 x * p0 y % pB = p0 ((K1 hI).R.mul x y) := rfl
theorem vz_1 {I : Fp → Fp} (hI : Inv1 I) : p0 (K1 hI).R.zero = 0 := rfl
theorem fd1 {I : Fp → Fp} (hI : Inv1 I) (g : Nat) : Fd1 g p0 (K1 hI).R.add (EC.osub (EC.rops (K1 hI).R)) (K1 hI).R.mul (K1 hI).inv (K1 hI).R.zero where
 ca := fun x y w hm => by
  have h := addm_any (g := g) pB_ok (p0_big x) (p0_big y) w (hm.one 0 rfl)
  rw [va_1 hI] at h
  exact h
 cs := fun x y w hm => by
  have h := subm_any (g := g) pB_ok (p0_big x) (p0_big y) w (hm.one 0 rfl)
  rw [sub_val hI] at h
  exact h
 cm := fun x y w hm => by
  have h := mulm_any (g := g) pB_ok (p0_big x) (p0_big y) w (hm.one 0 rfl)
  rw [vm_1 hI] at h
  exact h
 cz := fun x w hm => by
  have h := subm_any (g := g) pB_ok (p0_big (K1 hI).R.zero) (p0_big x) w (hm.one 0 rfl)
  rw [sub_val hI, vz_1 hI] at h
  exact h
 ci := fun x w hx hm => by
  have h := inv_ok (g := g) pB_ok (p0_big x) (fp_gcd hx) w hm
  rw [iv_I hI hx] at h
  exact h
end Rg
end Go.Proofs.YtahghpkjkfaieaaGreatDoor
end
section
namespace Go.Proofs.YtahghpkjkfaieaaGreatDoor
open Go.RowKit
namespace Rg
open NT
abbrev GV1 (g : Nat) (tn : Value) : Value := .agg (G1 g tn 1 4).toArray
abbrev t1 (T : EC.Tri Fp) : List Nat := [p0 T.1, p0 T.2.1, p0 T.2.2]
abbrev pv1 (x y : Nat) (z : Bool) : Value := .agg (cel [x, y] ++ [Value.bool z]).toArray
theorem eqe_1 (s t : Fp) {r : Bool} (hr : decide (s = t) = r) : ∀ w, (Op.equalIn 10000 24 (N (p0 s)) (N (p0 t))).run Tryz.prog w = .ok r w := fun w => by
 have h := run_eqGD 9998 (p0 s) (p0 t) (p0_big s) (p0_big t) w
 rw [← hr, show decide (s = t) = decide (p0 s = p0 t) from decide_eq_decide.2 ⟨fun e => by rw [e], fun e => Subtype.ext e⟩]
 exact h
theorem belE_1 (a : Nat) (ha : a < big) (w : World) : Calls Tryz.prog 127 #[N a] w (Rt w (.bool (decide (a < pB)))) :=
 belowG_gen a pB (cmpv a pB) base_pB (fun w => compare_any a pB ha pB_lt w) (decide (a < pB)) (by
  by_cases h : a < pB
  ·rw [cmp_lt h, decide_eq_true h]
   rfl
  ·rw [decide_eq_false h]
   exact decide_eq_false (cmp_ge h)) w
/-- What the numbers say: a point of the first curve, or none. -/
def rd1 (x y : Nat) (z : Bool) : Option (Option (Fp × Fp)) :=
 if z = true then (if x = 0 ∧ y = 0 then some none else none)
 else if h : x < pB ∧ y < pB then (if EC.side fpR fp4 ⟨x, h.1⟩ = fpR.mul ⟨y, h.2⟩ ⟨y, h.2⟩ then some (some (⟨x, h.1⟩, ⟨y, h.2⟩)) else none) else none
theorem checkE_1 {I : Fp → Fp} (hI : Inv1 I) {g : Nat} {tn : Value} (x y : Nat) (z : Bool) (hx : x < big) (hy : y < big) (w : World) (hm : Mm w [(g, modc pB), (0, dtab)]) : Calls Tryz.prog 129 #[(GV1 g tn), pv1 x y z] w (Rt w (.bool (rd1 x y z).isSome)) := by
 cases z with
 | true =>
  have e : (rd1 x y true).isSome = decide (x = 0 ∧ y = 0) := by
   unfold rd1
   rw [if_pos rfl]
   by_cases h : x = 0 ∧ y = 0
   ·rw [if_pos h, decide_eq_true h]; rfl
   ·rw [if_neg h, decide_eq_false h]; rfl
  refine checkZ_1 (u := (K1 hI).R.one) (b := (K1 hI).b) (tn := tn) (fd1 hI g) x y _ (fun w => ?_) w hm
  have h := run_eqPN x y 0 0 true true hx hy big_pos big_pos w
  rw [e]
  refine h.trans (congrArg (fun q => Result.ok q w) ?_)
  rw [Bool.eq_iff_iff]
  simp
 | false =>
  by_cases hX : x < pB
  ·have bx := fun w (_ : Mm w [(g, modc pB), (0, dtab)]) => belE_1 x hx w
   rw [decide_eq_true hX] at bx
   by_cases hY : y < pB
   ·have by_ := fun w (_ : Mm w [(g, modc pB), (0, dtab)]) => belE_1 y hy w
    rw [decide_eq_true hY] at by_
    have e : (rd1 x y false).isSome = decide (fpR.mul (⟨y, hY⟩ : Fp) (⟨y, hY⟩ : Fp) = EC.side fpR fp4 (⟨x, hX⟩ : Fp)) := by
     unfold rd1
     rw [if_neg (by decide), dif_pos ⟨hX, hY⟩]
     by_cases h : fpR.mul (⟨y, hY⟩ : Fp) (⟨y, hY⟩ : Fp) = EC.side fpR fp4 (⟨x, hX⟩ : Fp)
     ·rw [if_pos h.symm, decide_eq_true h]; rfl
     ·rw [if_neg (fun q => h q.symm), decide_eq_false h]; rfl
    rw [e]
    exact checkB_1 (u := (K1 hI).R.one) (b := (K1 hI).b) (tn := tn) (fd1 hI g) (⟨x, hX⟩ : Fp) (⟨y, hY⟩ : Fp) _ bx by_ (eqe_1 _ _ rfl) w hm
   ·have by_ := fun w (_ : Mm w [(g, modc pB), (0, dtab)]) => belE_1 y hy w
    rw [decide_eq_false hY] at by_
    have e : (rd1 x y false).isSome = false := by
     unfold rd1
     rw [if_neg (by decide), dif_neg (fun q => hY q.2)]; rfl
    rw [e]
    exact checkY_1 (u := (K1 hI).R.one) (b := (K1 hI).b) (tn := tn) (fd1 hI g) x y bx by_ w hm
  ·have bx := fun w (_ : Mm w [(g, modc pB), (0, dtab)]) => belE_1 x hx w
   rw [decide_eq_false hX] at bx
   have e : (rd1 x y false).isSome = false := by
    unfold rd1
    rw [if_neg (by decide), dif_neg (fun q => hX q.1)]; rfl
   rw [e]
   exact checkX_1 (u := (K1 hI).R.one) (b := (K1 hI).b) (tn := tn) (fd1 hI g) x y bx w hm
end Rg
end Go.Proofs.YtahghpkjkfaieaaGreatDoor
end
section
namespace Go.Proofs.YtahghpkjkfaieaaGreatDoor
open Go.RowKit
namespace Rg
def t3p : Fp := ⟨tr, by decide +kernel⟩
theorem first3E (w : World) : Calls Tryz.prog 90 #[] w fun e w' => Below w.heap.size w w' ∧ ∃ g x y, e = .returned (.agg (G1 g (.func (.func 128) #[] #[PT x 0, PT y 0]) 1 4).toArray) ∧ (∀ q ∈ [(g, modc pB), (x, [PT g 0]), (y, zE tr)], w.heap.size ≤ q.1) ∧ Mm w' [(g, modc pB), (x, [PT g 0]), (y, zE tr)] := first3_gen pB 1 4 tr numb_tr (fun w => of_any 1 (by decide) w) (fun w => of_any 4 (by decide) w) base_pB (fun w => new_ok pB_ok w) w
end Rg
end Go.Proofs.YtahghpkjkfaieaaGreatDoor
end
