/- Texts of the proof, joined. -/
import Derived.Test.YtahghpkjkfaieaaGreatDoorP3
import Derived.Deep.RegionHeld3
import Derived.Deep.DeepCutAuto
set_option maxRecDepth 100000
section
namespace Go.Proofs.YtahghpkjkfaieaaGreatDoor
open Go.RowKit
namespace Rg
namespace Wi
theorem call45 : CO 45 := by intro args w; go_simp
set_option maxRecDepth 100000
theorem ex_mkB {ρ : Operand → Value} {o : Oper} {x y : Operand} {w : World} (ho : o.op = .makeSlice 51 x y) (hx : ρ x = .int .i64 0) (hy : ρ y = .int .i64 13) : (execOp ρ o).run Tryz.prog w = .ok (.value (.slice (some ⟨w.heap.size, 0, none⟩) 0 13)) (w.alloc (.cells (madeCells #[.int .u8 0] 13) 5)) := by
 simp only [execOp, ho, hx, hy]
 kernel_rfl
set_option maxHeartbeats 4000000 in
theorem Fields_b (gl g7 : Nat) (w : World) (hm : Mm w [(gl, [Value.slice (some ⟨g7, 0, none⟩) 1 1, Value.slice none 0 0]), (g7, [Z8 7])]) :
  Calls Tryz.prog 18 #[.slice (some ⟨gl, 0, none⟩) 2 2] w fun e w' => Below w.heap.size w w' ∧ ∃ g x, e = .returned (.tuple #[.slice (some ⟨g, 0, none⟩) 13 (13 + x), .int .i64 0]) ∧ w.heap.size ≤ g ∧ g < w'.heap.size ∧ Blk w' g (zH .u8 (lb [0, 0, 0, 2, 0, 0, 0, 1, 7, 0, 0, 0, 0]) 13) := by
 have H0 : Hid (_ ∧ _) := ⟨hm, Below.refl w.heap.size w⟩
 clear hm
 go_enter Tryz.func18, Tryz.ntmps18
 refine wp_seq ?_
 refine zN (l := [0, 1]) rfl (fun u0 hu0 => ?_)
 have H1 : Hid (Mm u0 [(gl, [Value.slice (some ⟨g7, 0, none⟩) 1 1, Value.slice none 0 0]), (g7, [Z8 7])] ∧ Below w.heap.size w u0) := by rw [hu0]; exact H0
 clear hu0 H0
 refine zA (d := 2) (v := .slice none 0 0) (w' := u0) rfl rfl rfl (rfl) ?_
 simp only [Act.put, sa, sz, ss]
 refine zA (d := 3) (v := .int .i64 0) (w' := u0) rfl rfl rfl (rfl) ?_
 simp only [Act.put, sa, sz, ss]
 refine zC (zB ?_)
 refine wp_seq (wp_seq ?_)
 refine zD (l := [0, 1, 2]) rfl ?_
 refine zA (d := 10) (v := .slice (some ⟨gl, 0, none⟩) 2 2) (w' := u0) rfl rfl rfl (rfl) ?_
 simp only [Act.put, sa, sz, ss]
 refine zA (d := 11) (v := .int .i64 2) (w' := u0) rfl rfl rfl (by go_simp) ?_
 simp only [Act.put, sa, sz, ss]
 refine zA (d := 12) (v := .bool false) (w' := u0) rfl rfl rfl (by kernel_rfl) ?_
 simp only [Act.put, sa, sz, ss]
 refine zC (zB ?_)
 refine wp_cond_false rfl (wp_skip ?_)
 refine zB (wp_seq ?_)
 refine zD (l := [0]) rfl ?_
 refine zA (d := 4) (v := .int .i64 4) (w' := u0) rfl rfl rfl (rfl) ?_
 simp only [Act.put, sa, sz, ss]
 refine zC (zB ?_)
 refine wp_seq (wp_seq ?_)
 refine zD (l := [0, 1, 2]) rfl ?_
 refine zA (d := 13) (v := .slice (some ⟨gl, 0, none⟩) 2 2) (w' := u0) rfl rfl rfl (rfl) ?_
 simp only [Act.put, sa, sz, ss]
 refine zA (d := 14) (v := .int .i64 2) (w' := u0) rfl rfl rfl (by go_simp) ?_
 simp only [Act.put, sa, sz, ss]
 refine zA (d := 15) (v := .int .i64 0) (w' := u0) rfl rfl rfl (rfl) ?_
 simp only [Act.put, sa, sz, ss]
 refine zC (zB (wp_block ?_))
 refine wp_loop_rounds 3 ?_
 refine zU (n := 2) ?_
 refine wp_seq ?_
 refine zD (l := [0]) rfl ?_
 refine zA (d := 16) (v := .bool true) (w' := u0) rfl rfl rfl (by kernel_rfl) ?_
 simp only [Act.put, sa, sz, ss]
 refine zC (zB ?_)
 refine wp_seq (wp_cond_true rfl ?_)
 refine wp_skip (zB ?_)
 refine wp_seq (wp_block (wp_seq ?_))
 refine zD (l := [0, 1, 2]) rfl ?_
 refine zA (d := 17) (v := PT gl 0) (w' := u0) rfl rfl rfl (by go_simp) ?_
 simp only [Act.put, sa, sz, ss]
 refine zA (d := 18) (v := .slice (some ⟨g7, 0, none⟩) 1 1) (w' := u0) rfl rfl rfl (zJ H1.out.1 0 rfl rfl rfl Ai51 rfl) ?_
 simp only [Act.put, sa, sz, ss]
 refine zA (d := 6) (v := .slice (some ⟨g7, 0, none⟩) 1 1) (w' := u0) rfl rfl rfl (rfl) ?_
 simp only [Act.put, sa, sz, ss]
 refine zC (zB ?_)
 refine zD (l := [0, 1, 2, 3, 4, 5]) rfl ?_
 refine zA (d := 19) (v := .int .i64 4) (w' := u0) rfl rfl rfl (rfl) ?_
 simp only [Act.put, sa, sz, ss]
 refine zA (d := 20) (v := .slice (some ⟨g7, 0, none⟩) 1 1) (w' := u0) rfl rfl rfl (rfl) ?_
 simp only [Act.put, sa, sz, ss]
 refine zA (d := 21) (v := .int .i64 1) (w' := u0) rfl rfl rfl (by go_simp) ?_
 simp only [Act.put, sa, sz, ss]
 refine zA (d := 22) (v := .int .i64 5) (w' := u0) rfl rfl rfl (by kernel_rfl) ?_
 simp only [Act.put, sa, sz, ss]
 refine zA (d := 23) (v := .int .i64 9) (w' := u0) rfl rfl rfl (by kernel_rfl) ?_
 simp only [Act.put, sa, sz, ss]
 refine zA (d := 4) (v := .int .i64 9) (w' := u0) rfl rfl rfl (rfl) ?_
 simp only [Act.put, sa, sz, ss]
 refine zC (zS (zB ?_))
 refine zD (l := [0, 1]) rfl ?_
 refine zA (d := 24) (v := .int .i64 1) (w' := u0) rfl rfl rfl (by kernel_rfl) ?_
 simp only [Act.put, sa, sz, ss]
 refine zA (d := 15) (v := .int .i64 1) (w' := u0) rfl rfl rfl (rfl) ?_
 simp only [Act.put, sa, sz, ss]
 refine zC (zB ?_)
 refine zU (n := 1) ?_
 refine wp_seq ?_
 refine zD (l := [0]) rfl ?_
 refine zA (d := 16) (v := .bool true) (w' := u0) rfl rfl rfl (by kernel_rfl) ?_
 simp only [Act.put, sa, sz, ss]
 refine zC (zB ?_)
 refine wp_seq (wp_cond_true rfl ?_)
 refine wp_skip (zB ?_)
 refine wp_seq (wp_block (wp_seq ?_))
 refine zD (l := [0, 1, 2]) rfl ?_
 refine zA (d := 17) (v := PT gl 1) (w' := u0) rfl rfl rfl (by go_simp) ?_
 simp only [Act.put, sa, sz, ss]
 refine zA (d := 18) (v := .slice none 0 0) (w' := u0) rfl rfl rfl (zJ H1.out.1 0 rfl rfl rfl Ai51 rfl) ?_
 simp only [Act.put, sa, sz, ss]
 refine zA (d := 6) (v := .slice none 0 0) (w' := u0) rfl rfl rfl (rfl) ?_
 simp only [Act.put, sa, sz, ss]
 refine zC (zB ?_)
 refine zD (l := [0, 1, 2, 3, 4, 5]) rfl ?_
 refine zA (d := 19) (v := .int .i64 9) (w' := u0) rfl rfl rfl (rfl) ?_
 simp only [Act.put, sa, sz, ss]
 refine zA (d := 20) (v := .slice none 0 0) (w' := u0) rfl rfl rfl (rfl) ?_
 simp only [Act.put, sa, sz, ss]
 refine zA (d := 21) (v := .int .i64 0) (w' := u0) rfl rfl rfl (by go_simp) ?_
 simp only [Act.put, sa, sz, ss]
 refine zA (d := 22) (v := .int .i64 4) (w' := u0) rfl rfl rfl (by kernel_rfl) ?_
 simp only [Act.put, sa, sz, ss]
 refine zA (d := 23) (v := .int .i64 13) (w' := u0) rfl rfl rfl (by kernel_rfl) ?_
 simp only [Act.put, sa, sz, ss]
 refine zA (d := 4) (v := .int .i64 13) (w' := u0) rfl rfl rfl (rfl) ?_
 simp only [Act.put, sa, sz, ss]
 refine zC (zS (zB ?_))
 refine zD (l := [0, 1]) rfl ?_
 refine zA (d := 24) (v := .int .i64 2) (w' := u0) rfl rfl rfl (by kernel_rfl) ?_
 simp only [Act.put, sa, sz, ss]
 refine zA (d := 15) (v := .int .i64 2) (w' := u0) rfl rfl rfl (rfl) ?_
 simp only [Act.put, sa, sz, ss]
 refine zC (zB ?_)
 refine zU (n := 0) ?_
 refine wp_seq ?_
 refine zD (l := [0]) rfl ?_
 refine zA (d := 16) (v := .bool false) (w' := u0) rfl rfl rfl (by kernel_rfl) ?_
 simp only [Act.put, sa, sz, ss]
 refine zC (zB ?_)
 refine wp_seq (wp_cond_false rfl ?_)
 refine wp_exit ?_
 repeat refine zX ?_
 refine zT ?_
 refine zB (wp_seq (wp_seq ?_))
 refine zD (l := [0, 1]) rfl ?_
 refine zA (d := 25) (v := .int .i64 13) (w' := u0) rfl rfl rfl (rfl) ?_
 simp only [Act.put, sa, sz, ss]
 refine zA (d := 26) (v := .bool false) (w' := u0) rfl rfl rfl (by kernel_rfl) ?_
 simp only [Act.put, sa, sz, ss]
 refine zC (zB ?_)
 refine wp_cond_false rfl (wp_skip ?_)
 refine zB (wp_seq ?_)
 refine zD (l := [0, 1, 2, 3, 4]) rfl ?_
 refine zA (d := 27) (v := .int .i64 13) (w' := u0) rfl rfl rfl (rfl) ?_
 simp only [Act.put, sa, sz, ss]
 refine zA (d := 28) (v := .slice (some ⟨u0.heap.size, 0, none⟩) 0 13) (w' := (u0.alloc (.cells (madeCells #[.int .u8 0] 13) 5))) rfl rfl rfl (ex_mkB rfl rfl rfl) ?_
 simp only [Act.put, sa, sz, ss]
 have H2 : Hid (Mm (u0.alloc (.cells (madeCells #[.int .u8 0] 13) 5)) [(gl, [Value.slice (some ⟨g7, 0, none⟩) 1 1, Value.slice none 0 0]), (g7, [Z8 7])] ∧ Ow w [gl, g7] (.slice (some ⟨u0.heap.size, 0, none⟩) 0 13) 0 (lb []) (u0.alloc (.cells (madeCells #[.int .u8 0] 13) 5))) := ⟨H1.out.1.below ((Below.refl _ _).alloc (Nat.le_refl _) _), Ow.made H1.out.2 H1.out.1 _ 13 (by decide) _ (by simp [madeCells])⟩
 clear H1
 generalize hgw : u0.alloc (.cells (madeCells #[.int .u8 0] 13) 5) = w2 at H2 ⊢
 clear hgw
 generalize u0.heap.size = Jm at H2 ⊢
 refine zA (d := 29) (v := .agg ([Value.slice (some ⟨Jm, 0, none⟩) 0 13]).toArray) (w' := w2) rfl rfl rfl (by kernel_rfl) ?_
 simp only [Act.put, sa, sz, ss]
 refine zA (d := 7) (v := PT w2.heap.size 0) (w' := (w2.alloc (.cells ([Value.slice none 0 0] : List Value).toArray 96))) rfl rfl rfl (ex_mk96 rfl) ?_
 simp only [Act.put, sa, sz, ss]
 have o_Js3 : Hid (w.heap.size ≤ w2.heap.size) := H2.out.2.size
 have H3 : Hid (Mm (w2.alloc (.cells ([Value.slice none 0 0] : List Value).toArray 96)) ((w2.heap.size, [Value.slice none 0 0]) :: [(gl, [Value.slice (some ⟨g7, 0, none⟩) 1 1, Value.slice none 0 0]), (g7, [Z8 7])]) ∧ Ow w [w2.heap.size, gl, g7] (.slice (some ⟨Jm, 0, none⟩) 0 13) 0 (lb []) (w2.alloc (.cells ([Value.slice none 0 0] : List Value).toArray 96))) := ⟨H2.out.1.alloc _ 96 rfl, Ow.alloc H2.out.2 _⟩
 clear H2
 generalize hgw : w2.alloc (.cells ([Value.slice none 0 0] : List Value).toArray 96) = w3 at H3 ⊢
 clear hgw
 generalize w2.heap.size = Js3 at o_Js3 H3 ⊢
 refine rest_store rfl rfl rfl (ex_storeT (vs := [Value.slice (some ⟨Jm, 0, none⟩) 0 13]) H3.out.1 0 rfl rfl rfl rfl Tryz.sizeOf96 rfl (Nat.le_of_ble_eq_true rfl)) ?_
 have H4 : Hid (Mm (w3.setCells Js3 0 [Value.slice (some ⟨Jm, 0, none⟩) 0 13]) [(Js3, [Value.slice (some ⟨Jm, 0, none⟩) 0 13]), (gl, [Value.slice (some ⟨g7, 0, none⟩) 1 1, Value.slice none 0 0]), (g7, [Z8 7])] ∧ Ow w [Js3, gl, g7] (.slice (some ⟨Jm, 0, none⟩) 0 13) 0 (lb []) (w3.setCells Js3 0 [Value.slice (some ⟨Jm, 0, none⟩) 0 13])) := ⟨H3.out.1.put 0 (off := 0) (vs := [Value.slice (some ⟨Jm, 0, none⟩) 0 13]) rfl (Nat.le_of_ble_eq_true rfl), H3.out.2.put (by simp) o_Js3.out⟩
 clear H3
 generalize hgw : World.setCells _ _ _ _ = w4 at H4 ⊢
 clear hgw
 refine zC (zB (wp_seq ?_))
 refine zD (l := [0, 1, 2, 3]) rfl ?_
 refine zA (d := 30) (v := .slice (some ⟨gl, 0, none⟩) 2 2) (w' := w4) rfl rfl rfl (rfl) ?_
 simp only [Act.put, sa, sz, ss]
 refine zA (d := 31) (v := .int .i64 2) (w' := w4) rfl rfl rfl (by go_simp) ?_
 simp only [Act.put, sa, sz, ss]
 refine zA (d := 32) (v := .slice (some ⟨w4.heap.size, 0, none⟩) 1 1) (w' := (w4.alloc (.cells (zH .i64 (lb [2]) 1 : List Value).toArray 3))) rfl rfl rfl (ex_bsI1 (a := 2) rfl rfl) ?_
 simp only [Act.put, sa, sz, ss]
 have o_Js5 : Hid (w.heap.size ≤ w4.heap.size) := H4.out.2.size
 have H5 : Hid (Mm (w4.alloc (.cells (zH .i64 (lb [2]) 1 : List Value).toArray 3)) ((w4.heap.size, zH .i64 (lb [2]) 1) :: [(Js3, [Value.slice (some ⟨Jm, 0, none⟩) 0 13]), (gl, [Value.slice (some ⟨g7, 0, none⟩) 1 1, Value.slice none 0 0]), (g7, [Z8 7])]) ∧ Ow w [w4.heap.size, Js3, gl, g7] (.slice (some ⟨Jm, 0, none⟩) 0 13) 0 (lb []) (w4.alloc (.cells (zH .i64 (lb [2]) 1 : List Value).toArray 3))) := ⟨H4.out.1.alloc _ 3 rfl, Ow.alloc H4.out.2 _⟩
 clear H4
 generalize hgw : w4.alloc (.cells (zH .i64 (lb [2]) 1 : List Value).toArray 3) = w5 at H5 ⊢
 clear hgw
 generalize w4.heap.size = Js5 at o_Js5 H5 ⊢
 refine zF (d := 33) (R := fun vv w' => vv = .tuple #[] ∧ ∃ vv', Ow w [Js3, Js5, gl, g7] vv' 4 (ct (pbf (lb []) 0 (lb [2]) 4) (0 + 4 * 1) (fun _ => 0)) w' ∧ Mm w' [(Js3, [vv']), (Js5, zH .i64 (lb [2]) 1), (gl, [Value.slice (some ⟨g7, 0, none⟩) 1 1, Value.slice none 0 0]), (g7, [Z8 7])]) rfl rfl rfl (zG (args := #[PT Js3 0, .int .i64 4, .slice none 0 0, .slice (some ⟨Js5, 0, none⟩) 1 1]) rfl call43 rfl (mpn rfl)) (Calls.mono (put_any w Js3 Js5 [(gl, [Value.slice (some ⟨g7, 0, none⟩) 1 1, Value.slice none 0 0]), (g7, [Z8 7])] (.slice (some ⟨Jm, 0, none⟩) 0 13) 0 (lb []) Pt8.no Pt8.no_ok (fun _ => rfl) (fun u _ => Pt8.no_rs u) (lb [2]) 1 4 (by decide) (by decide) (by decide) (show 0 + 4 * 1 + 0 ≤ 2097152 from by decide) o_Js3.out w5 (H5.out.1.sel [1, 0, 2, 3] (by decide) rfl) (H5.out.2.sub (L' := [Js3, Js5, gl, g7]) (by simp))) (fun e w2 hh => ⟨_, hh.1, rfl, hh.2⟩)) ?_
 rintro _ w6 ⟨rfl, v6, hO, hM⟩
 have H6 : Hid (Mm w6 [(Js3, [v6]), (gl, [Value.slice (some ⟨g7, 0, none⟩) 1 1, Value.slice none 0 0]), (g7, [Z8 7])] ∧ Ow w [Js3, gl, g7] v6 4 (lb [0, 0, 0, 2]) w6) := ⟨hM.sel [0, 2, 3] (by decide) rfl, (hO.sub (L' := [Js3, gl, g7]) (by simp)).cg (show ∀ j, j < 4 → (ct (pbf (lb []) 0 (lb [2]) 4) (0 + 4 * 1) (fun _ => 0)) j = (lb [0, 0, 0, 2]) j from by decide)⟩
 clear hO hM H5
 simp only [Act.put, sa, sz, ss]
 refine zC (zB ?_)
 refine wp_seq (wp_seq ?_)
 refine zD (l := [0, 1, 2]) rfl ?_
 refine zA (d := 34) (v := .slice (some ⟨gl, 0, none⟩) 2 2) (w' := w6) rfl rfl rfl (rfl) ?_
 simp only [Act.put, sa, sz, ss]
 refine zA (d := 35) (v := .int .i64 2) (w' := w6) rfl rfl rfl (by go_simp) ?_
 simp only [Act.put, sa, sz, ss]
 refine zA (d := 36) (v := .int .i64 0) (w' := w6) rfl rfl rfl (rfl) ?_
 simp only [Act.put, sa, sz, ss]
 refine zC (zB (wp_block ?_))
 refine wp_loop_rounds 3 ?_
 refine zU (n := 2) ?_
 refine wp_seq ?_
 refine zD (l := [0]) rfl ?_
 refine zA (d := 37) (v := .bool true) (w' := w6) rfl rfl rfl (by kernel_rfl) ?_
 simp only [Act.put, sa, sz, ss]
 refine zC (zB ?_)
 refine wp_seq (wp_cond_true rfl ?_)
 refine wp_skip (zB ?_)
 refine wp_seq (wp_block (wp_seq ?_))
 refine zD (l := [0, 1, 2]) rfl ?_
 refine zA (d := 38) (v := PT gl 0) (w' := w6) rfl rfl rfl (by go_simp) ?_
 simp only [Act.put, sa, sz, ss]
 refine zA (d := 39) (v := .slice (some ⟨g7, 0, none⟩) 1 1) (w' := w6) rfl rfl rfl (zJ H6.out.1 1 rfl rfl rfl Ai51 rfl) ?_
 simp only [Act.put, sa, sz, ss]
 refine zA (d := 9) (v := .slice (some ⟨g7, 0, none⟩) 1 1) (w' := w6) rfl rfl rfl (rfl) ?_
 simp only [Act.put, sa, sz, ss]
 refine zC (zB ?_)
 refine zD (l := [0, 1, 2, 3, 4]) rfl ?_
 refine zA (d := 40) (v := .slice (some ⟨g7, 0, none⟩) 1 1) (w' := w6) rfl rfl rfl (rfl) ?_
 simp only [Act.put, sa, sz, ss]
 refine zA (d := 41) (v := .slice (some ⟨g7, 0, none⟩) 1 1) (w' := w6) rfl rfl rfl (rfl) ?_
 simp only [Act.put, sa, sz, ss]
 refine zA (d := 42) (v := .int .i64 1) (w' := w6) rfl rfl rfl (by go_simp) ?_
 simp only [Act.put, sa, sz, ss]
 refine zA (d := 43) (v := .slice (some ⟨w6.heap.size, 0, none⟩) 1 1) (w' := (w6.alloc (.cells (zH .i64 (lb [1]) 1 : List Value).toArray 3))) rfl rfl rfl (ex_bsI1 (a := 1) rfl rfl) ?_
 simp only [Act.put, sa, sz, ss]
 have o_Js7 : Hid (w.heap.size ≤ w6.heap.size) := H6.out.2.size
 have H7 : Hid (Mm (w6.alloc (.cells (zH .i64 (lb [1]) 1 : List Value).toArray 3)) ((w6.heap.size, zH .i64 (lb [1]) 1) :: [(Js3, [v6]), (gl, [Value.slice (some ⟨g7, 0, none⟩) 1 1, Value.slice none 0 0]), (g7, [Z8 7])]) ∧ Ow w [w6.heap.size, Js3, gl, g7] v6 4 (lb [0, 0, 0, 2]) (w6.alloc (.cells (zH .i64 (lb [1]) 1 : List Value).toArray 3))) := ⟨H6.out.1.alloc _ 3 rfl, Ow.alloc H6.out.2 _⟩
 clear H6
 generalize hgw : w6.alloc (.cells (zH .i64 (lb [1]) 1 : List Value).toArray 3) = w7 at H7 ⊢
 clear hgw
 generalize w6.heap.size = Js7 at o_Js7 H7 ⊢
 refine zF (d := 44) (R := fun vv w' => vv = .tuple #[] ∧ ∃ vv', Ow w [Js3, Js7, gl, g7] vv' 9 (ct (pbf (lb [0, 0, 0, 2]) 4 (lb [1]) 4) (4 + 4 * 1) (lb [7])) w' ∧ Mm w' [(Js3, [vv']), (Js7, zH .i64 (lb [1]) 1), (gl, [Value.slice (some ⟨g7, 0, none⟩) 1 1, Value.slice none 0 0]), (g7, [Z8 7])]) rfl rfl rfl (zG (args := #[PT Js3 0, .int .i64 4, .slice (some ⟨g7, 0, none⟩) 1 1, .slice (some ⟨Js7, 0, none⟩) 1 1]) rfl call43 rfl (mpn rfl)) (Calls.mono (put_any w Js3 Js7 [(gl, [Value.slice (some ⟨g7, 0, none⟩) 1 1, Value.slice none 0 0]), (g7, [Z8 7])] v6 4 (lb [0, 0, 0, 2]) (Pt8.at g7 1 1 (lb [7])) (Pt8.at_ok _ _ _ _ (Nat.le_refl _)) (fun e => by cases e) (fun u hu => Pt8.at_rs hu 1 rfl (fun i hi => by obtain rfl : i = 0 := (by omega); rfl)) (lb [1]) 1 4 (by decide) (by decide) (by decide) (show 4 + 4 * 1 + 1 ≤ 2097152 from by decide) o_Js3.out w7 (H7.out.1.sel [1, 0, 2, 3] (by decide) rfl) (H7.out.2.sub (L' := [Js3, Js7, gl, g7]) (by simp))) (fun e w2 hh => ⟨_, hh.1, rfl, hh.2⟩)) ?_
 rintro _ w8 ⟨rfl, v8, hO, hM⟩
 have H8 : Hid (Mm w8 [(Js3, [v8]), (gl, [Value.slice (some ⟨g7, 0, none⟩) 1 1, Value.slice none 0 0]), (g7, [Z8 7])] ∧ Ow w [Js3, gl, g7] v8 9 (lb [0, 0, 0, 2, 0, 0, 0, 1, 7]) w8) := ⟨hM.sel [0, 2, 3] (by decide) rfl, (hO.sub (L' := [Js3, gl, g7]) (by simp)).cg (show ∀ j, j < 9 → (ct (pbf (lb [0, 0, 0, 2]) 4 (lb [1]) 4) (4 + 4 * 1) (lb [7])) j = (lb [0, 0, 0, 2, 0, 0, 0, 1, 7]) j from by decide)⟩
 clear hO hM H7
 simp only [Act.put, sa, sz, ss]
 refine zC (zS (zB ?_))
 refine zD (l := [0, 1]) rfl ?_
 refine zA (d := 45) (v := .int .i64 1) (w' := w8) rfl rfl rfl (by kernel_rfl) ?_
 simp only [Act.put, sa, sz, ss]
 refine zA (d := 36) (v := .int .i64 1) (w' := w8) rfl rfl rfl (rfl) ?_
 simp only [Act.put, sa, sz, ss]
 refine zC (zB ?_)
 refine zU (n := 1) ?_
 refine wp_seq ?_
 refine zD (l := [0]) rfl ?_
 refine zA (d := 37) (v := .bool true) (w' := w8) rfl rfl rfl (by kernel_rfl) ?_
 simp only [Act.put, sa, sz, ss]
 refine zC (zB ?_)
 refine wp_seq (wp_cond_true rfl ?_)
 refine wp_skip (zB ?_)
 refine wp_seq (wp_block (wp_seq ?_))
 refine zD (l := [0, 1, 2]) rfl ?_
 refine zA (d := 38) (v := PT gl 1) (w' := w8) rfl rfl rfl (by go_simp) ?_
 simp only [Act.put, sa, sz, ss]
 refine zA (d := 39) (v := .slice none 0 0) (w' := w8) rfl rfl rfl (zJ H8.out.1 1 rfl rfl rfl Ai51 rfl) ?_
 simp only [Act.put, sa, sz, ss]
 refine zA (d := 9) (v := .slice none 0 0) (w' := w8) rfl rfl rfl (rfl) ?_
 simp only [Act.put, sa, sz, ss]
 refine zC (zB ?_)
 refine zD (l := [0, 1, 2, 3, 4]) rfl ?_
 refine zA (d := 40) (v := .slice none 0 0) (w' := w8) rfl rfl rfl (rfl) ?_
 simp only [Act.put, sa, sz, ss]
 refine zA (d := 41) (v := .slice none 0 0) (w' := w8) rfl rfl rfl (rfl) ?_
 simp only [Act.put, sa, sz, ss]
 refine zA (d := 42) (v := .int .i64 0) (w' := w8) rfl rfl rfl (by go_simp) ?_
 simp only [Act.put, sa, sz, ss]
 refine zA (d := 43) (v := .slice (some ⟨w8.heap.size, 0, none⟩) 1 1) (w' := (w8.alloc (.cells (zH .i64 (lb [0]) 1 : List Value).toArray 3))) rfl rfl rfl (ex_bsI1 (a := 0) rfl rfl) ?_
 simp only [Act.put, sa, sz, ss]
 have o_Js9 : Hid (w.heap.size ≤ w8.heap.size) := H8.out.2.size
 have H9 : Hid (Mm (w8.alloc (.cells (zH .i64 (lb [0]) 1 : List Value).toArray 3)) ((w8.heap.size, zH .i64 (lb [0]) 1) :: [(Js3, [v8]), (gl, [Value.slice (some ⟨g7, 0, none⟩) 1 1, Value.slice none 0 0]), (g7, [Z8 7])]) ∧ Ow w [w8.heap.size, Js3, gl, g7] v8 9 (lb [0, 0, 0, 2, 0, 0, 0, 1, 7]) (w8.alloc (.cells (zH .i64 (lb [0]) 1 : List Value).toArray 3))) := ⟨H8.out.1.alloc _ 3 rfl, Ow.alloc H8.out.2 _⟩
 clear H8
 generalize hgw : w8.alloc (.cells (zH .i64 (lb [0]) 1 : List Value).toArray 3) = w9 at H9 ⊢
 clear hgw
 generalize w8.heap.size = Js9 at o_Js9 H9 ⊢
 refine zF (d := 44) (R := fun vv w' => vv = .tuple #[] ∧ ∃ vv', Ow w [Js3, Js9, gl, g7] vv' 13 (ct (pbf (lb [0, 0, 0, 2, 0, 0, 0, 1, 7]) 9 (lb [0]) 4) (9 + 4 * 1) (fun _ => 0)) w' ∧ Mm w' [(Js3, [vv']), (Js9, zH .i64 (lb [0]) 1), (gl, [Value.slice (some ⟨g7, 0, none⟩) 1 1, Value.slice none 0 0]), (g7, [Z8 7])]) rfl rfl rfl (zG (args := #[PT Js3 0, .int .i64 4, .slice none 0 0, .slice (some ⟨Js9, 0, none⟩) 1 1]) rfl call43 rfl (mpn rfl)) (Calls.mono (put_any w Js3 Js9 [(gl, [Value.slice (some ⟨g7, 0, none⟩) 1 1, Value.slice none 0 0]), (g7, [Z8 7])] v8 9 (lb [0, 0, 0, 2, 0, 0, 0, 1, 7]) Pt8.no Pt8.no_ok (fun _ => rfl) (fun u _ => Pt8.no_rs u) (lb [0]) 1 4 (by decide) (by decide) (by decide) (show 9 + 4 * 1 + 0 ≤ 2097152 from by decide) o_Js3.out w9 (H9.out.1.sel [1, 0, 2, 3] (by decide) rfl) (H9.out.2.sub (L' := [Js3, Js9, gl, g7]) (by simp))) (fun e w2 hh => ⟨_, hh.1, rfl, hh.2⟩)) ?_
 rintro _ w10 ⟨rfl, v10, hO, hM⟩
 have H10 : Hid (Mm w10 [(Js3, [v10]), (gl, [Value.slice (some ⟨g7, 0, none⟩) 1 1, Value.slice none 0 0]), (g7, [Z8 7])] ∧ Ow w [Js3, gl, g7] v10 13 (lb [0, 0, 0, 2, 0, 0, 0, 1, 7, 0, 0, 0, 0]) w10) := ⟨hM.sel [0, 2, 3] (by decide) rfl, (hO.sub (L' := [Js3, gl, g7]) (by simp)).cg (show ∀ j, j < 13 → (ct (pbf (lb [0, 0, 0, 2, 0, 0, 0, 1, 7]) 9 (lb [0]) 4) (9 + 4 * 1) (fun _ => 0)) j = (lb [0, 0, 0, 2, 0, 0, 0, 1, 7, 0, 0, 0, 0]) j from by decide)⟩
 clear hO hM H9
 simp only [Act.put, sa, sz, ss]
 refine zC (zS (zB ?_))
 refine zD (l := [0, 1]) rfl ?_
 refine zA (d := 45) (v := .int .i64 2) (w' := w10) rfl rfl rfl (by kernel_rfl) ?_
 simp only [Act.put, sa, sz, ss]
 refine zA (d := 36) (v := .int .i64 2) (w' := w10) rfl rfl rfl (rfl) ?_
 simp only [Act.put, sa, sz, ss]
 refine zC (zB ?_)
 refine zU (n := 0) ?_
 refine wp_seq ?_
 refine zD (l := [0]) rfl ?_
 refine zA (d := 37) (v := .bool false) (w' := w10) rfl rfl rfl (by kernel_rfl) ?_
 simp only [Act.put, sa, sz, ss]
 refine zC (zB ?_)
 refine wp_seq (wp_cond_false rfl ?_)
 refine wp_exit ?_
 repeat refine zX ?_
 refine zT ?_
 refine zB (wp_seq ?_)
 refine zD (l := [0, 1, 2, 3]) rfl ?_
 refine zA (d := 46) (v := PT Js3 0) (w' := w10) rfl rfl rfl (by go_simp) ?_
 simp only [Act.put, sa, sz, ss]
 refine zA (d := 47) (v := v10) (w' := w10) rfl rfl rfl (zJ H10.out.1 0 rfl rfl rfl Ai51 rfl) ?_
 simp only [Act.put, sa, sz, ss]
 refine zA (d := 2) (v := v10) (w' := w10) rfl rfl rfl (rfl) ?_
 simp only [Act.put, sa, sz, ss]
 refine zA (d := 3) (v := .int .i64 0) (w' := w10) rfl rfl rfl (rfl) ?_
 simp only [Act.put, sa, sz, ss]
 refine zC (zB (wp_ret ?_))
 repeat (first | refine zL ?_ | refine zK ?_)
 refine bodyPost_ret (v := .tuple #[v10, .int .i64 0]) (by simp [results, Tryz.results18, go_sem, *]) rfl ?_
 obtain ⟨g, x, hv, h1, h2, h3⟩ := H10.out.2.fin (by decide)
 exact ⟨H10.out.2.b, g, x, by rw [hv], h1, h2, h3⟩
set_option maxHeartbeats 2000000 in
theorem ReadInt_7 (gb : Nat) (w : World) :
  Calls Tryz.prog 17 #[.slice (some ⟨gb, 0, none⟩) 7 7] w (Rt w (.tuple #[.int .i64 0, .int .i64 4])) := by
 have H0 : Hid (_ ∧ _) := ⟨Mm.nil w, Below.refl w.heap.size w⟩
 go_enter Tryz.func17, Tryz.ntmps17
 refine wp_seq ?_
 refine zN (l := [0, 1]) rfl (fun u0 hu0 => ?_)
 have H1 : Hid (Mm u0 [] ∧ Below w.heap.size w u0) := by rw [hu0]; exact H0
 clear hu0 H0
 refine zA (d := 2) (v := .int .i64 0) (w' := u0) rfl rfl rfl (rfl) ?_
 simp only [Act.put, sa, sz, ss]
 refine zA (d := 3) (v := .int .i64 0) (w' := u0) rfl rfl rfl (rfl) ?_
 simp only [Act.put, sa, sz, ss]
 refine zC (zB (wp_seq ?_))
 refine zD (l := [0, 1, 2, 3]) rfl ?_
 refine zA (d := 6) (v := .slice (some ⟨gb, 0, none⟩) 7 7) (w' := u0) rfl rfl rfl (rfl) ?_
 simp only [Act.put, sa, sz, ss]
 refine zA (d := 7) (v := .agg ([Value.slice (some ⟨gb, 0, none⟩) 7 7, Value.bool false]).toArray) (w' := u0) rfl rfl rfl (by kernel_rfl) ?_
 simp only [Act.put, sa, sz, ss]
 refine zA (d := 4) (v := PT u0.heap.size 0) (w' := (u0.alloc (.cells ([Value.slice none 0 0, Value.bool false] : List Value).toArray 99))) rfl rfl rfl (ex_mk99 rfl) ?_
 simp only [Act.put, sa, sz, ss]
 have o_Js2 : Hid (w.heap.size ≤ u0.heap.size) := H1.out.2.size
 have H2 : Hid (Mm (u0.alloc (.cells ([Value.slice none 0 0, Value.bool false] : List Value).toArray 99)) ((u0.heap.size, [Value.slice none 0 0, Value.bool false]) :: []) ∧ Below w.heap.size w (u0.alloc (.cells ([Value.slice none 0 0, Value.bool false] : List Value).toArray 99))) := ⟨H1.out.1.alloc _ 99 rfl, H1.out.2.trans (((Below.refl _ _).alloc (Nat.le_refl _) _).mono H1.out.2.size)⟩
 clear H1
 generalize hgw : u0.alloc (.cells ([Value.slice none 0 0, Value.bool false] : List Value).toArray 99) = w2 at H2 ⊢
 clear hgw
 generalize u0.heap.size = Js2 at o_Js2 H2 ⊢
 refine sG rfl (fun h => ex_storeT (vs := [Value.slice (some ⟨gb, 0, none⟩) 7 7, Value.bool false]) h 0 rfl rfl rfl rfl As99 rfl (Nat.le_of_ble_eq_true rfl)) 0 [(_, [Value.slice (some ⟨gb, 0, none⟩) 7 7, Value.bool false])] H2 o_Js2 fun w3 H3 => ?_
 clear H2
 refine zC (zB (wp_seq ?_))
 refine zD (l := [0, 1]) rfl ?_
 refine zF (d := 8) (R := fun vv w' => vv = .int .i64 0 ∧ Mm w' [(Js2, [Value.slice (some ⟨gb, 0, none⟩) 7 7, Value.bool true])] ∧ Kp Js2 w3 w') rfl rfl rfl (zG (args := #[PT Js2 0, .int .i64 8, .int .i64 4611686018427387903]) rfl call44 rfl (mpn rfl)) (Calls.mono (number_long Js2 (some ⟨gb, 0, none⟩) 7 7 8 4611686018427387903 (by decide) (by decide) w3 (H3.out.1.one 0 rfl)) (fun e w2 hh => ⟨_, hh.1, rfl, hh.2⟩)) ?_
 rintro _ w4 ⟨rfl, hn, hp⟩
 have H4 : Hid (Mm w4 [(Js2, [Value.slice (some ⟨gb, 0, none⟩) 7 7, Value.bool true])] ∧ Below w.heap.size w w4) := ⟨H3.out.1.change 0 rfl hp hn, Below.kp H3.out.2 hp o_Js2.out H3.out.2.size⟩
 clear hn hp
 clear H3
 simp only [Act.put, sa, sz, ss]
 refine zA (d := 5) (v := .int .i64 0) (w' := w4) rfl rfl rfl (rfl) ?_
 simp only [Act.put, sa, sz, ss]
 refine zC (zB ?_)
 refine wp_seq (wp_seq ?_)
 refine zD (l := [0, 1]) rfl ?_
 refine zF (d := 9) (R := fun vv w' => vv = .bool false ∧ Below w4.heap.size w4 w') rfl rfl rfl (zG (args := #[PT Js2 0]) rfl call45 rfl (mpn rfl)) (Calls.mono (whole_bad _ _ _ _ w4 (H4.out.1.one 0 rfl)) (fun e w2 hh => ⟨_, hh.1, rfl, hh.2⟩)) ?_
 rintro _ w5 ⟨rfl, hb⟩
 have H5 : Hid (Mm w5 [(Js2, [Value.slice (some ⟨gb, 0, none⟩) 7 7, Value.bool true])] ∧ Below w.heap.size w w5) := ⟨H4.out.1.below hb, H4.out.2.trans (hb.mono H4.out.2.size)⟩
 clear hb
 clear H4
 simp only [Act.put, sa, sz, ss]
 refine zA (d := 10) (v := .bool true) (w' := w5) rfl rfl rfl (by go_simp) ?_
 simp only [Act.put, sa, sz, ss]
 refine zC (zB ?_)
 refine wp_cond_true rfl (wp_seq ?_)
 refine zD (l := [0, 1]) rfl ?_
 refine zA (d := 2) (v := .int .i64 0) (w' := w5) rfl rfl rfl (rfl) ?_
 simp only [Act.put, sa, sz, ss]
 refine zA (d := 3) (v := .int .i64 4) (w' := w5) rfl rfl rfl (rfl) ?_
 simp only [Act.put, sa, sz, ss]
 refine zC (zB (wp_ret ?_))
 repeat (first | refine zL ?_ | refine zK ?_)
 refine bodyPost_ret (v := .tuple #[.int .i64 0, .int .i64 4]) (by simp [results, Tryz.results17, go_sem, *]) rfl ?_
 exact ⟨rfl, H5.out.2⟩
end Wi
end Rg
end Go.Proofs.YtahghpkjkfaieaaGreatDoor
end
section
namespace Go.Proofs.YtahghpkjkfaieaaGreatDoor
open Go.RowKit
/-- What stands in memory while Divide runs: a, b, two results. -/
structure DM (w wr : World) (a b : Nat) : Prop where
  ra : Row wr w.heap.size 6 (wd a)
  rb : Row wr (w.heap.size + 1) 6 (wd b)
  r2 : Row wr (w.heap.size + 1 + 1) 6 (fun _ => 0)
  r3 : Row wr (w.heap.size + 1 + 1 + 1) 6 (fun _ => 0)
  bl : Below w.heap.size w wr
  sz : w.heap.size + 1 + 1 + 1 < wr.heap.size
theorem DM.start (w : World) (a b : Nat) : DM w ((((w.alloc (O6 a)).alloc (O6 b)).alloc Z6).alloc Z6) a b :=
  ⟨(((Row.new w _ 24 rfl (six_lt rfl)).alloc (by first | omega | (simp <;> omega)) _).alloc (by first | omega | (simp <;> omega)) _).alloc (by first | omega | (simp <;> omega)) _,
   ((Row.new _ _ 24 (by first | omega | (simp <;> omega)) (six_lt rfl)).alloc (by first | omega | (simp <;> omega)) _).alloc (by first | omega | (simp <;> omega)) _,
   (Row.new _ _ 24 (by first | omega | (simp <;> omega)) (six_lt (f := fun _ => 0) rfl)).alloc (by first | omega | (simp <;> omega)) _,
   Row.new _ _ 24 (by first | omega | (simp <;> omega)) (six_lt (f := fun _ => 0) rfl),
   ((((Below.refl _ _).alloc (Nat.le_refl _) _).alloc (by first | omega | (simp <;> omega)) _).alloc (by first | omega | (simp <;> omega)) _).alloc (by first | omega | (simp <;> omega)) _,
   by simp⟩
theorem DM.below {w wr w1 : World} {a b : Nat} (h : DM w wr a b) (hb : Below wr.heap.size wr w1) : DM w w1 a b :=
  have := h.sz
  ⟨Row.below hb h.ra (by omega), Row.below hb h.rb (by omega), Row.below hb h.r2 (by omega), Row.below hb h.r3 (by omega), h.bl.trans (hb.mono (by omega)), Nat.lt_of_lt_of_le h.sz hb.size⟩
theorem DM.alloc {w wr : World} {a b : Nat} (h : DM w wr a b) (o : Obj) : DM w (wr.alloc o) a b :=
  have := h.sz
  ⟨h.ra.alloc (by omega) o, h.rb.alloc (by omega) o, h.r2.alloc (by omega) o, h.r3.alloc (by omega) o, h.bl.alloc (by omega) o, by simp; omega⟩
theorem DM.drew {w wr : World} {a b : Nat} (h : DM w wr a b) : DM w wr.drew a b := ⟨h.ra.drew, h.rb.drew, h.r2.drew, h.r3.drew, h.bl.drew, h.sz⟩
theorem DM.set {w wr : World} {a b : Nat} (h : DM w wr a b) {p : Addr} (hp : w.heap.size + 1 + 1 + 1 < p.block) (v : Value) : DM w (wr.setCell p v) a b :=
  ⟨h.ra.set_other _ (by omega), h.rb.set_other _ (by omega), h.r2.set_other _ (by omega), h.r3.set_other _ (by omega), h.bl.setCell (by omega) _, by simpa [World.setCell] using h.sz⟩
theorem small_big (n : Nat) (h : n < 18446744073709551616) : n < big := Nat.lt_of_lt_of_le (show n < 2 ^ 64 from h) (by
 obtain ⟨m, hm, e⟩ := big_pow
 rw [e]; exact pow_le' _ _ (by omega))
end Go.Proofs.YtahghpkjkfaieaaGreatDoor
end
section
namespace Go.Proofs.YtahghpkjkfaieaaGreatDoor
open Go.RowKit Go.Lib
/-- What stands in memory while Mul runs: a, b, two results, the product. -/
structure MulMem (w wr : World) (a b : Nat) (p : Nat → Int) : Prop where
 ra : Row wr w.heap.size 6 (wd a)
 rb : Row wr (w.heap.size + 1) 6 (wd b)
 rl : Row wr (w.heap.size + 1 + 1) 6 (fun _ => 0)
 rh : Row wr (w.heap.size + 1 + 1 + 1) 6 (fun _ => 0)
 rp : Row wr (w.heap.size + 1 + 1 + 1 + 1) 12 p
 bl : Below w.heap.size w wr
 sz : wr.heap.size = w.heap.size + 1 + 1 + 1 + 1 + 1
theorem MulMem.store {w wr : World} {a b : Nat} {p : Nat → Int} (h : MulMem w wr a b p) (k : Nat) (v : Int) : MulMem w (wr.setCell ⟨w.heap.size + 1 + 1 + 1 + 1, k, none⟩ (.int .u64 v)) a b (upd p k v) :=
 ⟨h.ra.set_other _ (by first | omega | (simp <;> omega)), h.rb.set_other _ (by first | omega | (simp <;> omega)), h.rl.set_other _ (by first | omega | (simp <;> omega)), h.rh.set_other _ (by first | omega | (simp <;> omega)), h.rp.set _, h.bl.setCell (by first | omega | (simp <;> omega)) _, by simp [World.setCell, h.sz]⟩
theorem MulMem.drew {w wr : World} {a b : Nat} {p : Nat → Int} (h : MulMem w wr a b p) : MulMem w wr.drew a b p :=
 ⟨h.ra.drew, h.rb.drew, h.rl.drew, h.rh.drew, h.rp.drew, h.bl.drew, h.sz⟩
theorem MulMem.congr {w wr : World} {a b : Nat} {p p' : Nat → Int} (h : MulMem w wr a b p) (e : ∀ j, j < 12 → p j = p' j) : MulMem w wr a b p' :=
 ⟨h.ra, h.rb, h.rl, h.rh, h.rp.congr e, h.bl, h.sz⟩
end Go.Proofs.YtahghpkjkfaieaaGreatDoor
end
section
namespace Go.Proofs.YtahghpkjkfaieaaGreatDoor
open Go.RowKit
/-! The plain law. -/
end Go.Proofs.YtahghpkjkfaieaaGreatDoor
end
section
namespace Go.Proofs.YtahghpkjkfaieaaGreatDoor
open Go.RowKit
namespace Rg
/-! The word that makes -1 with an odd word. -/
def newt (x i : Int) : Int := (i * ((2 - x * i % 18446744073709551616) % 18446744073709551616)) % 18446744073709551616
def newts (x : Int) : Nat → Int
 | 0 => x
 | k + 1 => newt x (newts x k)
def wrapZ (x : Int) : Int := (-(newts x 5)) % 18446744073709551616
theorem newt_dvd (x i d e : Int) (h : d ∣ 1 - x * i) (he : e ∣ d * d) (hW : e ∣ 18446744073709551616) : e ∣ 1 - x * newt x i := by
 obtain ⟨q, hq⟩ : ∃ q, newt x i = i * (2 - x * i) + 18446744073709551616 * q := by
  unfold newt
  have h1 := Int.emod_def (x * i) 18446744073709551616
  have h2 := Int.emod_def (2 - x * i % 18446744073709551616) 18446744073709551616
  have h3 := Int.emod_def (i * ((2 - x * i % 18446744073709551616) % 18446744073709551616)) 18446744073709551616
  rw [h3]
  rw [h2, h1]
  generalize x * i / 18446744073709551616 = p
  generalize (2 - (x * i - 18446744073709551616 * p)) / 18446744073709551616 = q
  generalize (i * (2 - (x * i - 18446744073709551616 * p) - 18446744073709551616 * q)) / 18446744073709551616 = r
  refine ⟨i * p - i * q - r, ?_⟩
  generalize hxi : x * i = y
  simp only [Int.mul_sub]
  have e1 : i * (18446744073709551616 * p) = 18446744073709551616 * (i * p) := Int.mul_left_comm ..
  have e2 : i * (18446744073709551616 * q) = 18446744073709551616 * (i * q) := Int.mul_left_comm ..
  rw [e1, e2]
  omega
 have e1 : 1 - x * newt x i = (1 - x * i) * (1 - x * i) - 18446744073709551616 * (x * q) := by
  rw [hq, Int.mul_add, ← Int.mul_assoc]
  have e2 : x * (18446744073709551616 * q) = 18446744073709551616 * (x * q) := Int.mul_left_comm ..
  rw [e2]
  generalize x * i = y
  have e3 : y * (2 - y) = 2 * y - y * y := by rw [Int.mul_sub, Int.mul_comm y 2]
  have e4 : (1 - y) * (1 - y) = 1 - 2 * y + y * y := by rw [Int.mul_sub, Int.sub_mul, Int.sub_mul]; omega
  rw [e3, e4]; omega
 rw [e1]
 refine Int.dvd_sub (Int.dvd_trans he ?_) (Int.dvd_trans hW (Int.dvd_mul_right _ _))
 obtain ⟨m, hm⟩ := h
 rw [hm]
 exact ⟨m * m, by rw [Int.mul_assoc, Int.mul_left_comm m d m, ← Int.mul_assoc]⟩
theorem newts_five (x : Int) (ho : x % 2 = 1) : (18446744073709551616 : Int) ∣ 1 - x * newts x 5 := by
 have h0 : (8 : Int) ∣ 1 - x * newts x 0 := by
  show (8 : Int) ∣ 1 - x * x
  obtain ⟨y, hy⟩ : ∃ y, x = 2 * y + 1 := ⟨x / 2, by omega⟩
  have e2 : 2 * y * (2 * y) = 4 * (y * y) := by rw [Int.mul_assoc, Int.mul_left_comm y 2 y, ← Int.mul_assoc]; rfl
  have e : x * x = 4 * (y * (y + 1)) + 1 := by
   rw [hy, Int.mul_add, Int.mul_add, Int.add_mul, e2]
   omega
  have h2 : y * (y + 1) % 2 = 0 := by
   rcases (by omega : y % 2 = 0 ∨ y % 2 = 1) with h | h
   ·rw [Int.mul_emod, h]; simp
   ·rw [Int.mul_emod, show (y + 1) % 2 = 0 by omega]; simp
  rw [e]
  omega
 have h1 := newt_dvd x _ 8 64 h0 (by decide) (by decide)
 have h2 := newt_dvd x _ 64 4096 h1 (by decide) (by decide)
 have h3 := newt_dvd x _ 4096 16777216 h2 (by decide) (by decide)
 have h4 := newt_dvd x _ 16777216 281474976710656 h3 (by decide) (by decide)
 exact newt_dvd x _ 281474976710656 18446744073709551616 h4 (by decide) (by decide)
theorem wrapZ_bd (x : Int) : 0 ≤ wrapZ x ∧ wrapZ x < 18446744073709551616 := by unfold wrapZ; omega
theorem wrapZ_spec (x : Int) (ho : x % 2 = 1) : wrapZ x * x % 18446744073709551616 = 18446744073709551615 := by
 obtain ⟨m, hm⟩ := newts_five x ho
 have h := Int.emod_def (-(newts x 5)) 18446744073709551616
 unfold wrapZ
 rw [h]
 generalize -(newts x 5) / 18446744073709551616 = q
 rw [Int.sub_mul, Int.neg_mul, Int.mul_comm (newts x 5) x, Int.mul_assoc]
 generalize x * newts x 5 = y at hm
 generalize q * x = z
 omega
/-- The word of a number's modulus, as a natural number. -/
def wrapN (n : Nat) : Nat := (wrapZ (wd n 0)).toNat
theorem wrapN_cast (n : Nat) : ((wrapN n : Nat) : Int) = wrapZ (wd n 0) := Int.toNat_of_nonneg (wrapZ_bd _).1
theorem wrapN_spec (n : Nat) (ho : n % 2 = 1) : wrapN n * n % 18446744073709551616 = 18446744073709551615 := by
 have h0 : wd n 0 = ((n % 18446744073709551616 : Nat) : Int) := by unfold wd; rw [Nat.mul_zero, Nat.pow_zero, Nat.div_one]
 have h := wrapZ_spec (wd n 0) (by rw [h0]; omega)
 rw [← wrapN_cast, h0, ← Int.natCast_mul] at h
 have h1 : wrapN n * (n % 18446744073709551616) % 18446744073709551616 = 18446744073709551615 := by omega
 rw [Nat.mul_mod, Nat.mod_mod, ← Nat.mul_mod] at h1
 exact h1
/-- What stands in memory of a modulus. -/
abbrev zW (n o s : Nat) : List Value := [.int .u64 (wd n 0), .int .u64 (wd n 1), .int .u64 (wd n 2), .int .u64 (wd n 3), .int .u64 (wd n 4), .int .u64 (wd n 5), .int .u64 (wrapZ (wd n 0)), .int .u64 (wd o 0), .int .u64 (wd o 1), .int .u64 (wd o 2), .int .u64 (wd o 3), .int .u64 (wd o 4), .int .u64 (wd o 5), .int .u64 (wd s 0), .int .u64 (wd s 1), .int .u64 (wd s 2), .int .u64 (wd s 3), .int .u64 (wd s 4), .int .u64 (wd s 5)]
abbrev modc (n : Nat) : List Value := zW n (big % n) (big * big % n)
theorem ex_zero6 {ρ : Operand → Value} {o : Oper} {w : World} (ho : o.op = .build 24 #[]) : (execOp ρ o).run Tryz.prog w = .ok (.value (N 0)) w := by
 simp only [execOp, ho]
 go_simp
 simp [wd_zero]
/-- What a modulus may be. -/
structure Ok (n : Nat) : Prop where
 odd : n % 2 = 1
 three : 3 ≤ n
 top : 4 * n < big
theorem Ok.big {n : Nat} (h : Ok n) : n < big := by have := h.top; omega
theorem Ok.pos {n : Nat} (h : Ok n) : 0 < n := by have := h.three; omega
theorem Ok.word {n : Nat} (h : Ok n) : ¬ wd n 0 = 0 := by
 have h0 : wd n 0 = ((n % 18446744073709551616 : Nat) : Int) := by unfold wd; rw [Nat.mul_zero, Nat.pow_zero, Nat.div_one]
 have := h.odd
 rw [h0]; omega
theorem made_any (g n o s : Nat) (ok : Ok n) (w : World) (hm : Mm w [(g, zW n o s)]) :
  Calls Tryz.prog 77 #[PT g 0] w (Rt w (.bool true)) := by
 have H0 : Hid (_ ∧ _) := ⟨hm, Below.refl w.heap.size w⟩
 clear hm
 have hw0 := ok.word
 go_enter Tryz.func77, Tryz.ntmps77
 refine wp_seq ?_
 refine zM 1 [.q (.bool false)] H0 ?ho1 ?he1
 case ho1 => exact ar trivial
 intro _ w1 H1
 refine rN (wp_seq ?_)
 refine zM 11 [.q (PT g 0), .q (.bool true), .q (.bool true), .q (PT g 0), .q (PT g 0), .q (PT g 0), .q (PT g 0), .q (.int .u64 (wd n 0)), .q (.bool true), .q (.bool true), .q (.bool true)] H1 ?ho2 ?he2
 case ho2 => exact ar (ag (ar (ar (ag (ag (ag (aq (fun w' h => ex_load1 h 0 rfl rfl rfl rfl) (ag (ag (ar trivial))))))))))
 intro _ w2 H2
 clear H1
 refine rN (wp_ret ?_)
 repeat (first | refine zL ?_ | refine zK ?_)
 refine bodyPost_ret (v := .bool true) (by simp [results, Tryz.results77, go_sem, *]) rfl ?_
 exact ⟨rfl, H2.out.2⟩
set_option maxHeartbeats 400000 in
theorem mulAddM_any (a b m c : Int) (ha : 0 ≤ a) (ha' : a < 18446744073709551616) (hb : 0 ≤ b) (hb' : b < 18446744073709551616) (hm : 0 ≤ m) (hm' : m < 18446744073709551616) (hc : 0 ≤ c) (hc' : c < 18446744073709551616) (w : World) :
  Calls Tryz.prog 163 #[.int .u64 a, .int .u64 b, .int .u64 m, .int .u64 c] w fun e w' => e = .returned (.tuple #[.int .u64 (mulLo a b m c), .int .u64 (mulHi a b m c)]) ∧ w' = w := by
 obtain ⟨x, rfl⟩ := Int.eq_ofNat_of_zero_le ha
 obtain ⟨y, rfl⟩ := Int.eq_ofNat_of_zero_le hb
 have hx : x < 18446744073709551616 := by omega
 have hy : y < 18446744073709551616 := by omega
 have e1 : Hid _ := mulAdd_hi x y m c hx hy hm hm' hc hc'
 have e2 : Hid _ := mulAdd_lo x y m c
 have h1 := fun w => add64' (pLo x y) m 0 (by unfold pLo; omega) hm (by omega) (by omega) w
 have h2 := fun w => add64' (addLo (pLo x y) m 0) c 0 (by unfold addLo; omega) hc (by omega) (by omega) w
 have h3 := fun w => mul64' x y hx hy w
 have H3 : Hid _ := h3
 clear ha ha' hb hb' hm hm' hc hc' hx hy h3
 go_enter Tryz.func163, Tryz.ntmps163
 go_wp2_with (go_at_call 162; refine (H3.out _).mono ?_; rintro e w' ⟨rfl, rfl⟩)
 rw [e1.out, e2.out]
 go_ret2
 exact ⟨rfl, rfl⟩
set_option maxHeartbeats 1000000 in
theorem wrapOf_any (x : Int) (w : World) : Calls Tryz.prog 111 #[.int .u64 x] w fun e w' => e = .returned (.int .u64 (wrapZ x)) ∧ w' = w := by
 have hs : ∀ k, IntKind.u64.wrap (newts x k * IntKind.u64.wrap (2 - IntKind.u64.wrap (x * newts x k))) = newts x (k + 1) := fun k => by
  simp only [IntKind.wrap_u64, newts, newt]
 have HS : Hid _ := hs
 have he : IntKind.u64.wrap (-(newts x 5)) = wrapZ x := by rw [IntKind.wrap_u64]; rfl
 have HE : Hid _ := he
 clear hs he
 go_enter Tryz.func111, Tryz.ntmps111
 go_wp2
 go_loopw [3, 4] (fun c i wr => ∃ k : Nat, k ≤ 5 ∧ c = .int .u64 (newts x k) ∧ i = .int .i64 (3 * 2 ^ k) ∧ wr = w) (fun _ i _ => 96 - (RowKit.intOf i).toNat)
 case atStart => exact ⟨0, by omega, rfl, rfl, rfl⟩
 case round =>
  obtain ⟨k, hk, rfl, rfl, rfl⟩ := hrel
  rcases (by omega : k = 0 ∨ k = 1 ∨ k = 2 ∨ k = 3 ∨ k = 4 ∨ k = 5) with rfl | rfl | rfl | rfl | rfl | rfl
  ·go_wp2
   go_roundw
   case rel => exact ⟨1, by omega, congrArg (Value.int .u64) (HS.out 0), by simp⟩
   case measure => simp [RowKit.intOf]
  ·go_wp2
   go_roundw
   case rel => exact ⟨2, by omega, congrArg (Value.int .u64) (HS.out 1), by simp⟩
   case measure => simp [RowKit.intOf]
  ·go_wp2
   go_roundw
   case rel => exact ⟨3, by omega, congrArg (Value.int .u64) (HS.out 2), by simp⟩
   case measure => simp [RowKit.intOf]
  ·go_wp2
   go_roundw
   case rel => exact ⟨4, by omega, congrArg (Value.int .u64) (HS.out 3), by simp⟩
   case measure => simp [RowKit.intOf]
  ·go_wp2
   go_roundw
   case rel => exact ⟨5, by omega, congrArg (Value.int .u64) (HS.out 4), by simp⟩
   case measure => simp [RowKit.intOf]
  ·go_wp2
   rw [HE.out]
   go_ret
   exact ⟨rfl, rfl⟩
theorem call113 : CO 113 := by intro args w; go_simp
theorem below_t (g n o s a r : Nat) (c40 : ∀ w, Calls Tryz.prog 113 #[N a, N n] w (Rt w (.tuple #[N r, .bool true]))) (w : World) (hm : Mm w [(g, zW n o s)]) :
  Calls Tryz.prog 164 #[PT g 0, N a] w (Rt w (N a)) := by
 have H0 : Hid (_ ∧ _) := ⟨hm, Below.refl w.heap.size w⟩
 clear hm
 have C40 : Hid _ := c40
 clear c40
 go_enter Tryz.func164, Tryz.ntmps164
 refine wp_seq ?_
 refine zI 2 [.made (zE a) 24, .made zero6 24] (sB H0) ?ho1 ?he1
 case ho1 => exact am (ex_box6 rfl rfl) (am (zO rfl) trivial)
 intro J w1 l hM hl
 have H1 : Hid (Mm w1 ([(J 0, zE a), (J 1, zero6)] ++ _) ∧ _) := wB H0 hM hl [0, 1]
 have o1_0 := vB H0 hM hl 0
 have o1_1 := vB H0 hM hl 1
 clear hM hl l
 generalize J 0 = J1_0 at H1 o1_0 ⊢
 generalize J 1 = J1_1 at H1 o1_1 ⊢
 clear J
 refine rN (wp_seq ?_)
 refine walk_anyA 12 [.q (N a), .q (PT g 0), .q (PT g 0), .q (PT g 0), .q (N n), .call (.tuple #[N r, .bool true]), .q (.tuple #[N r, .bool true]), .q (N r), .q (.bool true), .made zero6 24, .laid 9 zero6 (zE r), .q (.bool true)] (sB H1) ?ho2 ?he2 (hL := ?hL2)
 case hL2 => exact ⟨⟨_, rfl⟩, trivial⟩
 case ho2 => exact bN 0 (ar (ag (ag (bN 2 (ac (fun w' h => eC call113 (C40.out w')) (ar (ag (ag (am (zO rfl) (ak (fun J => ⟨rfl, rfl, rfl, fun w' h => exec_laid6 h rfl rfl rfl⟩) (ar trivial)))))))))))
 intro J w2 l hM hl
 have H2 : Hid (Mm w2 ([(J 9, zE r)] ++ _) ∧ _) := wB H1 hM hl [9]
 have o2_9 := vB H1 hM hl 9
 clear hM hl l H1
 generalize J 9 = J2_9 at H2 o2_9 ⊢
 clear J
 refine rN (wp_seq (wp_seq ?_))
 refine zM 1 [.q (.bool true)] H2 ?ho3 ?he3
 case ho3 => exact ar trivial
 intro _ w3 H3
 clear H2
 refine rN (wp_cond_true rfl (wp_seq ?_))
 refine zM 1 [.q (N a)] H3 ?ho4 ?he4
 case ho4 => exact bN 1 trivial
 intro _ w4 H4
 clear H3
 refine zR (l := [1]) rfl ?_
 refine sG rfl (fun h => zQ h 2 rfl rfl rfl rfl (Nat.le_of_ble_eq_true rfl)) 2 [_, _, (_, zE a), _] H4 o1_1 fun w5 H5 => ?_
 clear H4
 refine zC (zB (wp_ret ?_))
 repeat (first | refine zL ?_ | refine zK ?_)
 have c0 := H5.out.1.get 2 rfl 0 rfl
 have c1 := H5.out.1.get 2 rfl 1 rfl
 have c2 := H5.out.1.get 2 rfl 2 rfl
 have c3 := H5.out.1.get 2 rfl 3 rfl
 have c4 := H5.out.1.get 2 rfl 4 rfl
 have c5 := H5.out.1.get 2 rfl 5 rfl
 refine bodyPost_ret (v := N a) (by simp [results, Tryz.results164, go_sem, *]) rfl ?_
 exact ⟨rfl, H5.out.2⟩
theorem below_f (g n o s a r : Nat) (c40 : ∀ w, Calls Tryz.prog 113 #[N a, N n] w (Rt w (.tuple #[N r, .bool false]))) (w : World) (hm : Mm w [(g, zW n o s)]) :
  Calls Tryz.prog 164 #[PT g 0, N a] w (Rt w (N r)) := by
 have H0 : Hid (_ ∧ _) := ⟨hm, Below.refl w.heap.size w⟩
 clear hm
 have C40 : Hid _ := c40
 clear c40
 go_enter Tryz.func164, Tryz.ntmps164
 refine wp_seq ?_
 refine zI 2 [.made (zE a) 24, .made zero6 24] (sB H0) ?ho1 ?he1
 case ho1 => exact am (ex_box6 rfl rfl) (am (zO rfl) trivial)
 intro J w1 l hM hl
 have H1 : Hid (Mm w1 ([(J 0, zE a), (J 1, zero6)] ++ _) ∧ _) := wB H0 hM hl [0, 1]
 have o1_0 := vB H0 hM hl 0
 have o1_1 := vB H0 hM hl 1
 clear hM hl l
 generalize J 0 = J1_0 at H1 o1_0 ⊢
 generalize J 1 = J1_1 at H1 o1_1 ⊢
 clear J
 refine rN (wp_seq ?_)
 refine walk_anyA 12 [.q (N a), .q (PT g 0), .q (PT g 0), .q (PT g 0), .q (N n), .call (.tuple #[N r, .bool false]), .q (.tuple #[N r, .bool false]), .q (N r), .q (.bool false), .made zero6 24, .laid 9 zero6 (zE r), .q (.bool false)] (sB H1) ?ho2 ?he2 (hL := ?hL2)
 case hL2 => exact ⟨⟨_, rfl⟩, trivial⟩
 case ho2 => exact bN 0 (ar (ag (ag (bN 2 (ac (fun w' h => eC call113 (C40.out w')) (ar (ag (ag (am (zO rfl) (ak (fun J => ⟨rfl, rfl, rfl, fun w' h => exec_laid6 h rfl rfl rfl⟩) (ar trivial)))))))))))
 intro J w2 l hM hl
 have H2 : Hid (Mm w2 ([(J 9, zE r)] ++ _) ∧ _) := wB H1 hM hl [9]
 have o2_9 := vB H1 hM hl 9
 clear hM hl l H1
 generalize J 9 = J2_9 at H2 o2_9 ⊢
 clear J
 refine rN (wp_seq (wp_seq ?_))
 refine zM 1 [.q (.bool false)] H2 ?ho3 ?he3
 case ho3 => exact ar trivial
 intro _ w3 H3
 clear H2
 refine rN (wp_cond_false rfl ?_)
 refine wp_skip (zB (wp_seq ?_))
 refine zM 1 [.q (N r)] H3 ?ho4 ?he4
 case ho4 => exact bN 0 trivial
 intro _ w4 H4
 clear H3
 refine zR (l := [1]) rfl ?_
 refine sG rfl (fun h => zQ h 2 rfl rfl rfl rfl (Nat.le_of_ble_eq_true rfl)) 2 [_, _, (_, zE r), _] H4 o1_1 fun w5 H5 => ?_
 clear H4
 refine zC (zB (wp_ret ?_))
 repeat (first | refine zL ?_ | refine zK ?_)
 have c0 := H5.out.1.get 2 rfl 0 rfl
 have c1 := H5.out.1.get 2 rfl 1 rfl
 have c2 := H5.out.1.get 2 rfl 2 rfl
 have c3 := H5.out.1.get 2 rfl 3 rfl
 have c4 := H5.out.1.get 2 rfl 4 rfl
 have c5 := H5.out.1.get 2 rfl 5 rfl
 refine bodyPost_ret (v := N r) (by simp [results, Tryz.results164, go_sem, *]) rfl ?_
 exact ⟨rfl, H5.out.2⟩
theorem below_any (g n o s a : Nat) (ha : a < big) (hn : n < big) (w : World) (hm : Mm w [(g, zW n o s)]) :
  Calls Tryz.prog 164 #[PT g 0, N a] w (Rt w (N (if a < n then a else a - n))) := by
 have c := fun w => sub_any a n ha hn w
 by_cases h : a < n
 ·rw [if_pos h]
  simp only [decide_eq_true h] at c
  exact below_t g n o s a _ c w hm
 ·rw [if_neg h]
  simp only [decide_eq_false h] at c
  have e : (a + big - n) % big = a - n := by
   rw [show a + big - n = a - n + big by omega, Nat.add_mod_right, Nat.mod_eq_of_lt (by omega)]
  rw [e] at c
  exact below_f g n o s a _ c w hm
/-- Slots of a frame, by a list. -/
def slotfn (l : List Value) (d : Nat) : Value := l.getD d undef
/-! Rows of six words. -/
abbrev rowc (f : Nat → Int) : List Value := [.int .u64 (f 0), .int .u64 (f 1), .int .u64 (f 2), .int .u64 (f 3), .int .u64 (f 4), .int .u64 (f 5)]
theorem row_at {f : Nat → Int} {j : Nat} (hj : j < 6) : (rowc f)[0 + j]? = some (.int .u64 (f j)) := by
 match j, hj with
 | 0, _ => rfl
 | 1, _ => rfl
 | 2, _ => rfl
 | 3, _ => rfl
 | 4, _ => rfl
 | 5, _ => rfl
theorem modn_at {n o s j : Nat} (hj : j < 6) : (zW n o s)[0 + j]? = some (.int .u64 (wd n j)) := by
 match j, hj with
 | 0, _ => rfl
 | 1, _ => rfl
 | 2, _ => rfl
 | 3, _ => rfl
 | 4, _ => rfl
 | 5, _ => rfl
theorem patch_row {f : Nat → Int} {j : Nat} {v : Int} (hj : j < 6) : patch (rowc f) (0 + j) [.int .u64 v] = rowc (upd f j v) := by
 match j, hj with
 | 0, _ => rfl
 | 1, _ => rfl
 | 2, _ => rfl
 | 3, _ => rfl
 | 4, _ => rfl
 | 5, _ => rfl
theorem row_bd {f : Nat → Int} {j : Nat} (hj : j < 6) : 0 + j < (rowc f).length := by
 show 0 + j < 6
 omega
theorem row_congr {f g : Nat → Int} (h : ∀ j, j < 6 → f j = g j) : rowc f = rowc g := by
 unfold rowc
 rw [h 0 (by decide), h 1 (by decide), h 2 (by decide), h 3 (by decide), h 4 (by decide), h 5 (by decide)]
theorem ex_indexAddr6 {ρ : Operand → Value} {o : Oper} {x y : Operand} {g off j : Nat} {w : World} (ho : o.op = .indexAddr 24 x y) (hx : ρ x = PT g off) (hy : ρ y = .int .i64 ((j : Nat) : Int)) (hj : j < 6) :
  (execOp ρ o).run Tryz.prog w = .ok (.value (PT g (off + j))) w := by
 have h1 : (j : Int) < 6 := by omega
 simp only [execOp, ho, hx, hy]
 clear ho hx hy
 go_simp
theorem ex_index6 {ρ : Operand → Value} {o : Oper} {x y : Operand} {a j : Nat} {w : World} (ho : o.op = .index 24 x y) (hx : ρ x = N a) (hy : ρ y = .int .i64 ((j : Nat) : Int)) (hj : j < 6) :
  (execOp ρ o).run Tryz.prog w = .ok (.value (.int .u64 (wd a j))) w := by
 simp only [execOp, ho, hx, hy]
 clear ho hx hy
 rcases (by omega : j = 0 ∨ j = 1 ∨ j = 2 ∨ j = 3 ∨ j = 4 ∨ j = 5) with rfl | rfl | rfl | rfl | rfl | rfl <;> kernel_rfl
theorem cells_zero : zE 0 = zero6 := by simp [zE, zero6, wd_zero]
theorem cells_start (n wr a b : Nat) : zero6 = zE (mrun n wr a b 0) := by show zero6 = zE 0; exact cells_zero.symm
theorem Mm.at0 {w : World} {g : Nat} {cs cs' : List Value} {l : List (Nat × List Value)} (h : Mm w ((g, cs) :: l)) (e : cs = cs') : Mm w ((g, cs') :: l) := e ▸ h
/-! One round's row. -/
def inn (S Y j m : Nat) : Int := if m + 1 < j then wd Y (m + 1) else wd S m
theorem inn_at {S Y m : Nat} (hj : m + 1 < 6) : (rowc (inn S Y (m + 1)))[0 + (m + 1)]? = some (.int .u64 (wd S (m + 1))) := by
 rw [row_at hj]
 unfold inn
 rw [if_neg (by omega)]
theorem inn_step {S Y m : Nat} {v : Int} (h : v = wd Y (m + 1)) : rowc (upd (inn S Y (m + 1)) m v) = rowc (inn S Y (m + 1 + 1)) := row_congr fun j _ => by
 unfold upd inn
 by_cases h1 : j = m
 ·subst h1; rw [if_pos rfl, if_pos (by omega), h]
 ·rw [if_neg h1]
  by_cases h2 : j + 1 < m + 1
  ·rw [if_pos h2, if_pos (by omega)]
  ·rw [if_neg h2, if_neg (by omega)]
theorem patch_row5 {f : Nat → Int} {v : Int} : patch (rowc f) 5 [.int .u64 v] = rowc (upd f 5 v) := rfl
theorem inn_end {S Y Z : Nat} {v : Int} (hv : v = wd Z 5) (h : ∀ k, k < 5 → wd Z k = wd Y (k + 1)) : rowc (upd (inn S Y 6) 5 v) = zE Z := by
 show _ = rowc (wd Z)
 refine row_congr fun j hj => ?_
 unfold upd inn
 by_cases h1 : j = 5
 ·subst h1; rw [if_pos rfl, hv]
 ·rw [if_neg h1, if_pos (by omega), h j (by omega)]
theorem first_lo (x y : Nat) (m : Int) : addLo (pLo x y) m 0 = mulLo x y m 0 := by
 unfold addLo pLo mulLo
 rw [← Int.natCast_mul]
 generalize x * y = p
 omega
theorem first_hi (x y : Nat) (m : Int) (hx : x < 18446744073709551616) (hy : y < 18446744073709551616) (hm : 0 ≤ m) (hm' : m < 18446744073709551616) :
  IntKind.u64.wrap (pHi x y + addHi (pLo x y) m 0) = mulHi x y m 0 := by
 have h := prod_le x y hx hy
 rw [IntKind.wrap_u64]
 unfold addHi pLo pHi mulHi
 rw [← Int.natCast_mul]
 generalize x * y = p at h ⊢
 omega
theorem call164 : CO 164 := by intro args w; go_simp
theorem call162 : CO 162 := by intro args w; go_simp
theorem call163 : CO 163 := by intro args w; go_simp
set_option maxHeartbeats 4000000 in
theorem product_any (g n o s a b : Nat) (ok : Ok n) (ha : a < big) (hbn : b < n) (w : World) (hm : Mm w [(g, zW n o s)]) :
  Calls Tryz.prog 115 #[PT g 0, N a, N b] w (Rt w (N (mont n a b))) := by
 have H0 : Hid (_ ∧ _) := ⟨hm, Below.refl w.heap.size w⟩
 clear hm
 have hb : b < big := Nat.lt_trans hbn ok.big
 have cG : ∀ w, Mm w [(g, zW n o s)] → Calls Tryz.prog 164 #[PT g 0, N (mrun n (wrapN n) a b 6)] w (Rt w (N (mont n a b))) := fun w hm => by
  have h1 := mrun_lt n (wrapN n) a b ok.pos 6
  have h2 := below_any g n o s (mrun n (wrapN n) a b 6) (by have := ok.top; omega) ok.big w hm
  rw [low_cut n _ _ (mrun_end n (wrapN n) a b ok.odd (wrapN_spec n ok.odd) ha) (by omega) (mont_lt n a b ok.pos)] at h2
  exact h2
 have CG : Hid _ := cG
 have HA : Hid _ := ha
 clear cG ha
 go_enter Tryz.func115, Tryz.ntmps115
 refine wp_seq ?_
 refine zI 3 [.made (zE a) 24, .made (zE b) 24, .made zero6 24] (sB H0) ?ho1 ?he1
 case ho1 => exact am (ex_box6 rfl rfl) (am (ex_box6 rfl rfl) (am (zO rfl) trivial))
 intro J w1 l hM hl
 have M1 : Mm w1 [(J 0, zE a), (J 1, zE b), (J 2, zero6), (g, zW n o s)] := H0.out.1.grow hM (Nat.le_refl _) hl [0, 1, 2] rfl (by decide)
 have B1 : Below w.heap.size w w1 := H0.out.2.trans ((hM.below).mono H0.out.2.size)
 have o1_0 : Hid (w.heap.size ≤ J 0) := Nat.le_trans H0.out.2.size (hM.fin (Nat.le_refl _) hl (i := 0) rfl).2.1
 have o1_1 : Hid (w.heap.size ≤ J 1) := Nat.le_trans H0.out.2.size (hM.fin (Nat.le_refl _) hl (i := 1) rfl).2.1
 have o1_2 : Hid (w.heap.size ≤ J 2) := Nat.le_trans H0.out.2.size (hM.fin (Nat.le_refl _) hl (i := 2) rfl).2.1
 clear hM hl l
 generalize J 0 = J1_0 at M1 o1_0 ⊢
 generalize J 1 = J1_1 at M1 o1_1 ⊢
 generalize J 2 = J1_2 at M1 o1_2 ⊢
 clear J
 have H1 : Hid (_ ∧ _) := ⟨M1, B1⟩
 clear M1 B1
 refine rN (wp_seq ?_)
 refine zI 1 [.made zero6 24] (sB H1) ?ho2 ?he2
 case ho2 => exact am (zO rfl) trivial
 intro J w2 l hM hl
 have M2 : Mm w2 [(J 0, zero6), (J1_0, zE a), (J1_1, zE b), (J1_2, zero6), (g, zW n o s)] := H1.out.1.grow hM (Nat.le_refl _) hl [0] rfl (by decide)
 have B2 : Below w.heap.size w w2 := H1.out.2.trans ((hM.below).mono H1.out.2.size)
 have o2_0 : Hid (w.heap.size ≤ J 0) := Nat.le_trans H1.out.2.size (hM.fin (Nat.le_refl _) hl (i := 0) rfl).2.1
 clear hM hl l H1
 generalize J 0 = J2_0 at M2 o2_0 ⊢
 clear J
 have H2 : Hid (_ ∧ _) := ⟨M2, B2⟩
 clear M2 B2
 refine rN (wp_seq (wp_seq ?_))
 refine zI 2 [.q (N a), .q (.int .i64 0)] (sB H2) ?ho3 ?he3
 case ho3 => exact bN 1 (ar trivial)
 intro J w3 l hM hl
 have M3 : Mm w3 [(J2_0, zero6), (J1_0, zE a), (J1_1, zE b), (J1_2, zero6), (g, zW n o s)] := H2.out.1.grow hM (Nat.le_refl _) hl [] rfl (by decide)
 have B3 : Below w.heap.size w w3 := H2.out.2.trans ((hM.below).mono H2.out.2.size)
 clear hM hl l H2
 clear J
 have H3 : Hid (_ ∧ _) := ⟨M3, B3⟩
 clear M3 B3
 refine rN (wp_block ?_)
 refine loop_ghost (α := Nat) (fun i a' w' => ∃ s0 : Nat → Value, a' = ⟨#[PT g 0, N a, N b, ud, PT J1_0 0, PT J1_1 0, PT J1_2 0, PT J2_0 0, ud, s0 9, s0 10, s0 11, s0 12, s0 13, s0 14, s0 15, s0 16, s0 17, N a, .int .i64 ((i : Nat) : Int), s0 20, s0 21, s0 22, s0 23, s0 24, s0 25, s0 26, s0 27, s0 28, s0 29, s0 30, s0 31, s0 32, s0 33, s0 34, s0 35, s0 36, s0 37, s0 38, s0 39, s0 40, s0 41, s0 42, s0 43, s0 44, s0 45, s0 46, s0 47, s0 48, s0 49, s0 50, s0 51, s0 52, s0 53, s0 54, s0 55, s0 56, s0 57, s0 58, s0 59, s0 60, s0 61, s0 62, s0 63, s0 64, s0 65, s0 66, s0 67, s0 68, s0 69, s0 70, s0 71, s0 72, s0 73, s0 74, s0 75, s0 76, s0 77, s0 78, s0 79, s0 80, s0 81, s0 82, s0 83, s0 84, s0 85, s0 86, s0 87, s0 88, s0 89, s0 90, s0 91, s0 92, s0 93, s0 94, s0 95, s0 96, s0 97, s0 98, s0 99, s0 100, ud, ud, ud], []⟩ ∧ (Mm w' [(J2_0, zE (mrun n (wrapN n) a b i)), (J1_0, zE a), (J1_1, zE b), (J1_2, zero6), (g, zW n o s)] ∧ Below w.heap.size w w') ∧ i ≤ 6) (fun i => 6 - i) 0 ?st0 ?rd0
 case st0 => exact ⟨(slotfn [ud, ud, ud, ud, ud, ud, ud, ud, ud, ud, ud, ud, ud, ud, ud, ud, ud, ud, ud, ud, ud, ud, ud, ud, ud, ud, ud, ud, ud, ud, ud, ud, ud, ud, ud, ud, ud, ud, ud, ud, ud, ud, ud, ud, ud, ud, ud, ud, ud, ud, ud, ud, ud, ud, ud, ud, ud, ud, ud, ud, ud, ud, ud, ud, ud, ud, ud, ud, ud, ud, ud, ud, ud, ud, ud, ud, ud, ud, ud, ud, ud, ud, ud, ud, ud, ud, ud, ud, ud, ud, ud, ud, ud, ud, ud, ud, ud, ud, ud, ud, ud]), rfl, ⟨H3.out.1.at0 (cells_start n (wrapN n) a b), H3.out.2⟩, by omega⟩
 intro i a' w4 hI
 obtain ⟨s0, rfl, hMB, hk0⟩ := hI
 have H4 : Hid (_ ∧ _) := hMB
 clear hMB H3
 by_cases hlt : i < 6
 ·have hrd : True := trivial
  clear hrd
  have hx := wn_lt a i
  have hS0 := mrun_lt n (wrapN n) a b (by have := ok.three; omega) i
  obtain ⟨S, hS⟩ : ∃ S, S = mrun n (wrapN n) a b i := ⟨_, rfl⟩
  obtain ⟨X, hX⟩ : ∃ X, X = S + wn a i * b := ⟨_, rfl⟩
  obtain ⟨t, ht⟩ : ∃ t, t = mt X (wrapN n) := ⟨_, rfl⟩
  obtain ⟨Y, hY⟩ : ∃ Y, Y = X + t * n := ⟨_, rfl⟩
  obtain ⟨Z, hZ⟩ : ∃ Z, Z = mrun n (wrapN n) a b (i + 1) := ⟨_, rfl⟩
  have hZ1 : Z = mstep n (wrapN n) b S (wn a i) := by rw [hZ, hS]; rfl
  have htl : t < 18446744073709551616 := by rw [ht]; exact mt_lt _ _
  have hZ2 : Z < big := by have h1 := mrun_lt n (wrapN n) a b ok.pos (i + 1); have h2 := ok.top; rw [hZ]; omega
  have hS2 : S < big := by have h2 := ok.top; rw [hS]; omega
  have e1 : addLo (pLo (wn a i) (wn b 0)) (wd S 0) 0 = wd X 0 := by
   have h := cc_lo S (wn a i) b 0
   rw [cc_zero] at h
   rw [first_lo, hX, ← h]; rfl
  have e2 : IntKind.u64.wrap (pHi (wn a i) (wn b 0) + addHi (pLo (wn a i) (wn b 0)) (wd S 0) 0) = (cc S (wn a i) b 1 : Nat) := by
   have h := cc_hi S (wn a i) b 0
   rw [cc_zero] at h
   rw [first_hi _ _ _ hx (wn_lt b 0) (wd_bd S 0).1 (wd_bd S 0).2, ← h]; rfl
  have e3 : IntKind.u64.wrap (wd X 0 * wrapZ (wd n 0)) = (t : Nat) := by
   rw [IntKind.wrap_u64, ← wrapN_cast, ht, wd_wn]
   unfold mt wn
   rw [Nat.mul_zero, Nat.pow_zero, Nat.div_one, ← Int.natCast_mul]; rfl
  have e4 : IntKind.u64.wrap (pHi t (wn n 0) + addHi (pLo t (wn n 0)) (wd X 0) 0) = (cc X t n 1 : Nat) := by
   have h := cc_hi X t n 0
   rw [cc_zero] at h
   rw [first_hi _ _ _ htl (wn_lt n 0) (wd_bd X 0).1 (wd_bd X 0).2, ← h]; rfl
  have e5 : IntKind.u64.wrap (((cc S (wn a i) b 6 : Nat) : Int) + ((cc X t n 6 : Nat) : Int)) = wd Z 5 := by
   have h := step_top n (wrapN n) b S (wn a i) hS2 hb ok.big (by rw [← hZ1]; exact hZ2)
   rw [← hX, ← ht, ← hZ1] at h
   have h2 := wn_lt Z 5
   rw [IntKind.wrap_u64, wd_wn, ← h]
   omega
  have e6 : ∀ k, k < 5 → wd Z k = wd Y (k + 1) := fun k _ => by rw [hZ1, step_word, hY, hX, ht, ← hX]
  have cA : ∀ m, ∀ w, Calls Tryz.prog 163 #[.int .u64 (wd a i), .int .u64 (wd b m), .int .u64 (wd S m), .int .u64 ((cc S (wn a i) b m : Nat) : Int)] w (Rt w (.tuple #[.int .u64 (wd X m), .int .u64 ((cc S (wn a i) b (m + 1) : Nat) : Int)])) := fun m w => by
   have h := mulAddM_any (wd a i) (wd b m) (wd S m) ((cc S (wn a i) b m : Nat) : Int) (wd_bd _ _).1 (wd_bd _ _).2 (wd_bd _ _).1 (wd_bd _ _).2 (wd_bd _ _).1 (wd_bd _ _).2 (Int.natCast_nonneg _) (by have := cc_lt S (wn a i) b m hx; omega) w
   rw [wd_wn a i, cc_lo, cc_hi, ← hX] at h
   exact h.mono fun e w2 ⟨h1, h2⟩ => ⟨h1, h2 ▸ Below.refl _ _⟩
  have cB : ∀ m, ∀ w, Calls Tryz.prog 163 #[.int .u64 ((t : Nat) : Int), .int .u64 (wd n m), .int .u64 (wd X m), .int .u64 ((cc X t n m : Nat) : Int)] w (Rt w (.tuple #[.int .u64 (wd Y m), .int .u64 ((cc X t n (m + 1) : Nat) : Int)])) := fun m w => by
   have h := mulAddM_any ((t : Nat) : Int) (wd n m) (wd X m) ((cc X t n m : Nat) : Int) (Int.natCast_nonneg _) (by omega) (wd_bd _ _).1 (wd_bd _ _).2 (wd_bd _ _).1 (wd_bd _ _).2 (Int.natCast_nonneg _) (by have := cc_lt X t n m htl; omega) w
   rw [cc_lo, cc_hi, ← hY] at h
   exact h.mono fun e w2 ⟨h1, h2⟩ => ⟨h1, h2 ▸ Below.refl _ _⟩
  have cC : ∀ w, Calls Tryz.prog 162 #[.int .u64 (wd a i), .int .u64 (wd b 0)] w (Rt w (.tuple #[.int .u64 (pHi (wn a i) (wn b 0)), .int .u64 (pLo (wn a i) (wn b 0))])) := fun w =>
   (mul64' (wn a i) (wn b 0) hx (wn_lt b 0) w).mono fun e w2 ⟨h1, h2⟩ => ⟨h1, h2 ▸ Below.refl _ _⟩
  have cD : ∀ w, Calls Tryz.prog 162 #[.int .u64 ((t : Nat) : Int), .int .u64 (wd n 0)] w (Rt w (.tuple #[.int .u64 (pHi t (wn n 0)), .int .u64 (pLo t (wn n 0))])) := fun w =>
   (mul64' t (wn n 0) htl (wn_lt n 0) w).mono fun e w2 ⟨h1, h2⟩ => ⟨h1, h2 ▸ Below.refl _ _⟩
  have cE := fun w => add64' (pLo (wn a i) (wn b 0)) (wd S 0) 0 (by unfold pLo; omega) (wd_bd S 0).1 (by omega) (by omega) w
  rw [e1] at cE
  have cF := fun w => add64' (pLo t (wn n 0)) (wd X 0) 0 (by unfold pLo; omega) (wd_bd X 0).1 (by omega) (by omega) w
  have CA : Hid _ := cA
  have CB : Hid _ := cB
  have CC : Hid _ := cC
  have CD : Hid _ := cD
  have CE : Hid _ := cE
  have CF : Hid _ := cF
  have E6 : Hid _ := e6
  have HZ : Hid _ := hZ
  rw [← hS] at H4
  clear cA cB cC cD cE cF e6 hZ hZ1 hZ2 hS hS2 hS0 hX ht hY htl hx e1
  generalize addHi (pLo (wn a i) (wn b 0)) (wd S 0) 0 = k1 at e2 CE
  generalize addHi (pLo t (wn n 0)) (wd X 0) 0 = k2 at e4 CF
  generalize addLo (pLo t (wn n 0)) (wd X 0) 0 = z2 at CF
  generalize pHi (wn a i) (wn b 0) = h1 at e2 CC
  generalize pLo (wn a i) (wn b 0) = l1 at CC CE
  generalize pHi t (wn n 0) = h2 at e4 CD
  generalize pLo t (wn n 0) = l2 at CD CF
  refine wp_seq ?_
  refine zI 1 [.q (.bool true)] (sB H4) ?ho4 ?he4
  case ho4 => exact ak (by refine fun J => ⟨rfl, fun w' h => ?_⟩; clear h; go_simp <;> omega) trivial
  intro J w5 l hM hl
  have M5 : Mm w5 [(J2_0, zE S), (J1_0, zE a), (J1_1, zE b), (J1_2, zero6), (g, zW n o s)] := H4.out.1.grow hM (Nat.le_refl _) hl [] rfl (by decide)
  have B5 : Below w.heap.size w w5 := H4.out.2.trans ((hM.below).mono H4.out.2.size)
  clear hM hl l H4
  clear J
  have H5 : Hid (_ ∧ _) := ⟨M5, B5⟩
  clear M5 B5
  refine rN (wp_seq ?_)
  refine wp_cond_true rfl (wp_skip ?_)
  refine zB (wp_seq ?_)
  refine wp_block (wp_seq ?_)
  refine zI 2 [.q (.int .u64 (wd a i)), .q (.int .u64 (wd a i))] (sB H5) ?ho5 ?he5
  case ho5 => exact ak (fun J => ⟨rfl, fun w' _ => ex_index6 rfl rfl rfl hlt⟩) (ar trivial)
  intro J w6 l hM hl
  have M6 : Mm w6 [(J2_0, zE S), (J1_0, zE a), (J1_1, zE b), (J1_2, zero6), (g, zW n o s)] := H5.out.1.grow hM (Nat.le_refl _) hl [] rfl (by decide)
  have B6 : Below w.heap.size w w6 := H5.out.2.trans ((hM.below).mono H5.out.2.size)
  clear hM hl l H5
  clear J
  have H6 : Hid (_ ∧ _) := ⟨M6, B6⟩
  clear M6 B6
  refine rN (wp_seq ?_)
  refine zI 9 [.q (.int .u64 (wd a i)), .q (PT J1_1 0), .q (.int .u64 (wd b 0)), .call (.tuple #[.int .u64 h1, .int .u64 l1]), .q (.tuple #[.int .u64 h1, .int .u64 l1]), .q (.int .u64 h1), .q (.int .u64 l1), .q (.int .u64 h1), .q (.int .u64 l1)] (sB H6) ?ho6 ?he6
  case ho6 => exact ar (ag (aq (fun w' h => ex_load1 h 2 rfl rfl rfl rfl) (ac (fun w' h => eC call162 (CC.out w')) (ar (ag (ag (ar (ar trivial))))))))
  intro J w7 l hM hl
  have M7 : Mm w7 [(J2_0, zE S), (J1_0, zE a), (J1_1, zE b), (J1_2, zero6), (g, zW n o s)] := H6.out.1.grow hM (Nat.le_refl _) hl [] rfl (by decide)
  have B7 : Below w.heap.size w w7 := H6.out.2.trans ((hM.below).mono H6.out.2.size)
  clear hM hl l H6
  clear J
  have H7 : Hid (_ ∧ _) := ⟨M7, B7⟩
  clear M7 B7
  refine rN (wp_seq ?_)
  refine zI 7 [.q (.int .u64 l1), .q (PT J2_0 0), .q (.int .u64 (wd S 0)), .q (.tuple #[.int .u64 (wd X 0), .int .u64 k1]), .q (.tuple #[.int .u64 (wd X 0), .int .u64 k1]), .q (.int .u64 (wd X 0)), .q (.int .u64 k1)] (sB H7) ?ho7 ?he7
  case ho7 => exact ar (ag (aq (fun w' h => ex_load1 h 0 rfl rfl rfl rfl) (aq (fun w' h => ex_extern rfl (CE.out w') rfl (mpn rfl)) (ar (ag (ag trivial))))))
  intro J w8 l hM hl
  have M8 : Mm w8 [(J2_0, zE S), (J1_0, zE a), (J1_1, zE b), (J1_2, zero6), (g, zW n o s)] := H7.out.1.grow hM (Nat.le_refl _) hl [] rfl (by decide)
  have B8 : Below w.heap.size w w8 := H7.out.2.trans ((hM.below).mono H7.out.2.size)
  clear hM hl l H7
  clear J
  have H8 : Hid (_ ∧ _) := ⟨M8, B8⟩
  clear M8 B8
  refine zR (l := [7, 8]) rfl ?_
  refine zA (d := 11) rfl rfl rfl rfl ?_
  simp only [Act.put, sa, sz, ss]
  refine zA (d := 12) rfl rfl rfl rfl ?_
  simp only [Act.put, sa, sz, ss]
  refine zC (zB (wp_seq ?_))
  refine zI 4 [.q (.int .u64 h1), .q (.int .u64 k1), .q (.int .u64 ((cc S (wn a i) b 1 : Nat) : Int)), .q (.int .u64 ((cc S (wn a i) b 1 : Nat) : Int))] (sB H8) ?ho8 ?he8
  case ho8 => exact ar (ar (ag (ar trivial)))
  intro J w9 l hM hl
  have M9 : Mm w9 [(J2_0, zE S), (J1_0, zE a), (J1_1, zE b), (J1_2, zero6), (g, zW n o s)] := H8.out.1.grow hM (Nat.le_refl _) hl [] rfl (by decide)
  have B9 : Below w.heap.size w w9 := H8.out.2.trans ((hM.below).mono H8.out.2.size)
  clear hM hl l H8
  clear J
  have H9 : Hid (_ ∧ _) := ⟨M9, B9⟩
  clear M9 B9
  refine rN (wp_seq ?_)
  refine zI 7 [.q (.int .u64 (wd X 0)), .q (PT g 0), .q (PT g 0), .q (PT g 6), .q (.int .u64 (wrapZ (wd n 0))), .q (.int .u64 ((t : Nat) : Int)), .q (.int .u64 ((t : Nat) : Int))] (sB H9) ?ho9 ?he9
  case ho9 => exact ar (ar (ag (ag (aq (fun w' h => ex_load1 h 4 rfl rfl rfl rfl) (ag (ar trivial))))))
  intro J w10 l hM hl
  have M10 : Mm w10 [(J2_0, zE S), (J1_0, zE a), (J1_1, zE b), (J1_2, zero6), (g, zW n o s)] := H9.out.1.grow hM (Nat.le_refl _) hl [] rfl (by decide)
  have B10 : Below w.heap.size w w10 := H9.out.2.trans ((hM.below).mono H9.out.2.size)
  clear hM hl l H9
  clear J
  have H10 : Hid (_ ∧ _) := ⟨M10, B10⟩
  clear M10 B10
  refine rN (wp_seq ?_)
  refine zI 12 [.q (.int .u64 ((t : Nat) : Int)), .q (PT g 0), .q (PT g 0), .q (PT g 0), .q (PT g 0), .q (.int .u64 (wd n 0)), .call (.tuple #[.int .u64 h2, .int .u64 l2]), .q (.tuple #[.int .u64 h2, .int .u64 l2]), .q (.int .u64 h2), .q (.int .u64 l2), .q (.int .u64 h2), .q (.int .u64 l2)] (sB H10) ?ho10 ?he10
  case ho10 => exact ar (ar (ag (ag (ag (aq (fun w' h => ex_load1 h 4 rfl rfl rfl rfl) (ac (fun w' h => eC call162 (CD.out w')) (ar (ag (ag (ar (ar trivial)))))))))))
  intro J w11 l hM hl
  have M11 : Mm w11 [(J2_0, zE S), (J1_0, zE a), (J1_1, zE b), (J1_2, zero6), (g, zW n o s)] := H10.out.1.grow hM (Nat.le_refl _) hl [] rfl (by decide)
  have B11 : Below w.heap.size w w11 := H10.out.2.trans ((hM.below).mono H10.out.2.size)
  clear hM hl l H10
  clear J
  have H11 : Hid (_ ∧ _) := ⟨M11, B11⟩
  clear M11 B11
  refine rN (wp_seq ?_)
  refine zI 7 [.q (.int .u64 l2), .q (.int .u64 (wd X 0)), .q (.tuple #[.int .u64 z2, .int .u64 k2]), .q (.tuple #[.int .u64 z2, .int .u64 k2]), .q (.int .u64 z2), .q (.int .u64 k2), .q (.int .u64 k2)] (sB H11) ?ho11 ?he11
  case ho11 => exact ar (ar (aq (fun w' h => ex_extern rfl (CF.out w') rfl (mpn rfl)) (ar (ag (ag (ar trivial))))))
  intro J w12 l hM hl
  have M12 : Mm w12 [(J2_0, zE S), (J1_0, zE a), (J1_1, zE b), (J1_2, zero6), (g, zW n o s)] := H11.out.1.grow hM (Nat.le_refl _) hl [] rfl (by decide)
  have B12 : Below w.heap.size w w12 := H11.out.2.trans ((hM.below).mono H11.out.2.size)
  clear hM hl l H11
  clear J
  have H12 : Hid (_ ∧ _) := ⟨M12, B12⟩
  clear M12 B12
  refine rN (wp_seq ?_)
  refine zI 4 [.q (.int .u64 h2), .q (.int .u64 k2), .q (.int .u64 ((cc X t n 1 : Nat) : Int)), .q (.int .u64 ((cc X t n 1 : Nat) : Int))] (sB H12) ?ho12 ?he12
  case ho12 => exact ar (ar (ag (ar trivial)))
  intro J w13 l hM hl
  have M13 : Mm w13 [(J2_0, zE S), (J1_0, zE a), (J1_1, zE b), (J1_2, zero6), (g, zW n o s)] := H12.out.1.grow hM (Nat.le_refl _) hl [] rfl (by decide)
  have B13 : Below w.heap.size w w13 := H12.out.2.trans ((hM.below).mono H12.out.2.size)
  clear hM hl l H12
  clear J
  have H13 : Hid (_ ∧ _) := ⟨M13, B13⟩
  clear M13 B13
  refine rN (wp_seq (wp_seq ?_))
  refine zI 1 [.q (.int .i64 1)] (sB H13) ?ho13 ?he13
  case ho13 => exact ar trivial
  intro J w14 l hM hl
  have M14 : Mm w14 [(J2_0, zE S), (J1_0, zE a), (J1_1, zE b), (J1_2, zero6), (g, zW n o s)] := H13.out.1.grow hM (Nat.le_refl _) hl [] rfl (by decide)
  have B14 : Below w.heap.size w w14 := H13.out.2.trans ((hM.below).mono H13.out.2.size)
  clear hM hl l H13
  clear J
  have H14 : Hid (_ ∧ _) := ⟨M14, B14⟩
  clear M14 B14
  refine rN (wp_block ?_)
  refine loop_ghost (α := Nat) (fun m a' w' => ∃ s2 : Nat → Value, a' = ⟨#[PT g 0, N a, N b, ud, PT J1_0 0, PT J1_1 0, PT J1_2 0, PT J2_0 0, ud, .int .u64 (wd a i), .int .u64 h2, s2 11, .int .u64 k2, .int .u64 ((cc S (wn a i) b (m + 1) : Nat) : Int), .int .u64 ((t : Nat) : Int), .int .u64 l2, .int .u64 ((cc X t n (m + 1) : Nat) : Int), .int .i64 ((m + 1 : Nat) : Int), N a, .int .i64 ((i : Nat) : Int), .bool true, .int .u64 (wd a i), .tuple #[.int .u64 h1, .int .u64 l1], .int .u64 (wd a i), PT J1_1 0, .int .u64 (wd b 0), .tuple #[.int .u64 h1, .int .u64 l1], .int .u64 h1, .int .u64 l1, .tuple #[.int .u64 (wd X 0), .int .u64 k1], .int .u64 l1, PT J2_0 0, .int .u64 (wd S 0), .tuple #[.int .u64 (wd X 0), .int .u64 k1], .int .u64 (wd X 0), .int .u64 k1, .int .u64 h1, .int .u64 k1, .int .u64 ((cc S (wn a i) b 1 : Nat) : Int), .int .u64 (wd X 0), PT g 0, PT g 0, PT g 6, .int .u64 (wrapZ (wd n 0)), .int .u64 ((t : Nat) : Int), .tuple #[.int .u64 h2, .int .u64 l2], .int .u64 ((t : Nat) : Int), PT g 0, PT g 0, PT g 0, PT g 0, .int .u64 (wd n 0), .tuple #[.int .u64 h2, .int .u64 l2], .int .u64 h2, .int .u64 l2, .tuple #[.int .u64 z2, .int .u64 k2], .int .u64 l2, .int .u64 (wd X 0), .tuple #[.int .u64 z2, .int .u64 k2], .int .u64 z2, .int .u64 k2, .int .u64 h2, .int .u64 k2, .int .u64 ((cc X t n 1 : Nat) : Int), s2 64, s2 65, s2 66, s2 67, s2 68, s2 69, s2 70, s2 71, s2 72, s2 73, s2 74, s2 75, s2 76, s2 77, s2 78, s2 79, s2 80, s2 81, s2 82, s2 83, s2 84, s2 85, s2 86, s2 87, s2 88, s2 89, s2 90, s2 91, s2 92, s2 93, s2 94, s2 95, s0 96, s0 97, s0 98, s0 99, s0 100, ud, ud, ud], []⟩ ∧ (Mm w' [(J2_0, rowc (inn S Y (m + 1))), (J1_0, zE a), (J1_1, zE b), (J1_2, zero6), (g, zW n o s)] ∧ Below w.heap.size w w') ∧ m ≤ 5) (fun m => 5 - m) 0 ?st2 ?rd2
  case st2 => exact ⟨(slotfn [ud, ud, ud, ud, ud, ud, ud, ud, ud, ud, ud, .int .u64 (wd X 0), ud, ud, ud, ud, ud, ud, ud, ud, ud, ud, ud, ud, ud, ud, ud, ud, ud, ud, ud, ud, ud, ud, ud, ud, ud, ud, ud, ud, ud, ud, ud, ud, ud, ud, ud, ud, ud, ud, ud, ud, ud, ud, ud, ud, ud, ud, ud, ud, ud, ud, ud, ud, s0 64, s0 65, s0 66, s0 67, s0 68, s0 69, s0 70, s0 71, s0 72, s0 73, s0 74, s0 75, s0 76, s0 77, s0 78, s0 79, s0 80, s0 81, s0 82, s0 83, s0 84, s0 85, s0 86, s0 87, s0 88, s0 89, s0 90, s0 91, s0 92, s0 93, s0 94, s0 95]), rfl, ⟨H14.out.1, H14.out.2⟩, by omega⟩
  intro m a' w15 hI
  obtain ⟨s2, rfl, hMB, hk2⟩ := hI
  have H15 : Hid (_ ∧ _) := hMB
  clear hMB H14
  by_cases hlt2 : m < 5
  ·have hrd : True := trivial
   clear hrd
   have hm6 : m + 1 < 6 := by omega
   refine wp_seq (wp_seq ?_)
   refine zI 2 [.q (.int .i64 ((m + 1 : Nat) : Int)), .q (.bool true)] (sB H15) ?ho14 ?he14
   case ho14 => exact ar (ak (by refine fun J => ⟨rfl, fun w' h => ?_⟩; clear h; go_simp <;> omega) trivial)
   intro J w16 l hM hl
   have M16 : Mm w16 [(J2_0, rowc (inn S Y (m + 1))), (J1_0, zE a), (J1_1, zE b), (J1_2, zero6), (g, zW n o s)] := H15.out.1.grow hM (Nat.le_refl _) hl [] rfl (by decide)
   have B16 : Below w.heap.size w w16 := H15.out.2.trans ((hM.below).mono H15.out.2.size)
   clear hM hl l H15
   clear J
   have H16 : Hid (_ ∧ _) := ⟨M16, B16⟩
   clear M16 B16
   refine rN (wp_cond_true rfl ?_)
   refine wp_skip (zB ?_)
   refine wp_seq (wp_block (wp_seq ?_))
   refine walk_anyA 13 [.q (.int .u64 (wd a i)), .q (.int .i64 ((m + 1 : Nat) : Int)), .q (PT J1_1 (0 + (m + 1))), .q (.int .u64 (wd b (m + 1))), .q (.int .i64 ((m + 1 : Nat) : Int)), .q (PT J2_0 (0 + (m + 1))), .q (.int .u64 (wd S (m + 1))), .q (.int .u64 ((cc S (wn a i) b (m + 1) : Nat) : Int)), .call (.tuple #[.int .u64 (wd X (m + 1)), .int .u64 ((cc S (wn a i) b (m + 1 + 1) : Nat) : Int)]), .q (.tuple #[.int .u64 (wd X (m + 1)), .int .u64 ((cc S (wn a i) b (m + 1 + 1) : Nat) : Int)]), .q (.int .u64 (wd X (m + 1))), .q (.int .u64 ((cc S (wn a i) b (m + 1 + 1) : Nat) : Int)), .q (.int .u64 (wd X (m + 1)))] (sB H16) ?ho15 ?he15
   case ho15 => exact ar (ar (ak (fun J => ⟨rfl, fun w' _ => ex_indexAddr6 rfl rfl rfl hm6⟩) (aq (fun w' h => ex_load1 h 2 rfl rfl rfl (row_at (f := wd b) hm6)) (ar (ak (fun J => ⟨rfl, fun w' _ => ex_indexAddr6 rfl rfl rfl hm6⟩) (aq (fun w' h => ex_load1 h 0 rfl rfl rfl (inn_at hm6)) (ar (ac (fun w' h => eC call163 (CA.out (m + 1) w')) (ar (ag (ag (ar trivial))))))))))))
   intro J w17 l hM hl
   have M17 : Mm w17 [(J2_0, rowc (inn S Y (m + 1))), (J1_0, zE a), (J1_1, zE b), (J1_2, zero6), (g, zW n o s)] := H16.out.1.grow hM (Nat.le_refl _) hl [] rfl (by decide)
   have B17 : Below w.heap.size w w17 := H16.out.2.trans ((hM.below).mono H16.out.2.size)
   clear hM hl l H16
   clear J
   have H17 : Hid (_ ∧ _) := ⟨M17, B17⟩
   clear M17 B17
   refine zR (l := [13]) rfl ?_
   refine zA (d := 13) rfl rfl rfl rfl ?_
   simp only [Act.put, sa, sz, ss]
   refine zC (zB ?_)
   refine zI 16 [.q (.int .i64 ((m + 1 : Nat) : Int)), .q (.int .i64 ((m : Nat) : Int)), .q (.int .u64 ((t : Nat) : Int)), .q (PT g 0), .q (.int .i64 ((m + 1 : Nat) : Int)), .q (PT g 0), .q (PT g 0), .q (PT g (0 + (m + 1))), .q (.int .u64 (wd n (m + 1))), .q (.int .u64 (wd X (m + 1))), .q (.int .u64 ((cc X t n (m + 1) : Nat) : Int)), .call (.tuple #[.int .u64 (wd Y (m + 1)), .int .u64 ((cc X t n (m + 1 + 1) : Nat) : Int)]), .q (.tuple #[.int .u64 (wd Y (m + 1)), .int .u64 ((cc X t n (m + 1 + 1) : Nat) : Int)]), .q (.int .u64 (wd Y (m + 1))), .q (.int .u64 ((cc X t n (m + 1 + 1) : Nat) : Int)), .q (PT J2_0 (0 + m))] (sB H17) ?ho16 ?he16
   case ho16 => exact ar (ak (by refine fun J => ⟨rfl, fun w' h => ?_⟩; clear h; go_simp; rw [IntKind.wrap_i64]; omega) (ar (ar (ar (ag (ag (ak (fun J => ⟨rfl, fun w' _ => ex_indexAddr6 rfl rfl rfl hm6⟩) (aq (fun w' h => ex_load1 h 4 rfl rfl rfl (modn_at hm6)) (ar (ar (ac (fun w' h => eC call163 (CB.out (m + 1) w')) (ar (ag (ag (ak (fun J => ⟨rfl, fun w' _ => ex_indexAddr6 rfl rfl rfl (Nat.lt_of_succ_lt hm6)⟩) trivial)))))))))))))))
   intro J w18 l hM hl
   have M18 : Mm w18 [(J2_0, rowc (inn S Y (m + 1))), (J1_0, zE a), (J1_1, zE b), (J1_2, zero6), (g, zW n o s)] := H17.out.1.grow hM (Nat.le_refl _) hl [] rfl (by decide)
   have B18 : Below w.heap.size w w18 := H17.out.2.trans ((hM.below).mono H17.out.2.size)
   clear hM hl l H17
   clear J
   have H18 : Hid (_ ∧ _) := ⟨M18, B18⟩
   clear M18 B18
   refine zR (l := [16, 17]) rfl ?_
   refine rest_store rfl rfl rfl (ex_storeI H18.out.1 0 rfl rfl As22 rfl rfl (row_bd (Nat.lt_of_succ_lt hm6))) ?_
   have H19 : Hid (Mm (w18.setCells J2_0 (0 + m) [.int .u64 (wd Y (m + 1))]) [(J2_0, rowc (inn S Y (m + 1 + 1))), (J1_0, zE a), (J1_1, zE b), (J1_2, zero6), (g, zW n o s)] ∧ Below w.heap.size w (w18.setCells J2_0 (0 + m) [.int .u64 (wd Y (m + 1))])) := ⟨by
    have h := H18.out.1.put 0 (off := (0 + m)) (vs := [.int .u64 (wd Y (m + 1))]) rfl (row_bd (Nat.lt_of_succ_lt hm6))
    rw [patch_row (Nat.lt_of_succ_lt hm6), inn_step rfl] at h
    exact h, below_setCells _ o2_0.out _ _ _ H18.out.2⟩
   clear H18
   generalize hgw : World.setCells _ _ _ _ = w19 at H19 ⊢
   clear hgw
   refine zA (d := 16) rfl rfl rfl rfl ?_
   simp only [Act.put, sa, sz, ss]
   refine zC (zS (zB ?_))
   refine zI 2 [.q (.int .i64 ((m + 1 : Nat) : Int)), .q (.int .i64 ((m + 1 + 1 : Nat) : Int))] (sB H19) ?ho17 ?he17
   case ho17 => exact ar (ak (by refine fun J => ⟨rfl, fun w' h => ?_⟩; clear h; go_simp; rw [IntKind.wrap_i64]; omega) trivial)
   intro J w20 l hM hl
   have M20 : Mm w20 [(J2_0, rowc (inn S Y (m + 1 + 1))), (J1_0, zE a), (J1_1, zE b), (J1_2, zero6), (g, zW n o s)] := H19.out.1.grow hM (Nat.le_refl _) hl [] rfl (by decide)
   have B20 : Below w.heap.size w w20 := H19.out.2.trans ((hM.below).mono H19.out.2.size)
   clear hM hl l H19
   clear J
   have H20 : Hid (_ ∧ _) := ⟨M20, B20⟩
   clear M20 B20
   refine zR (l := [2]) rfl ?_
   refine zA (d := 17) rfl rfl rfl rfl ?_
   simp only [Act.put, sa, sz, ss]
   refine zC (zB ?_)
   exact ⟨m + 1, ⟨(slotfn [ud, ud, ud, ud, ud, ud, ud, ud, ud, ud, ud, .int .u64 (wd X (m + 1)), ud, ud, ud, ud, ud, ud, ud, ud, ud, ud, ud, ud, ud, ud, ud, ud, ud, ud, ud, ud, ud, ud, ud, ud, ud, ud, ud, ud, ud, ud, ud, ud, ud, ud, ud, ud, ud, ud, ud, ud, ud, ud, ud, ud, ud, ud, ud, ud, ud, ud, ud, ud, .int .i64 ((m + 1 : Nat) : Int), .bool true, .int .i64 ((m + 1 : Nat) : Int), .int .i64 ((m + 1 + 1 : Nat) : Int), .tuple #[.int .u64 (wd X (m + 1)), .int .u64 ((cc S (wn a i) b (m + 1 + 1) : Nat) : Int)], .int .u64 (wd a i), .int .i64 ((m + 1 : Nat) : Int), PT J1_1 (0 + (m + 1)), .int .u64 (wd b (m + 1)), .int .i64 ((m + 1 : Nat) : Int), PT J2_0 (0 + (m + 1)), .int .u64 (wd S (m + 1)), .int .u64 ((cc S (wn a i) b (m + 1) : Nat) : Int), .tuple #[.int .u64 (wd X (m + 1)), .int .u64 ((cc S (wn a i) b (m + 1 + 1) : Nat) : Int)], .int .u64 (wd X (m + 1)), .int .u64 ((cc S (wn a i) b (m + 1 + 1) : Nat) : Int), .tuple #[.int .u64 (wd Y (m + 1)), .int .u64 ((cc X t n (m + 1 + 1) : Nat) : Int)], .int .i64 ((m + 1 : Nat) : Int), .int .i64 ((m : Nat) : Int), .int .u64 ((t : Nat) : Int), PT g 0, .int .i64 ((m + 1 : Nat) : Int), PT g 0, PT g 0, PT g (0 + (m + 1)), .int .u64 (wd n (m + 1)), .int .u64 (wd X (m + 1)), .int .u64 ((cc X t n (m + 1) : Nat) : Int), .tuple #[.int .u64 (wd Y (m + 1)), .int .u64 ((cc X t n (m + 1 + 1) : Nat) : Int)], .int .u64 (wd Y (m + 1)), .int .u64 ((cc X t n (m + 1 + 1) : Nat) : Int), PT J2_0 (0 + m)]), rfl, ⟨H20.out.1, H20.out.2⟩, by omega⟩, by omega⟩
  have hm5 : m = 5 := by omega
  subst hm5
  refine wp_seq (wp_seq ?_)
  refine zI 2 [.q (.int .i64 ((5 + 1 : Nat) : Int)), .q (.bool false)] (sB H15) ?ho18 ?he18
  case ho18 => exact ar (ak (by refine fun J => ⟨rfl, fun w' h => ?_⟩; clear h; go_simp <;> omega) trivial)
  intro J w21 l hM hl
  have M21 : Mm w21 [(J2_0, rowc (inn S Y (5 + 1))), (J1_0, zE a), (J1_1, zE b), (J1_2, zero6), (g, zW n o s)] := H15.out.1.grow hM (Nat.le_refl _) hl [] rfl (by decide)
  have B21 : Below w.heap.size w w21 := H15.out.2.trans ((hM.below).mono H15.out.2.size)
  clear hM hl l H15
  clear J
  have H21 : Hid (_ ∧ _) := ⟨M21, B21⟩
  clear M21 B21
  refine rN (wp_cond_false rfl ?_)
  refine wp_exit ?_
  repeat refine zX ?_
  refine zT ?_
  refine zB ?_
  refine zI 4 [.q (.int .u64 ((cc S (wn a i) b (5 + 1) : Nat) : Int)), .q (.int .u64 ((cc X t n (5 + 1) : Nat) : Int)), .q (.int .u64 (wd Z 5)), .q (PT J2_0 5)] (sB H21) ?ho19 ?he19
  case ho19 => exact ar (ar (ag (ag trivial)))
  intro J w22 l hM hl
  have M22 : Mm w22 [(J2_0, rowc (inn S Y (5 + 1))), (J1_0, zE a), (J1_1, zE b), (J1_2, zero6), (g, zW n o s)] := H21.out.1.grow hM (Nat.le_refl _) hl [] rfl (by decide)
  have B22 : Below w.heap.size w w22 := H21.out.2.trans ((hM.below).mono H21.out.2.size)
  clear hM hl l H21
  clear J
  have H22 : Hid (_ ∧ _) := ⟨M22, B22⟩
  clear M22 B22
  refine zR (l := [4]) rfl ?_
  refine rest_store rfl rfl rfl (ex_storeI H22.out.1 0 rfl rfl As22 rfl rfl (Nat.le_of_ble_eq_true rfl)) ?_
  have H23 : Hid (Mm (w22.setCells J2_0 5 [.int .u64 (wd Z 5)]) [(J2_0, zE Z), (J1_0, zE a), (J1_1, zE b), (J1_2, zero6), (g, zW n o s)] ∧ Below w.heap.size w (w22.setCells J2_0 5 [.int .u64 (wd Z 5)])) := ⟨by
   have h := H22.out.1.put 0 (off := 5) (vs := [.int .u64 (wd Z 5)]) rfl (Nat.le_of_ble_eq_true rfl)
   rw [patch_row5, inn_end rfl E6.out] at h
   exact h, below_setCells _ o2_0.out _ _ _ H22.out.2⟩
  clear H22
  generalize hgw : World.setCells _ _ _ _ = w23 at H23 ⊢
  clear hgw
  refine zC (zS (zB ?_))
  refine zI 1 [.q (.int .i64 ((i + 1 : Nat) : Int))] (sB H23) ?ho20 ?he20
  case ho20 => exact ak (by refine fun J => ⟨rfl, fun w' h => ?_⟩; clear h; go_simp; rw [IntKind.wrap_i64]; omega) trivial
  intro J w24 l hM hl
  have M24 : Mm w24 [(J2_0, zE Z), (J1_0, zE a), (J1_1, zE b), (J1_2, zero6), (g, zW n o s)] := H23.out.1.grow hM (Nat.le_refl _) hl [] rfl (by decide)
  have B24 : Below w.heap.size w w24 := H23.out.2.trans ((hM.below).mono H23.out.2.size)
  clear hM hl l H23
  clear J
  have H24 : Hid (_ ∧ _) := ⟨M24, B24⟩
  clear M24 B24
  refine zR (l := [1]) rfl ?_
  refine zA (d := 19) rfl rfl rfl rfl ?_
  simp only [Act.put, sa, sz, ss]
  refine zC (zB ?_)
  exact ⟨i + 1, ⟨(slotfn [ud, ud, ud, ud, ud, ud, ud, ud, ud, .int .u64 (wd a i), .int .u64 h2, s2 11, .int .u64 k2, .int .u64 ((cc S (wn a i) b (5 + 1) : Nat) : Int), .int .u64 ((t : Nat) : Int), .int .u64 l2, .int .u64 ((cc X t n (5 + 1) : Nat) : Int), .int .i64 ((5 + 1 : Nat) : Int), ud, ud, .bool true, .int .u64 (wd a i), .tuple #[.int .u64 h1, .int .u64 l1], .int .u64 (wd a i), PT J1_1 0, .int .u64 (wd b 0), .tuple #[.int .u64 h1, .int .u64 l1], .int .u64 h1, .int .u64 l1, .tuple #[.int .u64 (wd X 0), .int .u64 k1], .int .u64 l1, PT J2_0 0, .int .u64 (wd S 0), .tuple #[.int .u64 (wd X 0), .int .u64 k1], .int .u64 (wd X 0), .int .u64 k1, .int .u64 h1, .int .u64 k1, .int .u64 ((cc S (wn a i) b 1 : Nat) : Int), .int .u64 (wd X 0), PT g 0, PT g 0, PT g 6, .int .u64 (wrapZ (wd n 0)), .int .u64 ((t : Nat) : Int), .tuple #[.int .u64 h2, .int .u64 l2], .int .u64 ((t : Nat) : Int), PT g 0, PT g 0, PT g 0, PT g 0, .int .u64 (wd n 0), .tuple #[.int .u64 h2, .int .u64 l2], .int .u64 h2, .int .u64 l2, .tuple #[.int .u64 z2, .int .u64 k2], .int .u64 l2, .int .u64 (wd X 0), .tuple #[.int .u64 z2, .int .u64 k2], .int .u64 z2, .int .u64 k2, .int .u64 h2, .int .u64 k2, .int .u64 ((cc X t n 1 : Nat) : Int), .int .i64 ((5 + 1 : Nat) : Int), .bool false, s2 66, s2 67, s2 68, s2 69, s2 70, s2 71, s2 72, s2 73, s2 74, s2 75, s2 76, s2 77, s2 78, s2 79, s2 80, s2 81, s2 82, s2 83, s2 84, s2 85, s2 86, s2 87, s2 88, s2 89, s2 90, s2 91, s2 92, s2 93, s2 94, s2 95, .int .u64 ((cc S (wn a i) b (5 + 1) : Nat) : Int), .int .u64 ((cc X t n (5 + 1) : Nat) : Int), .int .u64 (wd Z 5), PT J2_0 5, .int .i64 ((i + 1 : Nat) : Int)]), rfl, by rw [← HZ.out]; exact H24.out, by omega⟩, by omega⟩
 have hi6 : i = 6 := by omega
 subst hi6
 refine wp_seq ?_
 refine zI 1 [.q (.bool false)] (sB H4) ?ho21 ?he21
 case ho21 => exact ak (by refine fun J => ⟨rfl, fun w' h => ?_⟩; clear h; go_simp <;> omega) trivial
 intro J w25 l hM hl
 have M25 : Mm w25 [(J2_0, zE (mrun n (wrapN n) a b 6)), (J1_0, zE a), (J1_1, zE b), (J1_2, zero6), (g, zW n o s)] := H4.out.1.grow hM (Nat.le_refl _) hl [] rfl (by decide)
 have B25 : Below w.heap.size w w25 := H4.out.2.trans ((hM.below).mono H4.out.2.size)
 clear hM hl l H4
 clear J
 have H25 : Hid (_ ∧ _) := ⟨M25, B25⟩
 clear M25 B25
 refine rN (wp_seq (wp_cond_false rfl ?_))
 refine wp_exit ?_
 repeat refine zX ?_
 refine zT ?_
 refine zB (wp_seq ?_)
 refine zI 3 [.q (PT g 0), .q (N (mrun n (wrapN n) a b 6)), .call (N (mont n a b))] (sB H25) ?ho22 ?he22
 case ho22 => exact ar (bN 0 (ac (fun w' h => eC call164 (CG.out w' (h.one 4 rfl))) trivial))
 intro J w26 l hM hl
 have M26 : Mm w26 [(J2_0, zE (mrun n (wrapN n) a b 6)), (J1_0, zE a), (J1_1, zE b), (J1_2, zero6), (g, zW n o s)] := H25.out.1.grow hM (Nat.le_refl _) hl [] rfl (by decide)
 have B26 : Below w.heap.size w w26 := H25.out.2.trans ((hM.below).mono H25.out.2.size)
 clear hM hl l H25
 clear J
 have H26 : Hid (_ ∧ _) := ⟨M26, B26⟩
 clear M26 B26
 refine zR (l := [3]) rfl ?_
 refine sG rfl (fun h => zQ h 3 rfl rfl rfl rfl (Nat.le_of_ble_eq_true rfl)) 3 [_, _, _, (_, zE (mont n a b)), _] H26 o1_2 fun w27 H27 => ?_
 clear H26
 refine zC (zB (wp_ret ?_))
 repeat (first | refine zL ?_ | refine zK ?_)
 have c0 := H27.out.1.get 3 rfl 0 rfl
 have c1 := H27.out.1.get 3 rfl 1 rfl
 have c2 := H27.out.1.get 3 rfl 2 rfl
 have c3 := H27.out.1.get 3 rfl 3 rfl
 have c4 := H27.out.1.get 3 rfl 4 rfl
 have c5 := H27.out.1.get 3 rfl 5 rfl
 refine bodyPost_ret (v := N (mont n a b)) (by simp [results, Tryz.results115, go_sem, *]) rfl ?_
 exact ⟨rfl, H27.out.2⟩
theorem ex_shl {ρ : Operand → Value} {o : Oper} {x y : Operand} {a : Int} {k : Nat} {w : World} (ho : o.op = .binOp .shl 22 x y 3) (hx : ρ x = .int .u64 a) (hy : ρ y = .int .i64 ((k : Nat) : Int)) (hk : k ≤ 64) :
  (execOp ρ o).run Tryz.prog w = .ok (.value (.int .u64 (IntKind.u64.wrap (a * 2 ^ k)))) w := by
 simp only [execOp, ho, hx, hy]
 clear ho hx hy
 go_simp
theorem ex_shr {ρ : Operand → Value} {o : Oper} {x y : Operand} {a : Int} {k : Nat} {w : World} (ho : o.op = .binOp .shr 22 x y 3) (hx : ρ x = .int .u64 a) (hy : ρ y = .int .i64 ((k : Nat) : Int)) (hk : k ≤ 64) :
  (execOp ρ o).run Tryz.prog w = .ok (.value (.int .u64 (a / 2 ^ k))) w := by
 simp only [execOp, ho, hx, hy]
 clear ho hx hy
 go_simp
theorem ex_or {ρ : Operand → Value} {o : Oper} {x y : Operand} {a b : Int} {w : World} (ho : o.op = .binOp .or 22 x y 22) (hx : ρ x = .int .u64 a) (hy : ρ y = .int .u64 b) :
  (execOp ρ o).run Tryz.prog w = .ok (.value (.int .u64 (bits .or .u64 a b))) w := by
 simp only [execOp, ho, hx, hy]
 clear ho hx hy
 go_simp
set_option maxHeartbeats 400000 in
theorem guessM_any (h l t : Nat) (hl : l < 18446744073709551616) (ht : t < 18446744073709551616) (w : World) :
  Calls Tryz.prog 213 #[.int .u64 h, .int .u64 l, .int .u64 t] w (Rt w (.int .u64 ((gs h l t : Nat) : Int))) := by
 unfold gs
 by_cases c : t ≤ h
 ·rw [if_pos c]
  clear hl ht
  go_enter Tryz.func213, Tryz.ntmps213
  go_wp2
  go_ret
  exact ⟨rfl, Below.refl _ _⟩
 ·rw [if_neg c]
  have hc := fun w => div64_any h l t (by omega) ht hl w
  generalize (h * 18446744073709551616 + l) / t = q at hc ⊢
  have HC : Hid _ := hc
  clear hc hl ht
  go_enter Tryz.func213, Tryz.ntmps213
  go_wp2_with (go_at_call 197; refine (HC.out _).mono ?_; rintro e w' ⟨rr, rfl, hb⟩)
  go_ret
  obtain ⟨k, rfl⟩ := hb
  exact ⟨rfl, below_drewN (Below.refl _ _) k⟩
/-- A divisor and what is left, in memory. -/
abbrev lec (b : Nat) (f : Nat → Int) : List Value := [.int .u64 (wd b 0), .int .u64 (wd b 1), .int .u64 (wd b 2), .int .u64 (wd b 3), .int .u64 (wd b 4), .int .u64 (wd b 5), .int .u64 (f 0), .int .u64 (f 1), .int .u64 (f 2), .int .u64 (f 3), .int .u64 (f 4), .int .u64 (f 5)]
theorem lec_hi {b : Nat} {f : Nat → Int} {j : Nat} (hj : j < 6) : (lec b f)[6 + j]? = some (.int .u64 (f j)) := by
 match j, hj with
 | 0, _ => rfl
 | 1, _ => rfl
 | 2, _ => rfl
 | 3, _ => rfl
 | 4, _ => rfl
 | 5, _ => rfl
theorem lec_lo {b : Nat} {f : Nat → Int} {j : Nat} (hj : j < 6) : (lec b f)[0 + j]? = some (.int .u64 (wd b j)) := by
 match j, hj with
 | 0, _ => rfl
 | 1, _ => rfl
 | 2, _ => rfl
 | 3, _ => rfl
 | 4, _ => rfl
 | 5, _ => rfl
theorem lec_put {b : Nat} {f : Nat → Int} {j : Nat} {v : Int} (hj : j < 6) : patch (lec b f) (6 + j) [.int .u64 v] = lec b (upd f j v) := by
 match j, hj with
 | 0, _ => rfl
 | 1, _ => rfl
 | 2, _ => rfl
 | 3, _ => rfl
 | 4, _ => rfl
 | 5, _ => rfl
theorem lec_bd {b : Nat} {f : Nat → Int} {j : Nat} (hj : j < 6) : 6 + j < (lec b f).length := by
 show 6 + j < 12
 omega
theorem lec_congr {b : Nat} {f g : Nat → Int} (h : ∀ j, j < 6 → f j = g j) : lec b f = lec b g := by
 unfold lec
 rw [h 0 (by decide), h 1 (by decide), h 2 (by decide), h 3 (by decide), h 4 (by decide), h 5 (by decide)]
/-! Words of a number that is shifted by at most a word. -/
theorem sh_bits (a n k : Nat) (hn : n ≤ 64) : ((a >>> (64 * (k + 1)) % 2 ^ 64) <<< n) % 2 ^ 64 ||| (a >>> (64 * k) % 2 ^ 64) >>> (64 - n) = (a <<< n) >>> (64 * (k + 1)) % 2 ^ 64 := by
 apply Nat.eq_of_testBit_eq
 intro i
 simp only [Nat.testBit_or, Nat.testBit_mod_two_pow, Nat.testBit_shiftLeft, Nat.testBit_shiftRight]
 by_cases hi : i < 64
 ·have e1 : n ≤ 64 * (k + 1) + i := by omega
  by_cases ht : n ≤ i
  ·have e2 : 64 * (k + 1) + (i - n) = 64 * (k + 1) + i - n := by omega
   have e3 : i - n < 64 := by omega
   have e4 : ¬ 64 - n + i < 64 := by omega
   simp [hi, ht, e1, e2, e3, e4]
  ·have e4 : 64 - n + i < 64 := by omega
   have e5 : 64 * k + (64 - n + i) = 64 * (k + 1) + i - n := by omega
   simp [hi, ht, e1, e4, e5]
 ·have e4 : ¬ 64 - n + i < 64 := by omega
  simp [hi, e4]
theorem sh_word (a n k : Nat) (hn : n ≤ 64) : bits .or .u64 (IntKind.u64.wrap (wd a (k + 1) * 2 ^ n)) (wd a k / 2 ^ (64 - n)) = wd (a * 2 ^ n) (k + 1) := by
 rw [wd_shr, wrap_shl, wd_shr, div_shr, wd_shr, ← Nat.shiftLeft_eq, ← sh_bits a n k hn]
 refine bits_or_u64_nat _ _ (Nat.mod_lt _ (by decide)) ?_
 rw [Nat.shiftRight_eq_div_pow]
 exact Nat.lt_of_le_of_lt (Nat.div_le_self _ _) (Nat.mod_lt _ (by decide))
theorem sh_low (a n : Nat) : IntKind.u64.wrap (wd a 0 * 2 ^ n) = wd (a * 2 ^ n) 0 := by
 rw [wd_shr, wrap_shl, wd_shr, Nat.mul_zero, Nat.shiftRight_zero, Nat.shiftRight_zero, Nat.shiftLeft_eq, Nat.mod_mul_mod]
theorem wd_last (a j : Nat) (h : a < 2 ^ (64 * (j + 1))) : wd a j = ((a / 2 ^ (64 * j) : Nat) : Int) := by
 unfold wd
 rw [Nat.mod_eq_of_lt]
 rw [Nat.div_lt_iff_lt_mul (pow_pos' j), Nat.mul_comm, ← pow_step]
 exact h
theorem sh_topj (a n j : Nat) (ha : a < 2 ^ (64 * (j + 1))) (hn : n ≤ 64) : wd a j / 2 ^ (64 - n) = ((a * 2 ^ n / 2 ^ (64 * (j + 1)) : Nat) : Int) := by
 rw [wd_last a j ha, div_shr, Nat.shiftRight_eq_div_pow, Nat.div_div_eq_div_mul]
 congr 1
 have hW : 18446744073709551616 = 2 ^ (64 - n) * 2 ^ n := by
  rw [← Nat.pow_add, Nat.sub_add_cancel hn]
 rw [pow_step j, hW, ← Nat.mul_assoc, Nat.mul_div_mul_right _ _ (Nat.two_pow_pos n)]
theorem big_j (j : Nat) (hj : j = 5) : big = 2 ^ (64 * (j + 1)) := by
 obtain ⟨m, hm, e⟩ := big_pow
 rw [e, show m = j + 1 by omega]
theorem sh_top (a n : Nat) (ha : a < big) (hn : n ≤ 64) : wd a 5 / 2 ^ (64 - n) = ((a * 2 ^ n / big : Nat) : Int) := by
 obtain ⟨j, hj⟩ : ∃ j, j = 5 := ⟨5, rfl⟩
 rw [big_j j hj] at ha ⊢
 rw [← hj]
 exact sh_topj a n j ha hn
/-- What is left, words above the k-th from above shifted. -/
def shf (a n k m : Nat) : Int := if 5 - k < m then wd (a * 2 ^ n) m else wd a m
theorem shf_at {a n k m b : Nat} (hm : m ≤ 5 - k) (h6 : m < 6) : (lec b (shf a n k))[6 + m]? = some (.int .u64 (wd a m)) := by
 rw [lec_hi h6]
 unfold shf
 rw [if_neg (by omega)]
theorem shf_step {a n k b : Nat} {v : Int} (hk : k < 5) (h : v = wd (a * 2 ^ n) (5 - k)) : lec b (upd (shf a n k) (5 - k) v) = lec b (shf a n (k + 1)) := lec_congr fun j _ => by
 unfold upd shf
 by_cases h1 : j = 5 - k
 ·subst h1; rw [if_pos rfl, if_pos (by omega), h]
 ·rw [if_neg h1]
  by_cases h2 : 5 - k < j
  ·rw [if_pos h2, if_pos (by omega)]
  ·rw [if_neg h2, if_neg (by omega)]
theorem shf_start (a n b : Nat) : lec b (wd a) = lec b (shf a n 0) := lec_congr fun j hj => by
 unfold shf
 rw [if_neg (by omega)]
theorem lec_put0 {b : Nat} {f : Nat → Int} {v : Int} : patch (lec b f) 6 [.int .u64 v] = lec b (upd f 0 v) := rfl
theorem shf_end (a n b : Nat) : lec b (upd (shf a n 5) 0 (IntKind.u64.wrap (wd a 0 * 2 ^ n))) = lec b (wd (a * 2 ^ n % big)) := lec_congr fun j hj => by
 rw [wd_mod _ _ hj]
 unfold upd shf
 by_cases h1 : j = 0
 ·subst h1; rw [if_pos rfl, sh_low]
 ·rw [if_neg h1, if_pos (by omega)]
set_option maxHeartbeats 1000000 in
theorem shift_gen (g b L i : Nat) (hi : i ≤ 64) (w : World) (hm : Mm w [(g, lec b (wd L))]) :
  Calls Tryz.prog 211 #[PT g 0, .int .i64 ((i : Nat) : Int)] w fun e w' => e = .returned (.int .u64 (wd L 5 / 2 ^ (64 - i))) ∧ Mm w' [(g, lec b (wd (L * 2 ^ i % big)))] ∧ Kp g w w' := by
 have H0 : Hid (_ ∧ _) := ⟨hm, Kp.refl g w⟩
 clear hm
 go_enter Tryz.func211, Tryz.ntmps211
 refine wp_seq ?_
 refine zI 1 [.q (.int .u64 0)] (sB H0) ?ho1 ?he1
 case ho1 => exact ar trivial
 intro J w1 l hM hl
 have H1 := keepK H0 hM.below
 clear hM hl l J
 refine rN (wp_seq ?_)
 refine zI 1 [.q (.int .i64 5)] (sB H1) ?ho2 ?he2
 case ho2 => exact ar trivial
 intro J w2 l hM hl
 have H2 := keepK H1 hM.below
 clear hM hl l H1 J
 refine rN (wp_seq ?_)
 refine zI 10 [.q (PT g 0), .q (.int .i64 5), .q (PT g 0), .q (PT g 6), .q (PT g 11), .q (.int .u64 (wd L 5)), .q (.int .i64 ((i : Nat) : Int)), .q (.int .i64 ((64 - i : Nat) : Int)), .q (.int .u64 ((wd L 5) / 2 ^ (64 - i))), .q (.int .u64 ((wd L 5) / 2 ^ (64 - i)))] (sB H2) ?ho3 ?he3
 case ho3 => exact ar (ar (ag (ag (ag (aq (fun w' h => ex_load1 h 0 rfl rfl rfl rfl) (ar (ak (by refine fun J => ⟨rfl, fun w' h => ?_⟩; clear h; go_simp; rw [IntKind.wrap_i64]; omega) (ak (fun J => ⟨rfl, fun w' _ => ex_shr rfl rfl rfl (Nat.sub_le 64 i)⟩) (ar trivial)))))))))
 intro J w3 l hM hl
 have H3 := keepK H2 hM.below
 clear hM hl l H2 J
 refine rN (wp_seq (wp_seq ?_))
 refine zI 2 [.q (.int .i64 5), .q (.int .i64 5)] (sB H3) ?ho4 ?he4
 case ho4 => exact ar (ar trivial)
 intro J w4 l hM hl
 have H4 := keepK H3 hM.below
 clear hM hl l H3 J
 refine rN (wp_block ?_)
 refine loop_ghost (α := Nat) (fun k a' w' => ∃ s0 : Nat → Value, a' = ⟨#[PT g 0, .int .i64 ((i : Nat) : Int), ud, ud, .int .u64 0, .int .i64 5, .int .u64 ((wd L 5) / 2 ^ (64 - i)), .int .i64 ((5 - k : Nat) : Int), PT g 0, .int .i64 5, PT g 0, PT g 6, PT g 11, .int .u64 (wd L 5), .int .i64 ((i : Nat) : Int), .int .i64 ((64 - i : Nat) : Int), .int .u64 ((wd L 5) / 2 ^ (64 - i)), .int .i64 5, s0 18, s0 19, s0 20, s0 21, s0 22, s0 23, s0 24, s0 25, s0 26, s0 27, s0 28, s0 29, s0 30, s0 31, s0 32, s0 33, s0 34, s0 35, s0 36, s0 37, s0 38, s0 39, s0 40, s0 41, s0 42, s0 43, s0 44, s0 45, ud, ud, ud, ud, ud, ud, ud, ud, ud, ud, ud], []⟩ ∧ (Mm w' [(g, lec b (shf L i k))] ∧ Kp g w w') ∧ k ≤ 5) (fun k => 5 - k) 0 ?st0 ?rd0
 case st0 => exact ⟨(slotfn [ud, ud, ud, ud, ud, ud, ud, ud, ud, ud, ud, ud, ud, ud, ud, ud, ud, ud, ud, ud, ud, ud, ud, ud, ud, ud, ud, ud, ud, ud, ud, ud, ud, ud, ud, ud, ud, ud, ud, ud, ud, ud, ud, ud, ud, ud]), rfl, ⟨H4.out.1.at0 (shf_start L i b), H4.out.2⟩, by omega⟩
 intro k a' w5 hI
 obtain ⟨s0, rfl, hMB, hk0⟩ := hI
 have H5 : Hid (_ ∧ _) := hMB
 clear hMB H4
 by_cases hlt : k < 5
 ·have hrd : True := trivial
  clear hrd
  obtain ⟨m, hm⟩ : ∃ m, 5 - k = m + 1 := ⟨4 - k, by omega⟩
  have hm6 : m + 1 < 6 := by omega
  have hm5 : m < 6 := by omega
  have hk1 : m + 1 ≤ 5 - k := by omega
  have hk2 : m ≤ 5 - k := by omega
  refine wp_seq (wp_seq ?_)
  refine zI 2 [.q (.int .i64 ((5 - k : Nat) : Int)), .q (.bool true)] (sB H5) ?ho5 ?he5
  case ho5 => exact ar (ak (by refine fun J => ⟨rfl, fun w' h => ?_⟩; clear h; go_simp <;> omega) trivial)
  intro J w6 l hM hl
  have H6 := keepK H5 hM.below
  clear hM hl l H5 J
  refine rN (wp_cond_true rfl ?_)
  refine wp_skip (zB ?_)
  refine wp_seq (wp_block ?_)
  refine walk_put (by kernel_rfl) 24 [] [.q (PT g 0), .q (.int .i64 ((5 - k : Nat) : Int)), .q (PT g 0), .q (.int .i64 ((5 - k : Nat) : Int)), .q (PT g 0), .q (PT g 6), .q (PT g (6 + (5 - k))), .q (.int .u64 (wd L (5 - k))), .q (.int .i64 ((i : Nat) : Int)), .q (.int .u64 (IntKind.u64.wrap ((wd L (5 - k)) * 2 ^ i))), .q (PT g 0), .q (.int .i64 ((5 - k : Nat) : Int)), .q (.int .i64 ((m : Nat) : Int)), .q (PT g 0), .q (PT g 6), .q (PT g (6 + m)), .q (.int .u64 (wd L m)), .q (.int .i64 ((i : Nat) : Int)), .q (.int .i64 ((64 - i : Nat) : Int)), .q (.int .u64 ((wd L m) / 2 ^ (64 - i))), .q (.int .u64 (bits .or .u64 (IntKind.u64.wrap ((wd L (5 - k)) * 2 ^ i)) ((wd L m) / 2 ^ (64 - i)))), .q (PT g 0), .q (PT g 6), .q (PT g (6 + (5 - k)))] _ ?pre6 ?F6 _ ?hpre6 (fun J => ?hF6) (by kernel_rfl) rfl ?hL6 (sB H6) ?ho6 ?hla6 ?he6
  case hpre6 => simp only [tk, tz]; rfl
  case hF6 => simp only [zY, Kind.val, Act.put, sa, sz, ss]; rfl
  case hL6 => exact trivial
  case ho6 =>
   refine ar ?_
   refine ar ?_
   refine ar ?_
   refine ar ?_
   refine ag ?_
   refine ag ?_
   refine ak (fun J => ⟨rfl, fun w' _ => ex_indexAddr6 rfl rfl rfl (Nat.lt_of_le_of_lt (Nat.sub_le 5 k) (by decide))⟩) ?_
   refine aq (fun w' h => ex_load1 h 0 rfl rfl rfl (shf_at (Nat.le_refl _) (Nat.lt_of_le_of_lt (Nat.sub_le 5 k) (by decide)))) ?_
   refine ar ?_
   refine ak (fun J => ⟨rfl, fun w' _ => ex_shl rfl rfl rfl hi⟩) ?_
   refine ar ?_
   refine ar ?_
   refine ak (by refine fun J => ⟨rfl, fun w' h => ?_⟩; clear h; go_simp; rw [IntKind.wrap_i64]; omega) ?_
   refine ag ?_
   refine ag ?_
   refine ak (fun J => ⟨rfl, fun w' _ => ex_indexAddr6 rfl rfl rfl hm5⟩) ?_
   refine aq (fun w' h => ex_load1 h 0 rfl rfl rfl (shf_at hk2 hm5)) ?_
   refine ar ?_
   refine ak (by refine fun J => ⟨rfl, fun w' h => ?_⟩; clear h; go_simp; rw [IntKind.wrap_i64]; omega) ?_
   refine ak (fun J => ⟨rfl, fun w' _ => ex_shr rfl rfl rfl (Nat.sub_le 64 i)⟩) ?_
   refine ak (fun J => ⟨rfl, fun w' _ => ex_or rfl rfl rfl⟩) ?_
   refine ag ?_
   refine ag ?_
   refine ak (fun J => ⟨rfl, fun w' _ => ex_indexAddr6 rfl rfl rfl (Nat.lt_of_le_of_lt (Nat.sub_le 5 k) (by decide))⟩) ?_
   exact trivial
  case hla6 => exact trivial
  intro J w7 l hM hl
  have H7 := keepK H6 hM.below
  clear hM hl l H6 J
  refine ⟨_, ex_storeI H7.out.1 0 rfl rfl As22 rfl rfl (lec_bd (Nat.lt_of_le_of_lt (Nat.sub_le 5 k) (by decide))), ?_⟩
  have H8 : Hid (Mm (w7.setCells g (6 + (5 - k)) [.int .u64 (bits .or .u64 (IntKind.u64.wrap ((wd L (5 - k)) * 2 ^ i)) ((wd L m) / 2 ^ (64 - i)))]) [(g, lec b (shf L i (k + 1)))] ∧ Kp g w (w7.setCells g (6 + (5 - k)) [.int .u64 (bits .or .u64 (IntKind.u64.wrap ((wd L (5 - k)) * 2 ^ i)) ((wd L m) / 2 ^ (64 - i)))])) := ⟨by
   have h := H7.out.1.put 0 (off := (6 + (5 - k))) (vs := [.int .u64 (bits .or .u64 (IntKind.u64.wrap ((wd L (5 - k)) * 2 ^ i)) ((wd L m) / 2 ^ (64 - i)))]) rfl (lec_bd (Nat.lt_of_le_of_lt (Nat.sub_le 5 k) (by decide)))
   rw [lec_put (Nat.lt_of_le_of_lt (Nat.sub_le 5 k) (by decide)), shf_step hlt (by rw [hm]; exact sh_word L i m hi)] at h
   exact h, H7.out.2.put (Or.inl rfl)⟩
  clear H7
  generalize hgw : World.setCells _ _ _ _ = w8 at H8 ⊢
  clear hgw
  refine rest0 rfl ?_
  refine zS (zB ?_)
  refine zI 2 [.q (.int .i64 ((5 - k : Nat) : Int)), .q (.int .i64 ((5 - (k + 1) : Nat) : Int))] (sB H8) ?ho7 ?he7
  case ho7 => exact ar (ak (by refine fun J => ⟨rfl, fun w' h => ?_⟩; clear h; go_simp; rw [IntKind.wrap_i64]; omega) trivial)
  intro J w9 l hM hl
  have H9 := keepK H8 hM.below
  clear hM hl l H8 J
  refine zR (l := [2]) rfl ?_
  refine zA (d := 7) rfl rfl rfl rfl ?_
  simp only [Act.put, sa, sz, ss]
  refine zC (zB ?_)
  exact ⟨k + 1, ⟨(slotfn [ud, ud, ud, ud, ud, ud, ud, ud, ud, ud, ud, ud, ud, ud, ud, ud, ud, ud, .int .i64 ((5 - k : Nat) : Int), .bool true, .int .i64 ((5 - k : Nat) : Int), .int .i64 ((5 - (k + 1) : Nat) : Int), PT g 0, .int .i64 ((5 - k : Nat) : Int), PT g 0, .int .i64 ((5 - k : Nat) : Int), PT g 0, PT g 6, PT g (6 + (5 - k)), .int .u64 (wd L (5 - k)), .int .i64 ((i : Nat) : Int), .int .u64 (IntKind.u64.wrap ((wd L (5 - k)) * 2 ^ i)), PT g 0, .int .i64 ((5 - k : Nat) : Int), .int .i64 ((m : Nat) : Int), PT g 0, PT g 6, PT g (6 + m), .int .u64 (wd L m), .int .i64 ((i : Nat) : Int), .int .i64 ((64 - i : Nat) : Int), .int .u64 ((wd L m) / 2 ^ (64 - i)), .int .u64 (bits .or .u64 (IntKind.u64.wrap ((wd L (5 - k)) * 2 ^ i)) ((wd L m) / 2 ^ (64 - i))), PT g 0, PT g 6, PT g (6 + (5 - k))]), rfl, ⟨H9.out.1, H9.out.2⟩, by omega⟩, by omega⟩
 have hk5 : k = 5 := by omega
 subst hk5
 refine wp_seq (wp_seq ?_)
 refine zI 2 [.q (.int .i64 ((5 - 5 : Nat) : Int)), .q (.bool false)] (sB H5) ?ho8 ?he8
 case ho8 => exact ar (ak (by refine fun J => ⟨rfl, fun w' h => ?_⟩; clear h; go_simp <;> omega) trivial)
 intro J w10 l hM hl
 have H10 := keepK H5 hM.below
 clear hM hl l H5 J
 refine rN (wp_cond_false rfl ?_)
 refine wp_exit ?_
 repeat refine zX ?_
 refine zT ?_
 refine zB (wp_seq ?_)
 refine walk_put (by kernel_rfl) 10 [] [.q (PT g 0), .q (PT g 0), .q (PT g 6), .q (PT g 6), .q (.int .u64 (wd L 0)), .q (.int .i64 ((i : Nat) : Int)), .q (.int .u64 (IntKind.u64.wrap ((wd L 0) * 2 ^ i))), .q (PT g 0), .q (PT g 6), .q (PT g 6)] _ ?pre9 ?F9 _ ?hpre9 (fun J => ?hF9) (by kernel_rfl) rfl trivial (sB H10) ?ho9 ?hla9 ?he9
 case hpre9 => simp only [tk, tz]; rfl
 case hF9 => simp only [zY, Kind.val, Act.put, sa, sz, ss]; rfl
 case ho9 =>
  refine ar ?_
  refine ag ?_
  refine ag ?_
  refine ag ?_
  refine aq (fun w' h => ex_load1 h 0 rfl rfl rfl rfl) ?_
  refine ar ?_
  refine ak (fun J => ⟨rfl, fun w' _ => ex_shl rfl rfl rfl hi⟩) ?_
  refine ag ?_
  refine ag ?_
  refine ag ?_
  exact trivial
 case hla9 => exact trivial
 intro J w11 l hM hl
 have H11 := keepK H10 hM.below
 clear hM hl l H10 J
 refine ⟨_, ex_storeI H11.out.1 0 rfl rfl As22 rfl rfl (Nat.le_of_ble_eq_true rfl), ?_⟩
 have H12 : Hid (Mm (w11.setCells g 6 [.int .u64 (IntKind.u64.wrap ((wd L 0) * 2 ^ i))]) [(g, lec b (wd (L * 2 ^ i % big)))] ∧ Kp g w (w11.setCells g 6 [.int .u64 (IntKind.u64.wrap ((wd L 0) * 2 ^ i))])) := ⟨by
  have h := H11.out.1.put 0 (off := 6) (vs := [.int .u64 (IntKind.u64.wrap ((wd L 0) * 2 ^ i))]) rfl (Nat.le_of_ble_eq_true rfl)
  rw [lec_put0, shf_end] at h
  exact h, H11.out.2.put (Or.inl rfl)⟩
 clear H11
 generalize hgw : World.setCells _ _ _ _ = w12 at H12 ⊢
 clear hgw
 refine rN (wp_seq ?_)
 refine zI 2 [.q (.int .u64 ((wd L 5) / 2 ^ (64 - i))), .q (.int .u64 ((wd L 5) / 2 ^ (64 - i)))] (sB H12) ?ho10 ?he10
 case ho10 => exact ar (ar trivial)
 intro J w13 l hM hl
 have H13 := keepK H12 hM.below
 clear hM hl l H12 J
 refine rN (wp_ret ?_)
 repeat (first | refine zL ?_ | refine zK ?_)
 refine bodyPost_ret (v := .int .u64 ((wd L 5) / 2 ^ (64 - i))) (by simp [results, Tryz.results211, go_sem, *]) rfl ?_
 exact ⟨rfl, H13.out.1.one 0 rfl, H13.out.2⟩
theorem shiftL_any (g b L i : Nat) (hi : i ≤ 64) (hL : L < big) (w : World) (hm : Mm w [(g, lec b (wd L))]) :
  Calls Tryz.prog 211 #[PT g 0, .int .i64 ((i : Nat) : Int)] w fun e w' => e = .returned (.int .u64 ((L * 2 ^ i / big : Nat) : Int)) ∧ Mm w' [(g, lec b (wd (L * 2 ^ i % big)))] ∧ Kp g w w' := by
 have h := shift_gen g b L i hi w hm
 rw [sh_top L i hL hi] at h
 exact h
theorem call7 : CO 7 := by intro args w; go_simp
theorem call115 : CO 115 := by intro args w; go_simp
theorem call78 : CO 78 := by intro args w; go_simp
theorem okLt {n : Nat} (ok : Ok n) (x : Nat) : x % n < big := Nat.lt_trans (Nat.mod_lt _ ok.pos) ok.big
theorem pow_is (k : Nat) (h : k = 64 * 6) : 2 ^ k = big := by subst h; exact big_eq.symm
theorem call79 : CO 79 := by intro args w; go_simp
theorem call28 : CO 28 := by intro args w; go_simp
theorem call76 : CO 76 := by intro args w; go_simp
theorem call85 : CO 85 := by intro args w; go_simp
theorem call77 : CO 77 := by intro args w; go_simp
theorem reduce_1 (g n o s a : Nat)
  (c0 : ∀ w, Mm w [(g, zW n o s)] → Calls Tryz.prog 77 #[PT g 0] w (Rt w (.bool true)))
  (c1 : ∀ w, Calls Tryz.prog 85 #[N a, N n] w (Rt w (.int .i64 (-1)))) (w : World) (hm : Mm w [(g, zW n o s)]) :
  Calls Tryz.prog 79 #[PT g 0, N a] w (Rt w (N a)) := by
 have H0 : Hid (_ ∧ _) := ⟨hm, Below.refl w.heap.size w⟩
 clear hm
 have C0 : Hid _ := c0
 have C1 : Hid _ := c1
 clear c0 c1
 go_enter Tryz.func79, Tryz.ntmps79
 refine wp_seq ?_
 refine zI 2 [.made (zE a) 24, .made zero6 24] (sB H0) ?ho1 ?he1
 case ho1 => exact am (ex_box6 rfl rfl) (am (zO rfl) trivial)
 intro J w1 l hM hl
 have M1 : Mm w1 [(J 0, zE a), (J 1, zero6), (g, zW n o s)] := H0.out.1.grow hM (Nat.le_refl _) hl [0, 1] rfl (by decide)
 have B1 : Below w.heap.size w w1 := H0.out.2.trans ((hM.below).mono H0.out.2.size)
 have o1_0 : Hid (w.heap.size ≤ J 0) := Nat.le_trans H0.out.2.size (hM.fin (Nat.le_refl _) hl (i := 0) rfl).2.1
 have o1_1 : Hid (w.heap.size ≤ J 1) := Nat.le_trans H0.out.2.size (hM.fin (Nat.le_refl _) hl (i := 1) rfl).2.1
 clear hM hl l
 generalize J 0 = J1_0 at M1 o1_0 ⊢
 generalize J 1 = J1_1 at M1 o1_1 ⊢
 clear J
 have H1 : Hid (_ ∧ _) := ⟨M1, B1⟩
 clear M1 B1
 refine rN (wp_seq (wp_seq ?_))
 refine zI 3 [.q (PT g 0), .call (.bool true), .q (.bool false)] (sB H1) ?ho2 ?he2
 case ho2 => exact ar (ac (fun w' h => eC call77 (C0.out w' (h.one 2 rfl))) (ag trivial))
 intro J w2 l hM hl
 have M2 : Mm w2 [(J1_0, zE a), (J1_1, zero6), (g, zW n o s)] := H1.out.1.grow hM (Nat.le_refl _) hl [] rfl (by decide)
 have B2 : Below w.heap.size w w2 := H1.out.2.trans ((hM.below).mono H1.out.2.size)
 clear hM hl l H1
 clear J
 have H2 : Hid (_ ∧ _) := ⟨M2, B2⟩
 clear M2 B2
 refine rN (wp_cond_false rfl ?_)
 refine wp_skip (zB ?_)
 refine wp_seq (wp_seq ?_)
 refine walk_anyA 7 [.q (N a), .q (PT g 0), .q (PT g 0), .q (PT g 0), .q (N n), .call (.int .i64 (-1)), .q (.bool true)] (sB H2) ?ho3 ?he3
 case ho3 => exact bN 0 (ar (ag (ag (bN 2 (ac (fun w' h => eC call85 (C1.out w')) (ag trivial))))))
 intro J w3 l hM hl
 have M3 : Mm w3 [(J1_0, zE a), (J1_1, zero6), (g, zW n o s)] := H2.out.1.grow hM (Nat.le_refl _) hl [] rfl (by decide)
 have B3 : Below w.heap.size w w3 := H2.out.2.trans ((hM.below).mono H2.out.2.size)
 clear hM hl l H2
 clear J
 have H3 : Hid (_ ∧ _) := ⟨M3, B3⟩
 clear M3 B3
 refine rN (wp_cond_true rfl (wp_seq ?_))
 refine zI 1 [.q (N a)] (sB H3) ?ho4 ?he4
 case ho4 => exact bN 0 trivial
 intro J w4 l hM hl
 have M4 : Mm w4 [(J1_0, zE a), (J1_1, zero6), (g, zW n o s)] := H3.out.1.grow hM (Nat.le_refl _) hl [] rfl (by decide)
 have B4 : Below w.heap.size w w4 := H3.out.2.trans ((hM.below).mono H3.out.2.size)
 clear hM hl l H3
 clear J
 have H4 : Hid (_ ∧ _) := ⟨M4, B4⟩
 clear M4 B4
 refine zR (l := [1]) rfl ?_
 refine sG rfl (fun h => zQ h 1 rfl rfl rfl rfl (Nat.le_of_ble_eq_true rfl)) 1 [_, (_, zE a), _] H4 o1_1 fun w5 H5 => ?_
 clear H4
 refine zC (zB (wp_ret ?_))
 repeat (first | refine zL ?_ | refine zK ?_)
 have c0 := H5.out.1.get 1 rfl 0 rfl
 have c1 := H5.out.1.get 1 rfl 1 rfl
 have c2 := H5.out.1.get 1 rfl 2 rfl
 have c3 := H5.out.1.get 1 rfl 3 rfl
 have c4 := H5.out.1.get 1 rfl 4 rfl
 have c5 := H5.out.1.get 1 rfl 5 rfl
 refine bodyPost_ret (v := N a) (by simp [results, Tryz.results79, go_sem, *]) rfl ?_
 exact ⟨rfl, H5.out.2⟩
theorem reduce_2 (g n o s a r : Nat) (c : Int) (hc : ¬ c < 0)
  (c0 : ∀ w, Mm w [(g, zW n o s)] → Calls Tryz.prog 77 #[PT g 0] w (Rt w (.bool true)))
  (c1 : ∀ w, Calls Tryz.prog 85 #[N a, N n] w (Rt w (.int .i64 c)))
  (c2 : ∀ w, Calls Tryz.prog 113 #[N a, N n] w (Rt w (.tuple #[N r, .bool false])))
  (c3 : ∀ w, Calls Tryz.prog 85 #[N r, N n] w (Rt w (.int .i64 (-1)))) (w : World) (hm : Mm w [(g, zW n o s)]) :
  Calls Tryz.prog 79 #[PT g 0, N a] w (Rt w (N r)) := by
 have H0 : Hid (_ ∧ _) := ⟨hm, Below.refl w.heap.size w⟩
 clear hm
 have C0 : Hid _ := c0
 have C1 : Hid _ := c1
 have C2 : Hid _ := c2
 have C3 : Hid _ := c3
 clear c0 c1 c2 c3
 go_enter Tryz.func79, Tryz.ntmps79
 refine wp_seq ?_
 refine zI 2 [.made (zE a) 24, .made zero6 24] (sB H0) ?ho1 ?he1
 case ho1 => exact am (ex_box6 rfl rfl) (am (zO rfl) trivial)
 intro J w1 l hM hl
 have M1 : Mm w1 [(J 0, zE a), (J 1, zero6), (g, zW n o s)] := H0.out.1.grow hM (Nat.le_refl _) hl [0, 1] rfl (by decide)
 have B1 : Below w.heap.size w w1 := H0.out.2.trans ((hM.below).mono H0.out.2.size)
 have o1_0 : Hid (w.heap.size ≤ J 0) := Nat.le_trans H0.out.2.size (hM.fin (Nat.le_refl _) hl (i := 0) rfl).2.1
 have o1_1 : Hid (w.heap.size ≤ J 1) := Nat.le_trans H0.out.2.size (hM.fin (Nat.le_refl _) hl (i := 1) rfl).2.1
 clear hM hl l
 generalize J 0 = J1_0 at M1 o1_0 ⊢
 generalize J 1 = J1_1 at M1 o1_1 ⊢
 clear J
 have H1 : Hid (_ ∧ _) := ⟨M1, B1⟩
 clear M1 B1
 refine rN (wp_seq (wp_seq ?_))
 refine zI 3 [.q (PT g 0), .call (.bool true), .q (.bool false)] (sB H1) ?ho2 ?he2
 case ho2 => exact ar (ac (fun w' h => eC call77 (C0.out w' (h.one 2 rfl))) (ag trivial))
 intro J w2 l hM hl
 have M2 : Mm w2 [(J1_0, zE a), (J1_1, zero6), (g, zW n o s)] := H1.out.1.grow hM (Nat.le_refl _) hl [] rfl (by decide)
 have B2 : Below w.heap.size w w2 := H1.out.2.trans ((hM.below).mono H1.out.2.size)
 clear hM hl l H1
 clear J
 have H2 : Hid (_ ∧ _) := ⟨M2, B2⟩
 clear M2 B2
 refine rN (wp_cond_false rfl ?_)
 refine wp_skip (zB ?_)
 refine wp_seq (wp_seq ?_)
 refine walk_anyA 7 [.q (N a), .q (PT g 0), .q (PT g 0), .q (PT g 0), .q (N n), .call (.int .i64 c), .q (.bool false)] (sB H2) ?ho3 ?he3
 case ho3 => exact bN 0 (ar (ag (ag (bN 2 (ac (fun w' h => eC call85 (C1.out w')) (ag trivial))))))
 intro J w3 l hM hl
 have M3 : Mm w3 [(J1_0, zE a), (J1_1, zero6), (g, zW n o s)] := H2.out.1.grow hM (Nat.le_refl _) hl [] rfl (by decide)
 have B3 : Below w.heap.size w w3 := H2.out.2.trans ((hM.below).mono H2.out.2.size)
 clear hM hl l H2
 clear J
 have H3 : Hid (_ ∧ _) := ⟨M3, B3⟩
 clear M3 B3
 refine rN (wp_cond_false rfl ?_)
 refine wp_skip (zB (wp_seq ?_))
 refine walk_anyA 12 [.q (N a), .q (PT g 0), .q (PT g 0), .q (PT g 0), .q (N n), .call (.tuple #[N r, .bool false]), .q (.tuple #[N r, .bool false]), .q (N r), .q (.bool false), .made zero6 24, .laid 9 zero6 (zE r), .q (.bool false)] (sB H3) ?ho4 ?he4 (hL := ?hL4)
 case hL4 => exact ⟨⟨_, rfl⟩, trivial⟩
 case ho4 => exact bN 0 (ar (ag (ag (bN 2 (ac (fun w' h => eC call113 (C2.out w')) (ar (ag (ag (am (zO rfl) (ak (fun J => ⟨rfl, rfl, rfl, fun w' h => exec_laid6 h rfl rfl rfl⟩) (ar trivial)))))))))))
 intro J w4 l hM hl
 have M4 : Mm w4 [(J 9, zE r), (J1_0, zE a), (J1_1, zero6), (g, zW n o s)] := H3.out.1.grow hM (Nat.le_refl _) hl [9] rfl (by decide)
 have B4 : Below w.heap.size w w4 := H3.out.2.trans ((hM.below).mono H3.out.2.size)
 have o4_9 : Hid (w.heap.size ≤ J 9) := Nat.le_trans H3.out.2.size (hM.fin (Nat.le_refl _) hl (i := 9) rfl).2.1
 clear hM hl l H3
 generalize J 9 = J4_9 at M4 o4_9 ⊢
 clear J
 have H4 : Hid (_ ∧ _) := ⟨M4, B4⟩
 clear M4 B4
 refine rN (wp_seq (wp_seq ?_))
 refine walk_anyA 7 [.q (N r), .q (PT g 0), .q (PT g 0), .q (PT g 0), .q (N n), .call (.int .i64 (-1)), .q (.bool true)] (sB H4) ?ho5 ?he5
 case ho5 => exact bN 0 (ar (ag (ag (bN 3 (ac (fun w' h => eC call85 (C3.out w')) (ag trivial))))))
 intro J w5 l hM hl
 have M5 : Mm w5 [(J4_9, zE r), (J1_0, zE a), (J1_1, zero6), (g, zW n o s)] := H4.out.1.grow hM (Nat.le_refl _) hl [] rfl (by decide)
 have B5 : Below w.heap.size w w5 := H4.out.2.trans ((hM.below).mono H4.out.2.size)
 clear hM hl l H4
 clear J
 have H5 : Hid (_ ∧ _) := ⟨M5, B5⟩
 clear M5 B5
 refine rN (wp_cond_true rfl (wp_seq ?_))
 refine zI 1 [.q (N r)] (sB H5) ?ho6 ?he6
 case ho6 => exact bN 0 trivial
 intro J w6 l hM hl
 have M6 : Mm w6 [(J4_9, zE r), (J1_0, zE a), (J1_1, zero6), (g, zW n o s)] := H5.out.1.grow hM (Nat.le_refl _) hl [] rfl (by decide)
 have B6 : Below w.heap.size w w6 := H5.out.2.trans ((hM.below).mono H5.out.2.size)
 clear hM hl l H5
 clear J
 have H6 : Hid (_ ∧ _) := ⟨M6, B6⟩
 clear M6 B6
 refine zR (l := [1]) rfl ?_
 refine sG rfl (fun h => zQ h 2 rfl rfl rfl rfl (Nat.le_of_ble_eq_true rfl)) 2 [_, _, (_, zE r), _] H6 o1_1 fun w7 H7 => ?_
 clear H6
 refine zC (zB (wp_ret ?_))
 repeat (first | refine zL ?_ | refine zK ?_)
 have c0 := H7.out.1.get 2 rfl 0 rfl
 have c1 := H7.out.1.get 2 rfl 1 rfl
 have c2 := H7.out.1.get 2 rfl 2 rfl
 have c3 := H7.out.1.get 2 rfl 3 rfl
 have c4 := H7.out.1.get 2 rfl 4 rfl
 have c5 := H7.out.1.get 2 rfl 5 rfl
 refine bodyPost_ret (v := N r) (by simp [results, Tryz.results79, go_sem, *]) rfl ?_
 exact ⟨rfl, H7.out.2⟩
theorem reduce_3 (g n o s a r x : Nat) (c d : Int) (hc : ¬ c < 0) (hd : ¬ d < 0)
  (c0 : ∀ w, Mm w [(g, zW n o s)] → Calls Tryz.prog 77 #[PT g 0] w (Rt w (.bool true)))
  (c1 : ∀ w, Calls Tryz.prog 85 #[N a, N n] w (Rt w (.int .i64 c)))
  (c2 : ∀ w, Calls Tryz.prog 113 #[N a, N n] w (Rt w (.tuple #[N r, .bool false])))
  (c3 : ∀ w, Calls Tryz.prog 85 #[N r, N n] w (Rt w (.int .i64 d)))
  (c4 : ∀ w, Mm w [(g, zW n o s)] → Calls Tryz.prog 115 #[PT g 0, N r, N o] w (Rt w (N x))) (w : World) (hm : Mm w [(g, zW n o s)]) :
  Calls Tryz.prog 79 #[PT g 0, N a] w (Rt w (N x)) := by
 have H0 : Hid (_ ∧ _) := ⟨hm, Below.refl w.heap.size w⟩
 clear hm
 have C0 : Hid _ := c0
 have C1 : Hid _ := c1
 have C2 : Hid _ := c2
 have C3 : Hid _ := c3
 have C4 : Hid _ := c4
 clear c0 c1 c2 c3 c4
 go_enter Tryz.func79, Tryz.ntmps79
 refine wp_seq ?_
 refine zI 2 [.made (zE a) 24, .made zero6 24] (sB H0) ?ho1 ?he1
 case ho1 => exact am (ex_box6 rfl rfl) (am (zO rfl) trivial)
 intro J w1 l hM hl
 have M1 : Mm w1 [(J 0, zE a), (J 1, zero6), (g, zW n o s)] := H0.out.1.grow hM (Nat.le_refl _) hl [0, 1] rfl (by decide)
 have B1 : Below w.heap.size w w1 := H0.out.2.trans ((hM.below).mono H0.out.2.size)
 have o1_0 : Hid (w.heap.size ≤ J 0) := Nat.le_trans H0.out.2.size (hM.fin (Nat.le_refl _) hl (i := 0) rfl).2.1
 have o1_1 : Hid (w.heap.size ≤ J 1) := Nat.le_trans H0.out.2.size (hM.fin (Nat.le_refl _) hl (i := 1) rfl).2.1
 clear hM hl l
 generalize J 0 = J1_0 at M1 o1_0 ⊢
 generalize J 1 = J1_1 at M1 o1_1 ⊢
 clear J
 have H1 : Hid (_ ∧ _) := ⟨M1, B1⟩
 clear M1 B1
 refine rN (wp_seq (wp_seq ?_))
 refine zI 3 [.q (PT g 0), .call (.bool true), .q (.bool false)] (sB H1) ?ho2 ?he2
 case ho2 => exact ar (ac (fun w' h => eC call77 (C0.out w' (h.one 2 rfl))) (ag trivial))
 intro J w2 l hM hl
 have M2 : Mm w2 [(J1_0, zE a), (J1_1, zero6), (g, zW n o s)] := H1.out.1.grow hM (Nat.le_refl _) hl [] rfl (by decide)
 have B2 : Below w.heap.size w w2 := H1.out.2.trans ((hM.below).mono H1.out.2.size)
 clear hM hl l H1
 clear J
 have H2 : Hid (_ ∧ _) := ⟨M2, B2⟩
 clear M2 B2
 refine rN (wp_cond_false rfl ?_)
 refine wp_skip (zB ?_)
 refine wp_seq (wp_seq ?_)
 refine walk_anyA 7 [.q (N a), .q (PT g 0), .q (PT g 0), .q (PT g 0), .q (N n), .call (.int .i64 c), .q (.bool false)] (sB H2) ?ho3 ?he3
 case ho3 => exact bN 0 (ar (ag (ag (bN 2 (ac (fun w' h => eC call85 (C1.out w')) (ag trivial))))))
 intro J w3 l hM hl
 have M3 : Mm w3 [(J1_0, zE a), (J1_1, zero6), (g, zW n o s)] := H2.out.1.grow hM (Nat.le_refl _) hl [] rfl (by decide)
 have B3 : Below w.heap.size w w3 := H2.out.2.trans ((hM.below).mono H2.out.2.size)
 clear hM hl l H2
 clear J
 have H3 : Hid (_ ∧ _) := ⟨M3, B3⟩
 clear M3 B3
 refine rN (wp_cond_false rfl ?_)
 refine wp_skip (zB (wp_seq ?_))
 refine walk_anyA 12 [.q (N a), .q (PT g 0), .q (PT g 0), .q (PT g 0), .q (N n), .call (.tuple #[N r, .bool false]), .q (.tuple #[N r, .bool false]), .q (N r), .q (.bool false), .made zero6 24, .laid 9 zero6 (zE r), .q (.bool false)] (sB H3) ?ho4 ?he4 (hL := ?hL4)
 case hL4 => exact ⟨⟨_, rfl⟩, trivial⟩
 case ho4 => exact bN 0 (ar (ag (ag (bN 2 (ac (fun w' h => eC call113 (C2.out w')) (ar (ag (ag (am (zO rfl) (ak (fun J => ⟨rfl, rfl, rfl, fun w' h => exec_laid6 h rfl rfl rfl⟩) (ar trivial)))))))))))
 intro J w4 l hM hl
 have M4 : Mm w4 [(J 9, zE r), (J1_0, zE a), (J1_1, zero6), (g, zW n o s)] := H3.out.1.grow hM (Nat.le_refl _) hl [9] rfl (by decide)
 have B4 : Below w.heap.size w w4 := H3.out.2.trans ((hM.below).mono H3.out.2.size)
 have o4_9 : Hid (w.heap.size ≤ J 9) := Nat.le_trans H3.out.2.size (hM.fin (Nat.le_refl _) hl (i := 9) rfl).2.1
 clear hM hl l H3
 generalize J 9 = J4_9 at M4 o4_9 ⊢
 clear J
 have H4 : Hid (_ ∧ _) := ⟨M4, B4⟩
 clear M4 B4
 refine rN (wp_seq (wp_seq ?_))
 refine walk_anyA 7 [.q (N r), .q (PT g 0), .q (PT g 0), .q (PT g 0), .q (N n), .call (.int .i64 d), .q (.bool false)] (sB H4) ?ho5 ?he5
 case ho5 => exact bN 0 (ar (ag (ag (bN 3 (ac (fun w' h => eC call85 (C3.out w')) (ag trivial))))))
 intro J w5 l hM hl
 have M5 : Mm w5 [(J4_9, zE r), (J1_0, zE a), (J1_1, zero6), (g, zW n o s)] := H4.out.1.grow hM (Nat.le_refl _) hl [] rfl (by decide)
 have B5 : Below w.heap.size w w5 := H4.out.2.trans ((hM.below).mono H4.out.2.size)
 clear hM hl l H4
 clear J
 have H5 : Hid (_ ∧ _) := ⟨M5, B5⟩
 clear M5 B5
 refine rN (wp_cond_false rfl ?_)
 refine wp_skip (zB (wp_seq ?_))
 refine walk_anyA 7 [.q (PT g 0), .q (N r), .q (PT g 0), .q (PT g 0), .q (PT g 7), .q (N o), .call (N x)] (sB H5) ?ho6 ?he6
 case ho6 => exact ar (bN 0 (ar (ag (ag (bN 3 (ac (fun w' h => eC call115 (C4.out w' (h.one 3 rfl))) trivial))))))
 intro J w6 l hM hl
 have M6 : Mm w6 [(J4_9, zE r), (J1_0, zE a), (J1_1, zero6), (g, zW n o s)] := H5.out.1.grow hM (Nat.le_refl _) hl [] rfl (by decide)
 have B6 : Below w.heap.size w w6 := H5.out.2.trans ((hM.below).mono H5.out.2.size)
 clear hM hl l H5
 clear J
 have H6 : Hid (_ ∧ _) := ⟨M6, B6⟩
 clear M6 B6
 refine zR (l := [7]) rfl ?_
 refine sG rfl (fun h => zQ h 2 rfl rfl rfl rfl (Nat.le_of_ble_eq_true rfl)) 2 [_, _, (_, zE x), _] H6 o1_1 fun w7 H7 => ?_
 clear H6
 refine zC (zB (wp_ret ?_))
 repeat (first | refine zL ?_ | refine zK ?_)
 have c0 := H7.out.1.get 2 rfl 0 rfl
 have c1 := H7.out.1.get 2 rfl 1 rfl
 have c2 := H7.out.1.get 2 rfl 2 rfl
 have c3 := H7.out.1.get 2 rfl 3 rfl
 have c4 := H7.out.1.get 2 rfl 4 rfl
 have c5 := H7.out.1.get 2 rfl 5 rfl
 refine bodyPost_ret (v := N x) (by simp [results, Tryz.results79, go_sem, *]) rfl ?_
 exact ⟨rfl, H7.out.2⟩
theorem add_1 (g n o s a b u r : Nat)
  (c0 : ∀ w, Mm w [(g, zW n o s)] → Calls Tryz.prog 77 #[PT g 0] w (Rt w (.bool true)))
  (c1 : ∀ w, Calls Tryz.prog 78 #[N a, N b] w (Rt w (.tuple #[N u, .bool false])))
  (c2 : ∀ w, Mm w [(g, zW n o s)] → Calls Tryz.prog 79 #[PT g 0, N u] w (Rt w (N r))) (w : World) (hm : Mm w [(g, zW n o s)]) :
  Calls Tryz.prog 28 #[PT g 0, N a, N b] w (Rt w (N r)) := by
 have H0 : Hid (_ ∧ _) := ⟨hm, Below.refl w.heap.size w⟩
 clear hm
 have C0 : Hid _ := c0
 have C1 : Hid _ := c1
 have C2 : Hid _ := c2
 clear c0 c1 c2
 go_enter Tryz.func28, Tryz.ntmps28
 refine wp_seq ?_
 refine zI 3 [.made (zE a) 24, .made (zE b) 24, .made zero6 24] (sB H0) ?ho1 ?he1
 case ho1 => exact am (ex_box6 rfl rfl) (am (ex_box6 rfl rfl) (am (zO rfl) trivial))
 intro J w1 l hM hl
 have M1 : Mm w1 [(J 0, zE a), (J 1, zE b), (J 2, zero6), (g, zW n o s)] := H0.out.1.grow hM (Nat.le_refl _) hl [0, 1, 2] rfl (by decide)
 have B1 : Below w.heap.size w w1 := H0.out.2.trans ((hM.below).mono H0.out.2.size)
 have o1_0 : Hid (w.heap.size ≤ J 0) := Nat.le_trans H0.out.2.size (hM.fin (Nat.le_refl _) hl (i := 0) rfl).2.1
 have o1_1 : Hid (w.heap.size ≤ J 1) := Nat.le_trans H0.out.2.size (hM.fin (Nat.le_refl _) hl (i := 1) rfl).2.1
 have o1_2 : Hid (w.heap.size ≤ J 2) := Nat.le_trans H0.out.2.size (hM.fin (Nat.le_refl _) hl (i := 2) rfl).2.1
 clear hM hl l
 generalize J 0 = J1_0 at M1 o1_0 ⊢
 generalize J 1 = J1_1 at M1 o1_1 ⊢
 generalize J 2 = J1_2 at M1 o1_2 ⊢
 clear J
 have H1 : Hid (_ ∧ _) := ⟨M1, B1⟩
 clear M1 B1
 refine rN (wp_seq (wp_seq ?_))
 refine zI 3 [.q (PT g 0), .call (.bool true), .q (.bool false)] (sB H1) ?ho2 ?he2
 case ho2 => exact ar (ac (fun w' h => eC call77 (C0.out w' (h.one 3 rfl))) (ag trivial))
 intro J w2 l hM hl
 have M2 : Mm w2 [(J1_0, zE a), (J1_1, zE b), (J1_2, zero6), (g, zW n o s)] := H1.out.1.grow hM (Nat.le_refl _) hl [] rfl (by decide)
 have B2 : Below w.heap.size w w2 := H1.out.2.trans ((hM.below).mono H1.out.2.size)
 clear hM hl l H1
 clear J
 have H2 : Hid (_ ∧ _) := ⟨M2, B2⟩
 clear M2 B2
 refine rN (wp_cond_false rfl ?_)
 refine wp_skip (zB (wp_seq ?_))
 refine zI 9 [.q (N a), .q (N b), .call (.tuple #[N u, .bool false]), .q (.tuple #[N u, .bool false]), .q (N u), .q (.bool false), .made zero6 24, .laid 6 zero6 (zE u), .q (.bool false)] (sB H2) ?ho3 ?he3 (hL := ?hL3)
 case hL3 => exact ⟨⟨_, rfl⟩, trivial⟩
 case ho3 => exact bN 0 (bN 1 (ac (fun w' h => eC call78 (C1.out w')) (ar (ag (ag (am (zO rfl) (ak (fun J => ⟨rfl, rfl, rfl, fun w' h => exec_laid6 h rfl rfl rfl⟩) (ar trivial))))))))
 intro J w3 l hM hl
 have M3 : Mm w3 [(J 6, zE u), (J1_0, zE a), (J1_1, zE b), (J1_2, zero6), (g, zW n o s)] := H2.out.1.grow hM (Nat.le_refl _) hl [6] rfl (by decide)
 have B3 : Below w.heap.size w w3 := H2.out.2.trans ((hM.below).mono H2.out.2.size)
 have o3_6 : Hid (w.heap.size ≤ J 6) := Nat.le_trans H2.out.2.size (hM.fin (Nat.le_refl _) hl (i := 6) rfl).2.1
 clear hM hl l H2
 generalize J 6 = J3_6 at M3 o3_6 ⊢
 clear J
 have H3 : Hid (_ ∧ _) := ⟨M3, B3⟩
 clear M3 B3
 refine rN (wp_seq (wp_seq ?_))
 refine zI 1 [.q (.bool false)] (sB H3) ?ho4 ?he4
 case ho4 => exact ar trivial
 intro J w4 l hM hl
 have M4 : Mm w4 [(J3_6, zE u), (J1_0, zE a), (J1_1, zE b), (J1_2, zero6), (g, zW n o s)] := H3.out.1.grow hM (Nat.le_refl _) hl [] rfl (by decide)
 have B4 : Below w.heap.size w w4 := H3.out.2.trans ((hM.below).mono H3.out.2.size)
 clear hM hl l H3
 clear J
 have H4 : Hid (_ ∧ _) := ⟨M4, B4⟩
 clear M4 B4
 refine rN (wp_cond_false rfl ?_)
 refine wp_skip (zB (wp_seq ?_))
 refine zI 3 [.q (PT g 0), .q (N u), .call (N r)] (sB H4) ?ho5 ?he5
 case ho5 => exact ar (bN 0 (ac (fun w' h => eC call79 (C2.out w' (h.one 4 rfl))) trivial))
 intro J w5 l hM hl
 have M5 : Mm w5 [(J3_6, zE u), (J1_0, zE a), (J1_1, zE b), (J1_2, zero6), (g, zW n o s)] := H4.out.1.grow hM (Nat.le_refl _) hl [] rfl (by decide)
 have B5 : Below w.heap.size w w5 := H4.out.2.trans ((hM.below).mono H4.out.2.size)
 clear hM hl l H4
 clear J
 have H5 : Hid (_ ∧ _) := ⟨M5, B5⟩
 clear M5 B5
 refine zR (l := [3]) rfl ?_
 refine sG rfl (fun h => zQ h 3 rfl rfl rfl rfl (Nat.le_of_ble_eq_true rfl)) 3 [_, _, _, (_, zE r), _] H5 o1_2 fun w6 H6 => ?_
 clear H5
 refine zC (zB (wp_ret ?_))
 repeat (first | refine zL ?_ | refine zK ?_)
 have c0 := H6.out.1.get 3 rfl 0 rfl
 have c1 := H6.out.1.get 3 rfl 1 rfl
 have c2 := H6.out.1.get 3 rfl 2 rfl
 have c3 := H6.out.1.get 3 rfl 3 rfl
 have c4 := H6.out.1.get 3 rfl 4 rfl
 have c5 := H6.out.1.get 3 rfl 5 rfl
 refine bodyPost_ret (v := N r) (by simp [results, Tryz.results28, go_sem, *]) rfl ?_
 exact ⟨rfl, H6.out.2⟩
theorem add_2 (g n o s a b u x y v r : Nat)
  (c0 : ∀ w, Mm w [(g, zW n o s)] → Calls Tryz.prog 77 #[PT g 0] w (Rt w (.bool true)))
  (c1 : ∀ w, Calls Tryz.prog 78 #[N a, N b] w (Rt w (.tuple #[N u, .bool true])))
  (c2 : ∀ w, Mm w [(g, zW n o s)] → Calls Tryz.prog 79 #[PT g 0, N a] w (Rt w (N x)))
  (c3 : ∀ w, Mm w [(g, zW n o s)] → Calls Tryz.prog 79 #[PT g 0, N b] w (Rt w (N y)))
  (c4 : ∀ w, Calls Tryz.prog 78 #[N x, N y] w (Rt w (.tuple #[N v, .bool false])))
  (c5 : ∀ w, Mm w [(g, zW n o s)] → Calls Tryz.prog 79 #[PT g 0, N v] w (Rt w (N r))) (w : World) (hm : Mm w [(g, zW n o s)]) :
  Calls Tryz.prog 28 #[PT g 0, N a, N b] w (Rt w (N r)) := by
 have H0 : Hid (_ ∧ _) := ⟨hm, Below.refl w.heap.size w⟩
 clear hm
 have C0 : Hid _ := c0
 have C1 : Hid _ := c1
 have C2 : Hid _ := c2
 have C3 : Hid _ := c3
 have C4 : Hid _ := c4
 have C5 : Hid _ := c5
 clear c0 c1 c2 c3 c4 c5
 go_enter Tryz.func28, Tryz.ntmps28
 refine wp_seq ?_
 refine zI 3 [.made (zE a) 24, .made (zE b) 24, .made zero6 24] (sB H0) ?ho1 ?he1
 case ho1 => exact am (ex_box6 rfl rfl) (am (ex_box6 rfl rfl) (am (zO rfl) trivial))
 intro J w1 l hM hl
 have M1 : Mm w1 [(J 0, zE a), (J 1, zE b), (J 2, zero6), (g, zW n o s)] := H0.out.1.grow hM (Nat.le_refl _) hl [0, 1, 2] rfl (by decide)
 have B1 : Below w.heap.size w w1 := H0.out.2.trans ((hM.below).mono H0.out.2.size)
 have o1_0 : Hid (w.heap.size ≤ J 0) := Nat.le_trans H0.out.2.size (hM.fin (Nat.le_refl _) hl (i := 0) rfl).2.1
 have o1_1 : Hid (w.heap.size ≤ J 1) := Nat.le_trans H0.out.2.size (hM.fin (Nat.le_refl _) hl (i := 1) rfl).2.1
 have o1_2 : Hid (w.heap.size ≤ J 2) := Nat.le_trans H0.out.2.size (hM.fin (Nat.le_refl _) hl (i := 2) rfl).2.1
 clear hM hl l
 generalize J 0 = J1_0 at M1 o1_0 ⊢
 generalize J 1 = J1_1 at M1 o1_1 ⊢
 generalize J 2 = J1_2 at M1 o1_2 ⊢
 clear J
 have H1 : Hid (_ ∧ _) := ⟨M1, B1⟩
 clear M1 B1
 refine rN (wp_seq (wp_seq ?_))
 refine zI 3 [.q (PT g 0), .call (.bool true), .q (.bool false)] (sB H1) ?ho2 ?he2
 case ho2 => exact ar (ac (fun w' h => eC call77 (C0.out w' (h.one 3 rfl))) (ag trivial))
 intro J w2 l hM hl
 have M2 : Mm w2 [(J1_0, zE a), (J1_1, zE b), (J1_2, zero6), (g, zW n o s)] := H1.out.1.grow hM (Nat.le_refl _) hl [] rfl (by decide)
 have B2 : Below w.heap.size w w2 := H1.out.2.trans ((hM.below).mono H1.out.2.size)
 clear hM hl l H1
 clear J
 have H2 : Hid (_ ∧ _) := ⟨M2, B2⟩
 clear M2 B2
 refine rN (wp_cond_false rfl ?_)
 refine wp_skip (zB (wp_seq ?_))
 refine zI 9 [.q (N a), .q (N b), .call (.tuple #[N u, .bool true]), .q (.tuple #[N u, .bool true]), .q (N u), .q (.bool true), .made zero6 24, .laid 6 zero6 (zE u), .q (.bool true)] (sB H2) ?ho3 ?he3 (hL := ?hL3)
 case hL3 => exact ⟨⟨_, rfl⟩, trivial⟩
 case ho3 => exact bN 0 (bN 1 (ac (fun w' h => eC call78 (C1.out w')) (ar (ag (ag (am (zO rfl) (ak (fun J => ⟨rfl, rfl, rfl, fun w' h => exec_laid6 h rfl rfl rfl⟩) (ar trivial))))))))
 intro J w3 l hM hl
 have M3 : Mm w3 [(J 6, zE u), (J1_0, zE a), (J1_1, zE b), (J1_2, zero6), (g, zW n o s)] := H2.out.1.grow hM (Nat.le_refl _) hl [6] rfl (by decide)
 have B3 : Below w.heap.size w w3 := H2.out.2.trans ((hM.below).mono H2.out.2.size)
 have o3_6 : Hid (w.heap.size ≤ J 6) := Nat.le_trans H2.out.2.size (hM.fin (Nat.le_refl _) hl (i := 6) rfl).2.1
 clear hM hl l H2
 generalize J 6 = J3_6 at M3 o3_6 ⊢
 clear J
 have H3 : Hid (_ ∧ _) := ⟨M3, B3⟩
 clear M3 B3
 refine rN (wp_seq (wp_seq ?_))
 refine zI 1 [.q (.bool true)] (sB H3) ?ho4 ?he4
 case ho4 => exact ar trivial
 intro J w4 l hM hl
 have M4 : Mm w4 [(J3_6, zE u), (J1_0, zE a), (J1_1, zE b), (J1_2, zero6), (g, zW n o s)] := H3.out.1.grow hM (Nat.le_refl _) hl [] rfl (by decide)
 have B4 : Below w.heap.size w w4 := H3.out.2.trans ((hM.below).mono H3.out.2.size)
 clear hM hl l H3
 clear J
 have H4 : Hid (_ ∧ _) := ⟨M4, B4⟩
 clear M4 B4
 refine rN (wp_cond_true rfl ?_)
 refine walk_put (by kernel_rfl) 10 [9] [.q (PT g 0), .q (N a), .call (N x), .q (PT g 0), .q (N b), .call (N y), .call (.tuple #[N v, .bool false]), .q (.tuple #[N v, .bool false]), .q (N v), .q (.bool false)] _ ?pre5 ?F5 _ ?hpre5 (fun J => ?hF5) (by kernel_rfl) rfl trivial (sB H4) ?ho5 ?hla5 ?he5
 case hpre5 => simp only [tk, tz]; rfl
 case hF5 => simp only [zY, Kind.val, Act.put, sa, sz, ss]; rfl
 case ho5 =>
  refine ar ?_
  refine bN 1 ?_
  refine ak (fun J => ⟨rfl, fun w' h => eC call79 (C2.out w' (h.one 4 rfl))⟩) ?_
  refine ar ?_
  refine bN 2 ?_
  refine ak (fun J => ⟨rfl, fun w' h => eC call79 (C3.out w' (h.one 4 rfl))⟩) ?_
  refine ak (fun J => ⟨rfl, fun w' h => eC call78 (C4.out w')⟩) ?_
  refine ar ?_
  refine ag ?_
  refine ag ?_
  exact trivial
 case hla5 => exact ⟨⟨_, _, rfl, rfl, fun J => ⟨rfl, fun w' => by go_simp⟩⟩, trivial⟩
 intro J w5 l hM hl
 have M5 : Mm w5 [(J3_6, zE u), (J1_0, zE a), (J1_1, zE b), (J1_2, zero6), (g, zW n o s)] := H4.out.1.grow hM (Nat.le_refl _) hl [] rfl (by decide)
 have B5 : Below w.heap.size w w5 := H4.out.2.trans ((hM.below).mono H4.out.2.size)
 clear hM hl l H4
 clear J
 have H5 : Hid (_ ∧ _) := ⟨M5, B5⟩
 clear M5 B5
 refine ⟨_, zQ H5.out.1 0 rfl rfl rfl rfl (Nat.le_of_ble_eq_true rfl), ?_⟩
 have H6 : Hid (Mm (w5.setCells J3_6 0 (zE v)) [(J3_6, zE v), (J1_0, zE a), (J1_1, zE b), (J1_2, zero6), (g, zW n o s)] ∧ Below w.heap.size w (w5.setCells J3_6 0 (zE v))) := ⟨H5.out.1.put 0 (off := 0) (vs := zE v) rfl (Nat.le_of_ble_eq_true rfl), below_setCells _ o3_6.out _ _ _ H5.out.2⟩
 clear H5
 generalize hgw : World.setCells _ _ _ _ = w6 at H6 ⊢
 clear hgw
 refine rN (wp_seq ?_)
 refine zI 3 [.q (PT g 0), .q (N v), .call (N r)] (sB H6) ?ho6 ?he6
 case ho6 => exact ar (bN 0 (ac (fun w' h => eC call79 (C5.out w' (h.one 4 rfl))) trivial))
 intro J w7 l hM hl
 have M7 : Mm w7 [(J3_6, zE v), (J1_0, zE a), (J1_1, zE b), (J1_2, zero6), (g, zW n o s)] := H6.out.1.grow hM (Nat.le_refl _) hl [] rfl (by decide)
 have B7 : Below w.heap.size w w7 := H6.out.2.trans ((hM.below).mono H6.out.2.size)
 clear hM hl l H6
 clear J
 have H7 : Hid (_ ∧ _) := ⟨M7, B7⟩
 clear M7 B7
 refine zR (l := [3]) rfl ?_
 refine sG rfl (fun h => zQ h 3 rfl rfl rfl rfl (Nat.le_of_ble_eq_true rfl)) 3 [_, _, _, (_, zE r), _] H7 o1_2 fun w8 H8 => ?_
 clear H7
 refine zC (zB (wp_ret ?_))
 repeat (first | refine zL ?_ | refine zK ?_)
 have c0 := H8.out.1.get 3 rfl 0 rfl
 have c1 := H8.out.1.get 3 rfl 1 rfl
 have c2 := H8.out.1.get 3 rfl 2 rfl
 have c3 := H8.out.1.get 3 rfl 3 rfl
 have c4 := H8.out.1.get 3 rfl 4 rfl
 have c5 := H8.out.1.get 3 rfl 5 rfl
 refine bodyPost_ret (v := N r) (by simp [results, Tryz.results28, go_sem, *]) rfl ?_
 exact ⟨rfl, H8.out.2⟩
theorem sub_1 (g n o s a b u r : Nat)
  (c0 : ∀ w, Mm w [(g, zW n o s)] → Calls Tryz.prog 77 #[PT g 0] w (Rt w (.bool true)))
  (c1 : ∀ w, Calls Tryz.prog 113 #[N a, N b] w (Rt w (.tuple #[N u, .bool false])))
  (c2 : ∀ w, Mm w [(g, zW n o s)] → Calls Tryz.prog 79 #[PT g 0, N u] w (Rt w (N r))) (w : World) (hm : Mm w [(g, zW n o s)]) :
  Calls Tryz.prog 76 #[PT g 0, N a, N b] w (Rt w (N r)) := by
 have H0 : Hid (_ ∧ _) := ⟨hm, Below.refl w.heap.size w⟩
 clear hm
 have C0 : Hid _ := c0
 have C1 : Hid _ := c1
 have C2 : Hid _ := c2
 clear c0 c1 c2
 go_enter Tryz.func76, Tryz.ntmps76
 refine wp_seq ?_
 refine zI 3 [.made (zE a) 24, .made (zE b) 24, .made zero6 24] (sB H0) ?ho1 ?he1
 case ho1 => exact am (ex_box6 rfl rfl) (am (ex_box6 rfl rfl) (am (zO rfl) trivial))
 intro J w1 l hM hl
 have M1 : Mm w1 [(J 0, zE a), (J 1, zE b), (J 2, zero6), (g, zW n o s)] := H0.out.1.grow hM (Nat.le_refl _) hl [0, 1, 2] rfl (by decide)
 have B1 : Below w.heap.size w w1 := H0.out.2.trans ((hM.below).mono H0.out.2.size)
 have o1_0 : Hid (w.heap.size ≤ J 0) := Nat.le_trans H0.out.2.size (hM.fin (Nat.le_refl _) hl (i := 0) rfl).2.1
 have o1_1 : Hid (w.heap.size ≤ J 1) := Nat.le_trans H0.out.2.size (hM.fin (Nat.le_refl _) hl (i := 1) rfl).2.1
 have o1_2 : Hid (w.heap.size ≤ J 2) := Nat.le_trans H0.out.2.size (hM.fin (Nat.le_refl _) hl (i := 2) rfl).2.1
 clear hM hl l
 generalize J 0 = J1_0 at M1 o1_0 ⊢
 generalize J 1 = J1_1 at M1 o1_1 ⊢
 generalize J 2 = J1_2 at M1 o1_2 ⊢
 clear J
 have H1 : Hid (_ ∧ _) := ⟨M1, B1⟩
 clear M1 B1
 refine rN (wp_seq (wp_seq ?_))
 refine zI 3 [.q (PT g 0), .call (.bool true), .q (.bool false)] (sB H1) ?ho2 ?he2
 case ho2 => exact ar (ac (fun w' h => eC call77 (C0.out w' (h.one 3 rfl))) (ag trivial))
 intro J w2 l hM hl
 have M2 : Mm w2 [(J1_0, zE a), (J1_1, zE b), (J1_2, zero6), (g, zW n o s)] := H1.out.1.grow hM (Nat.le_refl _) hl [] rfl (by decide)
 have B2 : Below w.heap.size w w2 := H1.out.2.trans ((hM.below).mono H1.out.2.size)
 clear hM hl l H1
 clear J
 have H2 : Hid (_ ∧ _) := ⟨M2, B2⟩
 clear M2 B2
 refine rN (wp_cond_false rfl ?_)
 refine wp_skip (zB (wp_seq ?_))
 refine zI 9 [.q (N a), .q (N b), .call (.tuple #[N u, .bool false]), .q (.tuple #[N u, .bool false]), .q (N u), .q (.bool false), .made zero6 24, .laid 6 zero6 (zE u), .q (.bool false)] (sB H2) ?ho3 ?he3 (hL := ?hL3)
 case hL3 => exact ⟨⟨_, rfl⟩, trivial⟩
 case ho3 => exact bN 0 (bN 1 (ac (fun w' h => eC call113 (C1.out w')) (ar (ag (ag (am (zO rfl) (ak (fun J => ⟨rfl, rfl, rfl, fun w' h => exec_laid6 h rfl rfl rfl⟩) (ar trivial))))))))
 intro J w3 l hM hl
 have M3 : Mm w3 [(J 6, zE u), (J1_0, zE a), (J1_1, zE b), (J1_2, zero6), (g, zW n o s)] := H2.out.1.grow hM (Nat.le_refl _) hl [6] rfl (by decide)
 have B3 : Below w.heap.size w w3 := H2.out.2.trans ((hM.below).mono H2.out.2.size)
 have o3_6 : Hid (w.heap.size ≤ J 6) := Nat.le_trans H2.out.2.size (hM.fin (Nat.le_refl _) hl (i := 6) rfl).2.1
 clear hM hl l H2
 generalize J 6 = J3_6 at M3 o3_6 ⊢
 clear J
 have H3 : Hid (_ ∧ _) := ⟨M3, B3⟩
 clear M3 B3
 refine rN (wp_seq (wp_seq ?_))
 refine zI 2 [.q (.bool false), .q (.bool true)] (sB H3) ?ho4 ?he4
 case ho4 => exact ar (ag trivial)
 intro J w4 l hM hl
 have M4 : Mm w4 [(J3_6, zE u), (J1_0, zE a), (J1_1, zE b), (J1_2, zero6), (g, zW n o s)] := H3.out.1.grow hM (Nat.le_refl _) hl [] rfl (by decide)
 have B4 : Below w.heap.size w w4 := H3.out.2.trans ((hM.below).mono H3.out.2.size)
 clear hM hl l H3
 clear J
 have H4 : Hid (_ ∧ _) := ⟨M4, B4⟩
 clear M4 B4
 refine rN (wp_cond_true rfl (wp_seq ?_))
 refine zI 3 [.q (PT g 0), .q (N u), .call (N r)] (sB H4) ?ho5 ?he5
 case ho5 => exact ar (bN 0 (ac (fun w' h => eC call79 (C2.out w' (h.one 4 rfl))) trivial))
 intro J w5 l hM hl
 have M5 : Mm w5 [(J3_6, zE u), (J1_0, zE a), (J1_1, zE b), (J1_2, zero6), (g, zW n o s)] := H4.out.1.grow hM (Nat.le_refl _) hl [] rfl (by decide)
 have B5 : Below w.heap.size w w5 := H4.out.2.trans ((hM.below).mono H4.out.2.size)
 clear hM hl l H4
 clear J
 have H5 : Hid (_ ∧ _) := ⟨M5, B5⟩
 clear M5 B5
 refine zR (l := [3]) rfl ?_
 refine sG rfl (fun h => zQ h 3 rfl rfl rfl rfl (Nat.le_of_ble_eq_true rfl)) 3 [_, _, _, (_, zE r), _] H5 o1_2 fun w6 H6 => ?_
 clear H5
 refine zC (zB (wp_ret ?_))
 repeat (first | refine zL ?_ | refine zK ?_)
 have c0 := H6.out.1.get 3 rfl 0 rfl
 have c1 := H6.out.1.get 3 rfl 1 rfl
 have c2 := H6.out.1.get 3 rfl 2 rfl
 have c3 := H6.out.1.get 3 rfl 3 rfl
 have c4 := H6.out.1.get 3 rfl 4 rfl
 have c5 := H6.out.1.get 3 rfl 5 rfl
 refine bodyPost_ret (v := N r) (by simp [results, Tryz.results76, go_sem, *]) rfl ?_
 exact ⟨rfl, H6.out.2⟩
theorem sub_2 (g n o s a b u r : Nat)
  (c0 : ∀ w, Mm w [(g, zW n o s)] → Calls Tryz.prog 77 #[PT g 0] w (Rt w (.bool true)))
  (c1 : ∀ w, Calls Tryz.prog 113 #[N a, N b] w (Rt w (.tuple #[N u, .bool true])))
  (c2 : ∀ w, Calls Tryz.prog 78 #[N u, N n] w (Rt w (.tuple #[N r, .bool true]))) (w : World) (hm : Mm w [(g, zW n o s)]) :
  Calls Tryz.prog 76 #[PT g 0, N a, N b] w (Rt w (N r)) := by
 have H0 : Hid (_ ∧ _) := ⟨hm, Below.refl w.heap.size w⟩
 clear hm
 have C0 : Hid _ := c0
 have C1 : Hid _ := c1
 have C2 : Hid _ := c2
 clear c0 c1 c2
 go_enter Tryz.func76, Tryz.ntmps76
 refine wp_seq ?_
 refine zI 3 [.made (zE a) 24, .made (zE b) 24, .made zero6 24] (sB H0) ?ho1 ?he1
 case ho1 => exact am (ex_box6 rfl rfl) (am (ex_box6 rfl rfl) (am (zO rfl) trivial))
 intro J w1 l hM hl
 have M1 : Mm w1 [(J 0, zE a), (J 1, zE b), (J 2, zero6), (g, zW n o s)] := H0.out.1.grow hM (Nat.le_refl _) hl [0, 1, 2] rfl (by decide)
 have B1 : Below w.heap.size w w1 := H0.out.2.trans ((hM.below).mono H0.out.2.size)
 have o1_0 : Hid (w.heap.size ≤ J 0) := Nat.le_trans H0.out.2.size (hM.fin (Nat.le_refl _) hl (i := 0) rfl).2.1
 have o1_1 : Hid (w.heap.size ≤ J 1) := Nat.le_trans H0.out.2.size (hM.fin (Nat.le_refl _) hl (i := 1) rfl).2.1
 have o1_2 : Hid (w.heap.size ≤ J 2) := Nat.le_trans H0.out.2.size (hM.fin (Nat.le_refl _) hl (i := 2) rfl).2.1
 clear hM hl l
 generalize J 0 = J1_0 at M1 o1_0 ⊢
 generalize J 1 = J1_1 at M1 o1_1 ⊢
 generalize J 2 = J1_2 at M1 o1_2 ⊢
 clear J
 have H1 : Hid (_ ∧ _) := ⟨M1, B1⟩
 clear M1 B1
 refine rN (wp_seq (wp_seq ?_))
 refine zI 3 [.q (PT g 0), .call (.bool true), .q (.bool false)] (sB H1) ?ho2 ?he2
 case ho2 => exact ar (ac (fun w' h => eC call77 (C0.out w' (h.one 3 rfl))) (ag trivial))
 intro J w2 l hM hl
 have M2 : Mm w2 [(J1_0, zE a), (J1_1, zE b), (J1_2, zero6), (g, zW n o s)] := H1.out.1.grow hM (Nat.le_refl _) hl [] rfl (by decide)
 have B2 : Below w.heap.size w w2 := H1.out.2.trans ((hM.below).mono H1.out.2.size)
 clear hM hl l H1
 clear J
 have H2 : Hid (_ ∧ _) := ⟨M2, B2⟩
 clear M2 B2
 refine rN (wp_cond_false rfl ?_)
 refine wp_skip (zB (wp_seq ?_))
 refine zI 9 [.q (N a), .q (N b), .call (.tuple #[N u, .bool true]), .q (.tuple #[N u, .bool true]), .q (N u), .q (.bool true), .made zero6 24, .laid 6 zero6 (zE u), .q (.bool true)] (sB H2) ?ho3 ?he3 (hL := ?hL3)
 case hL3 => exact ⟨⟨_, rfl⟩, trivial⟩
 case ho3 => exact bN 0 (bN 1 (ac (fun w' h => eC call113 (C1.out w')) (ar (ag (ag (am (zO rfl) (ak (fun J => ⟨rfl, rfl, rfl, fun w' h => exec_laid6 h rfl rfl rfl⟩) (ar trivial))))))))
 intro J w3 l hM hl
 have M3 : Mm w3 [(J 6, zE u), (J1_0, zE a), (J1_1, zE b), (J1_2, zero6), (g, zW n o s)] := H2.out.1.grow hM (Nat.le_refl _) hl [6] rfl (by decide)
 have B3 : Below w.heap.size w w3 := H2.out.2.trans ((hM.below).mono H2.out.2.size)
 have o3_6 : Hid (w.heap.size ≤ J 6) := Nat.le_trans H2.out.2.size (hM.fin (Nat.le_refl _) hl (i := 6) rfl).2.1
 clear hM hl l H2
 generalize J 6 = J3_6 at M3 o3_6 ⊢
 clear J
 have H3 : Hid (_ ∧ _) := ⟨M3, B3⟩
 clear M3 B3
 refine rN (wp_seq (wp_seq ?_))
 refine zI 2 [.q (.bool true), .q (.bool false)] (sB H3) ?ho4 ?he4
 case ho4 => exact ar (ag trivial)
 intro J w4 l hM hl
 have M4 : Mm w4 [(J3_6, zE u), (J1_0, zE a), (J1_1, zE b), (J1_2, zero6), (g, zW n o s)] := H3.out.1.grow hM (Nat.le_refl _) hl [] rfl (by decide)
 have B4 : Below w.heap.size w w4 := H3.out.2.trans ((hM.below).mono H3.out.2.size)
 clear hM hl l H3
 clear J
 have H4 : Hid (_ ∧ _) := ⟨M4, B4⟩
 clear M4 B4
 refine rN (wp_cond_false rfl ?_)
 refine wp_skip (zB (wp_seq ?_))
 refine walk_anyA 12 [.q (N u), .q (PT g 0), .q (PT g 0), .q (PT g 0), .q (N n), .call (.tuple #[N r, .bool true]), .q (.tuple #[N r, .bool true]), .q (N r), .q (.bool true), .made zero6 24, .laid 9 zero6 (zE r), .q (.bool true)] (sB H4) ?ho5 ?he5 (hL := ?hL5)
 case hL5 => exact ⟨⟨_, rfl⟩, trivial⟩
 case ho5 => exact bN 0 (ar (ag (ag (bN 4 (ac (fun w' h => eC call78 (C2.out w')) (ar (ag (ag (am (zO rfl) (ak (fun J => ⟨rfl, rfl, rfl, fun w' h => exec_laid6 h rfl rfl rfl⟩) (ar trivial)))))))))))
 intro J w5 l hM hl
 have M5 : Mm w5 [(J 9, zE r), (J3_6, zE u), (J1_0, zE a), (J1_1, zE b), (J1_2, zero6), (g, zW n o s)] := H4.out.1.grow hM (Nat.le_refl _) hl [9] rfl (by decide)
 have B5 : Below w.heap.size w w5 := H4.out.2.trans ((hM.below).mono H4.out.2.size)
 have o5_9 : Hid (w.heap.size ≤ J 9) := Nat.le_trans H4.out.2.size (hM.fin (Nat.le_refl _) hl (i := 9) rfl).2.1
 clear hM hl l H4
 generalize J 9 = J5_9 at M5 o5_9 ⊢
 clear J
 have H5 : Hid (_ ∧ _) := ⟨M5, B5⟩
 clear M5 B5
 refine rN (wp_seq (wp_seq ?_))
 refine zI 1 [.q (.bool true)] (sB H5) ?ho6 ?he6
 case ho6 => exact ar trivial
 intro J w6 l hM hl
 have M6 : Mm w6 [(J5_9, zE r), (J3_6, zE u), (J1_0, zE a), (J1_1, zE b), (J1_2, zero6), (g, zW n o s)] := H5.out.1.grow hM (Nat.le_refl _) hl [] rfl (by decide)
 have B6 : Below w.heap.size w w6 := H5.out.2.trans ((hM.below).mono H5.out.2.size)
 clear hM hl l H5
 clear J
 have H6 : Hid (_ ∧ _) := ⟨M6, B6⟩
 clear M6 B6
 refine rN (wp_cond_true rfl (wp_seq ?_))
 refine zI 1 [.q (N r)] (sB H6) ?ho7 ?he7
 case ho7 => exact bN 0 trivial
 intro J w7 l hM hl
 have M7 : Mm w7 [(J5_9, zE r), (J3_6, zE u), (J1_0, zE a), (J1_1, zE b), (J1_2, zero6), (g, zW n o s)] := H6.out.1.grow hM (Nat.le_refl _) hl [] rfl (by decide)
 have B7 : Below w.heap.size w w7 := H6.out.2.trans ((hM.below).mono H6.out.2.size)
 clear hM hl l H6
 clear J
 have H7 : Hid (_ ∧ _) := ⟨M7, B7⟩
 clear M7 B7
 refine zR (l := [1]) rfl ?_
 refine sG rfl (fun h => zQ h 4 rfl rfl rfl rfl (Nat.le_of_ble_eq_true rfl)) 4 [_, _, _, _, (_, zE r), _] H7 o1_2 fun w8 H8 => ?_
 clear H7
 refine zC (zB (wp_ret ?_))
 repeat (first | refine zL ?_ | refine zK ?_)
 have c0 := H8.out.1.get 4 rfl 0 rfl
 have c1 := H8.out.1.get 4 rfl 1 rfl
 have c2 := H8.out.1.get 4 rfl 2 rfl
 have c3 := H8.out.1.get 4 rfl 3 rfl
 have c4 := H8.out.1.get 4 rfl 4 rfl
 have c5 := H8.out.1.get 4 rfl 5 rfl
 refine bodyPost_ret (v := N r) (by simp [results, Tryz.results76, go_sem, *]) rfl ?_
 exact ⟨rfl, H8.out.2⟩
theorem sub_3 (g n o s a b u v x y r : Nat)
  (c0 : ∀ w, Mm w [(g, zW n o s)] → Calls Tryz.prog 77 #[PT g 0] w (Rt w (.bool true)))
  (c1 : ∀ w, Calls Tryz.prog 113 #[N a, N b] w (Rt w (.tuple #[N u, .bool true])))
  (c2 : ∀ w, Calls Tryz.prog 78 #[N u, N n] w (Rt w (.tuple #[N v, .bool false])))
  (c3 : ∀ w, Mm w [(g, zW n o s)] → Calls Tryz.prog 79 #[PT g 0, N b] w (Rt w (N x)))
  (c4 : ∀ w, Calls Tryz.prog 113 #[N n, N x] w (Rt w (.tuple #[N y, .bool false])))
  (c5 : ∀ w, Mm w [(g, zW n o s)] → Calls Tryz.prog 28 #[PT g 0, N a, N y] w (Rt w (N r))) (w : World) (hm : Mm w [(g, zW n o s)]) :
  Calls Tryz.prog 76 #[PT g 0, N a, N b] w (Rt w (N r)) := by
 have H0 : Hid (_ ∧ _) := ⟨hm, Below.refl w.heap.size w⟩
 clear hm
 have C0 : Hid _ := c0
 have C1 : Hid _ := c1
 have C2 : Hid _ := c2
 have C3 : Hid _ := c3
 have C4 : Hid _ := c4
 have C5 : Hid _ := c5
 clear c0 c1 c2 c3 c4 c5
 go_enter Tryz.func76, Tryz.ntmps76
 refine wp_seq ?_
 refine zI 3 [.made (zE a) 24, .made (zE b) 24, .made zero6 24] (sB H0) ?ho1 ?he1
 case ho1 => exact am (ex_box6 rfl rfl) (am (ex_box6 rfl rfl) (am (zO rfl) trivial))
 intro J w1 l hM hl
 have M1 : Mm w1 [(J 0, zE a), (J 1, zE b), (J 2, zero6), (g, zW n o s)] := H0.out.1.grow hM (Nat.le_refl _) hl [0, 1, 2] rfl (by decide)
 have B1 : Below w.heap.size w w1 := H0.out.2.trans ((hM.below).mono H0.out.2.size)
 have o1_0 : Hid (w.heap.size ≤ J 0) := Nat.le_trans H0.out.2.size (hM.fin (Nat.le_refl _) hl (i := 0) rfl).2.1
 have o1_1 : Hid (w.heap.size ≤ J 1) := Nat.le_trans H0.out.2.size (hM.fin (Nat.le_refl _) hl (i := 1) rfl).2.1
 have o1_2 : Hid (w.heap.size ≤ J 2) := Nat.le_trans H0.out.2.size (hM.fin (Nat.le_refl _) hl (i := 2) rfl).2.1
 clear hM hl l
 generalize J 0 = J1_0 at M1 o1_0 ⊢
 generalize J 1 = J1_1 at M1 o1_1 ⊢
 generalize J 2 = J1_2 at M1 o1_2 ⊢
 clear J
 have H1 : Hid (_ ∧ _) := ⟨M1, B1⟩
 clear M1 B1
 refine rN (wp_seq (wp_seq ?_))
 refine zI 3 [.q (PT g 0), .call (.bool true), .q (.bool false)] (sB H1) ?ho2 ?he2
 case ho2 => exact ar (ac (fun w' h => eC call77 (C0.out w' (h.one 3 rfl))) (ag trivial))
 intro J w2 l hM hl
 have M2 : Mm w2 [(J1_0, zE a), (J1_1, zE b), (J1_2, zero6), (g, zW n o s)] := H1.out.1.grow hM (Nat.le_refl _) hl [] rfl (by decide)
 have B2 : Below w.heap.size w w2 := H1.out.2.trans ((hM.below).mono H1.out.2.size)
 clear hM hl l H1
 clear J
 have H2 : Hid (_ ∧ _) := ⟨M2, B2⟩
 clear M2 B2
 refine rN (wp_cond_false rfl ?_)
 refine wp_skip (zB (wp_seq ?_))
 refine zI 9 [.q (N a), .q (N b), .call (.tuple #[N u, .bool true]), .q (.tuple #[N u, .bool true]), .q (N u), .q (.bool true), .made zero6 24, .laid 6 zero6 (zE u), .q (.bool true)] (sB H2) ?ho3 ?he3 (hL := ?hL3)
 case hL3 => exact ⟨⟨_, rfl⟩, trivial⟩
 case ho3 => exact bN 0 (bN 1 (ac (fun w' h => eC call113 (C1.out w')) (ar (ag (ag (am (zO rfl) (ak (fun J => ⟨rfl, rfl, rfl, fun w' h => exec_laid6 h rfl rfl rfl⟩) (ar trivial))))))))
 intro J w3 l hM hl
 have M3 : Mm w3 [(J 6, zE u), (J1_0, zE a), (J1_1, zE b), (J1_2, zero6), (g, zW n o s)] := H2.out.1.grow hM (Nat.le_refl _) hl [6] rfl (by decide)
 have B3 : Below w.heap.size w w3 := H2.out.2.trans ((hM.below).mono H2.out.2.size)
 have o3_6 : Hid (w.heap.size ≤ J 6) := Nat.le_trans H2.out.2.size (hM.fin (Nat.le_refl _) hl (i := 6) rfl).2.1
 clear hM hl l H2
 generalize J 6 = J3_6 at M3 o3_6 ⊢
 clear J
 have H3 : Hid (_ ∧ _) := ⟨M3, B3⟩
 clear M3 B3
 refine rN (wp_seq (wp_seq ?_))
 refine zI 2 [.q (.bool true), .q (.bool false)] (sB H3) ?ho4 ?he4
 case ho4 => exact ar (ag trivial)
 intro J w4 l hM hl
 have M4 : Mm w4 [(J3_6, zE u), (J1_0, zE a), (J1_1, zE b), (J1_2, zero6), (g, zW n o s)] := H3.out.1.grow hM (Nat.le_refl _) hl [] rfl (by decide)
 have B4 : Below w.heap.size w w4 := H3.out.2.trans ((hM.below).mono H3.out.2.size)
 clear hM hl l H3
 clear J
 have H4 : Hid (_ ∧ _) := ⟨M4, B4⟩
 clear M4 B4
 refine rN (wp_cond_false rfl ?_)
 refine wp_skip (zB (wp_seq ?_))
 refine walk_anyA 12 [.q (N u), .q (PT g 0), .q (PT g 0), .q (PT g 0), .q (N n), .call (.tuple #[N v, .bool false]), .q (.tuple #[N v, .bool false]), .q (N v), .q (.bool false), .made zero6 24, .laid 9 zero6 (zE v), .q (.bool false)] (sB H4) ?ho5 ?he5 (hL := ?hL5)
 case hL5 => exact ⟨⟨_, rfl⟩, trivial⟩
 case ho5 => exact bN 0 (ar (ag (ag (bN 4 (ac (fun w' h => eC call78 (C2.out w')) (ar (ag (ag (am (zO rfl) (ak (fun J => ⟨rfl, rfl, rfl, fun w' h => exec_laid6 h rfl rfl rfl⟩) (ar trivial)))))))))))
 intro J w5 l hM hl
 have M5 : Mm w5 [(J 9, zE v), (J3_6, zE u), (J1_0, zE a), (J1_1, zE b), (J1_2, zero6), (g, zW n o s)] := H4.out.1.grow hM (Nat.le_refl _) hl [9] rfl (by decide)
 have B5 : Below w.heap.size w w5 := H4.out.2.trans ((hM.below).mono H4.out.2.size)
 have o5_9 : Hid (w.heap.size ≤ J 9) := Nat.le_trans H4.out.2.size (hM.fin (Nat.le_refl _) hl (i := 9) rfl).2.1
 clear hM hl l H4
 generalize J 9 = J5_9 at M5 o5_9 ⊢
 clear J
 have H5 : Hid (_ ∧ _) := ⟨M5, B5⟩
 clear M5 B5
 refine rN (wp_seq (wp_seq ?_))
 refine zI 1 [.q (.bool false)] (sB H5) ?ho6 ?he6
 case ho6 => exact ar trivial
 intro J w6 l hM hl
 have M6 : Mm w6 [(J5_9, zE v), (J3_6, zE u), (J1_0, zE a), (J1_1, zE b), (J1_2, zero6), (g, zW n o s)] := H5.out.1.grow hM (Nat.le_refl _) hl [] rfl (by decide)
 have B6 : Below w.heap.size w w6 := H5.out.2.trans ((hM.below).mono H5.out.2.size)
 clear hM hl l H5
 clear J
 have H6 : Hid (_ ∧ _) := ⟨M6, B6⟩
 clear M6 B6
 refine rN (wp_cond_false rfl ?_)
 refine wp_skip (zB (wp_seq ?_))
 refine walk_anyA 14 [.q (PT g 0), .q (PT g 0), .q (PT g 0), .q (N n), .q (PT g 0), .q (N b), .call (N x), .call (.tuple #[N y, .bool false]), .q (.tuple #[N y, .bool false]), .q (N y), .q (.bool false), .made zero6 24, .laid 11 zero6 (zE y), .q (.bool false)] (sB H6) ?ho7 ?he7 (hL := ?hL7)
 case hL7 => exact ⟨⟨_, rfl⟩, trivial⟩
 case ho7 => exact ar (ag (ag (bN 5 (ar (bN 3 (ac (fun w' h => eC call79 (C3.out w' (h.one 5 rfl))) (ac (fun w' h => eC call113 (C4.out w')) (ar (ag (ag (am (zO rfl) (ak (fun J => ⟨rfl, rfl, rfl, fun w' h => exec_laid6 h rfl rfl rfl⟩) (ar trivial)))))))))))))
 intro J w7 l hM hl
 have M7 : Mm w7 [(J 11, zE y), (J5_9, zE v), (J3_6, zE u), (J1_0, zE a), (J1_1, zE b), (J1_2, zero6), (g, zW n o s)] := H6.out.1.grow hM (Nat.le_refl _) hl [11] rfl (by decide)
 have B7 : Below w.heap.size w w7 := H6.out.2.trans ((hM.below).mono H6.out.2.size)
 have o7_11 : Hid (w.heap.size ≤ J 11) := Nat.le_trans H6.out.2.size (hM.fin (Nat.le_refl _) hl (i := 11) rfl).2.1
 clear hM hl l H6
 generalize J 11 = J7_11 at M7 o7_11 ⊢
 clear J
 have H7 : Hid (_ ∧ _) := ⟨M7, B7⟩
 clear M7 B7
 refine rN (wp_seq ?_)
 refine zI 4 [.q (PT g 0), .q (N a), .q (N y), .call (N r)] (sB H7) ?ho8 ?he8
 case ho8 => exact ar (bN 3 (bN 0 (ac (fun w' h => eC call28 (C5.out w' (h.one 6 rfl))) trivial)))
 intro J w8 l hM hl
 have M8 : Mm w8 [(J7_11, zE y), (J5_9, zE v), (J3_6, zE u), (J1_0, zE a), (J1_1, zE b), (J1_2, zero6), (g, zW n o s)] := H7.out.1.grow hM (Nat.le_refl _) hl [] rfl (by decide)
 have B8 : Below w.heap.size w w8 := H7.out.2.trans ((hM.below).mono H7.out.2.size)
 clear hM hl l H7
 clear J
 have H8 : Hid (_ ∧ _) := ⟨M8, B8⟩
 clear M8 B8
 refine zR (l := [4]) rfl ?_
 refine sG rfl (fun h => zQ h 5 rfl rfl rfl rfl (Nat.le_of_ble_eq_true rfl)) 5 [_, _, _, _, _, (_, zE r), _] H8 o1_2 fun w9 H9 => ?_
 clear H8
 refine zC (zB (wp_ret ?_))
 repeat (first | refine zL ?_ | refine zK ?_)
 have c0 := H9.out.1.get 5 rfl 0 rfl
 have c1 := H9.out.1.get 5 rfl 1 rfl
 have c2 := H9.out.1.get 5 rfl 2 rfl
 have c3 := H9.out.1.get 5 rfl 3 rfl
 have c4 := H9.out.1.get 5 rfl 4 rfl
 have c5 := H9.out.1.get 5 rfl 5 rfl
 refine bodyPost_ret (v := N r) (by simp [results, Tryz.results76, go_sem, *]) rfl ?_
 exact ⟨rfl, H9.out.2⟩
theorem neg_gen (g n o s a r : Nat)
  (c0 : ∀ w, Mm w [(g, zW n o s)] → Calls Tryz.prog 76 #[PT g 0, N 0, N a] w (Rt w (N r))) (w : World) (hm : Mm w [(g, zW n o s)]) :
  Calls Tryz.prog 27 #[PT g 0, N a] w (Rt w (N r)) := by
 have H0 : Hid (_ ∧ _) := ⟨hm, Below.refl w.heap.size w⟩
 clear hm
 have C0 : Hid _ := c0
 clear c0
 go_enter Tryz.func27, Tryz.ntmps27
 refine wp_seq ?_
 refine zI 2 [.made (zE a) 24, .made zero6 24] (sB H0) ?ho1 ?he1
 case ho1 => exact am (ex_box6 rfl rfl) (am (zO rfl) trivial)
 intro J w1 l hM hl
 have M1 : Mm w1 [(J 0, zE a), (J 1, zero6), (g, zW n o s)] := H0.out.1.grow hM (Nat.le_refl _) hl [0, 1] rfl (by decide)
 have B1 : Below w.heap.size w w1 := H0.out.2.trans ((hM.below).mono H0.out.2.size)
 have o1_0 : Hid (w.heap.size ≤ J 0) := Nat.le_trans H0.out.2.size (hM.fin (Nat.le_refl _) hl (i := 0) rfl).2.1
 have o1_1 : Hid (w.heap.size ≤ J 1) := Nat.le_trans H0.out.2.size (hM.fin (Nat.le_refl _) hl (i := 1) rfl).2.1
 clear hM hl l
 generalize J 0 = J1_0 at M1 o1_0 ⊢
 generalize J 1 = J1_1 at M1 o1_1 ⊢
 clear J
 have H1 : Hid (_ ∧ _) := ⟨M1, B1⟩
 clear M1 B1
 refine rN (wp_seq ?_)
 refine zI 4 [.q (PT g 0), .q (N 0), .q (N a), .call (N r)] (sB H1) ?ho2 ?he2
 case ho2 => exact ar (ak (by refine fun J => ⟨rfl, fun w' h => ?_⟩; clear h; exact ex_zero6 rfl) (bN 0 (ac (fun w' h => eC call76 (C0.out w' (h.one 2 rfl))) trivial)))
 intro J w2 l hM hl
 have M2 : Mm w2 [(J1_0, zE a), (J1_1, zero6), (g, zW n o s)] := H1.out.1.grow hM (Nat.le_refl _) hl [] rfl (by decide)
 have B2 : Below w.heap.size w w2 := H1.out.2.trans ((hM.below).mono H1.out.2.size)
 clear hM hl l H1
 clear J
 have H2 : Hid (_ ∧ _) := ⟨M2, B2⟩
 clear M2 B2
 refine zR (l := [4]) rfl ?_
 refine sG rfl (fun h => zQ h 1 rfl rfl rfl rfl (Nat.le_of_ble_eq_true rfl)) 1 [_, (_, zE r), _] H2 o1_1 fun w3 H3 => ?_
 clear H2
 refine zC (zB (wp_ret ?_))
 repeat (first | refine zL ?_ | refine zK ?_)
 have c0 := H3.out.1.get 1 rfl 0 rfl
 have c1 := H3.out.1.get 1 rfl 1 rfl
 have c2 := H3.out.1.get 1 rfl 2 rfl
 have c3 := H3.out.1.get 1 rfl 3 rfl
 have c4 := H3.out.1.get 1 rfl 4 rfl
 have c5 := H3.out.1.get 1 rfl 5 rfl
 refine bodyPost_ret (v := N r) (by simp [results, Tryz.results27, go_sem, *]) rfl ?_
 exact ⟨rfl, H3.out.2⟩
theorem mul_gen (g n o s a b p r : Nat)
  (c0 : ∀ w, Mm w [(g, zW n o s)] → Calls Tryz.prog 77 #[PT g 0] w (Rt w (.bool true)))
  (c1 : ∀ w, Mm w [(g, zW n o s)] → Calls Tryz.prog 115 #[PT g 0, N a, N s] w (Rt w (N p)))
  (c2 : ∀ w, Mm w [(g, zW n o s)] → Calls Tryz.prog 115 #[PT g 0, N b, N p] w (Rt w (N r))) (w : World) (hm : Mm w [(g, zW n o s)]) :
  Calls Tryz.prog 126 #[PT g 0, N a, N b] w (Rt w (N r)) := by
 have H0 : Hid (_ ∧ _) := ⟨hm, Below.refl w.heap.size w⟩
 clear hm
 have C0 : Hid _ := c0
 have C1 : Hid _ := c1
 have C2 : Hid _ := c2
 clear c0 c1 c2
 go_enter Tryz.func126, Tryz.ntmps126
 refine wp_seq ?_
 refine zI 3 [.made (zE a) 24, .made (zE b) 24, .made zero6 24] (sB H0) ?ho1 ?he1
 case ho1 => exact am (ex_box6 rfl rfl) (am (ex_box6 rfl rfl) (am (zO rfl) trivial))
 intro J w1 l hM hl
 have M1 : Mm w1 [(J 0, zE a), (J 1, zE b), (J 2, zero6), (g, zW n o s)] := H0.out.1.grow hM (Nat.le_refl _) hl [0, 1, 2] rfl (by decide)
 have B1 : Below w.heap.size w w1 := H0.out.2.trans ((hM.below).mono H0.out.2.size)
 have o1_0 : Hid (w.heap.size ≤ J 0) := Nat.le_trans H0.out.2.size (hM.fin (Nat.le_refl _) hl (i := 0) rfl).2.1
 have o1_1 : Hid (w.heap.size ≤ J 1) := Nat.le_trans H0.out.2.size (hM.fin (Nat.le_refl _) hl (i := 1) rfl).2.1
 have o1_2 : Hid (w.heap.size ≤ J 2) := Nat.le_trans H0.out.2.size (hM.fin (Nat.le_refl _) hl (i := 2) rfl).2.1
 clear hM hl l
 generalize J 0 = J1_0 at M1 o1_0 ⊢
 generalize J 1 = J1_1 at M1 o1_1 ⊢
 generalize J 2 = J1_2 at M1 o1_2 ⊢
 clear J
 have H1 : Hid (_ ∧ _) := ⟨M1, B1⟩
 clear M1 B1
 refine rN (wp_seq (wp_seq ?_))
 refine zI 3 [.q (PT g 0), .call (.bool true), .q (.bool false)] (sB H1) ?ho2 ?he2
 case ho2 => exact ar (ac (fun w' h => eC call77 (C0.out w' (h.one 3 rfl))) (ag trivial))
 intro J w2 l hM hl
 have M2 : Mm w2 [(J1_0, zE a), (J1_1, zE b), (J1_2, zero6), (g, zW n o s)] := H1.out.1.grow hM (Nat.le_refl _) hl [] rfl (by decide)
 have B2 : Below w.heap.size w w2 := H1.out.2.trans ((hM.below).mono H1.out.2.size)
 clear hM hl l H1
 clear J
 have H2 : Hid (_ ∧ _) := ⟨M2, B2⟩
 clear M2 B2
 refine rN (wp_cond_false rfl ?_)
 refine wp_skip (zB (wp_seq ?_))
 refine walk_anyA 10 [.q (PT g 0), .q (N b), .q (PT g 0), .q (N a), .q (PT g 0), .q (PT g 0), .q (PT g 13), .q (N s), .call (N p), .call (N r)] (sB H2) ?ho3 ?he3
 case ho3 => exact ar (bN 1 (ar (bN 0 (ar (ag (ag (bN 3 (ac (fun w' h => eC call115 (C1.out w' (h.one 3 rfl))) (ac (fun w' h => eC call115 (C2.out w' (h.one 3 rfl))) trivial)))))))))
 intro J w3 l hM hl
 have M3 : Mm w3 [(J1_0, zE a), (J1_1, zE b), (J1_2, zero6), (g, zW n o s)] := H2.out.1.grow hM (Nat.le_refl _) hl [] rfl (by decide)
 have B3 : Below w.heap.size w w3 := H2.out.2.trans ((hM.below).mono H2.out.2.size)
 clear hM hl l H2
 clear J
 have H3 : Hid (_ ∧ _) := ⟨M3, B3⟩
 clear M3 B3
 refine zR (l := [10]) rfl ?_
 refine sG rfl (fun h => zQ h 2 rfl rfl rfl rfl (Nat.le_of_ble_eq_true rfl)) 2 [_, _, (_, zE r), _] H3 o1_2 fun w4 H4 => ?_
 clear H3
 refine zC (zB (wp_ret ?_))
 repeat (first | refine zL ?_ | refine zK ?_)
 have c0 := H4.out.1.get 2 rfl 0 rfl
 have c1 := H4.out.1.get 2 rfl 1 rfl
 have c2 := H4.out.1.get 2 rfl 2 rfl
 have c3 := H4.out.1.get 2 rfl 3 rfl
 have c4 := H4.out.1.get 2 rfl 4 rfl
 have c5 := H4.out.1.get 2 rfl 5 rfl
 refine bodyPost_ret (v := N r) (by simp [results, Tryz.results126, go_sem, *]) rfl ?_
 exact ⟨rfl, H4.out.2⟩
theorem mont_one {n : Nat} (ok : Ok n) (x : Nat) : mont n x (big % n) = x % n := by
 refine Cg.eq_mod (n := n) ((mont_cg n _ _).trans ?_) (mont_lt _ _ _ ok.pos)
 have h1 := ((Cg.mod n big).mulL x).mulR (ri n)
 refine h1.trans ?_
 have h2 := (ri_big n ok.odd).mulL x
 rw [Nat.mul_one, ← Nat.mul_assoc] at h2
 exact h2
theorem mont_big {n : Nat} (ok : Ok n) (x y : Nat) : mont n x (y * big % n) = x * y % n := by
 refine Cg.eq_mod (n := n) ((mont_cg n _ _).trans ?_) (mont_lt _ _ _ ok.pos)
 have h1 := ((Cg.mod n (y * big)).mulL x).mulR (ri n)
 refine h1.trans ?_
 have h2 := (ri_big n ok.odd).mulL (x * y)
 rw [Nat.mul_one] at h2
 have e : x * (y * big) * ri n = x * y * (big * ri n) := by simp only [Nat.mul_assoc]
 rw [e]
 exact h2
/-- What is left of a difference. -/
def subm (n a b : Nat) : Nat := (a + (n - b % n)) % n
theorem subm_ge {n a b : Nat} (hn : 0 < n) (h : b ≤ a) : (a - b) % n = subm n a b := by
 unfold subm
 have h1 := Nat.div_add_mod b n
 have h2 := Nat.mod_lt b hn
 have e : a + (n - b % n) = (a - b) + n * (b / n + 1) := by rw [Nat.mul_add]; omega
 rw [e, Nat.add_mul_mod_self_left]
theorem subm_lt {n a b : Nat} (hn : 0 < n) (h : a < b) (h2 : b ≤ a + n) : a + n - b = subm n a b := by
 unfold subm
 have h1 := Nat.div_add_mod b n
 have h3 := Nat.mod_lt b hn
 have e : a + (n - b % n) = (a + n - b) + n * (b / n) := by omega
 rw [e, Nat.add_mul_mod_self_left, Nat.mod_eq_of_lt (by omega)]
theorem subm_lt_n {n : Nat} (hn : 0 < n) (a b : Nat) : subm n a b < n := Nat.mod_lt _ hn
theorem cmp_ge {a n : Nat} (h : ¬ a < n) : ¬ cmpv a n < 0 := by unfold cmpv; rw [if_neg h]; split <;> omega
theorem cmp_lt {a n : Nat} (h : a < n) : cmpv a n = -1 := by unfold cmpv; rw [if_neg (by omega), if_pos h]
theorem madeC {g n : Nat} (ok : Ok n) (w : World) (hm : Mm w [(g, modc n)]) : Calls Tryz.prog 77 #[PT g 0] w (Rt w (.bool true)) := made_any g n _ _ ok w hm
theorem reduce_any {g n : Nat} (ok : Ok n) {a : Nat} (ha : a < big) (w : World) (hm : Mm w [(g, modc n)]) : Calls Tryz.prog 79 #[PT g 0, N a] w (Rt w (N (a % n))) := by
 have hn := ok.big
 by_cases h : a < n
 ·have c := fun w => compare_any a n ha hn w
  rw [cmp_lt h] at c
  rw [Nat.mod_eq_of_lt h]
  exact reduce_1 g n _ _ a (fun w hm => madeC ok w hm) c w hm
 ·have c := fun w => compare_any a n ha hn w
  have cs := fun w => sub_any a n ha hn w
  rw [decide_eq_false h, show a + big - n = a - n + big by omega, Nat.add_mod_right, Nat.mod_eq_of_lt (show a - n < big by omega)] at cs
  have e : a % n = (a - n) % n := Nat.mod_eq_sub_mod (by omega)
  have c2 := fun w => compare_any (a - n) n (by omega) hn w
  by_cases h2 : a - n < n
  ·rw [cmp_lt h2] at c2
   rw [e, Nat.mod_eq_of_lt h2]
   exact reduce_2 g n _ _ a _ _ (cmp_ge h) (fun w hm => madeC ok w hm) c cs c2 w hm
  ·have cp := fun w hm => product_any g n (big % n) (big * big % n) (a - n) (big % n) ok (by omega) (Nat.mod_lt _ ok.pos) w hm
   rw [mont_one ok] at cp
   rw [e]
   exact reduce_3 g n _ _ a _ _ _ _ (cmp_ge h) (cmp_ge h2) (fun w hm => madeC ok w hm) c cs c2 cp w hm
theorem addm_any {g n : Nat} (ok : Ok n) {a b : Nat} (ha : a < big) (hb : b < big) (w : World) (hm : Mm w [(g, modc n)]) : Calls Tryz.prog 28 #[PT g 0, N a, N b] w (Rt w (N ((a + b) % n))) := by
 have c := fun w => add_any a b ha hb w
 by_cases h : big ≤ a + b
 ·rw [decide_eq_true h] at c
  have h1 := Nat.mod_lt a ok.pos
  have h2 := Nat.mod_lt b ok.pos
  have h3 := ok.top
  have c2 := fun w => add_any (a % n) (b % n) (okLt ok a) (okLt ok b) w
  rw [decide_eq_false (by omega), Nat.mod_eq_of_lt (show a % n + b % n < big by omega)] at c2
  have c3 := fun w hm => reduce_any (g := g) ok (show a % n + b % n < big by omega) w hm
  rw [← Nat.add_mod] at c3
  exact add_2 g n _ _ a b _ _ _ _ _ (fun w hm => madeC ok w hm) c (fun w hm => reduce_any ok ha w hm) (fun w hm => reduce_any ok hb w hm) c2 c3 w hm
 ·rw [decide_eq_false h, Nat.mod_eq_of_lt (show a + b < big by omega)] at c
  exact add_1 g n _ _ a b _ _ (fun w hm => madeC ok w hm) c (fun w hm => reduce_any ok (by omega) w hm) w hm
theorem mulm_any {g n : Nat} (ok : Ok n) {a b : Nat} (ha : a < big) (hb : b < big) (w : World) (hm : Mm w [(g, modc n)]) : Calls Tryz.prog 126 #[PT g 0, N a, N b] w (Rt w (N (a * b % n))) := by
 have cp := fun w hm => product_any g n (big % n) (big * big % n) a (big * big % n) ok ha (Nat.mod_lt _ ok.pos) w hm
 rw [mont_big ok] at cp
 have c := fun w hm => product_any g n (big % n) (big * big % n) b (a * big % n) ok hb (Nat.mod_lt _ ok.pos) w hm
 rw [mont_big ok, Nat.mul_comm b a] at c
 exact mul_gen g n _ _ a b _ _ (fun w hm => madeC ok w hm) cp c w hm
theorem subm_any {g n : Nat} (ok : Ok n) {a b : Nat} (ha : a < big) (hb : b < big) (w : World) (hm : Mm w [(g, modc n)]) : Calls Tryz.prog 76 #[PT g 0, N a, N b] w (Rt w (N (subm n a b))) := by
 have c := fun w => sub_any a b ha hb w
 have hn := ok.big
 have h3 := ok.top
 by_cases h : a < b
 ·rw [decide_eq_true h, Nat.mod_eq_of_lt (show a + big - b < big by omega)] at c
  have c2 := fun w => add_any (a + big - b) n (by omega) hn w
  by_cases h2 : b ≤ a + n
  ·rw [decide_eq_true (show big ≤ a + big - b + n by omega), show a + big - b + n = (a + n - b) + big by omega, Nat.add_mod_right, Nat.mod_eq_of_lt (show a + n - b < big by omega), subm_lt ok.pos h h2] at c2
   exact sub_2 g n _ _ a b _ _ (fun w hm => madeC ok w hm) c c2 w hm
  ·rw [decide_eq_false (show ¬ big ≤ a + big - b + n by omega)] at c2
   have h1 := Nat.mod_lt b ok.pos
   have c3 := fun w => sub_any n (b % n) hn (okLt ok b) w
   rw [decide_eq_false (by omega), show n + big - b % n = n - b % n + big by omega, Nat.add_mod_right, Nat.mod_eq_of_lt (show n - b % n < big by omega)] at c3
   exact sub_3 g n _ _ a b _ _ _ _ _ (fun w hm => madeC ok w hm) c c2 (fun w hm => reduce_any ok hb w hm) c3 (fun w hm => addm_any ok ha (by omega) w hm) w hm
 ·rw [decide_eq_false h, show a + big - b = a - b + big by omega, Nat.add_mod_right, Nat.mod_eq_of_lt (show a - b < big by omega)] at c
  have c2 := fun w hm => reduce_any (g := g) ok (show a - b < big by omega) w hm
  rw [subm_ge ok.pos (by omega)] at c2
  exact sub_1 g n _ _ a b _ _ (fun w hm => madeC ok w hm) c c2 w hm
theorem negm_any {g n : Nat} (ok : Ok n) {a : Nat} (ha : a < big) (w : World) (hm : Mm w [(g, modc n)]) : Calls Tryz.prog 27 #[PT g 0, N a] w (Rt w (N (subm n 0 a))) :=
 neg_gen g n _ _ a _ (fun w hm => subm_any ok big_pos ha w hm) w hm
theorem call110 : CO 110 := by intro args w; go_simp
theorem call111 : CO 111 := by intro args w; go_simp
abbrev modv (n o s : Nat) : Value := .agg (zW n o s).toArray
theorem ex_build39 {ρ : Operand → Value} {o : Oper} {x y : Operand} {n : Nat} {w : World} (ho : o.op = .build 139 #[(0, x), (1, y)]) (hx : ρ x = N n) (hy : ρ y = .int .u64 (wrapZ (wd n 0))) : (execOp ρ o).run Tryz.prog w = .ok (.value (modv n 0 0)) w := by
 simp only [execOp, ho]
 go_simp
 simp [wd_zero]
theorem ex_box39 {ρ : Operand → Value} {o : Oper} {x : Operand} {n : Nat} {w : World} (ho : o.op = .box 139 x) (hx : ρ x = modv n 0 0) :
  (execOp ρ o).run Tryz.prog w = .ok (.value (.pointer (some ⟨w.heap.size, 0, none⟩))) (w.alloc (.cells (zW n 0 0).toArray 139)) := by
 simp only [execOp, ho, hx]
 go_simp
theorem word_mod (n : Nat) : (wd n 0).tmod 2 = ((n % 2 : Nat) : Int) := by
 have h0 : wd n 0 = ((n % 18446744073709551616 : Nat) : Int) := by unfold wd; rw [Nat.mul_zero, Nat.pow_zero, Nat.div_one]
 rw [h0]
 rw [Int.tmod_eq_emod_of_nonneg (by omega)]; omega
theorem len_ok {n : Nat} (ok : Ok n) : ¬ (382 : Int) < (bl n : Nat) := by
 have h := ok.top
 obtain ⟨m, hm, e⟩ := big_pow
 have h5 : big = 4 * 2 ^ (64 * m - 2) := by
  rw [e]
  have : 64 * m = 2 + (64 * m - 2) := by omega
  rw [this, Nat.pow_add, show 2 + (64 * m - 2) - 2 = 64 * m - 2 by omega]
 have := bl_le_of n (64 * m - 2) (by omega)
 omega
end Rg
end Go.Proofs.YtahghpkjkfaieaaGreatDoor
end
section
namespace Go.Proofs.YtahghpkjkfaieaaGreatDoor
open Go.RowKit
end Go.Proofs.YtahghpkjkfaieaaGreatDoor
end
section
namespace Go.Proofs.YtahghpkjkfaieaaGreatDoor
open Go.RowKit
namespace Rg
end Rg
end Go.Proofs.YtahghpkjkfaieaaGreatDoor
end
