/- Texts of the proof, joined. -/
import Derived.Test.YtjadelfdhhjkdaaGreatDoorP1
section
namespace Go.Proofs.YtjadelfdhhjkdaaGreatDoor
open Go.RowKit
namespace Rg
namespace Wi
theorem call5 : ∀ args w, (callFunc 5 args).run Tryz.prog w = .ok (.enter 5 args) w := by intro args w; go_simp
theorem call6 : ∀ args w, (callFunc 6 args).run Tryz.prog w = .ok (.enter 6 args) w := by intro args w; go_simp
theorem call7 : ∀ args w, (callFunc 7 args).run Tryz.prog w = .ok (.enter 7 args) w := by intro args w; go_simp
theorem call8 : ∀ args w, (callFunc 8 args).run Tryz.prog w = .ok (.enter 8 args) w := by intro args w; go_simp
theorem call9 : ∀ args w, (callFunc 9 args).run Tryz.prog w = .ok (.enter 9 args) w := by intro args w; go_simp
theorem call10 : ∀ args w, (callFunc 10 args).run Tryz.prog w = .ok (.enter 10 args) w := by intro args w; go_simp
theorem call18 : ∀ args w, (callFunc 18 args).run Tryz.prog w = .ok (.enter 18 args) w := by intro args w; go_simp
set_option maxRecDepth 100000
theorem ex_mk46 {ρ : Operand → Value} {o : Oper} {w : World} (ho : o.op = .alloc 46) : (execOp ρ o).run Tryz.prog w = .ok (.value (.pointer (some ⟨w.heap.size, 0, none⟩))) (w.alloc (.cells ([Value.int .i64 0, Value.int .i64 0, Value.int .i64 0, Z8 0, Z8 0, Z8 0, Z8 0, Z8 0, Z8 0, Z8 0, Z8 0, Z8 0, Z8 0, Z8 0, Z8 0, Z8 0, Z8 0, Z8 0, Z8 0, Z8 0, Z8 0, Z8 0, Z8 0, Z8 0, Z8 0, Z8 0, Z8 0, Z8 0, Z8 0, Z8 0, Z8 0, Z8 0, Z8 0, Z8 0, Z8 0, Value.slice none 0 0] : List Value).toArray 46)) := by
  simp only [execOp, ho]
  go_simp
  rfl
set_option maxHeartbeats 2000000 in
set_option maxRecDepth 100000 in
theorem bwork_n  (w : World) :
    Calls Tryz.prog 18 #[.pointer none] w fun e w' => e = .returned (.bool false) ∧ Below w.heap.size w w' := by
  have H0 : Hid (_ ∧ _) := ⟨Mm.nil w, Below.refl w.heap.size w⟩
  go_enter Tryz.func18, Tryz.ntmps18
  refine wp_seq ?_
  refine sq_startW (l := [0]) rfl (fun u0 hu0 => ?_)
  have H1 : Hid (Mm u0 [] ∧ Below w.heap.size w u0) := by rw [hu0]; exact H0
  clear hu0 H0
  refine rest_set (d := 2) (v := .bool false) (w' := u0) rfl rfl rfl (rfl) ?_
  simp only [Act.put, sa, sz, ss]
  refine rest_nil (then_normal (wp_seq ?_))
  refine sq_start (l := [0, 1, 2, 3, 4, 5, 6, 7, 8, 9, 10]) rfl ?_
  refine rest_set (d := 3) (v := .pointer none) (w' := u0) rfl rfl rfl (rfl) ?_
  simp only [Act.put, sa, sz, ss]
  refine rest_set (d := 4) (v := .bool false) (w' := u0) rfl rfl rfl (by kernel_rfl) ?_
  simp only [Act.put, sa, sz, ss]
  refine rest_set (d := 5) (v := .bool false) (w' := u0) rfl rfl rfl (rfl) ?_
  simp only [Act.put, sa, sz, ss]
  refine rest_gone1 (d := 6) rfl rfl rfl ?_
  simp only [Act.put, sa, sz, ss]
  refine rest_gone1 (d := 7) rfl rfl rfl ?_
  simp only [Act.put, sa, sz, ss]
  refine rest_gone1 (d := 8) rfl rfl rfl ?_
  simp only [Act.put, sa, sz, ss]
  refine rest_gone1 (d := 9) rfl rfl rfl ?_
  simp only [Act.put, sa, sz, ss]
  refine rest_gone1 (d := 10) rfl rfl rfl ?_
  simp only [Act.put, sa, sz, ss]
  refine rest_gone1 (d := 11) rfl rfl rfl ?_
  simp only [Act.put, sa, sz, ss]
  refine rest_set (d := 12) (v := .bool false) (w' := u0) rfl rfl rfl (by go_simp) ?_
  simp only [Act.put, sa, sz, ss]
  refine rest_set (d := 2) (v := .bool false) (w' := u0) rfl rfl rfl (rfl) ?_
  simp only [Act.put, sa, sz, ss]
  refine rest_nil (then_normal (wp_ret ?_))
  repeat (first | refine then_ret ?_ | refine block_ret ?_)
  refine bodyPost_ret (v := .bool false) (by simp [results, Tryz.results18, go_sem, *]) rfl ?_
  exact ⟨rfl, H1.out.2⟩
set_option maxHeartbeats 2000000 in
set_option maxRecDepth 100000 in
theorem bwork_z (g : Nat)  (w : World) (hm : Mm w [(g, [Value.slice none 0 0, Value.int .i64 0, Value.map none, Value.map none, Value.bool false, Value.bool false, Value.bool false, Value.bool false, Value.bool false, Value.bool false, Value.bool false, Value.bool false, Value.bool false, Value.bool false, Value.bool false, Value.bool false, Value.bool false])]) :
    Calls Tryz.prog 18 #[PT g 0] w fun e w' => e = .returned (.bool false) ∧ Below w.heap.size w w' := by
  have H0 : Hid (_ ∧ _) := ⟨hm, Below.refl w.heap.size w⟩
  clear hm
  go_enter Tryz.func18, Tryz.ntmps18
  refine wp_seq ?_
  refine sq_startW (l := [0]) rfl (fun u0 hu0 => ?_)
  have H1 : Hid (Mm u0 [(g, [Value.slice none 0 0, Value.int .i64 0, Value.map none, Value.map none, Value.bool false, Value.bool false, Value.bool false, Value.bool false, Value.bool false, Value.bool false, Value.bool false, Value.bool false, Value.bool false, Value.bool false, Value.bool false, Value.bool false, Value.bool false])] ∧ Below w.heap.size w u0) := by rw [hu0]; exact H0
  clear hu0 H0
  refine rest_set (d := 2) (v := .bool false) (w' := u0) rfl rfl rfl (rfl) ?_
  simp only [Act.put, sa, sz, ss]
  refine rest_nil (then_normal (wp_seq ?_))
  refine sq_start (l := [0, 1, 2, 3, 4, 5, 6, 7, 8, 9, 10]) rfl ?_
  refine rest_set (d := 3) (v := PT g 0) (w' := u0) rfl rfl rfl (rfl) ?_
  simp only [Act.put, sa, sz, ss]
  refine rest_set (d := 4) (v := .bool true) (w' := u0) rfl rfl rfl (by go_simp) ?_
  simp only [Act.put, sa, sz, ss]
  refine rest_set (d := 5) (v := .bool true) (w' := u0) rfl rfl rfl (rfl) ?_
  simp only [Act.put, sa, sz, ss]
  refine rest_set (d := 6) (v := PT g 0) (w' := u0) rfl rfl rfl (rfl) ?_
  simp only [Act.put, sa, sz, ss]
  refine rest_set (d := 7) (v := PT g 0) (w' := u0) rfl rfl rfl (by go_simp) ?_
  simp only [Act.put, sa, sz, ss]
  refine rest_set (d := 8) (v := PT g 0) (w' := u0) rfl rfl rfl (by go_simp) ?_
  simp only [Act.put, sa, sz, ss]
  refine rest_set (d := 9) (v := .slice none 0 0) (w' := u0) rfl rfl rfl (ex_loadC H1.out.1 0 rfl rfl rfl Tryz.isAgg37 rfl) ?_
  simp only [Act.put, sa, sz, ss]
  refine rest_set (d := 10) (v := .int .i64 0) (w' := u0) rfl rfl rfl (by go_simp) ?_
  simp only [Act.put, sa, sz, ss]
  refine rest_set (d := 11) (v := .bool false) (w' := u0) rfl rfl rfl (by kernel_rfl) ?_
  simp only [Act.put, sa, sz, ss]
  refine rest_set (d := 12) (v := .bool false) (w' := u0) rfl rfl rfl (by go_simp) ?_
  simp only [Act.put, sa, sz, ss]
  refine rest_set (d := 2) (v := .bool false) (w' := u0) rfl rfl rfl (rfl) ?_
  simp only [Act.put, sa, sz, ss]
  refine rest_nil (then_normal (wp_ret ?_))
  repeat (first | refine then_ret ?_ | refine block_ret ?_)
  refine bodyPost_ret (v := .bool false) (by simp [results, Tryz.results18, go_sem, *]) rfl ?_
  exact ⟨rfl, H1.out.2⟩
set_option maxHeartbeats 2000000 in
set_option maxRecDepth 100000 in
theorem bcert_n (x1 x2 x3 : Value) (w : World) :
    Calls Tryz.prog 5 #[.pointer none, x1, x2, x3] w fun e w' => e = .returned (.tuple #[.agg ([Value.int .i64 0, Value.int .i64 0, Value.int .i64 0, Z8 0, Z8 0, Z8 0, Z8 0, Z8 0, Z8 0, Z8 0, Z8 0, Z8 0, Z8 0, Z8 0, Z8 0, Z8 0, Z8 0, Z8 0, Z8 0, Z8 0, Z8 0, Z8 0, Z8 0, Z8 0, Z8 0, Z8 0, Z8 0, Z8 0, Z8 0, Z8 0, Z8 0, Z8 0, Z8 0, Z8 0, Z8 0, Value.slice none 0 0]).toArray, .int .i64 1]) ∧ Below w.heap.size w w' := by
  have H0 : Hid (_ ∧ _) := ⟨Mm.nil w, Below.refl w.heap.size w⟩
  go_enter Tryz.func5, Tryz.ntmps5
  refine wp_seq ?_
  refine sq_startW (l := [0, 1]) rfl (fun u0 hu0 => ?_)
  have H1 : Hid (Mm u0 [] ∧ Below w.heap.size w u0) := by rw [hu0]; exact H0
  clear hu0 H0
  refine rest_set (d := 8) (v := PT u0.heap.size 0) (w' := (u0.alloc (.cells ([Value.int .i64 0, Value.int .i64 0, Value.int .i64 0, Z8 0, Z8 0, Z8 0, Z8 0, Z8 0, Z8 0, Z8 0, Z8 0, Z8 0, Z8 0, Z8 0, Z8 0, Z8 0, Z8 0, Z8 0, Z8 0, Z8 0, Z8 0, Z8 0, Z8 0, Z8 0, Z8 0, Z8 0, Z8 0, Z8 0, Z8 0, Z8 0, Z8 0, Z8 0, Z8 0, Z8 0, Z8 0, Value.slice none 0 0] : List Value).toArray 46))) rfl rfl rfl (ex_mk46 rfl) ?_
  simp only [Act.put, sa, sz, ss]
  have o_γs2 : Hid (w.heap.size ≤ u0.heap.size) := H1.out.2.size
  have H2 : Hid (Mm (u0.alloc (.cells ([Value.int .i64 0, Value.int .i64 0, Value.int .i64 0, Z8 0, Z8 0, Z8 0, Z8 0, Z8 0, Z8 0, Z8 0, Z8 0, Z8 0, Z8 0, Z8 0, Z8 0, Z8 0, Z8 0, Z8 0, Z8 0, Z8 0, Z8 0, Z8 0, Z8 0, Z8 0, Z8 0, Z8 0, Z8 0, Z8 0, Z8 0, Z8 0, Z8 0, Z8 0, Z8 0, Z8 0, Z8 0, Value.slice none 0 0] : List Value).toArray 46)) ((u0.heap.size, [Value.int .i64 0, Value.int .i64 0, Value.int .i64 0, Z8 0, Z8 0, Z8 0, Z8 0, Z8 0, Z8 0, Z8 0, Z8 0, Z8 0, Z8 0, Z8 0, Z8 0, Z8 0, Z8 0, Z8 0, Z8 0, Z8 0, Z8 0, Z8 0, Z8 0, Z8 0, Z8 0, Z8 0, Z8 0, Z8 0, Z8 0, Z8 0, Z8 0, Z8 0, Z8 0, Z8 0, Z8 0, Value.slice none 0 0]) :: []) ∧ Below w.heap.size w (u0.alloc (.cells ([Value.int .i64 0, Value.int .i64 0, Value.int .i64 0, Z8 0, Z8 0, Z8 0, Z8 0, Z8 0, Z8 0, Z8 0, Z8 0, Z8 0, Z8 0, Z8 0, Z8 0, Z8 0, Z8 0, Z8 0, Z8 0, Z8 0, Z8 0, Z8 0, Z8 0, Z8 0, Z8 0, Z8 0, Z8 0, Z8 0, Z8 0, Z8 0, Z8 0, Z8 0, Z8 0, Z8 0, Z8 0, Value.slice none 0 0] : List Value).toArray 46))) := ⟨H1.out.1.alloc _ 46 rfl, H1.out.2.trans (((Below.refl _ _).alloc (Nat.le_refl _) _).mono H1.out.2.size)⟩
  clear H1
  generalize hgw : u0.alloc (.cells ([Value.int .i64 0, Value.int .i64 0, Value.int .i64 0, Z8 0, Z8 0, Z8 0, Z8 0, Z8 0, Z8 0, Z8 0, Z8 0, Z8 0, Z8 0, Z8 0, Z8 0, Z8 0, Z8 0, Z8 0, Z8 0, Z8 0, Z8 0, Z8 0, Z8 0, Z8 0, Z8 0, Z8 0, Z8 0, Z8 0, Z8 0, Z8 0, Z8 0, Z8 0, Z8 0, Z8 0, Z8 0, Value.slice none 0 0] : List Value).toArray 46) = w2 at H2 ⊢
  clear hgw
  generalize u0.heap.size = γs2 at o_γs2 H2 ⊢
  refine rest_set (d := 9) (v := .int .i64 0) (w' := w2) rfl rfl rfl (rfl) ?_
  simp only [Act.put, sa, sz, ss]
  refine rest_nil (then_normal ?_)
  refine wp_seq (wp_seq ?_)
  refine sq_start (l := [0, 1, 2]) rfl ?_
  refine rest_set (d := 14) (v := .pointer none) (w' := w2) rfl rfl rfl (rfl) ?_
  simp only [Act.put, sa, sz, ss]
  refine rest_enter (d := 15) (R := fun vv w' => vv = .bool false ∧ Below w2.heap.size w2 w') rfl rfl rfl (exec_call (args := #[.pointer none]) rfl call18 rfl (mpn rfl)) (Calls.mono (bwork_n  w2) (fun e w2 hh => ⟨_, hh.1, rfl, hh.2⟩)) ?_
  rintro _ w3 ⟨rfl, hb⟩
  have H3 : Hid (Mm w3 [(γs2, [Value.int .i64 0, Value.int .i64 0, Value.int .i64 0, Z8 0, Z8 0, Z8 0, Z8 0, Z8 0, Z8 0, Z8 0, Z8 0, Z8 0, Z8 0, Z8 0, Z8 0, Z8 0, Z8 0, Z8 0, Z8 0, Z8 0, Z8 0, Z8 0, Z8 0, Z8 0, Z8 0, Z8 0, Z8 0, Z8 0, Z8 0, Z8 0, Z8 0, Z8 0, Z8 0, Z8 0, Z8 0, Value.slice none 0 0])] ∧ Below w.heap.size w w3) := ⟨H2.out.1.below hb, H2.out.2.trans (hb.mono H2.out.2.size)⟩
  clear hb
  clear H2
  simp only [Act.put, sa, sz, ss]
  refine rest_set (d := 16) (v := .bool true) (w' := w3) rfl rfl rfl (by go_simp) ?_
  simp only [Act.put, sa, sz, ss]
  refine rest_nil (then_normal ?_)
  refine wp_cond_true rfl (wp_seq ?_)
  refine sq_start (l := [0, 1, 2]) rfl ?_
  refine rest_set (d := 17) (v := .agg ([Value.int .i64 0, Value.int .i64 0, Value.int .i64 0, Z8 0, Z8 0, Z8 0, Z8 0, Z8 0, Z8 0, Z8 0, Z8 0, Z8 0, Z8 0, Z8 0, Z8 0, Z8 0, Z8 0, Z8 0, Z8 0, Z8 0, Z8 0, Z8 0, Z8 0, Z8 0, Z8 0, Z8 0, Z8 0, Z8 0, Z8 0, Z8 0, Z8 0, Z8 0, Z8 0, Z8 0, Z8 0, Value.slice none 0 0]).toArray) (w' := w3) rfl rfl rfl (by kernel_rfl) ?_
  simp only [Act.put, sa, sz, ss]
  refine rest_store rfl rfl rfl (ex_storeT (vs := [Value.int .i64 0, Value.int .i64 0, Value.int .i64 0, Z8 0, Z8 0, Z8 0, Z8 0, Z8 0, Z8 0, Z8 0, Z8 0, Z8 0, Z8 0, Z8 0, Z8 0, Z8 0, Z8 0, Z8 0, Z8 0, Z8 0, Z8 0, Z8 0, Z8 0, Z8 0, Z8 0, Z8 0, Z8 0, Z8 0, Z8 0, Z8 0, Z8 0, Z8 0, Z8 0, Z8 0, Z8 0, Value.slice none 0 0]) H3.out.1 0 rfl rfl rfl rfl Tryz.sizeOf46 rfl (Nat.le_of_ble_eq_true rfl)) ?_
  have H4 : Hid (Mm (w3.setCells γs2 0 [Value.int .i64 0, Value.int .i64 0, Value.int .i64 0, Z8 0, Z8 0, Z8 0, Z8 0, Z8 0, Z8 0, Z8 0, Z8 0, Z8 0, Z8 0, Z8 0, Z8 0, Z8 0, Z8 0, Z8 0, Z8 0, Z8 0, Z8 0, Z8 0, Z8 0, Z8 0, Z8 0, Z8 0, Z8 0, Z8 0, Z8 0, Z8 0, Z8 0, Z8 0, Z8 0, Z8 0, Z8 0, Value.slice none 0 0]) [(γs2, [Value.int .i64 0, Value.int .i64 0, Value.int .i64 0, Z8 0, Z8 0, Z8 0, Z8 0, Z8 0, Z8 0, Z8 0, Z8 0, Z8 0, Z8 0, Z8 0, Z8 0, Z8 0, Z8 0, Z8 0, Z8 0, Z8 0, Z8 0, Z8 0, Z8 0, Z8 0, Z8 0, Z8 0, Z8 0, Z8 0, Z8 0, Z8 0, Z8 0, Z8 0, Z8 0, Z8 0, Z8 0, Value.slice none 0 0])] ∧ Below w.heap.size w (w3.setCells γs2 0 [Value.int .i64 0, Value.int .i64 0, Value.int .i64 0, Z8 0, Z8 0, Z8 0, Z8 0, Z8 0, Z8 0, Z8 0, Z8 0, Z8 0, Z8 0, Z8 0, Z8 0, Z8 0, Z8 0, Z8 0, Z8 0, Z8 0, Z8 0, Z8 0, Z8 0, Z8 0, Z8 0, Z8 0, Z8 0, Z8 0, Z8 0, Z8 0, Z8 0, Z8 0, Z8 0, Z8 0, Z8 0, Value.slice none 0 0])) := ⟨H3.out.1.put 0 (off := 0) (vs := [Value.int .i64 0, Value.int .i64 0, Value.int .i64 0, Z8 0, Z8 0, Z8 0, Z8 0, Z8 0, Z8 0, Z8 0, Z8 0, Z8 0, Z8 0, Z8 0, Z8 0, Z8 0, Z8 0, Z8 0, Z8 0, Z8 0, Z8 0, Z8 0, Z8 0, Z8 0, Z8 0, Z8 0, Z8 0, Z8 0, Z8 0, Z8 0, Z8 0, Z8 0, Z8 0, Z8 0, Z8 0, Value.slice none 0 0]) rfl (Nat.le_of_ble_eq_true rfl), below_setCells _ o_γs2.out _ _ _ H3.out.2⟩
  clear H3
  generalize hgw : World.setCells _ _ _ _ = w4 at H4 ⊢
  clear hgw
  refine rest_set (d := 9) (v := .int .i64 1) (w' := w4) rfl rfl rfl (rfl) ?_
  simp only [Act.put, sa, sz, ss]
  refine rest_nil (then_normal (wp_ret ?_))
  repeat (first | refine then_ret ?_ | refine block_ret ?_)
  have hf0 := var_T H4.out.1 0 rfl Tryz.isAgg46 Tryz.sizeOf46 rfl
  refine bodyPost_ret (v := .tuple #[.agg ([Value.int .i64 0, Value.int .i64 0, Value.int .i64 0, Z8 0, Z8 0, Z8 0, Z8 0, Z8 0, Z8 0, Z8 0, Z8 0, Z8 0, Z8 0, Z8 0, Z8 0, Z8 0, Z8 0, Z8 0, Z8 0, Z8 0, Z8 0, Z8 0, Z8 0, Z8 0, Z8 0, Z8 0, Z8 0, Z8 0, Z8 0, Z8 0, Z8 0, Z8 0, Z8 0, Z8 0, Z8 0, Value.slice none 0 0]).toArray, .int .i64 1]) (by simp [results, Tryz.results5, asAddr, hf0]) rfl ?_
  exact ⟨rfl, H4.out.2⟩
set_option maxHeartbeats 2000000 in
set_option maxRecDepth 100000 in
theorem bcert_z (g : Nat) (x1 x2 x3 : Value) (w : World) (hm : Mm w [(g, [Value.slice none 0 0, Value.int .i64 0, Value.map none, Value.map none, Value.bool false, Value.bool false, Value.bool false, Value.bool false, Value.bool false, Value.bool false, Value.bool false, Value.bool false, Value.bool false, Value.bool false, Value.bool false, Value.bool false, Value.bool false])]) :
    Calls Tryz.prog 5 #[PT g 0, x1, x2, x3] w fun e w' => e = .returned (.tuple #[.agg ([Value.int .i64 0, Value.int .i64 0, Value.int .i64 0, Z8 0, Z8 0, Z8 0, Z8 0, Z8 0, Z8 0, Z8 0, Z8 0, Z8 0, Z8 0, Z8 0, Z8 0, Z8 0, Z8 0, Z8 0, Z8 0, Z8 0, Z8 0, Z8 0, Z8 0, Z8 0, Z8 0, Z8 0, Z8 0, Z8 0, Z8 0, Z8 0, Z8 0, Z8 0, Z8 0, Z8 0, Z8 0, Value.slice none 0 0]).toArray, .int .i64 1]) ∧ Below w.heap.size w w' := by
  have H0 : Hid (_ ∧ _) := ⟨hm, Below.refl w.heap.size w⟩
  clear hm
  go_enter Tryz.func5, Tryz.ntmps5
  refine wp_seq ?_
  refine sq_startW (l := [0, 1]) rfl (fun u0 hu0 => ?_)
  have H1 : Hid (Mm u0 [(g, [Value.slice none 0 0, Value.int .i64 0, Value.map none, Value.map none, Value.bool false, Value.bool false, Value.bool false, Value.bool false, Value.bool false, Value.bool false, Value.bool false, Value.bool false, Value.bool false, Value.bool false, Value.bool false, Value.bool false, Value.bool false])] ∧ Below w.heap.size w u0) := by rw [hu0]; exact H0
  clear hu0 H0
  refine rest_set (d := 8) (v := PT u0.heap.size 0) (w' := (u0.alloc (.cells ([Value.int .i64 0, Value.int .i64 0, Value.int .i64 0, Z8 0, Z8 0, Z8 0, Z8 0, Z8 0, Z8 0, Z8 0, Z8 0, Z8 0, Z8 0, Z8 0, Z8 0, Z8 0, Z8 0, Z8 0, Z8 0, Z8 0, Z8 0, Z8 0, Z8 0, Z8 0, Z8 0, Z8 0, Z8 0, Z8 0, Z8 0, Z8 0, Z8 0, Z8 0, Z8 0, Z8 0, Z8 0, Value.slice none 0 0] : List Value).toArray 46))) rfl rfl rfl (ex_mk46 rfl) ?_
  simp only [Act.put, sa, sz, ss]
  have o_γs2 : Hid (w.heap.size ≤ u0.heap.size) := H1.out.2.size
  have H2 : Hid (Mm (u0.alloc (.cells ([Value.int .i64 0, Value.int .i64 0, Value.int .i64 0, Z8 0, Z8 0, Z8 0, Z8 0, Z8 0, Z8 0, Z8 0, Z8 0, Z8 0, Z8 0, Z8 0, Z8 0, Z8 0, Z8 0, Z8 0, Z8 0, Z8 0, Z8 0, Z8 0, Z8 0, Z8 0, Z8 0, Z8 0, Z8 0, Z8 0, Z8 0, Z8 0, Z8 0, Z8 0, Z8 0, Z8 0, Z8 0, Value.slice none 0 0] : List Value).toArray 46)) ((u0.heap.size, [Value.int .i64 0, Value.int .i64 0, Value.int .i64 0, Z8 0, Z8 0, Z8 0, Z8 0, Z8 0, Z8 0, Z8 0, Z8 0, Z8 0, Z8 0, Z8 0, Z8 0, Z8 0, Z8 0, Z8 0, Z8 0, Z8 0, Z8 0, Z8 0, Z8 0, Z8 0, Z8 0, Z8 0, Z8 0, Z8 0, Z8 0, Z8 0, Z8 0, Z8 0, Z8 0, Z8 0, Z8 0, Value.slice none 0 0]) :: [(g, [Value.slice none 0 0, Value.int .i64 0, Value.map none, Value.map none, Value.bool false, Value.bool false, Value.bool false, Value.bool false, Value.bool false, Value.bool false, Value.bool false, Value.bool false, Value.bool false, Value.bool false, Value.bool false, Value.bool false, Value.bool false])]) ∧ Below w.heap.size w (u0.alloc (.cells ([Value.int .i64 0, Value.int .i64 0, Value.int .i64 0, Z8 0, Z8 0, Z8 0, Z8 0, Z8 0, Z8 0, Z8 0, Z8 0, Z8 0, Z8 0, Z8 0, Z8 0, Z8 0, Z8 0, Z8 0, Z8 0, Z8 0, Z8 0, Z8 0, Z8 0, Z8 0, Z8 0, Z8 0, Z8 0, Z8 0, Z8 0, Z8 0, Z8 0, Z8 0, Z8 0, Z8 0, Z8 0, Value.slice none 0 0] : List Value).toArray 46))) := ⟨H1.out.1.alloc _ 46 rfl, H1.out.2.trans (((Below.refl _ _).alloc (Nat.le_refl _) _).mono H1.out.2.size)⟩
  clear H1
  generalize hgw : u0.alloc (.cells ([Value.int .i64 0, Value.int .i64 0, Value.int .i64 0, Z8 0, Z8 0, Z8 0, Z8 0, Z8 0, Z8 0, Z8 0, Z8 0, Z8 0, Z8 0, Z8 0, Z8 0, Z8 0, Z8 0, Z8 0, Z8 0, Z8 0, Z8 0, Z8 0, Z8 0, Z8 0, Z8 0, Z8 0, Z8 0, Z8 0, Z8 0, Z8 0, Z8 0, Z8 0, Z8 0, Z8 0, Z8 0, Value.slice none 0 0] : List Value).toArray 46) = w2 at H2 ⊢
  clear hgw
  generalize u0.heap.size = γs2 at o_γs2 H2 ⊢
  refine rest_set (d := 9) (v := .int .i64 0) (w' := w2) rfl rfl rfl (rfl) ?_
  simp only [Act.put, sa, sz, ss]
  refine rest_nil (then_normal ?_)
  refine wp_seq (wp_seq ?_)
  refine sq_start (l := [0, 1, 2]) rfl ?_
  refine rest_set (d := 14) (v := PT g 0) (w' := w2) rfl rfl rfl (rfl) ?_
  simp only [Act.put, sa, sz, ss]
  refine rest_enter (d := 15) (R := fun vv w' => vv = .bool false ∧ Below w2.heap.size w2 w') rfl rfl rfl (exec_call (args := #[PT g 0]) rfl call18 rfl (mpn rfl)) (Calls.mono (bwork_z g  w2 (H2.out.1.one 1 rfl)) (fun e w2 hh => ⟨_, hh.1, rfl, hh.2⟩)) ?_
  rintro _ w3 ⟨rfl, hb⟩
  have H3 : Hid (Mm w3 [(γs2, [Value.int .i64 0, Value.int .i64 0, Value.int .i64 0, Z8 0, Z8 0, Z8 0, Z8 0, Z8 0, Z8 0, Z8 0, Z8 0, Z8 0, Z8 0, Z8 0, Z8 0, Z8 0, Z8 0, Z8 0, Z8 0, Z8 0, Z8 0, Z8 0, Z8 0, Z8 0, Z8 0, Z8 0, Z8 0, Z8 0, Z8 0, Z8 0, Z8 0, Z8 0, Z8 0, Z8 0, Z8 0, Value.slice none 0 0]), (g, [Value.slice none 0 0, Value.int .i64 0, Value.map none, Value.map none, Value.bool false, Value.bool false, Value.bool false, Value.bool false, Value.bool false, Value.bool false, Value.bool false, Value.bool false, Value.bool false, Value.bool false, Value.bool false, Value.bool false, Value.bool false])] ∧ Below w.heap.size w w3) := ⟨H2.out.1.below hb, H2.out.2.trans (hb.mono H2.out.2.size)⟩
  clear hb
  clear H2
  simp only [Act.put, sa, sz, ss]
  refine rest_set (d := 16) (v := .bool true) (w' := w3) rfl rfl rfl (by go_simp) ?_
  simp only [Act.put, sa, sz, ss]
  refine rest_nil (then_normal ?_)
  refine wp_cond_true rfl (wp_seq ?_)
  refine sq_start (l := [0, 1, 2]) rfl ?_
  refine rest_set (d := 17) (v := .agg ([Value.int .i64 0, Value.int .i64 0, Value.int .i64 0, Z8 0, Z8 0, Z8 0, Z8 0, Z8 0, Z8 0, Z8 0, Z8 0, Z8 0, Z8 0, Z8 0, Z8 0, Z8 0, Z8 0, Z8 0, Z8 0, Z8 0, Z8 0, Z8 0, Z8 0, Z8 0, Z8 0, Z8 0, Z8 0, Z8 0, Z8 0, Z8 0, Z8 0, Z8 0, Z8 0, Z8 0, Z8 0, Value.slice none 0 0]).toArray) (w' := w3) rfl rfl rfl (by kernel_rfl) ?_
  simp only [Act.put, sa, sz, ss]
  refine rest_store rfl rfl rfl (ex_storeT (vs := [Value.int .i64 0, Value.int .i64 0, Value.int .i64 0, Z8 0, Z8 0, Z8 0, Z8 0, Z8 0, Z8 0, Z8 0, Z8 0, Z8 0, Z8 0, Z8 0, Z8 0, Z8 0, Z8 0, Z8 0, Z8 0, Z8 0, Z8 0, Z8 0, Z8 0, Z8 0, Z8 0, Z8 0, Z8 0, Z8 0, Z8 0, Z8 0, Z8 0, Z8 0, Z8 0, Z8 0, Z8 0, Value.slice none 0 0]) H3.out.1 0 rfl rfl rfl rfl Tryz.sizeOf46 rfl (Nat.le_of_ble_eq_true rfl)) ?_
  have H4 : Hid (Mm (w3.setCells γs2 0 [Value.int .i64 0, Value.int .i64 0, Value.int .i64 0, Z8 0, Z8 0, Z8 0, Z8 0, Z8 0, Z8 0, Z8 0, Z8 0, Z8 0, Z8 0, Z8 0, Z8 0, Z8 0, Z8 0, Z8 0, Z8 0, Z8 0, Z8 0, Z8 0, Z8 0, Z8 0, Z8 0, Z8 0, Z8 0, Z8 0, Z8 0, Z8 0, Z8 0, Z8 0, Z8 0, Z8 0, Z8 0, Value.slice none 0 0]) [(γs2, [Value.int .i64 0, Value.int .i64 0, Value.int .i64 0, Z8 0, Z8 0, Z8 0, Z8 0, Z8 0, Z8 0, Z8 0, Z8 0, Z8 0, Z8 0, Z8 0, Z8 0, Z8 0, Z8 0, Z8 0, Z8 0, Z8 0, Z8 0, Z8 0, Z8 0, Z8 0, Z8 0, Z8 0, Z8 0, Z8 0, Z8 0, Z8 0, Z8 0, Z8 0, Z8 0, Z8 0, Z8 0, Value.slice none 0 0]), (g, [Value.slice none 0 0, Value.int .i64 0, Value.map none, Value.map none, Value.bool false, Value.bool false, Value.bool false, Value.bool false, Value.bool false, Value.bool false, Value.bool false, Value.bool false, Value.bool false, Value.bool false, Value.bool false, Value.bool false, Value.bool false])] ∧ Below w.heap.size w (w3.setCells γs2 0 [Value.int .i64 0, Value.int .i64 0, Value.int .i64 0, Z8 0, Z8 0, Z8 0, Z8 0, Z8 0, Z8 0, Z8 0, Z8 0, Z8 0, Z8 0, Z8 0, Z8 0, Z8 0, Z8 0, Z8 0, Z8 0, Z8 0, Z8 0, Z8 0, Z8 0, Z8 0, Z8 0, Z8 0, Z8 0, Z8 0, Z8 0, Z8 0, Z8 0, Z8 0, Z8 0, Z8 0, Z8 0, Value.slice none 0 0])) := ⟨H3.out.1.put 0 (off := 0) (vs := [Value.int .i64 0, Value.int .i64 0, Value.int .i64 0, Z8 0, Z8 0, Z8 0, Z8 0, Z8 0, Z8 0, Z8 0, Z8 0, Z8 0, Z8 0, Z8 0, Z8 0, Z8 0, Z8 0, Z8 0, Z8 0, Z8 0, Z8 0, Z8 0, Z8 0, Z8 0, Z8 0, Z8 0, Z8 0, Z8 0, Z8 0, Z8 0, Z8 0, Z8 0, Z8 0, Z8 0, Z8 0, Value.slice none 0 0]) rfl (Nat.le_of_ble_eq_true rfl), below_setCells _ o_γs2.out _ _ _ H3.out.2⟩
  clear H3
  generalize hgw : World.setCells _ _ _ _ = w4 at H4 ⊢
  clear hgw
  refine rest_set (d := 9) (v := .int .i64 1) (w' := w4) rfl rfl rfl (rfl) ?_
  simp only [Act.put, sa, sz, ss]
  refine rest_nil (then_normal (wp_ret ?_))
  repeat (first | refine then_ret ?_ | refine block_ret ?_)
  have hf0 := var_T H4.out.1 0 rfl Tryz.isAgg46 Tryz.sizeOf46 rfl
  refine bodyPost_ret (v := .tuple #[.agg ([Value.int .i64 0, Value.int .i64 0, Value.int .i64 0, Z8 0, Z8 0, Z8 0, Z8 0, Z8 0, Z8 0, Z8 0, Z8 0, Z8 0, Z8 0, Z8 0, Z8 0, Z8 0, Z8 0, Z8 0, Z8 0, Z8 0, Z8 0, Z8 0, Z8 0, Z8 0, Z8 0, Z8 0, Z8 0, Z8 0, Z8 0, Z8 0, Z8 0, Z8 0, Z8 0, Z8 0, Z8 0, Value.slice none 0 0]).toArray, .int .i64 1]) (by simp [results, Tryz.results5, asAddr, hf0]) rfl ?_
  exact ⟨rfl, H4.out.2⟩
theorem bcount_y (g : Nat) (a b c : Value) (D : Array Value) (w : World) (hm : Mm w [(g, [Value.slice none 0 0, Value.int .i64 0, Value.map none, Value.map none, Value.bool false, Value.bool false, Value.bool false, Value.bool false, Value.bool false, Value.bool false, Value.bool false, Value.bool false, Value.bool false, Value.bool false, Value.bool false, Value.bool false, Value.bool false])]) : Calls Tryz.prog 7 #[.pointer (some ⟨g, 0, none⟩), a, b, c, .agg D] w fun e w' => e = .returned (.int .i64 0) ∧ Below w.heap.size w w' := bcount_z g a b c D w (hm.cell (List.mem_cons_self ..) rfl) (hm.lt (List.mem_cons_self ..))
theorem bdoub_y (g : Nat)  (w : World) (hm : Mm w [(g, [Value.slice none 0 0, Value.int .i64 0, Value.map none, Value.map none, Value.bool false, Value.bool false, Value.bool false, Value.bool false, Value.bool false, Value.bool false, Value.bool false, Value.bool false, Value.bool false, Value.bool false, Value.bool false, Value.bool false, Value.bool false])]) : Calls Tryz.prog 8 #[.pointer (some ⟨g, 0, none⟩)] w fun e w' => e = .returned (.slice none 0 0) ∧ Below w.heap.size w w' := bdoub_z g  w (hm.cell (List.mem_cons_self ..) rfl) (hm.lt (List.mem_cons_self ..))
theorem bdrop_y (g : Nat) (k : Int) (w : World) (hm : Mm w [(g, [Value.slice none 0 0, Value.int .i64 0, Value.map none, Value.map none, Value.bool false, Value.bool false, Value.bool false, Value.bool false, Value.bool false, Value.bool false, Value.bool false, Value.bool false, Value.bool false, Value.bool false, Value.bool false, Value.bool false, Value.bool false])]) : Calls Tryz.prog 9 #[.pointer (some ⟨g, 0, none⟩), .int .i64 k] w fun e w' => e = .returned (.int .i64 0) ∧ Below w.heap.size w w' := bdrop_z g k w (hm.cell (List.mem_cons_self ..) rfl) (hm.lt (List.mem_cons_self ..))
theorem blen_y (g : Nat)  (w : World) (hm : Mm w [(g, [Value.slice none 0 0, Value.int .i64 0, Value.map none, Value.map none, Value.bool false, Value.bool false, Value.bool false, Value.bool false, Value.bool false, Value.bool false, Value.bool false, Value.bool false, Value.bool false, Value.bool false, Value.bool false, Value.bool false, Value.bool false])]) : Calls Tryz.prog 10 #[.pointer (some ⟨g, 0, none⟩)] w fun e w' => e = .returned (.int .i64 0) ∧ Below w.heap.size w w' := blen_z g  w (hm.cell (List.mem_cons_self ..) rfl) (hm.lt (List.mem_cons_self ..))
theorem badd_y (g : Nat) (D : Array Value) (w : World) (hm : Mm w [(g, [Value.slice none 0 0, Value.int .i64 0, Value.map none, Value.map none, Value.bool false, Value.bool false, Value.bool false, Value.bool false, Value.bool false, Value.bool false, Value.bool false, Value.bool false, Value.bool false, Value.bool false, Value.bool false, Value.bool false, Value.bool false])]) : Calls Tryz.prog 6 #[.pointer (some ⟨g, 0, none⟩), .agg D] w fun e w' => e = .returned (.int .i64 1) ∧ Below w.heap.size w w' := badd_z g D w (hm.cell (List.mem_cons_self ..) rfl) (hm.lt (List.mem_cons_self ..))
theorem ex_bs43_2 {ρ : Operand → Value} {o : Oper} {x y : Operand} {g : Nat} {w : World} (ho : o.op = .buildSlice 43 2 #[(0, x), (1, y)]) (hx : ρ x = .pointer none) (hy : ρ y = PT g 0) : (execOp ρ o).run Tryz.prog w = .ok (.value (.slice (some ⟨w.heap.size, 0, none⟩) 2 2)) (w.alloc (.cells ([.pointer none, PT g 0] : List Value).toArray 36)) := by
  simp only [execOp, ho, List.map_toArray, List.map_cons, List.map_nil, hx, hy]
  kernel_rfl
set_option maxHeartbeats 8000000 in
set_option maxRecDepth 100000 in
theorem ballotNil_any (k : Int) (c0 c1 c3 c4 c5 c6 c7 c8 c9 c10 c11 c12 c13 c14 c15 c16 c17 c18 c19 c20 c21 c22 c23 c24 c25 c26 c27 c28 c29 c30 c31 c32 c33 c34 c35 c36 c37 c38 c39 c40 c41 c42 c43 c44 c45 c46 c47 c48 c49 c50 c51 c52 c53 c54 c55 c56 c57 c58 : Value) (w : World) :
    Calls Tryz.prog 3 #[.agg ([c0, c1, Value.int .i64 k, c3, c4, c5, c6, c7, c8, c9, c10, c11, c12, c13, c14, c15, c16, c17, c18, c19, c20, c21, c22, c23, c24, c25, c26, c27, c28, c29, c30, c31, c32, c33, c34, c35, c36, c37, c38, c39, c40, c41, c42, c43, c44, c45, c46, c47, c48, c49, c50, c51, c52, c53, c54, c55, c56, c57, c58]).toArray] w fun e w' => e = .returned (.bool true) ∧ Below w.heap.size w w' := by
  have H0 : Hid (_ ∧ _) := ⟨Mm.nil w, Below.refl w.heap.size w⟩
  go_enter Tryz.func3, Tryz.ntmps3
  refine wp_seq ?_
  refine sq_startW (l := [0, 1]) rfl (fun u0 hu0 => ?_)
  have H1 : Hid (Mm u0 [] ∧ Below w.heap.size w u0) := by rw [hu0]; exact H0
  clear hu0 H0
  refine rest_set (d := 1) (v := PT u0.heap.size 0) (w' := (u0.alloc (.cells ([c0, c1, Value.int .i64 k, c3, c4, c5, c6, c7, c8, c9, c10, c11, c12, c13, c14, c15, c16, c17, c18, c19, c20, c21, c22, c23, c24, c25, c26, c27, c28, c29, c30, c31, c32, c33, c34, c35, c36, c37, c38, c39, c40, c41, c42, c43, c44, c45, c46, c47, c48, c49, c50, c51, c52, c53, c54, c55, c56, c57, c58] : List Value).toArray 35))) rfl rfl rfl (ex_boxT rfl rfl) ?_
  simp only [Act.put, sa, sz, ss]
  have o_γs2 : Hid (w.heap.size ≤ u0.heap.size) := H1.out.2.size
  have H2 : Hid (Mm (u0.alloc (.cells ([c0, c1, Value.int .i64 k, c3, c4, c5, c6, c7, c8, c9, c10, c11, c12, c13, c14, c15, c16, c17, c18, c19, c20, c21, c22, c23, c24, c25, c26, c27, c28, c29, c30, c31, c32, c33, c34, c35, c36, c37, c38, c39, c40, c41, c42, c43, c44, c45, c46, c47, c48, c49, c50, c51, c52, c53, c54, c55, c56, c57, c58] : List Value).toArray 35)) ((u0.heap.size, [c0, c1, Value.int .i64 k, c3, c4, c5, c6, c7, c8, c9, c10, c11, c12, c13, c14, c15, c16, c17, c18, c19, c20, c21, c22, c23, c24, c25, c26, c27, c28, c29, c30, c31, c32, c33, c34, c35, c36, c37, c38, c39, c40, c41, c42, c43, c44, c45, c46, c47, c48, c49, c50, c51, c52, c53, c54, c55, c56, c57, c58]) :: []) ∧ Below w.heap.size w (u0.alloc (.cells ([c0, c1, Value.int .i64 k, c3, c4, c5, c6, c7, c8, c9, c10, c11, c12, c13, c14, c15, c16, c17, c18, c19, c20, c21, c22, c23, c24, c25, c26, c27, c28, c29, c30, c31, c32, c33, c34, c35, c36, c37, c38, c39, c40, c41, c42, c43, c44, c45, c46, c47, c48, c49, c50, c51, c52, c53, c54, c55, c56, c57, c58] : List Value).toArray 35))) := ⟨H1.out.1.alloc _ 35 rfl, H1.out.2.trans (((Below.refl _ _).alloc (Nat.le_refl _) _).mono H1.out.2.size)⟩
  clear H1
  generalize hgw : u0.alloc (.cells ([c0, c1, Value.int .i64 k, c3, c4, c5, c6, c7, c8, c9, c10, c11, c12, c13, c14, c15, c16, c17, c18, c19, c20, c21, c22, c23, c24, c25, c26, c27, c28, c29, c30, c31, c32, c33, c34, c35, c36, c37, c38, c39, c40, c41, c42, c43, c44, c45, c46, c47, c48, c49, c50, c51, c52, c53, c54, c55, c56, c57, c58] : List Value).toArray 35) = w2 at H2 ⊢
  clear hgw
  generalize u0.heap.size = γs2 at o_γs2 H2 ⊢
  refine rest_set (d := 2) (v := .bool false) (w' := w2) rfl rfl rfl (rfl) ?_
  simp only [Act.put, sa, sz, ss]
  refine rest_nil (then_normal (wp_seq ?_))
  refine sq_start (l := [0, 1, 2, 3]) rfl ?_
  refine rest_set (d := 8) (v := .agg ([Value.slice none 0 0, Value.int .i64 0, Value.map none, Value.map none, Value.bool false, Value.bool false, Value.bool false, Value.bool false, Value.bool false, Value.bool false, Value.bool false, Value.bool false, Value.bool false, Value.bool false, Value.bool false, Value.bool false, Value.bool false]).toArray) (w' := w2) rfl rfl rfl (by kernel_rfl) ?_
  simp only [Act.put, sa, sz, ss]
  refine rest_set (d := 9) (v := PT w2.heap.size 0) (w' := (w2.alloc (.cells ([Value.slice none 0 0, Value.int .i64 0, Value.map none, Value.map none, Value.bool false, Value.bool false, Value.bool false, Value.bool false, Value.bool false, Value.bool false, Value.bool false, Value.bool false, Value.bool false, Value.bool false, Value.bool false, Value.bool false, Value.bool false] : List Value).toArray 42))) rfl rfl rfl (ex_boxT rfl rfl) ?_
  simp only [Act.put, sa, sz, ss]
  have o_γs3 : Hid (w.heap.size ≤ w2.heap.size) := H2.out.2.size
  have H3 : Hid (Mm (w2.alloc (.cells ([Value.slice none 0 0, Value.int .i64 0, Value.map none, Value.map none, Value.bool false, Value.bool false, Value.bool false, Value.bool false, Value.bool false, Value.bool false, Value.bool false, Value.bool false, Value.bool false, Value.bool false, Value.bool false, Value.bool false, Value.bool false] : List Value).toArray 42)) ((w2.heap.size, [Value.slice none 0 0, Value.int .i64 0, Value.map none, Value.map none, Value.bool false, Value.bool false, Value.bool false, Value.bool false, Value.bool false, Value.bool false, Value.bool false, Value.bool false, Value.bool false, Value.bool false, Value.bool false, Value.bool false, Value.bool false]) :: [(γs2, [c0, c1, Value.int .i64 k, c3, c4, c5, c6, c7, c8, c9, c10, c11, c12, c13, c14, c15, c16, c17, c18, c19, c20, c21, c22, c23, c24, c25, c26, c27, c28, c29, c30, c31, c32, c33, c34, c35, c36, c37, c38, c39, c40, c41, c42, c43, c44, c45, c46, c47, c48, c49, c50, c51, c52, c53, c54, c55, c56, c57, c58])]) ∧ Below w.heap.size w (w2.alloc (.cells ([Value.slice none 0 0, Value.int .i64 0, Value.map none, Value.map none, Value.bool false, Value.bool false, Value.bool false, Value.bool false, Value.bool false, Value.bool false, Value.bool false, Value.bool false, Value.bool false, Value.bool false, Value.bool false, Value.bool false, Value.bool false] : List Value).toArray 42))) := ⟨H2.out.1.alloc _ 42 rfl, H2.out.2.trans (((Below.refl _ _).alloc (Nat.le_refl _) _).mono H2.out.2.size)⟩
  clear H2
  generalize hgw : w2.alloc (.cells ([Value.slice none 0 0, Value.int .i64 0, Value.map none, Value.map none, Value.bool false, Value.bool false, Value.bool false, Value.bool false, Value.bool false, Value.bool false, Value.bool false, Value.bool false, Value.bool false, Value.bool false, Value.bool false, Value.bool false, Value.bool false] : List Value).toArray 42) = w3 at H3 ⊢
  clear hgw
  generalize w2.heap.size = γs3 at o_γs3 H3 ⊢
  refine rest_set (d := 10) (v := .slice (some ⟨w3.heap.size, 0, none⟩) 2 2) (w' := (w3.alloc (.cells ([Value.pointer none, PT γs3 0] : List Value).toArray 36))) rfl rfl rfl (ex_bs43_2 rfl rfl rfl) ?_
  simp only [Act.put, sa, sz, ss]
  have o_γs4 : Hid (w.heap.size ≤ w3.heap.size) := H3.out.2.size
  have H4 : Hid (Mm (w3.alloc (.cells ([Value.pointer none, PT γs3 0] : List Value).toArray 36)) ((w3.heap.size, [Value.pointer none, PT γs3 0]) :: [(γs3, [Value.slice none 0 0, Value.int .i64 0, Value.map none, Value.map none, Value.bool false, Value.bool false, Value.bool false, Value.bool false, Value.bool false, Value.bool false, Value.bool false, Value.bool false, Value.bool false, Value.bool false, Value.bool false, Value.bool false, Value.bool false]), (γs2, [c0, c1, Value.int .i64 k, c3, c4, c5, c6, c7, c8, c9, c10, c11, c12, c13, c14, c15, c16, c17, c18, c19, c20, c21, c22, c23, c24, c25, c26, c27, c28, c29, c30, c31, c32, c33, c34, c35, c36, c37, c38, c39, c40, c41, c42, c43, c44, c45, c46, c47, c48, c49, c50, c51, c52, c53, c54, c55, c56, c57, c58])]) ∧ Below w.heap.size w (w3.alloc (.cells ([Value.pointer none, PT γs3 0] : List Value).toArray 36))) := ⟨H3.out.1.alloc _ 36 rfl, H3.out.2.trans (((Below.refl _ _).alloc (Nat.le_refl _) _).mono H3.out.2.size)⟩
  clear H3
  generalize hgw : w3.alloc (.cells ([Value.pointer none, PT γs3 0] : List Value).toArray 36) = w4 at H4 ⊢
  clear hgw
  generalize w3.heap.size = γs4 at o_γs4 H4 ⊢
  refine rest_set (d := 3) (v := .slice (some ⟨γs4, 0, none⟩) 2 2) (w' := w4) rfl rfl rfl (rfl) ?_
  simp only [Act.put, sa, sz, ss]
  refine rest_nil (then_normal ?_)
  refine wp_seq (wp_seq ?_)
  refine sq_start (l := [0]) rfl ?_
  refine rest_set (d := 4) (v := .int .i64 0) (w' := w4) rfl rfl rfl (rfl) ?_
  simp only [Act.put, sa, sz, ss]
  refine rest_nil (then_normal (wp_block ?_))
  refine wp_loop_rounds 3 ?_
  refine rounds_in (n := 2) ?_
  refine wp_seq (wp_seq ?_)
  refine sq_start (l := [0, 1, 2, 3]) rfl ?_
  refine rest_set (d := 11) (v := .int .i64 0) (w' := w4) rfl rfl rfl (rfl) ?_
  simp only [Act.put, sa, sz, ss]
  refine rest_set (d := 12) (v := .slice (some ⟨γs4, 0, none⟩) 2 2) (w' := w4) rfl rfl rfl (rfl) ?_
  simp only [Act.put, sa, sz, ss]
  refine rest_set (d := 13) (v := .int .i64 2) (w' := w4) rfl rfl rfl (by go_simp) ?_
  simp only [Act.put, sa, sz, ss]
  refine rest_set (d := 14) (v := .bool true) (w' := w4) rfl rfl rfl (by kernel_rfl) ?_
  simp only [Act.put, sa, sz, ss]
  refine rest_nil (then_normal ?_)
  refine wp_cond_true rfl (wp_skip ?_)
  refine then_normal (wp_seq ?_)
  refine wp_block (wp_seq ?_)
  refine sq_start (l := [0, 1, 2, 3, 4]) rfl ?_
  refine rest_set (d := 17) (v := .slice (some ⟨γs4, 0, none⟩) 2 2) (w' := w4) rfl rfl rfl (rfl) ?_
  simp only [Act.put, sa, sz, ss]
  refine rest_set (d := 18) (v := .int .i64 0) (w' := w4) rfl rfl rfl (rfl) ?_
  simp only [Act.put, sa, sz, ss]
  refine rest_set (d := 19) (v := PT γs4 0) (w' := w4) rfl rfl rfl (by go_simp) ?_
  simp only [Act.put, sa, sz, ss]
  refine rest_set (d := 20) (v := .pointer none) (w' := w4) rfl rfl rfl (ex_loadC H4.out.1 0 rfl rfl rfl Tryz.isAgg36 rfl) ?_
  simp only [Act.put, sa, sz, ss]
  refine rest_set (d := 5) (v := .pointer none) (w' := w4) rfl rfl rfl (rfl) ?_
  simp only [Act.put, sa, sz, ss]
  refine rest_nil (then_normal (wp_seq ?_))
  refine sq_start (l := [0, 1, 2, 3, 4, 5, 6, 7, 8, 9, 10, 11, 12, 13]) rfl ?_
  refine rest_set (d := 22) (v := .pointer none) (w' := w4) rfl rfl rfl (rfl) ?_
  simp only [Act.put, sa, sz, ss]
  refine rest_set (d := 23) (v := PT γs2 0) (w' := w4) rfl rfl rfl (by go_simp) ?_
  simp only [Act.put, sa, sz, ss]
  refine rest_set (d := 24) (v := c0) (w' := w4) rfl rfl rfl (ex_loadC H4.out.1 2 rfl rfl rfl Tryz.isAgg3 rfl) ?_
  simp only [Act.put, sa, sz, ss]
  refine rest_set (d := 25) (v := PT γs2 1) (w' := w4) rfl rfl rfl (by go_simp) ?_
  simp only [Act.put, sa, sz, ss]
  refine rest_set (d := 26) (v := c1) (w' := w4) rfl rfl rfl (ex_loadC H4.out.1 2 rfl rfl rfl Tryz.isAgg3 rfl) ?_
  simp only [Act.put, sa, sz, ss]
  refine rest_set (d := 27) (v := PT γs2 2) (w' := w4) rfl rfl rfl (by go_simp) ?_
  simp only [Act.put, sa, sz, ss]
  refine rest_set (d := 28) (v := .int .i64 k) (w' := w4) rfl rfl rfl (ex_loadC H4.out.1 2 rfl rfl rfl Tryz.isAgg3 rfl) ?_
  simp only [Act.put, sa, sz, ss]
  refine rest_enter (d := 29) (R := fun vv w' => vv = .tuple #[.agg ([Value.int .i64 0, Value.int .i64 0, Value.int .i64 0, Z8 0, Z8 0, Z8 0, Z8 0, Z8 0, Z8 0, Z8 0, Z8 0, Z8 0, Z8 0, Z8 0, Z8 0, Z8 0, Z8 0, Z8 0, Z8 0, Z8 0, Z8 0, Z8 0, Z8 0, Z8 0, Z8 0, Z8 0, Z8 0, Z8 0, Z8 0, Z8 0, Z8 0, Z8 0, Z8 0, Z8 0, Z8 0, Value.slice none 0 0]).toArray, .int .i64 1] ∧ Below w4.heap.size w4 w') rfl rfl rfl (exec_call (args := #[.pointer none, c0, c1, .int .i64 k]) rfl call5 rfl (mpn rfl)) (Calls.mono (bcert_n (c0) (c1) (.int .i64 k) w4) (fun e w2 hh => ⟨_, hh.1, rfl, hh.2⟩)) ?_
  rintro _ w5 ⟨rfl, hb⟩
  have H5 : Hid (Mm w5 [(γs4, [Value.pointer none, PT γs3 0]), (γs3, [Value.slice none 0 0, Value.int .i64 0, Value.map none, Value.map none, Value.bool false, Value.bool false, Value.bool false, Value.bool false, Value.bool false, Value.bool false, Value.bool false, Value.bool false, Value.bool false, Value.bool false, Value.bool false, Value.bool false, Value.bool false]), (γs2, [c0, c1, Value.int .i64 k, c3, c4, c5, c6, c7, c8, c9, c10, c11, c12, c13, c14, c15, c16, c17, c18, c19, c20, c21, c22, c23, c24, c25, c26, c27, c28, c29, c30, c31, c32, c33, c34, c35, c36, c37, c38, c39, c40, c41, c42, c43, c44, c45, c46, c47, c48, c49, c50, c51, c52, c53, c54, c55, c56, c57, c58])] ∧ Below w.heap.size w w5) := ⟨H4.out.1.below hb, H4.out.2.trans (hb.mono H4.out.2.size)⟩
  clear hb
  clear H4
  simp only [Act.put, sa, sz, ss]
  refine rest_set (d := 21) (v := .tuple #[.agg ([Value.int .i64 0, Value.int .i64 0, Value.int .i64 0, Z8 0, Z8 0, Z8 0, Z8 0, Z8 0, Z8 0, Z8 0, Z8 0, Z8 0, Z8 0, Z8 0, Z8 0, Z8 0, Z8 0, Z8 0, Z8 0, Z8 0, Z8 0, Z8 0, Z8 0, Z8 0, Z8 0, Z8 0, Z8 0, Z8 0, Z8 0, Z8 0, Z8 0, Z8 0, Z8 0, Z8 0, Z8 0, Value.slice none 0 0]).toArray, .int .i64 1]) (w' := w5) rfl rfl rfl (rfl) ?_
  simp only [Act.put, sa, sz, ss]
  refine rest_set (d := 30) (v := .agg ([Value.int .i64 0, Value.int .i64 0, Value.int .i64 0, Z8 0, Z8 0, Z8 0, Z8 0, Z8 0, Z8 0, Z8 0, Z8 0, Z8 0, Z8 0, Z8 0, Z8 0, Z8 0, Z8 0, Z8 0, Z8 0, Z8 0, Z8 0, Z8 0, Z8 0, Z8 0, Z8 0, Z8 0, Z8 0, Z8 0, Z8 0, Z8 0, Z8 0, Z8 0, Z8 0, Z8 0, Z8 0, Value.slice none 0 0]).toArray) (w' := w5) rfl rfl rfl (by go_simp) ?_
  simp only [Act.put, sa, sz, ss]
  refine rest_set (d := 31) (v := .int .i64 1) (w' := w5) rfl rfl rfl (by go_simp) ?_
  simp only [Act.put, sa, sz, ss]
  refine rest_set (d := 6) (v := PT w5.heap.size 0) (w' := (w5.alloc (.cells ([Value.int .i64 0, Value.int .i64 0, Value.int .i64 0, Z8 0, Z8 0, Z8 0, Z8 0, Z8 0, Z8 0, Z8 0, Z8 0, Z8 0, Z8 0, Z8 0, Z8 0, Z8 0, Z8 0, Z8 0, Z8 0, Z8 0, Z8 0, Z8 0, Z8 0, Z8 0, Z8 0, Z8 0, Z8 0, Z8 0, Z8 0, Z8 0, Z8 0, Z8 0, Z8 0, Z8 0, Z8 0, Value.slice none 0 0] : List Value).toArray 46))) rfl rfl rfl (ex_mk46 rfl) ?_
  simp only [Act.put, sa, sz, ss]
  have o_γs6 : Hid (w.heap.size ≤ w5.heap.size) := H5.out.2.size
  have H6 : Hid (Mm (w5.alloc (.cells ([Value.int .i64 0, Value.int .i64 0, Value.int .i64 0, Z8 0, Z8 0, Z8 0, Z8 0, Z8 0, Z8 0, Z8 0, Z8 0, Z8 0, Z8 0, Z8 0, Z8 0, Z8 0, Z8 0, Z8 0, Z8 0, Z8 0, Z8 0, Z8 0, Z8 0, Z8 0, Z8 0, Z8 0, Z8 0, Z8 0, Z8 0, Z8 0, Z8 0, Z8 0, Z8 0, Z8 0, Z8 0, Value.slice none 0 0] : List Value).toArray 46)) ((w5.heap.size, [Value.int .i64 0, Value.int .i64 0, Value.int .i64 0, Z8 0, Z8 0, Z8 0, Z8 0, Z8 0, Z8 0, Z8 0, Z8 0, Z8 0, Z8 0, Z8 0, Z8 0, Z8 0, Z8 0, Z8 0, Z8 0, Z8 0, Z8 0, Z8 0, Z8 0, Z8 0, Z8 0, Z8 0, Z8 0, Z8 0, Z8 0, Z8 0, Z8 0, Z8 0, Z8 0, Z8 0, Z8 0, Value.slice none 0 0]) :: [(γs4, [Value.pointer none, PT γs3 0]), (γs3, [Value.slice none 0 0, Value.int .i64 0, Value.map none, Value.map none, Value.bool false, Value.bool false, Value.bool false, Value.bool false, Value.bool false, Value.bool false, Value.bool false, Value.bool false, Value.bool false, Value.bool false, Value.bool false, Value.bool false, Value.bool false]), (γs2, [c0, c1, Value.int .i64 k, c3, c4, c5, c6, c7, c8, c9, c10, c11, c12, c13, c14, c15, c16, c17, c18, c19, c20, c21, c22, c23, c24, c25, c26, c27, c28, c29, c30, c31, c32, c33, c34, c35, c36, c37, c38, c39, c40, c41, c42, c43, c44, c45, c46, c47, c48, c49, c50, c51, c52, c53, c54, c55, c56, c57, c58])]) ∧ Below w.heap.size w (w5.alloc (.cells ([Value.int .i64 0, Value.int .i64 0, Value.int .i64 0, Z8 0, Z8 0, Z8 0, Z8 0, Z8 0, Z8 0, Z8 0, Z8 0, Z8 0, Z8 0, Z8 0, Z8 0, Z8 0, Z8 0, Z8 0, Z8 0, Z8 0, Z8 0, Z8 0, Z8 0, Z8 0, Z8 0, Z8 0, Z8 0, Z8 0, Z8 0, Z8 0, Z8 0, Z8 0, Z8 0, Z8 0, Z8 0, Value.slice none 0 0] : List Value).toArray 46))) := ⟨H5.out.1.alloc _ 46 rfl, H5.out.2.trans (((Below.refl _ _).alloc (Nat.le_refl _) _).mono H5.out.2.size)⟩
  clear H5
  generalize hgw : w5.alloc (.cells ([Value.int .i64 0, Value.int .i64 0, Value.int .i64 0, Z8 0, Z8 0, Z8 0, Z8 0, Z8 0, Z8 0, Z8 0, Z8 0, Z8 0, Z8 0, Z8 0, Z8 0, Z8 0, Z8 0, Z8 0, Z8 0, Z8 0, Z8 0, Z8 0, Z8 0, Z8 0, Z8 0, Z8 0, Z8 0, Z8 0, Z8 0, Z8 0, Z8 0, Z8 0, Z8 0, Z8 0, Z8 0, Value.slice none 0 0] : List Value).toArray 46) = w6 at H6 ⊢
  clear hgw
  generalize w5.heap.size = γs6 at o_γs6 H6 ⊢
  refine rest_store rfl rfl rfl (ex_storeT (vs := [Value.int .i64 0, Value.int .i64 0, Value.int .i64 0, Z8 0, Z8 0, Z8 0, Z8 0, Z8 0, Z8 0, Z8 0, Z8 0, Z8 0, Z8 0, Z8 0, Z8 0, Z8 0, Z8 0, Z8 0, Z8 0, Z8 0, Z8 0, Z8 0, Z8 0, Z8 0, Z8 0, Z8 0, Z8 0, Z8 0, Z8 0, Z8 0, Z8 0, Z8 0, Z8 0, Z8 0, Z8 0, Value.slice none 0 0]) H6.out.1 0 rfl rfl rfl rfl Tryz.sizeOf46 rfl (Nat.le_of_ble_eq_true rfl)) ?_
  have H7 : Hid (Mm (w6.setCells γs6 0 [Value.int .i64 0, Value.int .i64 0, Value.int .i64 0, Z8 0, Z8 0, Z8 0, Z8 0, Z8 0, Z8 0, Z8 0, Z8 0, Z8 0, Z8 0, Z8 0, Z8 0, Z8 0, Z8 0, Z8 0, Z8 0, Z8 0, Z8 0, Z8 0, Z8 0, Z8 0, Z8 0, Z8 0, Z8 0, Z8 0, Z8 0, Z8 0, Z8 0, Z8 0, Z8 0, Z8 0, Z8 0, Value.slice none 0 0]) [(γs6, [Value.int .i64 0, Value.int .i64 0, Value.int .i64 0, Z8 0, Z8 0, Z8 0, Z8 0, Z8 0, Z8 0, Z8 0, Z8 0, Z8 0, Z8 0, Z8 0, Z8 0, Z8 0, Z8 0, Z8 0, Z8 0, Z8 0, Z8 0, Z8 0, Z8 0, Z8 0, Z8 0, Z8 0, Z8 0, Z8 0, Z8 0, Z8 0, Z8 0, Z8 0, Z8 0, Z8 0, Z8 0, Value.slice none 0 0]), (γs4, [Value.pointer none, PT γs3 0]), (γs3, [Value.slice none 0 0, Value.int .i64 0, Value.map none, Value.map none, Value.bool false, Value.bool false, Value.bool false, Value.bool false, Value.bool false, Value.bool false, Value.bool false, Value.bool false, Value.bool false, Value.bool false, Value.bool false, Value.bool false, Value.bool false]), (γs2, [c0, c1, Value.int .i64 k, c3, c4, c5, c6, c7, c8, c9, c10, c11, c12, c13, c14, c15, c16, c17, c18, c19, c20, c21, c22, c23, c24, c25, c26, c27, c28, c29, c30, c31, c32, c33, c34, c35, c36, c37, c38, c39, c40, c41, c42, c43, c44, c45, c46, c47, c48, c49, c50, c51, c52, c53, c54, c55, c56, c57, c58])] ∧ Below w.heap.size w (w6.setCells γs6 0 [Value.int .i64 0, Value.int .i64 0, Value.int .i64 0, Z8 0, Z8 0, Z8 0, Z8 0, Z8 0, Z8 0, Z8 0, Z8 0, Z8 0, Z8 0, Z8 0, Z8 0, Z8 0, Z8 0, Z8 0, Z8 0, Z8 0, Z8 0, Z8 0, Z8 0, Z8 0, Z8 0, Z8 0, Z8 0, Z8 0, Z8 0, Z8 0, Z8 0, Z8 0, Z8 0, Z8 0, Z8 0, Value.slice none 0 0])) := ⟨H6.out.1.put 0 (off := 0) (vs := [Value.int .i64 0, Value.int .i64 0, Value.int .i64 0, Z8 0, Z8 0, Z8 0, Z8 0, Z8 0, Z8 0, Z8 0, Z8 0, Z8 0, Z8 0, Z8 0, Z8 0, Z8 0, Z8 0, Z8 0, Z8 0, Z8 0, Z8 0, Z8 0, Z8 0, Z8 0, Z8 0, Z8 0, Z8 0, Z8 0, Z8 0, Z8 0, Z8 0, Z8 0, Z8 0, Z8 0, Z8 0, Value.slice none 0 0]) rfl (Nat.le_of_ble_eq_true rfl), below_setCells _ o_γs6.out _ _ _ H6.out.2⟩
  clear H6
  generalize hgw : World.setCells _ _ _ _ = w7 at H7 ⊢
  clear hgw
  refine rest_set (d := 7) (v := .int .i64 1) (w' := w7) rfl rfl rfl (rfl) ?_
  simp only [Act.put, sa, sz, ss]
  refine rest_nil (then_normal (wp_seq ?_))
  refine sq_start (l := [0, 1, 2, 3, 4, 5, 6, 7, 8, 9, 10, 11, 12, 13, 14, 15, 16, 17, 18, 19, 20, 21, 22, 23, 24, 25, 26, 27, 28, 29, 30, 31, 32, 33, 34, 35, 36, 37, 38, 39, 40, 41, 42, 43, 44]) rfl ?_
  refine rest_set (d := 32) (v := .pointer none) (w' := w7) rfl rfl rfl (rfl) ?_
  simp only [Act.put, sa, sz, ss]
  refine rest_set (d := 33) (v := .agg ([c0, c1, Value.int .i64 k, c3, c4, c5, c6, c7, c8, c9, c10, c11, c12, c13, c14, c15, c16, c17, c18, c19, c20, c21, c22, c23, c24, c25, c26, c27, c28, c29, c30, c31, c32, c33, c34, c35, c36, c37, c38, c39, c40, c41, c42, c43, c44, c45, c46, c47, c48, c49, c50, c51, c52, c53, c54, c55, c56, c57, c58]).toArray) (w' := w7) rfl rfl rfl (ex_loadT H7.out.1 3 rfl rfl rfl Tryz.isAgg35 Tryz.sizeOf35 rfl rfl) ?_
  simp only [Act.put, sa, sz, ss]
  refine rest_enter (d := 34) (R := fun vv w' => vv = .int .i64 1 ∧ Below w7.heap.size w7 w') rfl rfl rfl (exec_call (args := #[.pointer none, .agg ([c0, c1, Value.int .i64 k, c3, c4, c5, c6, c7, c8, c9, c10, c11, c12, c13, c14, c15, c16, c17, c18, c19, c20, c21, c22, c23, c24, c25, c26, c27, c28, c29, c30, c31, c32, c33, c34, c35, c36, c37, c38, c39, c40, c41, c42, c43, c44, c45, c46, c47, c48, c49, c50, c51, c52, c53, c54, c55, c56, c57, c58]).toArray]) rfl call6 rfl (mpn rfl)) (Calls.mono (badd_n (([c0, c1, Value.int .i64 k, c3, c4, c5, c6, c7, c8, c9, c10, c11, c12, c13, c14, c15, c16, c17, c18, c19, c20, c21, c22, c23, c24, c25, c26, c27, c28, c29, c30, c31, c32, c33, c34, c35, c36, c37, c38, c39, c40, c41, c42, c43, c44, c45, c46, c47, c48, c49, c50, c51, c52, c53, c54, c55, c56, c57, c58]).toArray) w7) (fun e w2 hh => ⟨_, hh.1, rfl, hh.2⟩)) ?_
  rintro _ w8 ⟨rfl, hb⟩
  have H8 : Hid (Mm w8 [(γs6, [Value.int .i64 0, Value.int .i64 0, Value.int .i64 0, Z8 0, Z8 0, Z8 0, Z8 0, Z8 0, Z8 0, Z8 0, Z8 0, Z8 0, Z8 0, Z8 0, Z8 0, Z8 0, Z8 0, Z8 0, Z8 0, Z8 0, Z8 0, Z8 0, Z8 0, Z8 0, Z8 0, Z8 0, Z8 0, Z8 0, Z8 0, Z8 0, Z8 0, Z8 0, Z8 0, Z8 0, Z8 0, Value.slice none 0 0]), (γs4, [Value.pointer none, PT γs3 0]), (γs3, [Value.slice none 0 0, Value.int .i64 0, Value.map none, Value.map none, Value.bool false, Value.bool false, Value.bool false, Value.bool false, Value.bool false, Value.bool false, Value.bool false, Value.bool false, Value.bool false, Value.bool false, Value.bool false, Value.bool false, Value.bool false]), (γs2, [c0, c1, Value.int .i64 k, c3, c4, c5, c6, c7, c8, c9, c10, c11, c12, c13, c14, c15, c16, c17, c18, c19, c20, c21, c22, c23, c24, c25, c26, c27, c28, c29, c30, c31, c32, c33, c34, c35, c36, c37, c38, c39, c40, c41, c42, c43, c44, c45, c46, c47, c48, c49, c50, c51, c52, c53, c54, c55, c56, c57, c58])] ∧ Below w.heap.size w w8) := ⟨H7.out.1.below hb, H7.out.2.trans (hb.mono H7.out.2.size)⟩
  clear hb
  clear H7
  simp only [Act.put, sa, sz, ss]
  refine rest_set (d := 35) (v := .bool false) (w' := w8) rfl rfl rfl (by kernel_rfl) ?_
  simp only [Act.put, sa, sz, ss]
  refine rest_set (d := 36) (v := .bool false) (w' := w8) rfl rfl rfl (rfl) ?_
  simp only [Act.put, sa, sz, ss]
  refine rest_set (d := 37) (v := .int .i64 1) (w' := w8) rfl rfl rfl (rfl) ?_
  simp only [Act.put, sa, sz, ss]
  refine rest_set (d := 38) (v := .bool false) (w' := w8) rfl rfl rfl (by kernel_rfl) ?_
  simp only [Act.put, sa, sz, ss]
  refine rest_set (d := 39) (v := .bool false) (w' := w8) rfl rfl rfl (by go_simp) ?_
  simp only [Act.put, sa, sz, ss]
  refine rest_set (d := 40) (v := .bool false) (w' := w8) rfl rfl rfl (rfl) ?_
  simp only [Act.put, sa, sz, ss]
  refine rest_set (d := 41) (v := PT γs6 35) (w' := w8) rfl rfl rfl (by go_simp) ?_
  simp only [Act.put, sa, sz, ss]
  refine rest_set (d := 42) (v := .slice none 0 0) (w' := w8) rfl rfl rfl (ex_loadC H8.out.1 0 rfl rfl rfl Tryz.isAgg44 rfl) ?_
  simp only [Act.put, sa, sz, ss]
  refine rest_set (d := 43) (v := .int .i64 0) (w' := w8) rfl rfl rfl (by go_simp) ?_
  simp only [Act.put, sa, sz, ss]
  refine rest_set (d := 44) (v := .bool false) (w' := w8) rfl rfl rfl (by kernel_rfl) ?_
  simp only [Act.put, sa, sz, ss]
  refine rest_set (d := 45) (v := .bool false) (w' := w8) rfl rfl rfl (by go_simp) ?_
  simp only [Act.put, sa, sz, ss]
  refine rest_set (d := 46) (v := .bool false) (w' := w8) rfl rfl rfl (rfl) ?_
  simp only [Act.put, sa, sz, ss]
  refine rest_set (d := 47) (v := .pointer none) (w' := w8) rfl rfl rfl (rfl) ?_
  simp only [Act.put, sa, sz, ss]
  refine rest_set (d := 48) (v := PT γs2 0) (w' := w8) rfl rfl rfl (by go_simp) ?_
  simp only [Act.put, sa, sz, ss]
  refine rest_set (d := 49) (v := c0) (w' := w8) rfl rfl rfl (ex_loadC H8.out.1 3 rfl rfl rfl Tryz.isAgg3 rfl) ?_
  simp only [Act.put, sa, sz, ss]
  refine rest_set (d := 50) (v := PT γs2 1) (w' := w8) rfl rfl rfl (by go_simp) ?_
  simp only [Act.put, sa, sz, ss]
  refine rest_set (d := 51) (v := c1) (w' := w8) rfl rfl rfl (ex_loadC H8.out.1 3 rfl rfl rfl Tryz.isAgg3 rfl) ?_
  simp only [Act.put, sa, sz, ss]
  refine rest_set (d := 52) (v := PT γs2 2) (w' := w8) rfl rfl rfl (by go_simp) ?_
  simp only [Act.put, sa, sz, ss]
  refine rest_set (d := 53) (v := .int .i64 k) (w' := w8) rfl rfl rfl (ex_loadC H8.out.1 3 rfl rfl rfl Tryz.isAgg3 rfl) ?_
  simp only [Act.put, sa, sz, ss]
  refine rest_set (d := 54) (v := PT γs2 3) (w' := w8) rfl rfl rfl (by go_simp) ?_
  simp only [Act.put, sa, sz, ss]
  refine rest_set (d := 55) (v := .agg ([c3, c4, c5, c6, c7, c8, c9, c10, c11, c12, c13, c14, c15, c16, c17, c18, c19, c20, c21, c22, c23, c24, c25, c26, c27, c28, c29, c30, c31, c32, c33, c34]).toArray) (w' := w8) rfl rfl rfl (ex_loadT H8.out.1 3 rfl rfl rfl Tryz.isAgg23 Tryz.sizeOf23 rfl rfl) ?_
  simp only [Act.put, sa, sz, ss]
  refine rest_enter (d := 56) (R := fun vv w' => vv = .int .i64 0 ∧ Below w8.heap.size w8 w') rfl rfl rfl (exec_call (args := #[.pointer none, c0, c1, .int .i64 k, .agg ([c3, c4, c5, c6, c7, c8, c9, c10, c11, c12, c13, c14, c15, c16, c17, c18, c19, c20, c21, c22, c23, c24, c25, c26, c27, c28, c29, c30, c31, c32, c33, c34]).toArray]) rfl call7 rfl (mpn rfl)) (Calls.mono (bcount_n (c0) (c1) (.int .i64 k) (([c3, c4, c5, c6, c7, c8, c9, c10, c11, c12, c13, c14, c15, c16, c17, c18, c19, c20, c21, c22, c23, c24, c25, c26, c27, c28, c29, c30, c31, c32, c33, c34]).toArray) w8) (fun e w2 hh => ⟨_, hh.1, rfl, hh.2⟩)) ?_
  rintro _ w9 ⟨rfl, hb⟩
  have H9 : Hid (Mm w9 [(γs6, [Value.int .i64 0, Value.int .i64 0, Value.int .i64 0, Z8 0, Z8 0, Z8 0, Z8 0, Z8 0, Z8 0, Z8 0, Z8 0, Z8 0, Z8 0, Z8 0, Z8 0, Z8 0, Z8 0, Z8 0, Z8 0, Z8 0, Z8 0, Z8 0, Z8 0, Z8 0, Z8 0, Z8 0, Z8 0, Z8 0, Z8 0, Z8 0, Z8 0, Z8 0, Z8 0, Z8 0, Z8 0, Value.slice none 0 0]), (γs4, [Value.pointer none, PT γs3 0]), (γs3, [Value.slice none 0 0, Value.int .i64 0, Value.map none, Value.map none, Value.bool false, Value.bool false, Value.bool false, Value.bool false, Value.bool false, Value.bool false, Value.bool false, Value.bool false, Value.bool false, Value.bool false, Value.bool false, Value.bool false, Value.bool false]), (γs2, [c0, c1, Value.int .i64 k, c3, c4, c5, c6, c7, c8, c9, c10, c11, c12, c13, c14, c15, c16, c17, c18, c19, c20, c21, c22, c23, c24, c25, c26, c27, c28, c29, c30, c31, c32, c33, c34, c35, c36, c37, c38, c39, c40, c41, c42, c43, c44, c45, c46, c47, c48, c49, c50, c51, c52, c53, c54, c55, c56, c57, c58])] ∧ Below w.heap.size w w9) := ⟨H8.out.1.below hb, H8.out.2.trans (hb.mono H8.out.2.size)⟩
  clear hb
  clear H8
  simp only [Act.put, sa, sz, ss]
  refine rest_set (d := 57) (v := .bool false) (w' := w9) rfl rfl rfl (by kernel_rfl) ?_
  simp only [Act.put, sa, sz, ss]
  refine rest_set (d := 58) (v := .bool false) (w' := w9) rfl rfl rfl (by go_simp) ?_
  simp only [Act.put, sa, sz, ss]
  refine rest_set (d := 59) (v := .bool false) (w' := w9) rfl rfl rfl (rfl) ?_
  simp only [Act.put, sa, sz, ss]
  refine rest_set (d := 60) (v := .pointer none) (w' := w9) rfl rfl rfl (rfl) ?_
  simp only [Act.put, sa, sz, ss]
  refine rest_enter (d := 61) (R := fun vv w' => vv = .slice none 0 0 ∧ Below w9.heap.size w9 w') rfl rfl rfl (exec_call (args := #[.pointer none]) rfl call8 rfl (mpn rfl)) (Calls.mono (bdoub_n  w9) (fun e w2 hh => ⟨_, hh.1, rfl, hh.2⟩)) ?_
  rintro _ w10 ⟨rfl, hb⟩
  have H10 : Hid (Mm w10 [(γs6, [Value.int .i64 0, Value.int .i64 0, Value.int .i64 0, Z8 0, Z8 0, Z8 0, Z8 0, Z8 0, Z8 0, Z8 0, Z8 0, Z8 0, Z8 0, Z8 0, Z8 0, Z8 0, Z8 0, Z8 0, Z8 0, Z8 0, Z8 0, Z8 0, Z8 0, Z8 0, Z8 0, Z8 0, Z8 0, Z8 0, Z8 0, Z8 0, Z8 0, Z8 0, Z8 0, Z8 0, Z8 0, Value.slice none 0 0]), (γs4, [Value.pointer none, PT γs3 0]), (γs3, [Value.slice none 0 0, Value.int .i64 0, Value.map none, Value.map none, Value.bool false, Value.bool false, Value.bool false, Value.bool false, Value.bool false, Value.bool false, Value.bool false, Value.bool false, Value.bool false, Value.bool false, Value.bool false, Value.bool false, Value.bool false]), (γs2, [c0, c1, Value.int .i64 k, c3, c4, c5, c6, c7, c8, c9, c10, c11, c12, c13, c14, c15, c16, c17, c18, c19, c20, c21, c22, c23, c24, c25, c26, c27, c28, c29, c30, c31, c32, c33, c34, c35, c36, c37, c38, c39, c40, c41, c42, c43, c44, c45, c46, c47, c48, c49, c50, c51, c52, c53, c54, c55, c56, c57, c58])] ∧ Below w.heap.size w w10) := ⟨H9.out.1.below hb, H9.out.2.trans (hb.mono H9.out.2.size)⟩
  clear hb
  clear H9
  simp only [Act.put, sa, sz, ss]
  refine rest_set (d := 62) (v := .int .i64 0) (w' := w10) rfl rfl rfl (by go_simp) ?_
  simp only [Act.put, sa, sz, ss]
  refine rest_set (d := 63) (v := .bool false) (w' := w10) rfl rfl rfl (by kernel_rfl) ?_
  simp only [Act.put, sa, sz, ss]
  refine rest_set (d := 64) (v := .bool false) (w' := w10) rfl rfl rfl (by go_simp) ?_
  simp only [Act.put, sa, sz, ss]
  refine rest_set (d := 65) (v := .bool false) (w' := w10) rfl rfl rfl (rfl) ?_
  simp only [Act.put, sa, sz, ss]
  refine rest_set (d := 66) (v := .pointer none) (w' := w10) rfl rfl rfl (rfl) ?_
  simp only [Act.put, sa, sz, ss]
  refine rest_set (d := 67) (v := PT γs2 2) (w' := w10) rfl rfl rfl (by go_simp) ?_
  simp only [Act.put, sa, sz, ss]
  refine rest_set (d := 68) (v := .int .i64 k) (w' := w10) rfl rfl rfl (ex_loadC H10.out.1 3 rfl rfl rfl Tryz.isAgg3 rfl) ?_
  simp only [Act.put, sa, sz, ss]
  refine rest_enter (d := 69) (R := fun vv w' => vv = .int .i64 0 ∧ Below w10.heap.size w10 w') rfl rfl rfl (exec_call (args := #[.pointer none, .int .i64 k]) rfl call9 rfl (mpn rfl)) (Calls.mono (bdrop_n (k) w10) (fun e w2 hh => ⟨_, hh.1, rfl, hh.2⟩)) ?_
  rintro _ w11 ⟨rfl, hb⟩
  have H11 : Hid (Mm w11 [(γs6, [Value.int .i64 0, Value.int .i64 0, Value.int .i64 0, Z8 0, Z8 0, Z8 0, Z8 0, Z8 0, Z8 0, Z8 0, Z8 0, Z8 0, Z8 0, Z8 0, Z8 0, Z8 0, Z8 0, Z8 0, Z8 0, Z8 0, Z8 0, Z8 0, Z8 0, Z8 0, Z8 0, Z8 0, Z8 0, Z8 0, Z8 0, Z8 0, Z8 0, Z8 0, Z8 0, Z8 0, Z8 0, Value.slice none 0 0]), (γs4, [Value.pointer none, PT γs3 0]), (γs3, [Value.slice none 0 0, Value.int .i64 0, Value.map none, Value.map none, Value.bool false, Value.bool false, Value.bool false, Value.bool false, Value.bool false, Value.bool false, Value.bool false, Value.bool false, Value.bool false, Value.bool false, Value.bool false, Value.bool false, Value.bool false]), (γs2, [c0, c1, Value.int .i64 k, c3, c4, c5, c6, c7, c8, c9, c10, c11, c12, c13, c14, c15, c16, c17, c18, c19, c20, c21, c22, c23, c24, c25, c26, c27, c28, c29, c30, c31, c32, c33, c34, c35, c36, c37, c38, c39, c40, c41, c42, c43, c44, c45, c46, c47, c48, c49, c50, c51, c52, c53, c54, c55, c56, c57, c58])] ∧ Below w.heap.size w w11) := ⟨H10.out.1.below hb, H10.out.2.trans (hb.mono H10.out.2.size)⟩
  clear hb
  clear H10
  simp only [Act.put, sa, sz, ss]
  refine rest_set (d := 70) (v := .bool false) (w' := w11) rfl rfl rfl (by kernel_rfl) ?_
  simp only [Act.put, sa, sz, ss]
  refine rest_set (d := 71) (v := .bool false) (w' := w11) rfl rfl rfl (by go_simp) ?_
  simp only [Act.put, sa, sz, ss]
  refine rest_set (d := 72) (v := .bool false) (w' := w11) rfl rfl rfl (rfl) ?_
  simp only [Act.put, sa, sz, ss]
  refine rest_set (d := 73) (v := .pointer none) (w' := w11) rfl rfl rfl (rfl) ?_
  simp only [Act.put, sa, sz, ss]
  refine rest_enter (d := 74) (R := fun vv w' => vv = .int .i64 0 ∧ Below w11.heap.size w11 w') rfl rfl rfl (exec_call (args := #[.pointer none]) rfl call10 rfl (mpn rfl)) (Calls.mono (blen_n  w11) (fun e w2 hh => ⟨_, hh.1, rfl, hh.2⟩)) ?_
  rintro _ w12 ⟨rfl, hb⟩
  have H12 : Hid (Mm w12 [(γs6, [Value.int .i64 0, Value.int .i64 0, Value.int .i64 0, Z8 0, Z8 0, Z8 0, Z8 0, Z8 0, Z8 0, Z8 0, Z8 0, Z8 0, Z8 0, Z8 0, Z8 0, Z8 0, Z8 0, Z8 0, Z8 0, Z8 0, Z8 0, Z8 0, Z8 0, Z8 0, Z8 0, Z8 0, Z8 0, Z8 0, Z8 0, Z8 0, Z8 0, Z8 0, Z8 0, Z8 0, Z8 0, Value.slice none 0 0]), (γs4, [Value.pointer none, PT γs3 0]), (γs3, [Value.slice none 0 0, Value.int .i64 0, Value.map none, Value.map none, Value.bool false, Value.bool false, Value.bool false, Value.bool false, Value.bool false, Value.bool false, Value.bool false, Value.bool false, Value.bool false, Value.bool false, Value.bool false, Value.bool false, Value.bool false]), (γs2, [c0, c1, Value.int .i64 k, c3, c4, c5, c6, c7, c8, c9, c10, c11, c12, c13, c14, c15, c16, c17, c18, c19, c20, c21, c22, c23, c24, c25, c26, c27, c28, c29, c30, c31, c32, c33, c34, c35, c36, c37, c38, c39, c40, c41, c42, c43, c44, c45, c46, c47, c48, c49, c50, c51, c52, c53, c54, c55, c56, c57, c58])] ∧ Below w.heap.size w w12) := ⟨H11.out.1.below hb, H11.out.2.trans (hb.mono H11.out.2.size)⟩
  clear hb
  clear H11
  simp only [Act.put, sa, sz, ss]
  refine rest_set (d := 75) (v := .bool false) (w' := w12) rfl rfl rfl (by kernel_rfl) ?_
  simp only [Act.put, sa, sz, ss]
  refine rest_set (d := 76) (v := .bool false) (w' := w12) rfl rfl rfl (by go_simp) ?_
  simp only [Act.put, sa, sz, ss]
  refine rest_nil (then_normal ?_)
  refine wp_cond_false rfl (wp_skip ?_)
  refine block_normal (then_normal ?_)
  refine sq_start (l := [0, 1, 2]) rfl ?_
  refine rest_set (d := 15) (v := .int .i64 0) (w' := w12) rfl rfl rfl (rfl) ?_
  simp only [Act.put, sa, sz, ss]
  refine rest_set (d := 16) (v := .int .i64 1) (w' := w12) rfl rfl rfl (by kernel_rfl) ?_
  simp only [Act.put, sa, sz, ss]
  refine rest_set (d := 4) (v := .int .i64 1) (w' := w12) rfl rfl rfl (rfl) ?_
  simp only [Act.put, sa, sz, ss]
  refine rest_nil (then_normal ?_)
  refine rounds_in (n := 1) ?_
  refine wp_seq (wp_seq ?_)
  refine sq_start (l := [0, 1, 2, 3]) rfl ?_
  refine rest_set (d := 11) (v := .int .i64 1) (w' := w12) rfl rfl rfl (rfl) ?_
  simp only [Act.put, sa, sz, ss]
  refine rest_set (d := 12) (v := .slice (some ⟨γs4, 0, none⟩) 2 2) (w' := w12) rfl rfl rfl (rfl) ?_
  simp only [Act.put, sa, sz, ss]
  refine rest_set (d := 13) (v := .int .i64 2) (w' := w12) rfl rfl rfl (by go_simp) ?_
  simp only [Act.put, sa, sz, ss]
  refine rest_set (d := 14) (v := .bool true) (w' := w12) rfl rfl rfl (by kernel_rfl) ?_
  simp only [Act.put, sa, sz, ss]
  refine rest_nil (then_normal ?_)
  refine wp_cond_true rfl (wp_skip ?_)
  refine then_normal (wp_seq ?_)
  refine wp_block (wp_seq ?_)
  refine sq_start (l := [0, 1, 2, 3, 4]) rfl ?_
  refine rest_set (d := 17) (v := .slice (some ⟨γs4, 0, none⟩) 2 2) (w' := w12) rfl rfl rfl (rfl) ?_
  simp only [Act.put, sa, sz, ss]
  refine rest_set (d := 18) (v := .int .i64 1) (w' := w12) rfl rfl rfl (rfl) ?_
  simp only [Act.put, sa, sz, ss]
  refine rest_set (d := 19) (v := PT γs4 1) (w' := w12) rfl rfl rfl (by go_simp) ?_
  simp only [Act.put, sa, sz, ss]
  refine rest_set (d := 20) (v := PT γs3 0) (w' := w12) rfl rfl rfl (ex_loadC H12.out.1 1 rfl rfl rfl Tryz.isAgg36 rfl) ?_
  simp only [Act.put, sa, sz, ss]
  refine rest_set (d := 5) (v := PT γs3 0) (w' := w12) rfl rfl rfl (rfl) ?_
  simp only [Act.put, sa, sz, ss]
  refine rest_nil (then_normal (wp_seq ?_))
  refine sq_start (l := [0, 1, 2, 3, 4, 5, 6, 7, 8, 9, 10, 11, 12, 13]) rfl ?_
  refine rest_set (d := 22) (v := PT γs3 0) (w' := w12) rfl rfl rfl (rfl) ?_
  simp only [Act.put, sa, sz, ss]
  refine rest_set (d := 23) (v := PT γs2 0) (w' := w12) rfl rfl rfl (by go_simp) ?_
  simp only [Act.put, sa, sz, ss]
  refine rest_set (d := 24) (v := c0) (w' := w12) rfl rfl rfl (ex_loadC H12.out.1 3 rfl rfl rfl Tryz.isAgg3 rfl) ?_
  simp only [Act.put, sa, sz, ss]
  refine rest_set (d := 25) (v := PT γs2 1) (w' := w12) rfl rfl rfl (by go_simp) ?_
  simp only [Act.put, sa, sz, ss]
  refine rest_set (d := 26) (v := c1) (w' := w12) rfl rfl rfl (ex_loadC H12.out.1 3 rfl rfl rfl Tryz.isAgg3 rfl) ?_
  simp only [Act.put, sa, sz, ss]
  refine rest_set (d := 27) (v := PT γs2 2) (w' := w12) rfl rfl rfl (by go_simp) ?_
  simp only [Act.put, sa, sz, ss]
  refine rest_set (d := 28) (v := .int .i64 k) (w' := w12) rfl rfl rfl (ex_loadC H12.out.1 3 rfl rfl rfl Tryz.isAgg3 rfl) ?_
  simp only [Act.put, sa, sz, ss]
  refine rest_enter (d := 29) (R := fun vv w' => vv = .tuple #[.agg ([Value.int .i64 0, Value.int .i64 0, Value.int .i64 0, Z8 0, Z8 0, Z8 0, Z8 0, Z8 0, Z8 0, Z8 0, Z8 0, Z8 0, Z8 0, Z8 0, Z8 0, Z8 0, Z8 0, Z8 0, Z8 0, Z8 0, Z8 0, Z8 0, Z8 0, Z8 0, Z8 0, Z8 0, Z8 0, Z8 0, Z8 0, Z8 0, Z8 0, Z8 0, Z8 0, Z8 0, Z8 0, Value.slice none 0 0]).toArray, .int .i64 1] ∧ Below w12.heap.size w12 w') rfl rfl rfl (exec_call (args := #[PT γs3 0, c0, c1, .int .i64 k]) rfl call5 rfl (mpn rfl)) (Calls.mono (bcert_z γs3 (c0) (c1) (.int .i64 k) w12 (H12.out.1.one 2 rfl)) (fun e w2 hh => ⟨_, hh.1, rfl, hh.2⟩)) ?_
  rintro _ w13 ⟨rfl, hb⟩
  have H13 : Hid (Mm w13 [(γs6, [Value.int .i64 0, Value.int .i64 0, Value.int .i64 0, Z8 0, Z8 0, Z8 0, Z8 0, Z8 0, Z8 0, Z8 0, Z8 0, Z8 0, Z8 0, Z8 0, Z8 0, Z8 0, Z8 0, Z8 0, Z8 0, Z8 0, Z8 0, Z8 0, Z8 0, Z8 0, Z8 0, Z8 0, Z8 0, Z8 0, Z8 0, Z8 0, Z8 0, Z8 0, Z8 0, Z8 0, Z8 0, Value.slice none 0 0]), (γs4, [Value.pointer none, PT γs3 0]), (γs3, [Value.slice none 0 0, Value.int .i64 0, Value.map none, Value.map none, Value.bool false, Value.bool false, Value.bool false, Value.bool false, Value.bool false, Value.bool false, Value.bool false, Value.bool false, Value.bool false, Value.bool false, Value.bool false, Value.bool false, Value.bool false]), (γs2, [c0, c1, Value.int .i64 k, c3, c4, c5, c6, c7, c8, c9, c10, c11, c12, c13, c14, c15, c16, c17, c18, c19, c20, c21, c22, c23, c24, c25, c26, c27, c28, c29, c30, c31, c32, c33, c34, c35, c36, c37, c38, c39, c40, c41, c42, c43, c44, c45, c46, c47, c48, c49, c50, c51, c52, c53, c54, c55, c56, c57, c58])] ∧ Below w.heap.size w w13) := ⟨H12.out.1.below hb, H12.out.2.trans (hb.mono H12.out.2.size)⟩
  clear hb
  clear H12
  simp only [Act.put, sa, sz, ss]
  refine rest_set (d := 21) (v := .tuple #[.agg ([Value.int .i64 0, Value.int .i64 0, Value.int .i64 0, Z8 0, Z8 0, Z8 0, Z8 0, Z8 0, Z8 0, Z8 0, Z8 0, Z8 0, Z8 0, Z8 0, Z8 0, Z8 0, Z8 0, Z8 0, Z8 0, Z8 0, Z8 0, Z8 0, Z8 0, Z8 0, Z8 0, Z8 0, Z8 0, Z8 0, Z8 0, Z8 0, Z8 0, Z8 0, Z8 0, Z8 0, Z8 0, Value.slice none 0 0]).toArray, .int .i64 1]) (w' := w13) rfl rfl rfl (rfl) ?_
  simp only [Act.put, sa, sz, ss]
  refine rest_set (d := 30) (v := .agg ([Value.int .i64 0, Value.int .i64 0, Value.int .i64 0, Z8 0, Z8 0, Z8 0, Z8 0, Z8 0, Z8 0, Z8 0, Z8 0, Z8 0, Z8 0, Z8 0, Z8 0, Z8 0, Z8 0, Z8 0, Z8 0, Z8 0, Z8 0, Z8 0, Z8 0, Z8 0, Z8 0, Z8 0, Z8 0, Z8 0, Z8 0, Z8 0, Z8 0, Z8 0, Z8 0, Z8 0, Z8 0, Value.slice none 0 0]).toArray) (w' := w13) rfl rfl rfl (by go_simp) ?_
  simp only [Act.put, sa, sz, ss]
  refine rest_set (d := 31) (v := .int .i64 1) (w' := w13) rfl rfl rfl (by go_simp) ?_
  simp only [Act.put, sa, sz, ss]
  refine rest_set (d := 6) (v := PT w13.heap.size 0) (w' := (w13.alloc (.cells ([Value.int .i64 0, Value.int .i64 0, Value.int .i64 0, Z8 0, Z8 0, Z8 0, Z8 0, Z8 0, Z8 0, Z8 0, Z8 0, Z8 0, Z8 0, Z8 0, Z8 0, Z8 0, Z8 0, Z8 0, Z8 0, Z8 0, Z8 0, Z8 0, Z8 0, Z8 0, Z8 0, Z8 0, Z8 0, Z8 0, Z8 0, Z8 0, Z8 0, Z8 0, Z8 0, Z8 0, Z8 0, Value.slice none 0 0] : List Value).toArray 46))) rfl rfl rfl (ex_mk46 rfl) ?_
  simp only [Act.put, sa, sz, ss]
  have o_γs14 : Hid (w.heap.size ≤ w13.heap.size) := H13.out.2.size
  have H14 : Hid (Mm (w13.alloc (.cells ([Value.int .i64 0, Value.int .i64 0, Value.int .i64 0, Z8 0, Z8 0, Z8 0, Z8 0, Z8 0, Z8 0, Z8 0, Z8 0, Z8 0, Z8 0, Z8 0, Z8 0, Z8 0, Z8 0, Z8 0, Z8 0, Z8 0, Z8 0, Z8 0, Z8 0, Z8 0, Z8 0, Z8 0, Z8 0, Z8 0, Z8 0, Z8 0, Z8 0, Z8 0, Z8 0, Z8 0, Z8 0, Value.slice none 0 0] : List Value).toArray 46)) ((w13.heap.size, [Value.int .i64 0, Value.int .i64 0, Value.int .i64 0, Z8 0, Z8 0, Z8 0, Z8 0, Z8 0, Z8 0, Z8 0, Z8 0, Z8 0, Z8 0, Z8 0, Z8 0, Z8 0, Z8 0, Z8 0, Z8 0, Z8 0, Z8 0, Z8 0, Z8 0, Z8 0, Z8 0, Z8 0, Z8 0, Z8 0, Z8 0, Z8 0, Z8 0, Z8 0, Z8 0, Z8 0, Z8 0, Value.slice none 0 0]) :: [(γs6, [Value.int .i64 0, Value.int .i64 0, Value.int .i64 0, Z8 0, Z8 0, Z8 0, Z8 0, Z8 0, Z8 0, Z8 0, Z8 0, Z8 0, Z8 0, Z8 0, Z8 0, Z8 0, Z8 0, Z8 0, Z8 0, Z8 0, Z8 0, Z8 0, Z8 0, Z8 0, Z8 0, Z8 0, Z8 0, Z8 0, Z8 0, Z8 0, Z8 0, Z8 0, Z8 0, Z8 0, Z8 0, Value.slice none 0 0]), (γs4, [Value.pointer none, PT γs3 0]), (γs3, [Value.slice none 0 0, Value.int .i64 0, Value.map none, Value.map none, Value.bool false, Value.bool false, Value.bool false, Value.bool false, Value.bool false, Value.bool false, Value.bool false, Value.bool false, Value.bool false, Value.bool false, Value.bool false, Value.bool false, Value.bool false]), (γs2, [c0, c1, Value.int .i64 k, c3, c4, c5, c6, c7, c8, c9, c10, c11, c12, c13, c14, c15, c16, c17, c18, c19, c20, c21, c22, c23, c24, c25, c26, c27, c28, c29, c30, c31, c32, c33, c34, c35, c36, c37, c38, c39, c40, c41, c42, c43, c44, c45, c46, c47, c48, c49, c50, c51, c52, c53, c54, c55, c56, c57, c58])]) ∧ Below w.heap.size w (w13.alloc (.cells ([Value.int .i64 0, Value.int .i64 0, Value.int .i64 0, Z8 0, Z8 0, Z8 0, Z8 0, Z8 0, Z8 0, Z8 0, Z8 0, Z8 0, Z8 0, Z8 0, Z8 0, Z8 0, Z8 0, Z8 0, Z8 0, Z8 0, Z8 0, Z8 0, Z8 0, Z8 0, Z8 0, Z8 0, Z8 0, Z8 0, Z8 0, Z8 0, Z8 0, Z8 0, Z8 0, Z8 0, Z8 0, Value.slice none 0 0] : List Value).toArray 46))) := ⟨H13.out.1.alloc _ 46 rfl, H13.out.2.trans (((Below.refl _ _).alloc (Nat.le_refl _) _).mono H13.out.2.size)⟩
  clear H13
  generalize hgw : w13.alloc (.cells ([Value.int .i64 0, Value.int .i64 0, Value.int .i64 0, Z8 0, Z8 0, Z8 0, Z8 0, Z8 0, Z8 0, Z8 0, Z8 0, Z8 0, Z8 0, Z8 0, Z8 0, Z8 0, Z8 0, Z8 0, Z8 0, Z8 0, Z8 0, Z8 0, Z8 0, Z8 0, Z8 0, Z8 0, Z8 0, Z8 0, Z8 0, Z8 0, Z8 0, Z8 0, Z8 0, Z8 0, Z8 0, Value.slice none 0 0] : List Value).toArray 46) = w14 at H14 ⊢
  clear hgw
  generalize w13.heap.size = γs14 at o_γs14 H14 ⊢
  refine rest_store rfl rfl rfl (ex_storeT (vs := [Value.int .i64 0, Value.int .i64 0, Value.int .i64 0, Z8 0, Z8 0, Z8 0, Z8 0, Z8 0, Z8 0, Z8 0, Z8 0, Z8 0, Z8 0, Z8 0, Z8 0, Z8 0, Z8 0, Z8 0, Z8 0, Z8 0, Z8 0, Z8 0, Z8 0, Z8 0, Z8 0, Z8 0, Z8 0, Z8 0, Z8 0, Z8 0, Z8 0, Z8 0, Z8 0, Z8 0, Z8 0, Value.slice none 0 0]) H14.out.1 0 rfl rfl rfl rfl Tryz.sizeOf46 rfl (Nat.le_of_ble_eq_true rfl)) ?_
  have H15 : Hid (Mm (w14.setCells γs14 0 [Value.int .i64 0, Value.int .i64 0, Value.int .i64 0, Z8 0, Z8 0, Z8 0, Z8 0, Z8 0, Z8 0, Z8 0, Z8 0, Z8 0, Z8 0, Z8 0, Z8 0, Z8 0, Z8 0, Z8 0, Z8 0, Z8 0, Z8 0, Z8 0, Z8 0, Z8 0, Z8 0, Z8 0, Z8 0, Z8 0, Z8 0, Z8 0, Z8 0, Z8 0, Z8 0, Z8 0, Z8 0, Value.slice none 0 0]) [(γs14, [Value.int .i64 0, Value.int .i64 0, Value.int .i64 0, Z8 0, Z8 0, Z8 0, Z8 0, Z8 0, Z8 0, Z8 0, Z8 0, Z8 0, Z8 0, Z8 0, Z8 0, Z8 0, Z8 0, Z8 0, Z8 0, Z8 0, Z8 0, Z8 0, Z8 0, Z8 0, Z8 0, Z8 0, Z8 0, Z8 0, Z8 0, Z8 0, Z8 0, Z8 0, Z8 0, Z8 0, Z8 0, Value.slice none 0 0]), (γs6, [Value.int .i64 0, Value.int .i64 0, Value.int .i64 0, Z8 0, Z8 0, Z8 0, Z8 0, Z8 0, Z8 0, Z8 0, Z8 0, Z8 0, Z8 0, Z8 0, Z8 0, Z8 0, Z8 0, Z8 0, Z8 0, Z8 0, Z8 0, Z8 0, Z8 0, Z8 0, Z8 0, Z8 0, Z8 0, Z8 0, Z8 0, Z8 0, Z8 0, Z8 0, Z8 0, Z8 0, Z8 0, Value.slice none 0 0]), (γs4, [Value.pointer none, PT γs3 0]), (γs3, [Value.slice none 0 0, Value.int .i64 0, Value.map none, Value.map none, Value.bool false, Value.bool false, Value.bool false, Value.bool false, Value.bool false, Value.bool false, Value.bool false, Value.bool false, Value.bool false, Value.bool false, Value.bool false, Value.bool false, Value.bool false]), (γs2, [c0, c1, Value.int .i64 k, c3, c4, c5, c6, c7, c8, c9, c10, c11, c12, c13, c14, c15, c16, c17, c18, c19, c20, c21, c22, c23, c24, c25, c26, c27, c28, c29, c30, c31, c32, c33, c34, c35, c36, c37, c38, c39, c40, c41, c42, c43, c44, c45, c46, c47, c48, c49, c50, c51, c52, c53, c54, c55, c56, c57, c58])] ∧ Below w.heap.size w (w14.setCells γs14 0 [Value.int .i64 0, Value.int .i64 0, Value.int .i64 0, Z8 0, Z8 0, Z8 0, Z8 0, Z8 0, Z8 0, Z8 0, Z8 0, Z8 0, Z8 0, Z8 0, Z8 0, Z8 0, Z8 0, Z8 0, Z8 0, Z8 0, Z8 0, Z8 0, Z8 0, Z8 0, Z8 0, Z8 0, Z8 0, Z8 0, Z8 0, Z8 0, Z8 0, Z8 0, Z8 0, Z8 0, Z8 0, Value.slice none 0 0])) := ⟨H14.out.1.put 0 (off := 0) (vs := [Value.int .i64 0, Value.int .i64 0, Value.int .i64 0, Z8 0, Z8 0, Z8 0, Z8 0, Z8 0, Z8 0, Z8 0, Z8 0, Z8 0, Z8 0, Z8 0, Z8 0, Z8 0, Z8 0, Z8 0, Z8 0, Z8 0, Z8 0, Z8 0, Z8 0, Z8 0, Z8 0, Z8 0, Z8 0, Z8 0, Z8 0, Z8 0, Z8 0, Z8 0, Z8 0, Z8 0, Z8 0, Value.slice none 0 0]) rfl (Nat.le_of_ble_eq_true rfl), below_setCells _ o_γs14.out _ _ _ H14.out.2⟩
  clear H14
  generalize hgw : World.setCells _ _ _ _ = w15 at H15 ⊢
  clear hgw
  refine rest_set (d := 7) (v := .int .i64 1) (w' := w15) rfl rfl rfl (rfl) ?_
  simp only [Act.put, sa, sz, ss]
  refine rest_nil (then_normal (wp_seq ?_))
  refine sq_start (l := [0, 1, 2, 3, 4, 5, 6, 7, 8, 9, 10, 11, 12, 13, 14, 15, 16, 17, 18, 19, 20, 21, 22, 23, 24, 25, 26, 27, 28, 29, 30, 31, 32, 33, 34, 35, 36, 37, 38, 39, 40, 41, 42, 43, 44]) rfl ?_
  refine rest_set (d := 32) (v := PT γs3 0) (w' := w15) rfl rfl rfl (rfl) ?_
  simp only [Act.put, sa, sz, ss]
  refine rest_set (d := 33) (v := .agg ([c0, c1, Value.int .i64 k, c3, c4, c5, c6, c7, c8, c9, c10, c11, c12, c13, c14, c15, c16, c17, c18, c19, c20, c21, c22, c23, c24, c25, c26, c27, c28, c29, c30, c31, c32, c33, c34, c35, c36, c37, c38, c39, c40, c41, c42, c43, c44, c45, c46, c47, c48, c49, c50, c51, c52, c53, c54, c55, c56, c57, c58]).toArray) (w' := w15) rfl rfl rfl (ex_loadT H15.out.1 4 rfl rfl rfl Tryz.isAgg35 Tryz.sizeOf35 rfl rfl) ?_
  simp only [Act.put, sa, sz, ss]
  refine rest_enter (d := 34) (R := fun vv w' => vv = .int .i64 1 ∧ Below w15.heap.size w15 w') rfl rfl rfl (exec_call (args := #[PT γs3 0, .agg ([c0, c1, Value.int .i64 k, c3, c4, c5, c6, c7, c8, c9, c10, c11, c12, c13, c14, c15, c16, c17, c18, c19, c20, c21, c22, c23, c24, c25, c26, c27, c28, c29, c30, c31, c32, c33, c34, c35, c36, c37, c38, c39, c40, c41, c42, c43, c44, c45, c46, c47, c48, c49, c50, c51, c52, c53, c54, c55, c56, c57, c58]).toArray]) rfl call6 rfl (mpn rfl)) (Calls.mono (badd_y γs3 (([c0, c1, Value.int .i64 k, c3, c4, c5, c6, c7, c8, c9, c10, c11, c12, c13, c14, c15, c16, c17, c18, c19, c20, c21, c22, c23, c24, c25, c26, c27, c28, c29, c30, c31, c32, c33, c34, c35, c36, c37, c38, c39, c40, c41, c42, c43, c44, c45, c46, c47, c48, c49, c50, c51, c52, c53, c54, c55, c56, c57, c58]).toArray) w15 (H15.out.1.one 3 rfl)) (fun e w2 hh => ⟨_, hh.1, rfl, hh.2⟩)) ?_
  rintro _ w16 ⟨rfl, hb⟩
  have H16 : Hid (Mm w16 [(γs14, [Value.int .i64 0, Value.int .i64 0, Value.int .i64 0, Z8 0, Z8 0, Z8 0, Z8 0, Z8 0, Z8 0, Z8 0, Z8 0, Z8 0, Z8 0, Z8 0, Z8 0, Z8 0, Z8 0, Z8 0, Z8 0, Z8 0, Z8 0, Z8 0, Z8 0, Z8 0, Z8 0, Z8 0, Z8 0, Z8 0, Z8 0, Z8 0, Z8 0, Z8 0, Z8 0, Z8 0, Z8 0, Value.slice none 0 0]), (γs6, [Value.int .i64 0, Value.int .i64 0, Value.int .i64 0, Z8 0, Z8 0, Z8 0, Z8 0, Z8 0, Z8 0, Z8 0, Z8 0, Z8 0, Z8 0, Z8 0, Z8 0, Z8 0, Z8 0, Z8 0, Z8 0, Z8 0, Z8 0, Z8 0, Z8 0, Z8 0, Z8 0, Z8 0, Z8 0, Z8 0, Z8 0, Z8 0, Z8 0, Z8 0, Z8 0, Z8 0, Z8 0, Value.slice none 0 0]), (γs4, [Value.pointer none, PT γs3 0]), (γs3, [Value.slice none 0 0, Value.int .i64 0, Value.map none, Value.map none, Value.bool false, Value.bool false, Value.bool false, Value.bool false, Value.bool false, Value.bool false, Value.bool false, Value.bool false, Value.bool false, Value.bool false, Value.bool false, Value.bool false, Value.bool false]), (γs2, [c0, c1, Value.int .i64 k, c3, c4, c5, c6, c7, c8, c9, c10, c11, c12, c13, c14, c15, c16, c17, c18, c19, c20, c21, c22, c23, c24, c25, c26, c27, c28, c29, c30, c31, c32, c33, c34, c35, c36, c37, c38, c39, c40, c41, c42, c43, c44, c45, c46, c47, c48, c49, c50, c51, c52, c53, c54, c55, c56, c57, c58])] ∧ Below w.heap.size w w16) := ⟨H15.out.1.below hb, H15.out.2.trans (hb.mono H15.out.2.size)⟩
  clear hb
  clear H15
  simp only [Act.put, sa, sz, ss]
  refine rest_set (d := 35) (v := .bool false) (w' := w16) rfl rfl rfl (by kernel_rfl) ?_
  simp only [Act.put, sa, sz, ss]
  refine rest_set (d := 36) (v := .bool false) (w' := w16) rfl rfl rfl (rfl) ?_
  simp only [Act.put, sa, sz, ss]
  refine rest_set (d := 37) (v := .int .i64 1) (w' := w16) rfl rfl rfl (rfl) ?_
  simp only [Act.put, sa, sz, ss]
  refine rest_set (d := 38) (v := .bool false) (w' := w16) rfl rfl rfl (by kernel_rfl) ?_
  simp only [Act.put, sa, sz, ss]
  refine rest_set (d := 39) (v := .bool false) (w' := w16) rfl rfl rfl (by go_simp) ?_
  simp only [Act.put, sa, sz, ss]
  refine rest_set (d := 40) (v := .bool false) (w' := w16) rfl rfl rfl (rfl) ?_
  simp only [Act.put, sa, sz, ss]
  refine rest_set (d := 41) (v := PT γs14 35) (w' := w16) rfl rfl rfl (by go_simp) ?_
  simp only [Act.put, sa, sz, ss]
  refine rest_set (d := 42) (v := .slice none 0 0) (w' := w16) rfl rfl rfl (ex_loadC H16.out.1 0 rfl rfl rfl Tryz.isAgg44 rfl) ?_
  simp only [Act.put, sa, sz, ss]
  refine rest_set (d := 43) (v := .int .i64 0) (w' := w16) rfl rfl rfl (by go_simp) ?_
  simp only [Act.put, sa, sz, ss]
  refine rest_set (d := 44) (v := .bool false) (w' := w16) rfl rfl rfl (by kernel_rfl) ?_
  simp only [Act.put, sa, sz, ss]
  refine rest_set (d := 45) (v := .bool false) (w' := w16) rfl rfl rfl (by go_simp) ?_
  simp only [Act.put, sa, sz, ss]
  refine rest_set (d := 46) (v := .bool false) (w' := w16) rfl rfl rfl (rfl) ?_
  simp only [Act.put, sa, sz, ss]
  refine rest_set (d := 47) (v := PT γs3 0) (w' := w16) rfl rfl rfl (rfl) ?_
  simp only [Act.put, sa, sz, ss]
  refine rest_set (d := 48) (v := PT γs2 0) (w' := w16) rfl rfl rfl (by go_simp) ?_
  simp only [Act.put, sa, sz, ss]
  refine rest_set (d := 49) (v := c0) (w' := w16) rfl rfl rfl (ex_loadC H16.out.1 4 rfl rfl rfl Tryz.isAgg3 rfl) ?_
  simp only [Act.put, sa, sz, ss]
  refine rest_set (d := 50) (v := PT γs2 1) (w' := w16) rfl rfl rfl (by go_simp) ?_
  simp only [Act.put, sa, sz, ss]
  refine rest_set (d := 51) (v := c1) (w' := w16) rfl rfl rfl (ex_loadC H16.out.1 4 rfl rfl rfl Tryz.isAgg3 rfl) ?_
  simp only [Act.put, sa, sz, ss]
  refine rest_set (d := 52) (v := PT γs2 2) (w' := w16) rfl rfl rfl (by go_simp) ?_
  simp only [Act.put, sa, sz, ss]
  refine rest_set (d := 53) (v := .int .i64 k) (w' := w16) rfl rfl rfl (ex_loadC H16.out.1 4 rfl rfl rfl Tryz.isAgg3 rfl) ?_
  simp only [Act.put, sa, sz, ss]
  refine rest_set (d := 54) (v := PT γs2 3) (w' := w16) rfl rfl rfl (by go_simp) ?_
  simp only [Act.put, sa, sz, ss]
  refine rest_set (d := 55) (v := .agg ([c3, c4, c5, c6, c7, c8, c9, c10, c11, c12, c13, c14, c15, c16, c17, c18, c19, c20, c21, c22, c23, c24, c25, c26, c27, c28, c29, c30, c31, c32, c33, c34]).toArray) (w' := w16) rfl rfl rfl (ex_loadT H16.out.1 4 rfl rfl rfl Tryz.isAgg23 Tryz.sizeOf23 rfl rfl) ?_
  simp only [Act.put, sa, sz, ss]
  refine rest_enter (d := 56) (R := fun vv w' => vv = .int .i64 0 ∧ Below w16.heap.size w16 w') rfl rfl rfl (exec_call (args := #[PT γs3 0, c0, c1, .int .i64 k, .agg ([c3, c4, c5, c6, c7, c8, c9, c10, c11, c12, c13, c14, c15, c16, c17, c18, c19, c20, c21, c22, c23, c24, c25, c26, c27, c28, c29, c30, c31, c32, c33, c34]).toArray]) rfl call7 rfl (mpn rfl)) (Calls.mono (bcount_y γs3 (c0) (c1) (.int .i64 k) (([c3, c4, c5, c6, c7, c8, c9, c10, c11, c12, c13, c14, c15, c16, c17, c18, c19, c20, c21, c22, c23, c24, c25, c26, c27, c28, c29, c30, c31, c32, c33, c34]).toArray) w16 (H16.out.1.one 3 rfl)) (fun e w2 hh => ⟨_, hh.1, rfl, hh.2⟩)) ?_
  rintro _ w17 ⟨rfl, hb⟩
  have H17 : Hid (Mm w17 [(γs14, [Value.int .i64 0, Value.int .i64 0, Value.int .i64 0, Z8 0, Z8 0, Z8 0, Z8 0, Z8 0, Z8 0, Z8 0, Z8 0, Z8 0, Z8 0, Z8 0, Z8 0, Z8 0, Z8 0, Z8 0, Z8 0, Z8 0, Z8 0, Z8 0, Z8 0, Z8 0, Z8 0, Z8 0, Z8 0, Z8 0, Z8 0, Z8 0, Z8 0, Z8 0, Z8 0, Z8 0, Z8 0, Value.slice none 0 0]), (γs6, [Value.int .i64 0, Value.int .i64 0, Value.int .i64 0, Z8 0, Z8 0, Z8 0, Z8 0, Z8 0, Z8 0, Z8 0, Z8 0, Z8 0, Z8 0, Z8 0, Z8 0, Z8 0, Z8 0, Z8 0, Z8 0, Z8 0, Z8 0, Z8 0, Z8 0, Z8 0, Z8 0, Z8 0, Z8 0, Z8 0, Z8 0, Z8 0, Z8 0, Z8 0, Z8 0, Z8 0, Z8 0, Value.slice none 0 0]), (γs4, [Value.pointer none, PT γs3 0]), (γs3, [Value.slice none 0 0, Value.int .i64 0, Value.map none, Value.map none, Value.bool false, Value.bool false, Value.bool false, Value.bool false, Value.bool false, Value.bool false, Value.bool false, Value.bool false, Value.bool false, Value.bool false, Value.bool false, Value.bool false, Value.bool false]), (γs2, [c0, c1, Value.int .i64 k, c3, c4, c5, c6, c7, c8, c9, c10, c11, c12, c13, c14, c15, c16, c17, c18, c19, c20, c21, c22, c23, c24, c25, c26, c27, c28, c29, c30, c31, c32, c33, c34, c35, c36, c37, c38, c39, c40, c41, c42, c43, c44, c45, c46, c47, c48, c49, c50, c51, c52, c53, c54, c55, c56, c57, c58])] ∧ Below w.heap.size w w17) := ⟨H16.out.1.below hb, H16.out.2.trans (hb.mono H16.out.2.size)⟩
  clear hb
  clear H16
  simp only [Act.put, sa, sz, ss]
  refine rest_set (d := 57) (v := .bool false) (w' := w17) rfl rfl rfl (by kernel_rfl) ?_
  simp only [Act.put, sa, sz, ss]
  refine rest_set (d := 58) (v := .bool false) (w' := w17) rfl rfl rfl (by go_simp) ?_
  simp only [Act.put, sa, sz, ss]
  refine rest_set (d := 59) (v := .bool false) (w' := w17) rfl rfl rfl (rfl) ?_
  simp only [Act.put, sa, sz, ss]
  refine rest_set (d := 60) (v := PT γs3 0) (w' := w17) rfl rfl rfl (rfl) ?_
  simp only [Act.put, sa, sz, ss]
  refine rest_enter (d := 61) (R := fun vv w' => vv = .slice none 0 0 ∧ Below w17.heap.size w17 w') rfl rfl rfl (exec_call (args := #[PT γs3 0]) rfl call8 rfl (mpn rfl)) (Calls.mono (bdoub_y γs3  w17 (H17.out.1.one 3 rfl)) (fun e w2 hh => ⟨_, hh.1, rfl, hh.2⟩)) ?_
  rintro _ w18 ⟨rfl, hb⟩
  have H18 : Hid (Mm w18 [(γs14, [Value.int .i64 0, Value.int .i64 0, Value.int .i64 0, Z8 0, Z8 0, Z8 0, Z8 0, Z8 0, Z8 0, Z8 0, Z8 0, Z8 0, Z8 0, Z8 0, Z8 0, Z8 0, Z8 0, Z8 0, Z8 0, Z8 0, Z8 0, Z8 0, Z8 0, Z8 0, Z8 0, Z8 0, Z8 0, Z8 0, Z8 0, Z8 0, Z8 0, Z8 0, Z8 0, Z8 0, Z8 0, Value.slice none 0 0]), (γs6, [Value.int .i64 0, Value.int .i64 0, Value.int .i64 0, Z8 0, Z8 0, Z8 0, Z8 0, Z8 0, Z8 0, Z8 0, Z8 0, Z8 0, Z8 0, Z8 0, Z8 0, Z8 0, Z8 0, Z8 0, Z8 0, Z8 0, Z8 0, Z8 0, Z8 0, Z8 0, Z8 0, Z8 0, Z8 0, Z8 0, Z8 0, Z8 0, Z8 0, Z8 0, Z8 0, Z8 0, Z8 0, Value.slice none 0 0]), (γs4, [Value.pointer none, PT γs3 0]), (γs3, [Value.slice none 0 0, Value.int .i64 0, Value.map none, Value.map none, Value.bool false, Value.bool false, Value.bool false, Value.bool false, Value.bool false, Value.bool false, Value.bool false, Value.bool false, Value.bool false, Value.bool false, Value.bool false, Value.bool false, Value.bool false]), (γs2, [c0, c1, Value.int .i64 k, c3, c4, c5, c6, c7, c8, c9, c10, c11, c12, c13, c14, c15, c16, c17, c18, c19, c20, c21, c22, c23, c24, c25, c26, c27, c28, c29, c30, c31, c32, c33, c34, c35, c36, c37, c38, c39, c40, c41, c42, c43, c44, c45, c46, c47, c48, c49, c50, c51, c52, c53, c54, c55, c56, c57, c58])] ∧ Below w.heap.size w w18) := ⟨H17.out.1.below hb, H17.out.2.trans (hb.mono H17.out.2.size)⟩
  clear hb
  clear H17
  simp only [Act.put, sa, sz, ss]
  refine rest_set (d := 62) (v := .int .i64 0) (w' := w18) rfl rfl rfl (by go_simp) ?_
  simp only [Act.put, sa, sz, ss]
  refine rest_set (d := 63) (v := .bool false) (w' := w18) rfl rfl rfl (by kernel_rfl) ?_
  simp only [Act.put, sa, sz, ss]
  refine rest_set (d := 64) (v := .bool false) (w' := w18) rfl rfl rfl (by go_simp) ?_
  simp only [Act.put, sa, sz, ss]
  refine rest_set (d := 65) (v := .bool false) (w' := w18) rfl rfl rfl (rfl) ?_
  simp only [Act.put, sa, sz, ss]
  refine rest_set (d := 66) (v := PT γs3 0) (w' := w18) rfl rfl rfl (rfl) ?_
  simp only [Act.put, sa, sz, ss]
  refine rest_set (d := 67) (v := PT γs2 2) (w' := w18) rfl rfl rfl (by go_simp) ?_
  simp only [Act.put, sa, sz, ss]
  refine rest_set (d := 68) (v := .int .i64 k) (w' := w18) rfl rfl rfl (ex_loadC H18.out.1 4 rfl rfl rfl Tryz.isAgg3 rfl) ?_
  simp only [Act.put, sa, sz, ss]
  refine rest_enter (d := 69) (R := fun vv w' => vv = .int .i64 0 ∧ Below w18.heap.size w18 w') rfl rfl rfl (exec_call (args := #[PT γs3 0, .int .i64 k]) rfl call9 rfl (mpn rfl)) (Calls.mono (bdrop_y γs3 (k) w18 (H18.out.1.one 3 rfl)) (fun e w2 hh => ⟨_, hh.1, rfl, hh.2⟩)) ?_
  rintro _ w19 ⟨rfl, hb⟩
  have H19 : Hid (Mm w19 [(γs14, [Value.int .i64 0, Value.int .i64 0, Value.int .i64 0, Z8 0, Z8 0, Z8 0, Z8 0, Z8 0, Z8 0, Z8 0, Z8 0, Z8 0, Z8 0, Z8 0, Z8 0, Z8 0, Z8 0, Z8 0, Z8 0, Z8 0, Z8 0, Z8 0, Z8 0, Z8 0, Z8 0, Z8 0, Z8 0, Z8 0, Z8 0, Z8 0, Z8 0, Z8 0, Z8 0, Z8 0, Z8 0, Value.slice none 0 0]), (γs6, [Value.int .i64 0, Value.int .i64 0, Value.int .i64 0, Z8 0, Z8 0, Z8 0, Z8 0, Z8 0, Z8 0, Z8 0, Z8 0, Z8 0, Z8 0, Z8 0, Z8 0, Z8 0, Z8 0, Z8 0, Z8 0, Z8 0, Z8 0, Z8 0, Z8 0, Z8 0, Z8 0, Z8 0, Z8 0, Z8 0, Z8 0, Z8 0, Z8 0, Z8 0, Z8 0, Z8 0, Z8 0, Value.slice none 0 0]), (γs4, [Value.pointer none, PT γs3 0]), (γs3, [Value.slice none 0 0, Value.int .i64 0, Value.map none, Value.map none, Value.bool false, Value.bool false, Value.bool false, Value.bool false, Value.bool false, Value.bool false, Value.bool false, Value.bool false, Value.bool false, Value.bool false, Value.bool false, Value.bool false, Value.bool false]), (γs2, [c0, c1, Value.int .i64 k, c3, c4, c5, c6, c7, c8, c9, c10, c11, c12, c13, c14, c15, c16, c17, c18, c19, c20, c21, c22, c23, c24, c25, c26, c27, c28, c29, c30, c31, c32, c33, c34, c35, c36, c37, c38, c39, c40, c41, c42, c43, c44, c45, c46, c47, c48, c49, c50, c51, c52, c53, c54, c55, c56, c57, c58])] ∧ Below w.heap.size w w19) := ⟨H18.out.1.below hb, H18.out.2.trans (hb.mono H18.out.2.size)⟩
  clear hb
  clear H18
  simp only [Act.put, sa, sz, ss]
  refine rest_set (d := 70) (v := .bool false) (w' := w19) rfl rfl rfl (by kernel_rfl) ?_
  simp only [Act.put, sa, sz, ss]
  refine rest_set (d := 71) (v := .bool false) (w' := w19) rfl rfl rfl (by go_simp) ?_
  simp only [Act.put, sa, sz, ss]
  refine rest_set (d := 72) (v := .bool false) (w' := w19) rfl rfl rfl (rfl) ?_
  simp only [Act.put, sa, sz, ss]
  refine rest_set (d := 73) (v := PT γs3 0) (w' := w19) rfl rfl rfl (rfl) ?_
  simp only [Act.put, sa, sz, ss]
  refine rest_enter (d := 74) (R := fun vv w' => vv = .int .i64 0 ∧ Below w19.heap.size w19 w') rfl rfl rfl (exec_call (args := #[PT γs3 0]) rfl call10 rfl (mpn rfl)) (Calls.mono (blen_y γs3  w19 (H19.out.1.one 3 rfl)) (fun e w2 hh => ⟨_, hh.1, rfl, hh.2⟩)) ?_
  rintro _ w20 ⟨rfl, hb⟩
  have H20 : Hid (Mm w20 [(γs14, [Value.int .i64 0, Value.int .i64 0, Value.int .i64 0, Z8 0, Z8 0, Z8 0, Z8 0, Z8 0, Z8 0, Z8 0, Z8 0, Z8 0, Z8 0, Z8 0, Z8 0, Z8 0, Z8 0, Z8 0, Z8 0, Z8 0, Z8 0, Z8 0, Z8 0, Z8 0, Z8 0, Z8 0, Z8 0, Z8 0, Z8 0, Z8 0, Z8 0, Z8 0, Z8 0, Z8 0, Z8 0, Value.slice none 0 0]), (γs6, [Value.int .i64 0, Value.int .i64 0, Value.int .i64 0, Z8 0, Z8 0, Z8 0, Z8 0, Z8 0, Z8 0, Z8 0, Z8 0, Z8 0, Z8 0, Z8 0, Z8 0, Z8 0, Z8 0, Z8 0, Z8 0, Z8 0, Z8 0, Z8 0, Z8 0, Z8 0, Z8 0, Z8 0, Z8 0, Z8 0, Z8 0, Z8 0, Z8 0, Z8 0, Z8 0, Z8 0, Z8 0, Value.slice none 0 0]), (γs4, [Value.pointer none, PT γs3 0]), (γs3, [Value.slice none 0 0, Value.int .i64 0, Value.map none, Value.map none, Value.bool false, Value.bool false, Value.bool false, Value.bool false, Value.bool false, Value.bool false, Value.bool false, Value.bool false, Value.bool false, Value.bool false, Value.bool false, Value.bool false, Value.bool false]), (γs2, [c0, c1, Value.int .i64 k, c3, c4, c5, c6, c7, c8, c9, c10, c11, c12, c13, c14, c15, c16, c17, c18, c19, c20, c21, c22, c23, c24, c25, c26, c27, c28, c29, c30, c31, c32, c33, c34, c35, c36, c37, c38, c39, c40, c41, c42, c43, c44, c45, c46, c47, c48, c49, c50, c51, c52, c53, c54, c55, c56, c57, c58])] ∧ Below w.heap.size w w20) := ⟨H19.out.1.below hb, H19.out.2.trans (hb.mono H19.out.2.size)⟩
  clear hb
  clear H19
  simp only [Act.put, sa, sz, ss]
  refine rest_set (d := 75) (v := .bool false) (w' := w20) rfl rfl rfl (by kernel_rfl) ?_
  simp only [Act.put, sa, sz, ss]
  refine rest_set (d := 76) (v := .bool false) (w' := w20) rfl rfl rfl (by go_simp) ?_
  simp only [Act.put, sa, sz, ss]
  refine rest_nil (then_normal ?_)
  refine wp_cond_false rfl (wp_skip ?_)
  refine block_normal (then_normal ?_)
  refine sq_start (l := [0, 1, 2]) rfl ?_
  refine rest_set (d := 15) (v := .int .i64 1) (w' := w20) rfl rfl rfl (rfl) ?_
  simp only [Act.put, sa, sz, ss]
  refine rest_set (d := 16) (v := .int .i64 2) (w' := w20) rfl rfl rfl (by kernel_rfl) ?_
  simp only [Act.put, sa, sz, ss]
  refine rest_set (d := 4) (v := .int .i64 2) (w' := w20) rfl rfl rfl (rfl) ?_
  simp only [Act.put, sa, sz, ss]
  refine rest_nil (then_normal ?_)
  refine rounds_in (n := 0) ?_
  refine wp_seq (wp_seq ?_)
  refine sq_start (l := [0, 1, 2, 3]) rfl ?_
  refine rest_set (d := 11) (v := .int .i64 2) (w' := w20) rfl rfl rfl (rfl) ?_
  simp only [Act.put, sa, sz, ss]
  refine rest_set (d := 12) (v := .slice (some ⟨γs4, 0, none⟩) 2 2) (w' := w20) rfl rfl rfl (rfl) ?_
  simp only [Act.put, sa, sz, ss]
  refine rest_set (d := 13) (v := .int .i64 2) (w' := w20) rfl rfl rfl (by go_simp) ?_
  simp only [Act.put, sa, sz, ss]
  refine rest_set (d := 14) (v := .bool false) (w' := w20) rfl rfl rfl (by kernel_rfl) ?_
  simp only [Act.put, sa, sz, ss]
  refine rest_nil (then_normal (wp_cond_false rfl ?_))
  refine wp_exit ?_
  repeat refine then_exit ?_
  refine block_exit ?_
  refine then_normal (wp_seq ?_)
  refine sq_start (l := [0]) rfl ?_
  refine rest_set (d := 2) (v := .bool true) (w' := w20) rfl rfl rfl (rfl) ?_
  simp only [Act.put, sa, sz, ss]
  refine rest_nil (then_normal (wp_ret ?_))
  repeat (first | refine then_ret ?_ | refine block_ret ?_)
  refine bodyPost_ret (v := .bool true) (by simp [results, Tryz.results3, go_sem, *]) rfl ?_
  exact ⟨rfl, H20.out.2⟩
end Wi
end Rg
end Go.Proofs.YtjadelfdhhjkdaaGreatDoor
end
