/- Texts of the proof, joined. -/
import Derived.Test.YtidicdlfjdlpnaaP3
import Derived.Laws.Shifts
import Derived.Laws.Bits64b
import Derived.Laws.Unary
section
namespace Go.Proofs.Ytidicdlfjdlpnaa
open Go.RowKit
namespace Rg
namespace Wi
theorem call75 : ∀ args w, (callFunc 75 args).run Try.prog w = .ok (.enter 75 args) w := by intro args w; go_simp
set_option maxRecDepth 100000
theorem ex_lkp {ρ : Operand → Value} {o : Oper} {x y : Operand} {t : TypeId} {c : Bool} {a k v : Value} {w : World} (hr : (Instr.lookup t a k c).run Try.prog w = .ok v w) (ho : o.op = .lookup t x y c) (hx : ρ x = a) (hy : ρ y = k) : (execOp ρ o).run Try.prog w = .ok (.value v) w := by
  simp only [execOp, ho, hx, hy, Sem.run_bind, hr, Result.andThen_ok, Sem.run_pure]
theorem ex_mk100 {ρ : Operand → Value} {o : Oper} {w : World} (ho : o.op = .alloc 100) : (execOp ρ o).run Try.prog w = .ok (.value (.pointer (some ⟨w.heap.size, 0, none⟩))) (w.alloc (.cells ([] : List Value).toArray 100)) := by
  simp only [execOp, ho]
  kernel_rfl
set_option maxHeartbeats 2000000 in
set_option maxRecDepth 100000 in
theorem made_ok (d mb rb : Nat) (k : Int) (w : World) (hm : Mm w [(d, [Value.map (some mb), Value.map (some rb), Value.int .i64 k])]) :
    Calls Try.prog 75 #[PT d 0] w fun e w' => e = .returned (.bool true) ∧ Below w.heap.size w w' := by
  have H0 : Hid (_ ∧ _) := ⟨hm, Below.refl w.heap.size w⟩
  clear hm
  go_enter Try.func75, Try.ntmps75
  refine wp_seq ?_
  refine sq_startW (l := [0]) rfl (fun u0 hu0 => ?_)
  have H1 : Hid (Mm u0 [(d, [Value.map (some mb), Value.map (some rb), Value.int .i64 k])] ∧ Below w.heap.size w u0) := by rw [hu0]; exact H0
  clear hu0 H0
  refine rest_set (d := 2) (v := .bool false) (w' := u0) rfl rfl rfl (rfl) ?_
  simp only [Act.put, sa, sz, ss]
  refine rest_nil (then_normal (wp_seq ?_))
  refine sq_start (l := [0, 1, 2, 3, 4, 5, 6, 7, 8, 9]) rfl ?_
  refine rest_set (d := 3) (v := PT d 0) (w' := u0) rfl rfl rfl (rfl) ?_
  simp only [Act.put, sa, sz, ss]
  refine rest_set (d := 4) (v := .bool true) (w' := u0) rfl rfl rfl (by go_simp) ?_
  simp only [Act.put, sa, sz, ss]
  refine rest_set (d := 5) (v := .bool true) (w' := u0) rfl rfl rfl (rfl) ?_
  simp only [Act.put, sa, sz, ss]
  refine rest_set (d := 6) (v := PT d 0) (w' := u0) rfl rfl rfl (rfl) ?_
  simp only [Act.put, sa, sz, ss]
  refine rest_set (d := 7) (v := PT d 0) (w' := u0) rfl rfl rfl (by go_simp) ?_
  simp only [Act.put, sa, sz, ss]
  refine rest_set (d := 8) (v := PT d 0) (w' := u0) rfl rfl rfl (by go_simp) ?_
  simp only [Act.put, sa, sz, ss]
  refine rest_set (d := 9) (v := .map (some mb)) (w' := u0) rfl rfl rfl (ex_loadC H1.out.1 0 rfl rfl rfl Try.isAgg39 rfl) ?_
  simp only [Act.put, sa, sz, ss]
  refine rest_set (d := 10) (v := .bool true) (w' := u0) rfl rfl rfl (by kernel_rfl) ?_
  simp only [Act.put, sa, sz, ss]
  refine rest_set (d := 11) (v := .bool true) (w' := u0) rfl rfl rfl (by go_simp) ?_
  simp only [Act.put, sa, sz, ss]
  refine rest_set (d := 2) (v := .bool true) (w' := u0) rfl rfl rfl (rfl) ?_
  simp only [Act.put, sa, sz, ss]
  refine rest_nil (then_normal (wp_ret ?_))
  repeat (first | refine then_ret ?_ | refine block_ret ?_)
  refine bodyPost_ret (v := .bool true) (by simp [results, Try.results75, go_sem, *]) rfl ?_
  exact ⟨rfl, H1.out.2⟩
set_option maxHeartbeats 2000000 in
set_option maxRecDepth 100000 in
theorem find_hit (d mb rb g : Nat) (k : Int) (s : ByteArray) (w : World) (hm : Mm w [(d, [Value.map (some mb), Value.map (some rb), Value.int .i64 k])]) (hlk0 : ∀ u, Below w.heap.size w u → (Instr.lookup 39 (.map (some mb)) (.string s) false).run Try.prog u = .ok (PT g 0) u) :
    Calls Try.prog 64 #[PT d 0, .string s] w fun e w' => e = .returned (.tuple #[PT g 0, .int .i64 0]) ∧ Below w.heap.size w w' := by
  have H0 : Hid (_ ∧ _) := ⟨hm, Below.refl w.heap.size w⟩
  clear hm
  have hlk : Hid _ := hlk0
  clear hlk0
  go_enter Try.func64, Try.ntmps64
  refine wp_seq ?_
  refine sq_startW (l := [0, 1]) rfl (fun u0 hu0 => ?_)
  have H1 : Hid (Mm u0 [(d, [Value.map (some mb), Value.map (some rb), Value.int .i64 k])] ∧ Below w.heap.size w u0) := by rw [hu0]; exact H0
  clear hu0 H0
  refine rest_set (d := 4) (v := .pointer none) (w' := u0) rfl rfl rfl (rfl) ?_
  simp only [Act.put, sa, sz, ss]
  refine rest_set (d := 5) (v := .int .i64 0) (w' := u0) rfl rfl rfl (rfl) ?_
  simp only [Act.put, sa, sz, ss]
  refine rest_nil (then_normal ?_)
  refine wp_seq (wp_seq ?_)
  refine sq_start (l := [0, 1, 2]) rfl ?_
  refine rest_set (d := 7) (v := PT d 0) (w' := u0) rfl rfl rfl (rfl) ?_
  simp only [Act.put, sa, sz, ss]
  refine rest_enter (d := 8) (R := fun vv w' => vv = .bool true ∧ Below u0.heap.size u0 w') rfl rfl rfl (exec_call (args := #[PT d 0]) rfl call75 rfl (mpn rfl)) (Calls.mono (made_ok d mb rb k u0 (H1.out.1.one 0 rfl)) (fun e w2 hh => ⟨_, hh.1, rfl, hh.2⟩)) ?_
  rintro _ w2 ⟨rfl, hb⟩
  have H2 : Hid (Mm w2 [(d, [Value.map (some mb), Value.map (some rb), Value.int .i64 k])] ∧ Below w.heap.size w w2) := ⟨H1.out.1.below hb, H1.out.2.trans (hb.mono H1.out.2.size)⟩
  clear hb
  clear H1
  simp only [Act.put, sa, sz, ss]
  refine rest_set (d := 9) (v := .bool false) (w' := w2) rfl rfl rfl (by go_simp) ?_
  simp only [Act.put, sa, sz, ss]
  refine rest_nil (then_normal ?_)
  refine wp_cond_false rfl (wp_skip ?_)
  refine then_normal (wp_seq ?_)
  refine sq_start (l := [0, 1, 2, 3, 4, 5, 6]) rfl ?_
  refine rest_set (d := 10) (v := PT d 0) (w' := w2) rfl rfl rfl (rfl) ?_
  simp only [Act.put, sa, sz, ss]
  refine rest_set (d := 11) (v := PT d 0) (w' := w2) rfl rfl rfl (by go_simp) ?_
  simp only [Act.put, sa, sz, ss]
  refine rest_set (d := 12) (v := PT d 0) (w' := w2) rfl rfl rfl (by go_simp) ?_
  simp only [Act.put, sa, sz, ss]
  refine rest_set (d := 13) (v := .map (some mb)) (w' := w2) rfl rfl rfl (ex_loadC H2.out.1 0 rfl rfl rfl Try.isAgg39 rfl) ?_
  simp only [Act.put, sa, sz, ss]
  refine rest_set (d := 14) (v := .string s) (w' := w2) rfl rfl rfl (rfl) ?_
  simp only [Act.put, sa, sz, ss]
  refine rest_set (d := 15) (v := PT g 0) (w' := w2) rfl rfl rfl (ex_lkp (hlk.out w2 H2.out.2) rfl rfl rfl) ?_
  simp only [Act.put, sa, sz, ss]
  refine rest_set (d := 6) (v := PT g 0) (w' := w2) rfl rfl rfl (rfl) ?_
  simp only [Act.put, sa, sz, ss]
  refine rest_nil (then_normal ?_)
  refine wp_seq (wp_seq ?_)
  refine sq_start (l := [0, 1]) rfl ?_
  refine rest_set (d := 16) (v := PT g 0) (w' := w2) rfl rfl rfl (rfl) ?_
  simp only [Act.put, sa, sz, ss]
  refine rest_set (d := 17) (v := .bool false) (w' := w2) rfl rfl rfl (by go_simp) ?_
  simp only [Act.put, sa, sz, ss]
  refine rest_nil (then_normal ?_)
  refine wp_cond_false rfl (wp_skip ?_)
  refine then_normal (wp_seq ?_)
  refine sq_start (l := [0, 1, 2]) rfl ?_
  refine rest_set (d := 18) (v := PT g 0) (w' := w2) rfl rfl rfl (rfl) ?_
  simp only [Act.put, sa, sz, ss]
  refine rest_set (d := 4) (v := PT g 0) (w' := w2) rfl rfl rfl (rfl) ?_
  simp only [Act.put, sa, sz, ss]
  refine rest_set (d := 5) (v := .int .i64 0) (w' := w2) rfl rfl rfl (rfl) ?_
  simp only [Act.put, sa, sz, ss]
  refine rest_nil (then_normal (wp_ret ?_))
  repeat (first | refine then_ret ?_ | refine block_ret ?_)
  refine bodyPost_ret (v := .tuple #[PT g 0, .int .i64 0]) (by simp [results, Try.results64, go_sem, *]) rfl ?_
  exact ⟨rfl, H2.out.2⟩
set_option maxHeartbeats 2000000 in
set_option maxRecDepth 100000 in
theorem find_miss (d mb rb : Nat) (k : Int) (s : ByteArray) (w : World) (hm : Mm w [(d, [Value.map (some mb), Value.map (some rb), Value.int .i64 k])]) (hlk0 : ∀ u, Below w.heap.size w u → (Instr.lookup 39 (.map (some mb)) (.string s) false).run Try.prog u = .ok (.pointer none) u) :
    Calls Try.prog 64 #[PT d 0, .string s] w fun e w' => e = .returned (.tuple #[.pointer none, .int .i64 6]) ∧ Below w.heap.size w w' := by
  have H0 : Hid (_ ∧ _) := ⟨hm, Below.refl w.heap.size w⟩
  clear hm
  have hlk : Hid _ := hlk0
  clear hlk0
  go_enter Try.func64, Try.ntmps64
  refine wp_seq ?_
  refine sq_startW (l := [0, 1]) rfl (fun u0 hu0 => ?_)
  have H1 : Hid (Mm u0 [(d, [Value.map (some mb), Value.map (some rb), Value.int .i64 k])] ∧ Below w.heap.size w u0) := by rw [hu0]; exact H0
  clear hu0 H0
  refine rest_set (d := 4) (v := .pointer none) (w' := u0) rfl rfl rfl (rfl) ?_
  simp only [Act.put, sa, sz, ss]
  refine rest_set (d := 5) (v := .int .i64 0) (w' := u0) rfl rfl rfl (rfl) ?_
  simp only [Act.put, sa, sz, ss]
  refine rest_nil (then_normal ?_)
  refine wp_seq (wp_seq ?_)
  refine sq_start (l := [0, 1, 2]) rfl ?_
  refine rest_set (d := 7) (v := PT d 0) (w' := u0) rfl rfl rfl (rfl) ?_
  simp only [Act.put, sa, sz, ss]
  refine rest_enter (d := 8) (R := fun vv w' => vv = .bool true ∧ Below u0.heap.size u0 w') rfl rfl rfl (exec_call (args := #[PT d 0]) rfl call75 rfl (mpn rfl)) (Calls.mono (made_ok d mb rb k u0 (H1.out.1.one 0 rfl)) (fun e w2 hh => ⟨_, hh.1, rfl, hh.2⟩)) ?_
  rintro _ w2 ⟨rfl, hb⟩
  have H2 : Hid (Mm w2 [(d, [Value.map (some mb), Value.map (some rb), Value.int .i64 k])] ∧ Below w.heap.size w w2) := ⟨H1.out.1.below hb, H1.out.2.trans (hb.mono H1.out.2.size)⟩
  clear hb
  clear H1
  simp only [Act.put, sa, sz, ss]
  refine rest_set (d := 9) (v := .bool false) (w' := w2) rfl rfl rfl (by go_simp) ?_
  simp only [Act.put, sa, sz, ss]
  refine rest_nil (then_normal ?_)
  refine wp_cond_false rfl (wp_skip ?_)
  refine then_normal (wp_seq ?_)
  refine sq_start (l := [0, 1, 2, 3, 4, 5, 6]) rfl ?_
  refine rest_set (d := 10) (v := PT d 0) (w' := w2) rfl rfl rfl (rfl) ?_
  simp only [Act.put, sa, sz, ss]
  refine rest_set (d := 11) (v := PT d 0) (w' := w2) rfl rfl rfl (by go_simp) ?_
  simp only [Act.put, sa, sz, ss]
  refine rest_set (d := 12) (v := PT d 0) (w' := w2) rfl rfl rfl (by go_simp) ?_
  simp only [Act.put, sa, sz, ss]
  refine rest_set (d := 13) (v := .map (some mb)) (w' := w2) rfl rfl rfl (ex_loadC H2.out.1 0 rfl rfl rfl Try.isAgg39 rfl) ?_
  simp only [Act.put, sa, sz, ss]
  refine rest_set (d := 14) (v := .string s) (w' := w2) rfl rfl rfl (rfl) ?_
  simp only [Act.put, sa, sz, ss]
  refine rest_set (d := 15) (v := .pointer none) (w' := w2) rfl rfl rfl (ex_lkp (hlk.out w2 H2.out.2) rfl rfl rfl) ?_
  simp only [Act.put, sa, sz, ss]
  refine rest_set (d := 6) (v := .pointer none) (w' := w2) rfl rfl rfl (rfl) ?_
  simp only [Act.put, sa, sz, ss]
  refine rest_nil (then_normal ?_)
  refine wp_seq (wp_seq ?_)
  refine sq_start (l := [0, 1]) rfl ?_
  refine rest_set (d := 16) (v := .pointer none) (w' := w2) rfl rfl rfl (rfl) ?_
  simp only [Act.put, sa, sz, ss]
  refine rest_set (d := 17) (v := .bool true) (w' := w2) rfl rfl rfl (by kernel_rfl) ?_
  simp only [Act.put, sa, sz, ss]
  refine rest_nil (then_normal ?_)
  refine wp_cond_true rfl (wp_seq ?_)
  refine sq_start (l := [0, 1]) rfl ?_
  refine rest_set (d := 4) (v := .pointer none) (w' := w2) rfl rfl rfl (rfl) ?_
  simp only [Act.put, sa, sz, ss]
  refine rest_set (d := 5) (v := .int .i64 6) (w' := w2) rfl rfl rfl (rfl) ?_
  simp only [Act.put, sa, sz, ss]
  refine rest_nil (then_normal (wp_ret ?_))
  repeat (first | refine then_ret ?_ | refine block_ret ?_)
  refine bodyPost_ret (v := .tuple #[.pointer none, .int .i64 6]) (by simp [results, Try.results64, go_sem, *]) rfl ?_
  exact ⟨rfl, H2.out.2⟩
set_option maxHeartbeats 2000000 in
set_option maxRecDepth 100000 in
theorem count_ok (d mb rb k : Nat) (hk : k < 4611686018427387904) (w : World) (hm : Mm w [(d, [Value.map (some mb), Value.map (some rb), Value.int .i64 ((k : Nat) : Int)])]) (hlk0 : ∀ u, Kp d w u → (Instr.lookup 40 (.map (some rb)) (.int .i64 ((k + 1 : Nat) : Int)) true).run Try.prog u = .ok (.tuple #[.agg ([] : List Value).toArray, .bool false]) u) :
    Calls Try.prog 66 #[PT d 0] w fun e w' => e = .returned (.int .i64 0) ∧ Mm w' [(d, [Value.map (some mb), Value.map (some rb), Value.int .i64 ((k + 1 : Nat) : Int)])] ∧ Kp d w w' := by
  have H0 : Hid (_ ∧ _) := ⟨hm, Kp.refl d w⟩
  clear hm
  have hlk : Hid _ := hlk0
  clear hlk0
  go_enter Try.func66, Try.ntmps66
  refine wp_seq ?_
  refine sq_startW (l := [0]) rfl (fun u0 hu0 => ?_)
  have H1 : Hid (Mm u0 [(d, [Value.map (some mb), Value.map (some rb), Value.int .i64 ((k : Nat) : Int)])] ∧ Kp d w u0) := by rw [hu0]; exact H0
  clear hu0 H0
  refine rest_set (d := 2) (v := .int .i64 0) (w' := u0) rfl rfl rfl (rfl) ?_
  simp only [Act.put, sa, sz, ss]
  refine rest_nil (then_normal ?_)
  refine wp_seq (wp_seq ?_)
  refine sq_start (l := [0, 1, 2]) rfl ?_
  refine rest_set (d := 5) (v := PT d 0) (w' := u0) rfl rfl rfl (rfl) ?_
  simp only [Act.put, sa, sz, ss]
  refine rest_enter (d := 6) (R := fun vv w' => vv = .bool true ∧ Below u0.heap.size u0 w') rfl rfl rfl (exec_call (args := #[PT d 0]) rfl call75 rfl (mpn rfl)) (Calls.mono (made_ok d mb rb ((k : Nat) : Int) u0 (H1.out.1.one 0 rfl)) (fun e w2 hh => ⟨_, hh.1, rfl, hh.2⟩)) ?_
  rintro _ w2 ⟨rfl, hb⟩
  have H2 : Hid (Mm w2 [(d, [Value.map (some mb), Value.map (some rb), Value.int .i64 ((k : Nat) : Int)])] ∧ Kp d w w2) := ⟨H1.out.1.below hb, H1.out.2.trans (hb)⟩
  clear hb
  clear H1
  simp only [Act.put, sa, sz, ss]
  refine rest_set (d := 7) (v := .bool false) (w' := w2) rfl rfl rfl (by go_simp) ?_
  simp only [Act.put, sa, sz, ss]
  refine rest_nil (then_normal ?_)
  refine wp_cond_false rfl (wp_skip ?_)
  refine then_normal (wp_seq ?_)
  refine sq_start (l := [0, 1, 2, 3, 4, 5, 6, 7]) rfl ?_
  refine rest_set (d := 8) (v := PT d 0) (w' := w2) rfl rfl rfl (rfl) ?_
  simp only [Act.put, sa, sz, ss]
  refine rest_set (d := 9) (v := PT d 0) (w' := w2) rfl rfl rfl (by go_simp) ?_
  simp only [Act.put, sa, sz, ss]
  refine rest_set (d := 10) (v := PT d 2) (w' := w2) rfl rfl rfl (by go_simp) ?_
  simp only [Act.put, sa, sz, ss]
  refine rest_set (d := 11) (v := .int .i64 ((k : Nat) : Int)) (w' := w2) rfl rfl rfl (ex_loadC H2.out.1 0 rfl rfl rfl Try.isAgg3 rfl) ?_
  simp only [Act.put, sa, sz, ss]
  refine rest_set (d := 12) (v := .int .i64 ((k + 1 : Nat) : Int)) (w' := w2) rfl rfl rfl (by go_simp; rw [IntKind.wrap_i64]; omega) ?_
  simp only [Act.put, sa, sz, ss]
  refine rest_set (d := 13) (v := PT d 0) (w' := w2) rfl rfl rfl (by go_simp) ?_
  simp only [Act.put, sa, sz, ss]
  refine rest_set (d := 14) (v := PT d 2) (w' := w2) rfl rfl rfl (by go_simp) ?_
  simp only [Act.put, sa, sz, ss]
  refine rest_store rfl rfl rfl (ex_st1 (v := .int .i64 ((k + 1 : Nat) : Int)) H2.out.1 0 rfl rfl Try.sizeOf3 rfl rfl (rfl) (Nat.le_of_ble_eq_true rfl)) ?_
  have H3 : Hid (Mm (w2.setCells d 2 [Value.int .i64 ((k + 1 : Nat) : Int)]) [(d, [Value.map (some mb), Value.map (some rb), Value.int .i64 ((k + 1 : Nat) : Int)])] ∧ Kp d w (w2.setCells d 2 [Value.int .i64 ((k + 1 : Nat) : Int)])) := ⟨H2.out.1.put 0 (off := 2) (vs := [Value.int .i64 ((k + 1 : Nat) : Int)]) rfl (Nat.le_of_ble_eq_true rfl), H2.out.2.put (Or.inl rfl)⟩
  clear H2
  generalize hgw : World.setCells _ _ _ _ = w3 at H3 ⊢
  clear hgw
  refine rest_nil (then_normal ?_)
  refine wp_seq (wp_seq ?_)
  refine walk_put (by kernel_rfl) 13 [11] [.quiet (PT d 0), .quiet (PT d 0), .quiet (PT d 1), .quiet (.map (some rb)), .quiet (PT d 0), .quiet (PT d 0), .quiet (PT d 2), .quiet (.int .i64 ((k + 1 : Nat) : Int)), .quiet (.tuple #[.agg (([] : List Value)).toArray, .bool false]), .quiet (.tuple #[.agg (([] : List Value)).toArray, .bool false]), .quiet (.agg (([] : List Value)).toArray), .quiet (.bool false), .made [] 100] (fun u' => Mm u' [(d, [Value.map (some mb), Value.map (some rb), Value.int .i64 ((k + 1 : Nat) : Int)])] ∧ Kp d w u') ?pre4 ?F4 _ ?hpre4 (fun γ => ?hF4) (by kernel_rfl) rfl trivial ?hS4 ?ho4 ?hla4 ?he4
  case hpre4 => simp only [tk, tz]; rfl
  case hF4 => simp only [fill, Kind.val, Act.put, sa, sz, ss]; rfl
  case hS4 => exact fun w' hb => ⟨H3.out.1.below hb, H3.out.2.trans (hb)⟩
  case ho4 =>
    refine ak (fun _ => ⟨rfl, fun _ _ => rfl⟩) ?_
    refine ak (by refine fun γ => ⟨rfl, fun w' h => ?_⟩; clear h; go_simp) ?_
    refine ak (by refine fun γ => ⟨rfl, fun w' h => ?_⟩; clear h; go_simp) ?_
    refine ak (fun γ => ⟨rfl, fun w' hX => have h := hX.1; ex_loadC h 0 rfl rfl rfl Try.isAgg40 rfl⟩) ?_
    refine ak (fun _ => ⟨rfl, fun _ _ => rfl⟩) ?_
    refine ak (by refine fun γ => ⟨rfl, fun w' h => ?_⟩; clear h; go_simp) ?_
    refine ak (by refine fun γ => ⟨rfl, fun w' h => ?_⟩; clear h; go_simp) ?_
    refine ak (fun γ => ⟨rfl, fun w' hX => have h := hX.1; ex_loadC h 0 rfl rfl rfl Try.isAgg3 rfl⟩) ?_
    refine ak (fun γ => ⟨rfl, fun w' hX => ex_lkp (hlk.out w' hX.2) rfl rfl rfl⟩) ?_
    refine ak (fun _ => ⟨rfl, fun _ _ => rfl⟩) ?_
    refine ak (by refine fun γ => ⟨rfl, fun w' h => ?_⟩; clear h; go_simp) ?_
    refine ak (by refine fun γ => ⟨rfl, fun w' h => ?_⟩; clear h; go_simp) ?_
    refine ak (fun γ => ⟨rfl, fun w' => ex_mk100 rfl⟩) ?_
    exact trivial
  case hla4 => exact ⟨⟨_, _, rfl, rfl, fun γ => ⟨rfl, fun w' => by go_simp⟩⟩, trivial⟩
  intro γ w4 l hM hl
  have H4 : Hid (Mm w4 [(γ 12, []), (d, [Value.map (some mb), Value.map (some rb), Value.int .i64 ((k + 1 : Nat) : Int)])] ∧ _) := growK H3 hM (Nat.le_refl _) hl [12] rfl (by decide)
  have o4_12 := ownK H3 hM (Nat.le_refl _) hl (i := 12) rfl
  clear hM hl l H3
  generalize γ 12 = γ4_12 at H4 o4_12 ⊢
  clear γ
  refine ⟨_, ex_storeT (vs := []) H4.out.1 0 rfl rfl rfl rfl Try.sizeOf100 rfl (Nat.le_of_ble_eq_true rfl), ?_⟩
  have H5 : Hid (Mm (w4.setCells γ4_12 0 []) [(γ4_12, []), (d, [Value.map (some mb), Value.map (some rb), Value.int .i64 ((k + 1 : Nat) : Int)])] ∧ Kp d w (w4.setCells γ4_12 0 [])) := ⟨H4.out.1, H4.out.2⟩
  clear H4
  generalize hgw : World.setCells _ _ _ _ = w5 at H5 ⊢
  clear hgw
  refine rest_at (l := [14]) rfl ?_
  refine rest_set (d := 4) (v := .bool false) (w' := w5) rfl rfl rfl (rfl) ?_
  simp only [Act.put, sa, sz, ss]
  refine rest_nil (then_normal (wp_seq ?_))
  refine sq_start (l := [0]) rfl ?_
  refine rest_set (d := 27) (v := .bool false) (w' := w5) rfl rfl rfl (rfl) ?_
  simp only [Act.put, sa, sz, ss]
  refine rest_nil (then_normal ?_)
  refine wp_cond_false rfl (wp_skip ?_)
  refine then_normal (wp_seq ?_)
  refine sq_start (l := [0]) rfl ?_
  refine rest_set (d := 2) (v := .int .i64 0) (w' := w5) rfl rfl rfl (rfl) ?_
  simp only [Act.put, sa, sz, ss]
  refine rest_nil (then_normal (wp_ret ?_))
  repeat (first | refine then_ret ?_ | refine block_ret ?_)
  refine bodyPost_ret (v := .int .i64 0) (by simp [results, Try.results66, go_sem, *]) rfl ?_
  exact ⟨rfl, H5.out.1.one 1 rfl, H5.out.2⟩
set_option maxHeartbeats 2000000 in
set_option maxRecDepth 100000 in
theorem count_no (d mb rb k : Nat) (hk : k < 4611686018427387904) (w : World) (hm : Mm w [(d, [Value.map (some mb), Value.map (some rb), Value.int .i64 ((k : Nat) : Int)])]) (hlk0 : ∀ u, Kp d w u → (Instr.lookup 40 (.map (some rb)) (.int .i64 ((k + 1 : Nat) : Int)) true).run Try.prog u = .ok (.tuple #[.agg ([] : List Value).toArray, .bool true]) u) :
    Calls Try.prog 66 #[PT d 0] w fun e w' => e = .returned (.int .i64 13) ∧ Mm w' [(d, [Value.map (some mb), Value.map (some rb), Value.int .i64 ((k + 1 : Nat) : Int)])] ∧ Kp d w w' := by
  have H0 : Hid (_ ∧ _) := ⟨hm, Kp.refl d w⟩
  clear hm
  have hlk : Hid _ := hlk0
  clear hlk0
  go_enter Try.func66, Try.ntmps66
  refine wp_seq ?_
  refine sq_startW (l := [0]) rfl (fun u0 hu0 => ?_)
  have H1 : Hid (Mm u0 [(d, [Value.map (some mb), Value.map (some rb), Value.int .i64 ((k : Nat) : Int)])] ∧ Kp d w u0) := by rw [hu0]; exact H0
  clear hu0 H0
  refine rest_set (d := 2) (v := .int .i64 0) (w' := u0) rfl rfl rfl (rfl) ?_
  simp only [Act.put, sa, sz, ss]
  refine rest_nil (then_normal ?_)
  refine wp_seq (wp_seq ?_)
  refine sq_start (l := [0, 1, 2]) rfl ?_
  refine rest_set (d := 5) (v := PT d 0) (w' := u0) rfl rfl rfl (rfl) ?_
  simp only [Act.put, sa, sz, ss]
  refine rest_enter (d := 6) (R := fun vv w' => vv = .bool true ∧ Below u0.heap.size u0 w') rfl rfl rfl (exec_call (args := #[PT d 0]) rfl call75 rfl (mpn rfl)) (Calls.mono (made_ok d mb rb ((k : Nat) : Int) u0 (H1.out.1.one 0 rfl)) (fun e w2 hh => ⟨_, hh.1, rfl, hh.2⟩)) ?_
  rintro _ w2 ⟨rfl, hb⟩
  have H2 : Hid (Mm w2 [(d, [Value.map (some mb), Value.map (some rb), Value.int .i64 ((k : Nat) : Int)])] ∧ Kp d w w2) := ⟨H1.out.1.below hb, H1.out.2.trans (hb)⟩
  clear hb
  clear H1
  simp only [Act.put, sa, sz, ss]
  refine rest_set (d := 7) (v := .bool false) (w' := w2) rfl rfl rfl (by go_simp) ?_
  simp only [Act.put, sa, sz, ss]
  refine rest_nil (then_normal ?_)
  refine wp_cond_false rfl (wp_skip ?_)
  refine then_normal (wp_seq ?_)
  refine sq_start (l := [0, 1, 2, 3, 4, 5, 6, 7]) rfl ?_
  refine rest_set (d := 8) (v := PT d 0) (w' := w2) rfl rfl rfl (rfl) ?_
  simp only [Act.put, sa, sz, ss]
  refine rest_set (d := 9) (v := PT d 0) (w' := w2) rfl rfl rfl (by go_simp) ?_
  simp only [Act.put, sa, sz, ss]
  refine rest_set (d := 10) (v := PT d 2) (w' := w2) rfl rfl rfl (by go_simp) ?_
  simp only [Act.put, sa, sz, ss]
  refine rest_set (d := 11) (v := .int .i64 ((k : Nat) : Int)) (w' := w2) rfl rfl rfl (ex_loadC H2.out.1 0 rfl rfl rfl Try.isAgg3 rfl) ?_
  simp only [Act.put, sa, sz, ss]
  refine rest_set (d := 12) (v := .int .i64 ((k + 1 : Nat) : Int)) (w' := w2) rfl rfl rfl (by go_simp; rw [IntKind.wrap_i64]; omega) ?_
  simp only [Act.put, sa, sz, ss]
  refine rest_set (d := 13) (v := PT d 0) (w' := w2) rfl rfl rfl (by go_simp) ?_
  simp only [Act.put, sa, sz, ss]
  refine rest_set (d := 14) (v := PT d 2) (w' := w2) rfl rfl rfl (by go_simp) ?_
  simp only [Act.put, sa, sz, ss]
  refine rest_store rfl rfl rfl (ex_st1 (v := .int .i64 ((k + 1 : Nat) : Int)) H2.out.1 0 rfl rfl Try.sizeOf3 rfl rfl (rfl) (Nat.le_of_ble_eq_true rfl)) ?_
  have H3 : Hid (Mm (w2.setCells d 2 [Value.int .i64 ((k + 1 : Nat) : Int)]) [(d, [Value.map (some mb), Value.map (some rb), Value.int .i64 ((k + 1 : Nat) : Int)])] ∧ Kp d w (w2.setCells d 2 [Value.int .i64 ((k + 1 : Nat) : Int)])) := ⟨H2.out.1.put 0 (off := 2) (vs := [Value.int .i64 ((k + 1 : Nat) : Int)]) rfl (Nat.le_of_ble_eq_true rfl), H2.out.2.put (Or.inl rfl)⟩
  clear H2
  generalize hgw : World.setCells _ _ _ _ = w3 at H3 ⊢
  clear hgw
  refine rest_nil (then_normal ?_)
  refine wp_seq (wp_seq ?_)
  refine walk_put (by kernel_rfl) 13 [11] [.quiet (PT d 0), .quiet (PT d 0), .quiet (PT d 1), .quiet (.map (some rb)), .quiet (PT d 0), .quiet (PT d 0), .quiet (PT d 2), .quiet (.int .i64 ((k + 1 : Nat) : Int)), .quiet (.tuple #[.agg (([] : List Value)).toArray, .bool true]), .quiet (.tuple #[.agg (([] : List Value)).toArray, .bool true]), .quiet (.agg (([] : List Value)).toArray), .quiet (.bool true), .made [] 100] (fun u' => Mm u' [(d, [Value.map (some mb), Value.map (some rb), Value.int .i64 ((k + 1 : Nat) : Int)])] ∧ Kp d w u') ?pre4 ?F4 _ ?hpre4 (fun γ => ?hF4) (by kernel_rfl) rfl trivial ?hS4 ?ho4 ?hla4 ?he4
  case hpre4 => simp only [tk, tz]; rfl
  case hF4 => simp only [fill, Kind.val, Act.put, sa, sz, ss]; rfl
  case hS4 => exact fun w' hb => ⟨H3.out.1.below hb, H3.out.2.trans (hb)⟩
  case ho4 =>
    refine ak (fun _ => ⟨rfl, fun _ _ => rfl⟩) ?_
    refine ak (by refine fun γ => ⟨rfl, fun w' h => ?_⟩; clear h; go_simp) ?_
    refine ak (by refine fun γ => ⟨rfl, fun w' h => ?_⟩; clear h; go_simp) ?_
    refine ak (fun γ => ⟨rfl, fun w' hX => have h := hX.1; ex_loadC h 0 rfl rfl rfl Try.isAgg40 rfl⟩) ?_
    refine ak (fun _ => ⟨rfl, fun _ _ => rfl⟩) ?_
    refine ak (by refine fun γ => ⟨rfl, fun w' h => ?_⟩; clear h; go_simp) ?_
    refine ak (by refine fun γ => ⟨rfl, fun w' h => ?_⟩; clear h; go_simp) ?_
    refine ak (fun γ => ⟨rfl, fun w' hX => have h := hX.1; ex_loadC h 0 rfl rfl rfl Try.isAgg3 rfl⟩) ?_
    refine ak (fun γ => ⟨rfl, fun w' hX => ex_lkp (hlk.out w' hX.2) rfl rfl rfl⟩) ?_
    refine ak (fun _ => ⟨rfl, fun _ _ => rfl⟩) ?_
    refine ak (by refine fun γ => ⟨rfl, fun w' h => ?_⟩; clear h; go_simp) ?_
    refine ak (by refine fun γ => ⟨rfl, fun w' h => ?_⟩; clear h; go_simp) ?_
    refine ak (fun γ => ⟨rfl, fun w' => ex_mk100 rfl⟩) ?_
    exact trivial
  case hla4 => exact ⟨⟨_, _, rfl, rfl, fun γ => ⟨rfl, fun w' => by go_simp⟩⟩, trivial⟩
  intro γ w4 l hM hl
  have H4 : Hid (Mm w4 [(γ 12, []), (d, [Value.map (some mb), Value.map (some rb), Value.int .i64 ((k + 1 : Nat) : Int)])] ∧ _) := growK H3 hM (Nat.le_refl _) hl [12] rfl (by decide)
  have o4_12 := ownK H3 hM (Nat.le_refl _) hl (i := 12) rfl
  clear hM hl l H3
  generalize γ 12 = γ4_12 at H4 o4_12 ⊢
  clear γ
  refine ⟨_, ex_storeT (vs := []) H4.out.1 0 rfl rfl rfl rfl Try.sizeOf100 rfl (Nat.le_of_ble_eq_true rfl), ?_⟩
  have H5 : Hid (Mm (w4.setCells γ4_12 0 []) [(γ4_12, []), (d, [Value.map (some mb), Value.map (some rb), Value.int .i64 ((k + 1 : Nat) : Int)])] ∧ Kp d w (w4.setCells γ4_12 0 [])) := ⟨H4.out.1, H4.out.2⟩
  clear H4
  generalize hgw : World.setCells _ _ _ _ = w5 at H5 ⊢
  clear hgw
  refine rest_at (l := [14]) rfl ?_
  refine rest_set (d := 4) (v := .bool true) (w' := w5) rfl rfl rfl (rfl) ?_
  simp only [Act.put, sa, sz, ss]
  refine rest_nil (then_normal (wp_seq ?_))
  refine sq_start (l := [0]) rfl ?_
  refine rest_set (d := 27) (v := .bool true) (w' := w5) rfl rfl rfl (rfl) ?_
  simp only [Act.put, sa, sz, ss]
  refine rest_nil (then_normal ?_)
  refine wp_cond_true rfl (wp_seq ?_)
  refine sq_start (l := [0]) rfl ?_
  refine rest_set (d := 2) (v := .int .i64 13) (w' := w5) rfl rfl rfl (rfl) ?_
  simp only [Act.put, sa, sz, ss]
  refine rest_nil (then_normal (wp_ret ?_))
  repeat (first | refine then_ret ?_ | refine block_ret ?_)
  refine bodyPost_ret (v := .int .i64 13) (by simp [results, Try.results66, go_sem, *]) rfl ?_
  exact ⟨rfl, H5.out.1.one 1 rfl, H5.out.2⟩
end Wi
end Rg
end Go.Proofs.Ytidicdlfjdlpnaa
end
section
namespace Go.Proofs.Ytidicdlfjdlpnaa
open Go.RowKit
namespace Rg
namespace Wi
theorem call109 : ∀ args w, (callFunc 109 args).run Try.prog w = .ok (.enter 109 args) w := by intro args w; go_simp
set_option maxRecDepth 100000
abbrev W32 (n : Nat) : Value := .int .u32 (n : Int)
/-- A number shifted by 1, and turned if a 1 fell out; k times; the table; a step of the check; the check of bytes. -/
def shf (n : Nat) : Nat := if an n 1 = 1 then xo (sr n 1) 3988292384 else sr n 1
def shN (n : Nat) : Nat → Nat
  | 0 => n
  | k + 1 => shf (shN n k)
def crt (i : Nat) : Nat := shN (c32 i) 8
def xb (a b : Nat) : Nat := (a ^^^ b) % 256
def cst (n c : Nat) : Nat := xo (sr n 8) (crt (xb (n % 256) c))
def crn (f : Nat → Nat) : Nat → Nat
  | 0 => 4294967295
  | k + 1 => cst (crn f k) (f k)
def crc (f : Nat → Nat) (n : Nat) : Nat := nt (crn f n)
theorem xo_lt (a b : Nat) : xo a b < 4294967296 := Nat.mod_lt _ (by decide)
theorem xb_lt (a b : Nat) : xb a b < 256 := Nat.mod_lt _ (by decide)
theorem crn_cg {f g : Nat → Nat} : ∀ {k : Nat}, (∀ j, j < k → f j = g j) → crn f k = crn g k
  | 0, _ => rfl
  | k + 1, h => by
    show cst (crn f k) (f k) = cst (crn g k) (g k)
    rw [crn_cg (fun j hj => h j (Nat.lt_succ_of_lt hj)), h k (Nat.lt_succ_self k)]
theorem crc_cg {f g : Nat → Nat} {k : Nat} (h : ∀ j, j < k → f j = g j) : crc f k = crc g k := by
  unfold crc
  rw [crn_cg h]
theorem crc_lt (f : Nat → Nat) (k : Nat) : crc f k < 4294967296 := xo_lt _ _
/-- A number's bytes, the highest first; the number of four bytes. -/
def by4 (n : Nat) (j : Nat) : Nat := [sr n 24 % 256, sr n 16 % 256, sr n 8 % 256, n % 256].getD j 0
def nb4 (a b c d : Nat) : Nat := ou (ou (ou (sl (c32 a) 24) (sl (c32 b) 16)) (sl (c32 c) 8)) (c32 d)
theorem nb4_eq {a b c d : Nat} (ha : a < 256) (hb : b < 256) (hc : c < 256) (hd : d < 256) : nb4 a b c d = a * 16777216 + b * 65536 + c * 256 + d := by
  unfold nb4 sl c32 ou
  rw [Nat.mod_eq_of_lt (show a < 4294967296 by omega), Nat.mod_eq_of_lt (show b < 4294967296 by omega), Nat.mod_eq_of_lt (show c < 4294967296 by omega), Nat.mod_eq_of_lt (show d < 4294967296 by omega)]
  rw [Nat.mod_eq_of_lt (show a * 2 ^ 24 < 4294967296 by omega), Nat.mod_eq_of_lt (show b * 2 ^ 16 < 4294967296 by omega), Nat.mod_eq_of_lt (show c * 2 ^ 8 < 4294967296 by omega)]
  have e1 : a * 2 ^ 24 ||| b * 2 ^ 16 = a * 16777216 + b * 65536 := by
    rw [Nat.mul_comm a, ← Nat.two_pow_add_eq_or_of_lt (show b * 2 ^ 16 < 2 ^ 24 by omega), Nat.mul_comm]
  rw [e1, Nat.mod_eq_of_lt (show a * 16777216 + b * 65536 < 4294967296 by omega)]
  have e2 : (a * 16777216 + b * 65536) ||| c * 2 ^ 8 = a * 16777216 + b * 65536 + c * 256 := by
    rw [show a * 16777216 + b * 65536 = 2 ^ 16 * (a * 256 + b) by omega, ← Nat.two_pow_add_eq_or_of_lt (show c * 2 ^ 8 < 2 ^ 16 by omega)]
  rw [e2, Nat.mod_eq_of_lt (show a * 16777216 + b * 65536 + c * 256 < 4294967296 by omega)]
  rw [show a * 16777216 + b * 65536 + c * 256 = 2 ^ 8 * (a * 65536 + b * 256 + c) by omega, ← Nat.two_pow_add_eq_or_of_lt (show d < 2 ^ 8 by omega)]
  rw [Nat.mod_eq_of_lt (by omega)]
theorem by4_lt (n j : Nat) : by4 n j < 256 := by
  unfold by4
  match j with
  | 0 => exact Nat.mod_lt _ (by decide)
  | 1 => exact Nat.mod_lt _ (by decide)
  | 2 => exact Nat.mod_lt _ (by decide)
  | 3 => exact Nat.mod_lt _ (by decide)
  | k + 4 => show (0 : Nat) < 256; decide
theorem nb4_by4 {n : Nat} (h : n < 4294967296) : nb4 (by4 n 0) (by4 n 1) (by4 n 2) (by4 n 3) = n := by
  rw [nb4_eq (by4_lt _ _) (by4_lt _ _) (by4_lt _ _) (by4_lt _ _)]
  show sr n 24 % 256 * 16777216 + sr n 16 % 256 * 65536 + sr n 8 % 256 * 256 + n % 256 = n
  unfold sr
  omega
theorem ints_patch (ik : IntKind) (f : Nat → Nat) {n : Nat} (j v : Nat) (h : j < n) : patch (ints ik f n) j [.int ik (v : Int)] = ints ik (up f j v) n := by
  apply List.ext_getElem?
  intro k
  rw [patch_get _ _ _ (by rw [ints_len]; simp; omega)]
  by_cases hk : k < n
  · rw [ints_get _ _ hk, ints_get _ _ hk]
    unfold up
    by_cases e : k = j
    · rw [if_pos (by simp; omega), if_pos e, e]
      simp
    · rw [if_neg (by simp; omega), if_neg e]
  · rw [if_neg (by simp; omega), ints_none _ _ (by omega), ints_none _ _ (by omega)]
theorem ints_patch0 (ik : IntKind) (f f' : Nat → Nat) (n : Nat) : patch (ints ik f n) 0 (ints ik f' n) = ints ik f' n := by
  apply List.ext_getElem?
  intro k
  rw [patch_get _ _ _ (by rw [ints_len, ints_len]; omega)]
  by_cases hk : k < n
  · rw [if_pos (by rw [ints_len]; omega), Nat.sub_zero]
  · rw [if_neg (by rw [ints_len]; omega), ints_none _ _ (by omega), ints_none _ _ (by omega)]
theorem ofInt32 (a : Nat) : (BitVec.ofInt 32 (a : Int)).toNat = a % 4294967296 := by
  rw [BitVec.ofInt_natCast, BitVec.toNat_ofNat]
theorem wrap32 (a : Nat) : IntKind.u32.wrap (a : Int) = ((a % 4294967296 : Nat) : Int) := by
  simp [IntKind.wrap, IntKind.bits, IntKind.signed]
theorem bits_and32 (a b : Nat) : bits .and .u32 (a : Int) (b : Int) = ((an a b : Nat) : Int) := by
  show IntKind.u32.wrap ((BitVec.ofInt 32 (a : Int) &&& BitVec.ofInt 32 (b : Int)).toNat : Int) = _
  rw [BitVec.toNat_and, ofInt32, ofInt32, wrap32]
  unfold an
  rw [← Nat.and_mod_two_pow (n := 32), Nat.mod_mod]
theorem bits_or32 (a b : Nat) : bits .or .u32 (a : Int) (b : Int) = ((ou a b : Nat) : Int) := by
  show IntKind.u32.wrap ((BitVec.ofInt 32 (a : Int) ||| BitVec.ofInt 32 (b : Int)).toNat : Int) = _
  rw [BitVec.toNat_or, ofInt32, ofInt32, wrap32]
  unfold ou
  rw [← Nat.or_mod_two_pow (n := 32), Nat.mod_mod]
theorem bits_xor32 (a b : Nat) : bits .xor .u32 (a : Int) (b : Int) = ((xo a b : Nat) : Int) := by
  show IntKind.u32.wrap ((BitVec.ofInt 32 (a : Int) ^^^ BitVec.ofInt 32 (b : Int)).toNat : Int) = _
  rw [BitVec.toNat_xor, ofInt32, ofInt32, wrap32]
  unfold xo
  rw [← Nat.xor_mod_two_pow (n := 32), Nat.mod_mod]
theorem bits_xor8 (a b : Nat) : bits .xor .u8 (a : Int) (b : Int) = ((xb a b : Nat) : Int) := by
  have h1 : ∀ k : Nat, (BitVec.ofInt 8 (k : Int)).toNat = k % 256 := fun k => by rw [BitVec.ofInt_natCast, BitVec.toNat_ofNat]
  show IntKind.u8.wrap ((BitVec.ofInt 8 (a : Int) ^^^ BitVec.ofInt 8 (b : Int)).toNat : Int) = _
  rw [BitVec.toNat_xor, h1, h1, ← Nat.xor_mod_two_pow (n := 8)]
  unfold xb
  simp [IntKind.wrap, IntKind.bits, IntKind.signed]
section
variable {ρ : Operand → Value} {o : Oper} {x y : Operand} {a b k g off j n : Nat} {w : World}
theorem ex_and32 (ho : o.op = .binOp .and 72 x y 72) (hx : ρ x = W32 a) (hy : ρ y = W32 b) : (execOp ρ o).run Try.prog w = .ok (.value (W32 (an a b))) w := by
  simp only [execOp, ho, hx, hy]
  clear ho hx hy
  have e := bits_and32 a b
  go_simp
theorem ex_or32 (ho : o.op = .binOp .or 72 x y 72) (hx : ρ x = W32 a) (hy : ρ y = W32 b) : (execOp ρ o).run Try.prog w = .ok (.value (W32 (ou a b))) w := by
  simp only [execOp, ho, hx, hy]
  clear ho hx hy
  have e := bits_or32 a b
  go_simp
theorem ex_xor32 (ho : o.op = .binOp .xor 72 x y 72) (hx : ρ x = W32 a) (hy : ρ y = W32 b) : (execOp ρ o).run Try.prog w = .ok (.value (W32 (xo a b))) w := by
  simp only [execOp, ho, hx, hy]
  clear ho hx hy
  have e := bits_xor32 a b
  go_simp
theorem ex_xor8 (ho : o.op = .binOp .xor 5 x y 5) (hx : ρ x = Z8 a) (hy : ρ y = Z8 b) : (execOp ρ o).run Try.prog w = .ok (.value (Z8 (xb a b))) w := by
  have e := bits_xor8 a b
  simp only [execOp, ho, hx, hy]
  clear ho hx hy
  go_simp
theorem ex_not32 (ho : o.op = .unOp .xor 72 x) (hx : ρ x = W32 a) : (execOp ρ o).run Try.prog w = .ok (.value (W32 (nt a))) w := by
  simp only [execOp, ho, hx]
  clear ho hx
  go_simp
  exact bits_xor32 4294967295 a
theorem ex_shl32 {ik : IntKind} {t : TypeId} (hk : k < 32) (ho : o.op = .binOp .shl 72 x y t) (hx : ρ x = W32 a) (hy : ρ y = .int ik (k : Int)) : (execOp ρ o).run Try.prog w = .ok (.value (W32 (sl a k))) w := by
  simp only [execOp, ho, hx, hy]
  clear ho hx hy
  have hs := shift_shl_any .u32 ik (a : Int) (k : Int) (by omega)
  have e : min ((k : Int).toNat) IntKind.u32.bits = k := by rw [Int.toNat_natCast]; show min k 32 = k; omega
  rw [e, show (a : Int) * 2 ^ k = ((a * 2 ^ k : Nat) : Int) by rw [Int.natCast_mul, Int.natCast_pow]; rfl, wrap32] at hs
  go_simp
  unfold sl
  rw [Int.natCast_emod, Int.natCast_mul, Int.natCast_pow]
  rfl
theorem ex_shr32 {ik : IntKind} {t : TypeId} (hk : k < 33) (ho : o.op = .binOp .shr 72 x y t) (hx : ρ x = W32 a) (hy : ρ y = .int ik (k : Int)) : (execOp ρ o).run Try.prog w = .ok (.value (W32 (sr a k))) w := by
  simp only [execOp, ho, hx, hy]
  clear ho hx hy
  have hs := shift_shr_any .u32 ik (a : Int) (k : Int) (by omega)
  have e : min ((k : Int).toNat) IntKind.u32.bits = k := by rw [Int.toNat_natCast]; show min k 32 = k; omega
  rw [e, show (a : Int) / 2 ^ k = ((a / 2 ^ k : Nat) : Int) by rw [Int.natCast_ediv, Int.natCast_pow]; rfl] at hs
  go_simp
  unfold sr
  rw [Int.natCast_ediv, Int.natCast_pow]
  rfl
theorem ex_cvBW (ho : o.op = .convert 5 72 x) (hx : ρ x = Z8 a) : (execOp ρ o).run Try.prog w = .ok (.value (W32 (c32 a))) w := by
  simp only [execOp, ho, hx]
  clear ho hx
  go_simp
  exact wrap32 a
theorem ex_cvWB (ho : o.op = .convert 72 5 x) (hx : ρ x = W32 a) : (execOp ρ o).run Try.prog w = .ok (.value (Z8 (a % 256))) w := by
  simp only [execOp, ho, hx]
  clear ho hx
  go_simp
  simp [IntKind.wrap, IntKind.bits, IntKind.signed]
theorem ex_cvIW (ho : o.op = .convert 3 72 x) (hx : ρ x = .int .i64 (a : Int)) : (execOp ρ o).run Try.prog w = .ok (.value (W32 (c32 a))) w := by
  simp only [execOp, ho, hx]
  clear ho hx
  go_simp
  exact wrap32 a
theorem ex_cvWI (h : a < 4294967296) (ho : o.op = .convert 72 3 x) (hx : ρ x = W32 a) : (execOp ρ o).run Try.prog w = .ok (.value (.int .i64 (a : Int))) w := by
  simp only [execOp, ho, hx]
  clear ho hx
  go_simp
  rw [IntKind.wrap_i64]
  omega
theorem ex_eq32 {c : Bool} (h : decide (a = b) = c) (ho : o.op = .binOp .eql 72 x y 72) (hx : ρ x = W32 a) (hy : ρ y = W32 b) : (execOp ρ o).run Try.prog w = .ok (.value (.bool c)) w := by
  subst h
  simp only [execOp, ho, hx, hy]
  clear ho hx hy
  go_simp
  by_cases e : a = b
  · subst e; simp
  · rw [decide_eq_false e]
    exact beq_eq_false_iff_ne.2 (by omega)
theorem ex_gt32 {c : Bool} (h : decide (b < a) = c) (ho : o.op = .binOp .gtr 72 x y 72) (hx : ρ x = W32 a) (hy : ρ y = W32 b) : (execOp ρ o).run Try.prog w = .ok (.value (.bool c)) w := by
  subst h
  simp only [execOp, ho, hx, hy]
  clear ho hx hy
  go_simp
theorem ex_mkT (ho : o.op = .alloc 88) : (execOp ρ o).run Try.prog w = .ok (.value (.pointer (some ⟨w.heap.size, 0, none⟩))) (w.alloc (.cells (ints .u32 (fun _ => 0) 256).toArray 88)) := by
  simp only [execOp, ho]
  go_simp
  rfl
theorem ex_ixT1 (ho : o.op = .indexAddr 88 x y) (hx : ρ x = PT g 0) (hy : ρ y = .int .i64 ((j : Nat) : Int)) (hj : j < 256) : (execOp ρ o).run Try.prog w = .ok (.value (PT g j)) w := by
  have h1 : (j : Int) < 256 := by omega
  simp only [execOp, ho, hx, hy]
  clear ho hx hy
  go_simp
theorem ex_ixT8 (ho : o.op = .indexAddr 88 x y) (hx : ρ x = PT g off) (hy : ρ y = Z8 j) (hj : j < 256) : (execOp ρ o).run Try.prog w = .ok (.value (PT g (off + j))) w := by
  have h1 : (j : Int) < 256 := by omega
  simp only [execOp, ho, hx, hy]
  clear ho hx hy
  go_simp
end
/-- A table in memory, from a place of a block on. -/
structure Tb (g t : Nat) (w : World) : Prop where
  lt : g < w.heap.size
  at_ : ∀ i, i < 256 → w.cell? ⟨g, t + i, none⟩ = some (W32 (crt i))
theorem Tb.keep {g t : Nat} {w w' : World} (h : Tb g t w) (hs : w.heap.size ≤ w'.heap.size) (hb : w'.heap[g]? = w.heap[g]?) : Tb g t w' := ⟨Nat.lt_of_lt_of_le h.lt hs, fun i hi => (World.cell?_of_block (a := ⟨g, t + i, none⟩) hb).trans (h.at_ i hi)⟩
theorem Tb.below {g t : Nat} {w w' : World} (h : Tb g t w) (hb : Below w.heap.size w w') : Tb g t w' := h.keep hb.size (hb.block g h.lt)
theorem Tb.mm {g : Nat} {w : World} (h : Mm w [(g, ints .u32 crt 256)]) : Tb g 0 w := ⟨(h.blk _ (List.mem_cons_self ..)).1, fun i hi => by rw [Nat.zero_add]; exact h.get 0 rfl i (ints_get _ _ hi)⟩
theorem ex_ldT {ρ : Operand → Value} {o : Oper} {x : Operand} {g t j : Nat} {w : World} (h : Tb g t w) (hj : j < 256) (ho : o.op = .load 72 x) (hx : ρ x = PT g (t + j)) : (execOp ρ o).run Try.prog w = .ok (.value (W32 (crt j))) w := by
  have c0 := h.at_ j hj
  clear h
  simp only [execOp, ho, hx]
  clear ho hx
  go_simp
/-- The table with its first k filled. -/
def tbf : Nat → Nat → Nat
  | 0 => fun _ => 0
  | k + 1 => up (tbf k) k (crt k)
theorem tbf_at : ∀ (k j : Nat), j < k → tbf k j = crt j
  | 0, _, h => absurd h (Nat.not_lt_zero _)
  | k + 1, j, h => by
    show up (tbf k) k (crt k) j = _
    unfold up
    by_cases e : j = k
    · rw [if_pos e, e]
    · rw [if_neg e]
      exact tbf_at k j (by omega)
theorem tbf_all : ints .u32 (tbf 256) 256 = ints .u32 crt 256 := ints_congr (fun j hj => tbf_at 256 j hj)
theorem shf_one {n : Nat} (h : an n 1 = 1) : shf n = xo (sr n 1) 3988292384 := if_pos h
theorem shf_two {n : Nat} (h : an n 1 ≠ 1) : shf n = sr n 1 := if_neg h
set_option maxHeartbeats 2000000 in
set_option maxRecDepth 100000 in
theorem shifted_1 (n : Nat) (hn : an n 1 = 1) (w : World) :
    Calls Try.prog 109 #[W32 n] w fun e w' => e = .returned (W32 (xo (sr n 1) 3988292384)) ∧ Below w.heap.size w w' := by
  have H0 : Hid (_ ∧ _) := ⟨Mm.nil w, Below.refl w.heap.size w⟩
  go_enter Try.func109, Try.ntmps109
  refine wp_seq ?_
  refine sq_startW (l := [0]) rfl (fun u0 hu0 => ?_)
  have H1 : Hid (Mm u0 [] ∧ Below w.heap.size w u0) := by rw [hu0]; exact H0
  clear hu0 H0
  refine rest_set (d := 2) (v := .int .u32 0) (w' := u0) rfl rfl rfl (rfl) ?_
  simp only [Act.put, sa, sz, ss]
  refine rest_nil (then_normal ?_)
  refine wp_seq (wp_seq ?_)
  refine sq_start (l := [0, 1, 2]) rfl ?_
  refine rest_set (d := 3) (v := W32 n) (w' := u0) rfl rfl rfl (rfl) ?_
  simp only [Act.put, sa, sz, ss]
  refine rest_set (d := 4) (v := W32 (an n 1)) (w' := u0) rfl rfl rfl (ex_and32 (a := n) (b := 1) rfl rfl rfl) ?_
  simp only [Act.put, sa, sz, ss]
  refine rest_set (d := 5) (v := .bool true) (w' := u0) rfl rfl rfl (ex_eq32 (a := an n 1) (b := 1) (decide_eq_true hn) rfl rfl rfl) ?_
  simp only [Act.put, sa, sz, ss]
  refine rest_nil (then_normal ?_)
  refine wp_cond_true rfl (wp_seq ?_)
  refine sq_start (l := [0, 1, 2, 3]) rfl ?_
  refine rest_set (d := 6) (v := W32 n) (w' := u0) rfl rfl rfl (rfl) ?_
  simp only [Act.put, sa, sz, ss]
  refine rest_set (d := 7) (v := W32 (sr n 1)) (w' := u0) rfl rfl rfl (ex_shr32 (k := 1) (by decide) rfl rfl rfl) ?_
  simp only [Act.put, sa, sz, ss]
  refine rest_set (d := 8) (v := W32 (xo (sr n 1) 3988292384)) (w' := u0) rfl rfl rfl (ex_xor32 (a := sr n 1) (b := 3988292384) rfl rfl rfl) ?_
  simp only [Act.put, sa, sz, ss]
  refine rest_set (d := 2) (v := W32 (xo (sr n 1) 3988292384)) (w' := u0) rfl rfl rfl (rfl) ?_
  simp only [Act.put, sa, sz, ss]
  refine rest_nil (then_normal (wp_ret ?_))
  repeat (first | refine then_ret ?_ | refine block_ret ?_)
  refine bodyPost_ret (v := W32 (xo (sr n 1) 3988292384)) (by simp [results, Try.results109, go_sem, *]) rfl ?_
  exact ⟨rfl, H1.out.2⟩
set_option maxHeartbeats 2000000 in
set_option maxRecDepth 100000 in
theorem shifted_0 (n : Nat) (hn : ¬an n 1 = 1) (w : World) :
    Calls Try.prog 109 #[W32 n] w fun e w' => e = .returned (W32 (sr n 1)) ∧ Below w.heap.size w w' := by
  have H0 : Hid (_ ∧ _) := ⟨Mm.nil w, Below.refl w.heap.size w⟩
  go_enter Try.func109, Try.ntmps109
  refine wp_seq ?_
  refine sq_startW (l := [0]) rfl (fun u0 hu0 => ?_)
  have H1 : Hid (Mm u0 [] ∧ Below w.heap.size w u0) := by rw [hu0]; exact H0
  clear hu0 H0
  refine rest_set (d := 2) (v := .int .u32 0) (w' := u0) rfl rfl rfl (rfl) ?_
  simp only [Act.put, sa, sz, ss]
  refine rest_nil (then_normal ?_)
  refine wp_seq (wp_seq ?_)
  refine sq_start (l := [0, 1, 2]) rfl ?_
  refine rest_set (d := 3) (v := W32 n) (w' := u0) rfl rfl rfl (rfl) ?_
  simp only [Act.put, sa, sz, ss]
  refine rest_set (d := 4) (v := W32 (an n 1)) (w' := u0) rfl rfl rfl (ex_and32 (a := n) (b := 1) rfl rfl rfl) ?_
  simp only [Act.put, sa, sz, ss]
  refine rest_set (d := 5) (v := .bool false) (w' := u0) rfl rfl rfl (ex_eq32 (a := an n 1) (b := 1) (decide_eq_false hn) rfl rfl rfl) ?_
  simp only [Act.put, sa, sz, ss]
  refine rest_nil (then_normal ?_)
  refine wp_cond_false rfl (wp_skip ?_)
  refine then_normal (wp_seq ?_)
  refine sq_start (l := [0, 1, 2]) rfl ?_
  refine rest_set (d := 9) (v := W32 n) (w' := u0) rfl rfl rfl (rfl) ?_
  simp only [Act.put, sa, sz, ss]
  refine rest_set (d := 10) (v := W32 (sr n 1)) (w' := u0) rfl rfl rfl (ex_shr32 (k := 1) (by decide) rfl rfl rfl) ?_
  simp only [Act.put, sa, sz, ss]
  refine rest_set (d := 2) (v := W32 (sr n 1)) (w' := u0) rfl rfl rfl (rfl) ?_
  simp only [Act.put, sa, sz, ss]
  refine rest_nil (then_normal (wp_ret ?_))
  repeat (first | refine then_ret ?_ | refine block_ret ?_)
  refine bodyPost_ret (v := W32 (sr n 1)) (by simp [results, Try.results109, go_sem, *]) rfl ?_
  exact ⟨rfl, H1.out.2⟩
theorem shifted_any (n : Nat) (w : World) : Calls Try.prog 109 #[W32 n] w fun e w' => e = .returned (W32 (shf n)) ∧ Below w.heap.size w w' := by
  by_cases h : an n 1 = 1
  · rw [shf_one h]
    exact shifted_1 n h w
  · rw [shf_two h]
    exact shifted_0 n h w
set_option maxHeartbeats 4000000 in
set_option maxRecDepth 100000 in
theorem newTable_any  (w : World) :
    Calls Try.prog 81 #[] w fun e w' => e = .returned (.agg (ints .u32 crt 256).toArray) ∧ Below w.heap.size w w' := by
  have H0 : Hid (_ ∧ _) := ⟨Mm.nil w, Below.refl w.heap.size w⟩
  go_enter Try.func81, Try.ntmps81
  refine wp_seq ?_
  refine sq_startW (l := [0]) rfl (fun u0 hu0 => ?_)
  have H1 : Hid (Mm u0 [] ∧ Below w.heap.size w u0) := by rw [hu0]; exact H0
  clear hu0 H0
  refine rest_set (d := 0) (v := PT u0.heap.size 0) (w' := (u0.alloc (.cells (ints .u32 (fun _ => 0) 256 : List Value).toArray 88))) rfl rfl rfl (ex_mkT rfl) ?_
  simp only [Act.put, List.setIfInBounds_toArray, List.set_cons_zero]
  have o_γs2 : Hid (w.heap.size ≤ u0.heap.size) := H1.out.2.size
  have H2 : Hid (Mm (u0.alloc (.cells (ints .u32 (fun _ => 0) 256 : List Value).toArray 88)) ((u0.heap.size, ints .u32 (fun _ => 0) 256) :: []) ∧ Below w.heap.size w (u0.alloc (.cells (ints .u32 (fun _ => 0) 256 : List Value).toArray 88))) := ⟨H1.out.1.alloc _ 88 rfl, H1.out.2.trans (((Below.refl _ _).alloc (Nat.le_refl _) _).mono H1.out.2.size)⟩
  clear H1
  generalize hgw : u0.alloc (.cells (ints .u32 (fun _ => 0) 256 : List Value).toArray 88) = w2 at H2 ⊢
  clear hgw
  generalize u0.heap.size = γs2 at o_γs2 H2 ⊢
  refine rest_nil (then_normal (wp_seq ?_))
  refine sq_start (l := [0]) rfl ?_
  refine rest_set (d := 1) (v := PT w2.heap.size 0) (w' := (w2.alloc (.cells (ints .u32 (fun _ => 0) 256 : List Value).toArray 88))) rfl rfl rfl (ex_mkT rfl) ?_
  simp only [Act.put, sa, sz, ss]
  have o_γs3 : Hid (w.heap.size ≤ w2.heap.size) := H2.out.2.size
  have H3 : Hid (Mm (w2.alloc (.cells (ints .u32 (fun _ => 0) 256 : List Value).toArray 88)) ((w2.heap.size, ints .u32 (fun _ => 0) 256) :: [(γs2, ints .u32 (fun _ => 0) 256)]) ∧ Below w.heap.size w (w2.alloc (.cells (ints .u32 (fun _ => 0) 256 : List Value).toArray 88))) := ⟨H2.out.1.alloc _ 88 rfl, H2.out.2.trans (((Below.refl _ _).alloc (Nat.le_refl _) _).mono H2.out.2.size)⟩
  clear H2
  generalize hgw : w2.alloc (.cells (ints .u32 (fun _ => 0) 256 : List Value).toArray 88) = w3 at H3 ⊢
  clear hgw
  generalize w2.heap.size = γs3 at o_γs3 H3 ⊢
  refine rest_nil (then_normal ?_)
  refine wp_seq (wp_seq ?_)
  refine sq_start (l := [0]) rfl ?_
  refine rest_set (d := 4) (v := .int .i64 0) (w' := w3) rfl rfl rfl (rfl) ?_
  simp only [Act.put, sa, sz, ss]
  refine rest_nil (then_normal (wp_block ?_))
  refine loop_ghost (α := Nat) (fun x a' w' => ∃ s0 : Nat → Value, a' = ⟨#[PT γs2 0, PT γs3 0, s0 2, s0 3, .int .i64 ((x : Nat) : Int), s0 5, s0 6, s0 7, s0 8, s0 9, s0 10, s0 11, s0 12, s0 13, s0 14, s0 15, s0 16, s0 17, undef], []⟩ ∧ (Mm w' [(γs3, ints .u32 (tbf x) 256), (γs2, ints .u32 (fun _ => 0) 256)] ∧ Below w.heap.size w w') ∧ x ≤ 256) (fun x => 256 - x) 0 ?st0 ?rd0
  case st0 => exact ⟨(slotfn [undef, undef, undef, undef, undef, undef, undef, undef, undef, undef, undef, undef, undef, undef, undef, undef, undef, undef]), rfl, ⟨H3.out.1, H3.out.2⟩, Nat.zero_le _⟩
  intro x a' w4 hI
  obtain ⟨s0, rfl, hMB, hk0⟩ := hI
  have H4 : Hid (_ ∧ _) := hMB
  clear hMB H3
  by_cases hltx : x < 256
  · have hrd : True := trivial
    clear hrd
    refine wp_seq ?_
    refine sq_start (l := [0]) rfl ?_
    refine rest_set (d := 5) (v := .bool true) (w' := w4) rfl rfl rfl (by go_simp <;> omega) ?_
    simp only [Act.put, sa, sz, ss]
    refine rest_nil (then_normal ?_)
    refine wp_seq (wp_cond_true rfl ?_)
    refine wp_skip (then_normal ?_)
    refine wp_seq (wp_block (wp_seq ?_))
    refine sq_start (l := [0, 1]) rfl ?_
    refine rest_set (d := 6) (v := .int .i64 ((x : Nat) : Int)) (w' := w4) rfl rfl rfl (rfl) ?_
    simp only [Act.put, sa, sz, ss]
    refine rest_set (d := 2) (v := .int .i64 ((x : Nat) : Int)) (w' := w4) rfl rfl rfl (rfl) ?_
    simp only [Act.put, sa, sz, ss]
    refine rest_nil (then_normal (wp_seq ?_))
    refine sq_start (l := [0, 1, 2]) rfl ?_
    refine rest_set (d := 7) (v := .int .i64 ((x : Nat) : Int)) (w' := w4) rfl rfl rfl (rfl) ?_
    simp only [Act.put, sa, sz, ss]
    refine rest_set (d := 8) (v := W32 (c32 x)) (w' := w4) rfl rfl rfl (ex_cvIW (a := x) rfl rfl) ?_
    simp only [Act.put, sa, sz, ss]
    refine rest_set (d := 3) (v := W32 (c32 x)) (w' := w4) rfl rfl rfl (rfl) ?_
    simp only [Act.put, sa, sz, ss]
    refine rest_nil (then_normal ?_)
    refine wp_seq (wp_seq ?_)
    refine sq_start (l := [0]) rfl ?_
    refine rest_set (d := 9) (v := .int .i64 0) (w' := w4) rfl rfl rfl (rfl) ?_
    simp only [Act.put, sa, sz, ss]
    refine rest_nil (then_normal (wp_block ?_))
    refine loop_ghost (α := Nat) (fun y a' w' => ∃ s2 : Nat → Value, a' = ⟨#[PT γs2 0, PT γs3 0, .int .i64 ((x : Nat) : Int), W32 (shN (c32 x) y), .int .i64 ((x : Nat) : Int), .bool true, .int .i64 ((x : Nat) : Int), .int .i64 ((x : Nat) : Int), W32 (c32 x), .int .i64 ((y : Nat) : Int), s2 10, s2 11, s2 12, s2 13, s0 14, s0 15, s0 16, s0 17, undef], []⟩ ∧ (Mm w' [(γs3, ints .u32 (tbf x) 256), (γs2, ints .u32 (fun _ => 0) 256)] ∧ Below w.heap.size w w') ∧ y ≤ 8) (fun y => 8 - y) 0 ?st2 ?rd2
    case st2 => exact ⟨(slotfn [undef, undef, undef, undef, undef, undef, undef, undef, undef, undef, s0 10, s0 11, s0 12, s0 13]), rfl, ⟨H4.out.1, H4.out.2⟩, Nat.zero_le _⟩
    intro y a' w5 hI
    obtain ⟨s2, rfl, hMB, hk2⟩ := hI
    have H5 : Hid (_ ∧ _) := hMB
    clear hMB H4
    by_cases hlty : y < 8
    · have hrd : True := trivial
      clear hrd
      refine wp_seq ?_
      refine sq_start (l := [0]) rfl ?_
      refine rest_set (d := 10) (v := .bool true) (w' := w5) rfl rfl rfl (by go_simp <;> omega) ?_
      simp only [Act.put, sa, sz, ss]
      refine rest_nil (then_normal ?_)
      refine wp_seq (wp_cond_true rfl ?_)
      refine wp_skip (then_normal ?_)
      refine wp_seq (wp_block ?_)
      refine sq_start (l := [0, 1, 2]) rfl ?_
      refine rest_set (d := 11) (v := W32 (shN (c32 x) y)) (w' := w5) rfl rfl rfl (rfl) ?_
      simp only [Act.put, sa, sz, ss]
      refine rest_enter (d := 12) (R := fun vv w' => vv = W32 (shf (shN (c32 x) y)) ∧ Below w5.heap.size w5 w') rfl rfl rfl (exec_call (args := #[W32 (shN (c32 x) y)]) rfl call109 rfl (mpn rfl)) (Calls.mono (shifted_any _ w5) (fun e w2 hh => ⟨_, hh.1, rfl, hh.2⟩)) ?_
      rintro _ w6 ⟨rfl, hb⟩
      have H6 : Hid (Mm w6 [(γs3, ints .u32 (tbf x) 256), (γs2, ints .u32 (fun _ => 0) 256)] ∧ Below w.heap.size w w6) := ⟨H5.out.1.below hb, H5.out.2.trans (hb.mono H5.out.2.size)⟩
      clear hb
      clear H5
      simp only [Act.put, sa, sz, ss]
      refine rest_set (d := 3) (v := W32 (shf (shN (c32 x) y))) (w' := w6) rfl rfl rfl (rfl) ?_
      simp only [Act.put, sa, sz, ss]
      refine rest_nil (block_normal (then_normal ?_))
      refine sq_start (l := [0, 1]) rfl ?_
      refine rest_set (d := 13) (v := .int .i64 ((y + 1 : Nat) : Int)) (w' := w6) rfl rfl rfl (by go_simp; rw [IntKind.wrap_i64]; omega) ?_
      simp only [Act.put, sa, sz, ss]
      refine rest_set (d := 9) (v := .int .i64 ((y + 1 : Nat) : Int)) (w' := w6) rfl rfl rfl (rfl) ?_
      simp only [Act.put, sa, sz, ss]
      refine rest_nil (then_normal ?_)
      exact ⟨y + 1, ⟨(slotfn [undef, undef, undef, undef, undef, undef, undef, undef, undef, undef, .bool true, W32 (shN (c32 x) y), W32 (shf (shN (c32 x) y)), .int .i64 ((y + 1 : Nat) : Int)]), rfl, ⟨H6.out.1, H6.out.2⟩, (show y + 1 ≤ 8 by omega)⟩, (show 8 - (y + 1) < 8 - y by omega)⟩
    refine wp_seq ?_
    refine sq_start (l := [0]) rfl ?_
    refine rest_set (d := 10) (v := .bool false) (w' := w5) rfl rfl rfl (by go_simp <;> omega) ?_
    simp only [Act.put, sa, sz, ss]
    refine rest_nil (then_normal ?_)
    refine wp_seq (wp_cond_false rfl ?_)
    refine wp_exit ?_
    repeat refine then_exit ?_
    refine block_exit ?_
    obtain rfl : y = 8 := (show y = 8 by omega)
    refine then_normal ?_
    refine sq_start (l := [0, 1, 2, 3]) rfl ?_
    refine rest_set (d := 14) (v := .int .i64 ((x : Nat) : Int)) (w' := w5) rfl rfl rfl (rfl) ?_
    simp only [Act.put, sa, sz, ss]
    refine rest_set (d := 15) (v := W32 (shN (c32 x) 8)) (w' := w5) rfl rfl rfl (rfl) ?_
    simp only [Act.put, sa, sz, ss]
    refine rest_set (d := 16) (v := PT γs3 x) (w' := w5) rfl rfl rfl (ex_ixT1 (j := x) rfl rfl rfl (by omega)) ?_
    simp only [Act.put, sa, sz, ss]
    refine rest_store rfl rfl rfl (ex_storeI H5.out.1 0 rfl rfl Try.sizeOf72 rfl rfl (by rw [ints_len]; omega)) ?_
    have H7 : Hid (Mm (w5.setCells γs3 x [W32 (shN (c32 x) 8)]) [(γs3, ints .u32 (tbf (x + 1)) 256), (γs2, ints .u32 (fun _ => 0) 256)] ∧ Below w.heap.size w (w5.setCells γs3 x [W32 (shN (c32 x) 8)])) := ⟨by
      have h := H5.out.1.put 0 (off := x) (vs := [W32 (shN (c32 x) 8)]) rfl (by rw [ints_len]; simp only [List.length_cons, List.length_nil]; omega)
      rw [ints_patch _ _ _ _ (by omega)] at h
      exact h, below_setCells _ o_γs3.out _ _ _ H5.out.2⟩
    clear H5
    generalize hgw : World.setCells _ _ _ _ = w7 at H7 ⊢
    clear hgw
    refine rest_nil (block_normal (then_normal ?_))
    refine sq_start (l := [0, 1]) rfl ?_
    refine rest_set (d := 17) (v := .int .i64 ((x + 1 : Nat) : Int)) (w' := w7) rfl rfl rfl (by go_simp; rw [IntKind.wrap_i64]; omega) ?_
    simp only [Act.put, sa, sz, ss]
    refine rest_set (d := 4) (v := .int .i64 ((x + 1 : Nat) : Int)) (w' := w7) rfl rfl rfl (rfl) ?_
    simp only [Act.put, sa, sz, ss]
    refine rest_nil (then_normal ?_)
    exact ⟨x + 1, ⟨(slotfn [undef, undef, .int .i64 ((x : Nat) : Int), W32 (shN (c32 x) 8), undef, .bool true, .int .i64 ((x : Nat) : Int), .int .i64 ((x : Nat) : Int), W32 (c32 x), .int .i64 ((8 : Nat) : Int), .bool false, s2 11, s2 12, s2 13, .int .i64 ((x : Nat) : Int), W32 (shN (c32 x) 8), PT γs3 x, .int .i64 ((x + 1 : Nat) : Int)]), rfl, ⟨H7.out.1, H7.out.2⟩, (show x + 1 ≤ 256 by omega)⟩, (show 256 - (x + 1) < 256 - x by omega)⟩
  refine wp_seq ?_
  refine sq_start (l := [0]) rfl ?_
  refine rest_set (d := 5) (v := .bool false) (w' := w4) rfl rfl rfl (by go_simp <;> omega) ?_
  simp only [Act.put, sa, sz, ss]
  refine rest_nil (then_normal ?_)
  refine wp_seq (wp_cond_false rfl ?_)
  refine wp_exit ?_
  repeat refine then_exit ?_
  refine block_exit ?_
  obtain rfl : x = 256 := (show x = 256 by omega)
  have H8 : Hid (Mm w4 [(γs3, ints .u32 crt 256), (γs2, ints .u32 (fun _ => 0) 256)] ∧ Below w.heap.size w w4) := ⟨by rw [← tbf_all]; exact H4.out.1, H4.out.2⟩
  clear H4
  refine then_normal (wp_seq ?_)
  refine sq_start (l := [0, 1]) rfl ?_
  refine rest_set (d := 18) (v := .agg (ints .u32 crt 256).toArray) (w' := w4) rfl rfl rfl (ex_loadT H8.out.1 0 rfl rfl rfl Try.isAgg88 Try.sizeOf88 (ints_whole _ _ _) (ints_len _ _ _)) ?_
  simp only [Act.put, sa, sz, ss]
  refine rest_store rfl rfl rfl (ex_storeT (vs := ints .u32 crt 256) H8.out.1 1 rfl rfl rfl rfl (by rw [ints_len]; exact Try.sizeOf88) (ints_all _ _ _) (by rw [ints_len, ints_len]; omega)) ?_
  have H9 : Hid (Mm (w4.setCells γs2 0 (ints .u32 crt 256)) [(γs3, ints .u32 crt 256), (γs2, ints .u32 crt 256)] ∧ Below w.heap.size w (w4.setCells γs2 0 (ints .u32 crt 256))) := ⟨by
    have h := H8.out.1.put 1 (off := 0) (vs := ints .u32 crt 256) rfl (by rw [ints_len, ints_len]; omega)
    rw [ints_patch0] at h
    exact h, below_setCells _ o_γs2.out _ _ _ H8.out.2⟩
  clear H8
  generalize hgw : World.setCells _ _ _ _ = w9 at H9 ⊢
  clear hgw
  refine rest_nil (then_normal (wp_ret ?_))
  repeat (first | refine then_ret ?_ | refine block_ret ?_)
  have hf0 := var_T H9.out.1 1 rfl Try.isAgg88 Try.sizeOf88 (ints_len _ _ _)
  refine bodyPost_ret (v := .agg (ints .u32 crt 256).toArray) (by simp [results, Try.results81, asAddr, hf0]) rfl ?_
  exact ⟨rfl, H9.out.2⟩
set_option maxHeartbeats 2000000 in
set_option maxRecDepth 100000 in
theorem check_any (g t : Nat) (q : Pt8) (hn : q.n < 4611686018427387904) (w : World) (hT0 : Tb g t w) (hq0 : Pok q ∧ q.rs w) :
    Calls Try.prog 86 #[PT g t, .slice q.p q.n q.cp] w fun e w' => e = .returned (W32 (crc q.f q.n)) ∧ Below w.heap.size w w' := by
  have H0 : Hid (_ ∧ _) := ⟨Mm.nil w, Below.refl w.heap.size w⟩
  have hT : Hid _ := hT0
  have hq : Hid _ := hq0
  clear hT0 hq0
  go_enter Try.func86, Try.ntmps86
  refine wp_seq ?_
  refine sq_startW (l := [0]) rfl (fun u0 hu0 => ?_)
  have H1 : Hid (Mm u0 [] ∧ Below w.heap.size w u0) := by rw [hu0]; exact H0
  clear hu0 H0
  refine rest_set (d := 4) (v := .int .u32 0) (w' := u0) rfl rfl rfl (rfl) ?_
  simp only [Act.put, sa, sz, ss]
  refine rest_nil (then_normal (wp_seq ?_))
  refine sq_start (l := [0]) rfl ?_
  refine rest_set (d := 5) (v := .int .u32 4294967295) (w' := u0) rfl rfl rfl (rfl) ?_
  simp only [Act.put, sa, sz, ss]
  refine rest_nil (then_normal ?_)
  refine wp_seq (wp_seq ?_)
  refine sq_start (l := [0, 1, 2]) rfl ?_
  refine rest_set (d := 8) (v := .slice q.p q.n q.cp) (w' := u0) rfl rfl rfl (rfl) ?_
  simp only [Act.put, sa, sz, ss]
  refine rest_set (d := 9) (v := .int .i64 ((q.n : Nat) : Int)) (w' := u0) rfl rfl rfl (by go_simp) ?_
  simp only [Act.put, sa, sz, ss]
  refine rest_set (d := 10) (v := .int .i64 0) (w' := u0) rfl rfl rfl (rfl) ?_
  simp only [Act.put, sa, sz, ss]
  refine rest_nil (then_normal (wp_block ?_))
  refine loop_ghost (α := Nat) (fun x a' w' => ∃ s0 : Nat → Value, a' = ⟨#[PT g t, .slice q.p q.n q.cp, undef, undef, .int .u32 0, W32 (crn q.f x), undef, s0 7, .slice q.p q.n q.cp, .int .i64 ((q.n : Nat) : Int), .int .i64 ((x : Nat) : Int), s0 11, s0 12, s0 13, s0 14, s0 15, s0 16, s0 17, s0 18, s0 19, s0 20, s0 21, s0 22, s0 23, s0 24, s0 25, undef, undef], []⟩ ∧ (Mm w' [] ∧ Below w.heap.size w w') ∧ x ≤ q.n) (fun x => q.n - x) 0 ?st0 ?rd0
  case st0 => exact ⟨(slotfn [undef, undef, undef, undef, undef, undef, undef, undef, undef, undef, undef, undef, undef, undef, undef, undef, undef, undef, undef, undef, undef, undef, undef, undef, undef, undef]), rfl, ⟨H1.out.1, H1.out.2⟩, Nat.zero_le _⟩
  intro x a' w2 hI
  obtain ⟨s0, rfl, hMB, hk0⟩ := hI
  have H2 : Hid (_ ∧ _) := hMB
  clear hMB H1
  by_cases hltx : x < q.n
  · have hrd : True := trivial
    clear hrd
    refine wp_seq ?_
    refine sq_start (l := [0]) rfl ?_
    refine rest_set (d := 11) (v := .bool true) (w' := w2) rfl rfl rfl (by go_simp <;> omega) ?_
    simp only [Act.put, sa, sz, ss]
    refine rest_nil (then_normal ?_)
    refine wp_seq (wp_cond_true rfl ?_)
    refine wp_skip (then_normal ?_)
    refine wp_seq (wp_block (wp_seq ?_))
    refine sq_start (l := [0, 1, 2]) rfl ?_
    refine rest_set (d := 12) (v := PT q.gb (q.o + x)) (w' := w2) rfl rfl rfl (ex_ixP22 (hq.out.1.at (by omega)) rfl rfl rfl hltx) ?_
    simp only [Act.put, sa, sz, ss]
    refine rest_set (d := 13) (v := Z8 (q.f x)) (w' := w2) rfl rfl rfl (ex_ldB (hq.out.2.below H2.out.2) hltx rfl rfl) ?_
    simp only [Act.put, sa, sz, ss]
    refine rest_set (d := 7) (v := Z8 (q.f x)) (w' := w2) rfl rfl rfl (rfl) ?_
    simp only [Act.put, sa, sz, ss]
    refine rest_nil (then_normal ?_)
    refine sq_start (l := [0, 1, 2, 3, 4, 5, 6, 7, 8, 9, 10, 11]) rfl ?_
    refine rest_set (d := 14) (v := W32 (crn q.f x)) (w' := w2) rfl rfl rfl (rfl) ?_
    simp only [Act.put, sa, sz, ss]
    refine rest_set (d := 15) (v := W32 (sr (crn q.f x) 8)) (w' := w2) rfl rfl rfl (ex_shr32 (k := 8) (by decide) rfl rfl rfl) ?_
    simp only [Act.put, sa, sz, ss]
    refine rest_set (d := 16) (v := PT g t) (w' := w2) rfl rfl rfl (rfl) ?_
    simp only [Act.put, sa, sz, ss]
    refine rest_set (d := 17) (v := W32 (crn q.f x)) (w' := w2) rfl rfl rfl (rfl) ?_
    simp only [Act.put, sa, sz, ss]
    refine rest_set (d := 18) (v := Z8 ((crn q.f x) % 256)) (w' := w2) rfl rfl rfl (ex_cvWB rfl rfl) ?_
    simp only [Act.put, sa, sz, ss]
    refine rest_set (d := 19) (v := Z8 (q.f x)) (w' := w2) rfl rfl rfl (rfl) ?_
    simp only [Act.put, sa, sz, ss]
    refine rest_set (d := 20) (v := Z8 (xb ((crn q.f x) % 256) (q.f x))) (w' := w2) rfl rfl rfl (ex_xor8 rfl rfl rfl) ?_
    simp only [Act.put, sa, sz, ss]
    refine rest_set (d := 21) (v := PT g t) (w' := w2) rfl rfl rfl (by go_simp) ?_
    simp only [Act.put, sa, sz, ss]
    refine rest_set (d := 22) (v := PT g (t + (xb ((crn q.f x) % 256) (q.f x)))) (w' := w2) rfl rfl rfl (ex_ixT8 rfl rfl rfl (xb_lt _ _)) ?_
    simp only [Act.put, sa, sz, ss]
    refine rest_set (d := 23) (v := W32 (crt (xb ((crn q.f x) % 256) (q.f x)))) (w' := w2) rfl rfl rfl (ex_ldT (hT.out.below H2.out.2) (xb_lt _ _) rfl rfl) ?_
    simp only [Act.put, sa, sz, ss]
    refine rest_set (d := 24) (v := W32 (xo (sr (crn q.f x) 8) (crt (xb ((crn q.f x) % 256) (q.f x))))) (w' := w2) rfl rfl rfl (ex_xor32 (a := sr (crn q.f x) 8) (b := crt (xb ((crn q.f x) % 256) (q.f x))) rfl rfl rfl) ?_
    simp only [Act.put, sa, sz, ss]
    refine rest_set (d := 5) (v := W32 (xo (sr (crn q.f x) 8) (crt (xb ((crn q.f x) % 256) (q.f x))))) (w' := w2) rfl rfl rfl (rfl) ?_
    simp only [Act.put, sa, sz, ss]
    refine rest_nil (block_normal (then_normal ?_))
    refine sq_start (l := [0, 1]) rfl ?_
    refine rest_set (d := 25) (v := .int .i64 ((x + 1 : Nat) : Int)) (w' := w2) rfl rfl rfl (by go_simp; rw [IntKind.wrap_i64]; omega) ?_
    simp only [Act.put, sa, sz, ss]
    refine rest_set (d := 10) (v := .int .i64 ((x + 1 : Nat) : Int)) (w' := w2) rfl rfl rfl (rfl) ?_
    simp only [Act.put, sa, sz, ss]
    refine rest_nil (then_normal ?_)
    exact ⟨x + 1, ⟨(slotfn [undef, undef, undef, undef, undef, undef, undef, Z8 (q.f x), undef, undef, undef, .bool true, PT q.gb (q.o + x), Z8 (q.f x), W32 (crn q.f x), W32 (sr (crn q.f x) 8), PT g t, W32 (crn q.f x), Z8 ((crn q.f x) % 256), Z8 (q.f x), Z8 (xb ((crn q.f x) % 256) (q.f x)), PT g t, PT g (t + (xb ((crn q.f x) % 256) (q.f x))), W32 (crt (xb ((crn q.f x) % 256) (q.f x))), W32 (xo (sr (crn q.f x) 8) (crt (xb ((crn q.f x) % 256) (q.f x)))), .int .i64 ((x + 1 : Nat) : Int)]), rfl, ⟨H2.out.1, H2.out.2⟩, (show x + 1 ≤ q.n by omega)⟩, (show q.n - (x + 1) < q.n - x by omega)⟩
  refine wp_seq ?_
  refine sq_start (l := [0]) rfl ?_
  refine rest_set (d := 11) (v := .bool false) (w' := w2) rfl rfl rfl (by go_simp <;> omega) ?_
  simp only [Act.put, sa, sz, ss]
  refine rest_nil (then_normal ?_)
  refine wp_seq (wp_cond_false rfl ?_)
  refine wp_exit ?_
  repeat refine then_exit ?_
  refine block_exit ?_
  have hxn : x = q.n := by omega
  refine then_normal (wp_seq ?_)
  refine sq_start (l := [0, 1, 2]) rfl ?_
  refine rest_set (d := 26) (v := W32 (crn q.f x)) (w' := w2) rfl rfl rfl (rfl) ?_
  simp only [Act.put, sa, sz, ss]
  refine rest_set (d := 27) (v := W32 (nt (crn q.f x))) (w' := w2) rfl rfl rfl (ex_not32 rfl rfl) ?_
  simp only [Act.put, sa, sz, ss]
  refine rest_set (d := 4) (v := W32 (nt (crn q.f x))) (w' := w2) rfl rfl rfl (rfl) ?_
  simp only [Act.put, sa, sz, ss]
  refine rest_nil (then_normal (wp_ret ?_))
  repeat (first | refine then_ret ?_ | refine block_ret ?_)
  refine bodyPost_ret (v := W32 (nt (crn q.f x))) (by simp [results, Try.results86, go_sem, *]) rfl ?_
  exact ⟨by rw [hxn]; rfl, H2.out.2⟩
end Wi
end Rg
end Go.Proofs.Ytidicdlfjdlpnaa
end
section
namespace Go.Proofs.Ytidicdlfjdlpnaa
open Go.RowKit
namespace Rg
namespace Wi
theorem call86 : ∀ args w, (callFunc 86 args).run Try.prog w = .ok (.enter 86 args) w := by intro args w; go_simp
theorem call113 : ∀ args w, (callFunc 113 args).run Try.prog w = .ok (.enter 113 args) w := by intro args w; go_simp
theorem call120 : ∀ args w, (callFunc 120 args).run Try.prog w = .ok (.enter 120 args) w := by intro args w; go_simp
set_option maxRecDepth 100000
/-- A part's first k, a part without its first k. -/
def Pt8.tk (q : Pt8) (k : Nat) : Pt8 := ⟨q.gb, q.o, k, q.cp, q.p, q.f⟩
def Pt8.dp (q : Pt8) (k : Nat) : Pt8 := ⟨q.gb, q.o + k, q.n - k, q.cp - k, if q.cp = k then q.p else q.p.map (·.add k), fun j => q.f (k + j)⟩
theorem Pok.tk {q : Pt8} (h : Pok q) {k : Nat} (hk : k ≤ q.n) : Pok (q.tk k) := by
  refine ⟨⟨fun h0 => ?_, fun h0 => ⟨_, _, by rw [← h0]⟩⟩, Nat.le_trans hk h.le⟩
  have e := h.at (Nat.lt_of_lt_of_le h0 hk)
  show Value.slice q.p k q.cp = _
  rw [e]
  rfl
theorem Pok.dp {q : Pt8} (h : Pok q) {k : Nat} (hk : k ≤ q.n) : Pok (q.dp k) := by
  refine ⟨⟨fun h0 => ?_, fun h0 => ⟨_, _, by rw [← h0]⟩⟩, ?_⟩
  · have h1 : k < q.n := by have : 0 < q.n - k := h0; omega
    have h2 := h.le
    have e := h.at (by omega)
    show Value.slice (if q.cp = k then q.p else q.p.map (·.add k)) (q.n - k) (q.cp - k) = .slice (some ⟨q.gb, q.o + k + 0, none⟩) (q.n - k - 0) (q.cp - k - 0)
    rw [if_neg (by omega), e, Option.map_some, show (⟨q.gb, q.o, none⟩ : Addr).add k = ⟨q.gb, q.o + k, none⟩ by unfold Addr.add; split <;> simp_all]
    rfl
  · have h2 := h.le
    show q.n - k ≤ q.cp - k
    omega
theorem Pt8.rs_tk {q : Pt8} {w : World} (h : q.rs w) {k : Nat} (hk : k ≤ q.n) : (q.tk k).rs w := ⟨fun h0 => h.lt (Nat.lt_of_lt_of_le h0 hk), fun i hi => h.at_ i (Nat.lt_of_lt_of_le hi hk)⟩
theorem Pt8.rs_dp {q : Pt8} {w : World} (h : q.rs w) {k : Nat} (hk : k ≤ q.n) : (q.dp k).rs w := ⟨fun h0 => h.lt (by have : 0 < q.n - k := h0; omega), fun i hi => by
  have h1 : i < q.n - k := hi
  have e := h.at_ (k + i) (by omega)
  rw [← Nat.add_assoc] at e
  exact e⟩
theorem Pt8.dp_no {q : Pt8} (h : q.p = none → q.cp = 0) (k : Nat) : (q.dp k).p = none → (q.dp k).cp = 0 := fun e => by
  have e2 : (if q.cp = k then q.p else q.p.map (·.add k)) = none := e
  show q.cp - k = 0
  by_cases hc : q.cp = k
  · omega
  · rw [if_neg hc] at e2
    have : q.p = none := by cases hp : q.p with | none => rfl | some a => rw [hp] at e2; cases e2
    rw [h this]
    omega
theorem Pt8.tk_no {q : Pt8} (h : q.p = none → q.cp = 0) (k : Nat) : (q.tk k).p = none → (q.tk k).cp = 0 := h
/-- The number at a part's front. -/
def Pt8.nb (q : Pt8) : Nat := nb4 (q.f 0) (q.f 1) (q.f 2) (q.f 3)
theorem nb4_lt (a b c d : Nat) : nb4 a b c d < 4294967296 := Nat.mod_lt _ (by decide)
section
variable {ρ : Operand → Value} {o : Oper} {x x0 x1 x2 x3 y z : Operand} {a b c d k m : Nat} {w : World}
theorem ex_bs34_4 (ho : o.op = .buildSlice 34 4 #[(0, x0), (1, x1), (2, x2), (3, x3)]) (h0 : ρ x0 = Z8 a) (h1 : ρ x1 = Z8 b) (h2 : ρ x2 = Z8 c) (h3 : ρ x3 = Z8 d) : (execOp ρ o).run Try.prog w = .ok (.value (.slice (some ⟨w.heap.size, 0, none⟩) 4 4)) (w.alloc (.cells ([Z8 a, Z8 b, Z8 c, Z8 d] : List Value).toArray 5)) := by
  simp only [execOp, ho, List.map_toArray, List.map_cons, List.map_nil, h0, h1, h2, h3]
  kernel_rfl
theorem ex_tkQ {q : Pt8} (hk : k ≤ q.cp) (ho : o.op = .slice 34 x none (some y) none) (hx : ρ x = .slice q.p q.n q.cp) (hy : ρ y = .int .i64 (k : Int)) : (execOp ρ o).run Try.prog w = .ok (.value (.slice (q.tk k).p (q.tk k).n (q.tk k).cp)) w := ex_take hk ho hx hy
theorem ex_dpQ {q : Pt8} (hk : k ≤ q.n) (ho : o.op = .slice 34 x (some y) none none) (hx : ρ x = .slice q.p q.n q.cp) (hy : ρ y = .int .i64 (k : Int)) : (execOp ρ o).run Try.prog w = .ok (.value (.slice (q.dp k).p (q.dp k).n (q.dp k).cp)) w := ex_drop hk ho hx hy
theorem ex_mdQ {q : Pt8} (hk : k ≤ m) (hm : m ≤ q.cp) (ho : o.op = .slice 34 x (some y) (some z) none) (hx : ρ x = .slice q.p q.n q.cp) (hy : ρ y = .int .i64 (k : Int)) (hz : ρ z = .int .i64 (m : Int)) : (execOp ρ o).run Try.prog w = .ok (.value (.slice (((q.tk m).dp k)).p ((q.tk m).dp k).n ((q.tk m).dp k).cp)) w := by
  have h1 : (k : Int) ≤ m := by omega
  have h2 : (m : Int) ≤ q.cp := by omega
  show (execOp ρ o).run Try.prog w = .ok (.value (.slice (if q.cp = k then q.p else q.p.map (·.add k)) (m - k) (q.cp - k))) w
  obtain ⟨gb, oo, n, cp, p, f⟩ := q
  simp only [execOp, ho, hx, hy, hz, Option.map_some, Option.map_none]
  clear ho hx hy hz
  cases p <;> go_simp
end
set_option maxHeartbeats 2000000 in
set_option maxRecDepth 100000 in
theorem number_any (q : Pt8) (hn : 4 ≤ q.n) (w : World) (hq0 : Pok q ∧ q.rs w) :
    Calls Try.prog 120 #[.slice q.p q.n q.cp] w fun e w' => e = .returned (W32 q.nb) ∧ Below w.heap.size w w' := by
  have H0 : Hid (_ ∧ _) := ⟨Mm.nil w, Below.refl w.heap.size w⟩
  have hq : Hid _ := hq0
  clear hq0
  go_enter Try.func120, Try.ntmps120
  refine wp_seq ?_
  refine sq_startW (l := [0]) rfl (fun u0 hu0 => ?_)
  have H1 : Hid (Mm u0 [] ∧ Below w.heap.size w u0) := by rw [hu0]; exact H0
  clear hu0 H0
  refine rest_set (d := 2) (v := .int .u32 0) (w' := u0) rfl rfl rfl (rfl) ?_
  simp only [Act.put, sa, sz, ss]
  refine rest_nil (then_normal (wp_seq ?_))
  refine (walk_any) (by kernel_rfl) 23 [.quiet (.slice q.p q.n q.cp), .quiet (PT q.gb (q.o + 0)), .quiet (Z8 (q.f 0)), .quiet (W32 (c32 (q.f 0))), .quiet (W32 (sl (c32 (q.f 0)) 24)), .quiet (.slice q.p q.n q.cp), .quiet (PT q.gb (q.o + 1)), .quiet (Z8 (q.f 1)), .quiet (W32 (c32 (q.f 1))), .quiet (W32 (sl (c32 (q.f 1)) 16)), .quiet (W32 (ou (sl (c32 (q.f 0)) 24) (sl (c32 (q.f 1)) 16))), .quiet (.slice q.p q.n q.cp), .quiet (PT q.gb (q.o + 2)), .quiet (Z8 (q.f 2)), .quiet (W32 (c32 (q.f 2))), .quiet (W32 (sl (c32 (q.f 2)) 8)), .quiet (W32 (ou (ou (sl (c32 (q.f 0)) 24) (sl (c32 (q.f 1)) 16)) (sl (c32 (q.f 2)) 8))), .quiet (.slice q.p q.n q.cp), .quiet (PT q.gb (q.o + 3)), .quiet (Z8 (q.f 3)), .quiet (W32 (c32 (q.f 3))), .quiet (W32 (ou (ou (ou (sl (c32 (q.f 0)) 24) (sl (c32 (q.f 1)) 16)) (sl (c32 (q.f 2)) 8)) (c32 (q.f 3)))), .quiet (W32 (ou (ou (ou (sl (c32 (q.f 0)) 24) (sl (c32 (q.f 1)) 16)) (sl (c32 (q.f 2)) 8)) (c32 (q.f 3))))] (fun u' => Mm u' [] ∧ Below w.heap.size w u') ?pre2 ?F2 ?hpre2 (fun γ => ?hF2) (by kernel_rfl) ?hL2 ?hS2 ?ho2 ?he2
  case hpre2 => simp only [tk, tz]; rfl
  case hF2 => simp only [fill, Kind.val, Act.put, sa, sz, ss]; rfl
  case hL2 => exact trivial
  case hS2 => exact fun w' hb => ⟨H1.out.1.below hb, H1.out.2.trans (hb.mono H1.out.2.size)⟩
  case ho2 =>
    refine ak (fun _ => ⟨rfl, fun _ _ => rfl⟩) ?_
    refine ak (fun γ => ⟨rfl, fun w' _ => ex_ixP22 (j := 0) (hq.out.1.at (by omega)) rfl rfl rfl (by omega)⟩) ?_
    refine ak (fun γ => ⟨rfl, fun w' hX => ex_ldB (j := 0) (hq.out.2.below hX.2) (by omega) rfl rfl⟩) ?_
    refine ak (fun γ => ⟨rfl, fun w' _ => ex_cvBW rfl rfl⟩) ?_
    refine ak (fun γ => ⟨rfl, fun w' _ => ex_shl32 (k := 24) (by decide) rfl rfl rfl⟩) ?_
    refine ak (fun _ => ⟨rfl, fun _ _ => rfl⟩) ?_
    refine ak (fun γ => ⟨rfl, fun w' _ => ex_ixP22 (j := 1) (hq.out.1.at (by omega)) rfl rfl rfl (by omega)⟩) ?_
    refine ak (fun γ => ⟨rfl, fun w' hX => ex_ldB (j := 1) (hq.out.2.below hX.2) (by omega) rfl rfl⟩) ?_
    refine ak (fun γ => ⟨rfl, fun w' _ => ex_cvBW rfl rfl⟩) ?_
    refine ak (fun γ => ⟨rfl, fun w' _ => ex_shl32 (k := 16) (by decide) rfl rfl rfl⟩) ?_
    refine ak (fun γ => ⟨rfl, fun w' _ => ex_or32 (a := sl (c32 (q.f 0)) 24) (b := sl (c32 (q.f 1)) 16) rfl rfl rfl⟩) ?_
    refine ak (fun _ => ⟨rfl, fun _ _ => rfl⟩) ?_
    refine ak (fun γ => ⟨rfl, fun w' _ => ex_ixP22 (j := 2) (hq.out.1.at (by omega)) rfl rfl rfl (by omega)⟩) ?_
    refine ak (fun γ => ⟨rfl, fun w' hX => ex_ldB (j := 2) (hq.out.2.below hX.2) (by omega) rfl rfl⟩) ?_
    refine ak (fun γ => ⟨rfl, fun w' _ => ex_cvBW rfl rfl⟩) ?_
    refine ak (fun γ => ⟨rfl, fun w' _ => ex_shl32 (k := 8) (by decide) rfl rfl rfl⟩) ?_
    refine ak (fun γ => ⟨rfl, fun w' _ => ex_or32 (a := ou (sl (c32 (q.f 0)) 24) (sl (c32 (q.f 1)) 16)) (b := sl (c32 (q.f 2)) 8) rfl rfl rfl⟩) ?_
    refine ak (fun _ => ⟨rfl, fun _ _ => rfl⟩) ?_
    refine ak (fun γ => ⟨rfl, fun w' _ => ex_ixP22 (j := 3) (hq.out.1.at (by omega)) rfl rfl rfl (by omega)⟩) ?_
    refine ak (fun γ => ⟨rfl, fun w' hX => ex_ldB (j := 3) (hq.out.2.below hX.2) (by omega) rfl rfl⟩) ?_
    refine ak (fun γ => ⟨rfl, fun w' _ => ex_cvBW rfl rfl⟩) ?_
    refine ak (fun γ => ⟨rfl, fun w' _ => ex_or32 (a := ou (ou (sl (c32 (q.f 0)) 24) (sl (c32 (q.f 1)) 16)) (sl (c32 (q.f 2)) 8)) (b := c32 (q.f 3)) rfl rfl rfl⟩) ?_
    refine ak (fun _ => ⟨rfl, fun _ _ => rfl⟩) ?_
    exact trivial
  intro γ w2 l hM hl
  have H2 := keepB H1 hM.below
  clear hM hl l H1 γ
  refine rest0 rfl (then_normal (wp_ret ?_))
  repeat (first | refine then_ret ?_ | refine block_ret ?_)
  refine bodyPost_ret (v := W32 (ou (ou (ou (sl (c32 (q.f 0)) 24) (sl (c32 (q.f 1)) 16)) (sl (c32 (q.f 2)) 8)) (c32 (q.f 3)))) (by simp [results, Try.results120, go_sem, *]) rfl ?_
  exact ⟨rfl, H2.out.2⟩
theorem by4_cells {w : World} {g x : Nat} (hm : Mm w [(g, [Z8 (sr x 24 % 256), Z8 (sr x 16 % 256), Z8 (sr x 8 % 256), Z8 (x % 256)])]) {i : Nat} (hi : i < 4) : w.cell? ⟨g, 0 + i, none⟩ = some (Z8 (by4 x i)) := by
  rw [Nat.zero_add]
  obtain rfl | rfl | rfl | rfl : i = 0 ∨ i = 1 ∨ i = 2 ∨ i = 3 := by omega
  · exact hm.get 0 rfl 0 rfl
  · exact hm.get 0 rfl 1 rfl
  · exact hm.get 0 rfl 2 rfl
  · exact hm.get 0 rfl 3 rfl
set_option maxHeartbeats 2000000 in
set_option maxRecDepth 100000 in
theorem put4_any (ps : Option Addr) (n cs B x : Nat) (P : Nat → Nat) (hbd : n + 4 ≤ 2097152) (w : World) (hB : B ≤ w.heap.size) (row0 : w.ownsRow B 5 1 (Value.slice ps n cs) n (ints .u8 P n)) :
    Calls Try.prog 111 #[.slice ps n cs, W32 x] w fun e w' => ∃ v', e = .returned v' ∧ w'.ownsRow B 5 1 v' (n + 4) (ints .u8 (ct P n (by4 x)) (n + 4)) ∧ Chg (vbl (Value.slice ps n cs)) w w' := by
  have H0 : Hid (_ ∧ _) := ⟨Mm.nil w, Below.refl w.heap.size w⟩
  have row : Hid _ := row0
  clear row0
  go_enter Try.func111, Try.ntmps111
  refine wp_seq ?_
  refine sq_startW (l := [0]) rfl (fun u0 hu0 => ?_)
  have H1 : Hid (Mm u0 [] ∧ Below w.heap.size w u0) := by rw [hu0]; exact H0
  clear hu0 H0
  refine rest_set (d := 4) (v := .slice none 0 0) (w' := u0) rfl rfl rfl (rfl) ?_
  simp only [Act.put, sa, sz, ss]
  refine rest_nil (then_normal (wp_seq ?_))
  refine sq_start (l := [0, 1, 2, 3, 4, 5, 6, 7, 8, 9, 10, 11, 12, 13, 14]) rfl ?_
  refine rest_set (d := 5) (v := .slice ps n cs) (w' := u0) rfl rfl rfl (rfl) ?_
  simp only [Act.put, sa, sz, ss]
  refine rest_set (d := 6) (v := W32 x) (w' := u0) rfl rfl rfl (rfl) ?_
  simp only [Act.put, sa, sz, ss]
  refine rest_set (d := 7) (v := W32 (sr x 24)) (w' := u0) rfl rfl rfl (ex_shr32 (k := 24) (by decide) rfl rfl rfl) ?_
  simp only [Act.put, sa, sz, ss]
  refine rest_set (d := 8) (v := Z8 ((sr x 24) % 256)) (w' := u0) rfl rfl rfl (ex_cvWB rfl rfl) ?_
  simp only [Act.put, sa, sz, ss]
  refine rest_set (d := 9) (v := W32 x) (w' := u0) rfl rfl rfl (rfl) ?_
  simp only [Act.put, sa, sz, ss]
  refine rest_set (d := 10) (v := W32 (sr x 16)) (w' := u0) rfl rfl rfl (ex_shr32 (k := 16) (by decide) rfl rfl rfl) ?_
  simp only [Act.put, sa, sz, ss]
  refine rest_set (d := 11) (v := Z8 ((sr x 16) % 256)) (w' := u0) rfl rfl rfl (ex_cvWB rfl rfl) ?_
  simp only [Act.put, sa, sz, ss]
  refine rest_set (d := 12) (v := W32 x) (w' := u0) rfl rfl rfl (rfl) ?_
  simp only [Act.put, sa, sz, ss]
  refine rest_set (d := 13) (v := W32 (sr x 8)) (w' := u0) rfl rfl rfl (ex_shr32 (k := 8) (by decide) rfl rfl rfl) ?_
  simp only [Act.put, sa, sz, ss]
  refine rest_set (d := 14) (v := Z8 ((sr x 8) % 256)) (w' := u0) rfl rfl rfl (ex_cvWB rfl rfl) ?_
  simp only [Act.put, sa, sz, ss]
  refine rest_set (d := 15) (v := W32 x) (w' := u0) rfl rfl rfl (rfl) ?_
  simp only [Act.put, sa, sz, ss]
  refine rest_set (d := 16) (v := Z8 (x % 256)) (w' := u0) rfl rfl rfl (ex_cvWB rfl rfl) ?_
  simp only [Act.put, sa, sz, ss]
  refine rest_set (d := 17) (v := .slice (some ⟨u0.heap.size, 0, none⟩) 4 4) (w' := (u0.alloc (.cells ([Z8 ((sr x 24) % 256), Z8 ((sr x 16) % 256), Z8 ((sr x 8) % 256), Z8 (x % 256)] : List Value).toArray 5))) rfl rfl rfl (ex_bs34_4 rfl rfl rfl rfl rfl) ?_
  simp only [Act.put, sa, sz, ss]
  have o_γs2 : Hid (w.heap.size ≤ u0.heap.size) := H1.out.2.size
  have H2 : Hid (Mm (u0.alloc (.cells ([Z8 ((sr x 24) % 256), Z8 ((sr x 16) % 256), Z8 ((sr x 8) % 256), Z8 (x % 256)] : List Value).toArray 5)) ((u0.heap.size, [Z8 ((sr x 24) % 256), Z8 ((sr x 16) % 256), Z8 ((sr x 8) % 256), Z8 (x % 256)]) :: []) ∧ Below w.heap.size w (u0.alloc (.cells ([Z8 ((sr x 24) % 256), Z8 ((sr x 16) % 256), Z8 ((sr x 8) % 256), Z8 (x % 256)] : List Value).toArray 5))) := ⟨H1.out.1.alloc _ 5 rfl, H1.out.2.trans (((Below.refl _ _).alloc (Nat.le_refl _) _).mono H1.out.2.size)⟩
  clear H1
  generalize hgw : u0.alloc (.cells ([Z8 ((sr x 24) % 256), Z8 ((sr x 16) % 256), Z8 ((sr x 8) % 256), Z8 (x % 256)] : List Value).toArray 5) = w2 at H2 ⊢
  clear hgw
  generalize u0.heap.size = γs2 at o_γs2 H2 ⊢
  obtain ⟨vr, w3, hr, hO, hG, h5⟩ := own_appQ (own_keep row.out (fun b hb => H2.out.2.block b (own_lt row.out b hb))) (Nat.le_trans hB H2.out.2.size) (q := ⟨γs2, 0, 4, 4, some ⟨γs2, 0, none⟩, by4 x⟩) ⟨Bv.start _ _ _ _, Nat.le_refl _⟩ (fun e => by cases e) ⟨fun _ => (H2.out.1.blk _ (List.mem_cons_self ..)).1, fun i hi => by4_cells H2.out.1 hi⟩ hbd 34
  refine rest_set (d := 18) (v := vr) (w' := w3) rfl rfl rfl (ex_app rfl rfl rfl hr) ?_
  simp only [Act.put, sa, sz, ss]
  have hC : Chg (vbl (Value.slice ps n cs)) w w3 := (Chg.of H2.out.2).trans (Chg.grown hG) (fun x hx => .inl hx)
  have hOO : Hid _ := hO
  have hV : Hid (∀ x ∈ vbl vr, x ∈ vbl (Value.slice ps n cs) ∨ w.heap.size ≤ x) := vbl_new h5 H2.out.2.size rfl
  have H3 : Hid (Mm w3 [] ∧ Chg (vbl (Value.slice ps n cs)) w w3) := ⟨Mm.nil _, hC⟩
  clear hr hO hG h5 hC H2
  refine rest_set (d := 4) (v := vr) (w' := w3) rfl rfl rfl (rfl) ?_
  simp only [Act.put, sa, sz, ss]
  refine rest_nil (then_normal (wp_ret ?_))
  repeat (first | refine then_ret ?_ | refine block_ret ?_)
  refine bodyPost_ret (v := vr) (by simp [results, Try.results111, go_sem, *]) rfl ?_
  exact ⟨_, rfl, hOO.out, H3.out.2⟩
theorem put4_v (v : Value) (n B x : Nat) (P : Nat → Nat) (hbd : n + 4 ≤ 2097152) (w : World) (hB : B ≤ w.heap.size) (row0 : w.ownsRow B 5 1 v n (ints .u8 P n)) : Calls Try.prog 111 #[v, W32 x] w fun e w' => ∃ v', e = .returned v' ∧ w'.ownsRow B 5 1 v' (n + 4) (ints .u8 (ct P n (by4 x)) (n + 4)) ∧ Chg (vbl v) w w' := by
  obtain ⟨ps, cs, rfl, _⟩ := own_slice row0
  exact put4_any ps n cs B x P hbd w hB row0
set_option maxHeartbeats 2000000 in
set_option maxRecDepth 100000 in
theorem framed_any (n : Nat) (hn : n < 4611686018427387904) (w : World) :
    Calls Try.prog 110 #[.int .i64 ((n : Nat) : Int)] w fun e w' => e = .returned (.int .i64 ((8 + n + 4 : Nat) : Int)) ∧ Below w.heap.size w w' := by
  have H0 : Hid (_ ∧ _) := ⟨Mm.nil w, Below.refl w.heap.size w⟩
  go_enter Try.func110, Try.ntmps110
  refine wp_seq ?_
  refine sq_startW (l := [0]) rfl (fun u0 hu0 => ?_)
  have H1 : Hid (Mm u0 [] ∧ Below w.heap.size w u0) := by rw [hu0]; exact H0
  clear hu0 H0
  refine rest_set (d := 2) (v := .int .i64 0) (w' := u0) rfl rfl rfl (rfl) ?_
  simp only [Act.put, sa, sz, ss]
  refine rest_nil (then_normal (wp_seq ?_))
  refine sq_start (l := [0, 1, 2, 3]) rfl ?_
  refine rest_set (d := 3) (v := .int .i64 ((n : Nat) : Int)) (w' := u0) rfl rfl rfl (rfl) ?_
  simp only [Act.put, sa, sz, ss]
  refine rest_set (d := 4) (v := .int .i64 ((8 + n : Nat) : Int)) (w' := u0) rfl rfl rfl (by go_simp; rw [IntKind.wrap_i64]; omega) ?_
  simp only [Act.put, sa, sz, ss]
  refine rest_set (d := 5) (v := .int .i64 ((8 + n + 4 : Nat) : Int)) (w' := u0) rfl rfl rfl (by go_simp; rw [IntKind.wrap_i64]; omega) ?_
  simp only [Act.put, sa, sz, ss]
  refine rest_set (d := 2) (v := .int .i64 ((8 + n + 4 : Nat) : Int)) (w' := u0) rfl rfl rfl (rfl) ?_
  simp only [Act.put, sa, sz, ss]
  refine rest_nil (then_normal (wp_ret ?_))
  repeat (first | refine then_ret ?_ | refine block_ret ?_)
  refine bodyPost_ret (v := .int .i64 ((8 + n + 4 : Nat) : Int)) (by simp [results, Try.results110, go_sem, *]) rfl ?_
  exact ⟨rfl, H1.out.2⟩
set_option maxHeartbeats 2000000 in
set_option maxRecDepth 100000 in
theorem holds_any (g t : Nat) (q r : Pt8) (hn : q.n < 4611686018427387904) (hr4 : 4 ≤ r.n) (w : World) (hT0 : Tb g t w) (hq0 : Pok q ∧ q.rs w) (hr0 : Pok r ∧ r.rs w) :
    Calls Try.prog 113 #[PT g t, .slice q.p q.n q.cp, .slice r.p r.n r.cp] w fun e w' => e = .returned (.bool (decide (crc q.f q.n = r.nb))) ∧ Below w.heap.size w w' := by
  have H0 : Hid (_ ∧ _) := ⟨Mm.nil w, Below.refl w.heap.size w⟩
  have hT : Hid _ := hT0
  have hq : Hid _ := hq0
  clear hT0 hq0
  have hr : Hid _ := hr0
  clear hr0
  go_enter Try.func113, Try.ntmps113
  refine wp_seq ?_
  refine sq_startW (l := [0]) rfl (fun u0 hu0 => ?_)
  have H1 : Hid (Mm u0 [] ∧ Below w.heap.size w u0) := by rw [hu0]; exact H0
  clear hu0 H0
  refine rest_set (d := 6) (v := .bool false) (w' := u0) rfl rfl rfl (rfl) ?_
  simp only [Act.put, sa, sz, ss]
  refine rest_nil (then_normal (wp_seq ?_))
  refine sq_start (l := [0, 1, 2, 3, 4, 5, 6]) rfl ?_
  refine rest_set (d := 7) (v := PT g t) (w' := u0) rfl rfl rfl (rfl) ?_
  simp only [Act.put, sa, sz, ss]
  refine rest_set (d := 8) (v := .slice q.p q.n q.cp) (w' := u0) rfl rfl rfl (rfl) ?_
  simp only [Act.put, sa, sz, ss]
  refine rest_enter (d := 9) (R := fun vv w' => vv = W32 (crc q.f q.n) ∧ Below u0.heap.size u0 w') rfl rfl rfl (exec_call (args := #[PT g t, .slice q.p q.n q.cp]) rfl call86 rfl (mpn rfl)) (Calls.mono (check_any g t q hn u0 (hT.out.below H1.out.2) ⟨hq.out.1, hq.out.2.below H1.out.2⟩) (fun e w2 hh => ⟨_, hh.1, rfl, hh.2⟩)) ?_
  rintro _ w2 ⟨rfl, hb⟩
  have H2 : Hid (Mm w2 [] ∧ Below w.heap.size w w2) := ⟨H1.out.1.below hb, H1.out.2.trans (hb.mono H1.out.2.size)⟩
  clear hb
  clear H1
  simp only [Act.put, sa, sz, ss]
  refine rest_set (d := 10) (v := .slice r.p r.n r.cp) (w' := w2) rfl rfl rfl (rfl) ?_
  simp only [Act.put, sa, sz, ss]
  refine rest_enter (d := 11) (R := fun vv w' => vv = W32 r.nb ∧ Below w2.heap.size w2 w') rfl rfl rfl (exec_call (args := #[.slice r.p r.n r.cp]) rfl call120 rfl (mpn rfl)) (Calls.mono (number_any r hr4 w2 ⟨hr.out.1, hr.out.2.below H2.out.2⟩) (fun e w2 hh => ⟨_, hh.1, rfl, hh.2⟩)) ?_
  rintro _ w3 ⟨rfl, hb⟩
  have H3 : Hid (Mm w3 [] ∧ Below w.heap.size w w3) := ⟨H2.out.1.below hb, H2.out.2.trans (hb.mono H2.out.2.size)⟩
  clear hb
  clear H2
  simp only [Act.put, sa, sz, ss]
  refine rest_set (d := 12) (v := .bool (decide (crc q.f q.n = r.nb))) (w' := w3) rfl rfl rfl (ex_eq32 (a := crc q.f q.n) (b := r.nb) (rfl) rfl rfl rfl) ?_
  simp only [Act.put, sa, sz, ss]
  refine rest_set (d := 6) (v := .bool (decide (crc q.f q.n = r.nb))) (w' := w3) rfl rfl rfl (rfl) ?_
  simp only [Act.put, sa, sz, ss]
  refine rest_nil (then_normal (wp_ret ?_))
  repeat (first | refine then_ret ?_ | refine block_ret ?_)
  refine bodyPost_ret (v := .bool (decide (crc q.f q.n = r.nb))) (by simp [results, Try.results113, go_sem, *]) rfl ?_
  exact ⟨rfl, H3.out.2⟩
theorem holds_is (g t : Nat) (q r : Pt8) (c : Bool) (hn : q.n < 4611686018427387904) (hr4 : 4 ≤ r.n) (hc : decide (crc q.f q.n = r.nb) = c) (w : World) (hT : Tb g t w) (hq : Pok q ∧ q.rs w) (hr : Pok r ∧ r.rs w) : Calls Try.prog 113 #[PT g t, .slice q.p q.n q.cp, .slice r.p r.n r.cp] w fun e w' => e = .returned (.bool c) ∧ Below w.heap.size w w' := by
  rw [← hc]
  exact holds_any g t q r hn hr4 w hT hq hr
set_option maxHeartbeats 2000000 in
set_option maxRecDepth 100000 in
theorem length_big (g t : Nat) (q : Pt8) (hn8 : 8 ≤ q.n) (hbig : 65536 < q.nb) (w : World) (hT0 : Tb g t w) (hq0 : Pok q ∧ q.rs w) :
    Calls Try.prog 112 #[PT g t, .slice q.p q.n q.cp] w fun e w' => e = .returned (.tuple #[.int .i64 0, .int .i64 14]) ∧ Below w.heap.size w w' := by
  have H0 : Hid (_ ∧ _) := ⟨Mm.nil w, Below.refl w.heap.size w⟩
  have hT : Hid _ := hT0
  have hq : Hid _ := hq0
  clear hT0 hq0
  go_enter Try.func112, Try.ntmps112
  refine wp_seq ?_
  refine sq_startW (l := [0, 1]) rfl (fun u0 hu0 => ?_)
  have H1 : Hid (Mm u0 [] ∧ Below w.heap.size w u0) := by rw [hu0]; exact H0
  clear hu0 H0
  refine rest_set (d := 4) (v := .int .i64 0) (w' := u0) rfl rfl rfl (rfl) ?_
  simp only [Act.put, sa, sz, ss]
  refine rest_set (d := 5) (v := .int .i64 0) (w' := u0) rfl rfl rfl (rfl) ?_
  simp only [Act.put, sa, sz, ss]
  refine rest_nil (then_normal (wp_seq ?_))
  refine sq_start (l := [0, 1, 2]) rfl ?_
  refine rest_set (d := 7) (v := .slice q.p q.n q.cp) (w' := u0) rfl rfl rfl (rfl) ?_
  simp only [Act.put, sa, sz, ss]
  refine rest_enter (d := 8) (R := fun vv w' => vv = W32 q.nb ∧ Below u0.heap.size u0 w') rfl rfl rfl (exec_call (args := #[.slice q.p q.n q.cp]) rfl call120 rfl (mpn rfl)) (Calls.mono (number_any q (by omega) u0 ⟨hq.out.1, hq.out.2.below H1.out.2⟩) (fun e w2 hh => ⟨_, hh.1, rfl, hh.2⟩)) ?_
  rintro _ w2 ⟨rfl, hb⟩
  have H2 : Hid (Mm w2 [] ∧ Below w.heap.size w w2) := ⟨H1.out.1.below hb, H1.out.2.trans (hb.mono H1.out.2.size)⟩
  clear hb
  clear H1
  simp only [Act.put, sa, sz, ss]
  refine rest_set (d := 6) (v := W32 q.nb) (w' := w2) rfl rfl rfl (rfl) ?_
  simp only [Act.put, sa, sz, ss]
  refine rest_nil (then_normal ?_)
  refine wp_seq (wp_seq ?_)
  refine walk_anyB 11 [.quiet (W32 q.nb), .quiet (.bool true), .quiet (.bool true), .gone, .gone, .gone, .gone, .gone, .gone, .gone, .quiet (.bool true)] H2 ?ho3 ?he3
  case ho3 => exact ak (fun _ => ⟨rfl, fun _ _ => rfl⟩) (ak (fun γ => ⟨rfl, fun w' _ => ex_gt32 (a := q.nb) (b := 65536) (decide_eq_true hbig) rfl rfl rfl⟩) (ak (fun _ => ⟨rfl, fun _ _ => rfl⟩) (ak (fun γ => rfl) (ak (fun γ => rfl) (ak (fun γ => rfl) (ak (fun γ => rfl) (ak (fun γ => rfl) (ak (fun γ => rfl) (ak (fun γ => rfl) (ak (by refine fun γ => ⟨rfl, fun w' h => ?_⟩; clear h; go_simp) trivial))))))))))
  intro _ w3 H3
  clear H2
  refine rest0 rfl (then_normal (wp_cond_true rfl (wp_seq ?_)))
  refine sq_start (l := [0, 1]) rfl ?_
  refine rest_set (d := 4) (v := .int .i64 0) (w' := w3) rfl rfl rfl (rfl) ?_
  simp only [Act.put, sa, sz, ss]
  refine rest_set (d := 5) (v := .int .i64 14) (w' := w3) rfl rfl rfl (rfl) ?_
  simp only [Act.put, sa, sz, ss]
  refine rest_nil (then_normal (wp_ret ?_))
  repeat (first | refine then_ret ?_ | refine block_ret ?_)
  refine bodyPost_ret (v := .tuple #[.int .i64 0, .int .i64 14]) (by simp [results, Try.results112, go_sem, *]) rfl ?_
  exact ⟨rfl, H3.out.2⟩
set_option maxHeartbeats 2000000 in
set_option maxRecDepth 100000 in
theorem length_bad (g t : Nat) (q : Pt8) (hn8 : 8 ≤ q.n) (hbig : ¬65536 < q.nb) (hck : decide (crc q.f 4 = (q.dp 4).nb) = false) (w : World) (hT0 : Tb g t w) (hq0 : Pok q ∧ q.rs w) :
    Calls Try.prog 112 #[PT g t, .slice q.p q.n q.cp] w fun e w' => e = .returned (.tuple #[.int .i64 0, .int .i64 14]) ∧ Below w.heap.size w w' := by
  have H0 : Hid (_ ∧ _) := ⟨Mm.nil w, Below.refl w.heap.size w⟩
  have hT : Hid _ := hT0
  have hq : Hid _ := hq0
  clear hT0 hq0
  go_enter Try.func112, Try.ntmps112
  refine wp_seq ?_
  refine sq_startW (l := [0, 1]) rfl (fun u0 hu0 => ?_)
  have H1 : Hid (Mm u0 [] ∧ Below w.heap.size w u0) := by rw [hu0]; exact H0
  clear hu0 H0
  refine rest_set (d := 4) (v := .int .i64 0) (w' := u0) rfl rfl rfl (rfl) ?_
  simp only [Act.put, sa, sz, ss]
  refine rest_set (d := 5) (v := .int .i64 0) (w' := u0) rfl rfl rfl (rfl) ?_
  simp only [Act.put, sa, sz, ss]
  refine rest_nil (then_normal (wp_seq ?_))
  refine sq_start (l := [0, 1, 2]) rfl ?_
  refine rest_set (d := 7) (v := .slice q.p q.n q.cp) (w' := u0) rfl rfl rfl (rfl) ?_
  simp only [Act.put, sa, sz, ss]
  refine rest_enter (d := 8) (R := fun vv w' => vv = W32 q.nb ∧ Below u0.heap.size u0 w') rfl rfl rfl (exec_call (args := #[.slice q.p q.n q.cp]) rfl call120 rfl (mpn rfl)) (Calls.mono (number_any q (by omega) u0 ⟨hq.out.1, hq.out.2.below H1.out.2⟩) (fun e w2 hh => ⟨_, hh.1, rfl, hh.2⟩)) ?_
  rintro _ w2 ⟨rfl, hb⟩
  have H2 : Hid (Mm w2 [] ∧ Below w.heap.size w w2) := ⟨H1.out.1.below hb, H1.out.2.trans (hb.mono H1.out.2.size)⟩
  clear hb
  clear H1
  simp only [Act.put, sa, sz, ss]
  refine rest_set (d := 6) (v := W32 q.nb) (w' := w2) rfl rfl rfl (rfl) ?_
  simp only [Act.put, sa, sz, ss]
  refine rest_nil (then_normal ?_)
  refine wp_seq (wp_seq ?_)
  refine walk_anyB 8 [.quiet (W32 q.nb), .quiet (.bool false), .quiet (.bool false), .quiet (PT g t), .quiet (.slice q.p q.n q.cp), .quiet (.slice (q.tk 4).p (q.tk 4).n (q.tk 4).cp), .quiet (.slice q.p q.n q.cp), .quiet (.slice (q.dp 4).p (q.dp 4).n (q.dp 4).cp)] H2 ?ho3 ?he3
  case ho3 => exact ak (fun _ => ⟨rfl, fun _ _ => rfl⟩) (ak (fun γ => ⟨rfl, fun w' _ => ex_gt32 (a := q.nb) (b := 65536) (decide_eq_false hbig) rfl rfl rfl⟩) (ak (fun _ => ⟨rfl, fun _ _ => rfl⟩) (ak (fun _ => ⟨rfl, fun _ _ => rfl⟩) (ak (fun _ => ⟨rfl, fun _ _ => rfl⟩) (ak (fun γ => ⟨rfl, fun w' _ => ex_tkQ (k := 4) (by have := hq.out.1.le; omega) rfl rfl rfl⟩) (ak (fun _ => ⟨rfl, fun _ _ => rfl⟩) (ak (fun γ => ⟨rfl, fun w' _ => ex_dpQ (k := 4) (by omega) rfl rfl rfl⟩) trivial)))))))
  intro _ w3 H3
  clear H2
  refine rest_at (l := [8, 9, 10]) rfl ?_
  refine rest_enter (d := 17) (R := fun vv w' => vv = .bool false ∧ Below w3.heap.size w3 w') rfl rfl rfl (exec_call (args := #[PT g t, .slice (q.tk 4).p (q.tk 4).n (q.tk 4).cp, .slice (q.dp 4).p (q.dp 4).n (q.dp 4).cp]) rfl call113 rfl (mpn rfl)) (Calls.mono (holds_is g t (q.tk 4) (q.dp 4) false (by show 4 < _; decide) (by show 4 ≤ q.n - 4; omega) hck w3 (hT.out.below H3.out.2) ⟨hq.out.1.tk (by omega), Pt8.rs_tk (hq.out.2.below H3.out.2) (by omega)⟩ ⟨hq.out.1.dp (by omega), Pt8.rs_dp (hq.out.2.below H3.out.2) (by omega)⟩) (fun e w2 hh => ⟨_, hh.1, rfl, hh.2⟩)) ?_
  rintro _ w4 ⟨rfl, hb⟩
  have H4 : Hid (Mm w4 [] ∧ Below w.heap.size w w4) := ⟨H3.out.1.below hb, H3.out.2.trans (hb.mono H3.out.2.size)⟩
  clear hb
  clear H3
  simp only [Act.put, sa, sz, ss]
  refine rest_set (d := 18) (v := .bool true) (w' := w4) rfl rfl rfl (by go_simp) ?_
  simp only [Act.put, sa, sz, ss]
  refine rest_set (d := 19) (v := .bool true) (w' := w4) rfl rfl rfl (by go_simp) ?_
  simp only [Act.put, sa, sz, ss]
  refine rest_nil (then_normal ?_)
  refine wp_cond_true rfl (wp_seq ?_)
  refine sq_start (l := [0, 1]) rfl ?_
  refine rest_set (d := 4) (v := .int .i64 0) (w' := w4) rfl rfl rfl (rfl) ?_
  simp only [Act.put, sa, sz, ss]
  refine rest_set (d := 5) (v := .int .i64 14) (w' := w4) rfl rfl rfl (rfl) ?_
  simp only [Act.put, sa, sz, ss]
  refine rest_nil (then_normal (wp_ret ?_))
  repeat (first | refine then_ret ?_ | refine block_ret ?_)
  refine bodyPost_ret (v := .tuple #[.int .i64 0, .int .i64 14]) (by simp [results, Try.results112, go_sem, *]) rfl ?_
  exact ⟨rfl, H4.out.2⟩
set_option maxHeartbeats 2000000 in
set_option maxRecDepth 100000 in
theorem length_ok (g t : Nat) (q : Pt8) (hn8 : 8 ≤ q.n) (hbig : ¬65536 < q.nb) (hck : decide (crc q.f 4 = (q.dp 4).nb) = true) (w : World) (hT0 : Tb g t w) (hq0 : Pok q ∧ q.rs w) :
    Calls Try.prog 112 #[PT g t, .slice q.p q.n q.cp] w fun e w' => e = .returned (.tuple #[.int .i64 ((q.nb : Nat) : Int), .int .i64 0]) ∧ Below w.heap.size w w' := by
  have H0 : Hid (_ ∧ _) := ⟨Mm.nil w, Below.refl w.heap.size w⟩
  have hT : Hid _ := hT0
  have hq : Hid _ := hq0
  clear hT0 hq0
  go_enter Try.func112, Try.ntmps112
  refine wp_seq ?_
  refine sq_startW (l := [0, 1]) rfl (fun u0 hu0 => ?_)
  have H1 : Hid (Mm u0 [] ∧ Below w.heap.size w u0) := by rw [hu0]; exact H0
  clear hu0 H0
  refine rest_set (d := 4) (v := .int .i64 0) (w' := u0) rfl rfl rfl (rfl) ?_
  simp only [Act.put, sa, sz, ss]
  refine rest_set (d := 5) (v := .int .i64 0) (w' := u0) rfl rfl rfl (rfl) ?_
  simp only [Act.put, sa, sz, ss]
  refine rest_nil (then_normal (wp_seq ?_))
  refine sq_start (l := [0, 1, 2]) rfl ?_
  refine rest_set (d := 7) (v := .slice q.p q.n q.cp) (w' := u0) rfl rfl rfl (rfl) ?_
  simp only [Act.put, sa, sz, ss]
  refine rest_enter (d := 8) (R := fun vv w' => vv = W32 q.nb ∧ Below u0.heap.size u0 w') rfl rfl rfl (exec_call (args := #[.slice q.p q.n q.cp]) rfl call120 rfl (mpn rfl)) (Calls.mono (number_any q (by omega) u0 ⟨hq.out.1, hq.out.2.below H1.out.2⟩) (fun e w2 hh => ⟨_, hh.1, rfl, hh.2⟩)) ?_
  rintro _ w2 ⟨rfl, hb⟩
  have H2 : Hid (Mm w2 [] ∧ Below w.heap.size w w2) := ⟨H1.out.1.below hb, H1.out.2.trans (hb.mono H1.out.2.size)⟩
  clear hb
  clear H1
  simp only [Act.put, sa, sz, ss]
  refine rest_set (d := 6) (v := W32 q.nb) (w' := w2) rfl rfl rfl (rfl) ?_
  simp only [Act.put, sa, sz, ss]
  refine rest_nil (then_normal ?_)
  refine wp_seq (wp_seq ?_)
  refine walk_anyB 8 [.quiet (W32 q.nb), .quiet (.bool false), .quiet (.bool false), .quiet (PT g t), .quiet (.slice q.p q.n q.cp), .quiet (.slice (q.tk 4).p (q.tk 4).n (q.tk 4).cp), .quiet (.slice q.p q.n q.cp), .quiet (.slice (q.dp 4).p (q.dp 4).n (q.dp 4).cp)] H2 ?ho3 ?he3
  case ho3 => exact ak (fun _ => ⟨rfl, fun _ _ => rfl⟩) (ak (fun γ => ⟨rfl, fun w' _ => ex_gt32 (a := q.nb) (b := 65536) (decide_eq_false hbig) rfl rfl rfl⟩) (ak (fun _ => ⟨rfl, fun _ _ => rfl⟩) (ak (fun _ => ⟨rfl, fun _ _ => rfl⟩) (ak (fun _ => ⟨rfl, fun _ _ => rfl⟩) (ak (fun γ => ⟨rfl, fun w' _ => ex_tkQ (k := 4) (by have := hq.out.1.le; omega) rfl rfl rfl⟩) (ak (fun _ => ⟨rfl, fun _ _ => rfl⟩) (ak (fun γ => ⟨rfl, fun w' _ => ex_dpQ (k := 4) (by omega) rfl rfl rfl⟩) trivial)))))))
  intro _ w3 H3
  clear H2
  refine rest_at (l := [8, 9, 10]) rfl ?_
  refine rest_enter (d := 17) (R := fun vv w' => vv = .bool true ∧ Below w3.heap.size w3 w') rfl rfl rfl (exec_call (args := #[PT g t, .slice (q.tk 4).p (q.tk 4).n (q.tk 4).cp, .slice (q.dp 4).p (q.dp 4).n (q.dp 4).cp]) rfl call113 rfl (mpn rfl)) (Calls.mono (holds_is g t (q.tk 4) (q.dp 4) true (by show 4 < _; decide) (by show 4 ≤ q.n - 4; omega) hck w3 (hT.out.below H3.out.2) ⟨hq.out.1.tk (by omega), Pt8.rs_tk (hq.out.2.below H3.out.2) (by omega)⟩ ⟨hq.out.1.dp (by omega), Pt8.rs_dp (hq.out.2.below H3.out.2) (by omega)⟩) (fun e w2 hh => ⟨_, hh.1, rfl, hh.2⟩)) ?_
  rintro _ w4 ⟨rfl, hb⟩
  have H4 : Hid (Mm w4 [] ∧ Below w.heap.size w w4) := ⟨H3.out.1.below hb, H3.out.2.trans (hb.mono H3.out.2.size)⟩
  clear hb
  clear H3
  simp only [Act.put, sa, sz, ss]
  refine rest_set (d := 18) (v := .bool false) (w' := w4) rfl rfl rfl (by go_simp) ?_
  simp only [Act.put, sa, sz, ss]
  refine rest_set (d := 19) (v := .bool false) (w' := w4) rfl rfl rfl (by go_simp) ?_
  simp only [Act.put, sa, sz, ss]
  refine rest_nil (then_normal ?_)
  refine wp_cond_false rfl (wp_skip ?_)
  refine then_normal (wp_seq ?_)
  refine sq_start (l := [0, 1, 2, 3]) rfl ?_
  refine rest_set (d := 20) (v := W32 q.nb) (w' := w4) rfl rfl rfl (rfl) ?_
  simp only [Act.put, sa, sz, ss]
  refine rest_set (d := 21) (v := .int .i64 ((q.nb : Nat) : Int)) (w' := w4) rfl rfl rfl (ex_cvWI (nb4_lt _ _ _ _) rfl rfl) ?_
  simp only [Act.put, sa, sz, ss]
  refine rest_set (d := 4) (v := .int .i64 ((q.nb : Nat) : Int)) (w' := w4) rfl rfl rfl (rfl) ?_
  simp only [Act.put, sa, sz, ss]
  refine rest_set (d := 5) (v := .int .i64 0) (w' := w4) rfl rfl rfl (rfl) ?_
  simp only [Act.put, sa, sz, ss]
  refine rest_nil (then_normal (wp_ret ?_))
  repeat (first | refine then_ret ?_ | refine block_ret ?_)
  refine bodyPost_ret (v := .tuple #[.int .i64 ((q.nb : Nat) : Int), .int .i64 0]) (by simp [results, Try.results112, go_sem, *]) rfl ?_
  exact ⟨rfl, H4.out.2⟩
set_option maxHeartbeats 2000000 in
set_option maxRecDepth 100000 in
theorem bclone_some (gb o n cp : Nat) (ad : Addr) (f : Nat → Nat) (hn : n ≤ 2097152) (w : World) (hq0 : Pok ⟨gb, o, n, cp, some ad, f⟩ ∧ Pt8.rs ⟨gb, o, n, cp, some ad, f⟩ w) :
    Calls Try.prog 114 #[.slice (some ad) n cp] w fun e w' => ∃ v, e = .returned v ∧ Cw w v n f w' := by
  have H0 : Hid (_ ∧ _) := ⟨Mm.nil w, Below.refl w.heap.size w⟩
  have hq : Hid _ := hq0
  clear hq0
  go_enter Try.func114, Try.ntmps114
  refine wp_seq ?_
  refine sq_startW (l := [0]) rfl (fun u0 hu0 => ?_)
  have H1 : Hid (Mm u0 [] ∧ Below w.heap.size w u0) := by rw [hu0]; exact H0
  clear hu0 H0
  refine rest_set (d := 2) (v := .slice none 0 0) (w' := u0) rfl rfl rfl (rfl) ?_
  simp only [Act.put, sa, sz, ss]
  refine rest_nil (then_normal ?_)
  refine wp_seq (wp_seq ?_)
  refine sq_start (l := [0, 1]) rfl ?_
  refine rest_set (d := 3) (v := .slice (some ad) n cp) (w' := u0) rfl rfl rfl (rfl) ?_
  simp only [Act.put, sa, sz, ss]
  refine rest_set (d := 4) (v := .bool false) (w' := u0) rfl rfl rfl (ex_eqN rfl rfl rfl) ?_
  simp only [Act.put, sa, sz, ss]
  refine rest_nil (then_normal ?_)
  refine wp_cond_false rfl (wp_skip ?_)
  refine then_normal (wp_seq ?_)
  refine sq_start (l := [0, 1, 2, 3]) rfl ?_
  refine rest_set (d := 5) (v := .slice (some ⟨u0.heap.size, 0, none⟩) 0 0) (w' := (u0.alloc (.cells #[] 5))) rfl rfl rfl (ex_bs0 rfl) ?_
  simp only [Act.put, sa, sz, ss]
  have H2 : Hid (Mm (u0.alloc (.cells #[] 5)) [] ∧ Cw w (.slice (some ⟨u0.heap.size, 0, none⟩) 0 0) 0 (fun _ => 0) (u0.alloc (.cells #[] 5))) := ⟨Mm.nil _, ⟨H1.out.2.trans (((Below.refl _ _).alloc (Nat.le_refl _) _).mono H1.out.2.size), World.ownsRow_made _ _ 0 H1.out.2.size (by decide) rfl⟩⟩
  clear H1
  generalize hgw : u0.alloc (.cells #[] 5) = w2 at H2 ⊢
  clear hgw
  generalize u0.heap.size = γm at H2 ⊢
  refine rest_set (d := 6) (v := .slice (some ad) n cp) (w' := w2) rfl rfl rfl (rfl) ?_
  simp only [Act.put, sa, sz, ss]
  obtain ⟨vr, w3, hr, hO, hG, h5⟩ := own_appQ H2.out.2.own H2.out.2.size (q := ⟨gb, o, n, cp, some ad, f⟩) hq.out.1 (fun e => by cases e) (hq.out.2.below H2.out.2.b) (show 0 + n ≤ 2097152 by omega) 34
  refine rest_set (d := 7) (v := vr) (w' := w3) rfl rfl rfl (ex_app rfl rfl rfl hr) ?_
  simp only [Act.put, sa, sz, ss]
  have H3 : Hid (Mm w3 [] ∧ Cw w vr (0 + n) (ct (fun _ => 0) 0 f) w3) := ⟨Mm.nil _, H2.out.2.on (Chg.grown hG) hO⟩
  clear hr hO hG h5 H2
  refine rest_set (d := 2) (v := vr) (w' := w3) rfl rfl rfl (rfl) ?_
  simp only [Act.put, sa, sz, ss]
  refine rest_nil (then_normal (wp_ret ?_))
  repeat (first | refine then_ret ?_ | refine block_ret ?_)
  refine bodyPost_ret (v := vr) (by simp [results, Try.results114, go_sem, *]) rfl ?_
  exact ⟨_, rfl, by have h := H3.out.2.cg (P2 := f) (fun j _ => by rw [ct_zero]); rw [Nat.zero_add] at h; exact h⟩
set_option maxHeartbeats 2000000 in
set_option maxRecDepth 100000 in
theorem bclone_nil  (w : World) :
    Calls Try.prog 114 #[.slice none 0 0] w fun e w' => e = .returned (.slice none 0 0) ∧ Below w.heap.size w w' := by
  have H0 : Hid (_ ∧ _) := ⟨Mm.nil w, Below.refl w.heap.size w⟩
  go_enter Try.func114, Try.ntmps114
  refine wp_seq ?_
  refine sq_startW (l := [0]) rfl (fun u0 hu0 => ?_)
  have H1 : Hid (Mm u0 [] ∧ Below w.heap.size w u0) := by rw [hu0]; exact H0
  clear hu0 H0
  refine rest_set (d := 2) (v := .slice none 0 0) (w' := u0) rfl rfl rfl (rfl) ?_
  simp only [Act.put, sa, sz, ss]
  refine rest_nil (then_normal ?_)
  refine wp_seq (wp_seq ?_)
  refine sq_start (l := [0, 1]) rfl ?_
  refine rest_set (d := 3) (v := .slice none 0 0) (w' := u0) rfl rfl rfl (rfl) ?_
  simp only [Act.put, sa, sz, ss]
  refine rest_set (d := 4) (v := .bool true) (w' := u0) rfl rfl rfl (by kernel_rfl) ?_
  simp only [Act.put, sa, sz, ss]
  refine rest_nil (then_normal ?_)
  refine wp_cond_true rfl (wp_seq ?_)
  refine sq_start (l := [0]) rfl ?_
  refine rest_set (d := 2) (v := .slice none 0 0) (w' := u0) rfl rfl rfl (rfl) ?_
  simp only [Act.put, sa, sz, ss]
  refine rest_nil (then_normal (wp_ret ?_))
  repeat (first | refine then_ret ?_ | refine block_ret ?_)
  refine bodyPost_ret (v := .slice none 0 0) (by simp [results, Try.results114, go_sem, *]) rfl ?_
  exact ⟨rfl, H1.out.2⟩
theorem bclone_any (q : Pt8) (hn : q.n ≤ 2097152) (w : World) (hq : Pok q) (hN : q.p = none → q.cp = 0) (hr : q.rs w) : Calls Try.prog 114 #[.slice q.p q.n q.cp] w fun e w' => ∃ v, e = .returned v ∧ Cw w v q.n q.f w' := by
  obtain ⟨gb, o, n, cp, p, f⟩ := q
  cases p with
  | some ad => exact bclone_some gb o n cp ad f hn w ⟨hq, hr⟩
  | none =>
    have h0 : cp = 0 := hN rfl
    have hle : n ≤ cp := hq.2
    obtain rfl : n = 0 := by omega
    subst h0
    refine (bclone_nil w).mono fun e w' h => ⟨_, h.1, h.2, ?_⟩
    show World.ownsRow _ _ _ _ _ _ (ints .u8 f 0)
    exact World.ownsRow_nil _ _ _ _
end Wi
end Rg
end Go.Proofs.Ytidicdlfjdlpnaa
end
section
namespace Go.Proofs.Ytidicdlfjdlpnaa
open Go.RowKit
namespace Rg
namespace Wi
set_option maxRecDepth 100000
set_option maxHeartbeats 4000000 in
set_option maxRecDepth 100000 in
theorem settle_part_old (g : Nat) (S : Value) (n : Nat) (P : Nat → Nat) (a bt : Int) (cu : Nat) (gu m : Nat) (F : Nat → Uop) (hmm : m ≤ 1000000) (hmc : m ≤ cu) (hdm : min a.toNat m < m) (w : World) (hm : Mm w [(g, [S, Value.slice (some ⟨gu, 0, none⟩) m cu, Value.bool false])]) (hg0 : g < w.heap.size) (hgS0 : g ∉ vbl S) (row0 : w.ownsRow 0 5 1 S n (ints .u8 P n)) (hgu0 : gu < w.heap.size) (hgn0 : gu ∉ g :: vbl S) (hcl0 : ∀ i, i < m → w.cell? ⟨gu, 2 * i, none⟩ = some (.int .i64 ((F i).st : Int)) ∧ w.cell? ⟨gu, 2 * i + 1, none⟩ = some (.slice (F i).q.p (F i).q.n (F i).q.cp)) (hv0 : ∀ i, i < m → (F i).st ≤ rN n F i ∧ (F i).st + (F i).q.n ≤ 2097152) (hok0 : ∀ i, i < m → ∀ s' n' P' w', Sg w g S s' n' P' w' → (F i).ok w') (hbt0 : rN n F (min a.toNat m) + (min bt.toNat (F (min a.toNat m)).q.n) ≤ 2097152) (htc0 : (min bt.toNat (F (min a.toNat m)).q.n) ≤ (F (min a.toNat m)).q.cp) :
    Calls Try.prog 73 #[PT g 0, .int .i64 a, .int .i64 bt] w fun e w' => e = .returned (.bool (true)) ∧ ∃ s', Mm w' [(g, [s', Value.slice none 0 0, Value.bool false])] ∧ Sg w g S s' (rN n F (min a.toNat m) + (min bt.toNat (F (min a.toNat m)).q.n)) (ct (rP P F (min a.toNat m)) (rN n F (min a.toNat m)) (F (min a.toNat m)).q.f) w' := by
  have H0 : Hid (_ ∧ _) := ⟨hm, Sg.start (g := g) row0⟩
  clear hm
  have hg : Hid _ := hg0
  have hgS : Hid _ := hgS0
  clear hg0 hgS0
  have hgu : Hid _ := hgu0
  have hgn : Hid _ := hgn0
  have hcl : Hid _ := hcl0
  have hv : Hid _ := hv0
  have hok : Hid _ := hok0
  clear hgu0 hgn0 hcl0 hv0 hok0
  have hbt : Hid _ := hbt0
  have htc : Hid _ := htc0
  clear hbt0 htc0
  go_enter Try.func73, Try.ntmps73
  refine wp_seq ?_
  refine sq_startW (l := [0]) rfl (fun u0 hu0 => ?_)
  have H1 : Hid (Mm u0 [(g, [S, Value.slice (some ⟨gu, 0, none⟩) m cu, Value.bool false])] ∧ Sg w g S S n P u0) := by rw [hu0]; exact H0
  clear hu0 H0
  refine rest_set (d := 6) (v := .bool false) (w' := u0) rfl rfl rfl (rfl) ?_
  simp only [Act.put, sa, sz, ss]
  refine rest_nil (then_normal (wp_seq ?_))
  refine sq_start (l := [0, 1, 2, 3, 4, 5, 6, 7]) rfl ?_
  refine rest_set (d := 13) (v := .int .i64 a) (w' := u0) rfl rfl rfl (rfl) ?_
  simp only [Act.put, sa, sz, ss]
  refine rest_set (d := 14) (v := PT g 0) (w' := u0) rfl rfl rfl (rfl) ?_
  simp only [Act.put, sa, sz, ss]
  refine rest_set (d := 15) (v := PT g 0) (w' := u0) rfl rfl rfl (by go_simp) ?_
  simp only [Act.put, sa, sz, ss]
  refine rest_set (d := 16) (v := PT g 1) (w' := u0) rfl rfl rfl (by go_simp) ?_
  simp only [Act.put, sa, sz, ss]
  refine rest_set (d := 17) (v := .slice (some ⟨gu, 0, none⟩) m cu) (w' := u0) rfl rfl rfl (ex_loadC H1.out.1 0 rfl rfl rfl Try.isAgg115 rfl) ?_
  simp only [Act.put, sa, sz, ss]
  refine rest_set (d := 18) (v := .int .i64 ((m : Nat) : Int)) (w' := u0) rfl rfl rfl (by go_simp) ?_
  simp only [Act.put, sa, sz, ss]
  refine rest_enter (d := 19) (R := fun vv w' => vv = .int .i64 ((min a.toNat m : Nat) : Int) ∧ Below u0.heap.size u0 w') rfl rfl rfl (exec_call (args := #[.int .i64 a, .int .i64 ((m : Nat) : Int)]) rfl call104 rfl (mpn rfl)) (Calls.mono (within_any a m u0) (fun e w2 hh => ⟨_, hh.1, rfl, hh.2⟩)) ?_
  rintro _ w2 ⟨rfl, hb⟩
  have H2 : Hid (Mm w2 [(g, [S, Value.slice (some ⟨gu, 0, none⟩) m cu, Value.bool false])] ∧ Sg w g S S n P w2) := ⟨H1.out.1.below hb, Sg.below H1.out.2 (hb)⟩
  clear hb
  clear H1
  simp only [Act.put, sa, sz, ss]
  refine rest_set (d := 7) (v := .int .i64 ((min a.toNat m : Nat) : Int)) (w' := w2) rfl rfl rfl (rfl) ?_
  simp only [Act.put, sa, sz, ss]
  refine rest_nil (then_normal ?_)
  refine wp_seq (wp_seq ?_)
  refine sq_start (l := [0, 1, 2, 3, 4, 5, 6, 7]) rfl ?_
  refine rest_set (d := 20) (v := PT g 0) (w' := w2) rfl rfl rfl (rfl) ?_
  simp only [Act.put, sa, sz, ss]
  refine rest_set (d := 21) (v := PT g 0) (w' := w2) rfl rfl rfl (by go_simp) ?_
  simp only [Act.put, sa, sz, ss]
  refine rest_set (d := 22) (v := PT g 1) (w' := w2) rfl rfl rfl (by go_simp) ?_
  simp only [Act.put, sa, sz, ss]
  refine rest_set (d := 23) (v := .slice (some ⟨gu, 0, none⟩) m cu) (w' := w2) rfl rfl rfl (ex_loadC H2.out.1 0 rfl rfl rfl Try.isAgg115 rfl) ?_
  simp only [Act.put, sa, sz, ss]
  refine rest_set (d := 24) (v := .int .i64 ((min a.toNat m : Nat) : Int)) (w' := w2) rfl rfl rfl (rfl) ?_
  simp only [Act.put, sa, sz, ss]
  refine rest_set (d := 25) (v := .slice (some ⟨gu, 0, none⟩) (min a.toNat m) cu) (w' := w2) rfl rfl rfl (ex_takeO (by omega) rfl rfl rfl) ?_
  simp only [Act.put, sa, sz, ss]
  refine rest_set (d := 26) (v := .int .i64 (((min a.toNat m) : Nat) : Int)) (w' := w2) rfl rfl rfl (by go_simp) ?_
  simp only [Act.put, sa, sz, ss]
  refine rest_set (d := 27) (v := .int .i64 0) (w' := w2) rfl rfl rfl (rfl) ?_
  simp only [Act.put, sa, sz, ss]
  refine rest_nil (then_normal (wp_block ?_))
  refine loop_ghost (α := Nat × Value) (fun x a' w' => ∃ s0 : Nat → Value, a' = ⟨#[PT g 0, .int .i64 a, .int .i64 bt, undef, undef, undef, .bool false, .int .i64 ((min a.toNat m : Nat) : Int), undef, s0 9, undef, undef, undef, .int .i64 a, PT g 0, PT g 0, PT g 1, .slice (some ⟨gu, 0, none⟩) m cu, .int .i64 ((m : Nat) : Int), .int .i64 ((min a.toNat m : Nat) : Int), PT g 0, PT g 0, PT g 1, .slice (some ⟨gu, 0, none⟩) m cu, .int .i64 ((min a.toNat m : Nat) : Int), .slice (some ⟨gu, 0, none⟩) (min a.toNat m) cu, .int .i64 (((min a.toNat m) : Nat) : Int), .int .i64 ((x.1 : Nat) : Int), s0 28, s0 29, s0 30, s0 31, s0 32, s0 33, s0 34, s0 35, s0 36, s0 37, s0 38, s0 39, s0 40, undef, undef, undef, undef, undef, undef, undef, undef, undef, undef, undef, undef, undef, undef, undef, undef, undef, undef, undef, undef, undef, undef, undef, undef, undef, undef, undef, undef, undef, undef, undef, undef, undef, undef, undef, undef, undef, undef, undef, undef, undef, undef, undef, undef, undef, undef, undef, undef], []⟩ ∧ (Mm w' [(g, [x.2, Value.slice (some ⟨gu, 0, none⟩) m cu, Value.bool false])] ∧ Sg w g S x.2 (rN n F x.1) (rP P F x.1) w') ∧ x.1 ≤ (min a.toNat m)) (fun x => (min a.toNat m) - x.1) (0, S) ?st0 ?rd0
  case st0 => exact ⟨(slotfn [undef, undef, undef, undef, undef, undef, undef, undef, undef, undef, undef, undef, undef, undef, undef, undef, undef, undef, undef, undef, undef, undef, undef, undef, undef, undef, undef, undef, undef, undef, undef, undef, undef, undef, undef, undef, undef, undef, undef, undef, undef]), rfl, ⟨H2.out.1, H2.out.2⟩, Nat.zero_le _⟩
  intro x a' w3 hI
  obtain ⟨s0, rfl, hMB, hk0⟩ := hI
  have H3 : Hid (_ ∧ _) := hMB
  clear hMB H2
  by_cases hltx : x.1 < (min a.toNat m)
  · have hrd : True := trivial
    clear hrd
    have hxm : x.1 < m := by omega
    refine wp_seq ?_
    refine sq_start (l := [0]) rfl ?_
    refine rest_set (d := 28) (v := .bool true) (w' := w3) rfl rfl rfl (by go_simp <;> omega) ?_
    simp only [Act.put, sa, sz, ss]
    refine rest_nil (then_normal ?_)
    refine wp_seq (wp_cond_true rfl ?_)
    refine wp_skip (then_normal ?_)
    refine wp_seq (wp_block (wp_seq ?_))
    refine sq_start (l := [0, 1, 2, 3]) rfl ?_
    refine rest_set (d := 29) (v := PT gu (2 * x.1)) (w' := w3) rfl rfl rfl (ex_ixO rfl rfl rfl (by omega)) ?_
    simp only [Act.put, sa, sz, ss]
    refine rest_set (d := 30) (v := .agg ([Value.int .i64 (((F x.1).st : Nat) : Int), Value.slice (F x.1).q.p (F x.1).q.n (F x.1).q.cp]).toArray) (w' := w3) rfl rfl rfl (ex_ldO (H3.out.2.cell hgu.out hgn.out (hcl.out x.1 hxm).1) (H3.out.2.cell hgu.out hgn.out (hcl.out x.1 hxm).2) rfl rfl) ?_
    simp only [Act.put, sa, sz, ss]
    have nbz : Hid (w3.heap.size ∉ vbl x.2) := fun hm => Nat.lt_irrefl _ (own_lt H3.out.2.row _ hm)
    refine rest_set (d := 9) (v := PT w3.heap.size 0) (w' := (w3.alloc (.cells ([Value.int .i64 0, Value.slice none 0 0] : List Value).toArray 120))) rfl rfl rfl (ex_mk120 rfl) ?_
    simp only [Act.put, sa, sz, ss]
    have o_γs4 : Hid (w.heap.size ≤ w3.heap.size) := H3.out.2.size
    have H4 : Hid (Mm (w3.alloc (.cells ([Value.int .i64 0, Value.slice none 0 0] : List Value).toArray 120)) ((w3.heap.size, [Value.int .i64 0, Value.slice none 0 0]) :: [(g, [x.2, Value.slice (some ⟨gu, 0, none⟩) m cu, Value.bool false])]) ∧ Sg w g S x.2 (rN n F x.1) (rP P F x.1) (w3.alloc (.cells ([Value.int .i64 0, Value.slice none 0 0] : List Value).toArray 120))) := ⟨H3.out.1.alloc _ 120 rfl, Sg.below H3.out.2 (((Below.refl _ _).alloc (Nat.le_refl _) _))⟩
    clear H3
    generalize hgw : w3.alloc (.cells ([Value.int .i64 0, Value.slice none 0 0] : List Value).toArray 120) = w4 at H4 ⊢
    clear hgw
    generalize w3.heap.size = γs4 at nbz o_γs4 H4 ⊢
    have nb_γs4 : Hid _ := nbz.out
    clear nbz
    refine rest_store rfl rfl rfl (ex_storeT (vs := [Value.int .i64 (((F x.1).st : Nat) : Int), Value.slice (F x.1).q.p (F x.1).q.n (F x.1).q.cp]) H4.out.1 0 rfl rfl rfl rfl Try.sizeOf120 rfl (Nat.le_of_ble_eq_true rfl)) ?_
    have H5 : Hid (Mm (w4.setCells γs4 0 [Value.int .i64 (((F x.1).st : Nat) : Int), Value.slice (F x.1).q.p (F x.1).q.n (F x.1).q.cp]) [(γs4, [Value.int .i64 (((F x.1).st : Nat) : Int), Value.slice (F x.1).q.p (F x.1).q.n (F x.1).q.cp]), (g, [x.2, Value.slice (some ⟨gu, 0, none⟩) m cu, Value.bool false])] ∧ Sg w g S x.2 (rN n F x.1) (rP P F x.1) (w4.setCells γs4 0 [Value.int .i64 (((F x.1).st : Nat) : Int), Value.slice (F x.1).q.p (F x.1).q.n (F x.1).q.cp])) := ⟨H4.out.1.put 0 (off := 0) (vs := [Value.int .i64 (((F x.1).st : Nat) : Int), Value.slice (F x.1).q.p (F x.1).q.n (F x.1).q.cp]) rfl (Nat.le_of_ble_eq_true rfl), H4.out.2.putNew o_γs4.out nb_γs4.out _ _⟩
    clear H4
    generalize hgw : World.setCells _ _ _ _ = w5 at H5 ⊢
    clear hgw
    refine rest_nil (then_normal ?_)
    refine walk_enterV (by kernel_rfl) 6 [0] [.quiet (PT g 0), .quiet (.agg ([Value.int .i64 (((F x.1).st : Nat) : Int), Value.slice (F x.1).q.p (F x.1).q.n (F x.1).q.cp]).toArray), .quiet (PT g 0), .quiet (PT g 0), .quiet (PT g 0), .quiet (x.2)] (fun w' => Mm w' [(γs4, [Value.int .i64 (((F x.1).st : Nat) : Int), Value.slice (F x.1).q.p (F x.1).q.n (F x.1).q.cp]), (g, [x.2, Value.slice (some ⟨gu, 0, none⟩) m cu, Value.bool false])]) ?pre6 ?F6 ?G6 _ 37 ?hpre6 (fun γ => ?hF6) (fun v γ => ?hG6) (by kernel_rfl) rfl ?hL6 ?hS6 ?ho6 (fun v => ?hla6) ?he6
    case hpre6 => simp only [tk, tz]; rfl
    case hF6 => simp only [fill, Kind.val, Act.put, sa, sz, ss]; rfl
    case hG6 => simp only [fill, Kind.val, Act.put, sa, sz, ss]; rfl
    case hL6 => exact trivial
    case hS6 => exact fun w' hb => H5.out.1.below hb
    case ho6 =>
      refine ak (fun _ => ⟨rfl, fun _ _ => rfl⟩) ?_
      refine ak (fun γ => ⟨rfl, fun w' h => ex_loadT h 0 rfl rfl rfl Try.isAgg120 Try.sizeOf120 rfl rfl⟩) ?_
      refine ak (fun _ => ⟨rfl, fun _ _ => rfl⟩) ?_
      refine ak (by refine fun γ => ⟨rfl, fun w' h => ?_⟩; clear h; go_simp) ?_
      refine ak (by refine fun γ => ⟨rfl, fun w' h => ?_⟩; clear h; go_simp) ?_
      refine ak (fun γ => ⟨rfl, fun w' h => ex_loadC h 1 rfl rfl rfl Try.isAgg34 rfl⟩) ?_
      exact trivial
    case hla6 => exact ⟨⟨_, _, rfl, rfl, fun γ => ⟨rfl, fun w' => rfl⟩⟩, trivial⟩
    intro γ w6 l hM hl
    have M6 : Mm w6 [(γs4, [Value.int .i64 (((F x.1).st : Nat) : Int), Value.slice (F x.1).q.p (F x.1).q.n (F x.1).q.cp]), (g, [x.2, Value.slice (some ⟨gu, 0, none⟩) m cu, Value.bool false])] := H5.out.1.grow hM (Nat.le_refl _) hl [] rfl (by decide)
    have B6 : Sg w g S x.2 (rN n F x.1) (rP P F x.1) w6 := Sg.below H5.out.2 (hM.below)
    clear hM hl l H5
    clear γ
    have H6 : Hid (_ ∧ _) := ⟨M6, B6⟩
    clear M6 B6
    refine ⟨102, #[.agg ([.int .i64 (((F x.1).st : Nat) : Int), .slice (F x.1).q.p (F x.1).q.n (F x.1).q.cp] : List Value).toArray, x.2], fun vv w' => w'.ownsRow 0 5 1 vv ((F x.1).st + (F x.1).q.n) (ints .u8 (ct (rP P F x.1) (F x.1).st (F x.1).q.f) ((F x.1).st + (F x.1).q.n)) ∧ Chg (vbl x.2) w6 w' ∧ ∀ z ∈ vbl vv, z ∈ vbl x.2 ∨ w6.heap.size ≤ z, exec_call rfl call102 rfl (mpn rfl), upon_v (F x.1) x.2 _ 0 _ (hv.out x.1 hxm).1 (hv.out x.1 hxm).2 w6 (Nat.zero_le _) H6.out.2.row (hok.out x.1 hxm _ _ _ _ H6.out.2), ?_⟩
    rintro vr w7 ⟨hO, hC, hb5⟩
    have hM : Mm w7 [(g, [x.2, Value.slice (some ⟨gu, 0, none⟩) m cu, Value.bool false])] := hC.mm (H6.out.1.one 1 rfl) (fun p hp => by obtain rfl := List.mem_singleton.1 hp; exact H6.out.2.ng hgS.out hg.out)
    have hs1 : Hid _ := own_st hO
    have H7 : Hid (Mm w7 [(g, [x.2, Value.slice (some ⟨gu, 0, none⟩) m cu, Value.bool false])] ∧ Sg w g S vr (rN n F (x.1 + 1)) (rP P F (x.1 + 1)) w7) := ⟨hM, H6.out.2.on hC hO hb5⟩
    clear hO hC hb5 hM H6
    refine rest_at (l := [7, 8, 9]) rfl ?_
    refine rest_set (d := 38) (v := PT g 0) (w' := w7) rfl rfl rfl (by go_simp) ?_
    simp only [Act.put, sa, sz, ss]
    refine rest_set (d := 39) (v := PT g 0) (w' := w7) rfl rfl rfl (by go_simp) ?_
    simp only [Act.put, sa, sz, ss]
    refine rest_store rfl rfl rfl (ex_st1 (v := vr) H7.out.1 0 rfl rfl Try.sizeOf34 rfl rfl (hs1.out) (Nat.le_of_ble_eq_true rfl)) ?_
    have H8 : Hid (Mm (w7.setCells g 0 [vr]) [(g, [vr, Value.slice (some ⟨gu, 0, none⟩) m cu, Value.bool false])] ∧ Sg w g S vr (rN n F (x.1 + 1)) (rP P F (x.1 + 1)) (w7.setCells g 0 [vr])) := ⟨H7.out.1.put 0 (off := 0) (vs := [vr]) rfl (Nat.le_of_ble_eq_true rfl), H7.out.2.put hgS.out hg.out _ _⟩
    clear H7
    generalize hgw : World.setCells _ _ _ _ = w8 at H8 ⊢
    clear hgw
    refine rest_nil (block_normal (then_normal ?_))
    refine sq_start (l := [0, 1]) rfl ?_
    refine rest_set (d := 40) (v := .int .i64 ((x.1 + 1 : Nat) : Int)) (w' := w8) rfl rfl rfl (by go_simp; rw [IntKind.wrap_i64]; omega) ?_
    simp only [Act.put, sa, sz, ss]
    refine rest_set (d := 27) (v := .int .i64 ((x.1 + 1 : Nat) : Int)) (w' := w8) rfl rfl rfl (rfl) ?_
    simp only [Act.put, sa, sz, ss]
    refine rest_nil (then_normal ?_)
    exact ⟨(x.1 + 1, vr), ⟨(slotfn [undef, undef, undef, undef, undef, undef, undef, undef, undef, PT γs4 0, undef, undef, undef, undef, undef, undef, undef, undef, undef, undef, undef, undef, undef, undef, undef, undef, undef, undef, .bool true, PT gu (2 * x.1), .agg ([Value.int .i64 (((F x.1).st : Nat) : Int), Value.slice (F x.1).q.p (F x.1).q.n (F x.1).q.cp]).toArray, PT g 0, .agg ([Value.int .i64 (((F x.1).st : Nat) : Int), Value.slice (F x.1).q.p (F x.1).q.n (F x.1).q.cp]).toArray, PT g 0, PT g 0, PT g 0, x.2, vr, PT g 0, PT g 0, .int .i64 ((x.1 + 1 : Nat) : Int)]), rfl, ⟨H8.out.1, H8.out.2⟩, (show x.1 + 1 ≤ (min a.toNat m) by omega)⟩, (show (min a.toNat m) - (x.1 + 1) < (min a.toNat m) - x.1 by omega)⟩
  have hxN : x.1 = (min a.toNat m) := by omega
  refine wp_seq ?_
  refine sq_start (l := [0]) rfl ?_
  refine rest_set (d := 28) (v := .bool false) (w' := w3) rfl rfl rfl (by go_simp <;> omega) ?_
  simp only [Act.put, sa, sz, ss]
  refine rest_nil (then_normal ?_)
  refine wp_seq (wp_cond_false rfl ?_)
  refine wp_exit ?_
  repeat refine then_exit ?_
  refine block_exit ?_
  have H9 : Hid (Mm w3 [(g, [x.2, Value.slice (some ⟨gu, 0, none⟩) m cu, Value.bool false])] ∧ Sg w g S x.2 (rN n F (min a.toNat m)) (rP P F (min a.toNat m)) w3) := ⟨H3.out.1, by rw [← hxN]; exact H3.out.2⟩
  clear H3
  refine then_normal (wp_seq ?_)
  refine sq_start (l := [0]) rfl ?_
  refine rest_set (d := 10) (v := .int .i64 0) (w' := w3) rfl rfl rfl (rfl) ?_
  simp only [Act.put, sa, sz, ss]
  refine rest_nil (then_normal ?_)
  refine wp_seq (wp_seq ?_)
  refine sq_start (l := [0, 1, 2, 3, 4, 5, 6]) rfl ?_
  refine rest_set (d := 41) (v := PT g 0) (w' := w3) rfl rfl rfl (rfl) ?_
  simp only [Act.put, sa, sz, ss]
  refine rest_set (d := 42) (v := PT g 0) (w' := w3) rfl rfl rfl (by go_simp) ?_
  simp only [Act.put, sa, sz, ss]
  refine rest_set (d := 43) (v := PT g 1) (w' := w3) rfl rfl rfl (by go_simp) ?_
  simp only [Act.put, sa, sz, ss]
  refine rest_set (d := 44) (v := .slice (some ⟨gu, 0, none⟩) m cu) (w' := w3) rfl rfl rfl (ex_loadC H9.out.1 0 rfl rfl rfl Try.isAgg115 rfl) ?_
  simp only [Act.put, sa, sz, ss]
  refine rest_set (d := 45) (v := .int .i64 ((min a.toNat m : Nat) : Int)) (w' := w3) rfl rfl rfl (rfl) ?_
  simp only [Act.put, sa, sz, ss]
  refine rest_set (d := 46) (v := .slice (some ⟨gu, (2 * (min a.toNat m)), none⟩) (m - (min a.toNat m)) (cu - (min a.toNat m))) (w' := w3) rfl rfl rfl (ex_dropO (by omega) (by omega) rfl rfl rfl) ?_
  simp only [Act.put, sa, sz, ss]
  refine rest_set (d := 11) (v := .slice (some ⟨gu, (2 * (min a.toNat m)), none⟩) (m - (min a.toNat m)) (cu - (min a.toNat m))) (w' := w3) rfl rfl rfl (rfl) ?_
  simp only [Act.put, sa, sz, ss]
  refine rest_nil (then_normal (wp_seq ?_))
  refine sq_start (l := [0, 1, 2]) rfl ?_
  refine rest_set (d := 47) (v := .slice (some ⟨gu, (2 * (min a.toNat m)), none⟩) (m - (min a.toNat m)) (cu - (min a.toNat m))) (w' := w3) rfl rfl rfl (rfl) ?_
  simp only [Act.put, sa, sz, ss]
  refine rest_set (d := 48) (v := .int .i64 (((m - (min a.toNat m)) : Nat) : Int)) (w' := w3) rfl rfl rfl (by go_simp) ?_
  simp only [Act.put, sa, sz, ss]
  refine rest_set (d := 49) (v := .bool true) (w' := w3) rfl rfl rfl (by go_simp <;> omega) ?_
  simp only [Act.put, sa, sz, ss]
  refine rest_nil (then_normal ?_)
  refine wp_cond_true rfl (wp_seq ?_)
  refine sq_start (l := [0, 1, 2, 3, 4, 5, 6, 7]) rfl ?_
  refine rest_set (d := 50) (v := .int .i64 bt) (w' := w3) rfl rfl rfl (rfl) ?_
  simp only [Act.put, sa, sz, ss]
  refine rest_set (d := 51) (v := .slice (some ⟨gu, (2 * (min a.toNat m)), none⟩) (m - (min a.toNat m)) (cu - (min a.toNat m))) (w' := w3) rfl rfl rfl (rfl) ?_
  simp only [Act.put, sa, sz, ss]
  refine rest_set (d := 52) (v := PT gu (2 * (min a.toNat m))) (w' := w3) rfl rfl rfl (ex_ixO0 rfl rfl rfl (by omega)) ?_
  simp only [Act.put, sa, sz, ss]
  refine rest_set (d := 53) (v := PT gu (2 * (min a.toNat m) + 1)) (w' := w3) rfl rfl rfl (by go_simp) ?_
  simp only [Act.put, sa, sz, ss]
  refine rest_set (d := 54) (v := .slice (F (min a.toNat m)).q.p (F (min a.toNat m)).q.n (F (min a.toNat m)).q.cp) (w' := w3) rfl rfl rfl (ex_ldS (H9.out.2.cell hgu.out hgn.out (hcl.out (min a.toNat m) hdm).2) rfl rfl) ?_
  simp only [Act.put, sa, sz, ss]
  refine rest_set (d := 55) (v := .int .i64 (((F (min a.toNat m)).q.n : Nat) : Int)) (w' := w3) rfl rfl rfl (by go_simp) ?_
  simp only [Act.put, sa, sz, ss]
  refine rest_enter (d := 56) (R := fun vv w' => vv = .int .i64 ((min bt.toNat (F (min a.toNat m)).q.n : Nat) : Int) ∧ Below w3.heap.size w3 w') rfl rfl rfl (exec_call (args := #[.int .i64 bt, .int .i64 (((F (min a.toNat m)).q.n : Nat) : Int)]) rfl call104 rfl (mpn rfl)) (Calls.mono (within_any bt ((F (min a.toNat m)).q.n) w3) (fun e w2 hh => ⟨_, hh.1, rfl, hh.2⟩)) ?_
  rintro _ w10 ⟨rfl, hb⟩
  have H10 : Hid (Mm w10 [(g, [x.2, Value.slice (some ⟨gu, 0, none⟩) m cu, Value.bool false])] ∧ Sg w g S x.2 (rN n F (min a.toNat m)) (rP P F (min a.toNat m)) w10) := ⟨H9.out.1.below hb, Sg.below H9.out.2 (hb)⟩
  clear hb
  clear H9
  simp only [Act.put, sa, sz, ss]
  refine rest_set (d := 10) (v := .int .i64 ((min bt.toNat (F (min a.toNat m)).q.n : Nat) : Int)) (w' := w10) rfl rfl rfl (rfl) ?_
  simp only [Act.put, sa, sz, ss]
  refine rest_nil (then_normal ?_)
  refine walk_value (by kernel_rfl) 11 [0] [.quiet (PT g 0), .quiet (PT g 0), .quiet (PT g 0), .quiet (PT g 0), .quiet (x.2), .quiet (.slice (some ⟨gu, (2 * (min a.toNat m)), none⟩) (m - (min a.toNat m)) (cu - (min a.toNat m))), .quiet (PT gu (2 * (min a.toNat m))), .quiet (PT gu (2 * (min a.toNat m) + 1)), .quiet (.slice (F (min a.toNat m)).q.p (F (min a.toNat m)).q.n (F (min a.toNat m)).q.cp), .quiet (.int .i64 ((min bt.toNat (F (min a.toNat m)).q.n : Nat) : Int)), .quiet (.slice (F (min a.toNat m)).q.p (min bt.toNat (F (min a.toNat m)).q.n) (F (min a.toNat m)).q.cp)] (fun u' => Mm u' [(g, [x.2, Value.slice (some ⟨gu, 0, none⟩) m cu, Value.bool false])] ∧ Sg w g S x.2 (rN n F (min a.toNat m)) (rP P F (min a.toNat m)) u') ?pre13 ?F13 ?G13 _ 68 ?hpre13 (fun γ => ?hF13) (fun v γ => ?hG13) (by kernel_rfl) rfl ?hL13 ?hS13 ?ho13 (fun v => ?hla13) ?he13
  case hpre13 => simp only [tk, tz]; rfl
  case hF13 => simp only [fill, Kind.val, Act.put, sa, sz, ss]; rfl
  case hG13 => simp only [fill, Kind.val, Act.put, sa, sz, ss]; rfl
  case hL13 => exact trivial
  case hS13 => exact fun w' hb => ⟨H10.out.1.below hb, Sg.below H10.out.2 (hb)⟩
  case ho13 =>
    refine ak (fun _ => ⟨rfl, fun _ _ => rfl⟩) ?_
    refine ak (fun _ => ⟨rfl, fun _ _ => rfl⟩) ?_
    refine ak (by refine fun γ => ⟨rfl, fun w' h => ?_⟩; clear h; go_simp) ?_
    refine ak (by refine fun γ => ⟨rfl, fun w' h => ?_⟩; clear h; go_simp) ?_
    refine ak (fun γ => ⟨rfl, fun w' hX => have h := hX.1; ex_loadC h 0 rfl rfl rfl Try.isAgg34 rfl⟩) ?_
    refine ak (fun _ => ⟨rfl, fun _ _ => rfl⟩) ?_
    refine ak (fun γ => ⟨rfl, fun w' _ => ex_ixO0 rfl rfl rfl (by omega)⟩) ?_
    refine ak (by refine fun γ => ⟨rfl, fun w' h => ?_⟩; clear h; go_simp) ?_
    refine ak (fun γ => ⟨rfl, fun w' hX => ex_ldS (hX.2.cell hgu.out hgn.out (hcl.out (min a.toNat m) hdm).2) rfl rfl⟩) ?_
    refine ak (fun _ => ⟨rfl, fun _ _ => rfl⟩) ?_
    refine ak (fun γ => ⟨rfl, fun w' _ => ex_take htc.out rfl rfl rfl⟩) ?_
    exact trivial
  case hla13 => exact ⟨⟨_, _, rfl, rfl, fun γ => ⟨rfl, fun w' => rfl⟩⟩, trivial⟩
  intro γ w11 l hM hl
  have M11 : Mm w11 [(g, [x.2, Value.slice (some ⟨gu, 0, none⟩) m cu, Value.bool false])] := H10.out.1.grow hM (Nat.le_refl _) hl [] rfl (by decide)
  have B11 : Sg w g S x.2 (rN n F (min a.toNat m)) (rP P F (min a.toNat m)) w11 := Sg.below H10.out.2 (hM.below)
  clear hM hl l H10
  clear γ
  have H11 : Hid (_ ∧ _) := ⟨M11, B11⟩
  clear M11 B11
  obtain ⟨vt, w12, hr, hO, hG, h5⟩ := own_appQ H11.out.2.row (Nat.zero_le _) (Pt8.pre_ok (hok.out (min a.toNat m) hdm _ _ _ _ H11.out.2).1 (k := (min bt.toNat (F (min a.toNat m)).q.n)) (Nat.min_le_right _ _)) (hok.out (min a.toNat m) hdm _ _ _ _ H11.out.2).2.1 (Pt8.pre_rs (hok.out (min a.toNat m) hdm _ _ _ _ H11.out.2).2.2 (Nat.min_le_right _ _)) (hbt.out) 34
  refine ⟨vt, w12, ex_app rfl rfl rfl hr, ?_⟩
  have hM : Mm w12 [(g, [x.2, Value.slice (some ⟨gu, 0, none⟩) m cu, Value.bool false])] := (Chg.grown hG).mm (H11.out.1.one 0 rfl) (fun p hp => by obtain rfl := List.mem_singleton.1 hp; exact H11.out.2.ng hgS.out hg.out)
  have hs2 : Hid _ := own_st hO
  have H12 : Hid (Mm w12 [(g, [x.2, Value.slice (some ⟨gu, 0, none⟩) m cu, Value.bool false])] ∧ Sg w g S vt (rN n F (min a.toNat m) + (min bt.toNat (F (min a.toNat m)).q.n)) (ct (rP P F (min a.toNat m)) (rN n F (min a.toNat m)) (F (min a.toNat m)).q.f) w12) := ⟨hM, H11.out.2.on (Chg.grown hG) hO (vbl_new h5 (Nat.le_refl _) rfl)⟩
  clear hr hO hG h5 hM H11
  refine rest_at (l := [12, 13, 14]) rfl ?_
  refine rest_set (d := 69) (v := PT g 0) (w' := w12) rfl rfl rfl (by go_simp) ?_
  simp only [Act.put, sa, sz, ss]
  refine rest_set (d := 70) (v := PT g 0) (w' := w12) rfl rfl rfl (by go_simp) ?_
  simp only [Act.put, sa, sz, ss]
  refine rest_store rfl rfl rfl (ex_st1 (v := vt) H12.out.1 0 rfl rfl Try.sizeOf34 rfl rfl (hs2.out) (Nat.le_of_ble_eq_true rfl)) ?_
  have H13 : Hid (Mm (w12.setCells g 0 [vt]) [(g, [vt, Value.slice (some ⟨gu, 0, none⟩) m cu, Value.bool false])] ∧ Sg w g S vt (rN n F (min a.toNat m) + (min bt.toNat (F (min a.toNat m)).q.n)) (ct (rP P F (min a.toNat m)) (rN n F (min a.toNat m)) (F (min a.toNat m)).q.f) (w12.setCells g 0 [vt])) := ⟨H12.out.1.put 0 (off := 0) (vs := [vt]) rfl (Nat.le_of_ble_eq_true rfl), H12.out.2.put hgS.out hg.out _ _⟩
  clear H12
  generalize hgw : World.setCells _ _ _ _ = w13 at H13 ⊢
  clear hgw
  refine rest_nil (then_normal (wp_seq ?_))
  refine sq_start (l := [0, 1, 2, 3, 4, 5, 6, 7, 8, 9, 10, 11]) rfl ?_
  refine rest_set (d := 71) (v := PT g 0) (w' := w13) rfl rfl rfl (rfl) ?_
  simp only [Act.put, sa, sz, ss]
  refine rest_set (d := 72) (v := PT g 0) (w' := w13) rfl rfl rfl (by go_simp) ?_
  simp only [Act.put, sa, sz, ss]
  refine rest_set (d := 73) (v := PT g 2) (w' := w13) rfl rfl rfl (by go_simp) ?_
  simp only [Act.put, sa, sz, ss]
  refine rest_set (d := 74) (v := .bool false) (w' := w13) rfl rfl rfl (ex_loadC H13.out.1 0 rfl rfl rfl Try.isAgg4 rfl) ?_
  simp only [Act.put, sa, sz, ss]
  refine rest_set (d := 75) (v := .bool true) (w' := w13) rfl rfl rfl (by go_simp) ?_
  simp only [Act.put, sa, sz, ss]
  refine rest_set (d := 76) (v := .bool true) (w' := w13) rfl rfl rfl (rfl) ?_
  simp only [Act.put, sa, sz, ss]
  refine rest_gone1 (d := 77) rfl rfl rfl ?_
  simp only [Act.put, sa, sz, ss]
  refine rest_gone1 (d := 78) rfl rfl rfl ?_
  simp only [Act.put, sa, sz, ss]
  refine rest_gone1 (d := 79) rfl rfl rfl ?_
  simp only [Act.put, sa, sz, ss]
  refine rest_gone1 (d := 80) rfl rfl rfl ?_
  simp only [Act.put, sa, sz, ss]
  refine rest_set (d := 81) (v := .bool true) (w' := w13) rfl rfl rfl (by go_simp) ?_
  simp only [Act.put, sa, sz, ss]
  refine rest_set (d := 12) (v := .bool true) (w' := w13) rfl rfl rfl (rfl) ?_
  simp only [Act.put, sa, sz, ss]
  refine rest_nil (then_normal (wp_seq ?_))
  refine sq_start (l := [0, 1, 2, 3, 4, 5, 6, 7]) rfl ?_
  refine rest_set (d := 82) (v := PT g 0) (w' := w13) rfl rfl rfl (rfl) ?_
  simp only [Act.put, sa, sz, ss]
  refine rest_set (d := 83) (v := PT g 0) (w' := w13) rfl rfl rfl (rfl) ?_
  simp only [Act.put, sa, sz, ss]
  refine rest_set (d := 84) (v := PT g 0) (w' := w13) rfl rfl rfl (by go_simp) ?_
  simp only [Act.put, sa, sz, ss]
  refine rest_set (d := 85) (v := PT g 1) (w' := w13) rfl rfl rfl (by go_simp) ?_
  simp only [Act.put, sa, sz, ss]
  refine rest_store rfl rfl rfl (ex_st1 (v := .slice none 0 0) H13.out.1 0 rfl rfl Try.sizeOf115 rfl rfl (rfl) (Nat.le_of_ble_eq_true rfl)) ?_
  have H14 : Hid (Mm (w13.setCells g 1 [Value.slice none 0 0]) [(g, [vt, Value.slice none 0 0, Value.bool false])] ∧ Sg w g S vt (rN n F (min a.toNat m) + (min bt.toNat (F (min a.toNat m)).q.n)) (ct (rP P F (min a.toNat m)) (rN n F (min a.toNat m)) (F (min a.toNat m)).q.f) (w13.setCells g 1 [Value.slice none 0 0])) := ⟨H13.out.1.put 0 (off := 1) (vs := [Value.slice none 0 0]) rfl (Nat.le_of_ble_eq_true rfl), H13.out.2.put hgS.out hg.out _ _⟩
  clear H13
  generalize hgw : World.setCells _ _ _ _ = w14 at H14 ⊢
  clear hgw
  refine rest_set (d := 86) (v := PT g 0) (w' := w14) rfl rfl rfl (by go_simp) ?_
  simp only [Act.put, sa, sz, ss]
  refine rest_set (d := 87) (v := PT g 2) (w' := w14) rfl rfl rfl (by go_simp) ?_
  simp only [Act.put, sa, sz, ss]
  refine rest_store rfl rfl rfl (ex_st1 (v := .bool false) H14.out.1 0 rfl rfl Try.sizeOf4 rfl rfl (rfl) (Nat.le_of_ble_eq_true rfl)) ?_
  have H15 : Hid (Mm (w14.setCells g 2 [Value.bool false]) [(g, [vt, Value.slice none 0 0, Value.bool false])] ∧ Sg w g S vt (rN n F (min a.toNat m) + (min bt.toNat (F (min a.toNat m)).q.n)) (ct (rP P F (min a.toNat m)) (rN n F (min a.toNat m)) (F (min a.toNat m)).q.f) (w14.setCells g 2 [Value.bool false])) := ⟨H14.out.1.put 0 (off := 2) (vs := [Value.bool false]) rfl (Nat.le_of_ble_eq_true rfl), H14.out.2.put hgS.out hg.out _ _⟩
  clear H14
  generalize hgw : World.setCells _ _ _ _ = w15 at H15 ⊢
  clear hgw
  refine rest_nil (then_normal (wp_seq ?_))
  refine sq_start (l := [0, 1]) rfl ?_
  refine rest_set (d := 88) (v := .bool true) (w' := w15) rfl rfl rfl (rfl) ?_
  simp only [Act.put, sa, sz, ss]
  refine rest_set (d := 6) (v := .bool true) (w' := w15) rfl rfl rfl (rfl) ?_
  simp only [Act.put, sa, sz, ss]
  refine rest_nil (then_normal (wp_ret ?_))
  repeat (first | refine then_ret ?_ | refine block_ret ?_)
  refine bodyPost_ret (v := .bool true) (by simp [results, Try.results73, go_sem, *]) rfl ?_
  exact ⟨rfl, vt, H15.out.1, H15.out.2⟩
set_option maxHeartbeats 4000000 in
set_option maxRecDepth 100000 in
theorem settle_part_new (g : Nat) (S : Value) (n : Nat) (P : Nat → Nat) (a bt : Int) (cu : Nat) (gu m : Nat) (F : Nat → Uop) (hmm : m ≤ 1000000) (hmc : m ≤ cu) (hdm : min a.toNat m < m) (w : World) (hm : Mm w [(g, [S, Value.slice (some ⟨gu, 0, none⟩) m cu, Value.bool true])]) (hg0 : g < w.heap.size) (hgS0 : g ∉ vbl S) (row0 : w.ownsRow 0 5 1 S n (ints .u8 P n)) (hgu0 : gu < w.heap.size) (hgn0 : gu ∉ g :: vbl S) (hcl0 : ∀ i, i < m → w.cell? ⟨gu, 2 * i, none⟩ = some (.int .i64 ((F i).st : Int)) ∧ w.cell? ⟨gu, 2 * i + 1, none⟩ = some (.slice (F i).q.p (F i).q.n (F i).q.cp)) (hv0 : ∀ i, i < m → (F i).st ≤ rN n F i ∧ (F i).st + (F i).q.n ≤ 2097152) (hok0 : ∀ i, i < m → ∀ s' n' P' w', Sg w g S s' n' P' w' → (F i).ok w') (hbt0 : rN n F (min a.toNat m) + (min bt.toNat (F (min a.toNat m)).q.n) ≤ 2097152) (htc0 : (min bt.toNat (F (min a.toNat m)).q.n) ≤ (F (min a.toNat m)).q.cp) :
    Calls Try.prog 73 #[PT g 0, .int .i64 a, .int .i64 bt] w fun e w' => e = .returned (.bool (decide (0 < (min a.toNat m) + (min bt.toNat (F (min a.toNat m)).q.n)))) ∧ ∃ s', Mm w' [(g, [s', Value.slice none 0 0, Value.bool false])] ∧ Sg w g S s' (rN n F (min a.toNat m) + (min bt.toNat (F (min a.toNat m)).q.n)) (ct (rP P F (min a.toNat m)) (rN n F (min a.toNat m)) (F (min a.toNat m)).q.f) w' := by
  have H0 : Hid (_ ∧ _) := ⟨hm, Sg.start (g := g) row0⟩
  clear hm
  have hg : Hid _ := hg0
  have hgS : Hid _ := hgS0
  clear hg0 hgS0
  have hgu : Hid _ := hgu0
  have hgn : Hid _ := hgn0
  have hcl : Hid _ := hcl0
  have hv : Hid _ := hv0
  have hok : Hid _ := hok0
  clear hgu0 hgn0 hcl0 hv0 hok0
  have hbt : Hid _ := hbt0
  have htc : Hid _ := htc0
  clear hbt0 htc0
  go_enter Try.func73, Try.ntmps73
  refine wp_seq ?_
  refine sq_startW (l := [0]) rfl (fun u0 hu0 => ?_)
  have H1 : Hid (Mm u0 [(g, [S, Value.slice (some ⟨gu, 0, none⟩) m cu, Value.bool true])] ∧ Sg w g S S n P u0) := by rw [hu0]; exact H0
  clear hu0 H0
  refine rest_set (d := 6) (v := .bool false) (w' := u0) rfl rfl rfl (rfl) ?_
  simp only [Act.put, sa, sz, ss]
  refine rest_nil (then_normal (wp_seq ?_))
  refine sq_start (l := [0, 1, 2, 3, 4, 5, 6, 7]) rfl ?_
  refine rest_set (d := 13) (v := .int .i64 a) (w' := u0) rfl rfl rfl (rfl) ?_
  simp only [Act.put, sa, sz, ss]
  refine rest_set (d := 14) (v := PT g 0) (w' := u0) rfl rfl rfl (rfl) ?_
  simp only [Act.put, sa, sz, ss]
  refine rest_set (d := 15) (v := PT g 0) (w' := u0) rfl rfl rfl (by go_simp) ?_
  simp only [Act.put, sa, sz, ss]
  refine rest_set (d := 16) (v := PT g 1) (w' := u0) rfl rfl rfl (by go_simp) ?_
  simp only [Act.put, sa, sz, ss]
  refine rest_set (d := 17) (v := .slice (some ⟨gu, 0, none⟩) m cu) (w' := u0) rfl rfl rfl (ex_loadC H1.out.1 0 rfl rfl rfl Try.isAgg115 rfl) ?_
  simp only [Act.put, sa, sz, ss]
  refine rest_set (d := 18) (v := .int .i64 ((m : Nat) : Int)) (w' := u0) rfl rfl rfl (by go_simp) ?_
  simp only [Act.put, sa, sz, ss]
  refine rest_enter (d := 19) (R := fun vv w' => vv = .int .i64 ((min a.toNat m : Nat) : Int) ∧ Below u0.heap.size u0 w') rfl rfl rfl (exec_call (args := #[.int .i64 a, .int .i64 ((m : Nat) : Int)]) rfl call104 rfl (mpn rfl)) (Calls.mono (within_any a m u0) (fun e w2 hh => ⟨_, hh.1, rfl, hh.2⟩)) ?_
  rintro _ w2 ⟨rfl, hb⟩
  have H2 : Hid (Mm w2 [(g, [S, Value.slice (some ⟨gu, 0, none⟩) m cu, Value.bool true])] ∧ Sg w g S S n P w2) := ⟨H1.out.1.below hb, Sg.below H1.out.2 (hb)⟩
  clear hb
  clear H1
  simp only [Act.put, sa, sz, ss]
  refine rest_set (d := 7) (v := .int .i64 ((min a.toNat m : Nat) : Int)) (w' := w2) rfl rfl rfl (rfl) ?_
  simp only [Act.put, sa, sz, ss]
  refine rest_nil (then_normal ?_)
  refine wp_seq (wp_seq ?_)
  refine sq_start (l := [0, 1, 2, 3, 4, 5, 6, 7]) rfl ?_
  refine rest_set (d := 20) (v := PT g 0) (w' := w2) rfl rfl rfl (rfl) ?_
  simp only [Act.put, sa, sz, ss]
  refine rest_set (d := 21) (v := PT g 0) (w' := w2) rfl rfl rfl (by go_simp) ?_
  simp only [Act.put, sa, sz, ss]
  refine rest_set (d := 22) (v := PT g 1) (w' := w2) rfl rfl rfl (by go_simp) ?_
  simp only [Act.put, sa, sz, ss]
  refine rest_set (d := 23) (v := .slice (some ⟨gu, 0, none⟩) m cu) (w' := w2) rfl rfl rfl (ex_loadC H2.out.1 0 rfl rfl rfl Try.isAgg115 rfl) ?_
  simp only [Act.put, sa, sz, ss]
  refine rest_set (d := 24) (v := .int .i64 ((min a.toNat m : Nat) : Int)) (w' := w2) rfl rfl rfl (rfl) ?_
  simp only [Act.put, sa, sz, ss]
  refine rest_set (d := 25) (v := .slice (some ⟨gu, 0, none⟩) (min a.toNat m) cu) (w' := w2) rfl rfl rfl (ex_takeO (by omega) rfl rfl rfl) ?_
  simp only [Act.put, sa, sz, ss]
  refine rest_set (d := 26) (v := .int .i64 (((min a.toNat m) : Nat) : Int)) (w' := w2) rfl rfl rfl (by go_simp) ?_
  simp only [Act.put, sa, sz, ss]
  refine rest_set (d := 27) (v := .int .i64 0) (w' := w2) rfl rfl rfl (rfl) ?_
  simp only [Act.put, sa, sz, ss]
  refine rest_nil (then_normal (wp_block ?_))
  refine loop_ghost (α := Nat × Value) (fun x a' w' => ∃ s0 : Nat → Value, a' = ⟨#[PT g 0, .int .i64 a, .int .i64 bt, undef, undef, undef, .bool false, .int .i64 ((min a.toNat m : Nat) : Int), undef, s0 9, undef, undef, undef, .int .i64 a, PT g 0, PT g 0, PT g 1, .slice (some ⟨gu, 0, none⟩) m cu, .int .i64 ((m : Nat) : Int), .int .i64 ((min a.toNat m : Nat) : Int), PT g 0, PT g 0, PT g 1, .slice (some ⟨gu, 0, none⟩) m cu, .int .i64 ((min a.toNat m : Nat) : Int), .slice (some ⟨gu, 0, none⟩) (min a.toNat m) cu, .int .i64 (((min a.toNat m) : Nat) : Int), .int .i64 ((x.1 : Nat) : Int), s0 28, s0 29, s0 30, s0 31, s0 32, s0 33, s0 34, s0 35, s0 36, s0 37, s0 38, s0 39, s0 40, undef, undef, undef, undef, undef, undef, undef, undef, undef, undef, undef, undef, undef, undef, undef, undef, undef, undef, undef, undef, undef, undef, undef, undef, undef, undef, undef, undef, undef, undef, undef, undef, undef, undef, undef, undef, undef, undef, undef, undef, undef, undef, undef, undef, undef, undef, undef, undef], []⟩ ∧ (Mm w' [(g, [x.2, Value.slice (some ⟨gu, 0, none⟩) m cu, Value.bool true])] ∧ Sg w g S x.2 (rN n F x.1) (rP P F x.1) w') ∧ x.1 ≤ (min a.toNat m)) (fun x => (min a.toNat m) - x.1) (0, S) ?st0 ?rd0
  case st0 => exact ⟨(slotfn [undef, undef, undef, undef, undef, undef, undef, undef, undef, undef, undef, undef, undef, undef, undef, undef, undef, undef, undef, undef, undef, undef, undef, undef, undef, undef, undef, undef, undef, undef, undef, undef, undef, undef, undef, undef, undef, undef, undef, undef, undef]), rfl, ⟨H2.out.1, H2.out.2⟩, Nat.zero_le _⟩
  intro x a' w3 hI
  obtain ⟨s0, rfl, hMB, hk0⟩ := hI
  have H3 : Hid (_ ∧ _) := hMB
  clear hMB H2
  by_cases hltx : x.1 < (min a.toNat m)
  · have hrd : True := trivial
    clear hrd
    have hxm : x.1 < m := by omega
    refine wp_seq ?_
    refine sq_start (l := [0]) rfl ?_
    refine rest_set (d := 28) (v := .bool true) (w' := w3) rfl rfl rfl (by go_simp <;> omega) ?_
    simp only [Act.put, sa, sz, ss]
    refine rest_nil (then_normal ?_)
    refine wp_seq (wp_cond_true rfl ?_)
    refine wp_skip (then_normal ?_)
    refine wp_seq (wp_block (wp_seq ?_))
    refine sq_start (l := [0, 1, 2, 3]) rfl ?_
    refine rest_set (d := 29) (v := PT gu (2 * x.1)) (w' := w3) rfl rfl rfl (ex_ixO rfl rfl rfl (by omega)) ?_
    simp only [Act.put, sa, sz, ss]
    refine rest_set (d := 30) (v := .agg ([Value.int .i64 (((F x.1).st : Nat) : Int), Value.slice (F x.1).q.p (F x.1).q.n (F x.1).q.cp]).toArray) (w' := w3) rfl rfl rfl (ex_ldO (H3.out.2.cell hgu.out hgn.out (hcl.out x.1 hxm).1) (H3.out.2.cell hgu.out hgn.out (hcl.out x.1 hxm).2) rfl rfl) ?_
    simp only [Act.put, sa, sz, ss]
    have nbz : Hid (w3.heap.size ∉ vbl x.2) := fun hm => Nat.lt_irrefl _ (own_lt H3.out.2.row _ hm)
    refine rest_set (d := 9) (v := PT w3.heap.size 0) (w' := (w3.alloc (.cells ([Value.int .i64 0, Value.slice none 0 0] : List Value).toArray 120))) rfl rfl rfl (ex_mk120 rfl) ?_
    simp only [Act.put, sa, sz, ss]
    have o_γs4 : Hid (w.heap.size ≤ w3.heap.size) := H3.out.2.size
    have H4 : Hid (Mm (w3.alloc (.cells ([Value.int .i64 0, Value.slice none 0 0] : List Value).toArray 120)) ((w3.heap.size, [Value.int .i64 0, Value.slice none 0 0]) :: [(g, [x.2, Value.slice (some ⟨gu, 0, none⟩) m cu, Value.bool true])]) ∧ Sg w g S x.2 (rN n F x.1) (rP P F x.1) (w3.alloc (.cells ([Value.int .i64 0, Value.slice none 0 0] : List Value).toArray 120))) := ⟨H3.out.1.alloc _ 120 rfl, Sg.below H3.out.2 (((Below.refl _ _).alloc (Nat.le_refl _) _))⟩
    clear H3
    generalize hgw : w3.alloc (.cells ([Value.int .i64 0, Value.slice none 0 0] : List Value).toArray 120) = w4 at H4 ⊢
    clear hgw
    generalize w3.heap.size = γs4 at nbz o_γs4 H4 ⊢
    have nb_γs4 : Hid _ := nbz.out
    clear nbz
    refine rest_store rfl rfl rfl (ex_storeT (vs := [Value.int .i64 (((F x.1).st : Nat) : Int), Value.slice (F x.1).q.p (F x.1).q.n (F x.1).q.cp]) H4.out.1 0 rfl rfl rfl rfl Try.sizeOf120 rfl (Nat.le_of_ble_eq_true rfl)) ?_
    have H5 : Hid (Mm (w4.setCells γs4 0 [Value.int .i64 (((F x.1).st : Nat) : Int), Value.slice (F x.1).q.p (F x.1).q.n (F x.1).q.cp]) [(γs4, [Value.int .i64 (((F x.1).st : Nat) : Int), Value.slice (F x.1).q.p (F x.1).q.n (F x.1).q.cp]), (g, [x.2, Value.slice (some ⟨gu, 0, none⟩) m cu, Value.bool true])] ∧ Sg w g S x.2 (rN n F x.1) (rP P F x.1) (w4.setCells γs4 0 [Value.int .i64 (((F x.1).st : Nat) : Int), Value.slice (F x.1).q.p (F x.1).q.n (F x.1).q.cp])) := ⟨H4.out.1.put 0 (off := 0) (vs := [Value.int .i64 (((F x.1).st : Nat) : Int), Value.slice (F x.1).q.p (F x.1).q.n (F x.1).q.cp]) rfl (Nat.le_of_ble_eq_true rfl), H4.out.2.putNew o_γs4.out nb_γs4.out _ _⟩
    clear H4
    generalize hgw : World.setCells _ _ _ _ = w5 at H5 ⊢
    clear hgw
    refine rest_nil (then_normal ?_)
    refine walk_enterV (by kernel_rfl) 6 [0] [.quiet (PT g 0), .quiet (.agg ([Value.int .i64 (((F x.1).st : Nat) : Int), Value.slice (F x.1).q.p (F x.1).q.n (F x.1).q.cp]).toArray), .quiet (PT g 0), .quiet (PT g 0), .quiet (PT g 0), .quiet (x.2)] (fun w' => Mm w' [(γs4, [Value.int .i64 (((F x.1).st : Nat) : Int), Value.slice (F x.1).q.p (F x.1).q.n (F x.1).q.cp]), (g, [x.2, Value.slice (some ⟨gu, 0, none⟩) m cu, Value.bool true])]) ?pre6 ?F6 ?G6 _ 37 ?hpre6 (fun γ => ?hF6) (fun v γ => ?hG6) (by kernel_rfl) rfl ?hL6 ?hS6 ?ho6 (fun v => ?hla6) ?he6
    case hpre6 => simp only [tk, tz]; rfl
    case hF6 => simp only [fill, Kind.val, Act.put, sa, sz, ss]; rfl
    case hG6 => simp only [fill, Kind.val, Act.put, sa, sz, ss]; rfl
    case hL6 => exact trivial
    case hS6 => exact fun w' hb => H5.out.1.below hb
    case ho6 =>
      refine ak (fun _ => ⟨rfl, fun _ _ => rfl⟩) ?_
      refine ak (fun γ => ⟨rfl, fun w' h => ex_loadT h 0 rfl rfl rfl Try.isAgg120 Try.sizeOf120 rfl rfl⟩) ?_
      refine ak (fun _ => ⟨rfl, fun _ _ => rfl⟩) ?_
      refine ak (by refine fun γ => ⟨rfl, fun w' h => ?_⟩; clear h; go_simp) ?_
      refine ak (by refine fun γ => ⟨rfl, fun w' h => ?_⟩; clear h; go_simp) ?_
      refine ak (fun γ => ⟨rfl, fun w' h => ex_loadC h 1 rfl rfl rfl Try.isAgg34 rfl⟩) ?_
      exact trivial
    case hla6 => exact ⟨⟨_, _, rfl, rfl, fun γ => ⟨rfl, fun w' => rfl⟩⟩, trivial⟩
    intro γ w6 l hM hl
    have M6 : Mm w6 [(γs4, [Value.int .i64 (((F x.1).st : Nat) : Int), Value.slice (F x.1).q.p (F x.1).q.n (F x.1).q.cp]), (g, [x.2, Value.slice (some ⟨gu, 0, none⟩) m cu, Value.bool true])] := H5.out.1.grow hM (Nat.le_refl _) hl [] rfl (by decide)
    have B6 : Sg w g S x.2 (rN n F x.1) (rP P F x.1) w6 := Sg.below H5.out.2 (hM.below)
    clear hM hl l H5
    clear γ
    have H6 : Hid (_ ∧ _) := ⟨M6, B6⟩
    clear M6 B6
    refine ⟨102, #[.agg ([.int .i64 (((F x.1).st : Nat) : Int), .slice (F x.1).q.p (F x.1).q.n (F x.1).q.cp] : List Value).toArray, x.2], fun vv w' => w'.ownsRow 0 5 1 vv ((F x.1).st + (F x.1).q.n) (ints .u8 (ct (rP P F x.1) (F x.1).st (F x.1).q.f) ((F x.1).st + (F x.1).q.n)) ∧ Chg (vbl x.2) w6 w' ∧ ∀ z ∈ vbl vv, z ∈ vbl x.2 ∨ w6.heap.size ≤ z, exec_call rfl call102 rfl (mpn rfl), upon_v (F x.1) x.2 _ 0 _ (hv.out x.1 hxm).1 (hv.out x.1 hxm).2 w6 (Nat.zero_le _) H6.out.2.row (hok.out x.1 hxm _ _ _ _ H6.out.2), ?_⟩
    rintro vr w7 ⟨hO, hC, hb5⟩
    have hM : Mm w7 [(g, [x.2, Value.slice (some ⟨gu, 0, none⟩) m cu, Value.bool true])] := hC.mm (H6.out.1.one 1 rfl) (fun p hp => by obtain rfl := List.mem_singleton.1 hp; exact H6.out.2.ng hgS.out hg.out)
    have hs1 : Hid _ := own_st hO
    have H7 : Hid (Mm w7 [(g, [x.2, Value.slice (some ⟨gu, 0, none⟩) m cu, Value.bool true])] ∧ Sg w g S vr (rN n F (x.1 + 1)) (rP P F (x.1 + 1)) w7) := ⟨hM, H6.out.2.on hC hO hb5⟩
    clear hO hC hb5 hM H6
    refine rest_at (l := [7, 8, 9]) rfl ?_
    refine rest_set (d := 38) (v := PT g 0) (w' := w7) rfl rfl rfl (by go_simp) ?_
    simp only [Act.put, sa, sz, ss]
    refine rest_set (d := 39) (v := PT g 0) (w' := w7) rfl rfl rfl (by go_simp) ?_
    simp only [Act.put, sa, sz, ss]
    refine rest_store rfl rfl rfl (ex_st1 (v := vr) H7.out.1 0 rfl rfl Try.sizeOf34 rfl rfl (hs1.out) (Nat.le_of_ble_eq_true rfl)) ?_
    have H8 : Hid (Mm (w7.setCells g 0 [vr]) [(g, [vr, Value.slice (some ⟨gu, 0, none⟩) m cu, Value.bool true])] ∧ Sg w g S vr (rN n F (x.1 + 1)) (rP P F (x.1 + 1)) (w7.setCells g 0 [vr])) := ⟨H7.out.1.put 0 (off := 0) (vs := [vr]) rfl (Nat.le_of_ble_eq_true rfl), H7.out.2.put hgS.out hg.out _ _⟩
    clear H7
    generalize hgw : World.setCells _ _ _ _ = w8 at H8 ⊢
    clear hgw
    refine rest_nil (block_normal (then_normal ?_))
    refine sq_start (l := [0, 1]) rfl ?_
    refine rest_set (d := 40) (v := .int .i64 ((x.1 + 1 : Nat) : Int)) (w' := w8) rfl rfl rfl (by go_simp; rw [IntKind.wrap_i64]; omega) ?_
    simp only [Act.put, sa, sz, ss]
    refine rest_set (d := 27) (v := .int .i64 ((x.1 + 1 : Nat) : Int)) (w' := w8) rfl rfl rfl (rfl) ?_
    simp only [Act.put, sa, sz, ss]
    refine rest_nil (then_normal ?_)
    exact ⟨(x.1 + 1, vr), ⟨(slotfn [undef, undef, undef, undef, undef, undef, undef, undef, undef, PT γs4 0, undef, undef, undef, undef, undef, undef, undef, undef, undef, undef, undef, undef, undef, undef, undef, undef, undef, undef, .bool true, PT gu (2 * x.1), .agg ([Value.int .i64 (((F x.1).st : Nat) : Int), Value.slice (F x.1).q.p (F x.1).q.n (F x.1).q.cp]).toArray, PT g 0, .agg ([Value.int .i64 (((F x.1).st : Nat) : Int), Value.slice (F x.1).q.p (F x.1).q.n (F x.1).q.cp]).toArray, PT g 0, PT g 0, PT g 0, x.2, vr, PT g 0, PT g 0, .int .i64 ((x.1 + 1 : Nat) : Int)]), rfl, ⟨H8.out.1, H8.out.2⟩, (show x.1 + 1 ≤ (min a.toNat m) by omega)⟩, (show (min a.toNat m) - (x.1 + 1) < (min a.toNat m) - x.1 by omega)⟩
  have hxN : x.1 = (min a.toNat m) := by omega
  refine wp_seq ?_
  refine sq_start (l := [0]) rfl ?_
  refine rest_set (d := 28) (v := .bool false) (w' := w3) rfl rfl rfl (by go_simp <;> omega) ?_
  simp only [Act.put, sa, sz, ss]
  refine rest_nil (then_normal ?_)
  refine wp_seq (wp_cond_false rfl ?_)
  refine wp_exit ?_
  repeat refine then_exit ?_
  refine block_exit ?_
  have H9 : Hid (Mm w3 [(g, [x.2, Value.slice (some ⟨gu, 0, none⟩) m cu, Value.bool true])] ∧ Sg w g S x.2 (rN n F (min a.toNat m)) (rP P F (min a.toNat m)) w3) := ⟨H3.out.1, by rw [← hxN]; exact H3.out.2⟩
  clear H3
  refine then_normal (wp_seq ?_)
  refine sq_start (l := [0]) rfl ?_
  refine rest_set (d := 10) (v := .int .i64 0) (w' := w3) rfl rfl rfl (rfl) ?_
  simp only [Act.put, sa, sz, ss]
  refine rest_nil (then_normal ?_)
  refine wp_seq (wp_seq ?_)
  refine sq_start (l := [0, 1, 2, 3, 4, 5, 6]) rfl ?_
  refine rest_set (d := 41) (v := PT g 0) (w' := w3) rfl rfl rfl (rfl) ?_
  simp only [Act.put, sa, sz, ss]
  refine rest_set (d := 42) (v := PT g 0) (w' := w3) rfl rfl rfl (by go_simp) ?_
  simp only [Act.put, sa, sz, ss]
  refine rest_set (d := 43) (v := PT g 1) (w' := w3) rfl rfl rfl (by go_simp) ?_
  simp only [Act.put, sa, sz, ss]
  refine rest_set (d := 44) (v := .slice (some ⟨gu, 0, none⟩) m cu) (w' := w3) rfl rfl rfl (ex_loadC H9.out.1 0 rfl rfl rfl Try.isAgg115 rfl) ?_
  simp only [Act.put, sa, sz, ss]
  refine rest_set (d := 45) (v := .int .i64 ((min a.toNat m : Nat) : Int)) (w' := w3) rfl rfl rfl (rfl) ?_
  simp only [Act.put, sa, sz, ss]
  refine rest_set (d := 46) (v := .slice (some ⟨gu, (2 * (min a.toNat m)), none⟩) (m - (min a.toNat m)) (cu - (min a.toNat m))) (w' := w3) rfl rfl rfl (ex_dropO (by omega) (by omega) rfl rfl rfl) ?_
  simp only [Act.put, sa, sz, ss]
  refine rest_set (d := 11) (v := .slice (some ⟨gu, (2 * (min a.toNat m)), none⟩) (m - (min a.toNat m)) (cu - (min a.toNat m))) (w' := w3) rfl rfl rfl (rfl) ?_
  simp only [Act.put, sa, sz, ss]
  refine rest_nil (then_normal (wp_seq ?_))
  refine sq_start (l := [0, 1, 2]) rfl ?_
  refine rest_set (d := 47) (v := .slice (some ⟨gu, (2 * (min a.toNat m)), none⟩) (m - (min a.toNat m)) (cu - (min a.toNat m))) (w' := w3) rfl rfl rfl (rfl) ?_
  simp only [Act.put, sa, sz, ss]
  refine rest_set (d := 48) (v := .int .i64 (((m - (min a.toNat m)) : Nat) : Int)) (w' := w3) rfl rfl rfl (by go_simp) ?_
  simp only [Act.put, sa, sz, ss]
  refine rest_set (d := 49) (v := .bool true) (w' := w3) rfl rfl rfl (by go_simp <;> omega) ?_
  simp only [Act.put, sa, sz, ss]
  refine rest_nil (then_normal ?_)
  refine wp_cond_true rfl (wp_seq ?_)
  refine sq_start (l := [0, 1, 2, 3, 4, 5, 6, 7]) rfl ?_
  refine rest_set (d := 50) (v := .int .i64 bt) (w' := w3) rfl rfl rfl (rfl) ?_
  simp only [Act.put, sa, sz, ss]
  refine rest_set (d := 51) (v := .slice (some ⟨gu, (2 * (min a.toNat m)), none⟩) (m - (min a.toNat m)) (cu - (min a.toNat m))) (w' := w3) rfl rfl rfl (rfl) ?_
  simp only [Act.put, sa, sz, ss]
  refine rest_set (d := 52) (v := PT gu (2 * (min a.toNat m))) (w' := w3) rfl rfl rfl (ex_ixO0 rfl rfl rfl (by omega)) ?_
  simp only [Act.put, sa, sz, ss]
  refine rest_set (d := 53) (v := PT gu (2 * (min a.toNat m) + 1)) (w' := w3) rfl rfl rfl (by go_simp) ?_
  simp only [Act.put, sa, sz, ss]
  refine rest_set (d := 54) (v := .slice (F (min a.toNat m)).q.p (F (min a.toNat m)).q.n (F (min a.toNat m)).q.cp) (w' := w3) rfl rfl rfl (ex_ldS (H9.out.2.cell hgu.out hgn.out (hcl.out (min a.toNat m) hdm).2) rfl rfl) ?_
  simp only [Act.put, sa, sz, ss]
  refine rest_set (d := 55) (v := .int .i64 (((F (min a.toNat m)).q.n : Nat) : Int)) (w' := w3) rfl rfl rfl (by go_simp) ?_
  simp only [Act.put, sa, sz, ss]
  refine rest_enter (d := 56) (R := fun vv w' => vv = .int .i64 ((min bt.toNat (F (min a.toNat m)).q.n : Nat) : Int) ∧ Below w3.heap.size w3 w') rfl rfl rfl (exec_call (args := #[.int .i64 bt, .int .i64 (((F (min a.toNat m)).q.n : Nat) : Int)]) rfl call104 rfl (mpn rfl)) (Calls.mono (within_any bt ((F (min a.toNat m)).q.n) w3) (fun e w2 hh => ⟨_, hh.1, rfl, hh.2⟩)) ?_
  rintro _ w10 ⟨rfl, hb⟩
  have H10 : Hid (Mm w10 [(g, [x.2, Value.slice (some ⟨gu, 0, none⟩) m cu, Value.bool true])] ∧ Sg w g S x.2 (rN n F (min a.toNat m)) (rP P F (min a.toNat m)) w10) := ⟨H9.out.1.below hb, Sg.below H9.out.2 (hb)⟩
  clear hb
  clear H9
  simp only [Act.put, sa, sz, ss]
  refine rest_set (d := 10) (v := .int .i64 ((min bt.toNat (F (min a.toNat m)).q.n : Nat) : Int)) (w' := w10) rfl rfl rfl (rfl) ?_
  simp only [Act.put, sa, sz, ss]
  refine rest_nil (then_normal ?_)
  refine walk_value (by kernel_rfl) 11 [0] [.quiet (PT g 0), .quiet (PT g 0), .quiet (PT g 0), .quiet (PT g 0), .quiet (x.2), .quiet (.slice (some ⟨gu, (2 * (min a.toNat m)), none⟩) (m - (min a.toNat m)) (cu - (min a.toNat m))), .quiet (PT gu (2 * (min a.toNat m))), .quiet (PT gu (2 * (min a.toNat m) + 1)), .quiet (.slice (F (min a.toNat m)).q.p (F (min a.toNat m)).q.n (F (min a.toNat m)).q.cp), .quiet (.int .i64 ((min bt.toNat (F (min a.toNat m)).q.n : Nat) : Int)), .quiet (.slice (F (min a.toNat m)).q.p (min bt.toNat (F (min a.toNat m)).q.n) (F (min a.toNat m)).q.cp)] (fun u' => Mm u' [(g, [x.2, Value.slice (some ⟨gu, 0, none⟩) m cu, Value.bool true])] ∧ Sg w g S x.2 (rN n F (min a.toNat m)) (rP P F (min a.toNat m)) u') ?pre13 ?F13 ?G13 _ 68 ?hpre13 (fun γ => ?hF13) (fun v γ => ?hG13) (by kernel_rfl) rfl ?hL13 ?hS13 ?ho13 (fun v => ?hla13) ?he13
  case hpre13 => simp only [tk, tz]; rfl
  case hF13 => simp only [fill, Kind.val, Act.put, sa, sz, ss]; rfl
  case hG13 => simp only [fill, Kind.val, Act.put, sa, sz, ss]; rfl
  case hL13 => exact trivial
  case hS13 => exact fun w' hb => ⟨H10.out.1.below hb, Sg.below H10.out.2 (hb)⟩
  case ho13 =>
    refine ak (fun _ => ⟨rfl, fun _ _ => rfl⟩) ?_
    refine ak (fun _ => ⟨rfl, fun _ _ => rfl⟩) ?_
    refine ak (by refine fun γ => ⟨rfl, fun w' h => ?_⟩; clear h; go_simp) ?_
    refine ak (by refine fun γ => ⟨rfl, fun w' h => ?_⟩; clear h; go_simp) ?_
    refine ak (fun γ => ⟨rfl, fun w' hX => have h := hX.1; ex_loadC h 0 rfl rfl rfl Try.isAgg34 rfl⟩) ?_
    refine ak (fun _ => ⟨rfl, fun _ _ => rfl⟩) ?_
    refine ak (fun γ => ⟨rfl, fun w' _ => ex_ixO0 rfl rfl rfl (by omega)⟩) ?_
    refine ak (by refine fun γ => ⟨rfl, fun w' h => ?_⟩; clear h; go_simp) ?_
    refine ak (fun γ => ⟨rfl, fun w' hX => ex_ldS (hX.2.cell hgu.out hgn.out (hcl.out (min a.toNat m) hdm).2) rfl rfl⟩) ?_
    refine ak (fun _ => ⟨rfl, fun _ _ => rfl⟩) ?_
    refine ak (fun γ => ⟨rfl, fun w' _ => ex_take htc.out rfl rfl rfl⟩) ?_
    exact trivial
  case hla13 => exact ⟨⟨_, _, rfl, rfl, fun γ => ⟨rfl, fun w' => rfl⟩⟩, trivial⟩
  intro γ w11 l hM hl
  have M11 : Mm w11 [(g, [x.2, Value.slice (some ⟨gu, 0, none⟩) m cu, Value.bool true])] := H10.out.1.grow hM (Nat.le_refl _) hl [] rfl (by decide)
  have B11 : Sg w g S x.2 (rN n F (min a.toNat m)) (rP P F (min a.toNat m)) w11 := Sg.below H10.out.2 (hM.below)
  clear hM hl l H10
  clear γ
  have H11 : Hid (_ ∧ _) := ⟨M11, B11⟩
  clear M11 B11
  obtain ⟨vt, w12, hr, hO, hG, h5⟩ := own_appQ H11.out.2.row (Nat.zero_le _) (Pt8.pre_ok (hok.out (min a.toNat m) hdm _ _ _ _ H11.out.2).1 (k := (min bt.toNat (F (min a.toNat m)).q.n)) (Nat.min_le_right _ _)) (hok.out (min a.toNat m) hdm _ _ _ _ H11.out.2).2.1 (Pt8.pre_rs (hok.out (min a.toNat m) hdm _ _ _ _ H11.out.2).2.2 (Nat.min_le_right _ _)) (hbt.out) 34
  refine ⟨vt, w12, ex_app rfl rfl rfl hr, ?_⟩
  have hM : Mm w12 [(g, [x.2, Value.slice (some ⟨gu, 0, none⟩) m cu, Value.bool true])] := (Chg.grown hG).mm (H11.out.1.one 0 rfl) (fun p hp => by obtain rfl := List.mem_singleton.1 hp; exact H11.out.2.ng hgS.out hg.out)
  have hs2 : Hid _ := own_st hO
  have H12 : Hid (Mm w12 [(g, [x.2, Value.slice (some ⟨gu, 0, none⟩) m cu, Value.bool true])] ∧ Sg w g S vt (rN n F (min a.toNat m) + (min bt.toNat (F (min a.toNat m)).q.n)) (ct (rP P F (min a.toNat m)) (rN n F (min a.toNat m)) (F (min a.toNat m)).q.f) w12) := ⟨hM, H11.out.2.on (Chg.grown hG) hO (vbl_new h5 (Nat.le_refl _) rfl)⟩
  clear hr hO hG h5 hM H11
  refine rest_at (l := [12, 13, 14]) rfl ?_
  refine rest_set (d := 69) (v := PT g 0) (w' := w12) rfl rfl rfl (by go_simp) ?_
  simp only [Act.put, sa, sz, ss]
  refine rest_set (d := 70) (v := PT g 0) (w' := w12) rfl rfl rfl (by go_simp) ?_
  simp only [Act.put, sa, sz, ss]
  refine rest_store rfl rfl rfl (ex_st1 (v := vt) H12.out.1 0 rfl rfl Try.sizeOf34 rfl rfl (hs2.out) (Nat.le_of_ble_eq_true rfl)) ?_
  have H13 : Hid (Mm (w12.setCells g 0 [vt]) [(g, [vt, Value.slice (some ⟨gu, 0, none⟩) m cu, Value.bool true])] ∧ Sg w g S vt (rN n F (min a.toNat m) + (min bt.toNat (F (min a.toNat m)).q.n)) (ct (rP P F (min a.toNat m)) (rN n F (min a.toNat m)) (F (min a.toNat m)).q.f) (w12.setCells g 0 [vt])) := ⟨H12.out.1.put 0 (off := 0) (vs := [vt]) rfl (Nat.le_of_ble_eq_true rfl), H12.out.2.put hgS.out hg.out _ _⟩
  clear H12
  generalize hgw : World.setCells _ _ _ _ = w13 at H13 ⊢
  clear hgw
  refine rest_nil (then_normal (wp_seq ?_))
  refine sq_start (l := [0, 1, 2, 3, 4, 5, 6, 7, 8, 9, 10, 11]) rfl ?_
  refine rest_set (d := 71) (v := PT g 0) (w' := w13) rfl rfl rfl (rfl) ?_
  simp only [Act.put, sa, sz, ss]
  refine rest_set (d := 72) (v := PT g 0) (w' := w13) rfl rfl rfl (by go_simp) ?_
  simp only [Act.put, sa, sz, ss]
  refine rest_set (d := 73) (v := PT g 2) (w' := w13) rfl rfl rfl (by go_simp) ?_
  simp only [Act.put, sa, sz, ss]
  refine rest_set (d := 74) (v := .bool true) (w' := w13) rfl rfl rfl (ex_loadC H13.out.1 0 rfl rfl rfl Try.isAgg4 rfl) ?_
  simp only [Act.put, sa, sz, ss]
  refine rest_set (d := 75) (v := .bool false) (w' := w13) rfl rfl rfl (by go_simp) ?_
  simp only [Act.put, sa, sz, ss]
  refine rest_set (d := 76) (v := .bool false) (w' := w13) rfl rfl rfl (rfl) ?_
  simp only [Act.put, sa, sz, ss]
  refine rest_set (d := 77) (v := .int .i64 ((min a.toNat m : Nat) : Int)) (w' := w13) rfl rfl rfl (rfl) ?_
  simp only [Act.put, sa, sz, ss]
  refine rest_set (d := 78) (v := .int .i64 ((min bt.toNat (F (min a.toNat m)).q.n : Nat) : Int)) (w' := w13) rfl rfl rfl (rfl) ?_
  simp only [Act.put, sa, sz, ss]
  refine rest_set (d := 79) (v := .int .i64 (((min a.toNat m) + (min bt.toNat (F (min a.toNat m)).q.n) : Nat) : Int)) (w' := w13) rfl rfl rfl (by have hbq := hbt.out; go_simp; rw [IntKind.wrap_i64]; omega) ?_
  simp only [Act.put, sa, sz, ss]
  refine rest_set (d := 80) (v := .bool (decide (0 < (min a.toNat m) + (min bt.toNat (F (min a.toNat m)).q.n)))) (w' := w13) rfl rfl rfl (by go_simp; omega) ?_
  simp only [Act.put, sa, sz, ss]
  refine rest_set (d := 81) (v := .bool (decide (0 < (min a.toNat m) + (min bt.toNat (F (min a.toNat m)).q.n)))) (w' := w13) rfl rfl rfl (by go_simp) ?_
  simp only [Act.put, sa, sz, ss]
  refine rest_set (d := 12) (v := .bool (decide (0 < (min a.toNat m) + (min bt.toNat (F (min a.toNat m)).q.n)))) (w' := w13) rfl rfl rfl (rfl) ?_
  simp only [Act.put, sa, sz, ss]
  refine rest_nil (then_normal (wp_seq ?_))
  refine sq_start (l := [0, 1, 2, 3, 4, 5, 6, 7]) rfl ?_
  refine rest_set (d := 82) (v := PT g 0) (w' := w13) rfl rfl rfl (rfl) ?_
  simp only [Act.put, sa, sz, ss]
  refine rest_set (d := 83) (v := PT g 0) (w' := w13) rfl rfl rfl (rfl) ?_
  simp only [Act.put, sa, sz, ss]
  refine rest_set (d := 84) (v := PT g 0) (w' := w13) rfl rfl rfl (by go_simp) ?_
  simp only [Act.put, sa, sz, ss]
  refine rest_set (d := 85) (v := PT g 1) (w' := w13) rfl rfl rfl (by go_simp) ?_
  simp only [Act.put, sa, sz, ss]
  refine rest_store rfl rfl rfl (ex_st1 (v := .slice none 0 0) H13.out.1 0 rfl rfl Try.sizeOf115 rfl rfl (rfl) (Nat.le_of_ble_eq_true rfl)) ?_
  have H14 : Hid (Mm (w13.setCells g 1 [Value.slice none 0 0]) [(g, [vt, Value.slice none 0 0, Value.bool true])] ∧ Sg w g S vt (rN n F (min a.toNat m) + (min bt.toNat (F (min a.toNat m)).q.n)) (ct (rP P F (min a.toNat m)) (rN n F (min a.toNat m)) (F (min a.toNat m)).q.f) (w13.setCells g 1 [Value.slice none 0 0])) := ⟨H13.out.1.put 0 (off := 1) (vs := [Value.slice none 0 0]) rfl (Nat.le_of_ble_eq_true rfl), H13.out.2.put hgS.out hg.out _ _⟩
  clear H13
  generalize hgw : World.setCells _ _ _ _ = w14 at H14 ⊢
  clear hgw
  refine rest_set (d := 86) (v := PT g 0) (w' := w14) rfl rfl rfl (by go_simp) ?_
  simp only [Act.put, sa, sz, ss]
  refine rest_set (d := 87) (v := PT g 2) (w' := w14) rfl rfl rfl (by go_simp) ?_
  simp only [Act.put, sa, sz, ss]
  refine rest_store rfl rfl rfl (ex_st1 (v := .bool false) H14.out.1 0 rfl rfl Try.sizeOf4 rfl rfl (rfl) (Nat.le_of_ble_eq_true rfl)) ?_
  have H15 : Hid (Mm (w14.setCells g 2 [Value.bool false]) [(g, [vt, Value.slice none 0 0, Value.bool false])] ∧ Sg w g S vt (rN n F (min a.toNat m) + (min bt.toNat (F (min a.toNat m)).q.n)) (ct (rP P F (min a.toNat m)) (rN n F (min a.toNat m)) (F (min a.toNat m)).q.f) (w14.setCells g 2 [Value.bool false])) := ⟨H14.out.1.put 0 (off := 2) (vs := [Value.bool false]) rfl (Nat.le_of_ble_eq_true rfl), H14.out.2.put hgS.out hg.out _ _⟩
  clear H14
  generalize hgw : World.setCells _ _ _ _ = w15 at H15 ⊢
  clear hgw
  refine rest_nil (then_normal (wp_seq ?_))
  refine sq_start (l := [0, 1]) rfl ?_
  refine rest_set (d := 88) (v := .bool (decide (0 < (min a.toNat m) + (min bt.toNat (F (min a.toNat m)).q.n)))) (w' := w15) rfl rfl rfl (rfl) ?_
  simp only [Act.put, sa, sz, ss]
  refine rest_set (d := 6) (v := .bool (decide (0 < (min a.toNat m) + (min bt.toNat (F (min a.toNat m)).q.n)))) (w' := w15) rfl rfl rfl (rfl) ?_
  simp only [Act.put, sa, sz, ss]
  refine rest_nil (then_normal (wp_ret ?_))
  repeat (first | refine then_ret ?_ | refine block_ret ?_)
  refine bodyPost_ret (v := .bool (decide (0 < (min a.toNat m) + (min bt.toNat (F (min a.toNat m)).q.n)))) (by simp [results, Try.results73, go_sem, *]) rfl ?_
  exact ⟨rfl, vt, H15.out.1, H15.out.2⟩
end Wi
end Rg
end Go.Proofs.Ytidicdlfjdlpnaa
end
