/- Texts of the proof, joined. -/
import Derived.Test.YtidicdlfjdlpnaaP5
import Derived.Laws.Shifts
import Derived.Laws.Bits64b
import Derived.Laws.Unary
section
namespace Go.Proofs.Ytidicdlfjdlpnaa
open Go.RowKit
namespace Rg
namespace Wi
set_option maxRecDepth 100000
section
variable {ρ : Operand → Value} {o : Oper} {x y : Operand} {g off j m c : Nat} {w : World}
theorem ex_mkM39 (ho : o.op = .makeMap 39 none) : (execOp ρ o).run Try.prog w = .ok (.value (.map (some w.heap.size))) (w.alloc (.map #[] 0)) := by
  simp only [execOp, ho]
  simp [run_makeMap]
theorem ex_mkM40 (ho : o.op = .makeMap 40 none) : (execOp ρ o).run Try.prog w = .ok (.value (.map (some w.heap.size))) (w.alloc (.map #[] 0)) := by
  simp only [execOp, ho]
  simp [run_makeMap]
theorem ex_ixN {p : Option Addr} (he : p = some ⟨g, off, none⟩) (ho : o.op = .indexAddr 22 x y) (hx : ρ x = .slice p m c) (hy : ρ y = .int .i64 ((j : Nat) : Int)) (h : j < m) : (execOp ρ o).run Try.prog w = .ok (.value (PT g (off + j))) w := by
  subst he
  simp only [execOp, ho, hx, hy]
  clear ho hx hy
  go_simp
theorem ex_ldN {a : Int} (c0 : w.cell? ⟨g, off, none⟩ = some (.int .i64 a)) (ho : o.op = .load 3 x) (hx : ρ x = PT g off) : (execOp ρ o).run Try.prog w = .ok (.value (.int .i64 a)) w := by
  simp only [execOp, ho, hx]
  clear ho hx
  go_simp
end
/-- A disk under way to be made. -/
structure Nm1 (w : World) (mb : Nat) (u : World) : Prop where
  b : Below w.heap.size w u
  nm : w.heap.size ≤ mb
  mp : u.ownsMap Try.prog 9 RF mb 0 (.map [])
structure Nm2 (w : World) (mb rb : Nat) (u : World) : Prop where
  one : Nm1 w mb u
  nr : mb < rb
  rm : u.ownsMap Try.prog 3 RU rb 0 (.map [])
/-- A disk without files, that is made. -/
structure Nw (w : World) (d mb rb : Nat) (rf : Nat → Bool) (m : Nat) (u : World) : Prop where
  two : Nm1 w mb u
  nr : mb < rb
  nd : rb < d
  cel : Mm u [(d, [Value.map (some mb), Value.map (some rb), Value.int .i64 0])]
  rm : ∃ Y, u.ownsMap Try.prog 3 RU rb m Y ∧ ∀ i : Nat, i < 4611686018427387905 → Maps.has Y (.int .i64 (i : Int)) = rf i
section
variable {w u u' : World} {d mb rb m : Nat} {rf : Nat → Bool}
theorem Nm1.step (h : Nm1 w mb u) (hb : Below u.heap.size u u') : Nm1 w mb u' := ⟨h.b.trans (hb.mono h.b.size), h.nm, ownMap_keep h.mp (hb.block _ h.mp.lt)⟩
theorem Nm1.start (h : Below w.heap.size w u) : Nm1 w u.heap.size (u.alloc (.map #[] 0)) := ⟨h.alloc h.size _, h.size, World.ownsMap_made _ _ _ _⟩
theorem Nm2.step (h : Nm2 w mb rb u) (hb : Below u.heap.size u u') : Nm2 w mb rb u' := ⟨h.one.step hb, h.nr, ownMap_keep h.rm (hb.block _ h.rm.lt)⟩
theorem Nm2.start (h : Nm1 w mb u) : Nm2 w mb u.heap.size (u.alloc (.map #[] 0)) := ⟨h.step ((Below.refl _ _).alloc (Nat.le_refl _) _), h.mp.lt, World.ownsMap_made _ _ _ _⟩
theorem Nw.step (h : Nw w d mb rb rf m u) (hb : Below u.heap.size u u') : Nw w d mb rb rf m u' := by
  obtain ⟨Y, y1, y2⟩ := h.rm
  exact ⟨h.two.step hb, h.nr, h.nd, h.cel.below hb, Y, ownMap_keep y1 (hb.block _ y1.lt), y2⟩
theorem Nw.start (h : Nm2 w mb rb u) (t : TypeId) : Nw w u.heap.size mb rb (fun _ => false) 0 (u.alloc (.cells ([Value.map (some mb), Value.map (some rb), Value.int .i64 0] : List Value).toArray t)) := by
  have hb : Below u.heap.size u (u.alloc (.cells ([Value.map (some mb), Value.map (some rb), Value.int .i64 0] : List Value).toArray t)) := (Below.refl _ _).alloc (Nat.le_refl _) _
  have h2 := h.step hb
  exact ⟨h2.one, h2.nr, h.rm.lt, (Mm.nil u).alloc _ _ rfl, _, h2.rm, fun _ _ => rfl⟩
theorem Nw.ref (h : Nw w d mb rb rf m u) (i : Int) (hw : (Lit.int .i64 i).wf = true) (hm : m < 1000000) : ∃ u', (Instr.mapUpdate 40 (.map (some rb)) (.int .i64 i) (.agg ([] : List Value).toArray)).run Try.prog u = .ok () u' ∧ Nw w d mb rb (fun j => decide ((j : Int) = i) || rf j) (m + 1) u' := by
  obtain ⟨Y, y1, y2⟩ := h.rm
  obtain ⟨u', hr, hm2, hg⟩ := y1.update (Maps.int_keyed Try.underlying3) Try.underlying40 (by unfold maxLen; omega) (Maps.keyOf_int_mk Try.underlying3 hw) (show RU (.agg ([] : List Value).toArray) = some (.nil, []) from rfl)
  have hc : Chg [rb] u u' := Chg.grown hg
  have h1 := h.nr
  have h2 := h.nd
  refine ⟨u', hr, ⟨h.two.b.trans (hc.toBelow (fun x hx => by have := h.two.nm; rw [List.mem_singleton.1 hx]; omega) h.two.b.size), h.two.nm, ownMap_keep h.two.mp (hc.block _ h.two.mp.lt (fun hx => by have := List.mem_singleton.1 hx; omega))⟩, h1, h2, hc.mm h.cel (fun p hp hx => by obtain rfl := List.mem_singleton.1 hp; have := List.mem_singleton.1 hx; omega), _, hm2, fun j hj => ?_⟩
  by_cases e : (j : Int) = i
  · subst e
    rw [Maps.has_put_same y1.isMap (Maps.int_keyed Try.underlying3 |>.key (Maps.keyOf_int_mk Try.underlying3 hw))]
    simp
  · rw [Maps.has_put_other (fun e2 => e (by injection e2)), y2 j hj, decide_eq_false e, Bool.false_or]
theorem Nw.disk (h : Nw w d mb rb rf m u) : DOk u ⟨d, mb, rb, 0, [], rf⟩ := by
  have h1 := h.nr
  have h2 := h.nd
  obtain ⟨Y, y1, y2⟩ := h.rm
  exact ⟨h.cel, ⟨_, h.two.mp, fun _ => rfl, fun _ => rfl, rfl⟩, ⟨m, Y, y1, y2⟩, fun f hf => (by cases hf), fun f hf => (by cases hf), fun f hf => (by cases hf), ⟨(show d ≠ mb by omega), (show d ≠ rb by omega), (show mb ≠ rb by omega)⟩, List.nodup_nil, (show 0 < 4611686018427387904 by decide), (show 0 ≤ 64 by decide)⟩
end
/-- Which numbers are refused. -/
def rff (F : Nat → Int) : Nat → Nat → Bool
  | 0 => fun _ => false
  | k + 1 => fun j => decide ((j : Int) = F k) || rff F k j
set_option maxHeartbeats 2000000 in
set_option maxRecDepth 100000 in
theorem New_long (p : Option Addr) (n cp : Nat) (hn : 4096 < n) (w : World) :
    Calls Try.prog 14 #[.slice p n cp] w fun e w' => e = .returned (.tuple #[.pointer none, .int .i64 3]) ∧ Below w.heap.size w w' := by
  have H0 : Hid (_ ∧ _) := ⟨Mm.nil w, Below.refl w.heap.size w⟩
  go_enter Try.func14, Try.ntmps14
  refine wp_seq ?_
  refine sq_startW (l := [0, 1]) rfl (fun u0 hu0 => ?_)
  have H1 : Hid (Mm u0 [] ∧ Below w.heap.size w u0) := by rw [hu0]; exact H0
  clear hu0 H0
  refine rest_set (d := 2) (v := .pointer none) (w' := u0) rfl rfl rfl (rfl) ?_
  simp only [Act.put, sa, sz, ss]
  refine rest_set (d := 3) (v := .int .i64 0) (w' := u0) rfl rfl rfl (rfl) ?_
  simp only [Act.put, sa, sz, ss]
  refine rest_nil (then_normal ?_)
  refine wp_seq (wp_seq ?_)
  refine sq_start (l := [0, 1, 2]) rfl ?_
  refine rest_set (d := 7) (v := .slice p n cp) (w' := u0) rfl rfl rfl (rfl) ?_
  simp only [Act.put, sa, sz, ss]
  refine rest_set (d := 8) (v := .int .i64 ((n : Nat) : Int)) (w' := u0) rfl rfl rfl (by go_simp) ?_
  simp only [Act.put, sa, sz, ss]
  refine rest_set (d := 9) (v := .bool true) (w' := u0) rfl rfl rfl (by go_simp <;> omega) ?_
  simp only [Act.put, sa, sz, ss]
  refine rest_nil (then_normal ?_)
  refine wp_cond_true rfl (wp_seq ?_)
  refine sq_start (l := [0, 1]) rfl ?_
  refine rest_set (d := 2) (v := .pointer none) (w' := u0) rfl rfl rfl (rfl) ?_
  simp only [Act.put, sa, sz, ss]
  refine rest_set (d := 3) (v := .int .i64 3) (w' := u0) rfl rfl rfl (rfl) ?_
  simp only [Act.put, sa, sz, ss]
  refine rest_nil (then_normal (wp_ret ?_))
  repeat (first | refine then_ret ?_ | refine block_ret ?_)
  refine bodyPost_ret (v := .tuple #[.pointer none, .int .i64 3]) (by simp [results, Try.results14, go_sem, *]) rfl ?_
  exact ⟨rfl, H1.out.2⟩
set_option maxHeartbeats 2000000 in
set_option maxRecDepth 100000 in
theorem New_any (p : Option Addr) (n cp g of : Nat) (F : Nat → Int) (hn : n ≤ 4096) (w : World) (hp0 : 0 < n → p = some ⟨g, of, none⟩) (hcl0 : ∀ i, i < n → g < w.heap.size ∧ w.cell? ⟨g, of + i, none⟩ = some (.int .i64 (F i)) ∧ (Lit.int .i64 (F i)).wf = true) :
    Calls Try.prog 14 #[.slice p n cp] w fun e w' => ∃ d mb rb, e = .returned (.tuple #[PT d 0, .int .i64 0]) ∧ Nw w d mb rb (rff F n) n w' := by
  have H0 : Hid (_ ∧ _) := ⟨Mm.nil w, Below.refl w.heap.size w⟩
  have hp : Hid _ := hp0
  have hcl : Hid _ := hcl0
  clear hp0 hcl0
  go_enter Try.func14, Try.ntmps14
  refine wp_seq ?_
  refine sq_startW (l := [0, 1]) rfl (fun u0 hu0 => ?_)
  have H1 : Hid (Mm u0 [] ∧ Below w.heap.size w u0) := by rw [hu0]; exact H0
  clear hu0 H0
  refine rest_set (d := 2) (v := .pointer none) (w' := u0) rfl rfl rfl (rfl) ?_
  simp only [Act.put, sa, sz, ss]
  refine rest_set (d := 3) (v := .int .i64 0) (w' := u0) rfl rfl rfl (rfl) ?_
  simp only [Act.put, sa, sz, ss]
  refine rest_nil (then_normal ?_)
  refine wp_seq (wp_seq ?_)
  refine sq_start (l := [0, 1, 2]) rfl ?_
  refine rest_set (d := 7) (v := .slice p n cp) (w' := u0) rfl rfl rfl (rfl) ?_
  simp only [Act.put, sa, sz, ss]
  refine rest_set (d := 8) (v := .int .i64 ((n : Nat) : Int)) (w' := u0) rfl rfl rfl (by go_simp) ?_
  simp only [Act.put, sa, sz, ss]
  refine rest_set (d := 9) (v := .bool false) (w' := u0) rfl rfl rfl (by go_simp <;> omega) ?_
  simp only [Act.put, sa, sz, ss]
  refine rest_nil (then_normal ?_)
  refine wp_cond_false rfl (wp_skip ?_)
  refine then_normal (wp_seq ?_)
  refine sq_start (l := [0, 1, 2, 3, 4]) rfl ?_
  refine rest_set (d := 10) (v := .map (some u0.heap.size)) (w' := (u0.alloc (.map #[] 0))) rfl rfl rfl (ex_mkM39 rfl) ?_
  simp only [Act.put, sa, sz, ss]
  have H2 : Hid (Mm (u0.alloc (.map #[] 0)) [] ∧ Nm1 w u0.heap.size (u0.alloc (.map #[] 0))) := ⟨Mm.nil _, Nm1.start H1.out.2⟩
  clear H1
  generalize hgw : u0.alloc (.map #[] 0) = w2 at H2 ⊢
  clear hgw
  generalize u0.heap.size = mb at H2 ⊢
  refine rest_set (d := 11) (v := .map (some w2.heap.size)) (w' := (w2.alloc (.map #[] 0))) rfl rfl rfl (ex_mkM40 rfl) ?_
  simp only [Act.put, sa, sz, ss]
  have H3 : Hid (Mm (w2.alloc (.map #[] 0)) [] ∧ Nm2 w mb w2.heap.size (w2.alloc (.map #[] 0))) := ⟨Mm.nil _, Nm2.start H2.out.2⟩
  clear H2
  generalize hgw : w2.alloc (.map #[] 0) = w3 at H3 ⊢
  clear hgw
  generalize w2.heap.size = rb at H3 ⊢
  refine rest_set (d := 12) (v := .agg ([Value.map (some mb), Value.map (some rb), Value.int .i64 0]).toArray) (w' := w3) rfl rfl rfl (by kernel_rfl) ?_
  simp only [Act.put, sa, sz, ss]
  refine rest_set (d := 13) (v := PT w3.heap.size 0) (w' := (w3.alloc (.cells ([Value.map (some mb), Value.map (some rb), Value.int .i64 0] : List Value).toArray 42))) rfl rfl rfl (ex_boxT rfl rfl) ?_
  simp only [Act.put, sa, sz, ss]
  have H4 : Hid (Mm (w3.alloc (.cells ([Value.map (some mb), Value.map (some rb), Value.int .i64 0] : List Value).toArray 42)) [] ∧ Nw w w3.heap.size mb rb (fun _ => false) 0 (w3.alloc (.cells ([Value.map (some mb), Value.map (some rb), Value.int .i64 0] : List Value).toArray 42))) := ⟨Mm.nil _, Nw.start H3.out.2 _⟩
  clear H3
  generalize hgw : w3.alloc (.cells ([Value.map (some mb), Value.map (some rb), Value.int .i64 0] : List Value).toArray 42) = w4 at H4 ⊢
  clear hgw
  generalize w3.heap.size = d at H4 ⊢
  refine rest_set (d := 4) (v := PT d 0) (w' := w4) rfl rfl rfl (rfl) ?_
  simp only [Act.put, sa, sz, ss]
  refine rest_nil (then_normal ?_)
  refine wp_seq (wp_seq ?_)
  refine sq_start (l := [0, 1, 2]) rfl ?_
  refine rest_set (d := 14) (v := .slice p n cp) (w' := w4) rfl rfl rfl (rfl) ?_
  simp only [Act.put, sa, sz, ss]
  refine rest_set (d := 15) (v := .int .i64 ((n : Nat) : Int)) (w' := w4) rfl rfl rfl (by go_simp) ?_
  simp only [Act.put, sa, sz, ss]
  refine rest_set (d := 16) (v := .int .i64 0) (w' := w4) rfl rfl rfl (rfl) ?_
  simp only [Act.put, sa, sz, ss]
  refine rest_nil (then_normal (wp_block ?_))
  refine loop_ghost (α := Nat) (fun x a' w' => ∃ s0 : Nat → Value, a' = ⟨#[.slice p n cp, undef, .pointer none, .int .i64 0, PT d 0, undef, s0 6, .slice p n cp, .int .i64 ((n : Nat) : Int), .bool false, .map (some mb), .map (some rb), .agg ([Value.map (some mb), Value.map (some rb), Value.int .i64 0]).toArray, PT d 0, .slice p n cp, .int .i64 ((n : Nat) : Int), .int .i64 ((x : Nat) : Int), s0 17, s0 18, s0 19, s0 20, s0 21, s0 22, s0 23, s0 24, s0 25, s0 26, undef], []⟩ ∧ (Mm w' [] ∧ Nw w d mb rb (rff F x) x w') ∧ x ≤ n) (fun x => n - x) 0 ?st0 ?rd0
  case st0 => exact ⟨(slotfn [undef, undef, undef, undef, undef, undef, undef, undef, undef, undef, undef, undef, undef, undef, undef, undef, undef, undef, undef, undef, undef, undef, undef, undef, undef, undef, undef]), rfl, ⟨H4.out.1, H4.out.2⟩, Nat.zero_le _⟩
  intro x a' w5 hI
  obtain ⟨s0, rfl, hMB, hk0⟩ := hI
  have H5 : Hid (_ ∧ _) := hMB
  clear hMB H4
  by_cases hltx : x < n
  · have hrd : True := trivial
    clear hrd
    refine wp_seq ?_
    refine sq_start (l := [0]) rfl ?_
    refine rest_set (d := 17) (v := .bool true) (w' := w5) rfl rfl rfl (by go_simp <;> omega) ?_
    simp only [Act.put, sa, sz, ss]
    refine rest_nil (then_normal ?_)
    refine wp_seq (wp_cond_true rfl ?_)
    refine wp_skip (then_normal ?_)
    refine wp_seq (wp_block (wp_seq ?_))
    refine sq_start (l := [0, 1, 2]) rfl ?_
    refine rest_set (d := 18) (v := PT g (of + x)) (w' := w5) rfl rfl rfl (ex_ixN (hp.out (by omega)) rfl rfl rfl (by omega)) ?_
    simp only [Act.put, sa, sz, ss]
    refine rest_set (d := 19) (v := .int .i64 (F x)) (w' := w5) rfl rfl rfl (ex_ldN ((H5.out.2.two.b.cell (p := ⟨g, _, none⟩) (hcl.out x (by omega)).1).trans (hcl.out x (by omega)).2.1) rfl rfl) ?_
    simp only [Act.put, sa, sz, ss]
    refine rest_set (d := 6) (v := .int .i64 (F x)) (w' := w5) rfl rfl rfl (rfl) ?_
    simp only [Act.put, sa, sz, ss]
    refine rest_nil (then_normal ?_)
    refine sq_start (l := [0, 1, 2, 3, 4, 5, 6]) rfl ?_
    refine rest_set (d := 20) (v := PT d 0) (w' := w5) rfl rfl rfl (rfl) ?_
    simp only [Act.put, sa, sz, ss]
    refine rest_set (d := 21) (v := PT d 0) (w' := w5) rfl rfl rfl (by go_simp) ?_
    simp only [Act.put, sa, sz, ss]
    refine rest_set (d := 22) (v := PT d 1) (w' := w5) rfl rfl rfl (by go_simp) ?_
    simp only [Act.put, sa, sz, ss]
    refine rest_set (d := 23) (v := .map (some rb)) (w' := w5) rfl rfl rfl (ex_loadC H5.out.2.cel 0 rfl rfl rfl Try.isAgg40 rfl) ?_
    simp only [Act.put, sa, sz, ss]
    refine rest_set (d := 24) (v := .int .i64 (F x)) (w' := w5) rfl rfl rfl (rfl) ?_
    simp only [Act.put, sa, sz, ss]
    refine rest_set (d := 25) (v := .agg (([] : List Value)).toArray) (w' := w5) rfl rfl rfl (by kernel_rfl) ?_
    simp only [Act.put, sa, sz, ss]
    obtain ⟨w6, hr9, hI9⟩ := H5.out.2.ref (F x) (hcl.out x (by omega)).2.2 (by omega)
    refine rest_store rfl rfl rfl (ex_mup hr9 rfl rfl rfl rfl) ?_
    have H6 : Hid (Mm w6 [] ∧ Nw w d mb rb (rff F (x + 1)) (x + 1) w6) := ⟨Mm.nil _, hI9⟩
    clear hr9 hI9 H5
    refine rest_nil (block_normal (then_normal ?_))
    refine sq_start (l := [0, 1]) rfl ?_
    refine rest_set (d := 26) (v := .int .i64 ((x + 1 : Nat) : Int)) (w' := w6) rfl rfl rfl (by go_simp; rw [IntKind.wrap_i64]; omega) ?_
    simp only [Act.put, sa, sz, ss]
    refine rest_set (d := 16) (v := .int .i64 ((x + 1 : Nat) : Int)) (w' := w6) rfl rfl rfl (rfl) ?_
    simp only [Act.put, sa, sz, ss]
    refine rest_nil (then_normal ?_)
    exact ⟨x + 1, ⟨(slotfn [undef, undef, undef, undef, undef, undef, .int .i64 (F x), undef, undef, undef, undef, undef, undef, undef, undef, undef, undef, .bool true, PT g (of + x), .int .i64 (F x), PT d 0, PT d 0, PT d 1, .map (some rb), .int .i64 (F x), .agg (([] : List Value)).toArray, .int .i64 ((x + 1 : Nat) : Int)]), rfl, ⟨H6.out.1, H6.out.2⟩, (show x + 1 ≤ n by omega)⟩, (show n - (x + 1) < n - x by omega)⟩
  refine wp_seq ?_
  refine sq_start (l := [0]) rfl ?_
  refine rest_set (d := 17) (v := .bool false) (w' := w5) rfl rfl rfl (by go_simp <;> omega) ?_
  simp only [Act.put, sa, sz, ss]
  refine rest_nil (then_normal ?_)
  refine wp_seq (wp_cond_false rfl ?_)
  refine wp_exit ?_
  repeat refine then_exit ?_
  refine block_exit ?_
  have hxn : x = n := by omega
  refine then_normal (wp_seq ?_)
  refine sq_start (l := [0, 1, 2]) rfl ?_
  refine rest_set (d := 27) (v := PT d 0) (w' := w5) rfl rfl rfl (rfl) ?_
  simp only [Act.put, sa, sz, ss]
  refine rest_set (d := 2) (v := PT d 0) (w' := w5) rfl rfl rfl (rfl) ?_
  simp only [Act.put, sa, sz, ss]
  refine rest_set (d := 3) (v := .int .i64 0) (w' := w5) rfl rfl rfl (rfl) ?_
  simp only [Act.put, sa, sz, ss]
  refine rest_nil (then_normal (wp_ret ?_))
  repeat (first | refine then_ret ?_ | refine block_ret ?_)
  refine bodyPost_ret (v := .tuple #[PT d 0, .int .i64 0]) (by simp [results, Try.results14, go_sem, *]) rfl ?_
  exact ⟨_, _, _, rfl, by rw [← hxn]; exact H5.out.2⟩
end Wi
end Rg
end Go.Proofs.Ytidicdlfjdlpnaa
end
section
namespace Go.Proofs.Ytidicdlfjdlpnaa
open Go.RowKit
namespace Rg
namespace Wi
set_option maxRecDepth 100000
section
variable (D : Dq) (s : ByteArray) (q : Pt8) (w : World)
theorem Dw.co {D : Dq} {w : World} {r : Int} (h : DOk w D) (hk : D.k + 1 < 4611686018427387904) (hr : (if D.no then (13 : Int) else 0) = r) : ∀ u, Below w.heap.size w u → Calls Try.prog 66 #[PT D.d 0] u fun e u' => e = .returned (.int .i64 r) ∧ Dw w D D.tick u' := fun u hu =>
  (count_f D u (h.below hu) hk).mono fun e u' hh => ⟨by rw [hh.1, ← hr], hh.2.1, (Chg.of hu).trans hh.2.2 (fun x hx => .inl hx), fun x hx => .inl hx⟩
theorem below_on {w : World} : ∀ u u', Below w.heap.size w u → Below u.heap.size u u' → Below w.heap.size w u' := fun _ _ h1 h2 => h1.trans (h2.mono h1.size)
theorem Append_no_f (h : DOk w D) (hk : D.k + 1 < 4611686018427387904) (hno : D.no = true) : Calls Try.prog 19 #[PT D.d 0, .string s, .slice q.p q.n q.cp] w fun e w' => e = .returned (.int .i64 13) ∧ Dw w D D.tick w' :=
  Append_no D.d s q (fun u => Below w.heap.size w u) (Dw w D D.tick) w (Below.refl _ _) below_on Dw.step (Dw.co h hk (by rw [hno]; rfl))
theorem nm_is (c : Bool) (h : nmd s = c) {I : World → Prop} : ∀ u, I u → Calls Try.prog 67 #[.string s] u fun e u' => e = .returned (.bool c) ∧ Below u.heap.size u u' := fun u _ => (named_any s u).mono fun e u' hh => ⟨by rw [hh.1, h], hh.2⟩
theorem Append_bad_f (h : DOk w D) (hk : D.k + 1 < 4611686018427387904) (hno : D.no = false) (hnm : nmd s = false) : Calls Try.prog 19 #[PT D.d 0, .string s, .slice q.p q.n q.cp] w fun e w' => e = .returned (.int .i64 2) ∧ Dw w D D.tick w' :=
  Append_bad D.d s q (fun u => Below w.heap.size w u) (Dw w D D.tick) w (Below.refl _ _) below_on Dw.step (Dw.co h hk (by rw [hno]; rfl)) (nm_is s false hnm)
theorem Dw.lk {D : Dq} {w : World} {s : ByteArray} (hsz : s.size ≤ maxLen) {x : Option Fq} (hl : lk D.fs s = x) : ∀ u, Dw w D D.tick u → (Instr.lookup 39 (.map (some D.mb)) (.string s) false).run Try.prog u = .ok (pv x) u := fun u hu => by
  have e := hu.1.look (u := u) s hsz rfl
  rw [show Wi.lk D.tick.fs s = x from hl] at e
  exact e
theorem Append_long_f (h : DOk w D) (hk : D.k + 1 < 4611686018427387904) (hno : D.no = false) (hnm : nmd s = true) (hsz : s.size ≤ maxLen) (f : Fq) (hl : lk D.fs s = some f) (hq : q.n ≤ 281474976710656) (hL : 1048576 < f.N + q.n) : Calls Try.prog 19 #[PT D.d 0, .string s, .slice q.p q.n q.cp] w fun e w' => e = .returned (.int .i64 3) ∧ Dw w D D.tick w' :=
  have hm := (lk_mem hl).1
  Append_long D.d s q D.mb D.rb f.g f.N ((D.k + 1 : Nat) : Int) (h.fl f hm).N1 hq hL (fun u => Below w.heap.size w u) (Dw w D D.tick) w (Below.refl _ _) below_on Dw.step (Dw.co h hk (by rw [hno]; rfl)) (nm_is s true hnm) (fun u hu => hu.1.cel) (Dw.lk hsz hl) (fun u hu => size_f f u (hu.1.fl f hm))
theorem Dw.len {D : Dq} {w : World} : ∀ u, Dw w D D.tick u → ∀ ty, (Builtin.len_ #[39] ty #[.map (some D.mb)]).run Try.prog u = .ok (.int .i64 ((D.fs.length : Nat) : Int)) u := fun u hu ty => by
  obtain ⟨X, x1, _, _, x4⟩ := hu.1.mp
  have e := x1.len Try.underlying39 ty
  rw [x4] at e
  exact e
theorem Append_full_f (h : DOk w D) (hk : D.k + 1 < 4611686018427387904) (hno : D.no = false) (hnm : nmd s = true) (hsz : s.size ≤ maxLen) (hl : lk D.fs s = none) (hL : 64 ≤ D.fs.length) : Calls Try.prog 19 #[PT D.d 0, .string s, .slice q.p q.n q.cp] w fun e w' => e = .returned (.int .i64 8) ∧ Dw w D D.tick w' :=
  Append_full D.d s q D.mb D.rb D.fs.length ((D.k + 1 : Nat) : Int) hL (fun u => Below w.heap.size w u) (Dw w D D.tick) w (Below.refl _ _) below_on Dw.step (Dw.co h hk (by rw [hno]; rfl)) (nm_is s true hnm) (fun u hu => hu.1.cel) (Dw.lk hsz hl) Dw.len
theorem Append_newlong_f (h : DOk w D) (hk : D.k + 1 < 4611686018427387904) (hno : D.no = false) (hnm : nmd s = true) (hsz : s.size ≤ maxLen) (hl : lk D.fs s = none) (h64 : D.fs.length < 64) (hq : q.n ≤ 281474976710656) (hL : 1048576 < q.n) : Calls Try.prog 19 #[PT D.d 0, .string s, .slice q.p q.n q.cp] w fun e w' => e = .returned (.int .i64 3) ∧ Dw w D D.tick w' := by
  refine (Append_newlong D.d D.mb D.rb D.fs.length 0 s q ((D.k + 1 : Nat) : Int) h64 (Nat.zero_le _) hq (by omega) (fun u => Below w.heap.size w u) (Dw w D D.tick) (fun g u => Dw w D D.tick u ∧ FOk u (newF s g)) w (Below.refl _ _) below_on Dw.step (fun g u u' hu hb => ⟨Dw.step _ _ hu.1 hb, hu.2.below hb⟩) (Dw.co h hk (by rw [hno]; rfl)) (nm_is s true hnm) (fun u hu => hu.1.cel) (Dw.lk hsz hl) Dw.len (fun u hu => ?_) (fun g u hu => size_f (newF s g) u hu.2)).mono fun e w' hh => ?_
  · exact ⟨Dw.step _ _ hu ((Below.refl _ _).alloc (Nat.le_refl _) _), newF_ok s ((Mm.nil u).alloc _ _ rfl)⟩
  · obtain ⟨e1, g, e2, _⟩ := hh
    exact ⟨e1, e2⟩
end
end Wi
end Rg
end Go.Proofs.Ytidicdlfjdlpnaa
end
section
namespace Go.Proofs.Ytidicdlfjdlpnaa
open Go.RowKit
namespace Rg
namespace Wi
set_option maxRecDepth 100000
/-- A row's bytes as a list. -/
def bs (n : Nat) (f : Nat → Nat) : List Nat := (List.range n).map f
theorem bs_len (n : Nat) (f : Nat → Nat) : (bs n f).length = n := by simp [bs]
theorem bs_get {n i : Nat} (f : Nat → Nat) (h : i < n) : (bs n f)[i]? = some (f i) := by simp [bs, h]
theorem bs_cg {n : Nat} {f g : Nat → Nat} (h : ∀ i, i < n → f i = g i) : bs n f = bs n g := by
  unfold bs
  exact List.map_congr_left fun i hi => h i (List.mem_range.1 hi)
theorem bs_eq {n m : Nat} {f g : Nat → Nat} (h : bs n f = bs m g) : n = m ∧ ∀ i, i < n → f i = g i := by
  have e : n = m := by have := congrArg List.length h; rwa [bs_len, bs_len] at this
  subst e
  refine ⟨rfl, fun i hi => ?_⟩
  have := congrArg (fun l => l[i]?) h
  simp only [bs_get f hi, bs_get g hi] at this
  exact Option.some.inj this
theorem bs_take {n m : Nat} (f : Nat → Nat) (h : m ≤ n) : (bs n f).take m = bs m f := by
  unfold bs
  rw [← List.map_take, List.take_range, Nat.min_eq_left h]
theorem bs_add (n m : Nat) (f : Nat → Nat) : bs (n + m) f = bs n f ++ bs m (fun j => f (n + j)) := by
  unfold bs
  rw [List.range_add, List.map_append, List.map_map]
  rfl
theorem bs_ct {N st m : Nat} {X g : Nat → Nat} (h : st ≤ N) : bs (st + m) (ct X st g) = (bs N X).take st ++ bs m g := by
  rw [bs_add, bs_take X h]
  congr 1
  · exact bs_cg fun i hi => by unfold ct; rw [if_pos hi]
  · exact bs_cg fun i hi => by unfold ct; rw [if_neg (by omega)]; congr 1; omega
/-- A file: its safe bytes, its operations under way. -/
structure Af where
  nm : ByteArray
  sf : List Nat
  ops : List (Nat × List Nat)
  fr : Bool
/-- What operations make of bytes. -/
def ctn (c : List Nat) (ops : List (Nat × List Nat)) : List Nat := ops.foldl (fun c o => c.take o.1 ++ o.2) c
def Af.cn (f : Af) : List Nat := ctn f.sf f.ops
structure Ad where
  k : Nat
  fs : List Af
  rf : Nat → Bool
def uab (o : Uop) : Nat × List Nat := (o.st, bs o.q.n o.q.f)
def Fq.ab (f : Fq) : Af := ⟨f.nm, bs f.n f.P, f.ops.map uab, f.fr⟩
def Dq.ab (D : Dq) : Ad := ⟨D.k, D.fs.map Fq.ab, D.rf⟩
def Ad.lk (A : Ad) (s : ByteArray) : Option Af := A.fs.find? (fun f => decide (f.nm = s))
def Ad.no (A : Ad) : Bool := A.rf (A.k + 1)
def Ad.tick (A : Ad) : Ad := ⟨A.k + 1, A.fs, A.rf⟩
def Ad.swap (A : Ad) (s : ByteArray) (f : Af) : Ad := ⟨A.k, A.fs.map (fun x => if x.nm = s then f else x), A.rf⟩
def Af.more (f : Af) (n : Nat) (b : List Nat) : Af := ⟨f.nm, f.sf, f.ops ++ [(n, b)], f.fr⟩
def Af.dn (f : Af) (a : Int) : Nat := min a.toNat f.ops.length
def Af.tl (f : Af) (a b : Int) : List Nat := match f.ops[f.dn a]? with | some o => o.2.take b.toNat | none => []
def Af.set (f : Af) (a b : Int) : Af := ⟨f.nm, ctn f.sf (f.ops.take (f.dn a)) ++ f.tl a b, [], false⟩
def Af.there (f : Af) (a b : Int) : Bool := !f.fr || decide (0 < f.dn a + (f.tl a b).length)
theorem Dq.lk_ab (D : Dq) (s : ByteArray) : D.ab.lk s = (Wi.lk D.fs s).map Fq.ab := by
  unfold Ad.lk Dq.ab Wi.lk
  rw [List.find?_map]
  rfl
theorem ops_at {l : List Uop} {i : Nat} (h : i < l.length) : (l.map uab)[i]? = some (uab (opF l i)) := by
  rw [List.getElem?_map, opF_at h]
  rfl
theorem cn_upto {w : World} {f : Fq} (h : FOk w f) : ∀ i, i ≤ f.ops.length → bs (rN f.n (opF f.ops) i) (rP f.P (opF f.ops) i) = ctn f.ab.sf (f.ab.ops.take i)
  | 0, _ => rfl
  | i + 1, hi => by
    have e := cn_upto h i (by omega)
    have hv := (h.vl i (by omega)).1
    show bs ((opF f.ops i).st + (opF f.ops i).q.n) (ct (rP f.P (opF f.ops) i) (opF f.ops i).st (opF f.ops i).q.f) = _
    rw [bs_ct hv, e, List.take_add_one, show f.ab.ops[i]? = _ from ops_at (by omega)]
    unfold ctn
    rw [Option.toList_some, List.foldl_append]
    rfl
theorem Fq.cn_ab {w : World} {f : Fq} (h : FOk w f) : bs f.N f.C = f.ab.cn := by
  have e := cn_upto h f.ops.length (Nat.le_refl _)
  rw [List.take_of_length_le (by show (f.ops.map uab).length ≤ _; simp)] at e
  exact e
theorem Fq.N_ab {w : World} {f : Fq} (h : FOk w f) : f.N = f.ab.cn.length := by rw [← Fq.cn_ab h, bs_len]
theorem Fq.dn_ab (f : Fq) (a : Int) : f.dn a = f.ab.dn a := by unfold Fq.dn Af.dn Fq.ab; simp
theorem Fq.tl_ab (f : Fq) (a b : Int) : bs (f.tn a b) (opF f.ops (f.dn a)).q.f = f.ab.tl a b := by
  unfold Fq.tn Af.tl
  rw [← Fq.dn_ab]
  by_cases h : f.dn a < f.ops.length
  · rw [if_pos h, show f.ab.ops[f.dn a]? = _ from ops_at h]
    show _ = (bs _ _).take _
    by_cases h2 : b.toNat ≤ (opF f.ops (f.dn a)).q.n
    · rw [Nat.min_eq_left h2, bs_take _ h2]
    · rw [Nat.min_eq_right (by omega), List.take_of_length_le (by rw [bs_len]; omega)]
  · rw [if_neg h, List.getElem?_eq_none (by show (f.ops.map uab).length ≤ _; simp; omega)]
    rfl
theorem Fq.tn_ab (f : Fq) (a b : Int) : f.tn a b = (f.ab.tl a b).length := by rw [← Fq.tl_ab, bs_len]
theorem Fq.there_ab (f : Fq) (a b : Int) : f.there a b = f.ab.there a b := by
  unfold Fq.there Af.there
  rw [Fq.dn_ab, Fq.tn_ab]
  rfl
theorem Fq.set_ab {w : World} {f : Fq} (h : FOk w f) (s : Value) (a b : Int) : (f.set s a b).ab = f.ab.set a b := by
  have hd : f.dn a ≤ f.ops.length := Nat.min_le_right _ _
  have e : bs (f.sN a b) (f.sP a) = ctn f.ab.sf (f.ab.ops.take (f.ab.dn a)) ++ f.ab.tl a b := by
    unfold Fq.sN Fq.sP
    rw [bs_ct (Nat.le_refl _), List.take_of_length_le (by rw [bs_len]; exact Nat.le_refl _), Fq.tl_ab, cn_upto h _ hd, Fq.dn_ab]
  unfold Fq.set Af.set Fq.ab
  show Af.mk f.nm (bs (f.sN a b) (f.sP a)) [] false = _
  rw [e]
  rfl
theorem Fq.more_ab (f : Fq) (v : Value) (n : Nat) (q : Pt8) : (f.more v (appo n q)).ab = f.ab.more n (bs q.n q.f) := by
  unfold Fq.more Af.more Fq.ab
  simp [appo, uab]
theorem Dq.swap_ab (D : Dq) (f f' : Fq) : (D.swap f f').ab = D.ab.swap f.nm f'.ab := by
  unfold Dq.swap Ad.swap Dq.ab
  simp only [List.map_map]
  congr 1
  refine List.map_congr_left fun x _ => ?_
  simp only [Function.comp, swp]
  show _ = if x.nm = f.nm then _ else _
  split <;> rfl
/-- A disk on which the blocks of L do not lie; all of it is new since w0. -/
def Da (w0 : World) (d : Nat) (A : Ad) (L : List Nat) (u : World) : Prop := ∃ D : Dq, Dn w0 D u ∧ D.d = d ∧ D.ab = A ∧ ∀ x ∈ L, x < u.heap.size ∧ x ∉ D.bl
/-- The blocks of L are as they were. -/
def Kx (L : List Nat) (u u' : World) : Prop := u.heap.size ≤ u'.heap.size ∧ ∀ x ∈ L, u'.heap[x]? = u.heap[x]?
theorem Kx.trans {L : List Nat} {a b c : World} (h : Kx L a b) (k : Kx L b c) : Kx L a c := ⟨Nat.le_trans h.1 k.1, fun x hx => (k.2 x hx).trans (h.2 x hx)⟩
theorem Kx.refl (L : List Nat) (a : World) : Kx L a a := ⟨Nat.le_refl _, fun _ _ => rfl⟩
theorem Kx.sub {L M : List Nat} {a b : World} (h : Kx L a b) (hs : ∀ x ∈ M, x ∈ L) : Kx M a b := ⟨h.1, fun x hx => h.2 x (hs x hx)⟩
section
variable {w0 u u' : World} {d : Nat} {A : Ad} {L : List Nat}
theorem Da.b (h : Da w0 d A L u) : Below w0.heap.size w0 u := by
  obtain ⟨D, h1, _⟩ := h
  exact h1.b
theorem Da.kx (h : Da w0 d A L u) (hb : Below u.heap.size u u') : Kx L u u' := by
  obtain ⟨D, _, _, _, h1⟩ := h
  exact ⟨hb.size, fun x hx => hb.block x (h1 x hx).1⟩
theorem Da.step (h : Da w0 d A L u) (hb : Below u.heap.size u u') : Da w0 d A L u' := by
  obtain ⟨D, h1, h2, h3, h4⟩ := h
  exact ⟨D, h1.step hb, h2, h3, fun x hx => ⟨Nat.lt_of_lt_of_le (h4 x hx).1 hb.size, (h4 x hx).2⟩⟩
theorem Da.sub {M : List Nat} (h : Da w0 d A L u) (hs : ∀ x ∈ M, x ∈ L) : Da w0 d A M u := by
  obtain ⟨D, h1, h2, h3, h4⟩ := h
  exact ⟨D, h1, h2, h3, fun x hx => h4 x (hs x hx)⟩
theorem Da.add {M : List Nat} (h : Da w0 d A L u) (hb : Below u.heap.size u u') (hn : ∀ x ∈ M, u.heap.size ≤ x ∧ x < u'.heap.size) : Da w0 d A (M ++ L) u' := by
  obtain ⟨D, h1, h2, h3, h4⟩ := h
  refine ⟨D, h1.step hb, h2, h3, fun x hx => ?_⟩
  rcases List.mem_append.1 hx with e | e
  · exact ⟨(hn x e).2, fun hm => absurd (h1.dk.blt x hm) (Nat.not_lt.2 (hn x e).1)⟩
  · exact ⟨Nat.lt_of_lt_of_le (h4 x e).1 hb.size, (h4 x e).2⟩
theorem Da.dw {D D' : Dq} (h1 : Dn w0 D u) (h4 : ∀ x ∈ L, x < u.heap.size ∧ x ∉ D.bl) (hw : Dw u D D' u') (hd : D'.d = d) (ha : D'.ab = A) : Da w0 d A L u' ∧ Kx L u u' :=
  ⟨⟨D', h1.dw hw, hd, ha, fun x hx => ⟨Nat.lt_of_lt_of_le (h4 x hx).1 hw.2.1.size, fun hm => (hw.2.2 x hm).elim (h4 x hx).2 (fun e => absurd (h4 x hx).1 (Nat.not_lt.2 e))⟩⟩, hw.2.1.size, fun x hx => hw.2.1.block x (h4 x hx).1 (h4 x hx).2⟩
def Ad.app (A : Ad) (s : ByteArray) (b : List Nat) : Int × Ad :=
  if A.no then (13, A.tick) else if nmd s = false then (2, A.tick) else
  match A.lk s with
  | some f => if 1048576 < f.cn.length + b.length then (3, A.tick) else (0, A.tick.swap s (f.more f.cn.length b))
  | none => if 64 ≤ A.fs.length then (8, A.tick) else if 1048576 < b.length then (3, A.tick) else (0, ⟨A.k + 1, A.fs ++ [⟨s, [], [(0, b)], true⟩], A.rf⟩)
def Ad.syn (A : Ad) (s : ByteArray) : Int × Ad := if A.no then (13, A.tick) else match A.lk s with
  | none => (6, A.tick)
  | some f => (0, A.tick.swap s ⟨f.nm, f.cn, [], false⟩)
def Ad.cut (A : Ad) (s : ByteArray) (c : Int) : Int × Ad := if A.no then (13, A.tick) else match A.lk s with
  | none => (6, A.tick)
  | some f => if 0 ≤ c ∧ c ≤ f.cn.length then (0, A.tick.swap s (f.more c.toNat [])) else (2, A.tick)
def Ad.cra (A : Ad) (K : ByteArray → Kv) : Ad := ⟨A.k, (A.fs.filter fun f => f.there (K f.nm).1.2.1 (K f.nm).1.2.2).map fun f => f.set (K f.nm).1.2.1 (K f.nm).1.2.2, A.rf⟩
def Ad.ren (A : Ad) (f : Af) (s t : ByteArray) : Ad := ⟨A.k + 1, A.fs.filter (fun g => decide (g.nm ≠ s ∧ g.nm ≠ t)) ++ [⟨t, f.sf, f.ops, f.fr⟩], A.rf⟩
/-- A part's block, if it has one. -/
def gbl (q : Pt8) : List Nat := if q.n = 0 then [] else [q.gb]
def Pq (q : Pt8) (u : World) : Prop := Pok q ∧ (q.p = none → q.cp = 0) ∧ q.rs u
theorem Pq.kx {q : Pt8} {M : List Nat} (h : Pq q u) (hk : Kx M u u') (hm : ∀ x ∈ gbl q, x ∈ M) : Pq q u' := by
  refine ⟨h.1, h.2.1, fun hn => Nat.lt_of_lt_of_le (h.2.2.lt hn) hk.1, fun i hi => ?_⟩
  have e : u'.heap[q.gb]? = u.heap[q.gb]? := hk.2 _ (hm _ (by unfold gbl; rw [if_neg (by omega)]; simp))
  rw [World.cell?_of_block (a := ⟨q.gb, q.o + i, none⟩) e]
  exact h.2.2.at_ i hi
theorem Pq.below {q : Pt8} (h : Pq q u) (hb : Below u.heap.size u u') : Pq q u' := ⟨h.1, h.2.1, h.2.2.below hb⟩
theorem app_a (h : Da w0 d A L u) (hk : A.k < 1000000000) (ho : ∀ f ∈ A.fs, f.ops.length < 1000000) (s : ByteArray) (hs : s.size ≤ 281474976710656) (q : Pt8) (hq : Pq q u) (hL : ∀ x ∈ gbl q, x ∈ L ∨ x < w0.heap.size) (hn : q.n ≤ 281474976710656) :
    Calls Try.prog 19 #[PT d 0, .string s, .slice q.p q.n q.cp] u fun e u' => e = .returned (.int .i64 (A.app s (bs q.n q.f)).1) ∧ Da w0 d (A.app s (bs q.n q.f)).2 L u' ∧ Kx L u u' := by
  obtain ⟨D, h1, rfl, rfl, h4⟩ := h
  have hk : D.k < 1000000000 := hk
  have hk1 : D.k + 1 < 4611686018427387904 := by omega
  have hms : s.size ≤ maxLen := Nat.le_trans hs (by decide)
  have hrq : Rq q D u := ⟨hq.1, hq.2.1, hq.2.2, fun hn hm => by
    rcases hL q.gb (by unfold gbl; rw [if_neg (by omega)]; simp) with e | e
    · exact (h4 _ e).2 hm
    · exact absurd e (Nat.not_lt.2 (h1.lo _ hm))⟩
  have hno : D.ab.no = D.no := rfl
  unfold Ad.app
  by_cases c1 : D.no = true
  · rw [if_pos (hno.trans c1)]
    exact (Append_no_f D s q u h1.dk hk1 c1).mono fun e u' hh => ⟨hh.1, Da.dw h1 h4 hh.2 rfl rfl⟩
  · have c1 : D.no = false := by simpa using c1
    rw [if_neg (by rw [hno, c1]; decide)]
    by_cases c2 : nmd s = false
    · rw [if_pos c2]
      exact (Append_bad_f D s q u h1.dk hk1 c1 c2).mono fun e u' hh => ⟨hh.1, Da.dw h1 h4 hh.2 rfl rfl⟩
    · have c3 : nmd s = true := by simpa using c2
      rw [if_neg c2, Dq.lk_ab]
      cases hl : lk D.fs s with
      | none =>
        show Calls _ _ _ _ fun e u' => e = .returned (.int .i64 (if 64 ≤ (D.fs.map Fq.ab).length then _ else _ : Int × Ad).1) ∧ _
        simp only [Option.map_none, List.length_map, bs_len]
        by_cases c4 : 64 ≤ D.fs.length
        · simp only [show 64 ≤ D.ab.fs.length by show 64 ≤ (D.fs.map _).length; simpa using c4, c4, if_true]
          exact (Append_full_f D s q u h1.dk hk1 c1 c3 hms hl c4).mono fun e u' hh => ⟨hh.1, Da.dw h1 h4 hh.2 rfl rfl⟩
        · simp only [show ¬64 ≤ D.ab.fs.length by show ¬64 ≤ (D.fs.map _).length; simpa using c4, c4, if_false]
          by_cases c5 : 1048576 < q.n
          · simp only [c5, if_true]
            exact (Append_newlong_f D s q u h1.dk hk1 c1 c3 hms hl (by omega) hn c5).mono fun e u' hh => ⟨hh.1, Da.dw h1 h4 hh.2 rfl rfl⟩
          · simp only [c5, if_false]
            refine (Append_new_f D s hs q u h1.dk hk1 hrq c1 c3 hl (by omega) (by omega)).mono fun e u' hh => ?_
            obtain ⟨e1, g, q2, v, e2, e3, e4⟩ := hh
            refine ⟨e1, Da.dw h1 h4 e4 rfl ?_⟩
            unfold Dq.ab Dq.add
            simp only [List.map_append, List.map_cons, List.map_nil, Fq.more_ab, e2, e3]
            rfl
      | some f =>
        have hf := lk_mem hl
        have hF := h1.dk.fl f hf.1
        have hof : f.ops.length < 1000000 := by
          have := ho f.ab (List.mem_map.2 ⟨f, hf.1, rfl⟩)
          simpa [Fq.ab] using this
        simp only [Option.map_some, bs_len, ← Fq.N_ab hF]
        by_cases c5 : 1048576 < f.N + q.n
        · simp only [c5, if_true]
          exact (Append_long_f D s q u h1.dk hk1 c1 c3 hms f hl hn c5).mono fun e u' hh => ⟨hh.1, Da.dw h1 h4 hh.2 rfl rfl⟩
        · simp only [c5, if_false]
          refine (Append_hit_f D s hs q f u h1.dk hk1 hrq c1 c3 hl hof (by omega)).mono fun e u' hh => ?_
          obtain ⟨e1, q2, v, e2, e3, e4⟩ := hh
          refine ⟨e1, Da.dw h1 h4 e4 rfl ?_⟩
          rw [Dq.swap_ab, Fq.more_ab, e2, e3, hf.2]
          rfl
theorem Af.set_len (f : Af) : f.set f.ops.length 0 = ⟨f.nm, f.cn, [], false⟩ := by
  unfold Af.set Af.tl Af.dn Af.cn
  simp
theorem syn_a (h : Da w0 d A L u) (hk : A.k < 1000000000) (s : ByteArray) (hs : s.size ≤ 281474976710656) :
    Calls Try.prog 21 #[PT d 0, .string s] u fun e u' => e = .returned (.int .i64 (A.syn s).1) ∧ Da w0 d (A.syn s).2 L u' ∧ Kx L u u' := by
  obtain ⟨D, h1, rfl, rfl, h4⟩ := h
  have hk : D.k < 1000000000 := hk
  have hk1 : D.k + 1 < 4611686018427387904 := by omega
  have hms : s.size ≤ maxLen := Nat.le_trans hs (by decide)
  refine (Sync_f D s hms u h1.dk hk1).mono fun e u' hh => ?_
  have hno : D.ab.no = D.rf (D.k + 1) := rfl
  unfold Ad.syn
  by_cases c1 : D.rf (D.k + 1) = true
  · rw [if_pos c1] at hh
    rw [if_pos (hno.trans c1)]
    exact ⟨hh.1, Da.dw h1 h4 ⟨hh.2.1, hh.2.2, fun x hx => .inl hx⟩ rfl rfl⟩
  · rw [if_neg c1] at hh
    rw [if_neg (by rw [hno]; exact c1), Dq.lk_ab]
    cases hl : lk D.fs s with
    | none =>
      rw [hl] at hh
      exact ⟨hh.1, Da.dw h1 h4 ⟨hh.2.1, hh.2.2, fun x hx => .inl hx⟩ rfl rfl⟩
    | some f =>
      rw [hl] at hh
      obtain ⟨e1, s', e2, e3, e4⟩ := hh
      have hf := lk_mem hl
      have hF := h1.dk.fl f hf.1
      refine ⟨e1, Da.dw h1 h4 ⟨e2, e3, fun x hx => (Dq.swap_bl hx).elim .inl fun hy => (e4 x hy).elim (fun hz => .inl (Dq.fbl hf.1 x hz)) .inr⟩ rfl ?_⟩
      rw [Dq.swap_ab, Fq.set_ab hF, hf.2]
      have : (f.ab.set f.ops.length 0) = ⟨f.ab.nm, f.ab.cn, [], false⟩ := by
        rw [← Af.set_len]; congr 1; simp [Fq.ab]
      rw [this]
      rfl
theorem cut_a (h : Da w0 d A L u) (hk : A.k < 1000000000) (ho : ∀ f ∈ A.fs, f.ops.length < 1000000) (s : ByteArray) (hs : s.size ≤ 281474976710656) (c : Int) :
    Calls Try.prog 20 #[PT d 0, .string s, .int .i64 c] u fun e u' => e = .returned (.int .i64 (A.cut s c).1) ∧ Da w0 d (A.cut s c).2 L u' ∧ Kx L u u' := by
  obtain ⟨D, h1, rfl, rfl, h4⟩ := h
  have hk : D.k < 1000000000 := hk
  have hk1 : D.k + 1 < 4611686018427387904 := by omega
  have hms : s.size ≤ maxLen := Nat.le_trans hs (by decide)
  refine (Cut_f D s hms c u h1.dk hk1 (fun f hf => by simpa [Fq.ab] using ho f.ab (List.mem_map.2 ⟨f, hf, rfl⟩))).mono fun e u' hh => ?_
  have hno : D.ab.no = D.no := rfl
  unfold Ad.cut
  by_cases c1 : D.no = true
  · rw [if_pos c1] at hh
    rw [if_pos (hno.trans c1)]
    exact ⟨hh.1, Da.dw h1 h4 hh.2 rfl rfl⟩
  · rw [if_neg c1] at hh
    rw [if_neg (by rw [hno]; exact c1), Dq.lk_ab]
    cases hl : lk D.fs s with
    | none =>
      rw [hl] at hh
      exact ⟨hh.1, Da.dw h1 h4 hh.2 rfl rfl⟩
    | some f =>
      rw [hl] at hh
      have hf := lk_mem hl
      have hF := h1.dk.fl f hf.1
      simp only [Option.map_some, ← Fq.N_ab hF]
      by_cases c2 : 0 ≤ c ∧ c ≤ f.N
      · rw [if_pos c2]
        simp only [if_pos c2] at hh
        obtain ⟨e1, v, e2⟩ := hh
        refine ⟨e1, Da.dw h1 h4 e2 rfl ?_⟩
        rw [Dq.swap_ab, hf.2, show cuto c.toNat = appo c.toNat ⟨0, 0, 0, 0, none, fun _ => 0⟩ from rfl, Fq.more_ab]
        rfl
      · rw [if_neg c2]
        simp only [if_neg c2] at hh
        exact ⟨hh.1, Da.dw h1 h4 hh.2 rfl rfl⟩
theorem pend_a (h : Da w0 d A L u) (s : ByteArray) (hs : s.size ≤ 281474976710656) :
    Calls Try.prog 27 #[PT d 0, .string s] u fun e u' => e = .returned (.int .i64 ((match A.lk s with | some f => f.ops.length | none => 0 : Nat) : Int)) ∧ Below u.heap.size u u' := by
  obtain ⟨D, h1, rfl, rfl, h4⟩ := h
  refine (Pending_f D s (Nat.le_trans hs (by decide)) u h1.dk).mono fun e u' hh => ?_
  rw [Dq.lk_ab]
  cases hl : lk D.fs s with
  | none => rw [hl] at hh; exact hh
  | some f =>
    rw [hl] at hh
    refine ⟨hh.1.trans ?_, hh.2⟩
    simp [Fq.ab]
theorem crash_a (h : Da w0 d A L u) (a : Option Addr) (len cap : Nat) (zs : Nat → Kv) (hlen : len ≤ 1152921504606846976) (hK : Kps u.heap.size u (.slice a len cap) len zs) :
    Calls Try.prog 24 #[PT d 0, .slice a len cap] u fun e u' => e = .returned (.int .i64 0) ∧ Da w0 d (A.cra (kof (kup (kbk len zs) len))) L u' ∧ Kx L u u' := by
  obtain ⟨D, h1, rfl, rfl, h4⟩ := h
  refine (Crash_f D a len cap zs hlen u h1.dk hK).mono fun e u' hh => ?_
  obtain ⟨e1, σ, e2⟩ := hh
  refine ⟨e1, Da.dw h1 h4 e2 rfl ?_⟩
  generalize kof (kup (kbk len zs) len) = K
  unfold Dq.aft Ad.cra Dq.ab
  have e3 : ∀ fs : List Fq, (∀ f ∈ fs, FOk u f) → ((fs.filter (Fq.stay K)).map (Fq.aft K σ)).map Fq.ab = ((fs.map Fq.ab).filter fun f => f.there (K f.nm).1.2.1 (K f.nm).1.2.2).map fun f => f.set (K f.nm).1.2.1 (K f.nm).1.2.2 := by
    intro fs
    induction fs with
    | nil => intro _; rfl
    | cons f r ih =>
      intro hf
      have i2 := ih fun g hg => hf g (List.mem_cons_of_mem _ hg)
      have e4 : f.stay K = f.ab.there (K f.ab.nm).1.2.1 (K f.ab.nm).1.2.2 := Fq.there_ab ..
      rw [List.map_cons, List.filter_cons, List.filter_cons, e4]
      split
      · rw [List.map_cons, List.map_cons, List.map_cons, i2]
        congr 1
        exact Fq.set_ab (hf f (List.mem_cons_self ..)) ..
      · exact i2
  rw [e3 D.fs h1.dk.fl]
theorem ren_busy_a (h : Da w0 d A L u) (hk : A.k < 1000000000) (s t : ByteArray) (hs : s.size ≤ 281474976710656) (hn : nmd t = true) (hno : A.no = false) (f : Af) (hl : A.lk s = some f) (ho : f.ops ≠ []) :
    Calls Try.prog 22 #[PT d 0, .string s, .string t] u fun e u' => e = .returned (.int .i64 10) ∧ Da w0 d A.tick L u' ∧ Kx L u u' := by
  obtain ⟨D, h1, rfl, rfl, h4⟩ := h
  have hk : D.k < 1000000000 := hk
  rw [Dq.lk_ab] at hl
  obtain ⟨f', hl', rfl⟩ := Option.map_eq_some_iff.1 hl
  refine (Rename_busy_f D s t (Nat.le_trans hs (by decide)) hn f' u h1.dk (by omega) hno hl' (by
    have : f'.ops ≠ [] := fun e => ho (by unfold Fq.ab; simp [e])
    exact List.length_pos_iff.2 this)).mono fun e u' hh => ?_
  exact ⟨hh.1, Da.dw h1 h4 hh.2 rfl rfl⟩
theorem ren_ok_a (h : Da w0 d A L u) (hk : A.k < 1000000000) (s t : ByteArray) (hs : s.size ≤ 281474976710656) (ht : t.size ≤ 281474976710656) (hn : nmd t = true) (hno : A.no = false) (f : Af) (hl : A.lk s = some f) (ho : f.ops = []) :
    Calls Try.prog 22 #[PT d 0, .string s, .string t] u fun e u' => e = .returned (.int .i64 0) ∧ Da w0 d (A.ren f s t) L u' ∧ Kx L u u' := by
  obtain ⟨D, h1, rfl, rfl, h4⟩ := h
  have hk : D.k < 1000000000 := hk
  rw [Dq.lk_ab] at hl
  obtain ⟨f', hl', rfl⟩ := Option.map_eq_some_iff.1 hl
  refine (Rename_ok_f D s t (Nat.le_trans hs (by decide)) ht hn f' u h1.dk (by omega) hno hl' (by
    have := congrArg List.length ho
    simpa [Fq.ab] using this)).mono fun e u' hh => ?_
  refine ⟨hh.1, Da.dw h1 h4 hh.2 rfl ?_⟩
  unfold Ad.ren Dq.ren Dq.ab Dq.tick
  simp only [List.map_append, List.map_cons, List.map_nil]
  congr 2
  · induction D.fs with
    | nil => rfl
    | cons x r ih =>
      simp only [List.filter_cons, List.map_cons]
      show _ = if decide (x.nm ≠ s ∧ x.nm ≠ t) = true then _ else _
      split
      · rw [List.map_cons, ih]
      · exact ih
theorem Nw.lo2 {w u : World} {d mb rb m : Nat} {rf : Nat → Bool} (h : Nw w d mb rb rf m u) : ∀ x ∈ Dq.bl ⟨d, mb, rb, 0, [], rf⟩, w.heap.size ≤ x := fun x hx => by
  have h1 := h.two.nm
  have h2 := h.nr
  have h3 := h.nd
  have : x = d ∨ x = mb ∨ x = rb := by simpa [Dq.bl] using hx
  omega
theorem new_a {w : World} {d mb rb m : Nat} {rf : Nat → Bool} (h : Nw w d mb rb rf m u) : Da w d ⟨0, [], rf⟩ [] u := ⟨⟨d, mb, rb, 0, [], rf⟩, ⟨h.two.b, h.disk, h.lo2⟩, rfl, rfl, fun _ hx => by cases hx⟩
end
end Wi
end Rg
end Go.Proofs.Ytidicdlfjdlpnaa
end
section
namespace Go.Proofs.Ytidicdlfjdlpnaa
open Go.RowKit
namespace Rg
namespace Wi
set_option maxRecDepth 100000
abbrev W32 (n : Nat) : Value := .int .u32 (n : Int)
/-- A number shifted by 1, and turned if a 1 fell out; k times; the table; a step of the check; the check of bytes. -/
def shf (n : Nat) : Nat := if an n 1 = 1 then xo (sr n 1) 3988292384 else sr n 1
def shN (n : Nat) : Nat → Nat
  | 0 => n
  | k + 1 => shf (shN n k)
def crt (i : Nat) : Nat := shN (c32 i) 8
def xb (a b : Nat) : Nat := (a ^^^ b) % 256
def cst (n c : Nat) : Nat := xo (sr n 8) (crt (xb (n % 256) c))
def crn (f : Nat → Nat) : Nat → Nat
  | 0 => 4294967295
  | k + 1 => cst (crn f k) (f k)
def crc (f : Nat → Nat) (n : Nat) : Nat := nt (crn f n)
def nb4 (a b c d : Nat) : Nat := ou (ou (ou (sl (c32 a) 24) (sl (c32 b) 16)) (sl (c32 c) 8)) (c32 d)
section
variable {ρ : Operand → Value} {o : Oper} {x y : Operand} {a b k g off j n : Nat} {w : World}
end
/-- A table in memory, from a place of a block on. -/
structure Tb (g t : Nat) (w : World) : Prop where
  lt : g < w.heap.size
  at_ : ∀ i, i < 256 → w.cell? ⟨g, t + i, none⟩ = some (W32 (crt i))
theorem Tb.keep {g t : Nat} {w w' : World} (h : Tb g t w) (hs : w.heap.size ≤ w'.heap.size) (hb : w'.heap[g]? = w.heap[g]?) : Tb g t w' := ⟨Nat.lt_of_lt_of_le h.lt hs, fun i hi => (World.cell?_of_block (a := ⟨g, t + i, none⟩) hb).trans (h.at_ i hi)⟩
theorem Tb.below {g t : Nat} {w w' : World} (h : Tb g t w) (hb : Below w.heap.size w w') : Tb g t w' := h.keep hb.size (hb.block g h.lt)
theorem Tb.mm {g : Nat} {w : World} (h : Mm w [(g, ints .u32 crt 256)]) : Tb g 0 w := ⟨(h.blk _ (List.mem_cons_self ..)).1, fun i hi => by rw [Nat.zero_add]; exact h.get 0 rfl i (ints_get _ _ hi)⟩
end Wi
end Rg
end Go.Proofs.Ytidicdlfjdlpnaa
end
section
namespace Go.Proofs.Ytidicdlfjdlpnaa
open Go.RowKit
namespace Rg
namespace Wi
set_option maxRecDepth 100000
/-- A part's first k, a part without its first k. -/
def Pt8.tk (q : Pt8) (k : Nat) : Pt8 := ⟨q.gb, q.o, k, q.cp, q.p, q.f⟩
def Pt8.dp (q : Pt8) (k : Nat) : Pt8 := ⟨q.gb, q.o + k, q.n - k, q.cp - k, if q.cp = k then q.p else q.p.map (·.add k), fun j => q.f (k + j)⟩
theorem Pok.tk {q : Pt8} (h : Pok q) {k : Nat} (hk : k ≤ q.n) : Pok (q.tk k) := by
  refine ⟨⟨fun h0 => ?_, fun h0 => ⟨_, _, by rw [← h0]⟩⟩, Nat.le_trans hk h.le⟩
  have e := h.at (Nat.lt_of_lt_of_le h0 hk)
  show Value.slice q.p k q.cp = _
  rw [e]
  rfl
theorem Pok.dp {q : Pt8} (h : Pok q) {k : Nat} (hk : k ≤ q.n) : Pok (q.dp k) := by
  refine ⟨⟨fun h0 => ?_, fun h0 => ⟨_, _, by rw [← h0]⟩⟩, ?_⟩
  · have h1 : k < q.n := by have : 0 < q.n - k := h0; omega
    have h2 := h.le
    have e := h.at (by omega)
    show Value.slice (if q.cp = k then q.p else q.p.map (·.add k)) (q.n - k) (q.cp - k) = .slice (some ⟨q.gb, q.o + k + 0, none⟩) (q.n - k - 0) (q.cp - k - 0)
    rw [if_neg (by omega), e, Option.map_some, show (⟨q.gb, q.o, none⟩ : Addr).add k = ⟨q.gb, q.o + k, none⟩ by unfold Addr.add; split <;> simp_all]
    rfl
  · have h2 := h.le
    show q.n - k ≤ q.cp - k
    omega
theorem Pt8.rs_tk {q : Pt8} {w : World} (h : q.rs w) {k : Nat} (hk : k ≤ q.n) : (q.tk k).rs w := ⟨fun h0 => h.lt (Nat.lt_of_lt_of_le h0 hk), fun i hi => h.at_ i (Nat.lt_of_lt_of_le hi hk)⟩
theorem Pt8.rs_dp {q : Pt8} {w : World} (h : q.rs w) {k : Nat} (hk : k ≤ q.n) : (q.dp k).rs w := ⟨fun h0 => h.lt (by have : 0 < q.n - k := h0; omega), fun i hi => by
  have h1 : i < q.n - k := hi
  have e := h.at_ (k + i) (by omega)
  rw [← Nat.add_assoc] at e
  exact e⟩
theorem Pt8.dp_no {q : Pt8} (h : q.p = none → q.cp = 0) (k : Nat) : (q.dp k).p = none → (q.dp k).cp = 0 := fun e => by
  have e2 : (if q.cp = k then q.p else q.p.map (·.add k)) = none := e
  show q.cp - k = 0
  by_cases hc : q.cp = k
  · omega
  · rw [if_neg hc] at e2
    have : q.p = none := by cases hp : q.p with | none => rfl | some a => rw [hp] at e2; cases e2
    rw [h this]
    omega
/-- The number at a part's front. -/
def Pt8.nb (q : Pt8) : Nat := nb4 (q.f 0) (q.f 1) (q.f 2) (q.f 3)
section
variable {ρ : Operand → Value} {o : Oper} {x x0 x1 x2 x3 y z : Operand} {a b c d k m : Nat} {w : World}
end
end Wi
end Rg
end Go.Proofs.Ytidicdlfjdlpnaa
end
section
namespace Go.Proofs.Ytidicdlfjdlpnaa
open Go.RowKit
namespace Rg
namespace Wi
set_option maxRecDepth 100000
end Wi
end Rg
end Go.Proofs.Ytidicdlfjdlpnaa
end
section
namespace Go.Proofs.Ytidicdlfjdlpnaa
open Go.RowKit
namespace Rg
namespace Wi
set_option maxRecDepth 100000
/-- Parts as a list's cells. -/
def pcs (P : Nat → Pt8) (m : Nat) : List Value := (List.range m).map fun i => .slice (P i).p (P i).n (P i).cp
def upP (P : Nat → Pt8) (k : Nat) (q : Pt8) : Nat → Pt8 := fun i => if i = k then q else P i
theorem pcs_snoc (P : Nat → Pt8) (m : Nat) (q : Pt8) : pcs P m ++ [.slice q.p q.n q.cp] = pcs (upP P m q) (m + 1) := by
  unfold pcs
  rw [List.range_succ, List.map_append]
  congr 1
  · exact List.map_congr_left fun i hi => by
      have h : i ≠ m := by have : i < m := (by simpa using hi); omega
      unfold upP
      rw [if_neg h]
  · simp [upP]
theorem info_sl : ∃ i, Try.prog.info? 34 = some i ∧ i.zero = some (.slice none 0 0) ∧ i.size = 1 ∧ i.bytes = 24 := by
  obtain ⟨i, hi⟩ : ∃ i, Try.prog.info? 34 = some i := by
    have h : (Try.prog.info? 34).isSome = true := by kernel_rfl
    rcases e : Try.prog.info? 34 with _ | i
    · rw [e] at h; cases h
    · exact ⟨i, rfl⟩
  have h1 : (Try.prog.info? 34).map (·.zero) = some (some (.slice none 0 0)) := by kernel_rfl
  have h2 : (Try.prog.info? 34).map (·.size) = some 1 := by kernel_rfl
  have h3 : (Try.prog.info? 34).map (·.bytes) = some 24 := by kernel_rfl
  rw [hi] at h1 h2 h3
  exact ⟨i, hi, Option.some.inj h1, Option.some.inj h2, Option.some.inj h3⟩
/-- A list of the call's own, of parts of the call's own. -/
structure Lr (w : World) (vv : Value) (m : Nat) (P : Nat → Pt8) (w' : World) : Prop where
  b : Below w.heap.size w w'
  own : w'.ownsRow w.heap.size 34 1 vv m (pcs P m)
  ok : ∀ i, i < m → Pok (P i) ∧ ((P i).p = none → (P i).cp = 0) ∧ (P i).rs w' ∧ (0 < (P i).n → w.heap.size ≤ (P i).gb ∧ (P i).gb ∉ vbl vv)
theorem Rs.keep {gb o n : Nat} {f : Nat → Nat} {w w' : World} (h : Rs gb o n f w) (hs : w.heap.size ≤ w'.heap.size) (hb : 0 < n → w'.heap[gb]? = w.heap[gb]?) : Rs gb o n f w' :=
  ⟨fun h0 => Nat.lt_of_lt_of_le (h.lt h0) hs, fun i hi => (World.cell?_of_block (a := ⟨gb, o + i, none⟩) (hb (Nat.lt_of_le_of_lt (Nat.zero_le i) hi))).trans (h.at_ i hi)⟩
section
variable {w u u' : World} {vv : Value} {m : Nat} {P : Nat → Pt8}
theorem Lr.start (P : Nat → Pt8) (h : Below w.heap.size w u) : Lr w (.slice none 0 0) 0 P u := ⟨h, World.ownsRow_nil _ _ _ _, fun _ hi => absurd hi (Nat.not_lt_zero _)⟩
theorem Lr.step (h : Lr w vv m P u) (hb : Below u.heap.size u u') : Lr w vv m P u' :=
  ⟨h.b.trans (hb.mono h.b.size), own_keep h.own (fun x hx => hb.block x (own_lt h.own x hx)), fun i hi => ⟨(h.ok i hi).1, (h.ok i hi).2.1, (h.ok i hi).2.2.1.below hb, (h.ok i hi).2.2.2⟩⟩
theorem Lr.app (h : Lr w vv m P u) (hm : m ≤ 1000000) {q : Pt8} (hq : Pok q ∧ (q.p = none → q.cp = 0) ∧ q.rs u ∧ (0 < q.n → w.heap.size ≤ q.gb ∧ q.gb ∉ vbl vv)) {gs : Nat} (hs : u.cell? ⟨gs, 0, none⟩ = some (.slice q.p q.n q.cp)) (ty : TypeId) :
    ∃ v' u2, (Builtin.append_ #[61, 61] ty #[vv, .slice (some ⟨gs, 0, none⟩) 1 1]).run Try.prog u = .ok v' u2 ∧ Lr w v' (m + 1) (upP P m q) u2 := by
  obtain ⟨i0, hi, hz0, hz1, hz2⟩ := info_sl
  obtain ⟨v', w2, r1, r2, r3, _, r5⟩ := run_append_own_at (P := Try.prog) u w.heap.size 61 ty 34 i0 (.slice none 0 0) 1 24 Try.underlying61 hi hz0 hz1 hz2 rfl (by decide) vv m _ h.own ⟨gs, 0, none⟩ 1 1 [.slice q.p q.n q.cp] rfl
    (fun j v hj => by
      rcases j with _ | j
      · rw [show (⟨gs, 0, none⟩ : Addr).add 0 = ⟨gs, 0, none⟩ by unfold Addr.add; split <;> simp_all, hs]; exact hj
      · cases hj) (fun v hv => by rw [List.mem_singleton.1 hv]; rfl) (by unfold maxLen; omega) (by omega) h.b.size
  rw [pcs_snoc] at r2
  have hc := Chg.grown r3
  have key : ∀ p : Pt8, p.rs u → (0 < p.n → w.heap.size ≤ p.gb ∧ p.gb ∉ vbl vv) → p.rs w2 ∧ (0 < p.n → w.heap.size ≤ p.gb ∧ p.gb ∉ vbl v') := fun p h1 h2 => ⟨h1.keep hc.size (fun h0 => hc.block _ (h1.lt h0) (h2 h0).2), fun h0 => ⟨(h2 h0).1, fun hx => by
    unfold vbl at hx
    rcases r5 with e | e
    · rw [e] at hx; exact (h2 h0).2 hx
    · rw [e] at hx
      have : p.gb = u.heap.size := by simpa using hx
      have := h1.lt h0
      omega⟩⟩
  refine ⟨v', w2, r1, h.b.trans (hc.toBelow (fun x hx => ?_) h.b.size), r2, fun i hi => ?_⟩
  · unfold vbl at hx
    cases hv : vv.ownBlock with
    | none => rw [hv] at hx; simp at hx
    | some k => rw [hv] at hx; simp at hx; subst hx; exact (World.ownsRow.lt h.own _ hv).1
  · unfold upP
    by_cases e : i = m
    · rw [if_pos e]
      exact ⟨hq.1, hq.2.1, key q hq.2.2.1 hq.2.2.2⟩
    · rw [if_neg e]
      have h3 := h.ok i (by omega)
      exact ⟨h3.1, h3.2.1, key _ h3.2.2.1 h3.2.2.2⟩
end
/-- Bytes from a place on; a frame's head that is whole; a record that is whole. -/
def sh (f : Nat → Nat) (a : Nat) : Nat → Nat := fun j => f (a + j)
structure Hdk (f : Nat → Nat) (L : Nat) : Prop where
  nb : nb4 (f 0) (f 1) (f 2) (f 3) = L
  le : L ≤ 65536
  ck : crc f 4 = nb4 (f 4) (f 5) (f 6) (f 7)
def Bdk (f : Nat → Nat) (L : Nat) : Prop := crc (sh f 8) L = nb4 (f (8 + L)) (f (8 + L + 1)) (f (8 + L + 2)) (f (8 + L + 3))
/-- So many whole frames stand at the front of a log's bytes. -/
structure Lgk (f : Nat → Nat) (n : Nat) (A Ln : Nat → Nat) (M : Nat) : Prop where
  z : A 0 = 0
  s : ∀ i, i < M → A (i + 1) = A i + (12 + Ln i)
  le : A M ≤ n
  hd : ∀ i, i < M → Hdk (sh f (A i)) (Ln i)
  bd : ∀ i, i < M → Bdk (sh f (A i)) (Ln i)
theorem Lgk.mono {f : Nat → Nat} {n : Nat} {A Ln : Nat → Nat} {M : Nat} (h : Lgk f n A Ln M) : ∀ (k i : Nat), i + k = M → A i + 12 * k ≤ A M
  | 0, i, e => by rw [show i = M by omega]; omega
  | k + 1, i, e => by
    have h1 := h.mono k (i + 1) (by omega)
    have h2 := h.s i (by omega)
    omega
theorem Lgk.at_le {f : Nat → Nat} {n : Nat} {A Ln : Nat → Nat} {M : Nat} (h : Lgk f n A Ln M) {i : Nat} (hi : i ≤ M) : A i ≤ n ∧ M - i ≤ n := by
  have := h.mono (M - i) i (by omega)
  have := h.le
  omega
theorem Lgk.nx_le {f : Nat → Nat} {n : Nat} {A Ln : Nat → Nat} {M : Nat} (h : Lgk f n A Ln M) {i : Nat} (hi : i < M) : A i + (12 + Ln i) ≤ n := by
  have h1 := (h.at_le (i := i + 1) hi).1
  rw [h.s i hi] at h1
  exact h1
/-- Where the reading is: how many were read, what is left, the list. -/
structure Gr where
  i : Nat
  r : Pt8
  v : Value
  P : Nat → Pt8
structure Rk (q : Pt8) (A Ln : Nat → Nat) (M : Nat) (w : World) (x : Gr) : Prop where
  le : x.i ≤ M
  ok : Pok x.r ∧ x.r.rs w
  no : x.r.p = none → x.r.cp = 0
  n : x.r.n + A x.i = q.n
  f : x.r.f = sh q.f (A x.i)
  ps : ∀ i, i < x.i → (x.P i).n = Ln i ∧ ∀ j, j < Ln i → (x.P i).f j = q.f (A i + 8 + j)
theorem Rk.next {q : Pt8} {A Ln : Nat → Nat} {M : Nat} {w : World} {x : Gr} (h : Rk q A Ln M w x) (hg : Lgk q.f q.n A Ln M) (hlt : x.i < M) {q2 : Pt8} {v : Value} (hn : q2.n = ((x.r.tk (8 + Ln x.i)).dp 8).n) (hf : q2.f = ((x.r.tk (8 + Ln x.i)).dp 8).f) : Rk q A Ln M w ⟨x.i + 1, x.r.dp (8 + Ln x.i + 4), v, upP x.P x.i q2⟩ := by
  have h1 := h.n
  have h2 := hg.nx_le hlt
  have h3 := hg.s x.i hlt
  have h4 := h.ok.1.le
  refine ⟨hlt, ⟨h.ok.1.dp (by omega), Pt8.rs_dp h.ok.2 (by omega)⟩, Pt8.dp_no h.no _, ?_, ?_, fun i hi => ?_⟩
  · show x.r.n - (8 + Ln x.i + 4) + A (x.i + 1) = q.n
    omega
  · show (fun j => x.r.f (8 + Ln x.i + 4 + j)) = sh q.f (A (x.i + 1))
    funext j
    rw [h.f]
    show q.f (A x.i + (8 + Ln x.i + 4 + j)) = q.f (A (x.i + 1) + j)
    rw [h3]
    congr 1
    omega
  · show (upP x.P x.i q2 i).n = Ln i ∧ ∀ j, j < Ln i → (upP x.P x.i q2 i).f j = q.f (A i + 8 + j)
    unfold upP
    by_cases e : i = x.i
    · rw [if_pos e, e, hn, hf]
      refine ⟨(show 8 + Ln x.i - 8 = _ by omega), fun j hj => ?_⟩
      show x.r.f (8 + j) = _
      rw [h.f]
      show q.f (A x.i + (8 + j)) = _
      rw [Nat.add_assoc]
    · rw [if_neg e]
      exact h.ps i (by have : i < x.i + 1 := hi; omega)
end Wi
end Rg
end Go.Proofs.Ytidicdlfjdlpnaa
end
section
namespace Go.Proofs.Ytidicdlfjdlpnaa
open Go.RowKit
namespace Rg
namespace Wi
set_option maxRecDepth 100000
theorem Nw.up {w u u' : World} {d mb rb m : Nat} {rf : Nat → Bool} (h : Nw u d mb rb rf m u') (hb : Below w.heap.size w u) : Nw w d mb rb rf m u' := ⟨⟨hb.trans (h.two.b.mono hb.size), Nat.le_trans hb.size h.two.nm, h.two.mp⟩, h.nr, h.nd, h.cel, h.rm⟩
/-- A part that was made behind w. -/
structure Pw (w : World) (n : Nat) (f : Nat → Nat) (q : Pt8) (u : World) : Prop where
  b : Below w.heap.size w u
  ok : Pok q
  no : q.p = none → q.cp = 0
  rs : q.rs u
  n : q.n = n
  f : q.f = f
  gb : 0 < q.n → w.heap.size ≤ q.gb
theorem Pw.step {w u u' : World} {n : Nat} {f : Nat → Nat} {q : Pt8} (h : Pw w n f q u) (hb : Below u.heap.size u u') : Pw w n f q u' := ⟨h.b.trans (hb.mono h.b.size), h.ok, h.no, h.rs.below hb, h.n, h.f, h.gb⟩
end Wi
end Rg
end Go.Proofs.Ytidicdlfjdlpnaa
end
section
namespace Go.Proofs.Ytidicdlfjdlpnaa
open Go.RowKit
namespace Rg
namespace Wi
set_option maxRecDepth 100000
end Wi
end Rg
end Go.Proofs.Ytidicdlfjdlpnaa
end
section
namespace Go.Proofs.Ytidicdlfjdlpnaa
open Go.RowKit
namespace Rg
namespace Wi
set_option maxRecDepth 100000
/-- A list of parts in memory above B. -/
structure Lq (B : Nat) (vv : Value) (m : Nat) (P : Nat → Pt8) (u : World) : Prop where
  own : u.ownsRow B 34 1 vv m (pcs P m)
  ok : ∀ i, i < m → Pok (P i) ∧ ((P i).p = none → (P i).cp = 0) ∧ (P i).rs u ∧ (0 < (P i).n → B ≤ (P i).gb)
section
variable {B m : Nat} {vv : Value} {P : Nat → Pt8} {w u u' : World}
theorem Lq.lo (h : Lq B vv m P u) : ∀ x ∈ vbl vv, B ≤ x := fun x hx => by
  unfold vbl at hx
  cases hv : vv.ownBlock with
  | none => rw [hv] at hx; simp at hx
  | some k => rw [hv] at hx; simp at hx; subst hx; exact (World.ownsRow.lt h.own _ hv).1
theorem Lq.chg (h : Lq B vv m P u) {L : List Nat} (hc : Chg L u u') (hL : ∀ x ∈ L, x < B) : Lq B vv m P u' :=
  ⟨own_keep h.own (fun x hx => hc.block x (own_lt h.own x hx) (fun hm => absurd (hL x hm) (Nat.not_lt.2 (h.lo x hx)))), fun i hi => ⟨(h.ok i hi).1, (h.ok i hi).2.1, (h.ok i hi).2.2.1.keep hc.size (fun h0 => hc.block _ ((h.ok i hi).2.2.1.lt h0) (fun hm => absurd (hL _ hm) (Nat.not_lt.2 ((h.ok i hi).2.2.2 h0)))), (h.ok i hi).2.2.2⟩⟩
theorem Lq.step (h : Lq B vv m P u) (hb : Below u.heap.size u u') : Lq B vv m P u' := h.chg (L := []) (Chg.of hb) (fun _ hx => by cases hx)
theorem Lq.put (h : Lq B vv m P u) {j : Nat} (hj : j < B) (off : Nat) (vs : List Value) : Lq B vv m P (u.setCells j off vs) := h.chg (L := [j]) ((Chg.refl _ _).put (.inl (List.mem_cons_self ..))) (fun x hx => by rw [List.mem_singleton.1 hx]; exact hj)
end
end Wi
end Rg
end Go.Proofs.Ytidicdlfjdlpnaa
end
section
namespace Go.Proofs.Ytidicdlfjdlpnaa
open Go.RowKit
namespace Rg
namespace Wi
set_option maxRecDepth 100000
/-- A part's bytes. -/
def q8 (f : Nat → Nat) (n : Nat) : List Int := (List.range n).map fun i => ((f i : Nat) : Int)
theorem q8_cg {f g : Nat → Nat} {n : Nat} (h : ∀ i, i < n → f i = g i) : q8 f n = q8 g n := by
  unfold q8
  exact List.map_congr_left fun i hi => by rw [h i (by simpa using hi)]
theorem bsl_q {q : Pt8} {u : World} (h : Pok q) (hr : q.rs u) : BSl u (q8 q.f q.n) q.cp (.slice q.p q.n q.cp) := by
  rcases Nat.eq_zero_or_pos q.n with e | e
  · rw [e]
    exact BSl.void q.p rfl
  · rw [h.at e]
    exact Rd.bsl ⟨hr.lt e, fun i hi => hr.at_ i hi⟩ h.le
theorem same_q {q r : Pt8} {u : World} (hq : Pok q ∧ q.rs u) (hr : Pok r ∧ r.rs u) (hn : q.n = r.n) (hf : ∀ i, i < r.n → q.f i = r.f i) : Calls Try.prog 29 #[.slice q.p q.n q.cp, .slice r.p r.n r.cp] u fun e u' => e = .returned (.bool true) ∧ Below u.heap.size u u' := by
  have h1 := bsl_q hq.1 hq.2
  rw [show q8 q.f q.n = q8 r.f r.n by rw [hn]; exact q8_cg hf] at h1
  exact same_bb h1 (bsl_q hr.1 hr.2)
/-- A list of parts, as it is read. -/
structure Lv (pl : Option Addr) (g o m : Nat) (P : Nat → Pt8) (u : World) : Prop where
  p : 0 < m → pl = some ⟨g, o, none⟩
  lt : 0 < m → g < u.heap.size
  at_ : ∀ i, i < m → u.cell? ⟨g, o + i, none⟩ = some (.slice (P i).p (P i).n (P i).cp)
  ok : ∀ i, i < m → Pok (P i) ∧ ((P i).p = none → (P i).cp = 0) ∧ (P i).rs u
theorem Lv.below {pl : Option Addr} {g o m : Nat} {P : Nat → Pt8} {u u' : World} (h : Lv pl g o m P u) (hb : Below u.heap.size u u') : Lv pl g o m P u' :=
  ⟨h.p, fun h0 => Nat.lt_of_lt_of_le (h.lt h0) hb.size, fun i hi => by rw [hb.cell (p := ⟨g, o + i, none⟩) (h.lt (by omega))]; exact h.at_ i hi, fun i hi => ⟨(h.ok i hi).1, (h.ok i hi).2.1, (h.ok i hi).2.2.below hb⟩⟩
section
variable {ρ : Operand → Value} {o : Oper} {x y : Operand} {g off j m c : Nat} {v : Value} {w : World}
end
theorem Lq.base {B B' m : Nat} {v : Value} {P : Nat → Pt8} {u : World} (h : Lq B v m P u) (hb : B' ≤ B) : Lq B' v m P u := ⟨own_base h.own hb, fun i hi => ⟨(h.ok i hi).1, (h.ok i hi).2.1, (h.ok i hi).2.2.1, fun h0 => Nat.le_trans hb ((h.ok i hi).2.2.2 h0)⟩⟩
end Wi
end Rg
end Go.Proofs.Ytidicdlfjdlpnaa
end
section
namespace Go.Proofs.Ytidicdlfjdlpnaa
open Go.RowKit
namespace Rg
namespace Wi
set_option maxRecDepth 100000
/-- A disk, and beside it parts and cells that it does not touch. -/
structure De (w0 : World) (d : Nat) (A : Ad) (ps : List Pt8) (cs : List (Nat × Nat × Value)) (u : World) : Prop where
  da : Da w0 d A (ps.flatMap gbl ++ cs.map Prod.fst) u
  pq : ∀ q ∈ ps, Pq q u
  cl : ∀ c ∈ cs, u.cell? ⟨c.1, c.2.1, none⟩ = some c.2.2
section
variable {w0 u u' : World} {d : Nat} {A A' : Ad} {ps : List Pt8} {cs : List (Nat × Nat × Value)}
theorem De.kx (h : De w0 d A ps cs u) (ha : Da w0 d A' (ps.flatMap gbl ++ cs.map Prod.fst) u') (hk : Kx (ps.flatMap gbl ++ cs.map Prod.fst) u u') : De w0 d A' ps cs u' :=
  ⟨ha, fun q hq => (h.pq q hq).kx hk fun x hx => List.mem_append_left _ (List.mem_flatMap.2 ⟨q, hq, hx⟩), fun c hc => by
    rw [World.cell?_of_block (a := ⟨c.1, c.2.1, none⟩) (hk.2 _ (List.mem_append_right _ (List.mem_map.2 ⟨c, hc, rfl⟩)))]
    exact h.cl c hc⟩
theorem De.step (h : De w0 d A ps cs u) (hb : Below u.heap.size u u') : De w0 d A ps cs u' := h.kx (h.da.step hb) (h.da.kx hb)
theorem De.b (h : De w0 d A ps cs u) : Below w0.heap.size w0 u := h.da.b
theorem De.part {q : Pt8} (h : De w0 d A ps cs u) (hq : Pq q u') (hb : Below u.heap.size u u') (hd : Da w0 d A (gbl q ++ (ps.flatMap gbl ++ cs.map Prod.fst)) u') : De w0 d A (q :: ps) cs u' :=
  ⟨by rw [List.flatMap_cons, List.append_assoc]; exact hd, fun x hx => by
    rcases List.mem_cons.1 hx with e | e
    · subst e; exact hq
    · exact ((h.step hb).pq x e), (h.step hb).cl⟩
theorem De.cell {g o : Nat} {v : Value} (h : De w0 d A ps cs u) (hb : Below u.heap.size u u') (h1 : u.heap.size ≤ g) (h2 : g < u'.heap.size) (h3 : u'.cell? ⟨g, o, none⟩ = some v) : De w0 d A ps ((g, o, v) :: cs) u' := by
  have e := h.da.add (M := [g]) hb fun x hx => by obtain rfl := List.mem_singleton.1 hx; exact ⟨h1, h2⟩
  refine ⟨e.sub fun x hx => ?_, (h.step hb).pq, fun c hc => ?_⟩
  · simp only [List.map_cons, List.mem_append, List.mem_cons] at hx ⊢
    rcases hx with e | e | e
    · exact .inr (.inl e)
    · exact .inl (.inl e)
    · exact .inr (.inr e)
  · rcases List.mem_cons.1 hc with e | e
    · subst e; exact h3
    · exact (h.step hb).cl c e
/-- A row that was just laid. -/
def lit (l : List Nat) : Obj := .cells (l.map fun x => Value.int .u8 ((x : Nat) : Int)).toArray 5
def ltp (g : Nat) (l : List Nat) : Pt8 := ⟨g, 0, l.length, l.length, some ⟨g, 0, none⟩, fun i => l.getD i 0⟩
theorem ltp_pq (u : World) (l : List Nat) : Pq (ltp u.heap.size l) (u.alloc (lit l)) := by
  refine ⟨⟨Bv.start _ _ _ _, Nat.le_refl _⟩, (fun e => by cases e), fun _ => ?_, fun i hi => ?_⟩
  · show u.heap.size < (u.alloc _).heap.size
    simp
  · have hi : i < l.length := hi
    have h := World.alloc_heap_new u (lit l)
    show (u.alloc (lit l)).cell? ⟨u.heap.size, 0 + i, none⟩ = some (.int .u8 ((l.getD i 0 : Nat) : Int))
    unfold World.cell?
    dsimp only
    rw [h, Nat.zero_add]
    unfold lit
    simp [List.getD_eq_getElem?_getD, hi]
theorem De.lit (h : De w0 d A ps cs u) (l : List Nat) : De w0 d A (ltp u.heap.size l :: ps) cs (u.alloc (lit l)) := by
  have hb : Below u.heap.size u (u.alloc (Wi.lit l)) := (Below.refl _ u).alloc (Nat.le_refl _) _
  refine h.part (ltp_pq u l) hb (h.da.add hb fun x hx => ?_)
  unfold gbl at hx
  split at hx
  · cases hx
  · obtain rfl := List.mem_singleton.1 hx
    exact ⟨Nat.le_refl _, by show u.heap.size < (u.alloc _).heap.size; simp⟩
theorem De.drop {q : Pt8} (h : De w0 d A (q :: ps) cs u) : De w0 d A ps cs u :=
  ⟨h.da.sub fun x hx => by
    rw [List.flatMap_cons]
    simp only [List.mem_append] at hx ⊢
    exact hx.elim (fun e => .inl (.inr e)) .inr, fun x hx => h.pq x (List.mem_cons_of_mem _ hx), h.cl⟩
end
end Wi
end Rg
end Go.Proofs.Ytidicdlfjdlpnaa
end
section
namespace Go.Proofs.Ytidicdlfjdlpnaa
open Go.RowKit
namespace Rg
namespace Wi
set_option maxRecDepth 100000
/-- An operation of the document's disk: a length, or bytes. -/
structure Ro where
  cut : Bool
  sz : Nat
  b : List Nat
def rdn (c : List Nat) (o : Ro) : List Nat := if o.cut = true then c.take o.sz else c ++ o.b
def rct (c : List Nat) (os : List Ro) : List Nat := os.foldl rdn c
theorem rct_snoc (c : List Nat) (os : List Ro) (o : Ro) : rct c (os ++ [o]) = rdn (rct c os) o := by simp [rct]
structure Rf where
  nm : ByteArray
  sf : List Nat
  ops : List Ro
  old : Bool
def Rf.cn (f : Rf) : List Nat := rct f.sf f.ops
/-- The operations as the program has them. -/
def rops (c : List Nat) : List Ro → List (Nat × List Nat)
  | [] => []
  | o :: r => ((if o.cut = true then o.sz else c.length), (if o.cut = true then [] else o.b)) :: rops (rdn c o) r
def Rf.ab (f : Rf) : Af := ⟨f.nm, f.sf, rops f.sf f.ops, !f.old⟩
theorem rops_len : ∀ (os : List Ro) (c : List Nat), (rops c os).length = os.length
  | [], _ => rfl
  | o :: r, c => by simp [rops, rops_len r]
theorem ctn_rops : ∀ (os : List Ro) (c : List Nat), ctn c (rops c os) = rct c os
  | [], _ => rfl
  | o :: r, c => by
    have h : c.take (if o.cut = true then o.sz else c.length) ++ (if o.cut = true then [] else o.b) = rdn c o := by
      unfold rdn
      split <;> simp
    show ctn (c.take _ ++ _) (rops (rdn c o) r) = rct (rdn c o) r
    rw [h]
    exact ctn_rops r _
theorem rops_take : ∀ (os : List Ro) (c : List Nat) (i : Nat), (rops c os).take i = rops c (os.take i)
  | [], _, i => by simp [rops]
  | o :: r, c, 0 => rfl
  | o :: r, c, i + 1 => by simp [rops, rops_take r]
theorem rops_snoc : ∀ (os : List Ro) (c : List Nat) (o : Ro), rops c (os ++ [o]) = rops c os ++ [((if o.cut = true then o.sz else (rct c os).length), (if o.cut = true then [] else o.b))]
  | [], _, _ => rfl
  | p :: r, c, o => by simp [rops, rops_snoc r, rct]
theorem rops_at : ∀ (os : List Ro) (c : List Nat) (i : Nat), ((rops c os)[i]?).map Prod.snd = (os[i]?).map (fun o => if o.cut = true then [] else o.b)
  | [], _, i => by simp [rops]
  | o :: r, c, 0 => by simp [rops]
  | o :: r, c, i + 1 => by simp [rops, rops_at r]
theorem Rf.cn_ab (f : Rf) : f.ab.cn = f.cn := ctn_rops _ _
theorem Rf.len_ab (f : Rf) : f.ab.ops.length = f.ops.length := rops_len _ _
/-- Texts by their bytes. -/
def blt (a b : ByteArray) : Bool := decide (a.data.toList < b.data.toList)
theorem ba_ext {a b : ByteArray} (h : a.data.toList = b.data.toList) : a = b := by
  cases a; cases b; simpa using h
theorem blt_irr (a : ByteArray) : blt a a = false := by unfold blt; simp
theorem blt_tr {a b c : ByteArray} (h : blt a b = true) (k : blt b c = true) : blt a c = true := by
  unfold blt at *
  simp only [decide_eq_true_eq] at *
  exact List.lt_trans h k
theorem blt_tot {a b : ByteArray} (h : blt a b = false) (k : blt b a = false) : a = b := by
  unfold blt at *
  simp only [decide_eq_false_iff_not] at *
  exact ba_ext (List.le_antisymm (List.not_lt.1 k) (List.not_lt.1 h))
theorem blt_ne {a b : ByteArray} (h : blt a b = true) : a ≠ b := fun e => by
  subst e
  rw [blt_irr] at h
  cases h
section
variable {α : Type} (nm : α → ByteArray)
/-- A file is put into its place. -/
def lst (f : α) (p : List α × Bool) (x : α) : List α × Bool := if p.2 = false ∧ blt (nm f) (nm x) = true then (p.1 ++ [f] ++ [x], true) else (p.1 ++ [x], p.2)
def lay (f : α) (l : List α) : List α := let p := l.foldl (lst nm f) ([], false); if p.2 = true then p.1 else p.1 ++ [f]
/-- The names rise. -/
def Srt (l : List α) : Prop := l.Pairwise fun a b => blt (nm a) (nm b) = true
def ins (f : α) : List α → List α
  | [] => [f]
  | x :: r => if blt (nm f) (nm x) = true then f :: x :: r else x :: ins f r
theorem fold_in (f : α) : ∀ (l p : List α), l.foldl (lst nm f) (p, true) = (p ++ l, true)
  | [], p => by simp
  | x :: r, p => by
    rw [List.foldl_cons]
    unfold lst
    simp only [Bool.true_eq_false, false_and, if_false]
    rw [show (fun (p : List α × Bool) (x : α) => if p.2 = false ∧ blt (nm f) (nm x) = true then (p.1 ++ [f] ++ [x], true) else (p.1 ++ [x], p.2)) = lst nm f from rfl, fold_in f r]
    simp
theorem lay_ins (f : α) : ∀ (l p : List α), (if (l.foldl (lst nm f) (p, false)).2 = true then (l.foldl (lst nm f) (p, false)).1 else (l.foldl (lst nm f) (p, false)).1 ++ [f]) = p ++ ins nm f l
  | [], p => by simp [ins]
  | x :: r, p => by
    rw [List.foldl_cons]
    unfold ins
    by_cases h : blt (nm f) (nm x) = true
    · rw [if_pos h, show lst nm f (p, false) x = (p ++ [f] ++ [x], true) by unfold lst; simp [h], fold_in]
      simp
    · rw [if_neg h, show lst nm f (p, false) x = (p ++ [x], false) by unfold lst; simp [h], lay_ins f r]
      simp
theorem lay_eq (f : α) (l : List α) : lay nm f l = ins nm f l := by
  have := lay_ins nm f l []
  simpa [lay] using this
theorem ins_perm (f : α) : ∀ l : List α, (ins nm f l).Perm (f :: l)
  | [] => List.Perm.refl _
  | x :: r => by
    unfold ins
    split
    · exact List.Perm.refl _
    · exact ((ins_perm f r).cons x).trans (List.Perm.swap ..)
theorem ins_srt (f : α) : ∀ l : List α, Srt nm l → (∀ x ∈ l, nm x ≠ nm f) → Srt nm (ins nm f l)
  | [], _, _ => List.pairwise_singleton ..
  | x :: r, h, hn => by
    have h' := List.pairwise_cons.1 h
    unfold ins
    by_cases c : blt (nm f) (nm x) = true
    · rw [if_pos c]
      refine List.pairwise_cons.2 ⟨fun y hy => ?_, h⟩
      rcases List.mem_cons.1 hy with e | e
      · subst e; exact c
      · exact blt_tr c (h'.1 y e)
    · rw [if_neg c]
      refine List.pairwise_cons.2 ⟨fun y hy => ?_, ins_srt f r h'.2 fun z hz => hn z (List.mem_cons_of_mem _ hz)⟩
      rcases List.mem_cons.1 ((ins_perm nm f r).mem_iff.1 hy) with e | e
      · subst e
        cases d : blt (nm x) (nm y) with
        | true => rfl
        | false => exact absurd (blt_tot d (by simpa using c)) (hn x (List.mem_cons_self ..))
      · exact h'.1 y e
theorem lay_perm (f : α) (l : List α) : (lay nm f l).Perm (f :: l) := by rw [lay_eq]; exact ins_perm nm f l
theorem lay_srt (f : α) (l : List α) (h : Srt nm l) (hn : ∀ x ∈ l, nm x ≠ nm f) : Srt nm (lay nm f l) := by rw [lay_eq]; exact ins_srt nm f l h hn
theorem lay_map {β : Type} (g : α → β) (nb : β → ByteArray) (hg : ∀ a, nb (g a) = nm a) (f : α) : ∀ l : List α, (ins nm f l).map g = ins nb (g f) (l.map g)
  | [] => rfl
  | x :: r => by
    unfold ins
    rw [List.map_cons]
    simp only [hg]
    split
    · rfl
    · rw [List.map_cons, lay_map g nb hg f r]
theorem srt_uniq {l : List α} (h : Srt nm l) : ∀ a ∈ l, ∀ b ∈ l, nm a = nm b → a = b := by
  induction l with
  | nil => intro a ha; cases ha
  | cons x r ih =>
    have h' := List.pairwise_cons.1 h
    intro a ha b hb e
    rcases List.mem_cons.1 ha with e1 | e1 <;> rcases List.mem_cons.1 hb with e2 | e2
    · rw [e1, e2]
    · subst e1; exact absurd e (blt_ne (h'.1 b e2))
    · subst e2; exact absurd e.symm (blt_ne (h'.1 a e1))
    · exact ih h'.2 a e1 b e2 e
theorem srt_filter {l : List α} (h : Srt nm l) (p : α → Bool) : Srt nm (l.filter p) := List.Pairwise.filter p h
theorem srt_map {l : List α} (h : Srt nm l) (g : α → α) (hg : ∀ a ∈ l, nm (g a) = nm a) : Srt nm (l.map g) := by
  induction l with
  | nil => exact List.Pairwise.nil
  | cons x r ih =>
    have h' := List.pairwise_cons.1 h
    rw [List.map_cons]
    refine List.pairwise_cons.2 ⟨fun y hy => ?_, ih h'.2 fun a ha => hg a (List.mem_cons_of_mem _ ha)⟩
    obtain ⟨z, hz, rfl⟩ := List.mem_map.1 hy
    rw [hg x (List.mem_cons_self ..), hg z (List.mem_cons_of_mem _ hz)]
    exact h'.1 z hz
end
/-- The document's disk. -/
structure Rdk where
  fs : List Rf
  k : Nat
  rf : Nat → Bool
def Rdk.no (R : Rdk) : Bool := R.rf (R.k + 1)
def Rdk.tick (R : Rdk) : Rdk := ⟨R.fs, R.k + 1, R.rf⟩
def Rdk.lk (R : Rdk) (s : ByteArray) : Option Rf := R.fs.find? (fun f => decide (f.nm = s))
def rpu (l : List Rf) (s : ByteArray) (f : Rf) : List Rf := l.map fun x => if x.nm = s then f else x
def Rf.more (f : Rf) (o : Ro) : Rf := ⟨f.nm, f.sf, f.ops ++ [o], f.old⟩
def Rdk.app (R : Rdk) (s : ByteArray) (b : List Nat) : Int × Rdk :=
  if R.no then (13, R.tick) else if nmd s = false then (2, R.tick) else
  match R.lk s with
  | some f => if 1048576 < f.cn.length + b.length then (3, R.tick) else (0, ⟨rpu R.fs s (f.more ⟨false, 0, b⟩), R.k + 1, R.rf⟩)
  | none => if 64 ≤ R.fs.length then (8, R.tick) else if 1048576 < b.length then (3, R.tick) else (0, ⟨lay Rf.nm ⟨s, [], [⟨false, 0, b⟩], false⟩ R.fs, R.k + 1, R.rf⟩)
def Rdk.cut (R : Rdk) (s : ByteArray) (c : Int) : Int × Rdk := if R.no then (13, R.tick) else match R.lk s with
  | none => (6, R.tick)
  | some f => if 0 ≤ c ∧ c ≤ f.cn.length then (0, ⟨rpu R.fs s (f.more ⟨true, c.toNat, []⟩), R.k + 1, R.rf⟩) else (2, R.tick)
def Rdk.syn (R : Rdk) (s : ByteArray) : Int × Rdk := if R.no then (13, R.tick) else match R.lk s with
  | none => (6, R.tick)
  | some f => (0, ⟨rpu R.fs s ⟨f.nm, f.cn, [], true⟩, R.k + 1, R.rf⟩)
def rgo (l : List Rf) (s : ByteArray) : List Rf := l.filter fun x => decide (x.nm ≠ s)
def Rdk.ren (R : Rdk) (s t : ByteArray) : Int × Rdk := if R.no then (13, R.tick) else if nmd t = false then (2, R.tick) else match R.lk s with
  | none => (6, R.tick)
  | some f => if f.ops ≠ [] then (10, R.tick) else if s = t then (0, R.tick) else (0, ⟨lay Rf.nm ⟨t, f.sf, f.ops, true⟩ (rgo (rgo R.fs s) t), R.k + 1, R.rf⟩)
def Rdk.rem (R : Rdk) (s : ByteArray) : Int × Rdk := if R.no then (13, R.tick) else match R.lk s with
  | none => (6, R.tick)
  | some _ => (0, ⟨rgo R.fs s, R.k + 1, R.rf⟩)
def Rf.dn (f : Rf) (a : Int) : Nat := min a.toNat f.ops.length
def Rf.tl (f : Rf) (a b : Int) : List Nat := match f.ops[f.dn a]? with | some o => if o.cut = true then [] else o.b.take b.toNat | none => []
def Rf.set (f : Rf) (a b : Int) : Rf := ⟨f.nm, rct f.sf (f.ops.take (f.dn a)) ++ f.tl a b, [], true⟩
def Rf.there (f : Rf) (a b : Int) : Bool := f.old || decide (0 < f.dn a + (f.tl a b).length)
def Rdk.cra (R : Rdk) (K : ByteArray → Int × Int) : Rdk := ⟨(R.fs.filter fun f => f.there (K f.nm).1 (K f.nm).2).map fun f => f.set (K f.nm).1 (K f.nm).2, R.k, R.rf⟩
/-- All contents that a file had. -/
def Rf.fit (f : Rf) : Prop := ∀ i, i ≤ f.ops.length → (rct f.sf (f.ops.take i)).length ≤ 1048576
/-- The document's disk beside the program's. -/
structure Rl (A : Ad) (R : Rdk) : Prop where
  k : A.k = R.k
  rf : A.rf = R.rf
  fs : A.fs.Perm (R.fs.map Rf.ab)
  st : Srt Rf.nm R.fs
  ol : ∀ f ∈ R.fs, f.ops = [] → f.old = true
  ft : ∀ f ∈ R.fs, f.fit
section
variable {A : Ad} {R : Rdk} (h : Rl A R)
include h
theorem Rl.no : A.no = R.no := by unfold Ad.no Rdk.no; rw [h.k, h.rf]
theorem Rl.len : A.fs.length = R.fs.length := by rw [h.fs.length_eq, List.length_map]
theorem Rl.uq : ∀ f ∈ R.fs, ∀ g ∈ R.fs, f.nm = g.nm → f = g := srt_uniq Rf.nm h.st
theorem Rl.lk (s : ByteArray) : A.lk s = (R.lk s).map Rf.ab := by
  unfold Ad.lk Rdk.lk
  cases e : R.fs.find? (fun f => decide (f.nm = s)) with
  | none =>
    have h1 := List.find?_eq_none.1 e
    rw [Option.map_none, List.find?_eq_none]
    intro a ha
    obtain ⟨f, hf, rfl⟩ := List.mem_map.1 (h.fs.mem_iff.1 ha)
    exact h1 f hf
  | some f =>
    have h1 := List.mem_of_find?_eq_some e
    have h2 : f.nm = s := by simpa using List.find?_some e
    cases e2 : A.fs.find? (fun f => decide (f.nm = s)) with
    | none =>
      have h3 := List.find?_eq_none.1 e2 f.ab (h.fs.mem_iff.2 (List.mem_map_of_mem h1))
      exact absurd (decide_eq_true h2) h3
    | some a =>
      have h3 := List.mem_of_find?_eq_some e2
      have h4 : a.nm = s := by simpa using List.find?_some e2
      obtain ⟨g, hg, rfl⟩ := List.mem_map.1 (h.fs.mem_iff.1 h3)
      rw [h.uq f h1 g hg (h2.trans h4.symm)]
      rfl
theorem Rl.tick : Rl A.tick R.tick := ⟨by show A.k + 1 = R.k + 1; rw [h.k], h.rf, h.fs, h.st, h.ol, h.ft⟩
omit h in
theorem Rdk.mem {s : ByteArray} {f : Rf} (e : R.lk s = some f) : f ∈ R.fs ∧ f.nm = s := ⟨List.mem_of_find?_eq_some e, by simpa using List.find?_some e⟩
omit h in
theorem Rdk.not {s : ByteArray} (e : R.lk s = none) : ∀ f ∈ R.fs, f.nm ≠ s := fun f hf => by simpa using List.find?_eq_none.1 e f hf
theorem Rl.put {s : ByteArray} {f : Rf} (hn : f.nm = s) (ho : f.ops = [] → f.old = true) (hf : f.fit) : Rl (A.tick.swap s f.ab) ⟨rpu R.fs s f, R.k + 1, R.rf⟩ := by
  refine ⟨by show A.k + 1 = R.k + 1; rw [h.k], h.rf, ?_, srt_map Rf.nm h.st _ fun a _ => by (show (if a.nm = s then f else a).nm = a.nm); split <;> simp_all, fun g hg => ?_, fun g hg => ?_⟩
  · refine (h.fs.map _).trans ?_
    unfold rpu
    rw [List.map_map, List.map_map]
    refine List.Perm.of_eq (List.map_congr_left fun a _ => ?_)
    show (if a.ab.nm = s then f.ab else a.ab) = (if a.nm = s then f else a).ab
    have : a.ab.nm = a.nm := rfl
    rw [this]
    split <;> rfl
  · obtain ⟨a, ha, rfl⟩ := List.mem_map.1 hg
    split
    · exact ho
    · exact h.ol a ha
  · obtain ⟨a, ha, rfl⟩ := List.mem_map.1 hg
    split
    · exact hf
    · exact h.ft a ha
omit h in
theorem fit_more {f : Rf} (hf : f.fit) (o : Ro) (ho : (rdn f.cn o).length ≤ 1048576) : (f.more o).fit := fun i hi => by
  have hi : i ≤ (f.ops ++ [o]).length := hi
  rw [List.length_append, List.length_singleton] at hi
  show (rct f.sf ((f.ops ++ [o]).take i)).length ≤ _
  by_cases c : i ≤ f.ops.length
  · rw [List.take_append_of_le_length c]
    exact hf i c
  · rw [List.take_of_length_le (by simp; omega), rct_snoc]
    exact ho
omit h in
theorem ab_more (f : Rf) (o : Ro) : (f.more o).ab = f.ab.more (if o.cut = true then o.sz else f.cn.length) (if o.cut = true then [] else o.b) := by
  unfold Rf.more Rf.ab Af.more
  rw [rops_snoc]
  rfl
theorem Rl.app (s : ByteArray) (b : List Nat) : (A.app s b).1 = (R.app s b).1 ∧ Rl (A.app s b).2 (R.app s b).2 := by
  unfold Ad.app Rdk.app
  rw [h.no]
  by_cases c1 : R.no = true
  · rw [if_pos c1, if_pos c1]; exact ⟨rfl, h.tick⟩
  · rw [if_neg c1, if_neg c1]
    by_cases c2 : nmd s = false
    · rw [if_pos c2, if_pos c2]; exact ⟨rfl, h.tick⟩
    · rw [if_neg c2, if_neg c2, h.lk]
      cases e : R.lk s with
      | some f =>
        have hm := Rdk.mem e
        simp only [Option.map_some, Rf.cn_ab]
        by_cases c3 : 1048576 < f.cn.length + b.length
        · rw [if_pos c3, if_pos c3]; exact ⟨rfl, h.tick⟩
        · rw [if_neg c3, if_neg c3]
          refine ⟨rfl, ?_⟩
          have e1 : f.ab.more f.cn.length b = (f.more ⟨false, 0, b⟩).ab := by rw [ab_more]; rfl
          rw [e1]
          exact h.put hm.2 (fun e => by simp [Rf.more] at e) (fit_more (h.ft f hm.1) _ (by simp [rdn]; omega))
      | none =>
        simp only [Option.map_none, h.len]
        by_cases c3 : 64 ≤ R.fs.length
        · rw [if_pos c3, if_pos c3]; exact ⟨rfl, h.tick⟩
        · rw [if_neg c3, if_neg c3]
          by_cases c4 : 1048576 < b.length
          · rw [if_pos c4, if_pos c4]; exact ⟨rfl, h.tick⟩
          · rw [if_neg c4, if_neg c4]
            have hp := lay_perm Rf.nm (⟨s, [], [⟨false, 0, b⟩], false⟩ : Rf) R.fs
            refine ⟨rfl, by show A.k + 1 = R.k + 1; rw [h.k], h.rf, ?_, lay_srt Rf.nm _ _ h.st (Rdk.not e), fun g hg => ?_, fun g hg => ?_⟩
            · refine List.Perm.trans ?_ (hp.map Rf.ab).symm
              rw [List.map_cons]
              exact (List.perm_append_comm (l₂ := [_])).trans (h.fs.cons _)
            · rcases List.mem_cons.1 (hp.mem_iff.1 hg) with e1 | e1
              · subst e1; intro e2; cases e2
              · exact h.ol g e1
            · rcases List.mem_cons.1 (hp.mem_iff.1 hg) with e1 | e1
              · subst e1
                intro i hi
                have hi : i ≤ 1 := hi
                obtain rfl | rfl : i = 0 ∨ i = 1 := by omega
                · exact Nat.zero_le _
                · show (([] : List Nat) ++ b).length ≤ _
                  simp; omega
              · exact h.ft g e1
theorem Rl.cut (s : ByteArray) (c : Int) : (A.cut s c).1 = (R.cut s c).1 ∧ Rl (A.cut s c).2 (R.cut s c).2 := by
  unfold Ad.cut Rdk.cut
  rw [h.no]
  by_cases c1 : R.no = true
  · rw [if_pos c1, if_pos c1]; exact ⟨rfl, h.tick⟩
  · rw [if_neg c1, if_neg c1, h.lk]
    cases e : R.lk s with
    | none => exact ⟨rfl, h.tick⟩
    | some f =>
      have hm := Rdk.mem e
      simp only [Option.map_some, Rf.cn_ab]
      by_cases c3 : 0 ≤ c ∧ c ≤ f.cn.length
      · rw [if_pos c3, if_pos c3]
        refine ⟨rfl, ?_⟩
        have e1 : f.ab.more c.toNat [] = (f.more ⟨true, c.toNat, []⟩).ab := by rw [ab_more]; rfl
        rw [e1]
        have hl : f.cn.length ≤ 1048576 := by
          have := h.ft f hm.1 f.ops.length (Nat.le_refl _)
          rwa [List.take_of_length_le (Nat.le_refl _)] at this
        exact h.put hm.2 (fun e => by simp [Rf.more] at e) (fit_more (h.ft f hm.1) _ (by simp [rdn]; omega))
      · rw [if_neg c3, if_neg c3]; exact ⟨rfl, h.tick⟩
theorem Rl.cnl {f : Rf} (hf : f ∈ R.fs) : f.cn.length ≤ 1048576 := by
  have := h.ft f hf f.ops.length (Nat.le_refl _)
  rwa [List.take_of_length_le (Nat.le_refl _)] at this
theorem Rl.syn (s : ByteArray) : (A.syn s).1 = (R.syn s).1 ∧ Rl (A.syn s).2 (R.syn s).2 := by
  unfold Ad.syn Rdk.syn
  rw [h.no]
  by_cases c1 : R.no = true
  · rw [if_pos c1, if_pos c1]; exact ⟨rfl, h.tick⟩
  · rw [if_neg c1, if_neg c1, h.lk]
    cases e : R.lk s with
    | none => exact ⟨rfl, h.tick⟩
    | some f =>
      have hm := Rdk.mem e
      rw [Option.map_some]
      refine ⟨rfl, ?_⟩
      dsimp only
      rw [Rf.cn_ab]
      exact h.put (f := ⟨f.nm, f.cn, [], true⟩) hm.2 (fun _ => rfl) (fun i _ => by simp [rct]; exact h.cnl hm.1)
/-- Rename, whole. -/
def Ad.rn (A : Ad) (s t : ByteArray) : Int × Ad := if A.no then (13, A.tick) else if nmd t = false then (2, A.tick) else match A.lk s with
  | none => (6, A.tick)
  | some f => if f.ops ≠ [] then (10, A.tick) else (0, A.ren f s t)
def Ad.rm (A : Ad) (s : ByteArray) : Int × Ad := if A.no then (13, A.tick) else match A.lk s with
  | none => (6, A.tick)
  | some _ => (0, ⟨A.k + 1, A.fs.filter (fun g => decide (g.nm ≠ s)), A.rf⟩)
theorem Rl.rem (s : ByteArray) : (A.rm s).1 = (R.rem s).1 ∧ Rl (A.rm s).2 (R.rem s).2 := by
  unfold Ad.rm Rdk.rem
  rw [h.no]
  by_cases c1 : R.no = true
  · rw [if_pos c1, if_pos c1]; exact ⟨rfl, h.tick⟩
  · rw [if_neg c1, if_neg c1, h.lk]
    cases e : R.lk s with
    | none => exact ⟨rfl, h.tick⟩
    | some f =>
      refine ⟨rfl, by show A.k + 1 = R.k + 1; rw [h.k], h.rf, ?_, srt_filter Rf.nm h.st _, fun g hg => h.ol g (List.mem_filter.1 hg).1, fun g hg => h.ft g (List.mem_filter.1 hg).1⟩
      refine (h.fs.filter _).trans (List.Perm.of_eq ?_)
      unfold rgo
      rw [List.filter_map]
      rfl
theorem Rl.ren (s t : ByteArray) : (A.rn s t).1 = (R.ren s t).1 ∧ Rl (A.rn s t).2 (R.ren s t).2 := by
  unfold Ad.rn Rdk.ren
  rw [h.no]
  by_cases c1 : R.no = true
  · rw [if_pos c1, if_pos c1]; exact ⟨rfl, h.tick⟩
  · rw [if_neg c1, if_neg c1]
    by_cases c2 : nmd t = false
    · rw [if_pos c2, if_pos c2]; exact ⟨rfl, h.tick⟩
    · rw [if_neg c2, if_neg c2, h.lk]
      cases e : R.lk s with
      | none => exact ⟨rfl, h.tick⟩
      | some f =>
        have hm := Rdk.mem e
        simp only [Option.map_some]
        by_cases c3 : f.ops = []
        · have c4 : f.ab.ops = [] := by show rops f.sf f.ops = []; rw [c3]; rfl
          have c5 := h.ol f hm.1 c3
          rw [if_neg (fun x => x c4), if_neg (fun x => x c3)]
          have eab : (⟨t, f.ab.sf, f.ab.ops, f.ab.fr⟩ : Af) = (⟨t, f.sf, f.ops, true⟩ : Rf).ab := by
            unfold Rf.ab
            rw [c5]
          by_cases c6 : s = t
          · subst c6
            rw [if_pos rfl]
            refine ⟨rfl, by show A.k + 1 = R.k + 1; rw [h.k], h.rf, ?_, h.st, h.ol, h.ft⟩
            unfold Ad.ren
            show (A.fs.filter _ ++ [_]).Perm (R.fs.map Rf.ab)
            rw [eab, show (⟨s, f.sf, f.ops, true⟩ : Rf) = f by rw [← c5, ← hm.2]]
            refine List.Perm.trans (List.perm_append_comm (l₂ := [_])) ?_
            have h1 : (A.fs.filter fun g => decide (g.nm ≠ s ∧ g.nm ≠ s)).Perm ((R.fs.filter fun g => decide (g.nm ≠ s)).map Rf.ab) := by
              refine (h.fs.filter _).trans (List.Perm.of_eq ?_)
              rw [List.filter_map]
              congr 1
              refine List.filter_congr fun x _ => ?_
              show decide (x.nm ≠ s ∧ x.nm ≠ s) = _
              simp
            refine (h1.cons _).trans ?_
            show (List.map Rf.ab (f :: R.fs.filter _)).Perm _
            refine List.Perm.map _ ?_
            have h2 := List.filter_append_perm (fun g => decide (g.nm ≠ s)) R.fs
            refine List.Perm.trans ?_ h2
            have h3 : (R.fs.filter fun g => !decide (g.nm ≠ s)) = [f] := by
              have hp : ∀ l : List Rf, Srt Rf.nm l → f ∈ l → (l.filter fun g => !decide (g.nm ≠ s)) = [f] := by
                intro l
                induction l with
                | nil => intro _ hx; cases hx
                | cons x r ih =>
                  intro hs hx
                  have hs' := List.pairwise_cons.1 hs
                  rcases List.mem_cons.1 hx with e1 | e1
                  · subst e1
                    rw [List.filter_cons, if_pos (by simp [hm.2])]
                    congr 1
                    rw [List.filter_eq_nil_iff]
                    intro y hy
                    have := blt_ne (hs'.1 y hy)
                    rw [hm.2] at this
                    simp
                    exact fun e => this e.symm
                  · rw [List.filter_cons, if_neg, ih hs'.2 e1]
                    have := blt_ne (hs'.1 f e1)
                    rw [hm.2] at this
                    simpa using this
              exact hp _ h.st hm.1
            rw [h3]
            exact (List.perm_append_comm (l₂ := [f])).symm
          · rw [if_neg c6]
            have hp := lay_perm Rf.nm (⟨t, f.sf, f.ops, true⟩ : Rf) (rgo (rgo R.fs s) t)
            have hff : rgo (rgo R.fs s) t = R.fs.filter fun g => decide (g.nm ≠ s ∧ g.nm ≠ t) := by
              unfold rgo
              rw [List.filter_filter]
              refine List.filter_congr fun x _ => ?_
              by_cases c7 : x.nm = s <;> by_cases c8 : x.nm = t <;> simp [c7, c8]
            refine ⟨rfl, by show A.k + 1 = R.k + 1; rw [h.k], h.rf, ?_, lay_srt Rf.nm _ _ (srt_filter Rf.nm (srt_filter Rf.nm h.st _) _) (fun x hx => by simpa using (List.mem_filter.1 hx).2), fun g hg => ?_, fun g hg => ?_⟩
            · refine List.Perm.trans ?_ (hp.map Rf.ab).symm
              rw [List.map_cons]
              show (A.fs.filter _ ++ [_]).Perm _
              rw [eab]
              refine (List.perm_append_comm (l₂ := [_])).trans (List.Perm.cons _ ?_)
              rw [hff]
              refine (h.fs.filter _).trans (List.Perm.of_eq ?_)
              rw [List.filter_map]
              rfl
            · rcases List.mem_cons.1 (hp.mem_iff.1 hg) with e1 | e1
              · subst e1; intro _; rfl
              · rw [hff] at e1
                exact h.ol g (List.mem_filter.1 e1).1
            · rcases List.mem_cons.1 (hp.mem_iff.1 hg) with e1 | e1
              · subst e1
                exact fun i hi => h.ft f hm.1 i hi
              · rw [hff] at e1
                exact h.ft g (List.mem_filter.1 e1).1
        · have c4 : f.ab.ops ≠ [] := fun e => c3 (List.eq_nil_of_length_eq_zero (by rw [← rops_len f.ops f.sf]; exact congrArg List.length e))
          rw [if_pos c4, if_pos c3]
          exact ⟨rfl, h.tick⟩
omit h in
theorem dn_ab (f : Rf) (a : Int) : f.ab.dn a = f.dn a := by unfold Af.dn Rf.dn; rw [Rf.len_ab]
omit h in
theorem tl_ab (f : Rf) (a b : Int) : f.ab.tl a b = f.tl a b := by
  unfold Af.tl Rf.tl
  rw [dn_ab]
  have := rops_at f.ops f.sf (f.dn a)
  show (match (rops f.sf f.ops)[f.dn a]? with | some o => o.2.take b.toNat | none => []) = _
  cases e : f.ops[f.dn a]? with
  | none =>
    rw [e] at this
    cases e2 : (rops f.sf f.ops)[f.dn a]? with
    | none => rfl
    | some x => rw [e2] at this; cases this
  | some o =>
    rw [e] at this
    cases e2 : (rops f.sf f.ops)[f.dn a]? with
    | none => rw [e2] at this; cases this
    | some x =>
      rw [e2] at this
      have := Option.some.inj this
      dsimp only at this ⊢
      rw [this]
      by_cases c : o.cut = true
      · rw [if_pos c, if_pos c]; simp
      · rw [if_neg c, if_neg c]
omit h in
theorem set_ab (f : Rf) (a b : Int) : f.ab.set a b = (f.set a b).ab := by
  unfold Af.set Rf.set
  rw [tl_ab, dn_ab]
  show (⟨_, ctn f.sf ((rops f.sf f.ops).take _) ++ _, _, _⟩ : Af) = _
  rw [rops_take, ctn_rops]
  rfl
omit h in
theorem there_ab (f : Rf) (a b : Int) : f.ab.there a b = f.there a b := by
  unfold Af.there Rf.there
  rw [tl_ab, dn_ab]
  show (!!f.old || _) = _
  rw [Bool.not_not]
theorem Rl.cra (K : ByteArray → Int × Int) : Rl ⟨A.k, (A.fs.filter fun f => f.there (K f.nm).1 (K f.nm).2).map fun f => f.set (K f.nm).1 (K f.nm).2, A.rf⟩ (R.cra K) := by
  refine ⟨h.k, h.rf, ?_, srt_map Rf.nm (srt_filter Rf.nm h.st _) _ fun _ _ => rfl, fun g hg => ?_, fun g hg => ?_⟩
  · refine ((h.fs.filter _).map _).trans (List.Perm.of_eq ?_)
    rw [List.filter_map, List.map_map]
    show _ = List.map Rf.ab (List.map _ _)
    rw [List.map_map]
    have e1 : (R.fs.filter ((fun f : Af => f.there (K f.nm).1 (K f.nm).2) ∘ Rf.ab)) = R.fs.filter fun f => f.there (K f.nm).1 (K f.nm).2 := List.filter_congr fun x _ => there_ab x _ _
    rw [e1]
    exact List.map_congr_left fun x _ => set_ab x _ _
  · obtain ⟨a, ha, rfl⟩ := List.mem_map.1 hg
    intro _; rfl
  · obtain ⟨a, ha, rfl⟩ := List.mem_map.1 hg
    have ha := (List.mem_filter.1 ha).1
    intro i hi
    have hi : i ≤ 0 := hi
    obtain rfl : i = 0 := by omega
    show (rct a.sf (a.ops.take (a.dn _)) ++ a.tl _ _).length ≤ _
    generalize (K a.nm).1 = x
    generalize (K a.nm).2 = y
    have hd : a.dn x ≤ a.ops.length := Nat.min_le_right _ _
    unfold Rf.tl
    cases e : a.ops[a.dn x]? with
    | none => simpa using h.ft a ha _ hd
    | some o =>
      dsimp only
      by_cases c : o.cut = true
      · rw [if_pos c]
        simpa using h.ft a ha _ hd
      · rw [if_neg c]
        have hlt : a.dn x < a.ops.length := (List.getElem?_eq_some_iff.1 e).1
        have h1 := h.ft a ha (a.dn x + 1) hlt
        rw [List.take_add_one, e, Option.toList_some, rct_snoc] at h1
        unfold rdn at h1
        rw [if_neg c, List.length_append] at h1
        rw [List.length_append, List.length_take]
        omega
end
end Wi
end Rg
end Go.Proofs.Ytidicdlfjdlpnaa
end
section
namespace Go.Proofs.Ytidicdlfjdlpnaa
open Go.RowKit
namespace Rg
namespace Wi
set_option maxRecDepth 100000
theorem info_ro : ∃ i z, Try.prog.info? 152 = some i ∧ i.zero = some z ∧ i.size = 3 ∧ i.bytes = 40 ∧ z.cells.size = 3 := by
  have h : (Try.prog.info? 152).map (fun i => (i.size, i.bytes, i.zero.map (fun z => z.cells.size))) = some (3, 40, some 3) := by kernel_rfl
  cases hi : Try.prog.info? 152 with
  | none => rw [hi] at h; simp at h
  | some i =>
    rw [hi] at h
    simp only [Option.map_some, Option.some.injEq, Prod.mk.injEq] at h
    obtain ⟨h1, h2, h3⟩ := h
    cases hz : i.zero with
    | none => rw [hz] at h3; simp at h3
    | some z =>
      rw [hz] at h3
      simp only [Option.map_some, Option.some.injEq] at h3
      exact ⟨i, z, rfl, hz, h1, h2, h3⟩
theorem info_rf : ∃ i z, Try.prog.info? 148 = some i ∧ i.zero = some z ∧ i.size = 4 ∧ i.bytes = 72 ∧ z.cells.size = 4 := by
  have h : (Try.prog.info? 148).map (fun i => (i.size, i.bytes, i.zero.map (fun z => z.cells.size))) = some (4, 72, some 4) := by kernel_rfl
  cases hi : Try.prog.info? 148 with
  | none => rw [hi] at h; simp at h
  | some i =>
    rw [hi] at h
    simp only [Option.map_some, Option.some.injEq, Prod.mk.injEq] at h
    obtain ⟨h1, h2, h3⟩ := h
    cases hz : i.zero with
    | none => rw [hz] at h3; simp at h3
    | some z =>
      rw [hz] at h3
      simp only [Option.map_some, Option.some.injEq] at h3
      exact ⟨i, z, rfl, hz, h1, h2, h3⟩
/-- An operation and a file of the document's disk, in memory. -/
structure Mo where
  cut : Bool
  sz : Nat
  q : Pt8
structure Mf where
  nm : ByteArray
  q : Pt8
  ov : Value
  ops : List Mo
  old : Bool
def Mo.c (o : Mo) : List Value := [.bool o.cut, .int .i64 (o.sz : Int), .slice o.q.p o.q.n o.q.cp]
def Mf.c (f : Mf) : List Value := [.string f.nm, .slice f.q.p f.q.n f.q.cp, f.ov, .bool f.old]
def Mo.ro (o : Mo) : Ro := ⟨o.cut, o.sz, bs o.q.n o.q.f⟩
def Mf.rf (f : Mf) : Rf := ⟨f.nm, bs f.q.n f.q.f, f.ops.map Mo.ro, f.old⟩
theorem Mo.one (o : Mo) : ∀ x ∈ o.c, x.oneCell' = true := fun x hx => by
  simp [Mo.c] at hx
  rcases hx with rfl | rfl | rfl <;> rfl
theorem Mf.one (f : Mf) (h : ∃ p n c, f.ov = .slice p n c) : ∀ x ∈ f.c, x.oneCell' = true := fun x hx => by
  obtain ⟨p, n, c, h⟩ := h
  simp [Mf.c, h] at hx
  rcases hx with rfl | rfl | rfl | rfl <;> rfl
section
variable {α : Type} (g : α → List Value) (k : Nat) (hg : ∀ a, (g a).length = k)
include hg
theorem fm_len : ∀ l : List α, (l.flatMap g).length = l.length * k
  | [] => by simp
  | a :: r => by rw [List.flatMap_cons, List.length_append, hg, fm_len r, List.length_cons, Nat.succ_mul]; omega
theorem fm_at : ∀ (l : List α) (i j : Nat) (a : α), j < k → l[i]? = some a → (l.flatMap g)[i * k + j]? = (g a)[j]?
  | [], i, j, a, _, h => by simp at h
  | b :: r, 0, j, a, hj, h => by
    simp at h
    subst h
    rw [List.flatMap_cons, Nat.zero_mul, Nat.zero_add, List.getElem?_append_left (by rw [hg]; exact hj)]
  | b :: r, i + 1, j, a, hj, h => by
    have h : r[i]? = some a := by simpa using h
    rw [List.flatMap_cons, List.getElem?_append_right (by rw [hg, Nat.succ_mul]; omega), hg, show (i + 1) * k + j - k = i * k + j by rw [Nat.succ_mul]; omega]
    exact fm_at r i j a hj h
theorem row_at {u : World} {B T e n cp : Nat} {l : List α} (h : u.ownsRow B T k (.slice (some ⟨e, 0, none⟩) n cp) n (l.flatMap g)) {i j : Nat} {a : α} (hj : j < k) (ha : l[i]? = some a) : u.cell? ⟨e, i * k + j, none⟩ = (g a)[j]? := by
  have h1 := h.1
  have h2 := fm_len g k hg l
  have h3 := (List.getElem?_eq_some_iff.1 ha).1
  have h4 : (i + 1) * k ≤ l.length * k := Nat.mul_le_mul_right k h3
  rw [Nat.succ_mul] at h4
  rw [h.cellAt (i * k + j) (by omega), fm_at g k hg l i j a hj ha]
end
theorem Mo.len (o : Mo) : o.c.length = 3 := rfl
theorem Mf.len (f : Mf) : f.c.length = 4 := rfl
theorem own_apF {w : World} {v : Value} {fs : List Mf} (h : w.ownsRow 0 148 4 v fs.length (fs.flatMap Mf.c)) (f : Mf) (hf : ∃ p n c, f.ov = .slice p n c) {g c : Nat} (hc : ∀ j x, f.c[j]? = some x → w.cell? ⟨g, j, none⟩ = some x) (hb : fs.length ≤ 1000000) (ty : TypeId) :
    ∃ v' w2, (Builtin.append_ #[101, 101] ty #[v, .slice (some ⟨g, 0, none⟩) 1 c]).run Try.prog w = .ok v' w2 ∧ w2.ownsRow 0 148 4 v' (fs ++ [f]).length ((fs ++ [f]).flatMap Mf.c) ∧ w.grownBy w2 v.ownBlock ∧ (v'.ownBlock = v.ownBlock ∨ v'.ownBlock = some w.heap.size) := by
  obtain ⟨i0, z0, hi, hz0, hz1, hz2, hz3⟩ := info_rf
  obtain ⟨v', w2, h1, h2, h3, _, h5⟩ := run_append_own_at (P := Try.prog) w 0 101 ty 148 i0 z0 4 72 Try.underlying101 hi hz0 hz1 hz2 hz3 (by decide) v _ _ h ⟨g, 0, none⟩ 1 c f.c rfl (fun j x hj => by
    rw [show (⟨g, 0, none⟩ : Addr).add j = ⟨g, j, none⟩ by unfold Addr.add; split <;> simp_all]
    exact hc j x hj) (f.one hf) (by unfold maxLen; omega) (by omega) (Nat.zero_le _)
  refine ⟨v', w2, h1, ?_, h3, h5⟩
  rw [List.length_append, List.flatMap_append, List.flatMap_singleton]
  exact h2
/-- Bytes that can be read, in blocks of L. -/
def Pl8 (L : List Nat) (q : Pt8) (u : World) : Prop := Pq q u ∧ ∀ x ∈ gbl q, x ∈ L
structure Mf.ok (L : List Nat) (u : World) (f : Mf) : Prop where
  q : Pl8 L f.q u
  ow : u.ownsRow 0 152 3 f.ov f.ops.length (f.ops.flatMap Mo.c)
  ob : ∀ x ∈ vbl f.ov, x ∈ L
  op : ∀ o ∈ f.ops, Pl8 L o.q u
section
variable {L L' : List Nat} {u u' : World} {q : Pt8} {f : Mf}
theorem Pl8.kx (h : Pl8 L q u) (hk : Kx L u u') : Pl8 L q u' := ⟨h.1.kx hk h.2, h.2⟩
theorem Pl8.mono (h : Pl8 L q u) (hs : ∀ x ∈ L, x ∈ L') : Pl8 L' q u := ⟨h.1, fun x hx => hs x (h.2 x hx)⟩
theorem Mf.ok.kx (h : f.ok L u) (hk : Kx L u u') : f.ok L u' := ⟨h.q.kx hk, own_keep h.ow fun b hb => hk.2 b (h.ob b hb), h.ob, fun o ho => (h.op o ho).kx hk⟩
theorem Mf.ok.mono (h : f.ok L u) (hs : ∀ x ∈ L, x ∈ L') : f.ok L' u := ⟨h.q.mono hs, h.ow, fun x hx => hs x (h.ob x hx), fun o ho => (h.op o ho).mono hs⟩
theorem Mf.ok.sl (h : f.ok L u) : ∃ p n c, f.ov = .slice p n c := by
  obtain ⟨p, c, e, _⟩ := own_slice h.ow
  exact ⟨p, _, c, e⟩
end
/-- The document's disk in memory. -/
structure Dx where
  m : Nat
  v : Value
  rp : Option Addr
  rg : Nat
  rc : Nat
  n : Nat
  F : Nat → Int
  fs : List Mf
  k : Nat
  L : List Nat
def Dx.bl (X : Dx) : List Nat := X.m :: (vbl X.v ++ X.L)
def Dx.rd (X : Dx) : Rdk := ⟨X.fs.map Mf.rf, X.k, rff X.F X.n⟩
structure Dxo (w0 : World) (X : Dx) (u : World) : Prop where
  c0 : u.cell? ⟨X.m, 0, none⟩ = some X.v
  c1 : u.cell? ⟨X.m, 1, none⟩ = some (.slice X.rp X.n X.rc)
  c2 : u.cell? ⟨X.m, 2, none⟩ = some (.int .i64 (X.k : Int))
  fz : ∀ k, u.frozen? ⟨X.m, k, none⟩ = false
  row : u.ownsRow 0 148 4 X.v X.fs.length (X.fs.flatMap Mf.c)
  ok : ∀ f ∈ X.fs, f.ok X.L u
  rp : 0 < X.n → X.rp = some ⟨X.rg, 0, none⟩ ∧ X.rg ∈ X.L
  rr : ∀ i, i < X.n → u.cell? ⟨X.rg, i, none⟩ = some (.int .i64 (X.F i))
  lo : ∀ x ∈ X.bl, w0.heap.size ≤ x
  lt : ∀ x ∈ X.bl, x < u.heap.size
  m1 : X.m ∉ vbl X.v
  m2 : X.m ∉ X.L
  vL : ∀ x ∈ vbl X.v, x ∉ X.L
section
variable {w0 u u' : World} {X X' : Dx}
theorem Dxo.kx (h : Dxo w0 X u) (hk : Kx X.bl u u') : Dxo w0 X u' := by
  have hm := hk.2 X.m (List.mem_cons_self ..)
  have hL : Kx X.L u u' := hk.sub fun x hx => List.mem_cons_of_mem _ (List.mem_append_right _ hx)
  refine ⟨(World.cell?_of_block hm).trans h.c0, (World.cell?_of_block hm).trans h.c1, (World.cell?_of_block hm).trans h.c2, fun k => (World.frozen?_of_block hm).trans (h.fz k), own_keep h.row fun b hb => hk.2 b (List.mem_cons_of_mem _ (List.mem_append_left _ hb)), fun f hf => (h.ok f hf).kx hL, h.rp, fun i hi => ?_, h.lo, fun x hx => Nat.lt_of_lt_of_le (h.lt x hx) hk.1, h.m1, h.m2, h.vL⟩
  exact (World.cell?_of_block (a := ⟨X.rg, i, none⟩) (hL.2 _ (h.rp (by omega)).2)).trans (h.rr i hi)
theorem Dxo.below (h : Dxo w0 X u) (hb : Below u.heap.size u u') : Dxo w0 X u' := h.kx ⟨hb.size, fun x hx => hb.block x (h.lt x hx)⟩
/-- What a call makes of the document's disk. -/
def Dxw (w0 u : World) (X X' : Dx) (u' : World) : Prop := Dxo w0 X' u' ∧ Chg X.bl u u' ∧ ∀ x ∈ X'.bl, x ∈ X.bl ∨ u.heap.size ≤ x
theorem Dxw.refl (h : Dxo w0 X u) : Dxw w0 u X X u := ⟨h, Chg.refl _ _, fun _ hx => .inl hx⟩
theorem Dxw.trans {X2 : Dx} {u2 : World} (h : Dxw w0 u X X' u') (k : Dxw w0 u' X' X2 u2) : Dxw w0 u X X2 u2 :=
  ⟨k.1, h.2.1.trans k.2.1 h.2.2, fun x hx => (k.2.2 x hx).elim (h.2.2 x) fun e => .inr (Nat.le_trans h.2.1.size e)⟩
theorem Dxw.below {u2 : World} (h : Dxw w0 u X X' u') (hb : Below u'.heap.size u' u2) : Dxw w0 u X X' u2 := ⟨h.1.below hb, h.2.1.below hb, h.2.2⟩
theorem Dxw.of (h : Dxo w0 X u) (hb : Below u.heap.size u u') : Dxw w0 u X X u' := (Dxw.refl h).below hb
/-- The count goes up. -/
def Dx.up (X : Dx) : Dx := ⟨X.m, X.v, X.rp, X.rg, X.rc, X.n, X.F, X.fs, X.k + 1, X.L⟩
theorem Dxo.up (h : Dxo w0 X u) : Dxw w0 u X X.up (u.setCell ⟨X.m, 2, none⟩ (.int .i64 ((X.k : Int) + 1))) := by
  have hc : Chg [X.m] u (u.setCell ⟨X.m, 2, none⟩ (.int .i64 ((X.k : Int) + 1))) := ⟨rfl, rfl, rfl, by simp, fun k _ hk => heap_setCell_other u ⟨X.m, 2, none⟩ k _ (fun e => hk (by simp [e]))⟩
  have hx : ∀ x ∈ vbl X.v ++ X.L, (u.setCell ⟨X.m, 2, none⟩ (.int .i64 ((X.k : Int) + 1))).heap[x]? = u.heap[x]? := fun x hx => hc.block x (h.lt x (List.mem_cons_of_mem _ hx)) (fun e => by
    rw [List.mem_singleton.1 e] at hx
    rcases List.mem_append.1 hx with e | e
    · exact h.m1 e
    · exact h.m2 e)
  have hL : Kx X.L u (u.setCell ⟨X.m, 2, none⟩ (.int .i64 ((X.k : Int) + 1))) := ⟨hc.size, fun x e => hx x (List.mem_append_right _ e)⟩
  refine ⟨⟨?_, ?_, ?_, fun k => ?_, own_keep h.row fun b hb => hx b (List.mem_append_left _ hb), fun f hf => (h.ok f hf).kx hL, h.rp, fun i hi => ?_, h.lo, fun x hx => Nat.lt_of_lt_of_le (h.lt x hx) hc.size, h.m1, h.m2, h.vL⟩, hc.mono fun x hx => .inl (by rw [List.mem_singleton.1 hx]; exact List.mem_cons_self ..), fun _ hx => .inl hx⟩
  · exact (World.cell?_setCell_other _ _ _ _ (by simp)).trans h.c0
  · exact (World.cell?_setCell_other _ _ _ _ (by simp)).trans h.c1
  · refine (World.cell?_setCell_same _ _ _ h.c2).trans ?_
    show some (Value.int .i64 ((X.k : Int) + 1)) = some (.int .i64 ((X.k + 1 : Nat) : Int))
    rfl
  · rw [World.frozen?_setCell]
    exact h.fz k
  · exact (World.cell?_of_block (a := ⟨X.rg, i, none⟩) (hL.2 _ (h.rp (Nat.lt_of_le_of_lt (Nat.zero_le _) hi)).2)).trans (h.rr i hi)
end
end Wi
end Rg
end Go.Proofs.Ytidicdlfjdlpnaa
end
section
namespace Go.Proofs.Ytidicdlfjdlpnaa
open Go.RowKit
namespace Rg
namespace Wi
set_option maxRecDepth 100000
theorem wpl_app {P : Program} {w u : World} {ops : Array Oper} {rest : List Oper} {o : Oper} {a : Act} {Q : Exit → Act → World → Prop} (hgd : o.guard = none) (s x : Operand) (t : TypeId)
    (ho : o.op = .call { callee := .builtin .append, args := #[s, x], argTypes := #[t, t] }) (v y v' : Value) (hs : a.eval s = v) (hx : a.eval x = y)
    (hr : (Builtin.append_ #[t, t] o.type #[v, y]).run P w = .ok v' u) (h : wpList P ops Q rest (a.put o.dst v') u) : wpList P ops Q (o :: rest) a w :=
  wpList_plain hgd fun _ hK => by
    unfold Oper.wp execOp
    simp only [ho, resolve, invoke, builtin, Sem.run_bind, Sem.run_pure, Result.andThen_ok, List.map_toArray, List.map_cons, List.map_nil, hs, hx, hr]
    exact hK _ _ h
/-- A byte's cell. -/
def Is8 (x : Value) : Prop := ∃ z : Nat, x = Z8 z
theorem ints_is8 (f : Nat → Nat) (n : Nat) : ∀ x ∈ ints .u8 f n, Is8 x := fun x hx => by
  unfold ints at hx
  obtain ⟨j, _, rfl⟩ := List.mem_map.1 hx
  exact ⟨_, rfl⟩
abbrev Rm8 (w : World) (v : Value) : Prop := Rmt 5 Is8 w v
theorem own_app8 {w1 : World} {B n : Nat} {vv : Value} {P : Nat → Nat} (h : w1.ownsRow B 5 1 vv n (ints .u8 P n)) (hr8 : Rm8 w1 vv) (hB : B ≤ w1.heap.size) {q : Pt8} (hq : Pok q) (hN : q.p = none → q.cp = 0) (hR : q.rs w1) (hb : n + q.n ≤ 2097152) (ty : TypeId) :
    ∃ v' w2, (Builtin.append_ #[34, 34] ty #[vv, .slice q.p q.n q.cp]).run Try.prog w1 = .ok v' w2 ∧ w2.ownsRow B 5 1 v' (n + q.n) (ints .u8 (ct P n q.f) (n + q.n)) ∧ w1.grownBy w2 vv.ownBlock ∧ (v'.ownBlock = vv.ownBlock ∨ v'.ownBlock = some w1.heap.size) ∧ Rm8 w2 v' := by
  obtain ⟨gb, o, m, cp, p, f⟩ := q
  obtain ⟨hB', hle⟩ := hq
  simp only [Pt8.rs] at hB' hN hR hb hle ⊢
  obtain ⟨i0, hi, hz0, hz1, hz2⟩ := info_byte
  cases p with
  | none =>
    have hn : m = 0 := by
      rcases Nat.eq_zero_or_pos m with e | e
      · exact e
      · have := hB'.1 e
        simp at this
    have hc := hN rfl
    subst hn hc
    exact ⟨vv, w1, run_append_owned_none (P := Try.prog) (w := w1) B 34 ty 5 i0 1 Try.underlying34 hi vv n _ h, own_cg h (fun j hj => by unfold ct; rw [if_pos (show j < n from hj)]), ⟨rfl, rfl, rfl, Nat.le_refl _, fun _ _ _ => rfl⟩, .inl rfl, hr8⟩
  | some a =>
    have hr : ∀ j, j < m → w1.cell? (a.add j) = some (Z8 (f j)) := fun j hj => by
      have e := hB'.1 (by omega)
      injection e with e1
      injection e1 with e1
      rw [e1]
      exact hR.add j hj
    obtain ⟨v', w2, h1, h2, h3, h5, h6⟩ := app_room (P := Try.prog) (G := Is8) w1 B 34 ty 5 i0 (.int .u8 0) 1 1 Try.underlying34 hi hz0 hz1 hz2 rfl (by decide) (fun x hx => ⟨0, by simp [Value.cells] at hx; exact hx⟩) vv n _ h hr8 a m cp (ints .u8 f m) (by rw [ints_len]; omega)
      (fun j u hj => by
        have hjm : j < m := by
          have := (List.getElem?_eq_some_iff.1 hj).1
          rwa [ints_len] at this
        rw [ints_get _ _ hjm] at hj
        rw [hr j hjm]
        exact hj) (List.all_eq_true.1 (ints_all _ _ _)) (ints_is8 _ _) (by unfold maxLen; omega) (by omega) hB
    rw [ints_cat] at h2
    exact ⟨v', w2, h1, h2, h3, h5, h6⟩
/-- A row of the call's own, its room bytes too. -/
structure Cr (w : World) (v : Value) (n : Nat) (P : Nat → Nat) (w' : World) : Prop where
  cw : Cw w v n P w'
  rm : Rm8 w' v
theorem Cr.step {w w1 w2 : World} {v : Value} {n : Nat} {P : Nat → Nat} (h : Cr w v n P w1) (hb : Below w1.heap.size w1 w2) : Cr w v n P w2 :=
  ⟨h.cw.step hb, h.rm.keep fun b hm => hb.block b (own_lt h.cw.own b hm)⟩
theorem Cr.cg {w w1 : World} {v : Value} {n : Nat} {P P2 : Nat → Nat} (h : Cr w v n P w1) (e : ∀ j, j < n → P j = P2 j) : Cr w v n P2 w1 := ⟨h.cw.cg e, h.rm⟩
/-- The empty row that a literal makes. -/
theorem Cr.lit (w : World) : Cr w (.slice (some ⟨w.heap.size, 0, none⟩) 0 0) 0 (fun _ => 0) (w.alloc (.cells #[] 5)) :=
  ⟨⟨(Below.refl _ _).alloc (Nat.le_refl _) _, World.ownsRow_made _ _ 0 (Nat.le_refl _) (by decide) rfl⟩, fun g hg => by
    injection hg with hg
    subst hg
    exact ⟨_, World.alloc_heap_new w _, fun x hx => by simp at hx⟩⟩
/-- A part is put behind a row of one's own. -/
theorem Cr.app {w u : World} {v : Value} {n : Nat} {P : Nat → Nat} (h : Cr w v n P u) {q : Pt8} (hq : Pq q u) (hb : n + q.n ≤ 2097152) (ty : TypeId) :
    ∃ v' u2, (Builtin.append_ #[34, 34] ty #[v, .slice q.p q.n q.cp]).run Try.prog u = .ok v' u2 ∧ Cr w v' (n + q.n) (ct P n q.f) u2 := by
  obtain ⟨v', u2, h1, h2, h3, h4, h5⟩ := own_app8 h.cw.own h.rm h.cw.size hq.1 hq.2.1 hq.2.2 hb ty
  exact ⟨v', u2, h1, h.cw.on (Chg.grown h3) h2, h5⟩
/-- A row of one's own as a part. -/
theorem Cr.part {w u : World} {v : Value} {n : Nat} {P : Nat → Nat} (h : Cr w v n P u) : ∃ q : Pt8, v = .slice q.p q.n q.cp ∧ Pq q u ∧ q.n = n ∧ q.f = P ∧ ∀ x ∈ gbl q, w.heap.size ≤ x ∧ x < u.heap.size := by
  obtain ⟨q, e, q1, q2, q3, q4, q5, q6⟩ := own_part h.cw.own
  refine ⟨q, e, ⟨q1, q2, q5⟩, q3, q4, fun x hx => ?_⟩
  unfold gbl at hx
  split at hx
  · cases hx
  · obtain rfl := List.mem_singleton.1 hx
    have := World.ownsRow.lt h.cw.own _ (q6 (by omega))
    exact this
set_option maxHeartbeats 1000000 in
/-- A copy of one's own: append([]byte{}, q...). -/
theorem copy_r {u : World} {q : Pt8} (hq : Pq q u) (hb : q.n ≤ 2097152) (ty : TypeId) : ∃ v' u2, (Builtin.append_ #[34, 34] ty #[.slice (some ⟨u.heap.size, 0, none⟩) 0 0, .slice q.p q.n q.cp]).run Try.prog (u.alloc (.cells #[] 5)) = .ok v' u2 ∧ Cr u v' q.n q.f u2 := by
  obtain ⟨v', u2, h1, h2⟩ := (Cr.lit u).app (hq.below ((Below.refl _ u).alloc (Nat.le_refl _) _)) (by omega) ty
  refine ⟨v', u2, h1, ?_⟩
  have h3 := h2.cg (P2 := q.f) fun j _ => ct_zero _ _ _
  rwa [Nat.zero_add] at h3
end Wi
end Rg
end Go.Proofs.Ytidicdlfjdlpnaa
end
section
namespace Go.Proofs.Ytidicdlfjdlpnaa
open Go.RowKit
namespace Rg
set_option maxRecDepth 100000
/-- What an operation of the chain tells, and what holds of the memory behind it. -/
def EffOk (P : Program) (F : Act) (o : Oper) (v : Value) (I I' : World → Prop) : Prop := ∀ w, I w → (∃ w', (execOp F.eval o).run P w = .ok (.value v) w' ∧ I' w') ∨ ∃ f args, (execOp F.eval o).run P w = .ok (.enter f args) w ∧ Calls P f args w fun e w' => e = .returned v ∧ I' w'
/-- A chain of operations that change the memory, among others that only tell; the values are known ahead, of the memory what Is says. -/
structure Det (P : Program) (ops : Array Oper) (F : Act) (p m : Nat) (e : Nat → Nat) (Is : Nat → World → Prop) (val : Nat → Value) : Prop where
  guard : ∀ (i : Nat) (o : Oper), ops[i]? = some o → Region.wanted o (yielded ops F.tmps) = true
  gp : ∀ (i : Nat) (o : Oper) (g : Nat) (b : Bool), ops[i]? = some o → o.guard = some (g, b) → g < p
  lt : ∀ j, j < m → e j < p
  inj : ∀ i j, i < m → j < m → e i = e j → i = j
  quiet : ∀ (i : Nat) (o : Oper), ops[i]? = some o → (∀ j, j < m → e j ≠ i) → ∀ c, c ≤ m → ∀ w, Is c w → (execOp F.eval o).run P w = .ok (.value (val i)) w
  eff : ∀ (j : Nat) (o : Oper), j < m → ops[e j]? = some o → EffOk P F o (val (e j)) (Is j) (Is (j + 1))
section
variable {P : Program} {ops : Array Oper} {ks : List Kind} {a₀ : Act} {Q : Exit → Act → World → Prop}
theorem first_det {full : Array Oper} {n p m : Nat} {e : Nat → Nat} {Is : Nat → World → Prop} {val : Nat → Value} (hO : Orderly ops ks n) (hn : n = a₀.tmps.size)
    (hp : ops.size = p) (hpf : p ≤ full.size) (hfull : ∀ i, i < p → full[i]? = ops[i]?)
    (hup : ∀ {i : Nat} {o : Oper}, full[i]? = some o → ∀ e ∈ o.after, Region.binds .any e = true → e.on < i)
    (hwt : ∀ {i : Nat} {o : Oper}, full[i]? = some o → p ≤ i → ∀ j, j < i → waitsQ full 6 o j = true)
    (hch : ∀ (j : Nat) (o : Oper), j + 1 < m → full[e (j + 1)]? = some o → waitsQ full 6 o (e j) = true)
    (hk : ∀ i, i < p → ks[i]? = some (.quiet (val i)))
    (hD : Det P ops (fill (fun _ => 0) 0 ops.toList ks a₀) p m e Is val)
    (hend : ∀ w, Is m w → wpOps P full Q (List.range' p (full.size - p)) (fill (fun _ => 0) 0 ops.toList ks a₀) w) :
    ∀ (fuel : Nat) (l : Array Bool) (a : Act) (w : World), l.size = full.size → l.toList.count false ≤ fuel → full.size - p ≤ fuel → (∀ i, p ≤ i → i < full.size → l.getD i true = false) → Down full l → Agree ops ks a₀ l (fun _ => 0) a → (∃ c, c ≤ m ∧ Is c w ∧ (∀ j, j < c → l.getD (e j) false = true) ∧ ∀ j, c ≤ j → j < m → l.getD (e j) true = false) → wpAny P .any full Q fuel l a w := by
  have hfin : ∀ (l : Array Bool) (a : Act) (w : World), l.size = full.size → Agree ops ks a₀ l (fun _ => 0) a → (∃ c, c ≤ m ∧ Is c w ∧ (∀ j, j < c → l.getD (e j) false = true) ∧ ∀ j, c ≤ j → j < m → l.getD (e j) true = false) → (∀ i, i < p → l.getD i false = true) → a = fill (fun _ => 0) 0 ops.toList ks a₀ ∧ Is m w := by
    rintro l a w hsz hA ⟨c, hc, hI, h1, h2⟩ hall
    refine ⟨whole_of hp hA hall, ?_⟩
    by_cases h : c = m
    · rw [← h]; exact hI
    · have h3 := h2 c (Nat.le_refl _) (by omega)
      have h4 := hall (e c) (hD.lt c (by omega))
      rw [(getD_same h3).1] at h4
      cases h4
  intro fuel
  induction fuel with
  | zero =>
    intro l a w hsz hc hpl hu hdn hA hC
    have hall : ∀ i, i < p → l.getD i false = true := fun i hi => by
      cases hb : l.getD i true with
      | false => have := count_set hb; omega
      | true =>
        have hi' : i < l.size := by omega
        simpa [hi'] using hb
    obtain ⟨rfl, hI⟩ := hfin l a w hsz hA hC hall
    exact rest_any p hup hwt (full.size - p) 0 p l _ _ (by omega) (Nat.le_refl _) hsz (by omega) hall hu (hend _ hI)
  | succ fuel ih =>
    intro l a w hsz hc hpl hu hdn hA hC
    by_cases hall : ∀ i, i < p → l.getD i false = true
    · obtain ⟨rfl, hI⟩ := hfin l a w hsz hA hC hall
      exact rest_any p hup hwt (full.size - p) (fuel + 1) p l _ _ (by omega) (Nat.le_refl _) hsz (by omega) hall hu (hend _ hI)
    · have hex : ∃ x, x < p ∧ l.getD x false = false := by
        apply Classical.byContradiction
        intro hno
        apply hall
        intro i hi
        cases hb : l.getD i false with
        | true => rfl
        | false => exact absurd ⟨i, hi, hb⟩ hno
      obtain ⟨x, hx, hxf⟩ := hex
      have hlow : ∀ i ∈ Region.ready .any full l, i < p := fun i hi => by
        obtain ⟨hun, o, ho, hedge⟩ := mem_ready.1 hi
        rcases Nat.lt_or_ge i p with h' | h'
        · exact h'
        · have := waitsQ_spec hdn 6 (hwt ho h' x (by omega)) hedge
          rw [hxf] at this
          cases this
      have hcnt : full.size - p + 1 ≤ l.toList.count false := by
        have h1 : l.getD x true = false := by
          have hx' : x < l.size := by omega
          simpa [hx'] using hxf
        have h2 := count_set h1
        have h3 : ∀ (m : Nat) (l : Array Bool), l.size = full.size → m ≤ full.size - p → (∀ i, full.size - m ≤ i → i < full.size → l.getD i true = false) → m ≤ l.toList.count false := by
          intro m
          induction m with
          | zero => intro l _ _ _; omega
          | succ m ih =>
            intro l hs hm hl
            have h4 := count_set (hl (full.size - (m + 1)) (Nat.le_refl _) (by omega))
            have h5 := ih (l.setIfInBounds (full.size - (m + 1)) true) (by simp [hs]) (by omega) (fun i hi1 hi2 => by rw [getD_set_ne true (by omega)]; exact hl i (by omega) hi2)
            omega
        have h6 := h3 (full.size - p) (l.setIfInBounds x true) (by simp [hsz]) (Nat.le_refl _) (fun i hi1 hi2 => by rw [getD_set_ne true (by omega)]; exact hu i (by omega) hi2)
        omega
      refine ⟨fun hr => ?_, fun i hi => ?_⟩
      · exfalso
        have : ∀ i, i < full.size → l.getD i false = true := by
          intro i
          induction i using Nat.strongRecOn with
          | _ i ih2 =>
            intro hi
            have hi' : i < l.size := by omega
            cases hl : l.getD i true with
            | true => simpa [hi'] using hl
            | false =>
              exfalso
              have : i ∈ Region.ready .any full l := mem_ready.2 ⟨hl, full[i], Array.getElem?_eq_getElem hi, fun e he hb => by
                have h1 := hup (Array.getElem?_eq_getElem hi) e he hb
                exact ih2 e.on h1 (by omega)⟩
              rw [hr] at this
              cases this
        rw [this x (by omega)] at hxf
        cases hxf
      · have hip := hlow i hi
        obtain ⟨hun, o, ho, hedge⟩ := mem_ready.1 hi
        have ho' : ops[i]? = some o := by rw [← hfull i hip]; exact ho
        have hc' := count_set hun
        have hki := hk i hip
        obtain ⟨c, hcm, hI, h1, h2⟩ := hC
        have hsee := hA.sees hO ho' hedge
        have hwn : Region.wanted o (yielded full a.tmps) = true := by
          have h6 : Region.wanted o (yielded full a.tmps) = Region.wanted o (yielded ops a.tmps) := by
            unfold Region.wanted
            cases hg : o.guard with
            | none => rfl
            | some gw =>
              obtain ⟨g, want⟩ := gw
              have hy : yielded full a.tmps g = yielded ops a.tmps g := by
                unfold yielded
                rw [hfull g (hD.gp i o g want ho' hg)]
              simp only [hy]
          rw [h6, hsee.2]
          exact hD.guard i o ho'
        have hA' : Agree ops ks a₀ (l.setIfInBounds i true) (fun _ => 0) (a.put o.dst (val i)) := hA.step (γ' := fun _ => 0) hO hn ho' hki (fun _ _ _ _ => rfl)
        have key : ((∃ w1, (execOp (fill (fun _ => 0) 0 ops.toList ks a₀).eval o).run P w = .ok (.value (val i)) w1 ∧ (∃ c', c' ≤ m ∧ Is c' w1 ∧ (∀ j, j < c' → (l.setIfInBounds i true).getD (e j) false = true) ∧ ∀ j, c' ≤ j → j < m → (l.setIfInBounds i true).getD (e j) true = false)) ∨ ∃ f args, (execOp (fill (fun _ => 0) 0 ops.toList ks a₀).eval o).run P w = .ok (.enter f args) w ∧ Calls P f args w fun x w1 => x = .returned (val i) ∧ (∃ c', c' ≤ m ∧ Is c' w1 ∧ (∀ j, j < c' → (l.setIfInBounds i true).getD (e j) false = true) ∧ ∀ j, c' ≤ j → j < m → (l.setIfInBounds i true).getD (e j) true = false)) → wpOp P full Q i (wpAny P .any full Q fuel (l.setIfInBounds i true)) a w := fun hx => by
          refine wpOp_step ho (fun K' hK => ?_)
          rw [if_pos hwn]
          unfold Oper.wp
          rw [hsee.1]
          rcases hx with ⟨w1, hx, hC1⟩ | ⟨f, args, hx, hcall⟩
          · rw [hx]
            exact hK _ _ (ih _ _ _ (by simp [hsz]) (by omega) (by omega) (fun j hj hj2 => by rw [getD_set_ne true (by omega)]; exact hu j hj hj2) (down_set hdn ho hedge) hA' hC1)
          · rw [hx]
            refine Calls.mono hcall ?_
            rintro _ w1 ⟨rfl, hC1⟩
            exact hK _ _ (ih _ _ _ (by simp [hsz]) (by omega) (by omega) (fun j hj hj2 => by rw [getD_set_ne true (by omega)]; exact hu j hj hj2) (down_set hdn ho hedge) hA' hC1)
        by_cases hE : ∃ j, j < m ∧ e j = i
        · obtain ⟨j, hj, rfl⟩ := hE
          have hjc : c ≤ j := by
            apply Classical.byContradiction
            intro hno
            have := h1 j (by omega)
            rw [(getD_same hun).1] at this
            cases this
          have hjc2 : j = c := by
            apply Classical.byContradiction
            intro hno
            obtain ⟨k, rfl⟩ : ∃ k, j = k + 1 := ⟨j - 1, by omega⟩
            have h3 := waitsQ_spec hdn 6 (hch k o hj ho) hedge
            have h4 := h2 k (by omega) (by omega)
            rw [(getD_same h4).1] at h3
            cases h3
          subst hjc2
          have hnew : ∀ w1, Is (j + 1) w1 → ∃ c', c' ≤ m ∧ Is c' w1 ∧ (∀ k, k < c' → (l.setIfInBounds (e j) true).getD (e k) false = true) ∧ ∀ k, c' ≤ k → k < m → (l.setIfInBounds (e j) true).getD (e k) true = false := fun w1 hI1 => by
            refine ⟨j + 1, by omega, hI1, fun k hk' => ?_, fun k hk' hk2 => ?_⟩
            · by_cases h5 : k = j
              · subst h5; exact (getD_same hun).2
              · exact getD_true (h1 k (by omega))
            · rw [getD_set_ne true (fun h6 => by have := hD.inj j k hj hk2 h6; omega)]
              exact h2 k (by omega) hk2
          rcases hD.eff j o hj ho' w hI with ⟨w1, hx, hI1⟩ | ⟨f, args, hx, hcall⟩
          · exact key (.inl ⟨w1, hx, hnew w1 hI1⟩)
          · exact key (.inr ⟨f, args, hx, Calls.mono hcall fun x w1 hh => ⟨hh.1, hnew w1 hh.2⟩⟩)
        · have hE' : ∀ j, j < m → e j ≠ i := fun j hj h => hE ⟨j, hj, h⟩
          refine key (.inl ⟨w, hD.quiet i o ho' hE' c hcm w hI, c, hcm, hI, fun k hk' => getD_true (h1 k hk'), fun k hk' hk2 => ?_⟩)
          rw [getD_set_ne true (fun h6 => hE' k hk2 h6.symm)]
          exact h2 k hk' hk2
end
/-- What each operation tells; which of them are the chain's. -/
def DetOk (P : Program) (F : Act) (m : Nat) (Is : Nat → World → Prop) : List Oper → List Value → List (Option Nat) → Prop
  | o :: os, v :: vs, none :: fs => (∀ c, c ≤ m → ∀ w, Is c w → (execOp F.eval o).run P w = .ok (.value v) w) ∧ DetOk P F m Is os vs fs
  | o :: os, v :: vs, some j :: fs => EffOk P F o v (Is j) (Is (j + 1)) ∧ DetOk P F m Is os vs fs
  | _, _, _ => True
theorem DetOk.at {P : Program} {F : Act} {m : Nat} {Is : Nat → World → Prop} : ∀ {os : List Oper} {vs : List Value} {fs : List (Option Nat)}, DetOk P F m Is os vs fs → ∀ {i : Nat} {o : Oper} {v : Value} {f : Option Nat}, os[i]? = some o → vs[i]? = some v → fs[i]? = some f →
    match f with | none => ∀ c, c ≤ m → ∀ w, Is c w → (execOp F.eval o).run P w = .ok (.value v) w | some j => EffOk P F o v (Is j) (Is (j + 1))
  | [], _, _, _, _, _, _, _, h, _, _ => by simp at h
  | _ :: _, [], _, _, _, _, _, _, _, h, _ => by simp at h
  | _ :: _, _ :: _, [], _, _, _, _, _, _, _, h => by simp at h
  | _ :: _, _ :: _, none :: _, hD, 0, _, _, _, ho, hv, hf => by
    simp at ho hv hf
    subst ho hv hf
    exact hD.1
  | _ :: _, _ :: _, some _ :: _, hD, 0, _, _, _, ho, hv, hf => by
    simp at ho hv hf
    subst ho hv hf
    exact hD.1
  | _ :: os, _ :: vs, none :: fs, hD, i + 1, _, _, _, ho, hv, hf => DetOk.at (os := os) (vs := vs) (fs := fs) hD.2 (by simpa using ho) (by simpa using hv) (by simpa using hf)
  | _ :: os, _ :: vs, some _ :: fs, hD, i + 1, _, _, _, ho, hv, hf => DetOk.at (os := os) (vs := vs) (fs := fs) hD.2 (by simpa using ho) (by simpa using hv) (by simpa using hf)
def detB (full : Array Oper) (p : Nat) (fl : List (Option Nat)) (es : List Nat) : Bool :=
  fl.length == p &&
  (List.range es.length).all (fun j => decide (es.getD j 0 < p) && (fl.getD (es.getD j 0) none == some j)) &&
  (List.range p).all (fun i => match fl.getD i none with | some j => decide (j < es.length) && es.getD j 0 == i | none => true) &&
  (List.range es.length).all (fun j => decide (es.length ≤ j + 1) || (match full[es.getD (j + 1) 0]? with | some o => waitsQ full 6 o (es.getD j 0) | none => true)) &&
  guarded (full.toList.take p).toArray p
theorem walk_det {P : Program} {Q : Exit → Act → World → Prop} {full : Array Oper} {a : Act} {w : World} {id : Nat} (hm : P.follows .mixedOrders = true) (p : Nat) (vs : List Value) (fl : List (Option Nat)) (es : List Nat) (Is : Nat → World → Prop) (pre : List Oper) (F : Act) (hpre : full.toList.take p = pre)
    (hF : fill (fun _ => 0) 0 pre (vs.map Kind.quiet) a = F) (hor : (orderly pre.toArray (vs.map Kind.quiet) a.tmps.size && chained full p && decide (p ≤ full.size) && detB full p fl es) = true) (hW : (pre.all fun o => Region.wanted o (yielded pre.toArray F.tmps)) = true) (h0 : Is 0 w.drew)
    (hops : DetOk P F es.length Is pre vs fl) (hend : ∀ w', Is es.length w' → wpOps P full Q (List.range' p (full.size - p)) F w') :
    (Code.region id full true).wp P Q a w := by
  subst hpre
  subst hF
  simp only [Bool.and_eq_true, decide_eq_true_eq] at hor
  obtain ⟨⟨⟨h1, h3⟩, h4⟩, h5⟩ := hor
  unfold detB at h5
  simp only [Bool.and_eq_true, List.all_eq_true, List.mem_range, decide_eq_true_eq, beq_iff_eq, Bool.or_eq_true] at h5
  obtain ⟨⟨⟨⟨k0, k1⟩, k2⟩, k3⟩, k4⟩ := h5
  unfold chained at h3
  simp only [Bool.and_eq_true] at h3
  obtain ⟨h6, h7⟩ := h3
  have hO := Orderly.of h1
  have hvl : vs.length = p := by
    have := hO.size
    simp at this
    omega
  have hat : ∀ (i : Nat) (o : Oper), (full.toList.take p).toArray[i]? = some o → i < p ∧ (full.toList.take p)[i]? = some o ∧ full[i]? = some o := fun i o ho => by
    have h8 : (full.toList.take p)[i]? = some o := by simpa using ho
    have h9 := (List.getElem?_eq_some_iff.1 h8).1
    rw [List.length_take] at h9
    refine ⟨by omega, h8, ?_⟩
    rw [List.getElem?_take, if_pos (by omega)] at h8
    simpa using h8
  have hsz : (full.toList.take p).toArray.size = p := by simp; omega
  refine wp_region_any hm (first_det (ops := (full.toList.take p).toArray) (ks := vs.map Kind.quiet) (p := p) (m := es.length) (e := fun j => es.getD j 0) (Is := Is) (val := fun i => vs.getD i undef) hO rfl hsz h4 (fun i hi => ?_) (fun ho e he hb => ?_) (fun ho hi j hj => ?_) (fun j o hj ho => ?_) (fun i hi => ?_) ⟨fun i o ho => ?_, fun i o g b ho hg => guarded_spec k4 ho hg, fun j hj => (k1 j hj).1, fun i j hi hj he => ?_, fun i o ho hne c hc => ?_, fun j o hj ho => ?_⟩ hend full.size _ a w.drew (by simp) (by simp) (by omega) (fun i _ hi => none_listed' hi) (fun _ hl _ _ _ => by rw [none_listed] at hl; cases hl) (start_agree _ _) ⟨0, Nat.zero_le _, h0, fun j hj => absurd hj (Nat.not_lt_zero _), fun j _ hj => none_listed' (Nat.lt_of_lt_of_le (k1 j hj).1 h4)⟩)
  · rw [show (full.toList.take p).toArray[i]? = (full.toList.take p)[i]? by simp, List.getElem?_take, if_pos hi]
    simp
  · have := Array.all_eq_true_iff_forall_mem.1 (eachOp_spec h6 ho) e he
    simpa [hb] using this
  · have := eachOp_spec h7 ho
    simp only [Bool.or_eq_true, decide_eq_true_eq] at this
    rcases this with h8 | h8
    · omega
    · exact List.all_eq_true.1 h8 j (List.mem_range.2 hj)
  · rcases k3 j (by omega) with h8 | h8
    · omega
    · rw [ho] at h8
      exact h8
  · rw [List.getElem?_map, List.getElem?_eq_getElem (by omega), List.getD_eq_getElem?_getD, List.getElem?_eq_getElem (by omega)]
    rfl
  · exact List.all_eq_true.1 hW o (List.mem_of_getElem? (hat i o ho).2.1)
  · have e1 := (k1 i hi).2
    have e2 := (k1 j hj).2
    have he : es.getD i 0 = es.getD j 0 := he
    rw [he, e2] at e1
    injection e1 with e1
    exact e1.symm
  · obtain ⟨hi, ho1, _⟩ := hat i o ho
    have hf : fl[i]? = some (fl.getD i none) := by rw [List.getD_eq_getElem?_getD, List.getElem?_eq_getElem (by omega)]; rfl
    have hv : vs[i]? = some (vs.getD i undef) := by rw [List.getD_eq_getElem?_getD, List.getElem?_eq_getElem (by omega)]; rfl
    have h8 := hops.at ho1 hv hf
    have h9 := k2 i hi
    cases hx : fl.getD i none with
    | none =>
      rw [hx] at h8
      exact h8 c hc
    | some j =>
      rw [hx] at h9
      simp only [Bool.and_eq_true, decide_eq_true_eq, beq_iff_eq] at h9
      exact absurd h9.2 (hne j h9.1)
  · obtain ⟨hi, ho1, _⟩ := hat _ o ho
    have hf : fl[es.getD j 0]? = some (fl.getD (es.getD j 0) none) := by rw [List.getD_eq_getElem?_getD (l := fl), List.getElem?_eq_getElem (by omega)]; rfl
    have hv : vs[es.getD j 0]? = some (vs.getD (es.getD j 0) undef) := by rw [List.getD_eq_getElem?_getD (l := vs), List.getElem?_eq_getElem (by omega)]; rfl
    have h8 := hops.at ho1 hv hf
    rw [(k1 j hj).2] at h8
    exact h8
end Rg
end Go.Proofs.Ytidicdlfjdlpnaa
end
section
namespace Go.Proofs.Ytidicdlfjdlpnaa
open Go.RowKit
namespace Rg
namespace Wi
set_option maxRecDepth 100000
theorem bdr (u : World) : Below u.heap.size u u.drew := ⟨rfl, rfl, rfl, Nat.le_refl _, fun _ _ => rfl⟩
theorem rff_no {F : Nat → Int} {j : Nat} : ∀ {n : Nat}, (∀ i, i < n → ¬F i = (j : Int)) → rff F n j = false
  | 0, _ => rfl
  | n + 1, h => by
    show (decide ((j : Int) = F n) || rff F n j) = false
    rw [rff_no fun i hi => h i (by omega), decide_eq_false (fun e => h n (by omega) e.symm)]
    rfl
theorem rff_hit {F : Nat → Int} {j i : Nat} : ∀ {n : Nat}, i < n → F i = (j : Int) → rff F n j = true
  | 0, h, _ => absurd h (Nat.not_lt_zero _)
  | n + 1, h, e => by
    show (decide ((j : Int) = F n) || rff F n j) = true
    by_cases c : i = n
    · subst c; simp [e]
    · rw [rff_hit (show i < n by omega) e]; simp
set_option maxHeartbeats 2000000 in
theorem rop_any {w0 : World} {X : Dx} (hk : X.k < 1000000000) (hn : X.n ≤ 100000) (w : World) (h : Dxo w0 X w) :
    Calls Try.prog 94 #[PT X.m 0] w fun e w' => e = .returned (.bool X.rd.no) ∧ Dxw w0 w X X.up w' := by
  have HU : Hid _ := h.up
  have c2 := h.c2
  have fz := h.fz 2
  have hkI : (X.k : Int) < 1000000000 := by omega
  clear h
  go_enter Try.func94, Try.ntmps94
  go_wp2
  go_loopw [3] (fun v wr => ∃ i : Nat, v = .int .i64 (i : Int) ∧ i ≤ X.n ∧ Hid (∀ j, j < i → ¬X.F j = (X.k : Int) + 1) ∧ Hid (Dxw w0 w X X.up wr))
    (fun v _ => X.n - (RowKit.intOf v).toNat)
  case atStart => exact ⟨0, rfl, Nat.zero_le _, fun j hj => absurd hj (Nat.not_lt_zero _), HU.out⟩
  case round =>
    obtain ⟨i, rfl, hi, hno, hX⟩ := hrel
    have c1 : wr.cell? ⟨X.m, 1, none⟩ = some (.slice X.rp X.n X.rc) := hX.out.1.c1
    have c2 : wr.cell? ⟨X.m, 2, none⟩ = some (.int .i64 ((X.k : Int) + 1)) := hX.out.1.c2
    by_cases hlt : i < X.n
    · have hrp : X.rp = some ⟨X.rg, 0, none⟩ := (hX.out.1.rp (show 0 < X.n by omega)).1
      have cr : wr.cell? ⟨X.rg, i, none⟩ = some (.int .i64 (X.F i)) := hX.out.1.rr i hlt
      rw [hrp] at c1
      by_cases he : X.F i = (X.k : Int) + 1
      · rw [he] at cr
        go_wp2
        go_region
        all_goals go_wp2
        go_ret
        exact ⟨by rw [show X.rd.no = true from rff_hit hlt he]; rfl, hX.out.below (bdr wr)⟩
      · have heB : (X.F i == (X.k : Int) + 1) = false := by simpa using he
        go_wp2
        go_region
        all_goals go_wp2
        exact ⟨⟨i + 1, by simp, by omega, fun j hj => by (by_cases e : j = i); (subst e; exact he); (exact hno.out j (by omega)), hX.out.below (bdr wr)⟩, by simp [RowKit.intOf]; omega⟩
    · obtain rfl : i = X.n := by omega
      go_wp2
      go_ret
      exact ⟨by rw [show X.rd.no = false from rff_no hno.out]; rfl, hX.out⟩
theorem str_ne {s t : ByteArray} (h : ¬s = t) : (s.toList == t.toList) = false := by
  rw [ByteArray.toList_eq, ByteArray.toList_eq]
  refine Bool.eq_false_iff.2 fun e => h (ky_inj ?_)
  show Lit.string s.data.toList = Lit.string t.data.toList
  rw [eq_of_beq e]
/-- A file's cells. -/
theorem Dxo.at {w0 u : World} {X : Dx} (h : Dxo w0 X u) {i : Nat} {f : Mf} (hi : X.fs[i]? = some f) : ∃ g cp, X.v = .slice (some ⟨g, 0, none⟩) X.fs.length cp ∧ X.fs.length ≤ cp ∧ u.cell? ⟨g, i * 4, none⟩ = some (.string f.nm) ∧ u.cell? ⟨g, i * 4 + 1, none⟩ = some (.slice f.q.p f.q.n f.q.cp) ∧ u.cell? ⟨g, i * 4 + 2, none⟩ = some f.ov ∧ u.cell? ⟨g, i * 4 + 3, none⟩ = some (.bool f.old) := by
  have hlt := (List.getElem?_eq_some_iff.1 hi).1
  have hr := h.row
  rcases hr.2 with ⟨_, h0⟩ | ⟨g, cap, cur, h1, _, _, h2, _⟩
  · omega
  · rw [h1] at hr
    exact ⟨g, cap, h1, h2, row_at Mf.c 4 Mf.len hr (j := 0) (by decide) hi, row_at Mf.c 4 Mf.len hr (j := 1) (by decide) hi, row_at Mf.c 4 Mf.len hr (j := 2) (by decide) hi, row_at Mf.c 4 Mf.len hr (j := 3) (by decide) hi⟩
set_option maxHeartbeats 2000000 in
theorem rat_hit {w0 : World} {X : Dx} (s : ByteArray) (i : Nat) (f : Mf) (hi : X.fs[i]? = some f) (hf : f.nm = s) (hmin : ∀ j, j < i → ∀ g, X.fs[j]? = some g → g.nm ≠ s) (hn : X.fs.length ≤ 100000) (w : World) (h : Dxo w0 X w) :
    Calls Try.prog 96 #[PT X.m 0, .string s] w fun e w' => e = .returned (.int .i64 (i : Int)) ∧ Below w.heap.size w w' := by
  have H : Hid _ := h
  have HM : Hid _ := hmin
  have hil := (List.getElem?_eq_some_iff.1 hi).1
  clear h hmin
  go_enter Try.func96, Try.ntmps96
  go_wp2
  go_loopw [5] (fun v wr => ∃ j : Nat, v = .int .i64 (j : Int) ∧ j ≤ i ∧ Below w.heap.size w wr)
    (fun v _ => i - (RowKit.intOf v).toNat)
  case atStart => exact ⟨0, rfl, Nat.zero_le _, Below.refl _ _⟩
  case round =>
    obtain ⟨j, rfl, hj, hb⟩ := hrel
    have hX := H.out.below hb
    have c0 := hX.c0
    obtain ⟨f', hf'⟩ : ∃ f', X.fs[j]? = some f' := ⟨_, List.getElem?_eq_getElem (by omega)⟩
    obtain ⟨g, cp, hv, hcp, k0, -, -, -⟩ := hX.at hf'
    rw [hv] at c0
    clear hX
    by_cases e : j = i
    · subst e
      obtain rfl : f' = f := Option.some.inj (hf'.symm.trans hi)
      subst hf
      go_wp2
      go_ret
      exact ⟨rfl, hb⟩
    · have hne := HM.out j (by omega) f' hf'
      have he2 := str_ne hne
      go_wp2
      go_roundw
      case rel => exact ⟨j + 1, by simp, by omega, hb⟩
      case measure => simp [RowKit.intOf]; omega
set_option maxHeartbeats 2000000 in
theorem rat_miss {w0 : World} {X : Dx} (s : ByteArray) (hno : ∀ f ∈ X.fs, f.nm ≠ s) (hn : X.fs.length ≤ 100000) (w : World) (h : Dxo w0 X w) :
    Calls Try.prog 96 #[PT X.m 0, .string s] w fun e w' => e = .returned (.int .i64 (-1)) ∧ Below w.heap.size w w' := by
  have H : Hid _ := h
  have HN : Hid _ := hno
  clear h hno
  go_enter Try.func96, Try.ntmps96
  go_wp2
  go_loopw [5] (fun v wr => ∃ j : Nat, v = .int .i64 (j : Int) ∧ j ≤ X.fs.length ∧ Below w.heap.size w wr)
    (fun v _ => X.fs.length - (RowKit.intOf v).toNat)
  case atStart => exact ⟨0, rfl, Nat.zero_le _, Below.refl _ _⟩
  case round =>
    obtain ⟨j, rfl, hj, hb⟩ := hrel
    have hX := H.out.below hb
    have c0 := hX.c0
    by_cases e : j < X.fs.length
    · obtain ⟨f', hf'⟩ : ∃ f', X.fs[j]? = some f' := ⟨_, List.getElem?_eq_getElem e⟩
      obtain ⟨g, cp, hv, hcp, k0, -, -, -⟩ := hX.at hf'
      rw [hv] at c0
      have hne := HN.out f' (List.mem_of_getElem? hf')
      have he2 := str_ne hne
      clear hX
      go_wp2
      go_roundw
      case rel => exact ⟨j + 1, by simp, by omega, hb⟩
      case measure => simp [RowKit.intOf]; omega
    · obtain rfl : j = X.fs.length := by omega
      obtain ⟨p, cp, hv, hcp⟩ := own_slice hX.row
      rw [hv] at c0
      clear hX
      go_wp2
      go_ret
      exact ⟨rfl, hb⟩
end Wi
end Rg
end Go.Proofs.Ytidicdlfjdlpnaa
end
section
namespace Go.Proofs.Ytidicdlfjdlpnaa
open Go.RowKit
namespace Rg
namespace Wi
set_option maxRecDepth 100000
/-- Worlds one behind the other. -/
def Wl (l : List World) (d : World) (c : Nat) : World := l.getD c d
set_option maxHeartbeats 1000000 in
theorem rdone_app (q q2 : Pt8) (z : Nat) (hb : q.n + q2.n ≤ 2097152) (w : World) (hq : Pq q w) (hq2 : Pq q2 w) :
    Calls Try.prog 101 #[.slice q.p q.n q.cp, .agg #[.bool false, .int .i64 (z : Int), .slice q2.p q2.n q2.cp]] w fun e w' => ∃ v, e = .returned v ∧ Cr w v (q.n + q2.n) (ct q.f q.n q2.f) w' := by
  obtain ⟨w1, hw1⟩ : ∃ w1, (w.alloc (.cells #[.bool false, .int .i64 (z : Int), .slice q2.p q2.n q2.cp] 152)) = w1 := ⟨_, rfl⟩
  have hb1 : Below w.heap.size w w1 := by rw [← hw1]; exact (Below.refl _ _).alloc (Nat.le_refl _) _
  have hs1 : w.heap.size < w1.heap.size := by rw [← hw1]; simp
  have hc0 : w1.cell? ⟨w.heap.size, 0, none⟩ = some (.bool false) := by
    rw [← hw1]
    unfold World.cell?
    dsimp only
    rw [World.alloc_heap_new]
    rfl
  have hc1 : w1.cell? ⟨w.heap.size, 2, none⟩ = some (.slice q2.p q2.n q2.cp) := by
    rw [← hw1]
    unfold World.cell?
    dsimp only
    rw [World.alloc_heap_new]
    rfl
  have hb2 : Below w.heap.size w w1.drew := hb1.trans ((bdr w1).mono hb1.size)
  obtain ⟨v', u2, h1, h2⟩ := copy_r (u := w1.drew) (hq.below hb2) (by omega) 34
  obtain ⟨v2, u3, h3, h4⟩ := h2.app ((hq2.below hb2).below h2.cw.b) (by omega) 34
  obtain ⟨Ws, hWs⟩ : ∃ Ws, Ws = Wl [w1.drew, w1.drew.alloc (.cells #[] 5), u2] u3 := ⟨_, rfl⟩
  have H0 : Hid (w1.drew = Ws 0 ∧ Ws 1 = (Ws 0).alloc (.cells #[] 5) ∧ w1.heap.size = (Ws 0).heap.size) := by rw [hWs]; exact ⟨rfl, rfl, rfl⟩
  have H1 : Hid ((Builtin.append_ #[34, 34] 34 #[.slice (some ⟨w1.heap.size, 0, none⟩) 0 0, .slice q.p q.n q.cp]).run Try.prog (Ws 1) = .ok v' (Ws 2)) := by rw [hWs]; exact h1
  have H3 : Hid ((Builtin.append_ #[34, 34] 34 #[v', .slice q2.p q2.n q2.cp]).run Try.prog (Ws 2) = .ok v2 (Ws 3)) := by rw [hWs]; exact h3
  have hal : Below w1.heap.size w1 (w1.drew.alloc (.cells #[] 5)) := (bdr w1).alloc (Nat.le_refl _) _
  have HC : Hid (∀ c, (Ws c).cell? ⟨w.heap.size, 2, none⟩ = some (.slice q2.p q2.n q2.cp)) := fun c => by
    rw [hWs]
    have e2 := h2.cw.b
    have e4 := h4.cw.b
    match c with
    | 0 => exact hc1
    | 1 => exact (hal.cell (p := ⟨w.heap.size, 2, none⟩) hs1).trans hc1
    | 2 => exact (e2.cell (p := ⟨w.heap.size, 2, none⟩) hs1).trans hc1
    | _ + 3 => exact (e4.cell (p := ⟨w.heap.size, 2, none⟩) hs1).trans hc1
  have H4 : Hid (Cr w v2 (q.n + q2.n) (ct q.f q.n q2.f) (Ws 3)) := by
    rw [hWs]
    exact ⟨⟨hb2.trans (h4.cw.b.mono hb2.size), own_base h4.cw.own hb2.size⟩, h4.rm⟩
  clear h1 h2 h3 h4 hq hq2 hc1 hal hb2 hb1 hs1 hWs
  go_enter Try.func101, Try.ntmps101
  go_wp2
  refine walk_det (by kernel_rfl) 6 [.slice (some ⟨w1.heap.size, 0, none⟩) 0 0, .slice q.p q.n q.cp, v', PT w.heap.size 2, .slice q2.p q2.n q2.cp, v2] [some 0, none, some 1, none, none, some 2] [0, 2, 5] (fun c w => w = Ws c) ?prez ?Fz ?hprez ?hFz (by kernel_rfl) ?hWz H0.out.1 ?hopz ?hez
  case hprez => simp only [tk, tz]; rfl
  case hFz => simp only [List.map_cons, List.map_nil, fill, Kind.val, Act.put, sa, sz, ss]; rfl
  case hWz => kernel_rfl
  case hopz =>
    refine ⟨fun w hw => .inl ⟨_, ?_, rfl⟩, fun c _ w _ => rfl, fun w hw => .inl ⟨_, ?_, rfl⟩, fun c _ w _ => ?_, fun c _ w hw => ?_, fun w hw => .inl ⟨_, ?_, rfl⟩, trivial⟩
    · rw [hw, H0.out.2.1, H0.out.2.2]; exact ex_bs0 rfl
    · rw [hw]; exact ex_app rfl rfl rfl H1.out
    · go_simp
    · have h := HC.out c
      rw [hw]
      go_simp
    · rw [hw]; exact ex_app rfl rfl rfl H3.out
  rintro _ rfl
  refine rest_set (d := 4) (v := v2) (w' := Ws 3) rfl rfl rfl (rfl) ?_
  simp only [Act.put, sa, sz, ss]
  refine rest_nil (then_normal ?_)
  go_wp2
  go_ret
  exact ⟨v2, rfl, H4.out⟩
set_option maxHeartbeats 1000000 in
theorem rdone_cut (q : Pt8) (z : Nat) (q2 : Pt8) (hb : q.n ≤ 2097152) (w : World) (hq : Pq q w) :
    Calls Try.prog 101 #[.slice q.p q.n q.cp, .agg #[.bool true, .int .i64 (z : Int), .slice q2.p q2.n q2.cp]] w fun e w' => ∃ v, e = .returned v ∧ Cr w v (min z q.n) q.f w' := by
  have hcp := hq.1.le
  have hle : min z q.n ≤ q.n := Nat.min_le_right _ _
  obtain ⟨w1, hw1⟩ : ∃ w1, (w.alloc (.cells #[.bool true, .int .i64 (z : Int), .slice q2.p q2.n q2.cp] 152)) = w1 := ⟨_, rfl⟩
  have hb1 : Below w.heap.size w w1 := by rw [← hw1]; exact (Below.refl _ _).alloc (Nat.le_refl _) _
  have hc0 : w1.cell? ⟨w.heap.size, 0, none⟩ = some (.bool true) := by
    rw [← hw1]
    unfold World.cell?
    dsimp only
    rw [World.alloc_heap_new]
    rfl
  have hs1 : w.heap.size < w1.heap.size := by rw [← hw1]; simp
  have hc1 : (w1.alloc (.cells #[] 5)).cell? ⟨w.heap.size, 1, none⟩ = some (.int .i64 (z : Int)) := by
    refine (((Below.refl _ w1).alloc (Nat.le_refl _) _).cell (p := ⟨w.heap.size, 1, none⟩) hs1).trans ?_
    rw [← hw1]
    unfold World.cell?
    dsimp only
    rw [World.alloc_heap_new]
    rfl
  have hP : Pq (q.tk (min z q.n)) w1 := Pq.below ⟨hq.1.tk hle, hq.2.1, Pt8.rs_tk hq.2.2 hle⟩ hb1
  obtain ⟨v', u2, h1, h2⟩ := copy_r hP (by show min z q.n ≤ _; omega) 34
  have H1 : Hid ((Builtin.append_ #[34, 34] 34 #[.slice (some ⟨w1.heap.size, 0, none⟩) 0 0, .slice q.p (min z q.n) q.cp]).run Try.prog (w1.alloc (.cells #[] 5)) = .ok v' u2) := h1
  have H2 : Hid (Cr w v' (min z q.n) q.f u2) := ⟨⟨hb1.trans (h2.cw.b.mono hb1.size), own_base h2.cw.own hb1.size⟩, h2.rm⟩
  have e : (min (z : Int) (q.n : Int)).toNat = min z q.n := by omega
  clear h1 h2 hP hq
  go_enter Try.func101, Try.ntmps101
  go_wp2_with (first
    | (at_builtin; refine wpl_app rfl _ _ 34 rfl (.slice (some ⟨w1.heap.size, 0, none⟩) 0 0) (.slice q.p (min z q.n) q.cp) v' rfl rfl H1.out ?_)
    | fail)
  go_ret
  exact ⟨v', rfl, H2.out⟩
theorem rdone_any (q : Pt8) (o : Mo) (hb : q.n + o.q.n ≤ 2097152) (w : World) (hq : Pq q w) (hq2 : Pq o.q w) :
    Calls Try.prog 101 #[.slice q.p q.n q.cp, .agg #[.bool o.cut, .int .i64 (o.sz : Int), .slice o.q.p o.q.n o.q.cp]] w fun e w' => ∃ v n P, e = .returned v ∧ Cr w v n P w' ∧ bs n P = rdn (bs q.n q.f) o.ro := by
  cases hc : o.cut with
  | true =>
    refine (rdone_cut q o.sz o.q (by omega) w hq).mono ?_
    rintro e w' ⟨v, rfl, h⟩
    refine ⟨v, _, _, rfl, h, ?_⟩
    unfold rdn Mo.ro
    rw [if_pos hc]
    dsimp only
    by_cases c : o.sz ≤ q.n
    · rw [Nat.min_eq_left c, bs_take _ c]
    · rw [Nat.min_eq_right (by omega), List.take_of_length_le (by rw [bs_len]; omega)]
  | false =>
    refine (rdone_app q o.q o.sz hb w hq hq2).mono ?_
    rintro e w' ⟨v, rfl, h⟩
    refine ⟨v, _, _, rfl, h, ?_⟩
    unfold rdn Mo.ro
    rw [if_neg (show ¬o.cut = true by rw [hc]; decide), bs_ct (Nat.le_refl _), List.take_of_length_le (by rw [bs_len]; exact Nat.le_refl _)]
end Wi
end Rg
end Go.Proofs.Ytidicdlfjdlpnaa
end
section
namespace Go.Proofs.Ytidicdlfjdlpnaa
open Go.RowKit
namespace Rg
namespace Wi
set_option maxRecDepth 100000
theorem Mf.ok.below {L : List Nat} {u u' : World} {f : Mf} (h : f.ok L u) (hb : Below u.heap.size u u') : f.ok L u' :=
  ⟨⟨h.q.1.below hb, h.q.2⟩, own_keep h.ow fun b hm => hb.block b (own_lt h.ow b hm), h.ob, fun o ho => ⟨(h.op o ho).1.below hb, (h.op o ho).2⟩⟩
/-- An operation's cells. -/
theorem Mf.ok.at {L : List Nat} {u : World} {f : Mf} (h : f.ok L u) {i : Nat} {o : Mo} (hi : f.ops[i]? = some o) : ∃ g cp, f.ov = .slice (some ⟨g, 0, none⟩) f.ops.length cp ∧ f.ops.length ≤ cp ∧ u.cell? ⟨g, i * 3, none⟩ = some (.bool o.cut) ∧ u.cell? ⟨g, i * 3 + 1, none⟩ = some (.int .i64 (o.sz : Int)) ∧ u.cell? ⟨g, i * 3 + 2, none⟩ = some (.slice o.q.p o.q.n o.q.cp) := by
  have hlt := (List.getElem?_eq_some_iff.1 hi).1
  have hr := h.ow
  rcases hr.2 with ⟨_, h0⟩ | ⟨g, cap, cur, h1, _, _, h2, _⟩
  · omega
  · rw [h1] at hr
    exact ⟨g, cap, h1, h2, row_at Mo.c 3 Mo.len hr (j := 0) (by decide) hi, row_at Mo.c 3 Mo.len hr (j := 1) (by decide) hi, row_at Mo.c 3 Mo.len hr (j := 2) (by decide) hi⟩
theorem box_at (w : World) (cs : Array Value) (t : TypeId) (i : Nat) : (w.alloc (.cells cs t)).cell? ⟨w.heap.size, i, none⟩ = cs[i]? := by
  unfold World.cell?
  dsimp only
  rw [World.alloc_heap_new]
  rfl
theorem rct_take {f : Mf} {i : Nat} {o : Mo} (hi : f.ops[i]? = some o) : rct (bs f.q.n f.q.f) ((f.ops.map Mo.ro).take (i + 1)) = rdn (rct (bs f.q.n f.q.f) ((f.ops.map Mo.ro).take i)) o.ro := by
  rw [List.take_add_one, List.getElem?_map, hi]
  show rct _ (_ ++ [o.ro]) = _
  rw [rct_snoc]
set_option maxHeartbeats 2000000 in
/-- The content of the document's file. -/
theorem rcontent_any (f : Mf) (L : List Nat) (hft : f.rf.fit) (hoq : ∀ o ∈ f.ops, o.q.n ≤ 1048576) (hon : f.ops.length ≤ 1000000) (w : World) (h : f.ok L w) :
    Calls Try.prog 97 #[.agg #[.string f.nm, .slice f.q.p f.q.n f.q.cp, f.ov, .bool f.old]] w fun e w' => ∃ v n P, e = .returned v ∧ Cr w v n P w' ∧ bs n P = f.rf.cn := by
  have HF : Hid (∀ i, i ≤ f.ops.length → (rct (bs f.q.n f.q.f) ((f.ops.map Mo.ro).take i)).length ≤ 1048576) := fun i hi => hft i (by simpa [Mf.rf] using hi)
  have HQ : Hid _ := hoq
  have hq0 : f.q.n ≤ 1048576 := by have := HF.out 0 (Nat.zero_le _); simpa [rct, bs_len] using this
  obtain ⟨w1, hw1⟩ : ∃ w1, (w.alloc (.cells #[.string f.nm, .slice f.q.p f.q.n f.q.cp, f.ov, .bool f.old] 148)) = w1 := ⟨_, rfl⟩
  have hb1 : Below w.heap.size w w1 := by rw [← hw1]; exact (Below.refl _ _).alloc (Nat.le_refl _) _
  have hs1 : w.heap.size < w1.heap.size := by rw [← hw1]; simp
  obtain ⟨po, co, hov, hco⟩ := own_slice h.ow
  have hc2 : w1.cell? ⟨w.heap.size, 2, none⟩ = some (.slice po f.ops.length co) := by rw [← hov, ← hw1]; exact box_at ..
  have hc1 : (w1.alloc (.cells #[] 5)).cell? ⟨w.heap.size, 1, none⟩ = some (.slice f.q.p f.q.n f.q.cp) := (((Below.refl _ w1).alloc (Nat.le_refl _) _).cell (p := ⟨w.heap.size, 1, none⟩) hs1).trans (by rw [← hw1]; exact box_at ..)
  have HB : Hid _ := hb1
  have HC2 : Hid _ := hc2
  have HS1 : Hid _ := hs1
  obtain ⟨v0, u0, h1, h2⟩ := copy_r (h.below hb1).q.1 (by omega) 34
  have H1 : Hid _ := h1
  have H2 : Hid (Cr w1 v0 f.q.n f.q.f u0) := h2
  have H : Hid _ := h.below hb1
  clear h h1 h2 hft hoq hb1 hc2 hs1
  rw [hov] at hw1 ⊢
  go_enter Try.func97, Try.ntmps97
  go_wp2_with (first
    | (at_builtin; refine wpl_app rfl _ _ 34 rfl (.slice (some ⟨w1.heap.size, 0, none⟩) 0 0) (.slice f.q.p f.q.n f.q.cp) v0 rfl rfl H1.out ?_)
    | fail)
  go_loopw [3, 4] (fun vb v wr => ∃ i : Nat, v = .int .i64 (i : Int) ∧ i ≤ f.ops.length ∧ Hid (∃ n P, Cr w1 vb n P wr ∧ bs n P = rct (bs f.q.n f.q.f) ((f.ops.map Mo.ro).take i)))
    (fun _ v _ => f.ops.length - (RowKit.intOf v).toNat)
  case atStart => exact ⟨0, rfl, Nat.zero_le _, _, _, H2.out, rfl⟩
  case round =>
    obtain ⟨i, rfl, hi, n, P, hC0, hP0⟩ := hrel
    have hC : Hid _ := hC0
    have hP : Hid _ := hP0
    have hb := hC0.cw.b
    have c2 := (hb.cell (p := ⟨w.heap.size, 2, none⟩) HS1.out).trans HC2.out
    by_cases hlt : i < f.ops.length
    · obtain ⟨o, ho⟩ : ∃ o, f.ops[i]? = some o := ⟨_, List.getElem?_eq_getElem hlt⟩
      have hok := H.out.below hb
      obtain ⟨g, cp, hv, hcp, k0, k1, k2⟩ := hok.at ho
      rw [hov] at hv
      injection hv with hv1 hv2 hv3
      subst hv1 hv3
      obtain ⟨q, rfl, hq, hqn, hqf, hqg⟩ := hC0.part
      have hqP : bs q.n q.f = rct (bs f.q.n f.q.f) ((f.ops.map Mo.ro).take i) := by rw [hqn, hqf]; exact hP0
      have hqle : q.n ≤ 1048576 := by rw [← bs_len q.n q.f, hqP]; exact HF.out i hi
      have hoq1 := HQ.out o (List.mem_of_getElem? ho)
      have HD : Hid _ := rdone_any q o (by omega) wr hq (hok.op o (List.mem_of_getElem? ho)).1
      have HO : Hid _ := ho
      have HP2 : Hid _ := hqP
      clear hok hq hqn hqf hqg hqP hC0 hP0 ho hb
      go_wp2_with (first
        | (go_at_call 101; refine Calls.mono HD.out ?_; rintro e w3 ⟨v3, n3, P3, rfl, h3, h4⟩; have H3 : Hid _ := h3; have H4 : Hid _ := h4; clear h3 h4)
        | fail)
      exact ⟨⟨i + 1, by simp, by omega, n3, P3, ⟨⟨hC.out.cw.b.trans (H3.out.cw.b.mono hC.out.cw.size), own_base H3.out.cw.own hC.out.cw.size⟩, H3.out.rm⟩, by rw [H4.out, HP2.out, ← rct_take HO.out]⟩, by simp [RowKit.intOf]; omega⟩
    · obtain rfl : i = f.ops.length := by omega
      go_wp2
      go_ret
      exact ⟨_, n, P, rfl, ⟨⟨HB.out.trans (hC.out.cw.b.mono HB.out.size), own_base hC.out.cw.own HB.out.size⟩, hC.out.rm⟩, by rw [hP.out, List.take_of_length_le (by simp)]; rfl⟩
end Wi
end Rg
end Go.Proofs.Ytidicdlfjdlpnaa
end
section
namespace Go.Proofs.Ytidicdlfjdlpnaa
open Go.RowKit
namespace Rg
namespace Wi
set_option maxRecDepth 100000
/-- Files gathered in a row of the call's own. -/
structure Fo (w : World) (v : Value) (fs : List Mf) (u : World) : Prop where
  b : Below w.heap.size w u
  row : u.ownsRow 0 148 4 v fs.length (fs.flatMap Mf.c)
  lo : ∀ x ∈ vbl v, w.heap.size ≤ x
theorem Fo.start (w : World) : Fo w (.slice none 0 0) [] w := ⟨Below.refl _ _, World.ownsRow_nil _ _ _ _, fun x hx => by simp [vbl, Value.ownBlock] at hx⟩
theorem Fo.step {w u u' : World} {v : Value} {fs : List Mf} (h : Fo w v fs u) (hb : Below u.heap.size u u') : Fo w v fs u' :=
  ⟨h.b.trans (hb.mono h.b.size), own_keep h.row fun b hm => hb.block b (own_lt h.row b hm), h.lo⟩
theorem Fo.app {w u : World} {v : Value} {fs : List Mf} (h : Fo w v fs u) (f : Mf) (hf : ∃ p n c, f.ov = .slice p n c) (hb : fs.length ≤ 100000) :
    ∃ v' u2, (Builtin.append_ #[101, 101] 101 #[v, .slice (some ⟨u.heap.size, 0, none⟩) 1 1]).run Try.prog (u.alloc (.cells #[.string f.nm, .slice f.q.p f.q.n f.q.cp, f.ov, .bool f.old] 148)) = .ok v' u2 ∧ Fo w v' (fs ++ [f]) u2 := by
  have h1 := h.step ((Below.refl _ u).alloc (Nat.le_refl _) (.cells #[.string f.nm, .slice f.q.p f.q.n f.q.cp, f.ov, .bool f.old] 148))
  obtain ⟨v', u2, hr, ho, hg, h5⟩ := own_apF h1.row f hf (g := u.heap.size) (c := 1) (fun j x hj => by rw [box_at]; simpa [Mf.c] using hj) (by omega) 101
  refine ⟨v', u2, hr, h1.b.trans ((Chg.grown hg).toBelow h1.lo h1.b.size), ho, fun x hx => ?_⟩
  unfold vbl at hx
  rcases h5 with e | e
  · rw [e] at hx; exact h1.lo x hx
  · rw [e] at hx
    obtain rfl := List.mem_singleton.1 (by simpa using hx)
    have := h.b.size
    simp
    omega
def Dx.wf (X : Dx) (v : Value) (fs : List Mf) : Dx := ⟨X.m, v, X.rp, X.rg, X.rc, X.n, X.F, fs, X.k, X.L⟩
/-- Other files come in. -/
theorem Dxo.wf {w0 u : World} {X : Dx} {v : Value} {fs : List Mf} (h : Dxo w0 X u) (hr : u.ownsRow 0 148 4 v fs.length (fs.flatMap Mf.c)) (hok : ∀ f ∈ fs, f.ok X.L u) (hv : ∀ x ∈ vbl v, w0.heap.size ≤ x ∧ x ∉ X.bl) :
    Dxo w0 (X.wf v fs) (u.setCell ⟨X.m, 0, none⟩ v) ∧ Chg [X.m] u (u.setCell ⟨X.m, 0, none⟩ v) := by
  have hc : Chg [X.m] u (u.setCell ⟨X.m, 0, none⟩ v) := ⟨rfl, rfl, rfl, by simp, fun k _ hk => heap_setCell_other u ⟨X.m, 0, none⟩ k _ (fun e => hk (by simp [e]))⟩
  have hx : ∀ x, x < u.heap.size → x ≠ X.m → (u.setCell ⟨X.m, 0, none⟩ v).heap[x]? = u.heap[x]? := fun x hx hn => hc.block x hx (fun e => hn (List.mem_singleton.1 e))
  have hmL : ∀ x ∈ X.L, x ≠ X.m := fun x hx e => h.m2 (e ▸ hx)
  have hL : Kx X.L u (u.setCell ⟨X.m, 0, none⟩ v) := ⟨hc.size, fun x e => hx x (h.lt x (List.mem_cons_of_mem _ (List.mem_append_right _ e))) (hmL x e)⟩
  have hvm : X.m ∉ vbl v := fun e => (hv _ e).2 (List.mem_cons_self ..)
  refine ⟨⟨World.cell?_setCell_same _ _ _ h.c0, (World.cell?_setCell_other _ _ _ _ (by simp)).trans h.c1, (World.cell?_setCell_other _ _ _ _ (by simp)).trans h.c2, fun k => ?_, own_keep hr fun b hb => hx b (own_lt hr b hb) (fun e => hvm (e ▸ hb)), fun f hf => (hok f hf).kx hL, h.rp, fun i hi => ?_, fun x hxm => ?_, fun x hxm => ?_, hvm, h.m2, fun x hxv hxL => (hv x hxv).2 (List.mem_cons_of_mem _ (List.mem_append_right _ hxL))⟩, hc⟩
  · rw [World.frozen?_setCell]
    exact h.fz k
  · exact (World.cell?_of_block (a := ⟨X.rg, i, none⟩) (hL.2 _ (h.rp (Nat.lt_of_le_of_lt (Nat.zero_le _) hi)).2)).trans (h.rr i hi)
  · rcases List.mem_cons.1 hxm with e | e
    · rw [e]; exact h.lo _ (List.mem_cons_self ..)
    · rcases List.mem_append.1 e with e | e
      · exact (hv x e).1
      · exact h.lo x (List.mem_cons_of_mem _ (List.mem_append_right _ e))
  · rw [World.size_setCell]
    rcases List.mem_cons.1 hxm with e | e
    · rw [e]; exact h.lt _ (List.mem_cons_self ..)
    · rcases List.mem_append.1 e with e | e
      · exact own_lt hr x e
      · exact h.lt x (List.mem_cons_of_mem _ (List.mem_append_right _ e))
/-- What a gathered row makes of the disk. -/
theorem Fo.fin {w0 w u : World} {X : Dx} {v : Value} {fs : List Mf} (hw : Dxo w0 X w) (h : Fo w v fs u) (hw0 : w0.heap.size ≤ w.heap.size) (hok : ∀ f ∈ fs, f.ok X.L w) :
    Dxw w0 w X (X.wf v fs) (u.setCell ⟨X.m, 0, none⟩ v) := by
  have hX := hw.below h.b
  have hb : ∀ f ∈ fs, f.ok X.L u := fun f hf => (hok f hf).below h.b
  have hv : ∀ x ∈ vbl v, w0.heap.size ≤ x ∧ x ∉ X.bl := fun x hx => ⟨Nat.le_trans hw0 (h.lo x hx), fun e => absurd (hw.lt x e) (Nat.not_lt.2 (h.lo x hx))⟩
  obtain ⟨h1, h2⟩ := hX.wf h.row hb hv
  refine ⟨h1, (Chg.of h.b).trans (h2.mono (M := X.bl) fun x hx => .inl (by rw [List.mem_singleton.1 hx]; exact List.mem_cons_self ..)) (fun x hx => .inl hx), fun x hx => ?_⟩
  rcases List.mem_cons.1 hx with e | e
  · rw [e]; exact .inl (List.mem_cons_self ..)
  · rcases List.mem_append.1 e with e | e
    · exact .inr (h.lo x e)
    · exact .inl (List.mem_cons_of_mem _ (List.mem_append_right _ e))
theorem Fo.fin1 {w u : World} {m : Nat} {v : Value} {fs : List Mf} (h : Fo w v fs u) : Chg [m] w (u.setCell ⟨m, 0, none⟩ v) :=
  (Chg.of h.b).trans (show Chg [m] u (u.setCell ⟨m, 0, none⟩ v) from ⟨rfl, rfl, rfl, by simp, fun k _ hk => heap_setCell_other u ⟨m, 0, none⟩ k _ (fun e => hk (by simp [e]))⟩) fun x hx => .inl hx
set_option maxHeartbeats 2000000 in
theorem rgone_any {w0 : World} {X : Dx} (s : ByteArray) (fs' : List Mf) (hfs : X.fs.filter (fun f => decide (f.nm ≠ s)) = fs') (hn : X.fs.length ≤ 100000) (w : World) (hw0 : w0.heap.size ≤ w.heap.size) (h : Dxo w0 X w) :
    Calls Try.prog 100 #[PT X.m 0, .string s] w fun e w' => e = .returned (.tuple #[]) ∧ ∃ v, Dxw w0 w X (X.wf v fs') w' ∧ Chg [X.m] w w' := by
  have H : Hid _ := h
  have H0 : Hid _ := hw0
  clear h hw0
  go_enter Try.func100, Try.ntmps100
  go_wp2
  go_loopw [4, 5] (fun vo v wr => ∃ i : Nat, v = .int .i64 (i : Int) ∧ i ≤ X.fs.length ∧ Hid (Fo w vo ((X.fs.take i).filter fun f => decide (f.nm ≠ s)) wr))
    (fun _ v _ => X.fs.length - (RowKit.intOf v).toNat)
  case atStart => exact ⟨0, rfl, Nat.zero_le _, Fo.start w⟩
  case round =>
    obtain ⟨i, rfl, hi, hF⟩ := hrel
    have hX := H.out.below hF.out.b
    have c0 := hX.c0
    have fz := hX.fz 0
    by_cases hlt : i < X.fs.length
    · obtain ⟨f, hf⟩ : ∃ f, X.fs[i]? = some f := ⟨_, List.getElem?_eq_getElem hlt⟩
      obtain ⟨g, cp, hv, hcp, k0, k1, k2, k3⟩ := hX.at hf
      have hsl := (hX.ok f (List.mem_of_getElem? hf)).sl
      have hln : ((X.fs.take i).filter fun f => decide (f.nm ≠ s)).length ≤ 100000 := Nat.le_trans (List.length_filter_le _ _) (by rw [List.length_take]; omega)
      have htk : X.fs.take (i + 1) = X.fs.take i ++ [f] := by rw [List.take_add_one, hf]; rfl
      have HT : Hid _ := htk
      rw [hv] at c0
      clear hX htk hf
      by_cases e : f.nm = s
      · subst e
        go_wp2
        go_roundw
        case rel => exact ⟨i + 1, by simp, by omega, by rw [HT.out, List.filter_append, List.filter_cons, if_neg (by simp)]; simpa using hF⟩
        case measure => simp [RowKit.intOf]; omega
      · have he2 := str_ne e
        obtain ⟨v', u2, hr, hF2⟩ := hF.out.app f hsl hln
        have HR : Hid _ := hr
        have HF2 : Hid _ := hF2
        have HE : Hid _ := e
        clear hr hF2 e
        go_wp2_with (first
          | (at_builtin; refine wpl_app rfl _ _ 101 rfl _ (.slice (some ⟨wr.heap.size, 0, none⟩) 1 1) v' rfl rfl HR.out ?_)
          | fail)
        go_roundw
        case rel => exact ⟨i + 1, by simp, by omega, by rw [HT.out, List.filter_append, List.filter_cons, if_pos (show decide (f.nm ≠ s) = true from decide_eq_true HE.out), List.filter_nil]; exact HF2⟩
        case measure => simp [RowKit.intOf]; omega
    · obtain rfl : i = X.fs.length := by omega
      obtain ⟨p, cp, hv, hcp⟩ := own_slice hX.row
      rw [hv] at c0
      rw [List.take_of_length_le (Nat.le_refl _), hfs] at hF
      obtain ⟨po, cpo, rfl, hle⟩ := own_slice hF.out.row
      have hok : ∀ f ∈ fs', f.ok X.L w := fun f hf => H.out.ok f (List.mem_filter.1 (hfs ▸ hf)).1
      have hfin := hF.out
      have HW : Hid _ := hfin.fin H.out H0.out hok
      have HC : Hid (Chg [X.m] w (wr.setCell ⟨X.m, 0, none⟩ (.slice po fs'.length cpo))) := hfin.fin1
      clear hX hok hfin
      go_wp2
      go_end0
      exact ⟨rfl, _, HW.out, HC.out⟩
end Wi
end Rg
end Go.Proofs.Ytidicdlfjdlpnaa
end
section
namespace Go.Proofs.Ytidicdlfjdlpnaa
open Go.RowKit
namespace Rg
namespace Wi
set_option maxRecDepth 100000
theorem lst_len {f : Mf} : ∀ (l : List Mf) (p : List Mf × Bool), (l.foldl (lst Mf.nm f) p).1.length ≤ p.1.length + 2 * l.length
  | [], p => by simp
  | x :: r, p => by
    rw [List.foldl_cons]
    refine Nat.le_trans (lst_len r _) ?_
    unfold lst
    split <;> simp <;> omega
theorem lst_mem {f : Mf} : ∀ (l : List Mf) (p : List Mf × Bool) (x : Mf), x ∈ (l.foldl (lst Mf.nm f) p).1 → x ∈ p.1 ∨ x = f ∨ x ∈ l
  | [], p, x, h => .inl h
  | y :: r, p, x, h => by
    rw [List.foldl_cons] at h
    rcases lst_mem r _ x h with h1 | h1 | h1
    · unfold lst at h1
      split at h1
      · simp at h1
        rcases h1 with e | e | e
        · exact .inl e
        · exact .inr (.inl e)
        · exact .inr (.inr (by rw [e]; exact List.mem_cons_self ..))
      · simp at h1
        rcases h1 with e | e
        · exact .inl e
        · exact .inr (.inr (by rw [e]; exact List.mem_cons_self ..))
    · exact .inr (.inl h1)
    · exact .inr (.inr (List.mem_cons_of_mem _ h1))
theorem blt_bytes (a b : ByteArray) : Op.bytesLess a.toList b.toList = blt a b := by
  rw [Go.Proofs.bytesLess_eq, ByteArray.toList_eq, ByteArray.toList_eq]
  rfl
set_option maxHeartbeats 4000000 in
theorem rlaid_any {w0 : World} {X : Dx} (f : Mf) (fs' : List Mf) (hfs : lay Mf.nm f X.fs = fs') (hn : X.fs.length ≤ 1000) (w : World) (hw0 : w0.heap.size ≤ w.heap.size) (h : Dxo w0 X w) (hf0 : f.ok X.L w) :
    Calls Try.prog 98 #[PT X.m 0, .agg #[.string f.nm, .slice f.q.p f.q.n f.q.cp, f.ov, .bool f.old]] w fun e w' => e = .returned (.tuple #[]) ∧ ∃ v, Dxw w0 w X (X.wf v fs') w' := by
  obtain ⟨w1, hw1⟩ : ∃ w1, (w.alloc (.cells #[.string f.nm, .slice f.q.p f.q.n f.q.cp, f.ov, .bool f.old] 148)) = w1 := ⟨_, rfl⟩
  have hb1 : Below w.heap.size w w1 := by rw [← hw1]; exact (Below.refl _ _).alloc (Nat.le_refl _) _
  have hs1 : w.heap.size < w1.heap.size := by rw [← hw1]; simp
  have HB : Hid (∀ i, w1.cell? ⟨w.heap.size, i, none⟩ = (#[.string f.nm, .slice f.q.p f.q.n f.q.cp, f.ov, .bool f.old] : Array Value)[i]?) := fun i => by rw [← hw1]; exact box_at ..
  have H : Hid _ := h.below hb1
  have HW : Hid _ := h
  have H0 : Hid _ := hw0
  have HO : Hid _ := hf0
  have HS : Hid _ := hs1
  have H1 : Hid _ := hb1
  have hfsl := hf0.sl
  clear h hw0 hf0 hs1 hb1
  go_enter Try.func98, Try.ntmps98
  go_wp2
  go_loopw [4, 5, 6] (fun vo vi v wr => ∃ i : Nat, v = .int .i64 (i : Int) ∧ i ≤ X.fs.length ∧ vi = .bool ((X.fs.take i).foldl (lst Mf.nm f) ([], false)).2 ∧ Hid (Fo w1 vo ((X.fs.take i).foldl (lst Mf.nm f) ([], false)).1 wr))
    (fun _ _ v _ => X.fs.length - (RowKit.intOf v).toNat)
  case atStart => exact ⟨0, rfl, Nat.zero_le _, rfl, Fo.start w1⟩
  case round =>
    obtain ⟨i, rfl, hi, rfl, hF⟩ := hrel
    have hX := H.out.below hF.out.b
    have hbx : ∀ i, wr.cell? ⟨w.heap.size, i, none⟩ = (#[.string f.nm, .slice f.q.p f.q.n f.q.cp, f.ov, .bool f.old] : Array Value)[i]? := fun i => (hF.out.b.cell (p := ⟨w.heap.size, i, none⟩) HS.out).trans (HB.out i)
    have b0 : wr.cell? ⟨w.heap.size, 0, none⟩ = some (.string f.nm) := hbx 0
    have b1 : wr.cell? ⟨w.heap.size, 1, none⟩ = some (.slice f.q.p f.q.n f.q.cp) := hbx 1
    have b2 : wr.cell? ⟨w.heap.size, 2, none⟩ = some f.ov := hbx 2
    have b3 : wr.cell? ⟨w.heap.size, 3, none⟩ = some (.bool f.old) := hbx 3
    have c0 := hX.c0
    have fz := hX.fz 0
    by_cases hlt : i < X.fs.length
    · obtain ⟨x, hx⟩ : ∃ x, X.fs[i]? = some x := ⟨_, List.getElem?_eq_getElem hlt⟩
      obtain ⟨g, cp, hv, hcp, k0, k1, k2, k3⟩ := hX.at hx
      have hsl := (hX.ok x (List.mem_of_getElem? hx)).sl
      have hln : ((X.fs.take i).foldl (lst Mf.nm f) ([], false)).1.length ≤ 90000 := Nat.le_trans (lst_len _ _) (by rw [List.length_take]; simp; omega)
      have HT : Hid ((X.fs.take (i + 1)).foldl (lst Mf.nm f) ([], false) = lst Mf.nm f ((X.fs.take i).foldl (lst Mf.nm f) ([], false)) x) := by
        show _ = _
        rw [List.take_add_one, hx, List.foldl_append]
        rfl
      have HX : Hid _ := hx
      rw [hv] at c0
      clear hX hx hbx
      generalize (X.fs.take i).foldl (lst Mf.nm f) ([], false) = P at *
      obtain ⟨l, bl⟩ := P
      dsimp only at *
      have hFd := hF.out.step (bdr wr)
      cases bl with
      | true =>
        obtain ⟨v1, u2, hr1, hF1⟩ := hFd.app x hsl (by omega)
        have HR1 : Hid _ := hr1
        have HF1 : Hid _ := hF1
        clear hr1 hF1 hFd
        go_wp2
        go_region
        all_goals go_wp2_with (first
          | (at_builtin; refine wpl_app rfl _ _ 101 rfl _ (.slice (some ⟨wr.drew.heap.size, 0, none⟩) 1 1) v1 rfl rfl HR1.out ?_)
          | fail)
        exact ⟨⟨i + 1, by simp, by omega, by rw [HT.out]; rfl, by rw [HT.out]; exact HF1⟩, by simp [RowKit.intOf]; omega⟩
      | false =>
        cases hbl : blt f.nm x.nm with
        | false =>
          have he : Op.bytesLess f.nm.toList x.nm.toList = false := by rw [blt_bytes, hbl]
          have hls : lst Mf.nm f (l, false) x = (l ++ [x], false) := by unfold lst; simp [hbl]
          have HLS : Hid _ := hls
          obtain ⟨v1, u2, hr1, hF1⟩ := hFd.app x hsl (by omega)
          have HR1 : Hid _ := hr1
          have HF1 : Hid _ := hF1
          clear hr1 hF1 hFd hls hbl
          go_wp2
          go_region
          all_goals go_wp2_with (first
            | (at_builtin; refine wpl_app rfl _ _ 101 rfl _ (.slice (some ⟨wr.drew.heap.size, 0, none⟩) 1 1) v1 rfl rfl HR1.out ?_)
            | fail)
          exact ⟨⟨i + 1, by simp, by omega, by rw [HT.out, HLS.out], by rw [HT.out, HLS.out]; exact HF1⟩, by simp [RowKit.intOf]; omega⟩
        | true =>
          have he : Op.bytesLess f.nm.toList x.nm.toList = true := by rw [blt_bytes, hbl]
          have hls : lst Mf.nm f (l, false) x = (l ++ [f] ++ [x], true) := by unfold lst; simp [hbl]
          have HLS : Hid _ := hls
          obtain ⟨v1, u2, hr1, hF1⟩ := hFd.app f hfsl (by omega)
          have hX2 := H.out.below hF1.b
          have c0' := hX2.c0
          rw [hv] at c0'
          obtain ⟨g', cp', hv', hcp', k0', k1', k2', k3'⟩ := hX2.at HX.out
          rw [hv] at hv'
          injection hv' with hv1 hv2 hv3
          injection hv1 with hv1
          injection hv1 with hv1
          subst hv1
          clear hv2 hv3
          obtain ⟨v2, u3, hr2, hF2⟩ := hF1.app x hsl (by simp; omega)
          have HR1 : Hid _ := hr1
          have HR2 : Hid _ := hr2
          have HF2 : Hid _ := hF2
          clear hr1 hF1 hFd hls hbl hr2 hF2 hX2
          go_wp2
          go_region
          all_goals go_wp2_with (first
            | (at_builtin; refine wpl_app rfl _ _ 101 rfl _ (.slice (some ⟨wr.drew.heap.size, 0, none⟩) 1 1) v1 rfl rfl HR1.out ?_)
            | (at_builtin; refine wpl_app rfl _ _ 101 rfl _ (.slice (some ⟨u2.heap.size, 0, none⟩) 1 1) v2 rfl rfl HR2.out ?_)
            | fail)
          exact ⟨⟨i + 1, by simp, by omega, by rw [HT.out, HLS.out], by rw [HT.out, HLS.out]; exact HF2⟩, by simp [RowKit.intOf]; omega⟩
    · obtain rfl : i = X.fs.length := by omega
      obtain ⟨p, cp, hv, hcp⟩ := own_slice hX.row
      rw [hv] at c0
      rw [List.take_of_length_le (Nat.le_refl _)] at hF ⊢
      have hmem : ∀ x ∈ (X.fs.foldl (lst Mf.nm f) ([], false)).1, x.ok X.L w1 := fun x hx => by
        rcases lst_mem _ _ x hx with e | e | e
        · cases e
        · subst e; exact HO.out.below H1.out
        · exact (HW.out.ok x e).below H1.out
      have hln : (X.fs.foldl (lst Mf.nm f) ([], false)).1.length ≤ 90000 := Nat.le_trans (lst_len _ _) (by simp; omega)
      unfold lay at hfs
      generalize X.fs.foldl (lst Mf.nm f) ([], false) = P at *
      obtain ⟨l, bl⟩ := P
      dsimp only at *
      cases bl with
      | true =>
        rw [if_pos rfl] at hfs
        subst hfs
        obtain ⟨po, cpo, rfl, hle⟩ := own_slice hF.out.row
        have HFn : Hid _ := (Dxw.of HW.out H1.out).trans (hF.out.fin H.out (Nat.le_trans H0.out H1.out.size) hmem)
        clear hX hmem hbx
        go_wp2
        go_end0
        exact ⟨rfl, _, HFn.out⟩
      | false =>
        rw [if_neg (by decide)] at hfs
        subst hfs
        obtain ⟨v1, u2, hr1, hF1⟩ := hF.out.app f hfsl (by omega)
        obtain ⟨po, cpo, hv1, hle⟩ := own_slice hF1.row
        rw [List.length_append, List.length_singleton] at hv1
        subst hv1
        have hX2 := H.out.below hF1.b
        have c0' := hX2.c0
        have fz' := hX2.fz 0
        have HFn : Hid _ := (Dxw.of HW.out H1.out).trans (hF1.fin H.out (Nat.le_trans H0.out H1.out.size) (fun x hx => by
          rcases List.mem_append.1 hx with e | e
          · exact hmem x e
          · rw [List.mem_singleton.1 e]; exact HO.out.below H1.out))
        have HR1 : Hid _ := hr1
        clear hX hmem hbx hr1 hF1 hX2
        go_wp2_with (first
          | (at_builtin; refine wpl_app rfl _ _ 101 rfl _ (.slice (some ⟨wr.heap.size, 0, none⟩) 1 1) (.slice po (l.length + 1) cpo) rfl rfl HR1.out ?_)
          | fail)
        go_end0
        exact ⟨rfl, _, HFn.out⟩
end Wi
end Rg
end Go.Proofs.Ytidicdlfjdlpnaa
end
