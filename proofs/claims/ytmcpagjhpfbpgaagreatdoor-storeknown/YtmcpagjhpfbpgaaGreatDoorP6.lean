/- Texts of the proof, joined. -/
import Derived.Test.YtmcpagjhpfbpgaaGreatDoorP5
import Derived.Laws.Shifts
import Derived.Laws.Bits64b
import Derived.Laws.Unary
section
namespace Go.Proofs.YtmcpagjhpfbpgaaGreatDoor
open Go.RowKit
namespace Rg
namespace Wi
set_option maxRecDepth 100000
section
variable {ρ : Operand → Value} {o : Oper} {x y : Operand} {g off j m c : Nat} {w : World}
theorem ex_mkM59 (ho : o.op = .makeMap 59 none) : (execOp ρ o).run Tryz.prog w = .ok (.value (.map (some w.heap.size))) (w.alloc (.map #[] 0)) := by
  simp only [execOp, ho]
  simp [run_makeMap]
theorem ex_mkM60 (ho : o.op = .makeMap 60 none) : (execOp ρ o).run Tryz.prog w = .ok (.value (.map (some w.heap.size))) (w.alloc (.map #[] 0)) := by
  simp only [execOp, ho]
  simp [run_makeMap]
theorem ex_ixN {p : Option Addr} (he : p = some ⟨g, off, none⟩) (ho : o.op = .indexAddr 22 x y) (hx : ρ x = .slice p m c) (hy : ρ y = .int .i64 ((j : Nat) : Int)) (h : j < m) : (execOp ρ o).run Tryz.prog w = .ok (.value (PT g (off + j))) w := by
  subst he
  simp only [execOp, ho, hx, hy]
  clear ho hx hy
  go_simp
theorem ex_ldN {a : Int} (c0 : w.cell? ⟨g, off, none⟩ = some (.int .i64 a)) (ho : o.op = .load 3 x) (hx : ρ x = PT g off) : (execOp ρ o).run Tryz.prog w = .ok (.value (.int .i64 a)) w := by
  simp only [execOp, ho, hx]
  clear ho hx
  go_simp
end
/-- A disk under way to be made. -/
structure Nm1 (w : World) (mb : Nat) (u : World) : Prop where
  b : Below w.heap.size w u
  nm : w.heap.size ≤ mb
  mp : u.ownsMap Tryz.prog 9 RF mb 0 (.map [])
structure Nm2 (w : World) (mb rb : Nat) (u : World) : Prop where
  one : Nm1 w mb u
  nr : mb < rb
  rm : u.ownsMap Tryz.prog 3 RU rb 0 (.map [])
/-- A disk without files, that is made. -/
structure Nw (w : World) (d mb rb : Nat) (rf : Nat → Bool) (m : Nat) (u : World) : Prop where
  two : Nm1 w mb u
  nr : mb < rb
  nd : rb < d
  cel : Mm u [(d, [Value.map (some mb), Value.map (some rb), Value.int .i64 0])]
  rm : ∃ Y, u.ownsMap Tryz.prog 3 RU rb m Y ∧ ∀ i : Nat, i < 4611686018427387905 → Maps.has Y (.int .i64 (i : Int)) = rf i
section
variable {w u u' : World} {d mb rb m : Nat} {rf : Nat → Bool}
theorem Nm1.step (h : Nm1 w mb u) (hb : Below u.heap.size u u') : Nm1 w mb u' := ⟨h.b.trans (hb.mono h.b.size), h.nm, ownMap_keep h.mp (hb.block _ h.mp.lt)⟩
theorem Nm1.start (h : Below w.heap.size w u) : Nm1 w u.heap.size (u.alloc (.map #[] 0)) := ⟨h.alloc h.size _, h.size, World.ownsMap_made _ _ _ _⟩
theorem Nm2.step (h : Nm2 w mb rb u) (hb : Below u.heap.size u u') : Nm2 w mb rb u' := ⟨h.one.step hb, h.nr, ownMap_keep h.rm (hb.block _ h.rm.lt)⟩
theorem Nm2.start (h : Nm1 w mb u) : Nm2 w mb u.heap.size (u.alloc (.map #[] 0)) := ⟨h.step ((Below.refl _ _).alloc (Nat.le_refl _) _), h.mp.lt, World.ownsMap_made _ _ _ _⟩
theorem Nw.step (h : Nw w d mb rb rf m u) (hb : Below u.heap.size u u') : Nw w d mb rb rf m u' := by
  obtain ⟨Y, y1, y2⟩ := h.rm
  exact ⟨h.two.step hb, h.nr, h.nd, h.cel.below hb, Y, ownMap_keep y1 (hb.block _ y1.lt), y2⟩
theorem Nw.start (h : Nm2 w mb rb u) (t : TypeId) : Nw w u.heap.size mb rb (fun _ => false) 0 (u.alloc (.cells ([Value.map (some mb), Value.map (some rb), Value.int .i64 0] : List Value).toArray t)) := by
  have hb : Below u.heap.size u (u.alloc (.cells ([Value.map (some mb), Value.map (some rb), Value.int .i64 0] : List Value).toArray t)) := (Below.refl _ _).alloc (Nat.le_refl _) _
  have h2 := h.step hb
  exact ⟨h2.one, h2.nr, h.rm.lt, (Mm.nil u).alloc _ _ rfl, _, h2.rm, fun _ _ => rfl⟩
theorem Nw.ref (h : Nw w d mb rb rf m u) (i : Int) (hw : (Lit.int .i64 i).wf = true) (hm : m < 1000000) : ∃ u', (Instr.mapUpdate 60 (.map (some rb)) (.int .i64 i) (.agg ([] : List Value).toArray)).run Tryz.prog u = .ok () u' ∧ Nw w d mb rb (fun j => decide ((j : Int) = i) || rf j) (m + 1) u' := by
  obtain ⟨Y, y1, y2⟩ := h.rm
  obtain ⟨u', hr, hm2, hg⟩ := y1.update (Maps.int_keyed Tryz.underlying3) Tryz.underlying60 (by unfold maxLen; omega) (Maps.keyOf_int_mk Tryz.underlying3 hw) (show RU (.agg ([] : List Value).toArray) = some (.nil, []) from rfl)
  have hc : Chg [rb] u u' := Chg.grown hg
  have h1 := h.nr
  have h2 := h.nd
  refine ⟨u', hr, ⟨h.two.b.trans (hc.toBelow (fun x hx => by have := h.two.nm; rw [List.mem_singleton.1 hx]; omega) h.two.b.size), h.two.nm, ownMap_keep h.two.mp (hc.block _ h.two.mp.lt (fun hx => by have := List.mem_singleton.1 hx; omega))⟩, h1, h2, hc.mm h.cel (fun p hp hx => by obtain rfl := List.mem_singleton.1 hp; have := List.mem_singleton.1 hx; omega), _, hm2, fun j hj => ?_⟩
  by_cases e : (j : Int) = i
  · subst e
    rw [Maps.has_put_same y1.isMap (Maps.int_keyed Tryz.underlying3 |>.key (Maps.keyOf_int_mk Tryz.underlying3 hw))]
    simp
  · rw [Maps.has_put_other (fun e2 => e (by injection e2)), y2 j hj, decide_eq_false e, Bool.false_or]
theorem Nw.disk (h : Nw w d mb rb rf m u) : DOk u ⟨d, mb, rb, 0, [], rf⟩ := by
  have h1 := h.nr
  have h2 := h.nd
  obtain ⟨Y, y1, y2⟩ := h.rm
  exact ⟨h.cel, ⟨_, h.two.mp, fun _ => rfl, fun _ => rfl, rfl⟩, ⟨m, Y, y1, y2⟩, fun f hf => (by cases hf), fun f hf => (by cases hf), fun f hf => (by cases hf), ⟨(show d ≠ mb by omega), (show d ≠ rb by omega), (show mb ≠ rb by omega)⟩, List.nodup_nil, (show 0 < 4611686018427387904 by decide), (show 0 ≤ 64 by decide)⟩
end
/-- Which numbers are refused. -/
def rff (F : Nat → Int) : Nat → Nat → Bool
  | 0 => fun _ => false
  | k + 1 => fun j => decide ((j : Int) = F k) || rff F k j
set_option maxHeartbeats 2000000 in
set_option maxRecDepth 100000 in
theorem New_any (p : Option Addr) (n cp g of : Nat) (F : Nat → Int) (hn : n ≤ 4096) (w : World) (hp0 : 0 < n → p = some ⟨g, of, none⟩) (hcl0 : ∀ i, i < n → g < w.heap.size ∧ w.cell? ⟨g, of + i, none⟩ = some (.int .i64 (F i)) ∧ (Lit.int .i64 (F i)).wf = true) :
    Calls Tryz.prog 8 #[.slice p n cp] w fun e w' => ∃ d mb rb, e = .returned (.tuple #[PT d 0, .int .i64 0]) ∧ Nw w d mb rb (rff F n) n w' := by
  have H0 : Hid (_ ∧ _) := ⟨Mm.nil w, Below.refl w.heap.size w⟩
  have hp : Hid _ := hp0
  have hcl : Hid _ := hcl0
  clear hp0 hcl0
  go_enter Tryz.func8, Tryz.ntmps8
  refine wp_seq ?_
  refine sq_startW (l := [0, 1]) rfl (fun u0 hu0 => ?_)
  have H1 : Hid (Mm u0 [] ∧ Below w.heap.size w u0) := by rw [hu0]; exact H0
  clear hu0 H0
  refine rest_set (d := 2) (v := .pointer none) (w' := u0) rfl rfl rfl (rfl) ?_
  simp only [Act.put, sa, sz, ss]
  refine rest_set (d := 3) (v := .int .i64 0) (w' := u0) rfl rfl rfl (rfl) ?_
  simp only [Act.put, sa, sz, ss]
  refine rest_nil (then_normal ?_)
  refine wp_seq (wp_seq ?_)
  refine sq_start (l := [0, 1, 2]) rfl ?_
  refine rest_set (d := 7) (v := .slice p n cp) (w' := u0) rfl rfl rfl (rfl) ?_
  simp only [Act.put, sa, sz, ss]
  refine rest_set (d := 8) (v := .int .i64 ((n : Nat) : Int)) (w' := u0) rfl rfl rfl (by go_simp) ?_
  simp only [Act.put, sa, sz, ss]
  refine rest_set (d := 9) (v := .bool false) (w' := u0) rfl rfl rfl (by go_simp <;> omega) ?_
  simp only [Act.put, sa, sz, ss]
  refine rest_nil (then_normal ?_)
  refine wp_cond_false rfl (wp_skip ?_)
  refine then_normal (wp_seq ?_)
  refine sq_start (l := [0, 1, 2, 3, 4]) rfl ?_
  refine rest_set (d := 10) (v := .map (some u0.heap.size)) (w' := (u0.alloc (.map #[] 0))) rfl rfl rfl (ex_mkM59 rfl) ?_
  simp only [Act.put, sa, sz, ss]
  have H2 : Hid (Mm (u0.alloc (.map #[] 0)) [] ∧ Nm1 w u0.heap.size (u0.alloc (.map #[] 0))) := ⟨Mm.nil _, Nm1.start H1.out.2⟩
  clear H1
  generalize hgw : u0.alloc (.map #[] 0) = w2 at H2 ⊢
  clear hgw
  generalize u0.heap.size = mb at H2 ⊢
  refine rest_set (d := 11) (v := .map (some w2.heap.size)) (w' := (w2.alloc (.map #[] 0))) rfl rfl rfl (ex_mkM60 rfl) ?_
  simp only [Act.put, sa, sz, ss]
  have H3 : Hid (Mm (w2.alloc (.map #[] 0)) [] ∧ Nm2 w mb w2.heap.size (w2.alloc (.map #[] 0))) := ⟨Mm.nil _, Nm2.start H2.out.2⟩
  clear H2
  generalize hgw : w2.alloc (.map #[] 0) = w3 at H3 ⊢
  clear hgw
  generalize w2.heap.size = rb at H3 ⊢
  refine rest_set (d := 12) (v := .agg ([Value.map (some mb), Value.map (some rb), Value.int .i64 0]).toArray) (w' := w3) rfl rfl rfl (by kernel_rfl) ?_
  simp only [Act.put, sa, sz, ss]
  refine rest_set (d := 13) (v := PT w3.heap.size 0) (w' := (w3.alloc (.cells ([Value.map (some mb), Value.map (some rb), Value.int .i64 0] : List Value).toArray 62))) rfl rfl rfl (ex_boxT rfl rfl) ?_
  simp only [Act.put, sa, sz, ss]
  have H4 : Hid (Mm (w3.alloc (.cells ([Value.map (some mb), Value.map (some rb), Value.int .i64 0] : List Value).toArray 62)) [] ∧ Nw w w3.heap.size mb rb (fun _ => false) 0 (w3.alloc (.cells ([Value.map (some mb), Value.map (some rb), Value.int .i64 0] : List Value).toArray 62))) := ⟨Mm.nil _, Nw.start H3.out.2 _⟩
  clear H3
  generalize hgw : w3.alloc (.cells ([Value.map (some mb), Value.map (some rb), Value.int .i64 0] : List Value).toArray 62) = w4 at H4 ⊢
  clear hgw
  generalize w3.heap.size = d at H4 ⊢
  refine rest_set (d := 4) (v := PT d 0) (w' := w4) rfl rfl rfl (rfl) ?_
  simp only [Act.put, sa, sz, ss]
  refine rest_nil (then_normal ?_)
  refine wp_seq (wp_seq ?_)
  refine sq_start (l := [0, 1, 2]) rfl ?_
  refine rest_set (d := 14) (v := .slice p n cp) (w' := w4) rfl rfl rfl (rfl) ?_
  simp only [Act.put, sa, sz, ss]
  refine rest_set (d := 15) (v := .int .i64 ((n : Nat) : Int)) (w' := w4) rfl rfl rfl (by go_simp) ?_
  simp only [Act.put, sa, sz, ss]
  refine rest_set (d := 16) (v := .int .i64 0) (w' := w4) rfl rfl rfl (rfl) ?_
  simp only [Act.put, sa, sz, ss]
  refine rest_nil (then_normal (wp_block ?_))
  refine loop_ghost (α := Nat) (fun x a' w' => ∃ s0 : Nat → Value, a' = ⟨#[.slice p n cp, undef, .pointer none, .int .i64 0, PT d 0, undef, s0 6, .slice p n cp, .int .i64 ((n : Nat) : Int), .bool false, .map (some mb), .map (some rb), .agg ([Value.map (some mb), Value.map (some rb), Value.int .i64 0]).toArray, PT d 0, .slice p n cp, .int .i64 ((n : Nat) : Int), .int .i64 ((x : Nat) : Int), s0 17, s0 18, s0 19, s0 20, s0 21, s0 22, s0 23, s0 24, s0 25, s0 26, undef], []⟩ ∧ (Mm w' [] ∧ Nw w d mb rb (rff F x) x w') ∧ x ≤ n) (fun x => n - x) 0 ?st0 ?rd0
  case st0 => exact ⟨(slotfn [undef, undef, undef, undef, undef, undef, undef, undef, undef, undef, undef, undef, undef, undef, undef, undef, undef, undef, undef, undef, undef, undef, undef, undef, undef, undef, undef]), rfl, ⟨H4.out.1, H4.out.2⟩, Nat.zero_le _⟩
  intro x a' w5 hI
  obtain ⟨s0, rfl, hMB, hk0⟩ := hI
  have H5 : Hid (_ ∧ _) := hMB
  clear hMB H4
  by_cases hltx : x < n
  · have hrd : True := trivial
    clear hrd
    refine wp_seq ?_
    refine sq_start (l := [0]) rfl ?_
    refine rest_set (d := 17) (v := .bool true) (w' := w5) rfl rfl rfl (by go_simp <;> omega) ?_
    simp only [Act.put, sa, sz, ss]
    refine rest_nil (then_normal ?_)
    refine wp_seq (wp_cond_true rfl ?_)
    refine wp_skip (then_normal ?_)
    refine wp_seq (wp_block (wp_seq ?_))
    refine sq_start (l := [0, 1, 2]) rfl ?_
    refine rest_set (d := 18) (v := PT g (of + x)) (w' := w5) rfl rfl rfl (ex_ixN (hp.out (by omega)) rfl rfl rfl (by omega)) ?_
    simp only [Act.put, sa, sz, ss]
    refine rest_set (d := 19) (v := .int .i64 (F x)) (w' := w5) rfl rfl rfl (ex_ldN ((H5.out.2.two.b.cell (p := ⟨g, _, none⟩) (hcl.out x (by omega)).1).trans (hcl.out x (by omega)).2.1) rfl rfl) ?_
    simp only [Act.put, sa, sz, ss]
    refine rest_set (d := 6) (v := .int .i64 (F x)) (w' := w5) rfl rfl rfl (rfl) ?_
    simp only [Act.put, sa, sz, ss]
    refine rest_nil (then_normal ?_)
    refine sq_start (l := [0, 1, 2, 3, 4, 5, 6]) rfl ?_
    refine rest_set (d := 20) (v := PT d 0) (w' := w5) rfl rfl rfl (rfl) ?_
    simp only [Act.put, sa, sz, ss]
    refine rest_set (d := 21) (v := PT d 0) (w' := w5) rfl rfl rfl (by go_simp) ?_
    simp only [Act.put, sa, sz, ss]
    refine rest_set (d := 22) (v := PT d 1) (w' := w5) rfl rfl rfl (by go_simp) ?_
    simp only [Act.put, sa, sz, ss]
    refine rest_set (d := 23) (v := .map (some rb)) (w' := w5) rfl rfl rfl (ex_loadC H5.out.2.cel 0 rfl rfl rfl Tryz.isAgg60 rfl) ?_
    simp only [Act.put, sa, sz, ss]
    refine rest_set (d := 24) (v := .int .i64 (F x)) (w' := w5) rfl rfl rfl (rfl) ?_
    simp only [Act.put, sa, sz, ss]
    refine rest_set (d := 25) (v := .agg (([] : List Value)).toArray) (w' := w5) rfl rfl rfl (by kernel_rfl) ?_
    simp only [Act.put, sa, sz, ss]
    obtain ⟨w6, hr9, hI9⟩ := H5.out.2.ref (F x) (hcl.out x (by omega)).2.2 (by omega)
    refine rest_store rfl rfl rfl (ex_mup hr9 rfl rfl rfl rfl) ?_
    have H6 : Hid (Mm w6 [] ∧ Nw w d mb rb (rff F (x + 1)) (x + 1) w6) := ⟨Mm.nil _, hI9⟩
    clear hr9 hI9 H5
    refine rest_nil (block_normal (then_normal ?_))
    refine sq_start (l := [0, 1]) rfl ?_
    refine rest_set (d := 26) (v := .int .i64 ((x + 1 : Nat) : Int)) (w' := w6) rfl rfl rfl (by go_simp; rw [IntKind.wrap_i64]; omega) ?_
    simp only [Act.put, sa, sz, ss]
    refine rest_set (d := 16) (v := .int .i64 ((x + 1 : Nat) : Int)) (w' := w6) rfl rfl rfl (rfl) ?_
    simp only [Act.put, sa, sz, ss]
    refine rest_nil (then_normal ?_)
    exact ⟨x + 1, ⟨(slotfn [undef, undef, undef, undef, undef, undef, .int .i64 (F x), undef, undef, undef, undef, undef, undef, undef, undef, undef, undef, .bool true, PT g (of + x), .int .i64 (F x), PT d 0, PT d 0, PT d 1, .map (some rb), .int .i64 (F x), .agg (([] : List Value)).toArray, .int .i64 ((x + 1 : Nat) : Int)]), rfl, ⟨H6.out.1, H6.out.2⟩, (show x + 1 ≤ n by omega)⟩, (show n - (x + 1) < n - x by omega)⟩
  refine wp_seq ?_
  refine sq_start (l := [0]) rfl ?_
  refine rest_set (d := 17) (v := .bool false) (w' := w5) rfl rfl rfl (by go_simp <;> omega) ?_
  simp only [Act.put, sa, sz, ss]
  refine rest_nil (then_normal ?_)
  refine wp_seq (wp_cond_false rfl ?_)
  refine wp_exit ?_
  repeat refine then_exit ?_
  refine block_exit ?_
  have hxn : x = n := by omega
  refine then_normal (wp_seq ?_)
  refine sq_start (l := [0, 1, 2]) rfl ?_
  refine rest_set (d := 27) (v := PT d 0) (w' := w5) rfl rfl rfl (rfl) ?_
  simp only [Act.put, sa, sz, ss]
  refine rest_set (d := 2) (v := PT d 0) (w' := w5) rfl rfl rfl (rfl) ?_
  simp only [Act.put, sa, sz, ss]
  refine rest_set (d := 3) (v := .int .i64 0) (w' := w5) rfl rfl rfl (rfl) ?_
  simp only [Act.put, sa, sz, ss]
  refine rest_nil (then_normal (wp_ret ?_))
  repeat (first | refine then_ret ?_ | refine block_ret ?_)
  refine bodyPost_ret (v := .tuple #[PT d 0, .int .i64 0]) (by simp [results, Tryz.results8, go_sem, *]) rfl ?_
  exact ⟨_, _, _, rfl, by rw [← hxn]; exact H5.out.2⟩
theorem New_nil (w : World) : Calls Tryz.prog 8 #[.slice none 0 0] w fun e w' => ∃ d mb rb, e = .returned (.tuple #[PT d 0, .int .i64 0]) ∧ Nw w d mb rb (fun _ => false) 0 w' := New_any none 0 0 0 0 (fun _ => 0) (by decide) w (fun h => absurd h (by decide)) (fun i hi => absurd hi (Nat.not_lt_zero _))
end Wi
end Rg
end Go.Proofs.YtmcpagjhpfbpgaaGreatDoor
end
section
namespace Go.Proofs.YtmcpagjhpfbpgaaGreatDoor
open Go.RowKit
namespace Rg
namespace Wi
set_option maxRecDepth 100000
section
variable (D : Dq) (s : ByteArray) (q : Pt8) (w : World)
theorem Dw.co {D : Dq} {w : World} {r : Int} (h : DOk w D) (hk : D.k + 1 < 4611686018427387904) (hr : (if D.no then (13 : Int) else 0) = r) : ∀ u, Below w.heap.size w u → Calls Tryz.prog 87 #[PT D.d 0] u fun e u' => e = .returned (.int .i64 r) ∧ Dw w D D.tick u' := fun u hu =>
  (count_f D u (h.below hu) hk).mono fun e u' hh => ⟨by rw [hh.1, ← hr], hh.2.1, (Chg.of hu).trans hh.2.2 (fun x hx => .inl hx), fun x hx => .inl hx⟩
theorem below_on {w : World} : ∀ u u', Below w.heap.size w u → Below u.heap.size u u' → Below w.heap.size w u' := fun _ _ h1 h2 => h1.trans (h2.mono h1.size)
theorem Append_no_f (h : DOk w D) (hk : D.k + 1 < 4611686018427387904) (hno : D.no = true) : Calls Tryz.prog 35 #[PT D.d 0, .string s, .slice q.p q.n q.cp] w fun e w' => e = .returned (.int .i64 13) ∧ Dw w D D.tick w' :=
  Append_no D.d s q (fun u => Below w.heap.size w u) (Dw w D D.tick) w (Below.refl _ _) below_on Dw.step (Dw.co h hk (by rw [hno]; rfl))
theorem nm_is (c : Bool) (h : nmd s = c) {I : World → Prop} : ∀ u, I u → Calls Tryz.prog 88 #[.string s] u fun e u' => e = .returned (.bool c) ∧ Below u.heap.size u u' := fun u _ => (named_any s u).mono fun e u' hh => ⟨by rw [hh.1, h], hh.2⟩
theorem Append_bad_f (h : DOk w D) (hk : D.k + 1 < 4611686018427387904) (hno : D.no = false) (hnm : nmd s = false) : Calls Tryz.prog 35 #[PT D.d 0, .string s, .slice q.p q.n q.cp] w fun e w' => e = .returned (.int .i64 2) ∧ Dw w D D.tick w' :=
  Append_bad D.d s q (fun u => Below w.heap.size w u) (Dw w D D.tick) w (Below.refl _ _) below_on Dw.step (Dw.co h hk (by rw [hno]; rfl)) (nm_is s false hnm)
theorem Dw.lk {D : Dq} {w : World} {s : ByteArray} (hsz : s.size ≤ maxLen) {x : Option Fq} (hl : lk D.fs s = x) : ∀ u, Dw w D D.tick u → (Instr.lookup 59 (.map (some D.mb)) (.string s) false).run Tryz.prog u = .ok (pv x) u := fun u hu => by
  have e := hu.1.look (u := u) s hsz rfl
  rw [show Wi.lk D.tick.fs s = x from hl] at e
  exact e
theorem Append_long_f (h : DOk w D) (hk : D.k + 1 < 4611686018427387904) (hno : D.no = false) (hnm : nmd s = true) (hsz : s.size ≤ maxLen) (f : Fq) (hl : lk D.fs s = some f) (hq : q.n ≤ 281474976710656) (hL : 1048576 < f.N + q.n) : Calls Tryz.prog 35 #[PT D.d 0, .string s, .slice q.p q.n q.cp] w fun e w' => e = .returned (.int .i64 3) ∧ Dw w D D.tick w' :=
  have hm := (lk_mem hl).1
  Append_long D.d s q D.mb D.rb f.g f.N ((D.k + 1 : Nat) : Int) (h.fl f hm).N1 hq hL (fun u => Below w.heap.size w u) (Dw w D D.tick) w (Below.refl _ _) below_on Dw.step (Dw.co h hk (by rw [hno]; rfl)) (nm_is s true hnm) (fun u hu => hu.1.cel) (Dw.lk hsz hl) (fun u hu => size_f f u (hu.1.fl f hm))
theorem Dw.len {D : Dq} {w : World} : ∀ u, Dw w D D.tick u → ∀ ty, (Builtin.len_ #[59] ty #[.map (some D.mb)]).run Tryz.prog u = .ok (.int .i64 ((D.fs.length : Nat) : Int)) u := fun u hu ty => by
  obtain ⟨X, x1, _, _, x4⟩ := hu.1.mp
  have e := x1.len Tryz.underlying59 ty
  rw [x4] at e
  exact e
theorem Append_full_f (h : DOk w D) (hk : D.k + 1 < 4611686018427387904) (hno : D.no = false) (hnm : nmd s = true) (hsz : s.size ≤ maxLen) (hl : lk D.fs s = none) (hL : 64 ≤ D.fs.length) : Calls Tryz.prog 35 #[PT D.d 0, .string s, .slice q.p q.n q.cp] w fun e w' => e = .returned (.int .i64 8) ∧ Dw w D D.tick w' :=
  Append_full D.d s q D.mb D.rb D.fs.length ((D.k + 1 : Nat) : Int) hL (fun u => Below w.heap.size w u) (Dw w D D.tick) w (Below.refl _ _) below_on Dw.step (Dw.co h hk (by rw [hno]; rfl)) (nm_is s true hnm) (fun u hu => hu.1.cel) (Dw.lk hsz hl) Dw.len
theorem Append_newlong_f (h : DOk w D) (hk : D.k + 1 < 4611686018427387904) (hno : D.no = false) (hnm : nmd s = true) (hsz : s.size ≤ maxLen) (hl : lk D.fs s = none) (h64 : D.fs.length < 64) (hq : q.n ≤ 281474976710656) (hL : 1048576 < q.n) : Calls Tryz.prog 35 #[PT D.d 0, .string s, .slice q.p q.n q.cp] w fun e w' => e = .returned (.int .i64 3) ∧ Dw w D D.tick w' := by
  refine (Append_newlong D.d D.mb D.rb D.fs.length 0 s q ((D.k + 1 : Nat) : Int) h64 (Nat.zero_le _) hq (by omega) (fun u => Below w.heap.size w u) (Dw w D D.tick) (fun g u => Dw w D D.tick u ∧ FOk u (newF s g)) w (Below.refl _ _) below_on Dw.step (fun g u u' hu hb => ⟨Dw.step _ _ hu.1 hb, hu.2.below hb⟩) (Dw.co h hk (by rw [hno]; rfl)) (nm_is s true hnm) (fun u hu => hu.1.cel) (Dw.lk hsz hl) Dw.len (fun u hu => ?_) (fun g u hu => size_f (newF s g) u hu.2)).mono fun e w' hh => ?_
  · exact ⟨Dw.step _ _ hu ((Below.refl _ _).alloc (Nat.le_refl _) _), newF_ok s ((Mm.nil u).alloc _ _ rfl)⟩
  · obtain ⟨e1, g, e2, _⟩ := hh
    exact ⟨e1, e2⟩
end
end Wi
end Rg
end Go.Proofs.YtmcpagjhpfbpgaaGreatDoor
end
section
namespace Go.Proofs.YtmcpagjhpfbpgaaGreatDoor
open Go.RowKit
namespace Rg
namespace Wi
set_option maxRecDepth 100000
/-- A row's bytes as a list. -/
def bs (n : Nat) (f : Nat → Nat) : List Nat := (List.range n).map f
theorem bs_len (n : Nat) (f : Nat → Nat) : (bs n f).length = n := by simp [bs]
theorem bs_get {n i : Nat} (f : Nat → Nat) (h : i < n) : (bs n f)[i]? = some (f i) := by simp [bs, h]
theorem bs_cg {n : Nat} {f g : Nat → Nat} (h : ∀ i, i < n → f i = g i) : bs n f = bs n g := by
  unfold bs
  exact List.map_congr_left fun i hi => h i (List.mem_range.1 hi)
theorem bs_eq {n m : Nat} {f g : Nat → Nat} (h : bs n f = bs m g) : n = m ∧ ∀ i, i < n → f i = g i := by
  have e : n = m := by have := congrArg List.length h; rwa [bs_len, bs_len] at this
  subst e
  refine ⟨rfl, fun i hi => ?_⟩
  have := congrArg (fun l => l[i]?) h
  simp only [bs_get f hi, bs_get g hi] at this
  exact Option.some.inj this
theorem bs_take {n m : Nat} (f : Nat → Nat) (h : m ≤ n) : (bs n f).take m = bs m f := by
  unfold bs
  rw [← List.map_take, List.take_range, Nat.min_eq_left h]
theorem bs_add (n m : Nat) (f : Nat → Nat) : bs (n + m) f = bs n f ++ bs m (fun j => f (n + j)) := by
  unfold bs
  rw [List.range_add, List.map_append, List.map_map]
  rfl
theorem bs_ct {N st m : Nat} {X g : Nat → Nat} (h : st ≤ N) : bs (st + m) (ct X st g) = (bs N X).take st ++ bs m g := by
  rw [bs_add, bs_take X h]
  congr 1
  · exact bs_cg fun i hi => by unfold ct; rw [if_pos hi]
  · exact bs_cg fun i hi => by unfold ct; rw [if_neg (by omega)]; congr 1; omega
/-- A file: its safe bytes, its operations under way. -/
structure Af where
  nm : ByteArray
  sf : List Nat
  ops : List (Nat × List Nat)
  fr : Bool
/-- What operations make of bytes. -/
def ctn (c : List Nat) (ops : List (Nat × List Nat)) : List Nat := ops.foldl (fun c o => c.take o.1 ++ o.2) c
def Af.cn (f : Af) : List Nat := ctn f.sf f.ops
structure Ad where
  k : Nat
  fs : List Af
  rf : Nat → Bool
def uab (o : Uop) : Nat × List Nat := (o.st, bs o.q.n o.q.f)
def Fq.ab (f : Fq) : Af := ⟨f.nm, bs f.n f.P, f.ops.map uab, f.fr⟩
def Dq.ab (D : Dq) : Ad := ⟨D.k, D.fs.map Fq.ab, D.rf⟩
def Ad.lk (A : Ad) (s : ByteArray) : Option Af := A.fs.find? (fun f => decide (f.nm = s))
def Ad.no (A : Ad) : Bool := A.rf (A.k + 1)
def Ad.tick (A : Ad) : Ad := ⟨A.k + 1, A.fs, A.rf⟩
def Ad.swap (A : Ad) (s : ByteArray) (f : Af) : Ad := ⟨A.k, A.fs.map (fun x => if x.nm = s then f else x), A.rf⟩
def Af.more (f : Af) (n : Nat) (b : List Nat) : Af := ⟨f.nm, f.sf, f.ops ++ [(n, b)], f.fr⟩
def Af.dn (f : Af) (a : Int) : Nat := min a.toNat f.ops.length
def Af.tl (f : Af) (a b : Int) : List Nat := match f.ops[f.dn a]? with | some o => o.2.take b.toNat | none => []
def Af.set (f : Af) (a b : Int) : Af := ⟨f.nm, ctn f.sf (f.ops.take (f.dn a)) ++ f.tl a b, [], false⟩
def Af.there (f : Af) (a b : Int) : Bool := !f.fr || decide (0 < f.dn a + (f.tl a b).length)
theorem Dq.lk_ab (D : Dq) (s : ByteArray) : D.ab.lk s = (Wi.lk D.fs s).map Fq.ab := by
  unfold Ad.lk Dq.ab Wi.lk
  rw [List.find?_map]
  rfl
theorem ops_at {l : List Uop} {i : Nat} (h : i < l.length) : (l.map uab)[i]? = some (uab (opF l i)) := by
  rw [List.getElem?_map, opF_at h]
  rfl
theorem cn_upto {w : World} {f : Fq} (h : FOk w f) : ∀ i, i ≤ f.ops.length → bs (rN f.n (opF f.ops) i) (rP f.P (opF f.ops) i) = ctn f.ab.sf (f.ab.ops.take i)
  | 0, _ => rfl
  | i + 1, hi => by
    have e := cn_upto h i (by omega)
    have hv := (h.vl i (by omega)).1
    show bs ((opF f.ops i).st + (opF f.ops i).q.n) (ct (rP f.P (opF f.ops) i) (opF f.ops i).st (opF f.ops i).q.f) = _
    rw [bs_ct hv, e, List.take_add_one, show f.ab.ops[i]? = _ from ops_at (by omega)]
    unfold ctn
    rw [Option.toList_some, List.foldl_append]
    rfl
theorem Fq.cn_ab {w : World} {f : Fq} (h : FOk w f) : bs f.N f.C = f.ab.cn := by
  have e := cn_upto h f.ops.length (Nat.le_refl _)
  rw [List.take_of_length_le (by show (f.ops.map uab).length ≤ _; simp)] at e
  exact e
theorem Fq.N_ab {w : World} {f : Fq} (h : FOk w f) : f.N = f.ab.cn.length := by rw [← Fq.cn_ab h, bs_len]
theorem Fq.dn_ab (f : Fq) (a : Int) : f.dn a = f.ab.dn a := by unfold Fq.dn Af.dn Fq.ab; simp
theorem Fq.tl_ab (f : Fq) (a b : Int) : bs (f.tn a b) (opF f.ops (f.dn a)).q.f = f.ab.tl a b := by
  unfold Fq.tn Af.tl
  rw [← Fq.dn_ab]
  by_cases h : f.dn a < f.ops.length
  · rw [if_pos h, show f.ab.ops[f.dn a]? = _ from ops_at h]
    show _ = (bs _ _).take _
    by_cases h2 : b.toNat ≤ (opF f.ops (f.dn a)).q.n
    · rw [Nat.min_eq_left h2, bs_take _ h2]
    · rw [Nat.min_eq_right (by omega), List.take_of_length_le (by rw [bs_len]; omega)]
  · rw [if_neg h, List.getElem?_eq_none (by show (f.ops.map uab).length ≤ _; simp; omega)]
    rfl
theorem Fq.tn_ab (f : Fq) (a b : Int) : f.tn a b = (f.ab.tl a b).length := by rw [← Fq.tl_ab, bs_len]
theorem Fq.there_ab (f : Fq) (a b : Int) : f.there a b = f.ab.there a b := by
  unfold Fq.there Af.there
  rw [Fq.dn_ab, Fq.tn_ab]
  rfl
theorem Fq.set_ab {w : World} {f : Fq} (h : FOk w f) (s : Value) (a b : Int) : (f.set s a b).ab = f.ab.set a b := by
  have hd : f.dn a ≤ f.ops.length := Nat.min_le_right _ _
  have e : bs (f.sN a b) (f.sP a) = ctn f.ab.sf (f.ab.ops.take (f.ab.dn a)) ++ f.ab.tl a b := by
    unfold Fq.sN Fq.sP
    rw [bs_ct (Nat.le_refl _), List.take_of_length_le (by rw [bs_len]; exact Nat.le_refl _), Fq.tl_ab, cn_upto h _ hd, Fq.dn_ab]
  unfold Fq.set Af.set Fq.ab
  show Af.mk f.nm (bs (f.sN a b) (f.sP a)) [] false = _
  rw [e]
  rfl
theorem Fq.more_ab (f : Fq) (v : Value) (n : Nat) (q : Pt8) : (f.more v (appo n q)).ab = f.ab.more n (bs q.n q.f) := by
  unfold Fq.more Af.more Fq.ab
  simp [appo, uab]
theorem Dq.swap_ab (D : Dq) (f f' : Fq) : (D.swap f f').ab = D.ab.swap f.nm f'.ab := by
  unfold Dq.swap Ad.swap Dq.ab
  simp only [List.map_map]
  congr 1
  refine List.map_congr_left fun x _ => ?_
  simp only [Function.comp, swp]
  show _ = if x.nm = f.nm then _ else _
  split <;> rfl
/-- A disk on which the blocks of L do not lie; all of it is new since w0. -/
def Da (w0 : World) (d : Nat) (A : Ad) (L : List Nat) (u : World) : Prop := ∃ D : Dq, Dn w0 D u ∧ D.d = d ∧ D.ab = A ∧ ∀ x ∈ L, x < u.heap.size ∧ x ∉ D.bl
/-- The blocks of L are as they were. -/
def Kx (L : List Nat) (u u' : World) : Prop := u.heap.size ≤ u'.heap.size ∧ ∀ x ∈ L, u'.heap[x]? = u.heap[x]?
theorem Kx.trans {L : List Nat} {a b c : World} (h : Kx L a b) (k : Kx L b c) : Kx L a c := ⟨Nat.le_trans h.1 k.1, fun x hx => (k.2 x hx).trans (h.2 x hx)⟩
theorem Kx.refl (L : List Nat) (a : World) : Kx L a a := ⟨Nat.le_refl _, fun _ _ => rfl⟩
theorem Kx.sub {L M : List Nat} {a b : World} (h : Kx L a b) (hs : ∀ x ∈ M, x ∈ L) : Kx M a b := ⟨h.1, fun x hx => h.2 x (hs x hx)⟩
section
variable {w0 u u' : World} {d : Nat} {A : Ad} {L : List Nat}
theorem Da.b (h : Da w0 d A L u) : Below w0.heap.size w0 u := by
  obtain ⟨D, h1, _⟩ := h
  exact h1.b
theorem Da.kx (h : Da w0 d A L u) (hb : Below u.heap.size u u') : Kx L u u' := by
  obtain ⟨D, _, _, _, h1⟩ := h
  exact ⟨hb.size, fun x hx => hb.block x (h1 x hx).1⟩
theorem Da.step (h : Da w0 d A L u) (hb : Below u.heap.size u u') : Da w0 d A L u' := by
  obtain ⟨D, h1, h2, h3, h4⟩ := h
  exact ⟨D, h1.step hb, h2, h3, fun x hx => ⟨Nat.lt_of_lt_of_le (h4 x hx).1 hb.size, (h4 x hx).2⟩⟩
theorem Da.sub {M : List Nat} (h : Da w0 d A L u) (hs : ∀ x ∈ M, x ∈ L) : Da w0 d A M u := by
  obtain ⟨D, h1, h2, h3, h4⟩ := h
  exact ⟨D, h1, h2, h3, fun x hx => h4 x (hs x hx)⟩
theorem Da.add {M : List Nat} (h : Da w0 d A L u) (hb : Below u.heap.size u u') (hn : ∀ x ∈ M, u.heap.size ≤ x ∧ x < u'.heap.size) : Da w0 d A (M ++ L) u' := by
  obtain ⟨D, h1, h2, h3, h4⟩ := h
  refine ⟨D, h1.step hb, h2, h3, fun x hx => ?_⟩
  rcases List.mem_append.1 hx with e | e
  · exact ⟨(hn x e).2, fun hm => absurd (h1.dk.blt x hm) (Nat.not_lt.2 (hn x e).1)⟩
  · exact ⟨Nat.lt_of_lt_of_le (h4 x e).1 hb.size, (h4 x e).2⟩
theorem Da.dw {D D' : Dq} (h1 : Dn w0 D u) (h4 : ∀ x ∈ L, x < u.heap.size ∧ x ∉ D.bl) (hw : Dw u D D' u') (hd : D'.d = d) (ha : D'.ab = A) : Da w0 d A L u' ∧ Kx L u u' :=
  ⟨⟨D', h1.dw hw, hd, ha, fun x hx => ⟨Nat.lt_of_lt_of_le (h4 x hx).1 hw.2.1.size, fun hm => (hw.2.2 x hm).elim (h4 x hx).2 (fun e => absurd (h4 x hx).1 (Nat.not_lt.2 e))⟩⟩, hw.2.1.size, fun x hx => hw.2.1.block x (h4 x hx).1 (h4 x hx).2⟩
def Ad.app (A : Ad) (s : ByteArray) (b : List Nat) : Int × Ad :=
  if A.no then (13, A.tick) else if nmd s = false then (2, A.tick) else
  match A.lk s with
  | some f => if 1048576 < f.cn.length + b.length then (3, A.tick) else (0, A.tick.swap s (f.more f.cn.length b))
  | none => if 64 ≤ A.fs.length then (8, A.tick) else if 1048576 < b.length then (3, A.tick) else (0, ⟨A.k + 1, A.fs ++ [⟨s, [], [(0, b)], true⟩], A.rf⟩)
def Ad.syn (A : Ad) (s : ByteArray) : Int × Ad := if A.no then (13, A.tick) else match A.lk s with
  | none => (6, A.tick)
  | some f => (0, A.tick.swap s ⟨f.nm, f.cn, [], false⟩)
def Ad.cut (A : Ad) (s : ByteArray) (c : Int) : Int × Ad := if A.no then (13, A.tick) else match A.lk s with
  | none => (6, A.tick)
  | some f => if 0 ≤ c ∧ c ≤ f.cn.length then (0, A.tick.swap s (f.more c.toNat [])) else (2, A.tick)
def Ad.cra (A : Ad) (K : ByteArray → Kv) : Ad := ⟨A.k, (A.fs.filter fun f => f.there (K f.nm).1.2.1 (K f.nm).1.2.2).map fun f => f.set (K f.nm).1.2.1 (K f.nm).1.2.2, A.rf⟩
def Ad.ren (A : Ad) (f : Af) (s t : ByteArray) : Ad := ⟨A.k + 1, A.fs.filter (fun g => decide (g.nm ≠ s ∧ g.nm ≠ t)) ++ [⟨t, f.sf, f.ops, f.fr⟩], A.rf⟩
/-- A part's block, if it has one. -/
def gbl (q : Pt8) : List Nat := if q.n = 0 then [] else [q.gb]
def Pq (q : Pt8) (u : World) : Prop := Pok q ∧ (q.p = none → q.cp = 0) ∧ q.rs u
theorem Pq.kx {q : Pt8} {M : List Nat} (h : Pq q u) (hk : Kx M u u') (hm : ∀ x ∈ gbl q, x ∈ M) : Pq q u' := by
  refine ⟨h.1, h.2.1, fun hn => Nat.lt_of_lt_of_le (h.2.2.lt hn) hk.1, fun i hi => ?_⟩
  have e : u'.heap[q.gb]? = u.heap[q.gb]? := hk.2 _ (hm _ (by unfold gbl; rw [if_neg (by omega)]; simp))
  rw [World.cell?_of_block (a := ⟨q.gb, q.o + i, none⟩) e]
  exact h.2.2.at_ i hi
theorem Pq.below {q : Pt8} (h : Pq q u) (hb : Below u.heap.size u u') : Pq q u' := ⟨h.1, h.2.1, h.2.2.below hb⟩
theorem app_a (h : Da w0 d A L u) (hk : A.k < 1000000000) (ho : ∀ f ∈ A.fs, f.ops.length < 1000000) (s : ByteArray) (hs : s.size ≤ 281474976710656) (q : Pt8) (hq : Pq q u) (hL : ∀ x ∈ gbl q, x ∈ L ∨ x < w0.heap.size) (hn : q.n ≤ 281474976710656) :
    Calls Tryz.prog 35 #[PT d 0, .string s, .slice q.p q.n q.cp] u fun e u' => e = .returned (.int .i64 (A.app s (bs q.n q.f)).1) ∧ Da w0 d (A.app s (bs q.n q.f)).2 L u' ∧ Kx L u u' := by
  obtain ⟨D, h1, rfl, rfl, h4⟩ := h
  have hk : D.k < 1000000000 := hk
  have hk1 : D.k + 1 < 4611686018427387904 := by omega
  have hms : s.size ≤ maxLen := Nat.le_trans hs (by decide)
  have hrq : Rq q D u := ⟨hq.1, hq.2.1, hq.2.2, fun hn hm => by
    rcases hL q.gb (by unfold gbl; rw [if_neg (by omega)]; simp) with e | e
    · exact (h4 _ e).2 hm
    · exact absurd e (Nat.not_lt.2 (h1.lo _ hm))⟩
  have hno : D.ab.no = D.no := rfl
  unfold Ad.app
  by_cases c1 : D.no = true
  · rw [if_pos (hno.trans c1)]
    exact (Append_no_f D s q u h1.dk hk1 c1).mono fun e u' hh => ⟨hh.1, Da.dw h1 h4 hh.2 rfl rfl⟩
  · have c1 : D.no = false := by simpa using c1
    rw [if_neg (by rw [hno, c1]; decide)]
    by_cases c2 : nmd s = false
    · rw [if_pos c2]
      exact (Append_bad_f D s q u h1.dk hk1 c1 c2).mono fun e u' hh => ⟨hh.1, Da.dw h1 h4 hh.2 rfl rfl⟩
    · have c3 : nmd s = true := by simpa using c2
      rw [if_neg c2, Dq.lk_ab]
      cases hl : lk D.fs s with
      | none =>
        show Calls _ _ _ _ fun e u' => e = .returned (.int .i64 (if 64 ≤ (D.fs.map Fq.ab).length then _ else _ : Int × Ad).1) ∧ _
        simp only [Option.map_none, List.length_map, bs_len]
        by_cases c4 : 64 ≤ D.fs.length
        · simp only [show 64 ≤ D.ab.fs.length by show 64 ≤ (D.fs.map _).length; simpa using c4, c4, if_true]
          exact (Append_full_f D s q u h1.dk hk1 c1 c3 hms hl c4).mono fun e u' hh => ⟨hh.1, Da.dw h1 h4 hh.2 rfl rfl⟩
        · simp only [show ¬64 ≤ D.ab.fs.length by show ¬64 ≤ (D.fs.map _).length; simpa using c4, c4, if_false]
          by_cases c5 : 1048576 < q.n
          · simp only [c5, if_true]
            exact (Append_newlong_f D s q u h1.dk hk1 c1 c3 hms hl (by omega) hn c5).mono fun e u' hh => ⟨hh.1, Da.dw h1 h4 hh.2 rfl rfl⟩
          · simp only [c5, if_false]
            refine (Append_new_f D s hs q u h1.dk hk1 hrq c1 c3 hl (by omega) (by omega)).mono fun e u' hh => ?_
            obtain ⟨e1, g, q2, v, e2, e3, e4⟩ := hh
            refine ⟨e1, Da.dw h1 h4 e4 rfl ?_⟩
            unfold Dq.ab Dq.add
            simp only [List.map_append, List.map_cons, List.map_nil, Fq.more_ab, e2, e3]
            rfl
      | some f =>
        have hf := lk_mem hl
        have hF := h1.dk.fl f hf.1
        have hof : f.ops.length < 1000000 := by
          have := ho f.ab (List.mem_map.2 ⟨f, hf.1, rfl⟩)
          simpa [Fq.ab] using this
        simp only [Option.map_some, bs_len, ← Fq.N_ab hF]
        by_cases c5 : 1048576 < f.N + q.n
        · simp only [c5, if_true]
          exact (Append_long_f D s q u h1.dk hk1 c1 c3 hms f hl hn c5).mono fun e u' hh => ⟨hh.1, Da.dw h1 h4 hh.2 rfl rfl⟩
        · simp only [c5, if_false]
          refine (Append_hit_f D s hs q f u h1.dk hk1 hrq c1 c3 hl hof (by omega)).mono fun e u' hh => ?_
          obtain ⟨e1, q2, v, e2, e3, e4⟩ := hh
          refine ⟨e1, Da.dw h1 h4 e4 rfl ?_⟩
          rw [Dq.swap_ab, Fq.more_ab, e2, e3, hf.2]
          rfl
theorem Af.set_len (f : Af) : f.set f.ops.length 0 = ⟨f.nm, f.cn, [], false⟩ := by
  unfold Af.set Af.tl Af.dn Af.cn
  simp
theorem syn_a (h : Da w0 d A L u) (hk : A.k < 1000000000) (s : ByteArray) (hs : s.size ≤ 281474976710656) :
    Calls Tryz.prog 37 #[PT d 0, .string s] u fun e u' => e = .returned (.int .i64 (A.syn s).1) ∧ Da w0 d (A.syn s).2 L u' ∧ Kx L u u' := by
  obtain ⟨D, h1, rfl, rfl, h4⟩ := h
  have hk : D.k < 1000000000 := hk
  have hk1 : D.k + 1 < 4611686018427387904 := by omega
  have hms : s.size ≤ maxLen := Nat.le_trans hs (by decide)
  refine (Sync_f D s hms u h1.dk hk1).mono fun e u' hh => ?_
  have hno : D.ab.no = D.rf (D.k + 1) := rfl
  unfold Ad.syn
  by_cases c1 : D.rf (D.k + 1) = true
  · rw [if_pos c1] at hh
    rw [if_pos (hno.trans c1)]
    exact ⟨hh.1, Da.dw h1 h4 ⟨hh.2.1, hh.2.2, fun x hx => .inl hx⟩ rfl rfl⟩
  · rw [if_neg c1] at hh
    rw [if_neg (by rw [hno]; exact c1), Dq.lk_ab]
    cases hl : lk D.fs s with
    | none =>
      rw [hl] at hh
      exact ⟨hh.1, Da.dw h1 h4 ⟨hh.2.1, hh.2.2, fun x hx => .inl hx⟩ rfl rfl⟩
    | some f =>
      rw [hl] at hh
      obtain ⟨e1, s', e2, e3, e4⟩ := hh
      have hf := lk_mem hl
      have hF := h1.dk.fl f hf.1
      refine ⟨e1, Da.dw h1 h4 ⟨e2, e3, fun x hx => (Dq.swap_bl hx).elim .inl fun hy => (e4 x hy).elim (fun hz => .inl (Dq.fbl hf.1 x hz)) .inr⟩ rfl ?_⟩
      rw [Dq.swap_ab, Fq.set_ab hF, hf.2]
      have : (f.ab.set f.ops.length 0) = ⟨f.ab.nm, f.ab.cn, [], false⟩ := by
        rw [← Af.set_len]; congr 1; simp [Fq.ab]
      rw [this]
      rfl
theorem read_a (h : Da w0 d A L u) (s : ByteArray) (hs : s.size ≤ 281474976710656) :
    Calls Tryz.prog 100 #[PT d 0, .string s] u fun e u' => Below u.heap.size u u' ∧ match A.lk s with
      | some f => ∃ q : Pt8, e = .returned (.tuple #[.slice q.p q.n q.cp, .int .i64 0]) ∧ Pq q u' ∧ bs q.n q.f = f.cn ∧ Da w0 d A (gbl q ++ L) u'
      | none => e = .returned (.tuple #[.slice none 0 0, .int .i64 6]) ∧ Da w0 d A L u' := by
  have h' := h
  obtain ⟨D, h1, rfl, rfl, h4⟩ := h
  have hms : s.size ≤ maxLen := Nat.le_trans hs (by decide)
  refine (Read_f D s hms u h1.dk).mono fun e u' hh => ?_
  rw [Dq.lk_ab]
  cases hl : lk D.fs s with
  | none =>
    rw [hl] at hh
    exact ⟨hh.2, hh.1, h'.step hh.2⟩
  | some f =>
    rw [hl] at hh
    obtain ⟨v, e1, e2⟩ := hh
    obtain ⟨q, rfl, q1, q2, q3, q4, q5, q6⟩ := e2.part
    refine ⟨e2.b, q, e1, ⟨q1, q2, q5⟩, ?_, h'.add e2.b fun x hx => ?_⟩
    · rw [q3, q4]
      exact Fq.cn_ab (h1.dk.fl f (lk_mem hl).1)
    · unfold gbl at hx
      split at hx
      · cases hx
      · obtain rfl := List.mem_singleton.1 hx
        exact ⟨q6 (by omega), q5.lt (by omega)⟩
theorem pend_a (h : Da w0 d A L u) (s : ByteArray) (hs : s.size ≤ 281474976710656) :
    Calls Tryz.prog 101 #[PT d 0, .string s] u fun e u' => e = .returned (.int .i64 ((match A.lk s with | some f => f.ops.length | none => 0 : Nat) : Int)) ∧ Below u.heap.size u u' := by
  obtain ⟨D, h1, rfl, rfl, h4⟩ := h
  refine (Pending_f D s (Nat.le_trans hs (by decide)) u h1.dk).mono fun e u' hh => ?_
  rw [Dq.lk_ab]
  cases hl : lk D.fs s with
  | none => rw [hl] at hh; exact hh
  | some f =>
    rw [hl] at hh
    refine ⟨hh.1.trans ?_, hh.2⟩
    simp [Fq.ab]
theorem crash_a (h : Da w0 d A L u) (a : Option Addr) (len cap : Nat) (zs : Nat → Kv) (hlen : len ≤ 1152921504606846976) (hK : Kps u.heap.size u (.slice a len cap) len zs) :
    Calls Tryz.prog 22 #[PT d 0, .slice a len cap] u fun e u' => e = .returned (.int .i64 0) ∧ Da w0 d (A.cra (kof (kup (kbk len zs) len))) L u' ∧ Kx L u u' := by
  obtain ⟨D, h1, rfl, rfl, h4⟩ := h
  refine (Crash_f D a len cap zs hlen u h1.dk hK).mono fun e u' hh => ?_
  obtain ⟨e1, σ, e2⟩ := hh
  refine ⟨e1, Da.dw h1 h4 e2 rfl ?_⟩
  generalize kof (kup (kbk len zs) len) = K
  unfold Dq.aft Ad.cra Dq.ab
  have e3 : ∀ fs : List Fq, (∀ f ∈ fs, FOk u f) → ((fs.filter (Fq.stay K)).map (Fq.aft K σ)).map Fq.ab = ((fs.map Fq.ab).filter fun f => f.there (K f.nm).1.2.1 (K f.nm).1.2.2).map fun f => f.set (K f.nm).1.2.1 (K f.nm).1.2.2 := by
    intro fs
    induction fs with
    | nil => intro _; rfl
    | cons f r ih =>
      intro hf
      have i2 := ih fun g hg => hf g (List.mem_cons_of_mem _ hg)
      have e4 : f.stay K = f.ab.there (K f.ab.nm).1.2.1 (K f.ab.nm).1.2.2 := Fq.there_ab ..
      rw [List.map_cons, List.filter_cons, List.filter_cons, e4]
      split
      · rw [List.map_cons, List.map_cons, List.map_cons, i2]
        congr 1
        exact Fq.set_ab (hf f (List.mem_cons_self ..)) ..
      · exact i2
  rw [e3 D.fs h1.dk.fl]
theorem ren_ok_a (h : Da w0 d A L u) (hk : A.k < 1000000000) (s t : ByteArray) (hs : s.size ≤ 281474976710656) (ht : t.size ≤ 281474976710656) (hn : nmd t = true) (hno : A.no = false) (f : Af) (hl : A.lk s = some f) (ho : f.ops = []) :
    Calls Tryz.prog 112 #[PT d 0, .string s, .string t] u fun e u' => e = .returned (.int .i64 0) ∧ Da w0 d (A.ren f s t) L u' ∧ Kx L u u' := by
  obtain ⟨D, h1, rfl, rfl, h4⟩ := h
  have hk : D.k < 1000000000 := hk
  rw [Dq.lk_ab] at hl
  obtain ⟨f', hl', rfl⟩ := Option.map_eq_some_iff.1 hl
  refine (Rename_ok_f D s t (Nat.le_trans hs (by decide)) ht hn f' u h1.dk (by omega) hno hl' (by
    have := congrArg List.length ho
    simpa [Fq.ab] using this)).mono fun e u' hh => ?_
  refine ⟨hh.1, Da.dw h1 h4 hh.2 rfl ?_⟩
  unfold Ad.ren Dq.ren Dq.ab Dq.tick
  simp only [List.map_append, List.map_cons, List.map_nil]
  congr 2
  · induction D.fs with
    | nil => rfl
    | cons x r ih =>
      simp only [List.filter_cons, List.map_cons]
      show _ = if decide (x.nm ≠ s ∧ x.nm ≠ t) = true then _ else _
      split
      · rw [List.map_cons, ih]
      · exact ih
theorem Nw.lo2 {w u : World} {d mb rb m : Nat} {rf : Nat → Bool} (h : Nw w d mb rb rf m u) : ∀ x ∈ Dq.bl ⟨d, mb, rb, 0, [], rf⟩, w.heap.size ≤ x := fun x hx => by
  have h1 := h.two.nm
  have h2 := h.nr
  have h3 := h.nd
  have : x = d ∨ x = mb ∨ x = rb := by simpa [Dq.bl] using hx
  omega
theorem new_a {w : World} {d mb rb m : Nat} {rf : Nat → Bool} (h : Nw w d mb rb rf m u) : Da w d ⟨0, [], rf⟩ [] u := ⟨⟨d, mb, rb, 0, [], rf⟩, ⟨h.two.b, h.disk, h.lo2⟩, rfl, rfl, fun _ hx => by cases hx⟩
theorem names1_a (h : Da w0 d A L u) (s : ByteArray) (hA : A.fs.map Af.nm = [s]) :
    Calls Tryz.prog 25 #[PT d 0] u fun e u' => ∃ g o c, e = .returned (.slice (some ⟨g, o, none⟩) 1 c) ∧ Below u.heap.size u u' ∧ u.heap.size ≤ g ∧ g < u'.heap.size ∧ u'.cell? ⟨g, o, none⟩ = some (.string s) := by
  obtain ⟨D, h1, rfl, rfl, h4⟩ := h
  refine (Names_f D u h1.dk).mono fun e u' hh => ?_
  obtain ⟨v, ss, rfl, hp, hr, hv, hb⟩ := hh
  have e1 : (D.fs.map fun f => f.nm.data.toList) = [s.data.toList] := by
    have : (D.fs.map Fq.nm) = [s] := by
      rw [← hA]; unfold Dq.ab; simp [Fq.ab]
    rw [show (fun f : Fq => f.nm.data.toList) = (fun x : ByteArray => x.data.toList) ∘ Fq.nm from rfl, ← List.map_map, this]
    rfl
  rw [e1] at hp
  have e2 := List.perm_singleton.1 hp
  subst e2
  rcases hr.2 with ⟨_, h0⟩ | ⟨g, cap, cur, rfl, hg, _⟩
  · cases h0
  · refine ⟨g, 0, cap, rfl, hb, hg, (World.ownsRow.lt hr g rfl).2, ?_⟩
    exact World.ownsRow.cells hr (g := g) rfl 0 (.string s) (by rw [List.mergeSort_singleton]; rfl)
end
end Wi
end Rg
end Go.Proofs.YtmcpagjhpfbpgaaGreatDoor
end
section
namespace Go.Proofs.YtmcpagjhpfbpgaaGreatDoor
open Go.RowKit
namespace Rg
namespace Wi
theorem call165 : ∀ args w, (callFunc 165 args).run Tryz.prog w = .ok (.enter 165 args) w := by intro args w; go_simp
set_option maxRecDepth 100000
abbrev W32 (n : Nat) : Value := .int .u32 (n : Int)
/-- A number shifted by 1, and turned if a 1 fell out; k times; the table; a step of the check; the check of bytes. -/
def shf (n : Nat) : Nat := if an n 1 = 1 then xo (sr n 1) 3988292384 else sr n 1
def shN (n : Nat) : Nat → Nat
  | 0 => n
  | k + 1 => shf (shN n k)
def crt (i : Nat) : Nat := shN (c32 i) 8
def xb (a b : Nat) : Nat := (a ^^^ b) % 256
def cst (n c : Nat) : Nat := xo (sr n 8) (crt (xb (n % 256) c))
def crn (f : Nat → Nat) : Nat → Nat
  | 0 => 4294967295
  | k + 1 => cst (crn f k) (f k)
def crc (f : Nat → Nat) (n : Nat) : Nat := nt (crn f n)
theorem xo_lt (a b : Nat) : xo a b < 4294967296 := Nat.mod_lt _ (by decide)
theorem xb_lt (a b : Nat) : xb a b < 256 := Nat.mod_lt _ (by decide)
theorem crn_cg {f g : Nat → Nat} : ∀ {k : Nat}, (∀ j, j < k → f j = g j) → crn f k = crn g k
  | 0, _ => rfl
  | k + 1, h => by
    show cst (crn f k) (f k) = cst (crn g k) (g k)
    rw [crn_cg (fun j hj => h j (Nat.lt_succ_of_lt hj)), h k (Nat.lt_succ_self k)]
theorem crc_cg {f g : Nat → Nat} {k : Nat} (h : ∀ j, j < k → f j = g j) : crc f k = crc g k := by
  unfold crc
  rw [crn_cg h]
theorem crc_lt (f : Nat → Nat) (k : Nat) : crc f k < 4294967296 := xo_lt _ _
/-- A number's bytes, the highest first; the number of four bytes. -/
def by4 (n : Nat) (j : Nat) : Nat := [sr n 24 % 256, sr n 16 % 256, sr n 8 % 256, n % 256].getD j 0
def nb4 (a b c d : Nat) : Nat := ou (ou (ou (sl (c32 a) 24) (sl (c32 b) 16)) (sl (c32 c) 8)) (c32 d)
theorem nb4_eq {a b c d : Nat} (ha : a < 256) (hb : b < 256) (hc : c < 256) (hd : d < 256) : nb4 a b c d = a * 16777216 + b * 65536 + c * 256 + d := by
  unfold nb4 sl c32 ou
  rw [Nat.mod_eq_of_lt (show a < 4294967296 by omega), Nat.mod_eq_of_lt (show b < 4294967296 by omega), Nat.mod_eq_of_lt (show c < 4294967296 by omega), Nat.mod_eq_of_lt (show d < 4294967296 by omega)]
  rw [Nat.mod_eq_of_lt (show a * 2 ^ 24 < 4294967296 by omega), Nat.mod_eq_of_lt (show b * 2 ^ 16 < 4294967296 by omega), Nat.mod_eq_of_lt (show c * 2 ^ 8 < 4294967296 by omega)]
  have e1 : a * 2 ^ 24 ||| b * 2 ^ 16 = a * 16777216 + b * 65536 := by
    rw [Nat.mul_comm a, ← Nat.two_pow_add_eq_or_of_lt (show b * 2 ^ 16 < 2 ^ 24 by omega), Nat.mul_comm]
  rw [e1, Nat.mod_eq_of_lt (show a * 16777216 + b * 65536 < 4294967296 by omega)]
  have e2 : (a * 16777216 + b * 65536) ||| c * 2 ^ 8 = a * 16777216 + b * 65536 + c * 256 := by
    rw [show a * 16777216 + b * 65536 = 2 ^ 16 * (a * 256 + b) by omega, ← Nat.two_pow_add_eq_or_of_lt (show c * 2 ^ 8 < 2 ^ 16 by omega)]
  rw [e2, Nat.mod_eq_of_lt (show a * 16777216 + b * 65536 + c * 256 < 4294967296 by omega)]
  rw [show a * 16777216 + b * 65536 + c * 256 = 2 ^ 8 * (a * 65536 + b * 256 + c) by omega, ← Nat.two_pow_add_eq_or_of_lt (show d < 2 ^ 8 by omega)]
  rw [Nat.mod_eq_of_lt (by omega)]
theorem by4_lt (n j : Nat) : by4 n j < 256 := by
  unfold by4
  match j with
  | 0 => exact Nat.mod_lt _ (by decide)
  | 1 => exact Nat.mod_lt _ (by decide)
  | 2 => exact Nat.mod_lt _ (by decide)
  | 3 => exact Nat.mod_lt _ (by decide)
  | k + 4 => show (0 : Nat) < 256; decide
theorem nb4_by4 {n : Nat} (h : n < 4294967296) : nb4 (by4 n 0) (by4 n 1) (by4 n 2) (by4 n 3) = n := by
  rw [nb4_eq (by4_lt _ _) (by4_lt _ _) (by4_lt _ _) (by4_lt _ _)]
  show sr n 24 % 256 * 16777216 + sr n 16 % 256 * 65536 + sr n 8 % 256 * 256 + n % 256 = n
  unfold sr
  omega
theorem ints_patch (ik : IntKind) (f : Nat → Nat) {n : Nat} (j v : Nat) (h : j < n) : patch (ints ik f n) j [.int ik (v : Int)] = ints ik (up f j v) n := by
  apply List.ext_getElem?
  intro k
  rw [patch_get _ _ _ (by rw [ints_len]; simp; omega)]
  by_cases hk : k < n
  · rw [ints_get _ _ hk, ints_get _ _ hk]
    unfold up
    by_cases e : k = j
    · rw [if_pos (by simp; omega), if_pos e, e]
      simp
    · rw [if_neg (by simp; omega), if_neg e]
  · rw [if_neg (by simp; omega), ints_none _ _ (by omega), ints_none _ _ (by omega)]
theorem ints_patch0 (ik : IntKind) (f f' : Nat → Nat) (n : Nat) : patch (ints ik f n) 0 (ints ik f' n) = ints ik f' n := by
  apply List.ext_getElem?
  intro k
  rw [patch_get _ _ _ (by rw [ints_len, ints_len]; omega)]
  by_cases hk : k < n
  · rw [if_pos (by rw [ints_len]; omega), Nat.sub_zero]
  · rw [if_neg (by rw [ints_len]; omega), ints_none _ _ (by omega), ints_none _ _ (by omega)]
theorem ofInt32 (a : Nat) : (BitVec.ofInt 32 (a : Int)).toNat = a % 4294967296 := by
  rw [BitVec.ofInt_natCast, BitVec.toNat_ofNat]
theorem wrap32 (a : Nat) : IntKind.u32.wrap (a : Int) = ((a % 4294967296 : Nat) : Int) := by
  simp [IntKind.wrap, IntKind.bits, IntKind.signed]
theorem bits_and32 (a b : Nat) : bits .and .u32 (a : Int) (b : Int) = ((an a b : Nat) : Int) := by
  show IntKind.u32.wrap ((BitVec.ofInt 32 (a : Int) &&& BitVec.ofInt 32 (b : Int)).toNat : Int) = _
  rw [BitVec.toNat_and, ofInt32, ofInt32, wrap32]
  unfold an
  rw [← Nat.and_mod_two_pow (n := 32), Nat.mod_mod]
theorem bits_or32 (a b : Nat) : bits .or .u32 (a : Int) (b : Int) = ((ou a b : Nat) : Int) := by
  show IntKind.u32.wrap ((BitVec.ofInt 32 (a : Int) ||| BitVec.ofInt 32 (b : Int)).toNat : Int) = _
  rw [BitVec.toNat_or, ofInt32, ofInt32, wrap32]
  unfold ou
  rw [← Nat.or_mod_two_pow (n := 32), Nat.mod_mod]
theorem bits_xor32 (a b : Nat) : bits .xor .u32 (a : Int) (b : Int) = ((xo a b : Nat) : Int) := by
  show IntKind.u32.wrap ((BitVec.ofInt 32 (a : Int) ^^^ BitVec.ofInt 32 (b : Int)).toNat : Int) = _
  rw [BitVec.toNat_xor, ofInt32, ofInt32, wrap32]
  unfold xo
  rw [← Nat.xor_mod_two_pow (n := 32), Nat.mod_mod]
theorem bits_xor8 (a b : Nat) : bits .xor .u8 (a : Int) (b : Int) = ((xb a b : Nat) : Int) := by
  have h1 : ∀ k : Nat, (BitVec.ofInt 8 (k : Int)).toNat = k % 256 := fun k => by rw [BitVec.ofInt_natCast, BitVec.toNat_ofNat]
  show IntKind.u8.wrap ((BitVec.ofInt 8 (a : Int) ^^^ BitVec.ofInt 8 (b : Int)).toNat : Int) = _
  rw [BitVec.toNat_xor, h1, h1, ← Nat.xor_mod_two_pow (n := 8)]
  unfold xb
  simp [IntKind.wrap, IntKind.bits, IntKind.signed]
section
variable {ρ : Operand → Value} {o : Oper} {x y : Operand} {a b k g off j n : Nat} {w : World}
theorem ex_and32 (ho : o.op = .binOp .and 167 x y 167) (hx : ρ x = W32 a) (hy : ρ y = W32 b) : (execOp ρ o).run Tryz.prog w = .ok (.value (W32 (an a b))) w := by
  simp only [execOp, ho, hx, hy]
  clear ho hx hy
  have e := bits_and32 a b
  go_simp
theorem ex_or32 (ho : o.op = .binOp .or 167 x y 167) (hx : ρ x = W32 a) (hy : ρ y = W32 b) : (execOp ρ o).run Tryz.prog w = .ok (.value (W32 (ou a b))) w := by
  simp only [execOp, ho, hx, hy]
  clear ho hx hy
  have e := bits_or32 a b
  go_simp
theorem ex_xor32 (ho : o.op = .binOp .xor 167 x y 167) (hx : ρ x = W32 a) (hy : ρ y = W32 b) : (execOp ρ o).run Tryz.prog w = .ok (.value (W32 (xo a b))) w := by
  simp only [execOp, ho, hx, hy]
  clear ho hx hy
  have e := bits_xor32 a b
  go_simp
theorem ex_xor8 (ho : o.op = .binOp .xor 5 x y 5) (hx : ρ x = Z8 a) (hy : ρ y = Z8 b) : (execOp ρ o).run Tryz.prog w = .ok (.value (Z8 (xb a b))) w := by
  have e := bits_xor8 a b
  simp only [execOp, ho, hx, hy]
  clear ho hx hy
  go_simp
theorem ex_not32 (ho : o.op = .unOp .xor 167 x) (hx : ρ x = W32 a) : (execOp ρ o).run Tryz.prog w = .ok (.value (W32 (nt a))) w := by
  simp only [execOp, ho, hx]
  clear ho hx
  go_simp
  exact bits_xor32 4294967295 a
theorem ex_shl32 {ik : IntKind} {t : TypeId} (hk : k < 32) (ho : o.op = .binOp .shl 167 x y t) (hx : ρ x = W32 a) (hy : ρ y = .int ik (k : Int)) : (execOp ρ o).run Tryz.prog w = .ok (.value (W32 (sl a k))) w := by
  simp only [execOp, ho, hx, hy]
  clear ho hx hy
  have hs := shift_shl_any .u32 ik (a : Int) (k : Int) (by omega)
  have e : min ((k : Int).toNat) IntKind.u32.bits = k := by rw [Int.toNat_natCast]; show min k 32 = k; omega
  rw [e, show (a : Int) * 2 ^ k = ((a * 2 ^ k : Nat) : Int) by rw [Int.natCast_mul, Int.natCast_pow]; rfl, wrap32] at hs
  go_simp
  unfold sl
  rw [Int.natCast_emod, Int.natCast_mul, Int.natCast_pow]
  rfl
theorem ex_shr32 {ik : IntKind} {t : TypeId} (hk : k < 33) (ho : o.op = .binOp .shr 167 x y t) (hx : ρ x = W32 a) (hy : ρ y = .int ik (k : Int)) : (execOp ρ o).run Tryz.prog w = .ok (.value (W32 (sr a k))) w := by
  simp only [execOp, ho, hx, hy]
  clear ho hx hy
  have hs := shift_shr_any .u32 ik (a : Int) (k : Int) (by omega)
  have e : min ((k : Int).toNat) IntKind.u32.bits = k := by rw [Int.toNat_natCast]; show min k 32 = k; omega
  rw [e, show (a : Int) / 2 ^ k = ((a / 2 ^ k : Nat) : Int) by rw [Int.natCast_ediv, Int.natCast_pow]; rfl] at hs
  go_simp
  unfold sr
  rw [Int.natCast_ediv, Int.natCast_pow]
  rfl
theorem ex_cvBW (ho : o.op = .convert 5 167 x) (hx : ρ x = Z8 a) : (execOp ρ o).run Tryz.prog w = .ok (.value (W32 (c32 a))) w := by
  simp only [execOp, ho, hx]
  clear ho hx
  go_simp
  exact wrap32 a
theorem ex_cvWB (ho : o.op = .convert 167 5 x) (hx : ρ x = W32 a) : (execOp ρ o).run Tryz.prog w = .ok (.value (Z8 (a % 256))) w := by
  simp only [execOp, ho, hx]
  clear ho hx
  go_simp
  simp [IntKind.wrap, IntKind.bits, IntKind.signed]
theorem ex_cvIW (ho : o.op = .convert 3 167 x) (hx : ρ x = .int .i64 (a : Int)) : (execOp ρ o).run Tryz.prog w = .ok (.value (W32 (c32 a))) w := by
  simp only [execOp, ho, hx]
  clear ho hx
  go_simp
  exact wrap32 a
theorem ex_cvWI (h : a < 4294967296) (ho : o.op = .convert 167 3 x) (hx : ρ x = W32 a) : (execOp ρ o).run Tryz.prog w = .ok (.value (.int .i64 (a : Int))) w := by
  simp only [execOp, ho, hx]
  clear ho hx
  go_simp
  rw [IntKind.wrap_i64]
  omega
theorem ex_eq32 {c : Bool} (h : decide (a = b) = c) (ho : o.op = .binOp .eql 167 x y 167) (hx : ρ x = W32 a) (hy : ρ y = W32 b) : (execOp ρ o).run Tryz.prog w = .ok (.value (.bool c)) w := by
  subst h
  simp only [execOp, ho, hx, hy]
  clear ho hx hy
  go_simp
  by_cases e : a = b
  · subst e; simp
  · rw [decide_eq_false e]
    exact beq_eq_false_iff_ne.2 (by omega)
theorem ex_gt32 {c : Bool} (h : decide (b < a) = c) (ho : o.op = .binOp .gtr 167 x y 167) (hx : ρ x = W32 a) (hy : ρ y = W32 b) : (execOp ρ o).run Tryz.prog w = .ok (.value (.bool c)) w := by
  subst h
  simp only [execOp, ho, hx, hy]
  clear ho hx hy
  go_simp
theorem ex_mkT (ho : o.op = .alloc 169) : (execOp ρ o).run Tryz.prog w = .ok (.value (.pointer (some ⟨w.heap.size, 0, none⟩))) (w.alloc (.cells (ints .u32 (fun _ => 0) 256).toArray 169)) := by
  simp only [execOp, ho]
  go_simp
  rfl
theorem ex_ixT1 (ho : o.op = .indexAddr 169 x y) (hx : ρ x = PT g 0) (hy : ρ y = .int .i64 ((j : Nat) : Int)) (hj : j < 256) : (execOp ρ o).run Tryz.prog w = .ok (.value (PT g j)) w := by
  have h1 : (j : Int) < 256 := by omega
  simp only [execOp, ho, hx, hy]
  clear ho hx hy
  go_simp
theorem ex_ixT8 (ho : o.op = .indexAddr 169 x y) (hx : ρ x = PT g off) (hy : ρ y = Z8 j) (hj : j < 256) : (execOp ρ o).run Tryz.prog w = .ok (.value (PT g (off + j))) w := by
  have h1 : (j : Int) < 256 := by omega
  simp only [execOp, ho, hx, hy]
  clear ho hx hy
  go_simp
end
/-- A table in memory, from a place of a block on. -/
structure Tb (g t : Nat) (w : World) : Prop where
  lt : g < w.heap.size
  at_ : ∀ i, i < 256 → w.cell? ⟨g, t + i, none⟩ = some (W32 (crt i))
theorem Tb.keep {g t : Nat} {w w' : World} (h : Tb g t w) (hs : w.heap.size ≤ w'.heap.size) (hb : w'.heap[g]? = w.heap[g]?) : Tb g t w' := ⟨Nat.lt_of_lt_of_le h.lt hs, fun i hi => (World.cell?_of_block (a := ⟨g, t + i, none⟩) hb).trans (h.at_ i hi)⟩
theorem Tb.below {g t : Nat} {w w' : World} (h : Tb g t w) (hb : Below w.heap.size w w') : Tb g t w' := h.keep hb.size (hb.block g h.lt)
theorem Tb.mm {g : Nat} {w : World} (h : Mm w [(g, ints .u32 crt 256)]) : Tb g 0 w := ⟨(h.blk _ (List.mem_cons_self ..)).1, fun i hi => by rw [Nat.zero_add]; exact h.get 0 rfl i (ints_get _ _ hi)⟩
theorem ex_ldT {ρ : Operand → Value} {o : Oper} {x : Operand} {g t j : Nat} {w : World} (h : Tb g t w) (hj : j < 256) (ho : o.op = .load 167 x) (hx : ρ x = PT g (t + j)) : (execOp ρ o).run Tryz.prog w = .ok (.value (W32 (crt j))) w := by
  have c0 := h.at_ j hj
  clear h
  simp only [execOp, ho, hx]
  clear ho hx
  go_simp
/-- The table with its first k filled. -/
def tbf : Nat → Nat → Nat
  | 0 => fun _ => 0
  | k + 1 => up (tbf k) k (crt k)
theorem tbf_at : ∀ (k j : Nat), j < k → tbf k j = crt j
  | 0, _, h => absurd h (Nat.not_lt_zero _)
  | k + 1, j, h => by
    show up (tbf k) k (crt k) j = _
    unfold up
    by_cases e : j = k
    · rw [if_pos e, e]
    · rw [if_neg e]
      exact tbf_at k j (by omega)
theorem tbf_all : ints .u32 (tbf 256) 256 = ints .u32 crt 256 := ints_congr (fun j hj => tbf_at 256 j hj)
theorem shf_one {n : Nat} (h : an n 1 = 1) : shf n = xo (sr n 1) 3988292384 := if_pos h
theorem shf_two {n : Nat} (h : an n 1 ≠ 1) : shf n = sr n 1 := if_neg h
set_option maxHeartbeats 2000000 in
set_option maxRecDepth 100000 in
theorem shifted_1 (n : Nat) (hn : an n 1 = 1) (w : World) :
    Calls Tryz.prog 165 #[W32 n] w fun e w' => e = .returned (W32 (xo (sr n 1) 3988292384)) ∧ Below w.heap.size w w' := by
  have H0 : Hid (_ ∧ _) := ⟨Mm.nil w, Below.refl w.heap.size w⟩
  go_enter Tryz.func165, Tryz.ntmps165
  refine wp_seq ?_
  refine sq_startW (l := [0]) rfl (fun u0 hu0 => ?_)
  have H1 : Hid (Mm u0 [] ∧ Below w.heap.size w u0) := by rw [hu0]; exact H0
  clear hu0 H0
  refine rest_set (d := 2) (v := .int .u32 0) (w' := u0) rfl rfl rfl (rfl) ?_
  simp only [Act.put, sa, sz, ss]
  refine rest_nil (then_normal ?_)
  refine wp_seq (wp_seq ?_)
  refine sq_start (l := [0, 1, 2]) rfl ?_
  refine rest_set (d := 3) (v := W32 n) (w' := u0) rfl rfl rfl (rfl) ?_
  simp only [Act.put, sa, sz, ss]
  refine rest_set (d := 4) (v := W32 (an n 1)) (w' := u0) rfl rfl rfl (ex_and32 (a := n) (b := 1) rfl rfl rfl) ?_
  simp only [Act.put, sa, sz, ss]
  refine rest_set (d := 5) (v := .bool true) (w' := u0) rfl rfl rfl (ex_eq32 (a := an n 1) (b := 1) (decide_eq_true hn) rfl rfl rfl) ?_
  simp only [Act.put, sa, sz, ss]
  refine rest_nil (then_normal ?_)
  refine wp_cond_true rfl (wp_seq ?_)
  refine sq_start (l := [0, 1, 2, 3]) rfl ?_
  refine rest_set (d := 6) (v := W32 n) (w' := u0) rfl rfl rfl (rfl) ?_
  simp only [Act.put, sa, sz, ss]
  refine rest_set (d := 7) (v := W32 (sr n 1)) (w' := u0) rfl rfl rfl (ex_shr32 (k := 1) (by decide) rfl rfl rfl) ?_
  simp only [Act.put, sa, sz, ss]
  refine rest_set (d := 8) (v := W32 (xo (sr n 1) 3988292384)) (w' := u0) rfl rfl rfl (ex_xor32 (a := sr n 1) (b := 3988292384) rfl rfl rfl) ?_
  simp only [Act.put, sa, sz, ss]
  refine rest_set (d := 2) (v := W32 (xo (sr n 1) 3988292384)) (w' := u0) rfl rfl rfl (rfl) ?_
  simp only [Act.put, sa, sz, ss]
  refine rest_nil (then_normal (wp_ret ?_))
  repeat (first | refine then_ret ?_ | refine block_ret ?_)
  refine bodyPost_ret (v := W32 (xo (sr n 1) 3988292384)) (by simp [results, Tryz.results165, go_sem, *]) rfl ?_
  exact ⟨rfl, H1.out.2⟩
set_option maxHeartbeats 2000000 in
set_option maxRecDepth 100000 in
theorem shifted_0 (n : Nat) (hn : ¬an n 1 = 1) (w : World) :
    Calls Tryz.prog 165 #[W32 n] w fun e w' => e = .returned (W32 (sr n 1)) ∧ Below w.heap.size w w' := by
  have H0 : Hid (_ ∧ _) := ⟨Mm.nil w, Below.refl w.heap.size w⟩
  go_enter Tryz.func165, Tryz.ntmps165
  refine wp_seq ?_
  refine sq_startW (l := [0]) rfl (fun u0 hu0 => ?_)
  have H1 : Hid (Mm u0 [] ∧ Below w.heap.size w u0) := by rw [hu0]; exact H0
  clear hu0 H0
  refine rest_set (d := 2) (v := .int .u32 0) (w' := u0) rfl rfl rfl (rfl) ?_
  simp only [Act.put, sa, sz, ss]
  refine rest_nil (then_normal ?_)
  refine wp_seq (wp_seq ?_)
  refine sq_start (l := [0, 1, 2]) rfl ?_
  refine rest_set (d := 3) (v := W32 n) (w' := u0) rfl rfl rfl (rfl) ?_
  simp only [Act.put, sa, sz, ss]
  refine rest_set (d := 4) (v := W32 (an n 1)) (w' := u0) rfl rfl rfl (ex_and32 (a := n) (b := 1) rfl rfl rfl) ?_
  simp only [Act.put, sa, sz, ss]
  refine rest_set (d := 5) (v := .bool false) (w' := u0) rfl rfl rfl (ex_eq32 (a := an n 1) (b := 1) (decide_eq_false hn) rfl rfl rfl) ?_
  simp only [Act.put, sa, sz, ss]
  refine rest_nil (then_normal ?_)
  refine wp_cond_false rfl (wp_skip ?_)
  refine then_normal (wp_seq ?_)
  refine sq_start (l := [0, 1, 2]) rfl ?_
  refine rest_set (d := 9) (v := W32 n) (w' := u0) rfl rfl rfl (rfl) ?_
  simp only [Act.put, sa, sz, ss]
  refine rest_set (d := 10) (v := W32 (sr n 1)) (w' := u0) rfl rfl rfl (ex_shr32 (k := 1) (by decide) rfl rfl rfl) ?_
  simp only [Act.put, sa, sz, ss]
  refine rest_set (d := 2) (v := W32 (sr n 1)) (w' := u0) rfl rfl rfl (rfl) ?_
  simp only [Act.put, sa, sz, ss]
  refine rest_nil (then_normal (wp_ret ?_))
  repeat (first | refine then_ret ?_ | refine block_ret ?_)
  refine bodyPost_ret (v := W32 (sr n 1)) (by simp [results, Tryz.results165, go_sem, *]) rfl ?_
  exact ⟨rfl, H1.out.2⟩
theorem shifted_any (n : Nat) (w : World) : Calls Tryz.prog 165 #[W32 n] w fun e w' => e = .returned (W32 (shf n)) ∧ Below w.heap.size w w' := by
  by_cases h : an n 1 = 1
  · rw [shf_one h]
    exact shifted_1 n h w
  · rw [shf_two h]
    exact shifted_0 n h w
set_option maxHeartbeats 4000000 in
set_option maxRecDepth 100000 in
theorem newTable_any  (w : World) :
    Calls Tryz.prog 146 #[] w fun e w' => e = .returned (.agg (ints .u32 crt 256).toArray) ∧ Below w.heap.size w w' := by
  have H0 : Hid (_ ∧ _) := ⟨Mm.nil w, Below.refl w.heap.size w⟩
  go_enter Tryz.func146, Tryz.ntmps146
  refine wp_seq ?_
  refine sq_startW (l := [0]) rfl (fun u0 hu0 => ?_)
  have H1 : Hid (Mm u0 [] ∧ Below w.heap.size w u0) := by rw [hu0]; exact H0
  clear hu0 H0
  refine rest_set (d := 0) (v := PT u0.heap.size 0) (w' := (u0.alloc (.cells (ints .u32 (fun _ => 0) 256 : List Value).toArray 169))) rfl rfl rfl (ex_mkT rfl) ?_
  simp only [Act.put, List.setIfInBounds_toArray, List.set_cons_zero]
  have o_γs2 : Hid (w.heap.size ≤ u0.heap.size) := H1.out.2.size
  have H2 : Hid (Mm (u0.alloc (.cells (ints .u32 (fun _ => 0) 256 : List Value).toArray 169)) ((u0.heap.size, ints .u32 (fun _ => 0) 256) :: []) ∧ Below w.heap.size w (u0.alloc (.cells (ints .u32 (fun _ => 0) 256 : List Value).toArray 169))) := ⟨H1.out.1.alloc _ 169 rfl, H1.out.2.trans (((Below.refl _ _).alloc (Nat.le_refl _) _).mono H1.out.2.size)⟩
  clear H1
  generalize hgw : u0.alloc (.cells (ints .u32 (fun _ => 0) 256 : List Value).toArray 169) = w2 at H2 ⊢
  clear hgw
  generalize u0.heap.size = γs2 at o_γs2 H2 ⊢
  refine rest_nil (then_normal (wp_seq ?_))
  refine sq_start (l := [0]) rfl ?_
  refine rest_set (d := 1) (v := PT w2.heap.size 0) (w' := (w2.alloc (.cells (ints .u32 (fun _ => 0) 256 : List Value).toArray 169))) rfl rfl rfl (ex_mkT rfl) ?_
  simp only [Act.put, sa, sz, ss]
  have o_γs3 : Hid (w.heap.size ≤ w2.heap.size) := H2.out.2.size
  have H3 : Hid (Mm (w2.alloc (.cells (ints .u32 (fun _ => 0) 256 : List Value).toArray 169)) ((w2.heap.size, ints .u32 (fun _ => 0) 256) :: [(γs2, ints .u32 (fun _ => 0) 256)]) ∧ Below w.heap.size w (w2.alloc (.cells (ints .u32 (fun _ => 0) 256 : List Value).toArray 169))) := ⟨H2.out.1.alloc _ 169 rfl, H2.out.2.trans (((Below.refl _ _).alloc (Nat.le_refl _) _).mono H2.out.2.size)⟩
  clear H2
  generalize hgw : w2.alloc (.cells (ints .u32 (fun _ => 0) 256 : List Value).toArray 169) = w3 at H3 ⊢
  clear hgw
  generalize w2.heap.size = γs3 at o_γs3 H3 ⊢
  refine rest_nil (then_normal ?_)
  refine wp_seq (wp_seq ?_)
  refine sq_start (l := [0]) rfl ?_
  refine rest_set (d := 4) (v := .int .i64 0) (w' := w3) rfl rfl rfl (rfl) ?_
  simp only [Act.put, sa, sz, ss]
  refine rest_nil (then_normal (wp_block ?_))
  refine loop_ghost (α := Nat) (fun x a' w' => ∃ s0 : Nat → Value, a' = ⟨#[PT γs2 0, PT γs3 0, s0 2, s0 3, .int .i64 ((x : Nat) : Int), s0 5, s0 6, s0 7, s0 8, s0 9, s0 10, s0 11, s0 12, s0 13, s0 14, s0 15, s0 16, s0 17, undef], []⟩ ∧ (Mm w' [(γs3, ints .u32 (tbf x) 256), (γs2, ints .u32 (fun _ => 0) 256)] ∧ Below w.heap.size w w') ∧ x ≤ 256) (fun x => 256 - x) 0 ?st0 ?rd0
  case st0 => exact ⟨(slotfn [undef, undef, undef, undef, undef, undef, undef, undef, undef, undef, undef, undef, undef, undef, undef, undef, undef, undef]), rfl, ⟨H3.out.1, H3.out.2⟩, Nat.zero_le _⟩
  intro x a' w4 hI
  obtain ⟨s0, rfl, hMB, hk0⟩ := hI
  have H4 : Hid (_ ∧ _) := hMB
  clear hMB H3
  by_cases hltx : x < 256
  · have hrd : True := trivial
    clear hrd
    refine wp_seq ?_
    refine sq_start (l := [0]) rfl ?_
    refine rest_set (d := 5) (v := .bool true) (w' := w4) rfl rfl rfl (by go_simp <;> omega) ?_
    simp only [Act.put, sa, sz, ss]
    refine rest_nil (then_normal ?_)
    refine wp_seq (wp_cond_true rfl ?_)
    refine wp_skip (then_normal ?_)
    refine wp_seq (wp_block (wp_seq ?_))
    refine sq_start (l := [0, 1]) rfl ?_
    refine rest_set (d := 6) (v := .int .i64 ((x : Nat) : Int)) (w' := w4) rfl rfl rfl (rfl) ?_
    simp only [Act.put, sa, sz, ss]
    refine rest_set (d := 2) (v := .int .i64 ((x : Nat) : Int)) (w' := w4) rfl rfl rfl (rfl) ?_
    simp only [Act.put, sa, sz, ss]
    refine rest_nil (then_normal (wp_seq ?_))
    refine sq_start (l := [0, 1, 2]) rfl ?_
    refine rest_set (d := 7) (v := .int .i64 ((x : Nat) : Int)) (w' := w4) rfl rfl rfl (rfl) ?_
    simp only [Act.put, sa, sz, ss]
    refine rest_set (d := 8) (v := W32 (c32 x)) (w' := w4) rfl rfl rfl (ex_cvIW (a := x) rfl rfl) ?_
    simp only [Act.put, sa, sz, ss]
    refine rest_set (d := 3) (v := W32 (c32 x)) (w' := w4) rfl rfl rfl (rfl) ?_
    simp only [Act.put, sa, sz, ss]
    refine rest_nil (then_normal ?_)
    refine wp_seq (wp_seq ?_)
    refine sq_start (l := [0]) rfl ?_
    refine rest_set (d := 9) (v := .int .i64 0) (w' := w4) rfl rfl rfl (rfl) ?_
    simp only [Act.put, sa, sz, ss]
    refine rest_nil (then_normal (wp_block ?_))
    refine loop_ghost (α := Nat) (fun y a' w' => ∃ s2 : Nat → Value, a' = ⟨#[PT γs2 0, PT γs3 0, .int .i64 ((x : Nat) : Int), W32 (shN (c32 x) y), .int .i64 ((x : Nat) : Int), .bool true, .int .i64 ((x : Nat) : Int), .int .i64 ((x : Nat) : Int), W32 (c32 x), .int .i64 ((y : Nat) : Int), s2 10, s2 11, s2 12, s2 13, s0 14, s0 15, s0 16, s0 17, undef], []⟩ ∧ (Mm w' [(γs3, ints .u32 (tbf x) 256), (γs2, ints .u32 (fun _ => 0) 256)] ∧ Below w.heap.size w w') ∧ y ≤ 8) (fun y => 8 - y) 0 ?st2 ?rd2
    case st2 => exact ⟨(slotfn [undef, undef, undef, undef, undef, undef, undef, undef, undef, undef, s0 10, s0 11, s0 12, s0 13]), rfl, ⟨H4.out.1, H4.out.2⟩, Nat.zero_le _⟩
    intro y a' w5 hI
    obtain ⟨s2, rfl, hMB, hk2⟩ := hI
    have H5 : Hid (_ ∧ _) := hMB
    clear hMB H4
    by_cases hlty : y < 8
    · have hrd : True := trivial
      clear hrd
      refine wp_seq ?_
      refine sq_start (l := [0]) rfl ?_
      refine rest_set (d := 10) (v := .bool true) (w' := w5) rfl rfl rfl (by go_simp <;> omega) ?_
      simp only [Act.put, sa, sz, ss]
      refine rest_nil (then_normal ?_)
      refine wp_seq (wp_cond_true rfl ?_)
      refine wp_skip (then_normal ?_)
      refine wp_seq (wp_block ?_)
      refine sq_start (l := [0, 1, 2]) rfl ?_
      refine rest_set (d := 11) (v := W32 (shN (c32 x) y)) (w' := w5) rfl rfl rfl (rfl) ?_
      simp only [Act.put, sa, sz, ss]
      refine rest_enter (d := 12) (R := fun vv w' => vv = W32 (shf (shN (c32 x) y)) ∧ Below w5.heap.size w5 w') rfl rfl rfl (exec_call (args := #[W32 (shN (c32 x) y)]) rfl call165 rfl (mpn rfl)) (Calls.mono (shifted_any _ w5) (fun e w2 hh => ⟨_, hh.1, rfl, hh.2⟩)) ?_
      rintro _ w6 ⟨rfl, hb⟩
      have H6 : Hid (Mm w6 [(γs3, ints .u32 (tbf x) 256), (γs2, ints .u32 (fun _ => 0) 256)] ∧ Below w.heap.size w w6) := ⟨H5.out.1.below hb, H5.out.2.trans (hb.mono H5.out.2.size)⟩
      clear hb
      clear H5
      simp only [Act.put, sa, sz, ss]
      refine rest_set (d := 3) (v := W32 (shf (shN (c32 x) y))) (w' := w6) rfl rfl rfl (rfl) ?_
      simp only [Act.put, sa, sz, ss]
      refine rest_nil (block_normal (then_normal ?_))
      refine sq_start (l := [0, 1]) rfl ?_
      refine rest_set (d := 13) (v := .int .i64 ((y + 1 : Nat) : Int)) (w' := w6) rfl rfl rfl (by go_simp; rw [IntKind.wrap_i64]; omega) ?_
      simp only [Act.put, sa, sz, ss]
      refine rest_set (d := 9) (v := .int .i64 ((y + 1 : Nat) : Int)) (w' := w6) rfl rfl rfl (rfl) ?_
      simp only [Act.put, sa, sz, ss]
      refine rest_nil (then_normal ?_)
      exact ⟨y + 1, ⟨(slotfn [undef, undef, undef, undef, undef, undef, undef, undef, undef, undef, .bool true, W32 (shN (c32 x) y), W32 (shf (shN (c32 x) y)), .int .i64 ((y + 1 : Nat) : Int)]), rfl, ⟨H6.out.1, H6.out.2⟩, (show y + 1 ≤ 8 by omega)⟩, (show 8 - (y + 1) < 8 - y by omega)⟩
    refine wp_seq ?_
    refine sq_start (l := [0]) rfl ?_
    refine rest_set (d := 10) (v := .bool false) (w' := w5) rfl rfl rfl (by go_simp <;> omega) ?_
    simp only [Act.put, sa, sz, ss]
    refine rest_nil (then_normal ?_)
    refine wp_seq (wp_cond_false rfl ?_)
    refine wp_exit ?_
    repeat refine then_exit ?_
    refine block_exit ?_
    obtain rfl : y = 8 := (show y = 8 by omega)
    refine then_normal ?_
    refine sq_start (l := [0, 1, 2, 3]) rfl ?_
    refine rest_set (d := 14) (v := .int .i64 ((x : Nat) : Int)) (w' := w5) rfl rfl rfl (rfl) ?_
    simp only [Act.put, sa, sz, ss]
    refine rest_set (d := 15) (v := W32 (shN (c32 x) 8)) (w' := w5) rfl rfl rfl (rfl) ?_
    simp only [Act.put, sa, sz, ss]
    refine rest_set (d := 16) (v := PT γs3 x) (w' := w5) rfl rfl rfl (ex_ixT1 (j := x) rfl rfl rfl (by omega)) ?_
    simp only [Act.put, sa, sz, ss]
    refine rest_store rfl rfl rfl (ex_storeI H5.out.1 0 rfl rfl Tryz.sizeOf167 rfl rfl (by rw [ints_len]; omega)) ?_
    have H7 : Hid (Mm (w5.setCells γs3 x [W32 (shN (c32 x) 8)]) [(γs3, ints .u32 (tbf (x + 1)) 256), (γs2, ints .u32 (fun _ => 0) 256)] ∧ Below w.heap.size w (w5.setCells γs3 x [W32 (shN (c32 x) 8)])) := ⟨by
      have h := H5.out.1.put 0 (off := x) (vs := [W32 (shN (c32 x) 8)]) rfl (by rw [ints_len]; simp only [List.length_cons, List.length_nil]; omega)
      rw [ints_patch _ _ _ _ (by omega)] at h
      exact h, below_setCells _ o_γs3.out _ _ _ H5.out.2⟩
    clear H5
    generalize hgw : World.setCells _ _ _ _ = w7 at H7 ⊢
    clear hgw
    refine rest_nil (block_normal (then_normal ?_))
    refine sq_start (l := [0, 1]) rfl ?_
    refine rest_set (d := 17) (v := .int .i64 ((x + 1 : Nat) : Int)) (w' := w7) rfl rfl rfl (by go_simp; rw [IntKind.wrap_i64]; omega) ?_
    simp only [Act.put, sa, sz, ss]
    refine rest_set (d := 4) (v := .int .i64 ((x + 1 : Nat) : Int)) (w' := w7) rfl rfl rfl (rfl) ?_
    simp only [Act.put, sa, sz, ss]
    refine rest_nil (then_normal ?_)
    exact ⟨x + 1, ⟨(slotfn [undef, undef, .int .i64 ((x : Nat) : Int), W32 (shN (c32 x) 8), undef, .bool true, .int .i64 ((x : Nat) : Int), .int .i64 ((x : Nat) : Int), W32 (c32 x), .int .i64 ((8 : Nat) : Int), .bool false, s2 11, s2 12, s2 13, .int .i64 ((x : Nat) : Int), W32 (shN (c32 x) 8), PT γs3 x, .int .i64 ((x + 1 : Nat) : Int)]), rfl, ⟨H7.out.1, H7.out.2⟩, (show x + 1 ≤ 256 by omega)⟩, (show 256 - (x + 1) < 256 - x by omega)⟩
  refine wp_seq ?_
  refine sq_start (l := [0]) rfl ?_
  refine rest_set (d := 5) (v := .bool false) (w' := w4) rfl rfl rfl (by go_simp <;> omega) ?_
  simp only [Act.put, sa, sz, ss]
  refine rest_nil (then_normal ?_)
  refine wp_seq (wp_cond_false rfl ?_)
  refine wp_exit ?_
  repeat refine then_exit ?_
  refine block_exit ?_
  obtain rfl : x = 256 := (show x = 256 by omega)
  have H8 : Hid (Mm w4 [(γs3, ints .u32 crt 256), (γs2, ints .u32 (fun _ => 0) 256)] ∧ Below w.heap.size w w4) := ⟨by rw [← tbf_all]; exact H4.out.1, H4.out.2⟩
  clear H4
  refine then_normal (wp_seq ?_)
  refine sq_start (l := [0, 1]) rfl ?_
  refine rest_set (d := 18) (v := .agg (ints .u32 crt 256).toArray) (w' := w4) rfl rfl rfl (ex_loadT H8.out.1 0 rfl rfl rfl Tryz.isAgg169 Tryz.sizeOf169 (ints_whole _ _ _) (ints_len _ _ _)) ?_
  simp only [Act.put, sa, sz, ss]
  refine rest_store rfl rfl rfl (ex_storeT (vs := ints .u32 crt 256) H8.out.1 1 rfl rfl rfl rfl (by rw [ints_len]; exact Tryz.sizeOf169) (ints_all _ _ _) (by rw [ints_len, ints_len]; omega)) ?_
  have H9 : Hid (Mm (w4.setCells γs2 0 (ints .u32 crt 256)) [(γs3, ints .u32 crt 256), (γs2, ints .u32 crt 256)] ∧ Below w.heap.size w (w4.setCells γs2 0 (ints .u32 crt 256))) := ⟨by
    have h := H8.out.1.put 1 (off := 0) (vs := ints .u32 crt 256) rfl (by rw [ints_len, ints_len]; omega)
    rw [ints_patch0] at h
    exact h, below_setCells _ o_γs2.out _ _ _ H8.out.2⟩
  clear H8
  generalize hgw : World.setCells _ _ _ _ = w9 at H9 ⊢
  clear hgw
  refine rest_nil (then_normal (wp_ret ?_))
  repeat (first | refine then_ret ?_ | refine block_ret ?_)
  have hf0 := var_T H9.out.1 1 rfl Tryz.isAgg169 Tryz.sizeOf169 (ints_len _ _ _)
  refine bodyPost_ret (v := .agg (ints .u32 crt 256).toArray) (by simp [results, Tryz.results146, asAddr, hf0]) rfl ?_
  exact ⟨rfl, H9.out.2⟩
set_option maxHeartbeats 2000000 in
set_option maxRecDepth 100000 in
theorem check_any (g t : Nat) (q : Pt8) (hn : q.n < 4611686018427387904) (w : World) (hT0 : Tb g t w) (hq0 : Pok q ∧ q.rs w) :
    Calls Tryz.prog 145 #[PT g t, .slice q.p q.n q.cp] w fun e w' => e = .returned (W32 (crc q.f q.n)) ∧ Below w.heap.size w w' := by
  have H0 : Hid (_ ∧ _) := ⟨Mm.nil w, Below.refl w.heap.size w⟩
  have hT : Hid _ := hT0
  have hq : Hid _ := hq0
  clear hT0 hq0
  go_enter Tryz.func145, Tryz.ntmps145
  refine wp_seq ?_
  refine sq_startW (l := [0]) rfl (fun u0 hu0 => ?_)
  have H1 : Hid (Mm u0 [] ∧ Below w.heap.size w u0) := by rw [hu0]; exact H0
  clear hu0 H0
  refine rest_set (d := 4) (v := .int .u32 0) (w' := u0) rfl rfl rfl (rfl) ?_
  simp only [Act.put, sa, sz, ss]
  refine rest_nil (then_normal (wp_seq ?_))
  refine sq_start (l := [0]) rfl ?_
  refine rest_set (d := 5) (v := .int .u32 4294967295) (w' := u0) rfl rfl rfl (rfl) ?_
  simp only [Act.put, sa, sz, ss]
  refine rest_nil (then_normal ?_)
  refine wp_seq (wp_seq ?_)
  refine sq_start (l := [0, 1, 2]) rfl ?_
  refine rest_set (d := 8) (v := .slice q.p q.n q.cp) (w' := u0) rfl rfl rfl (rfl) ?_
  simp only [Act.put, sa, sz, ss]
  refine rest_set (d := 9) (v := .int .i64 ((q.n : Nat) : Int)) (w' := u0) rfl rfl rfl (by go_simp) ?_
  simp only [Act.put, sa, sz, ss]
  refine rest_set (d := 10) (v := .int .i64 0) (w' := u0) rfl rfl rfl (rfl) ?_
  simp only [Act.put, sa, sz, ss]
  refine rest_nil (then_normal (wp_block ?_))
  refine loop_ghost (α := Nat) (fun x a' w' => ∃ s0 : Nat → Value, a' = ⟨#[PT g t, .slice q.p q.n q.cp, undef, undef, .int .u32 0, W32 (crn q.f x), undef, s0 7, .slice q.p q.n q.cp, .int .i64 ((q.n : Nat) : Int), .int .i64 ((x : Nat) : Int), s0 11, s0 12, s0 13, s0 14, s0 15, s0 16, s0 17, s0 18, s0 19, s0 20, s0 21, s0 22, s0 23, s0 24, s0 25, undef, undef], []⟩ ∧ (Mm w' [] ∧ Below w.heap.size w w') ∧ x ≤ q.n) (fun x => q.n - x) 0 ?st0 ?rd0
  case st0 => exact ⟨(slotfn [undef, undef, undef, undef, undef, undef, undef, undef, undef, undef, undef, undef, undef, undef, undef, undef, undef, undef, undef, undef, undef, undef, undef, undef, undef, undef]), rfl, ⟨H1.out.1, H1.out.2⟩, Nat.zero_le _⟩
  intro x a' w2 hI
  obtain ⟨s0, rfl, hMB, hk0⟩ := hI
  have H2 : Hid (_ ∧ _) := hMB
  clear hMB H1
  by_cases hltx : x < q.n
  · have hrd : True := trivial
    clear hrd
    refine wp_seq ?_
    refine sq_start (l := [0]) rfl ?_
    refine rest_set (d := 11) (v := .bool true) (w' := w2) rfl rfl rfl (by go_simp <;> omega) ?_
    simp only [Act.put, sa, sz, ss]
    refine rest_nil (then_normal ?_)
    refine wp_seq (wp_cond_true rfl ?_)
    refine wp_skip (then_normal ?_)
    refine wp_seq (wp_block (wp_seq ?_))
    refine sq_start (l := [0, 1, 2]) rfl ?_
    refine rest_set (d := 12) (v := PT q.gb (q.o + x)) (w' := w2) rfl rfl rfl (ex_ixP22 (hq.out.1.at (by omega)) rfl rfl rfl hltx) ?_
    simp only [Act.put, sa, sz, ss]
    refine rest_set (d := 13) (v := Z8 (q.f x)) (w' := w2) rfl rfl rfl (ex_ldB (hq.out.2.below H2.out.2) hltx rfl rfl) ?_
    simp only [Act.put, sa, sz, ss]
    refine rest_set (d := 7) (v := Z8 (q.f x)) (w' := w2) rfl rfl rfl (rfl) ?_
    simp only [Act.put, sa, sz, ss]
    refine rest_nil (then_normal ?_)
    refine sq_start (l := [0, 1, 2, 3, 4, 5, 6, 7, 8, 9, 10, 11]) rfl ?_
    refine rest_set (d := 14) (v := W32 (crn q.f x)) (w' := w2) rfl rfl rfl (rfl) ?_
    simp only [Act.put, sa, sz, ss]
    refine rest_set (d := 15) (v := W32 (sr (crn q.f x) 8)) (w' := w2) rfl rfl rfl (ex_shr32 (k := 8) (by decide) rfl rfl rfl) ?_
    simp only [Act.put, sa, sz, ss]
    refine rest_set (d := 16) (v := PT g t) (w' := w2) rfl rfl rfl (rfl) ?_
    simp only [Act.put, sa, sz, ss]
    refine rest_set (d := 17) (v := W32 (crn q.f x)) (w' := w2) rfl rfl rfl (rfl) ?_
    simp only [Act.put, sa, sz, ss]
    refine rest_set (d := 18) (v := Z8 ((crn q.f x) % 256)) (w' := w2) rfl rfl rfl (ex_cvWB rfl rfl) ?_
    simp only [Act.put, sa, sz, ss]
    refine rest_set (d := 19) (v := Z8 (q.f x)) (w' := w2) rfl rfl rfl (rfl) ?_
    simp only [Act.put, sa, sz, ss]
    refine rest_set (d := 20) (v := Z8 (xb ((crn q.f x) % 256) (q.f x))) (w' := w2) rfl rfl rfl (ex_xor8 rfl rfl rfl) ?_
    simp only [Act.put, sa, sz, ss]
    refine rest_set (d := 21) (v := PT g t) (w' := w2) rfl rfl rfl (by go_simp) ?_
    simp only [Act.put, sa, sz, ss]
    refine rest_set (d := 22) (v := PT g (t + (xb ((crn q.f x) % 256) (q.f x)))) (w' := w2) rfl rfl rfl (ex_ixT8 rfl rfl rfl (xb_lt _ _)) ?_
    simp only [Act.put, sa, sz, ss]
    refine rest_set (d := 23) (v := W32 (crt (xb ((crn q.f x) % 256) (q.f x)))) (w' := w2) rfl rfl rfl (ex_ldT (hT.out.below H2.out.2) (xb_lt _ _) rfl rfl) ?_
    simp only [Act.put, sa, sz, ss]
    refine rest_set (d := 24) (v := W32 (xo (sr (crn q.f x) 8) (crt (xb ((crn q.f x) % 256) (q.f x))))) (w' := w2) rfl rfl rfl (ex_xor32 (a := sr (crn q.f x) 8) (b := crt (xb ((crn q.f x) % 256) (q.f x))) rfl rfl rfl) ?_
    simp only [Act.put, sa, sz, ss]
    refine rest_set (d := 5) (v := W32 (xo (sr (crn q.f x) 8) (crt (xb ((crn q.f x) % 256) (q.f x))))) (w' := w2) rfl rfl rfl (rfl) ?_
    simp only [Act.put, sa, sz, ss]
    refine rest_nil (block_normal (then_normal ?_))
    refine sq_start (l := [0, 1]) rfl ?_
    refine rest_set (d := 25) (v := .int .i64 ((x + 1 : Nat) : Int)) (w' := w2) rfl rfl rfl (by go_simp; rw [IntKind.wrap_i64]; omega) ?_
    simp only [Act.put, sa, sz, ss]
    refine rest_set (d := 10) (v := .int .i64 ((x + 1 : Nat) : Int)) (w' := w2) rfl rfl rfl (rfl) ?_
    simp only [Act.put, sa, sz, ss]
    refine rest_nil (then_normal ?_)
    exact ⟨x + 1, ⟨(slotfn [undef, undef, undef, undef, undef, undef, undef, Z8 (q.f x), undef, undef, undef, .bool true, PT q.gb (q.o + x), Z8 (q.f x), W32 (crn q.f x), W32 (sr (crn q.f x) 8), PT g t, W32 (crn q.f x), Z8 ((crn q.f x) % 256), Z8 (q.f x), Z8 (xb ((crn q.f x) % 256) (q.f x)), PT g t, PT g (t + (xb ((crn q.f x) % 256) (q.f x))), W32 (crt (xb ((crn q.f x) % 256) (q.f x))), W32 (xo (sr (crn q.f x) 8) (crt (xb ((crn q.f x) % 256) (q.f x)))), .int .i64 ((x + 1 : Nat) : Int)]), rfl, ⟨H2.out.1, H2.out.2⟩, (show x + 1 ≤ q.n by omega)⟩, (show q.n - (x + 1) < q.n - x by omega)⟩
  refine wp_seq ?_
  refine sq_start (l := [0]) rfl ?_
  refine rest_set (d := 11) (v := .bool false) (w' := w2) rfl rfl rfl (by go_simp <;> omega) ?_
  simp only [Act.put, sa, sz, ss]
  refine rest_nil (then_normal ?_)
  refine wp_seq (wp_cond_false rfl ?_)
  refine wp_exit ?_
  repeat refine then_exit ?_
  refine block_exit ?_
  have hxn : x = q.n := by omega
  refine then_normal (wp_seq ?_)
  refine sq_start (l := [0, 1, 2]) rfl ?_
  refine rest_set (d := 26) (v := W32 (crn q.f x)) (w' := w2) rfl rfl rfl (rfl) ?_
  simp only [Act.put, sa, sz, ss]
  refine rest_set (d := 27) (v := W32 (nt (crn q.f x))) (w' := w2) rfl rfl rfl (ex_not32 rfl rfl) ?_
  simp only [Act.put, sa, sz, ss]
  refine rest_set (d := 4) (v := W32 (nt (crn q.f x))) (w' := w2) rfl rfl rfl (rfl) ?_
  simp only [Act.put, sa, sz, ss]
  refine rest_nil (then_normal (wp_ret ?_))
  repeat (first | refine then_ret ?_ | refine block_ret ?_)
  refine bodyPost_ret (v := W32 (nt (crn q.f x))) (by simp [results, Tryz.results145, go_sem, *]) rfl ?_
  exact ⟨by rw [hxn]; rfl, H2.out.2⟩
end Wi
end Rg
end Go.Proofs.YtmcpagjhpfbpgaaGreatDoor
end
section
namespace Go.Proofs.YtmcpagjhpfbpgaaGreatDoor
open Go.RowKit
namespace Rg
namespace Wi
theorem call145 : ∀ args w, (callFunc 145 args).run Tryz.prog w = .ok (.enter 145 args) w := by intro args w; go_simp
theorem call168 : ∀ args w, (callFunc 168 args).run Tryz.prog w = .ok (.enter 168 args) w := by intro args w; go_simp
theorem call188 : ∀ args w, (callFunc 188 args).run Tryz.prog w = .ok (.enter 188 args) w := by intro args w; go_simp
set_option maxRecDepth 100000
/-- A part's first k, a part without its first k. -/
def Pt8.tk (q : Pt8) (k : Nat) : Pt8 := ⟨q.gb, q.o, k, q.cp, q.p, q.f⟩
def Pt8.dp (q : Pt8) (k : Nat) : Pt8 := ⟨q.gb, q.o + k, q.n - k, q.cp - k, if q.cp = k then q.p else q.p.map (·.add k), fun j => q.f (k + j)⟩
theorem Pok.tk {q : Pt8} (h : Pok q) {k : Nat} (hk : k ≤ q.n) : Pok (q.tk k) := by
  refine ⟨⟨fun h0 => ?_, fun h0 => ⟨_, _, by rw [← h0]⟩⟩, Nat.le_trans hk h.le⟩
  have e := h.at (Nat.lt_of_lt_of_le h0 hk)
  show Value.slice q.p k q.cp = _
  rw [e]
  rfl
theorem Pok.dp {q : Pt8} (h : Pok q) {k : Nat} (hk : k ≤ q.n) : Pok (q.dp k) := by
  refine ⟨⟨fun h0 => ?_, fun h0 => ⟨_, _, by rw [← h0]⟩⟩, ?_⟩
  · have h1 : k < q.n := by have : 0 < q.n - k := h0; omega
    have h2 := h.le
    have e := h.at (by omega)
    show Value.slice (if q.cp = k then q.p else q.p.map (·.add k)) (q.n - k) (q.cp - k) = .slice (some ⟨q.gb, q.o + k + 0, none⟩) (q.n - k - 0) (q.cp - k - 0)
    rw [if_neg (by omega), e, Option.map_some, show (⟨q.gb, q.o, none⟩ : Addr).add k = ⟨q.gb, q.o + k, none⟩ by unfold Addr.add; split <;> simp_all]
    rfl
  · have h2 := h.le
    show q.n - k ≤ q.cp - k
    omega
theorem Pt8.rs_tk {q : Pt8} {w : World} (h : q.rs w) {k : Nat} (hk : k ≤ q.n) : (q.tk k).rs w := ⟨fun h0 => h.lt (Nat.lt_of_lt_of_le h0 hk), fun i hi => h.at_ i (Nat.lt_of_lt_of_le hi hk)⟩
theorem Pt8.rs_dp {q : Pt8} {w : World} (h : q.rs w) {k : Nat} (hk : k ≤ q.n) : (q.dp k).rs w := ⟨fun h0 => h.lt (by have : 0 < q.n - k := h0; omega), fun i hi => by
  have h1 : i < q.n - k := hi
  have e := h.at_ (k + i) (by omega)
  rw [← Nat.add_assoc] at e
  exact e⟩
theorem Pt8.dp_no {q : Pt8} (h : q.p = none → q.cp = 0) (k : Nat) : (q.dp k).p = none → (q.dp k).cp = 0 := fun e => by
  have e2 : (if q.cp = k then q.p else q.p.map (·.add k)) = none := e
  show q.cp - k = 0
  by_cases hc : q.cp = k
  · omega
  · rw [if_neg hc] at e2
    have : q.p = none := by cases hp : q.p with | none => rfl | some a => rw [hp] at e2; cases e2
    rw [h this]
    omega
theorem Pt8.tk_no {q : Pt8} (h : q.p = none → q.cp = 0) (k : Nat) : (q.tk k).p = none → (q.tk k).cp = 0 := h
/-- The number at a part's front. -/
def Pt8.nb (q : Pt8) : Nat := nb4 (q.f 0) (q.f 1) (q.f 2) (q.f 3)
theorem nb4_lt (a b c d : Nat) : nb4 a b c d < 4294967296 := Nat.mod_lt _ (by decide)
section
variable {ρ : Operand → Value} {o : Oper} {x x0 x1 x2 x3 y z : Operand} {a b c d k m : Nat} {w : World}
theorem ex_bs40_4 (ho : o.op = .buildSlice 40 4 #[(0, x0), (1, x1), (2, x2), (3, x3)]) (h0 : ρ x0 = Z8 a) (h1 : ρ x1 = Z8 b) (h2 : ρ x2 = Z8 c) (h3 : ρ x3 = Z8 d) : (execOp ρ o).run Tryz.prog w = .ok (.value (.slice (some ⟨w.heap.size, 0, none⟩) 4 4)) (w.alloc (.cells ([Z8 a, Z8 b, Z8 c, Z8 d] : List Value).toArray 5)) := by
  simp only [execOp, ho, List.map_toArray, List.map_cons, List.map_nil, h0, h1, h2, h3]
  kernel_rfl
theorem ex_tkQ {q : Pt8} (hk : k ≤ q.cp) (ho : o.op = .slice 40 x none (some y) none) (hx : ρ x = .slice q.p q.n q.cp) (hy : ρ y = .int .i64 (k : Int)) : (execOp ρ o).run Tryz.prog w = .ok (.value (.slice (q.tk k).p (q.tk k).n (q.tk k).cp)) w := ex_take hk ho hx hy
theorem ex_dpQ {q : Pt8} (hk : k ≤ q.n) (ho : o.op = .slice 40 x (some y) none none) (hx : ρ x = .slice q.p q.n q.cp) (hy : ρ y = .int .i64 (k : Int)) : (execOp ρ o).run Tryz.prog w = .ok (.value (.slice (q.dp k).p (q.dp k).n (q.dp k).cp)) w := ex_drop hk ho hx hy
theorem ex_mdQ {q : Pt8} (hk : k ≤ m) (hm : m ≤ q.cp) (ho : o.op = .slice 40 x (some y) (some z) none) (hx : ρ x = .slice q.p q.n q.cp) (hy : ρ y = .int .i64 (k : Int)) (hz : ρ z = .int .i64 (m : Int)) : (execOp ρ o).run Tryz.prog w = .ok (.value (.slice (((q.tk m).dp k)).p ((q.tk m).dp k).n ((q.tk m).dp k).cp)) w := by
  have h1 : (k : Int) ≤ m := by omega
  have h2 : (m : Int) ≤ q.cp := by omega
  show (execOp ρ o).run Tryz.prog w = .ok (.value (.slice (if q.cp = k then q.p else q.p.map (·.add k)) (m - k) (q.cp - k))) w
  obtain ⟨gb, oo, n, cp, p, f⟩ := q
  simp only [execOp, ho, hx, hy, hz, Option.map_some, Option.map_none]
  clear ho hx hy hz
  cases p <;> go_simp
end
set_option maxHeartbeats 2000000 in
set_option maxRecDepth 100000 in
theorem number_any (q : Pt8) (hn : 4 ≤ q.n) (w : World) (hq0 : Pok q ∧ q.rs w) :
    Calls Tryz.prog 188 #[.slice q.p q.n q.cp] w fun e w' => e = .returned (W32 q.nb) ∧ Below w.heap.size w w' := by
  have H0 : Hid (_ ∧ _) := ⟨Mm.nil w, Below.refl w.heap.size w⟩
  have hq : Hid _ := hq0
  clear hq0
  go_enter Tryz.func188, Tryz.ntmps188
  refine wp_seq ?_
  refine sq_startW (l := [0]) rfl (fun u0 hu0 => ?_)
  have H1 : Hid (Mm u0 [] ∧ Below w.heap.size w u0) := by rw [hu0]; exact H0
  clear hu0 H0
  refine rest_set (d := 2) (v := .int .u32 0) (w' := u0) rfl rfl rfl (rfl) ?_
  simp only [Act.put, sa, sz, ss]
  refine rest_nil (then_normal (wp_seq ?_))
  refine (walk_any) (by kernel_rfl) 23 [.quiet (.slice q.p q.n q.cp), .quiet (PT q.gb (q.o + 0)), .quiet (Z8 (q.f 0)), .quiet (W32 (c32 (q.f 0))), .quiet (W32 (sl (c32 (q.f 0)) 24)), .quiet (.slice q.p q.n q.cp), .quiet (PT q.gb (q.o + 1)), .quiet (Z8 (q.f 1)), .quiet (W32 (c32 (q.f 1))), .quiet (W32 (sl (c32 (q.f 1)) 16)), .quiet (W32 (ou (sl (c32 (q.f 0)) 24) (sl (c32 (q.f 1)) 16))), .quiet (.slice q.p q.n q.cp), .quiet (PT q.gb (q.o + 2)), .quiet (Z8 (q.f 2)), .quiet (W32 (c32 (q.f 2))), .quiet (W32 (sl (c32 (q.f 2)) 8)), .quiet (W32 (ou (ou (sl (c32 (q.f 0)) 24) (sl (c32 (q.f 1)) 16)) (sl (c32 (q.f 2)) 8))), .quiet (.slice q.p q.n q.cp), .quiet (PT q.gb (q.o + 3)), .quiet (Z8 (q.f 3)), .quiet (W32 (c32 (q.f 3))), .quiet (W32 (ou (ou (ou (sl (c32 (q.f 0)) 24) (sl (c32 (q.f 1)) 16)) (sl (c32 (q.f 2)) 8)) (c32 (q.f 3)))), .quiet (W32 (ou (ou (ou (sl (c32 (q.f 0)) 24) (sl (c32 (q.f 1)) 16)) (sl (c32 (q.f 2)) 8)) (c32 (q.f 3))))] (fun u' => Mm u' [] ∧ Below w.heap.size w u') ?pre2 ?F2 ?hpre2 (fun γ => ?hF2) (by kernel_rfl) ?hL2 ?hS2 ?ho2 ?he2
  case hpre2 => simp only [tk, tz]; rfl
  case hF2 => simp only [fill, Kind.val, Act.put, sa, sz, ss]; rfl
  case hL2 => exact trivial
  case hS2 => exact fun w' hb => ⟨H1.out.1.below hb, H1.out.2.trans (hb.mono H1.out.2.size)⟩
  case ho2 =>
    refine ak (fun _ => ⟨rfl, fun _ _ => rfl⟩) ?_
    refine ak (fun γ => ⟨rfl, fun w' _ => ex_ixP22 (j := 0) (hq.out.1.at (by omega)) rfl rfl rfl (by omega)⟩) ?_
    refine ak (fun γ => ⟨rfl, fun w' hX => ex_ldB (j := 0) (hq.out.2.below hX.2) (by omega) rfl rfl⟩) ?_
    refine ak (fun γ => ⟨rfl, fun w' _ => ex_cvBW rfl rfl⟩) ?_
    refine ak (fun γ => ⟨rfl, fun w' _ => ex_shl32 (k := 24) (by decide) rfl rfl rfl⟩) ?_
    refine ak (fun _ => ⟨rfl, fun _ _ => rfl⟩) ?_
    refine ak (fun γ => ⟨rfl, fun w' _ => ex_ixP22 (j := 1) (hq.out.1.at (by omega)) rfl rfl rfl (by omega)⟩) ?_
    refine ak (fun γ => ⟨rfl, fun w' hX => ex_ldB (j := 1) (hq.out.2.below hX.2) (by omega) rfl rfl⟩) ?_
    refine ak (fun γ => ⟨rfl, fun w' _ => ex_cvBW rfl rfl⟩) ?_
    refine ak (fun γ => ⟨rfl, fun w' _ => ex_shl32 (k := 16) (by decide) rfl rfl rfl⟩) ?_
    refine ak (fun γ => ⟨rfl, fun w' _ => ex_or32 (a := sl (c32 (q.f 0)) 24) (b := sl (c32 (q.f 1)) 16) rfl rfl rfl⟩) ?_
    refine ak (fun _ => ⟨rfl, fun _ _ => rfl⟩) ?_
    refine ak (fun γ => ⟨rfl, fun w' _ => ex_ixP22 (j := 2) (hq.out.1.at (by omega)) rfl rfl rfl (by omega)⟩) ?_
    refine ak (fun γ => ⟨rfl, fun w' hX => ex_ldB (j := 2) (hq.out.2.below hX.2) (by omega) rfl rfl⟩) ?_
    refine ak (fun γ => ⟨rfl, fun w' _ => ex_cvBW rfl rfl⟩) ?_
    refine ak (fun γ => ⟨rfl, fun w' _ => ex_shl32 (k := 8) (by decide) rfl rfl rfl⟩) ?_
    refine ak (fun γ => ⟨rfl, fun w' _ => ex_or32 (a := ou (sl (c32 (q.f 0)) 24) (sl (c32 (q.f 1)) 16)) (b := sl (c32 (q.f 2)) 8) rfl rfl rfl⟩) ?_
    refine ak (fun _ => ⟨rfl, fun _ _ => rfl⟩) ?_
    refine ak (fun γ => ⟨rfl, fun w' _ => ex_ixP22 (j := 3) (hq.out.1.at (by omega)) rfl rfl rfl (by omega)⟩) ?_
    refine ak (fun γ => ⟨rfl, fun w' hX => ex_ldB (j := 3) (hq.out.2.below hX.2) (by omega) rfl rfl⟩) ?_
    refine ak (fun γ => ⟨rfl, fun w' _ => ex_cvBW rfl rfl⟩) ?_
    refine ak (fun γ => ⟨rfl, fun w' _ => ex_or32 (a := ou (ou (sl (c32 (q.f 0)) 24) (sl (c32 (q.f 1)) 16)) (sl (c32 (q.f 2)) 8)) (b := c32 (q.f 3)) rfl rfl rfl⟩) ?_
    refine ak (fun _ => ⟨rfl, fun _ _ => rfl⟩) ?_
    exact trivial
  intro γ w2 l hM hl
  have H2 := keepB H1 hM.below
  clear hM hl l H1 γ
  refine rest0 rfl (then_normal (wp_ret ?_))
  repeat (first | refine then_ret ?_ | refine block_ret ?_)
  refine bodyPost_ret (v := W32 (ou (ou (ou (sl (c32 (q.f 0)) 24) (sl (c32 (q.f 1)) 16)) (sl (c32 (q.f 2)) 8)) (c32 (q.f 3)))) (by simp [results, Tryz.results188, go_sem, *]) rfl ?_
  exact ⟨rfl, H2.out.2⟩
theorem by4_cells {w : World} {g x : Nat} (hm : Mm w [(g, [Z8 (sr x 24 % 256), Z8 (sr x 16 % 256), Z8 (sr x 8 % 256), Z8 (x % 256)])]) {i : Nat} (hi : i < 4) : w.cell? ⟨g, 0 + i, none⟩ = some (Z8 (by4 x i)) := by
  rw [Nat.zero_add]
  obtain rfl | rfl | rfl | rfl : i = 0 ∨ i = 1 ∨ i = 2 ∨ i = 3 := by omega
  · exact hm.get 0 rfl 0 rfl
  · exact hm.get 0 rfl 1 rfl
  · exact hm.get 0 rfl 2 rfl
  · exact hm.get 0 rfl 3 rfl
set_option maxHeartbeats 2000000 in
set_option maxRecDepth 100000 in
theorem put4_any (ps : Option Addr) (n cs B x : Nat) (P : Nat → Nat) (hbd : n + 4 ≤ 2097152) (w : World) (hB : B ≤ w.heap.size) (row0 : w.ownsRow B 5 1 (Value.slice ps n cs) n (ints .u8 P n)) :
    Calls Tryz.prog 144 #[.slice ps n cs, W32 x] w fun e w' => ∃ v', e = .returned v' ∧ w'.ownsRow B 5 1 v' (n + 4) (ints .u8 (ct P n (by4 x)) (n + 4)) ∧ Chg (vbl (Value.slice ps n cs)) w w' := by
  have H0 : Hid (_ ∧ _) := ⟨Mm.nil w, Below.refl w.heap.size w⟩
  have row : Hid _ := row0
  clear row0
  go_enter Tryz.func144, Tryz.ntmps144
  refine wp_seq ?_
  refine sq_startW (l := [0]) rfl (fun u0 hu0 => ?_)
  have H1 : Hid (Mm u0 [] ∧ Below w.heap.size w u0) := by rw [hu0]; exact H0
  clear hu0 H0
  refine rest_set (d := 4) (v := .slice none 0 0) (w' := u0) rfl rfl rfl (rfl) ?_
  simp only [Act.put, sa, sz, ss]
  refine rest_nil (then_normal (wp_seq ?_))
  refine sq_start (l := [0, 1, 2, 3, 4, 5, 6, 7, 8, 9, 10, 11, 12, 13, 14]) rfl ?_
  refine rest_set (d := 5) (v := .slice ps n cs) (w' := u0) rfl rfl rfl (rfl) ?_
  simp only [Act.put, sa, sz, ss]
  refine rest_set (d := 6) (v := W32 x) (w' := u0) rfl rfl rfl (rfl) ?_
  simp only [Act.put, sa, sz, ss]
  refine rest_set (d := 7) (v := W32 (sr x 24)) (w' := u0) rfl rfl rfl (ex_shr32 (k := 24) (by decide) rfl rfl rfl) ?_
  simp only [Act.put, sa, sz, ss]
  refine rest_set (d := 8) (v := Z8 ((sr x 24) % 256)) (w' := u0) rfl rfl rfl (ex_cvWB rfl rfl) ?_
  simp only [Act.put, sa, sz, ss]
  refine rest_set (d := 9) (v := W32 x) (w' := u0) rfl rfl rfl (rfl) ?_
  simp only [Act.put, sa, sz, ss]
  refine rest_set (d := 10) (v := W32 (sr x 16)) (w' := u0) rfl rfl rfl (ex_shr32 (k := 16) (by decide) rfl rfl rfl) ?_
  simp only [Act.put, sa, sz, ss]
  refine rest_set (d := 11) (v := Z8 ((sr x 16) % 256)) (w' := u0) rfl rfl rfl (ex_cvWB rfl rfl) ?_
  simp only [Act.put, sa, sz, ss]
  refine rest_set (d := 12) (v := W32 x) (w' := u0) rfl rfl rfl (rfl) ?_
  simp only [Act.put, sa, sz, ss]
  refine rest_set (d := 13) (v := W32 (sr x 8)) (w' := u0) rfl rfl rfl (ex_shr32 (k := 8) (by decide) rfl rfl rfl) ?_
  simp only [Act.put, sa, sz, ss]
  refine rest_set (d := 14) (v := Z8 ((sr x 8) % 256)) (w' := u0) rfl rfl rfl (ex_cvWB rfl rfl) ?_
  simp only [Act.put, sa, sz, ss]
  refine rest_set (d := 15) (v := W32 x) (w' := u0) rfl rfl rfl (rfl) ?_
  simp only [Act.put, sa, sz, ss]
  refine rest_set (d := 16) (v := Z8 (x % 256)) (w' := u0) rfl rfl rfl (ex_cvWB rfl rfl) ?_
  simp only [Act.put, sa, sz, ss]
  refine rest_set (d := 17) (v := .slice (some ⟨u0.heap.size, 0, none⟩) 4 4) (w' := (u0.alloc (.cells ([Z8 ((sr x 24) % 256), Z8 ((sr x 16) % 256), Z8 ((sr x 8) % 256), Z8 (x % 256)] : List Value).toArray 5))) rfl rfl rfl (ex_bs40_4 rfl rfl rfl rfl rfl) ?_
  simp only [Act.put, sa, sz, ss]
  have o_γs2 : Hid (w.heap.size ≤ u0.heap.size) := H1.out.2.size
  have H2 : Hid (Mm (u0.alloc (.cells ([Z8 ((sr x 24) % 256), Z8 ((sr x 16) % 256), Z8 ((sr x 8) % 256), Z8 (x % 256)] : List Value).toArray 5)) ((u0.heap.size, [Z8 ((sr x 24) % 256), Z8 ((sr x 16) % 256), Z8 ((sr x 8) % 256), Z8 (x % 256)]) :: []) ∧ Below w.heap.size w (u0.alloc (.cells ([Z8 ((sr x 24) % 256), Z8 ((sr x 16) % 256), Z8 ((sr x 8) % 256), Z8 (x % 256)] : List Value).toArray 5))) := ⟨H1.out.1.alloc _ 5 rfl, H1.out.2.trans (((Below.refl _ _).alloc (Nat.le_refl _) _).mono H1.out.2.size)⟩
  clear H1
  generalize hgw : u0.alloc (.cells ([Z8 ((sr x 24) % 256), Z8 ((sr x 16) % 256), Z8 ((sr x 8) % 256), Z8 (x % 256)] : List Value).toArray 5) = w2 at H2 ⊢
  clear hgw
  generalize u0.heap.size = γs2 at o_γs2 H2 ⊢
  obtain ⟨vr, w3, hr, hO, hG, h5⟩ := own_appQ (own_keep row.out (fun b hb => H2.out.2.block b (own_lt row.out b hb))) (Nat.le_trans hB H2.out.2.size) (q := ⟨γs2, 0, 4, 4, some ⟨γs2, 0, none⟩, by4 x⟩) ⟨Bv.start _ _ _ _, Nat.le_refl _⟩ (fun e => by cases e) ⟨fun _ => (H2.out.1.blk _ (List.mem_cons_self ..)).1, fun i hi => by4_cells H2.out.1 hi⟩ hbd 40
  refine rest_set (d := 18) (v := vr) (w' := w3) rfl rfl rfl (ex_app rfl rfl rfl hr) ?_
  simp only [Act.put, sa, sz, ss]
  have hC : Chg (vbl (Value.slice ps n cs)) w w3 := (Chg.of H2.out.2).trans (Chg.grown hG) (fun x hx => .inl hx)
  have hOO : Hid _ := hO
  have hV : Hid (∀ x ∈ vbl vr, x ∈ vbl (Value.slice ps n cs) ∨ w.heap.size ≤ x) := vbl_new h5 H2.out.2.size rfl
  have H3 : Hid (Mm w3 [] ∧ Chg (vbl (Value.slice ps n cs)) w w3) := ⟨Mm.nil _, hC⟩
  clear hr hO hG h5 hC H2
  refine rest_set (d := 4) (v := vr) (w' := w3) rfl rfl rfl (rfl) ?_
  simp only [Act.put, sa, sz, ss]
  refine rest_nil (then_normal (wp_ret ?_))
  repeat (first | refine then_ret ?_ | refine block_ret ?_)
  refine bodyPost_ret (v := vr) (by simp [results, Tryz.results144, go_sem, *]) rfl ?_
  exact ⟨_, rfl, hOO.out, H3.out.2⟩
theorem put4_v (v : Value) (n B x : Nat) (P : Nat → Nat) (hbd : n + 4 ≤ 2097152) (w : World) (hB : B ≤ w.heap.size) (row0 : w.ownsRow B 5 1 v n (ints .u8 P n)) : Calls Tryz.prog 144 #[v, W32 x] w fun e w' => ∃ v', e = .returned v' ∧ w'.ownsRow B 5 1 v' (n + 4) (ints .u8 (ct P n (by4 x)) (n + 4)) ∧ Chg (vbl v) w w' := by
  obtain ⟨ps, cs, rfl, _⟩ := own_slice row0
  exact put4_any ps n cs B x P hbd w hB row0
set_option maxHeartbeats 2000000 in
set_option maxRecDepth 100000 in
theorem framed_any (n : Nat) (hn : n < 4611686018427387904) (w : World) :
    Calls Tryz.prog 143 #[.int .i64 ((n : Nat) : Int)] w fun e w' => e = .returned (.int .i64 ((8 + n + 4 : Nat) : Int)) ∧ Below w.heap.size w w' := by
  have H0 : Hid (_ ∧ _) := ⟨Mm.nil w, Below.refl w.heap.size w⟩
  go_enter Tryz.func143, Tryz.ntmps143
  refine wp_seq ?_
  refine sq_startW (l := [0]) rfl (fun u0 hu0 => ?_)
  have H1 : Hid (Mm u0 [] ∧ Below w.heap.size w u0) := by rw [hu0]; exact H0
  clear hu0 H0
  refine rest_set (d := 2) (v := .int .i64 0) (w' := u0) rfl rfl rfl (rfl) ?_
  simp only [Act.put, sa, sz, ss]
  refine rest_nil (then_normal (wp_seq ?_))
  refine sq_start (l := [0, 1, 2, 3]) rfl ?_
  refine rest_set (d := 3) (v := .int .i64 ((n : Nat) : Int)) (w' := u0) rfl rfl rfl (rfl) ?_
  simp only [Act.put, sa, sz, ss]
  refine rest_set (d := 4) (v := .int .i64 ((8 + n : Nat) : Int)) (w' := u0) rfl rfl rfl (by go_simp; rw [IntKind.wrap_i64]; omega) ?_
  simp only [Act.put, sa, sz, ss]
  refine rest_set (d := 5) (v := .int .i64 ((8 + n + 4 : Nat) : Int)) (w' := u0) rfl rfl rfl (by go_simp; rw [IntKind.wrap_i64]; omega) ?_
  simp only [Act.put, sa, sz, ss]
  refine rest_set (d := 2) (v := .int .i64 ((8 + n + 4 : Nat) : Int)) (w' := u0) rfl rfl rfl (rfl) ?_
  simp only [Act.put, sa, sz, ss]
  refine rest_nil (then_normal (wp_ret ?_))
  repeat (first | refine then_ret ?_ | refine block_ret ?_)
  refine bodyPost_ret (v := .int .i64 ((8 + n + 4 : Nat) : Int)) (by simp [results, Tryz.results143, go_sem, *]) rfl ?_
  exact ⟨rfl, H1.out.2⟩
set_option maxHeartbeats 2000000 in
set_option maxRecDepth 100000 in
theorem holds_any (g t : Nat) (q r : Pt8) (hn : q.n < 4611686018427387904) (hr4 : 4 ≤ r.n) (w : World) (hT0 : Tb g t w) (hq0 : Pok q ∧ q.rs w) (hr0 : Pok r ∧ r.rs w) :
    Calls Tryz.prog 168 #[PT g t, .slice q.p q.n q.cp, .slice r.p r.n r.cp] w fun e w' => e = .returned (.bool (decide (crc q.f q.n = r.nb))) ∧ Below w.heap.size w w' := by
  have H0 : Hid (_ ∧ _) := ⟨Mm.nil w, Below.refl w.heap.size w⟩
  have hT : Hid _ := hT0
  have hq : Hid _ := hq0
  clear hT0 hq0
  have hr : Hid _ := hr0
  clear hr0
  go_enter Tryz.func168, Tryz.ntmps168
  refine wp_seq ?_
  refine sq_startW (l := [0]) rfl (fun u0 hu0 => ?_)
  have H1 : Hid (Mm u0 [] ∧ Below w.heap.size w u0) := by rw [hu0]; exact H0
  clear hu0 H0
  refine rest_set (d := 6) (v := .bool false) (w' := u0) rfl rfl rfl (rfl) ?_
  simp only [Act.put, sa, sz, ss]
  refine rest_nil (then_normal (wp_seq ?_))
  refine sq_start (l := [0, 1, 2, 3, 4, 5, 6]) rfl ?_
  refine rest_set (d := 7) (v := PT g t) (w' := u0) rfl rfl rfl (rfl) ?_
  simp only [Act.put, sa, sz, ss]
  refine rest_set (d := 8) (v := .slice q.p q.n q.cp) (w' := u0) rfl rfl rfl (rfl) ?_
  simp only [Act.put, sa, sz, ss]
  refine rest_enter (d := 9) (R := fun vv w' => vv = W32 (crc q.f q.n) ∧ Below u0.heap.size u0 w') rfl rfl rfl (exec_call (args := #[PT g t, .slice q.p q.n q.cp]) rfl call145 rfl (mpn rfl)) (Calls.mono (check_any g t q hn u0 (hT.out.below H1.out.2) ⟨hq.out.1, hq.out.2.below H1.out.2⟩) (fun e w2 hh => ⟨_, hh.1, rfl, hh.2⟩)) ?_
  rintro _ w2 ⟨rfl, hb⟩
  have H2 : Hid (Mm w2 [] ∧ Below w.heap.size w w2) := ⟨H1.out.1.below hb, H1.out.2.trans (hb.mono H1.out.2.size)⟩
  clear hb
  clear H1
  simp only [Act.put, sa, sz, ss]
  refine rest_set (d := 10) (v := .slice r.p r.n r.cp) (w' := w2) rfl rfl rfl (rfl) ?_
  simp only [Act.put, sa, sz, ss]
  refine rest_enter (d := 11) (R := fun vv w' => vv = W32 r.nb ∧ Below w2.heap.size w2 w') rfl rfl rfl (exec_call (args := #[.slice r.p r.n r.cp]) rfl call188 rfl (mpn rfl)) (Calls.mono (number_any r hr4 w2 ⟨hr.out.1, hr.out.2.below H2.out.2⟩) (fun e w2 hh => ⟨_, hh.1, rfl, hh.2⟩)) ?_
  rintro _ w3 ⟨rfl, hb⟩
  have H3 : Hid (Mm w3 [] ∧ Below w.heap.size w w3) := ⟨H2.out.1.below hb, H2.out.2.trans (hb.mono H2.out.2.size)⟩
  clear hb
  clear H2
  simp only [Act.put, sa, sz, ss]
  refine rest_set (d := 12) (v := .bool (decide (crc q.f q.n = r.nb))) (w' := w3) rfl rfl rfl (ex_eq32 (a := crc q.f q.n) (b := r.nb) (rfl) rfl rfl rfl) ?_
  simp only [Act.put, sa, sz, ss]
  refine rest_set (d := 6) (v := .bool (decide (crc q.f q.n = r.nb))) (w' := w3) rfl rfl rfl (rfl) ?_
  simp only [Act.put, sa, sz, ss]
  refine rest_nil (then_normal (wp_ret ?_))
  repeat (first | refine then_ret ?_ | refine block_ret ?_)
  refine bodyPost_ret (v := .bool (decide (crc q.f q.n = r.nb))) (by simp [results, Tryz.results168, go_sem, *]) rfl ?_
  exact ⟨rfl, H3.out.2⟩
theorem holds_is (g t : Nat) (q r : Pt8) (c : Bool) (hn : q.n < 4611686018427387904) (hr4 : 4 ≤ r.n) (hc : decide (crc q.f q.n = r.nb) = c) (w : World) (hT : Tb g t w) (hq : Pok q ∧ q.rs w) (hr : Pok r ∧ r.rs w) : Calls Tryz.prog 168 #[PT g t, .slice q.p q.n q.cp, .slice r.p r.n r.cp] w fun e w' => e = .returned (.bool c) ∧ Below w.heap.size w w' := by
  rw [← hc]
  exact holds_any g t q r hn hr4 w hT hq hr
set_option maxHeartbeats 2000000 in
set_option maxRecDepth 100000 in
theorem length_ok (g t : Nat) (q : Pt8) (hn8 : 8 ≤ q.n) (hbig : ¬65536 < q.nb) (hck : decide (crc q.f 4 = (q.dp 4).nb) = true) (w : World) (hT0 : Tb g t w) (hq0 : Pok q ∧ q.rs w) :
    Calls Tryz.prog 167 #[PT g t, .slice q.p q.n q.cp] w fun e w' => e = .returned (.tuple #[.int .i64 ((q.nb : Nat) : Int), .int .i64 0]) ∧ Below w.heap.size w w' := by
  have H0 : Hid (_ ∧ _) := ⟨Mm.nil w, Below.refl w.heap.size w⟩
  have hT : Hid _ := hT0
  have hq : Hid _ := hq0
  clear hT0 hq0
  go_enter Tryz.func167, Tryz.ntmps167
  refine wp_seq ?_
  refine sq_startW (l := [0, 1]) rfl (fun u0 hu0 => ?_)
  have H1 : Hid (Mm u0 [] ∧ Below w.heap.size w u0) := by rw [hu0]; exact H0
  clear hu0 H0
  refine rest_set (d := 4) (v := .int .i64 0) (w' := u0) rfl rfl rfl (rfl) ?_
  simp only [Act.put, sa, sz, ss]
  refine rest_set (d := 5) (v := .int .i64 0) (w' := u0) rfl rfl rfl (rfl) ?_
  simp only [Act.put, sa, sz, ss]
  refine rest_nil (then_normal (wp_seq ?_))
  refine sq_start (l := [0, 1, 2]) rfl ?_
  refine rest_set (d := 7) (v := .slice q.p q.n q.cp) (w' := u0) rfl rfl rfl (rfl) ?_
  simp only [Act.put, sa, sz, ss]
  refine rest_enter (d := 8) (R := fun vv w' => vv = W32 q.nb ∧ Below u0.heap.size u0 w') rfl rfl rfl (exec_call (args := #[.slice q.p q.n q.cp]) rfl call188 rfl (mpn rfl)) (Calls.mono (number_any q (by omega) u0 ⟨hq.out.1, hq.out.2.below H1.out.2⟩) (fun e w2 hh => ⟨_, hh.1, rfl, hh.2⟩)) ?_
  rintro _ w2 ⟨rfl, hb⟩
  have H2 : Hid (Mm w2 [] ∧ Below w.heap.size w w2) := ⟨H1.out.1.below hb, H1.out.2.trans (hb.mono H1.out.2.size)⟩
  clear hb
  clear H1
  simp only [Act.put, sa, sz, ss]
  refine rest_set (d := 6) (v := W32 q.nb) (w' := w2) rfl rfl rfl (rfl) ?_
  simp only [Act.put, sa, sz, ss]
  refine rest_nil (then_normal ?_)
  refine wp_seq (wp_seq ?_)
  refine walk_anyB 8 [.quiet (W32 q.nb), .quiet (.bool false), .quiet (.bool false), .quiet (PT g t), .quiet (.slice q.p q.n q.cp), .quiet (.slice (q.tk 4).p (q.tk 4).n (q.tk 4).cp), .quiet (.slice q.p q.n q.cp), .quiet (.slice (q.dp 4).p (q.dp 4).n (q.dp 4).cp)] H2 ?ho3 ?he3
  case ho3 => exact ak (fun _ => ⟨rfl, fun _ _ => rfl⟩) (ak (fun γ => ⟨rfl, fun w' _ => ex_gt32 (a := q.nb) (b := 65536) (decide_eq_false hbig) rfl rfl rfl⟩) (ak (fun _ => ⟨rfl, fun _ _ => rfl⟩) (ak (fun _ => ⟨rfl, fun _ _ => rfl⟩) (ak (fun _ => ⟨rfl, fun _ _ => rfl⟩) (ak (fun γ => ⟨rfl, fun w' _ => ex_tkQ (k := 4) (by have := hq.out.1.le; omega) rfl rfl rfl⟩) (ak (fun _ => ⟨rfl, fun _ _ => rfl⟩) (ak (fun γ => ⟨rfl, fun w' _ => ex_dpQ (k := 4) (by omega) rfl rfl rfl⟩) trivial)))))))
  intro _ w3 H3
  clear H2
  refine rest_at (l := [8, 9, 10]) rfl ?_
  refine rest_enter (d := 17) (R := fun vv w' => vv = .bool true ∧ Below w3.heap.size w3 w') rfl rfl rfl (exec_call (args := #[PT g t, .slice (q.tk 4).p (q.tk 4).n (q.tk 4).cp, .slice (q.dp 4).p (q.dp 4).n (q.dp 4).cp]) rfl call168 rfl (mpn rfl)) (Calls.mono (holds_is g t (q.tk 4) (q.dp 4) true (by show 4 < _; decide) (by show 4 ≤ q.n - 4; omega) hck w3 (hT.out.below H3.out.2) ⟨hq.out.1.tk (by omega), Pt8.rs_tk (hq.out.2.below H3.out.2) (by omega)⟩ ⟨hq.out.1.dp (by omega), Pt8.rs_dp (hq.out.2.below H3.out.2) (by omega)⟩) (fun e w2 hh => ⟨_, hh.1, rfl, hh.2⟩)) ?_
  rintro _ w4 ⟨rfl, hb⟩
  have H4 : Hid (Mm w4 [] ∧ Below w.heap.size w w4) := ⟨H3.out.1.below hb, H3.out.2.trans (hb.mono H3.out.2.size)⟩
  clear hb
  clear H3
  simp only [Act.put, sa, sz, ss]
  refine rest_set (d := 18) (v := .bool false) (w' := w4) rfl rfl rfl (by go_simp) ?_
  simp only [Act.put, sa, sz, ss]
  refine rest_set (d := 19) (v := .bool false) (w' := w4) rfl rfl rfl (by go_simp) ?_
  simp only [Act.put, sa, sz, ss]
  refine rest_nil (then_normal ?_)
  refine wp_cond_false rfl (wp_skip ?_)
  refine then_normal (wp_seq ?_)
  refine sq_start (l := [0, 1, 2, 3]) rfl ?_
  refine rest_set (d := 20) (v := W32 q.nb) (w' := w4) rfl rfl rfl (rfl) ?_
  simp only [Act.put, sa, sz, ss]
  refine rest_set (d := 21) (v := .int .i64 ((q.nb : Nat) : Int)) (w' := w4) rfl rfl rfl (ex_cvWI (nb4_lt _ _ _ _) rfl rfl) ?_
  simp only [Act.put, sa, sz, ss]
  refine rest_set (d := 4) (v := .int .i64 ((q.nb : Nat) : Int)) (w' := w4) rfl rfl rfl (rfl) ?_
  simp only [Act.put, sa, sz, ss]
  refine rest_set (d := 5) (v := .int .i64 0) (w' := w4) rfl rfl rfl (rfl) ?_
  simp only [Act.put, sa, sz, ss]
  refine rest_nil (then_normal (wp_ret ?_))
  repeat (first | refine then_ret ?_ | refine block_ret ?_)
  refine bodyPost_ret (v := .tuple #[.int .i64 ((q.nb : Nat) : Int), .int .i64 0]) (by simp [results, Tryz.results167, go_sem, *]) rfl ?_
  exact ⟨rfl, H4.out.2⟩
set_option maxHeartbeats 2000000 in
set_option maxRecDepth 100000 in
theorem bclone_some (gb o n cp : Nat) (ad : Addr) (f : Nat → Nat) (hn : n ≤ 2097152) (w : World) (hq0 : Pok ⟨gb, o, n, cp, some ad, f⟩ ∧ Pt8.rs ⟨gb, o, n, cp, some ad, f⟩ w) :
    Calls Tryz.prog 43 #[.slice (some ad) n cp] w fun e w' => ∃ v, e = .returned v ∧ Cw w v n f w' := by
  have H0 : Hid (_ ∧ _) := ⟨Mm.nil w, Below.refl w.heap.size w⟩
  have hq : Hid _ := hq0
  clear hq0
  go_enter Tryz.func43, Tryz.ntmps43
  refine wp_seq ?_
  refine sq_startW (l := [0]) rfl (fun u0 hu0 => ?_)
  have H1 : Hid (Mm u0 [] ∧ Below w.heap.size w u0) := by rw [hu0]; exact H0
  clear hu0 H0
  refine rest_set (d := 2) (v := .slice none 0 0) (w' := u0) rfl rfl rfl (rfl) ?_
  simp only [Act.put, sa, sz, ss]
  refine rest_nil (then_normal ?_)
  refine wp_seq (wp_seq ?_)
  refine sq_start (l := [0, 1]) rfl ?_
  refine rest_set (d := 3) (v := .slice (some ad) n cp) (w' := u0) rfl rfl rfl (rfl) ?_
  simp only [Act.put, sa, sz, ss]
  refine rest_set (d := 4) (v := .bool false) (w' := u0) rfl rfl rfl (ex_eqN rfl rfl rfl) ?_
  simp only [Act.put, sa, sz, ss]
  refine rest_nil (then_normal ?_)
  refine wp_cond_false rfl (wp_skip ?_)
  refine then_normal (wp_seq ?_)
  refine sq_start (l := [0, 1, 2, 3]) rfl ?_
  refine rest_set (d := 5) (v := .slice (some ⟨u0.heap.size, 0, none⟩) 0 0) (w' := (u0.alloc (.cells #[] 5))) rfl rfl rfl (ex_bs0 rfl) ?_
  simp only [Act.put, sa, sz, ss]
  have H2 : Hid (Mm (u0.alloc (.cells #[] 5)) [] ∧ Cw w (.slice (some ⟨u0.heap.size, 0, none⟩) 0 0) 0 (fun _ => 0) (u0.alloc (.cells #[] 5))) := ⟨Mm.nil _, ⟨H1.out.2.trans (((Below.refl _ _).alloc (Nat.le_refl _) _).mono H1.out.2.size), World.ownsRow_made _ _ 0 H1.out.2.size (by decide) rfl⟩⟩
  clear H1
  generalize hgw : u0.alloc (.cells #[] 5) = w2 at H2 ⊢
  clear hgw
  generalize u0.heap.size = γm at H2 ⊢
  refine rest_set (d := 6) (v := .slice (some ad) n cp) (w' := w2) rfl rfl rfl (rfl) ?_
  simp only [Act.put, sa, sz, ss]
  obtain ⟨vr, w3, hr, hO, hG, h5⟩ := own_appQ H2.out.2.own H2.out.2.size (q := ⟨gb, o, n, cp, some ad, f⟩) hq.out.1 (fun e => by cases e) (hq.out.2.below H2.out.2.b) (show 0 + n ≤ 2097152 by omega) 40
  refine rest_set (d := 7) (v := vr) (w' := w3) rfl rfl rfl (ex_app rfl rfl rfl hr) ?_
  simp only [Act.put, sa, sz, ss]
  have H3 : Hid (Mm w3 [] ∧ Cw w vr (0 + n) (ct (fun _ => 0) 0 f) w3) := ⟨Mm.nil _, H2.out.2.on (Chg.grown hG) hO⟩
  clear hr hO hG h5 H2
  refine rest_set (d := 2) (v := vr) (w' := w3) rfl rfl rfl (rfl) ?_
  simp only [Act.put, sa, sz, ss]
  refine rest_nil (then_normal (wp_ret ?_))
  repeat (first | refine then_ret ?_ | refine block_ret ?_)
  refine bodyPost_ret (v := vr) (by simp [results, Tryz.results43, go_sem, *]) rfl ?_
  exact ⟨_, rfl, by have h := H3.out.2.cg (P2 := f) (fun j _ => by rw [ct_zero]); rw [Nat.zero_add] at h; exact h⟩
set_option maxHeartbeats 2000000 in
set_option maxRecDepth 100000 in
theorem bclone_nil  (w : World) :
    Calls Tryz.prog 43 #[.slice none 0 0] w fun e w' => e = .returned (.slice none 0 0) ∧ Below w.heap.size w w' := by
  have H0 : Hid (_ ∧ _) := ⟨Mm.nil w, Below.refl w.heap.size w⟩
  go_enter Tryz.func43, Tryz.ntmps43
  refine wp_seq ?_
  refine sq_startW (l := [0]) rfl (fun u0 hu0 => ?_)
  have H1 : Hid (Mm u0 [] ∧ Below w.heap.size w u0) := by rw [hu0]; exact H0
  clear hu0 H0
  refine rest_set (d := 2) (v := .slice none 0 0) (w' := u0) rfl rfl rfl (rfl) ?_
  simp only [Act.put, sa, sz, ss]
  refine rest_nil (then_normal ?_)
  refine wp_seq (wp_seq ?_)
  refine sq_start (l := [0, 1]) rfl ?_
  refine rest_set (d := 3) (v := .slice none 0 0) (w' := u0) rfl rfl rfl (rfl) ?_
  simp only [Act.put, sa, sz, ss]
  refine rest_set (d := 4) (v := .bool true) (w' := u0) rfl rfl rfl (by kernel_rfl) ?_
  simp only [Act.put, sa, sz, ss]
  refine rest_nil (then_normal ?_)
  refine wp_cond_true rfl (wp_seq ?_)
  refine sq_start (l := [0]) rfl ?_
  refine rest_set (d := 2) (v := .slice none 0 0) (w' := u0) rfl rfl rfl (rfl) ?_
  simp only [Act.put, sa, sz, ss]
  refine rest_nil (then_normal (wp_ret ?_))
  repeat (first | refine then_ret ?_ | refine block_ret ?_)
  refine bodyPost_ret (v := .slice none 0 0) (by simp [results, Tryz.results43, go_sem, *]) rfl ?_
  exact ⟨rfl, H1.out.2⟩
theorem bclone_any (q : Pt8) (hn : q.n ≤ 2097152) (w : World) (hq : Pok q) (hN : q.p = none → q.cp = 0) (hr : q.rs w) : Calls Tryz.prog 43 #[.slice q.p q.n q.cp] w fun e w' => ∃ v, e = .returned v ∧ Cw w v q.n q.f w' := by
  obtain ⟨gb, o, n, cp, p, f⟩ := q
  cases p with
  | some ad => exact bclone_some gb o n cp ad f hn w ⟨hq, hr⟩
  | none =>
    have h0 : cp = 0 := hN rfl
    have hle : n ≤ cp := hq.2
    obtain rfl : n = 0 := by omega
    subst h0
    refine (bclone_nil w).mono fun e w' h => ⟨_, h.1, h.2, ?_⟩
    show World.ownsRow _ _ _ _ _ _ (ints .u8 f 0)
    exact World.ownsRow_nil _ _ _ _
end Wi
end Rg
end Go.Proofs.YtmcpagjhpfbpgaaGreatDoor
end
section
namespace Go.Proofs.YtmcpagjhpfbpgaaGreatDoor
open Go.RowKit
namespace Rg
namespace Wi
theorem call106 : ∀ args w, (callFunc 106 args).run Tryz.prog w = .ok (.enter 106 args) w := by intro args w; go_simp
theorem call143 : ∀ args w, (callFunc 143 args).run Tryz.prog w = .ok (.enter 143 args) w := by intro args w; go_simp
theorem call144 : ∀ args w, (callFunc 144 args).run Tryz.prog w = .ok (.enter 144 args) w := by intro args w; go_simp
theorem call146 : ∀ args w, (callFunc 146 args).run Tryz.prog w = .ok (.enter 146 args) w := by intro args w; go_simp
set_option maxRecDepth 100000
theorem put4_cw {w w1 : World} {v : Value} {n m x : Nat} {P P2 : Nat → Nat} (h : Cw w v n P w1) (hm : n + 4 = m) (hbd : m ≤ 2097152) (hP : ∀ j, j < m → ct P n (by4 x) j = P2 j) : Calls Tryz.prog 144 #[v, W32 x] w1 fun e w2 => ∃ v', e = .returned v' ∧ Cw w v' m P2 w2 := by
  subst hm
  refine (put4_v v n w.heap.size x P hbd w1 h.b.size h.own).mono fun e w2 hh => ?_
  obtain ⟨v', e1, e2, e3⟩ := hh
  exact ⟨v', e1, (h.on e3 e2).cg hP⟩
theorem check_cw {w w1 : World} {v : Value} {g t n c : Nat} {P : Nat → Nat} (h : Cw w v n P w1) (hn : n < 4611686018427387904) (hT : Tb g t w1) (hc : crc P n = c) : Calls Tryz.prog 145 #[PT g t, v] w1 fun e w2 => e = .returned (W32 c) ∧ Below w1.heap.size w1 w2 := by
  obtain ⟨q, e1, e2, e3, e4, e5, e6, _⟩ := h.part
  subst e4
  subst e5
  rw [e1, ← hc]
  exact check_any g t q hn w1 hT ⟨e2, e6⟩
/-- A frame's head; a frame. -/
def hd8 (n : Nat) : Nat → Nat := ct (by4 n) 4 (by4 (crc (by4 n) 4))
def frm (f : Nat → Nat) (n : Nat) : Nat → Nat := ct (ct (hd8 n) 8 f) (8 + n) (by4 (crc f n))
theorem c32_small {n : Nat} (h : n ≤ 65536) : c32 n = n := Nat.mod_eq_of_lt (by omega)
set_option maxHeartbeats 2000000 in
set_option maxRecDepth 100000 in
theorem frame_ok (g t : Nat) (q : Pt8) (hL : q.n ≤ 65536) (w : World) (hT0 : Tb g t w) (hq0 : Pok q ∧ q.rs w) (hqn0 : q.p = none → q.cp = 0) :
    Calls Tryz.prog 106 #[PT g t, .slice q.p q.n q.cp] w fun e w' => ∃ v, e = .returned (.tuple #[v, .int .i64 0]) ∧ Cw w v (8 + q.n + 4) (frm q.f q.n) w' := by
  have H0 : Hid (_ ∧ _) := ⟨Mm.nil w, Below.refl w.heap.size w⟩
  have hT : Hid _ := hT0
  have hq : Hid _ := hq0
  clear hT0 hq0
  have hqn : Hid _ := hqn0
  clear hqn0
  go_enter Tryz.func106, Tryz.ntmps106
  refine wp_seq ?_
  refine sq_startW (l := [0, 1]) rfl (fun u0 hu0 => ?_)
  have H1 : Hid (Mm u0 [] ∧ Below w.heap.size w u0) := by rw [hu0]; exact H0
  clear hu0 H0
  refine rest_set (d := 4) (v := .slice none 0 0) (w' := u0) rfl rfl rfl (rfl) ?_
  simp only [Act.put, sa, sz, ss]
  refine rest_set (d := 5) (v := .int .i64 0) (w' := u0) rfl rfl rfl (rfl) ?_
  simp only [Act.put, sa, sz, ss]
  refine rest_nil (then_normal ?_)
  refine wp_seq (wp_seq ?_)
  refine sq_start (l := [0, 1, 2]) rfl ?_
  refine rest_set (d := 7) (v := .slice q.p q.n q.cp) (w' := u0) rfl rfl rfl (rfl) ?_
  simp only [Act.put, sa, sz, ss]
  refine rest_set (d := 8) (v := .int .i64 ((q.n : Nat) : Int)) (w' := u0) rfl rfl rfl (by go_simp) ?_
  simp only [Act.put, sa, sz, ss]
  refine rest_set (d := 9) (v := .bool false) (w' := u0) rfl rfl rfl (by go_simp <;> omega) ?_
  simp only [Act.put, sa, sz, ss]
  refine rest_nil (then_normal ?_)
  refine wp_cond_false rfl (wp_skip ?_)
  refine then_normal (wp_seq ?_)
  refine sq_start (l := [0, 1, 2, 3, 4]) rfl ?_
  refine rest_set (d := 10) (v := .slice q.p q.n q.cp) (w' := u0) rfl rfl rfl (rfl) ?_
  simp only [Act.put, sa, sz, ss]
  refine rest_set (d := 11) (v := .int .i64 ((q.n : Nat) : Int)) (w' := u0) rfl rfl rfl (by go_simp) ?_
  simp only [Act.put, sa, sz, ss]
  refine rest_enter (d := 12) (R := fun vv w' => vv = .int .i64 ((8 + q.n + 4 : Nat) : Int) ∧ Below u0.heap.size u0 w') rfl rfl rfl (exec_call (args := #[.int .i64 ((q.n : Nat) : Int)]) rfl call143 rfl (mpn rfl)) (Calls.mono (framed_any q.n (by omega) u0) (fun e w2 hh => ⟨_, hh.1, rfl, hh.2⟩)) ?_
  rintro _ w2 ⟨rfl, hb⟩
  have H2 : Hid (Mm w2 [] ∧ Below w.heap.size w w2) := ⟨H1.out.1.below hb, H1.out.2.trans (hb.mono H1.out.2.size)⟩
  clear hb
  clear H1
  simp only [Act.put, sa, sz, ss]
  obtain ⟨w3, hmk, hcw, hb2⟩ := made_own H2.out.2 (8 + q.n + 4) (by omega)
  refine rest_set (d := 13) (v := .slice (some ⟨w2.heap.size, 0, none⟩) 0 (8 + q.n + 4)) (w' := w3) rfl rfl rfl (ex_mkS0 rfl rfl rfl hmk) ?_
  simp only [Act.put, sa, sz, ss]
  have H3 : Hid (Mm w3 [] ∧ Cw w (.slice (some ⟨w2.heap.size, 0, none⟩) 0 (8 + q.n + 4)) 0 (fun _ => 0) w3) := ⟨Mm.nil _, hcw⟩
  clear hmk hcw hb2 H2
  generalize w2.heap.size = γm at H3 ⊢
  refine rest_set (d := 6) (v := .slice (some ⟨γm, 0, none⟩) 0 (8 + q.n + 4)) (w' := w3) rfl rfl rfl (rfl) ?_
  simp only [Act.put, sa, sz, ss]
  refine rest_nil (then_normal (wp_seq ?_))
  refine sq_start (l := [0, 1, 2, 3, 4, 5]) rfl ?_
  refine rest_set (d := 14) (v := .slice (some ⟨γm, 0, none⟩) 0 (8 + q.n + 4)) (w' := w3) rfl rfl rfl (rfl) ?_
  simp only [Act.put, sa, sz, ss]
  refine rest_set (d := 15) (v := .slice q.p q.n q.cp) (w' := w3) rfl rfl rfl (rfl) ?_
  simp only [Act.put, sa, sz, ss]
  refine rest_set (d := 16) (v := .int .i64 ((q.n : Nat) : Int)) (w' := w3) rfl rfl rfl (by go_simp) ?_
  simp only [Act.put, sa, sz, ss]
  refine rest_set (d := 17) (v := W32 (c32 q.n)) (w' := w3) rfl rfl rfl (ex_cvIW (a := q.n) rfl rfl) ?_
  simp only [Act.put, sa, sz, ss]
  refine rest_enter (d := 18) (R := fun vv w' => Cw w vv (4) (by4 q.n) w') rfl rfl rfl (exec_call (args := #[.slice (some ⟨γm, 0, none⟩) 0 (8 + q.n + 4), W32 (c32 q.n)]) rfl call144 rfl (mpn rfl)) (Calls.mono (put4_cw (m := 4) (P2 := by4 q.n) H3.out.2 rfl (by omega) (fun j _ => by rw [ct_zero, c32_small (by omega)])) (fun e w2 hh => by obtain ⟨v', he, hO⟩ := hh; exact ⟨_, he, hO⟩)) ?_
  rintro vr1 w4 hO
  have H4 : Hid (Mm w4 [] ∧ Cw w vr1 4 (by4 q.n) w4) := ⟨Mm.nil _, hO⟩
  clear hO H3
  simp only [Act.put, sa, sz, ss]
  refine rest_set (d := 6) (v := vr1) (w' := w4) rfl rfl rfl (rfl) ?_
  simp only [Act.put, sa, sz, ss]
  refine rest_nil (then_normal (wp_seq ?_))
  refine sq_start (l := [0, 1, 2, 3, 4, 5]) rfl ?_
  refine rest_set (d := 19) (v := vr1) (w' := w4) rfl rfl rfl (rfl) ?_
  simp only [Act.put, sa, sz, ss]
  refine rest_set (d := 20) (v := PT g t) (w' := w4) rfl rfl rfl (rfl) ?_
  simp only [Act.put, sa, sz, ss]
  refine rest_set (d := 21) (v := vr1) (w' := w4) rfl rfl rfl (rfl) ?_
  simp only [Act.put, sa, sz, ss]
  refine rest_enter (d := 22) (R := fun vv w' => vv = W32 (crc (by4 q.n) 4) ∧ Below w4.heap.size w4 w') rfl rfl rfl (exec_call (args := #[PT g t, vr1]) rfl call145 rfl (mpn rfl)) (Calls.mono (check_cw H4.out.2 (by decide) (hT.out.below H4.out.2.b) rfl) (fun e w2 hh => ⟨_, hh.1, rfl, hh.2⟩)) ?_
  rintro _ w5 ⟨rfl, hb⟩
  have H5 : Hid (Mm w5 [] ∧ Cw w vr1 4 (by4 q.n) w5) := ⟨H4.out.1.below hb, Cw.step H4.out.2 (hb)⟩
  clear hb
  clear H4
  simp only [Act.put, sa, sz, ss]
  refine rest_enter (d := 23) (R := fun vv w' => Cw w vv (8) (hd8 q.n) w') rfl rfl rfl (exec_call (args := #[vr1, W32 (crc (by4 q.n) 4)]) rfl call144 rfl (mpn rfl)) (Calls.mono (put4_cw (m := 8) (P2 := hd8 q.n) H5.out.2 rfl (by omega) (fun j _ => rfl)) (fun e w2 hh => by obtain ⟨v', he, hO⟩ := hh; exact ⟨_, he, hO⟩)) ?_
  rintro vr2 w6 hO
  have H6 : Hid (Mm w6 [] ∧ Cw w vr2 8 (hd8 q.n) w6) := ⟨Mm.nil _, hO⟩
  clear hO H5
  simp only [Act.put, sa, sz, ss]
  refine rest_set (d := 6) (v := vr2) (w' := w6) rfl rfl rfl (rfl) ?_
  simp only [Act.put, sa, sz, ss]
  refine rest_nil (then_normal (wp_seq ?_))
  refine sq_start (l := [0, 1, 2, 3]) rfl ?_
  refine rest_set (d := 24) (v := vr2) (w' := w6) rfl rfl rfl (rfl) ?_
  simp only [Act.put, sa, sz, ss]
  refine rest_set (d := 25) (v := .slice q.p q.n q.cp) (w' := w6) rfl rfl rfl (rfl) ?_
  simp only [Act.put, sa, sz, ss]
  obtain ⟨vr, w7, hr, hO, hG, h5⟩ := own_appQ H6.out.2.own H6.out.2.size hq.out.1 hqn.out (hq.out.2.below H6.out.2.b) (show 8 + q.n ≤ 2097152 by omega) 40
  refine rest_set (d := 26) (v := vr) (w' := w7) rfl rfl rfl (ex_app rfl rfl rfl hr) ?_
  simp only [Act.put, sa, sz, ss]
  have H7 : Hid (Mm w7 [] ∧ Cw w vr (8 + q.n) (ct (hd8 q.n) 8 q.f) w7) := ⟨Mm.nil _, H6.out.2.on (Chg.grown hG) hO⟩
  clear hr hO hG h5 H6
  refine rest_set (d := 6) (v := vr) (w' := w7) rfl rfl rfl (rfl) ?_
  simp only [Act.put, sa, sz, ss]
  refine rest_nil (then_normal (wp_seq ?_))
  refine sq_start (l := [0, 1, 2, 3, 4, 5, 6]) rfl ?_
  refine rest_set (d := 27) (v := vr) (w' := w7) rfl rfl rfl (rfl) ?_
  simp only [Act.put, sa, sz, ss]
  refine rest_set (d := 28) (v := PT g t) (w' := w7) rfl rfl rfl (rfl) ?_
  simp only [Act.put, sa, sz, ss]
  refine rest_set (d := 29) (v := .slice q.p q.n q.cp) (w' := w7) rfl rfl rfl (rfl) ?_
  simp only [Act.put, sa, sz, ss]
  refine rest_enter (d := 30) (R := fun vv w' => vv = W32 (crc q.f q.n) ∧ Below w7.heap.size w7 w') rfl rfl rfl (exec_call (args := #[PT g t, .slice q.p q.n q.cp]) rfl call145 rfl (mpn rfl)) (Calls.mono (check_any g t q (by omega) w7 (hT.out.below H7.out.2.b) ⟨hq.out.1, hq.out.2.below H7.out.2.b⟩) (fun e w2 hh => ⟨_, hh.1, rfl, hh.2⟩)) ?_
  rintro _ w8 ⟨rfl, hb⟩
  have H8 : Hid (Mm w8 [] ∧ Cw w vr (8 + q.n) (ct (hd8 q.n) 8 q.f) w8) := ⟨H7.out.1.below hb, Cw.step H7.out.2 (hb)⟩
  clear hb
  clear H7
  simp only [Act.put, sa, sz, ss]
  refine rest_enter (d := 31) (R := fun vv w' => Cw w vv (8 + q.n + 4) (frm q.f q.n) w') rfl rfl rfl (exec_call (args := #[vr, W32 (crc q.f q.n)]) rfl call144 rfl (mpn rfl)) (Calls.mono (put4_cw (m := 8 + q.n + 4) (P2 := frm q.f q.n) H8.out.2 rfl (by omega) (fun j _ => rfl)) (fun e w2 hh => by obtain ⟨v', he, hO⟩ := hh; exact ⟨_, he, hO⟩)) ?_
  rintro vr3 w9 hO
  have H9 : Hid (Mm w9 [] ∧ Cw w vr3 (8 + q.n + 4) (frm q.f q.n) w9) := ⟨Mm.nil _, hO⟩
  clear hO H8
  simp only [Act.put, sa, sz, ss]
  refine rest_set (d := 4) (v := vr3) (w' := w9) rfl rfl rfl (rfl) ?_
  simp only [Act.put, sa, sz, ss]
  refine rest_set (d := 5) (v := .int .i64 0) (w' := w9) rfl rfl rfl (rfl) ?_
  simp only [Act.put, sa, sz, ss]
  refine rest_nil (then_normal (wp_ret ?_))
  repeat (first | refine then_ret ?_ | refine block_ret ?_)
  refine bodyPost_ret (v := .tuple #[vr3, .int .i64 0]) (by simp [results, Tryz.results106, go_sem, *]) rfl ?_
  exact ⟨_, rfl, H9.out.2⟩
set_option maxHeartbeats 2000000 in
set_option maxRecDepth 100000 in
theorem Frame_ok (q : Pt8) (hL : q.n ≤ 65536) (w : World) (hq0 : Pok q ∧ q.rs w) (hqn0 : q.p = none → q.cp = 0) :
    Calls Tryz.prog 108 #[.slice q.p q.n q.cp] w fun e w' => ∃ v, e = .returned (.tuple #[v, .int .i64 0]) ∧ Cw w v (8 + q.n + 4) (frm q.f q.n) w' := by
  have H0 : Hid (_ ∧ _) := ⟨Mm.nil w, Below.refl w.heap.size w⟩
  have hq : Hid _ := hq0
  clear hq0
  have hqn : Hid _ := hqn0
  clear hqn0
  go_enter Tryz.func108, Tryz.ntmps108
  refine wp_seq ?_
  refine sq_startW (l := [0, 1]) rfl (fun u0 hu0 => ?_)
  have H1 : Hid (Mm u0 [] ∧ Below w.heap.size w u0) := by rw [hu0]; exact H0
  clear hu0 H0
  refine rest_set (d := 2) (v := .slice none 0 0) (w' := u0) rfl rfl rfl (rfl) ?_
  simp only [Act.put, sa, sz, ss]
  refine rest_set (d := 3) (v := .int .i64 0) (w' := u0) rfl rfl rfl (rfl) ?_
  simp only [Act.put, sa, sz, ss]
  refine rest_nil (then_normal (wp_seq ?_))
  refine sq_start (l := [0, 1, 2]) rfl ?_
  refine rest_enter (d := 5) (R := fun vv w' => vv = .agg (ints .u32 crt 256).toArray ∧ Below u0.heap.size u0 w') rfl rfl rfl (exec_call (args := #[]) rfl call146 rfl (mpn rfl)) (Calls.mono (newTable_any u0) (fun e w2 hh => ⟨_, hh.1, rfl, hh.2⟩)) ?_
  rintro _ w2 ⟨rfl, hb⟩
  have H2 : Hid (Mm w2 [] ∧ Below w.heap.size w w2) := ⟨H1.out.1.below hb, H1.out.2.trans (hb.mono H1.out.2.size)⟩
  clear hb
  clear H1
  simp only [Act.put, sa, sz, ss]
  refine rest_set (d := 4) (v := PT w2.heap.size 0) (w' := (w2.alloc (.cells (ints .u32 (fun _ => 0) 256 : List Value).toArray 169))) rfl rfl rfl (ex_mkT rfl) ?_
  simp only [Act.put, sa, sz, ss]
  have o_γs3 : Hid (w.heap.size ≤ w2.heap.size) := H2.out.2.size
  have H3 : Hid (Mm (w2.alloc (.cells (ints .u32 (fun _ => 0) 256 : List Value).toArray 169)) ((w2.heap.size, ints .u32 (fun _ => 0) 256) :: []) ∧ Below w.heap.size w (w2.alloc (.cells (ints .u32 (fun _ => 0) 256 : List Value).toArray 169))) := ⟨H2.out.1.alloc _ 169 rfl, H2.out.2.trans (((Below.refl _ _).alloc (Nat.le_refl _) _).mono H2.out.2.size)⟩
  clear H2
  generalize hgw : w2.alloc (.cells (ints .u32 (fun _ => 0) 256 : List Value).toArray 169) = w3 at H3 ⊢
  clear hgw
  generalize w2.heap.size = γs3 at o_γs3 H3 ⊢
  refine rest_store rfl rfl rfl (ex_storeT (vs := ints .u32 crt 256) H3.out.1 0 rfl rfl rfl rfl (by rw [ints_len]; exact Tryz.sizeOf169) (ints_all _ _ _) (by rw [ints_len, ints_len]; omega)) ?_
  have H4 : Hid (Mm (w3.setCells γs3 0 (ints .u32 crt 256)) [(γs3, ints .u32 crt 256)] ∧ Below w.heap.size w (w3.setCells γs3 0 (ints .u32 crt 256))) := ⟨by
    have h := H3.out.1.put 0 (off := 0) (vs := ints .u32 crt 256) rfl (by rw [ints_len, ints_len]; omega)
    rw [ints_patch0] at h
    exact h, below_setCells _ o_γs3.out _ _ _ H3.out.2⟩
  clear H3
  generalize hgw : World.setCells _ _ _ _ = w4 at H4 ⊢
  clear hgw
  refine rest_nil (then_normal (wp_seq ?_))
  refine sq_start (l := [0, 1, 2, 3, 4, 5]) rfl ?_
  refine rest_set (d := 6) (v := .slice q.p q.n q.cp) (w' := w4) rfl rfl rfl (rfl) ?_
  simp only [Act.put, sa, sz, ss]
  refine rest_enter (d := 7) (R := fun vv w' => ∃ v, vv = .tuple #[v, .int .i64 0] ∧ Cw w4 v (8 + q.n + 4) (frm q.f q.n) w') rfl rfl rfl (exec_call (args := #[PT γs3 0, .slice q.p q.n q.cp]) rfl call106 rfl (mpn rfl)) (Calls.mono (frame_ok γs3 0 q hL w4 (Tb.mm (H4.out.1.one 0 rfl)) ⟨hq.out.1, hq.out.2.below H4.out.2⟩ hqn.out) (fun e w2 hh => by obtain ⟨v', he, hO⟩ := hh; exact ⟨_, he, _, rfl, hO⟩)) ?_
  rintro _ w5 ⟨vr, rfl, hO⟩
  have hcw : Hid _ := Cw.up H4.out.2 hO
  have H5 : Hid (Mm w5 [] ∧ Below w.heap.size w w5) := ⟨Mm.nil _, hcw.out.b⟩
  clear hO H4
  simp only [Act.put, sa, sz, ss]
  refine rest_set (d := 8) (v := vr) (w' := w5) rfl rfl rfl (by go_simp) ?_
  simp only [Act.put, sa, sz, ss]
  refine rest_set (d := 9) (v := .int .i64 0) (w' := w5) rfl rfl rfl (by go_simp) ?_
  simp only [Act.put, sa, sz, ss]
  refine rest_set (d := 2) (v := vr) (w' := w5) rfl rfl rfl (rfl) ?_
  simp only [Act.put, sa, sz, ss]
  refine rest_set (d := 3) (v := .int .i64 0) (w' := w5) rfl rfl rfl (rfl) ?_
  simp only [Act.put, sa, sz, ss]
  refine rest_nil (then_normal (wp_ret ?_))
  repeat (first | refine then_ret ?_ | refine block_ret ?_)
  refine bodyPost_ret (v := .tuple #[vr, .int .i64 0]) (by simp [results, Tryz.results108, go_sem, *]) rfl ?_
  exact ⟨_, rfl, hcw.out⟩
end Wi
end Rg
end Go.Proofs.YtmcpagjhpfbpgaaGreatDoor
end
