/- Texts of the proof, joined. -/
import Derived.Test.YtmcpagjhpfbpgaaGreatDoorP6
import Derived.Deep.RegionWith
import Derived.Deep.QuietTactic
section
namespace Go.Proofs.YtmcpagjhpfbpgaaGreatDoor
open Go.RowKit
namespace Rg
namespace Wi
theorem call43 : ∀ args w, (callFunc 43 args).run Tryz.prog w = .ok (.enter 43 args) w := by intro args w; go_simp
theorem call167 : ∀ args w, (callFunc 167 args).run Tryz.prog w = .ok (.enter 167 args) w := by intro args w; go_simp
set_option maxRecDepth 100000
theorem block_past {Q : Exit → Act → World → Prop} {a : Act} {w : World} {id j : Nat} (hj : j ≠ id) (h : Q (.exit j) a w) : Exit.inBlock id Q (.exit j) a w := by simp only [Exit.inBlock, if_neg hj]; exact h
/-- Parts as a list's cells. -/
def pcs (P : Nat → Pt8) (m : Nat) : List Value := (List.range m).map fun i => .slice (P i).p (P i).n (P i).cp
def upP (P : Nat → Pt8) (k : Nat) (q : Pt8) : Nat → Pt8 := fun i => if i = k then q else P i
theorem pcs_get (P : Nat → Pt8) {m i : Nat} (h : i < m) : (pcs P m)[i]? = some (.slice (P i).p (P i).n (P i).cp) := by
  unfold pcs
  rw [List.getElem?_map, List.getElem?_eq_getElem (by simpa using h), List.getElem_range]
  rfl
theorem pcs_snoc (P : Nat → Pt8) (m : Nat) (q : Pt8) : pcs P m ++ [.slice q.p q.n q.cp] = pcs (upP P m q) (m + 1) := by
  unfold pcs
  rw [List.range_succ, List.map_append]
  congr 1
  · exact List.map_congr_left fun i hi => by
      have h : i ≠ m := by have : i < m := (by simpa using hi); omega
      unfold upP
      rw [if_neg h]
  · simp [upP]
theorem info_sl : ∃ i, Tryz.prog.info? 40 = some i ∧ i.zero = some (.slice none 0 0) ∧ i.size = 1 ∧ i.bytes = 24 := by
  obtain ⟨i, hi⟩ : ∃ i, Tryz.prog.info? 40 = some i := by
    have h : (Tryz.prog.info? 40).isSome = true := by kernel_rfl
    rcases e : Tryz.prog.info? 40 with _ | i
    · rw [e] at h; cases h
    · exact ⟨i, rfl⟩
  have h1 : (Tryz.prog.info? 40).map (·.zero) = some (some (.slice none 0 0)) := by kernel_rfl
  have h2 : (Tryz.prog.info? 40).map (·.size) = some 1 := by kernel_rfl
  have h3 : (Tryz.prog.info? 40).map (·.bytes) = some 24 := by kernel_rfl
  rw [hi] at h1 h2 h3
  exact ⟨i, hi, Option.some.inj h1, Option.some.inj h2, Option.some.inj h3⟩
/-- A list of the call's own, of parts of the call's own. -/
structure Lr (w : World) (vv : Value) (m : Nat) (P : Nat → Pt8) (w' : World) : Prop where
  b : Below w.heap.size w w'
  own : w'.ownsRow w.heap.size 40 1 vv m (pcs P m)
  ok : ∀ i, i < m → Pok (P i) ∧ ((P i).p = none → (P i).cp = 0) ∧ (P i).rs w' ∧ (0 < (P i).n → w.heap.size ≤ (P i).gb ∧ (P i).gb ∉ vbl vv)
theorem Rs.keep {gb o n : Nat} {f : Nat → Nat} {w w' : World} (h : Rs gb o n f w) (hs : w.heap.size ≤ w'.heap.size) (hb : 0 < n → w'.heap[gb]? = w.heap[gb]?) : Rs gb o n f w' :=
  ⟨fun h0 => Nat.lt_of_lt_of_le (h.lt h0) hs, fun i hi => (World.cell?_of_block (a := ⟨gb, o + i, none⟩) (hb (Nat.lt_of_le_of_lt (Nat.zero_le i) hi))).trans (h.at_ i hi)⟩
section
variable {w u u' : World} {vv : Value} {m : Nat} {P : Nat → Pt8}
theorem Lr.start (P : Nat → Pt8) (h : Below w.heap.size w u) : Lr w (.slice none 0 0) 0 P u := ⟨h, World.ownsRow_nil _ _ _ _, fun _ hi => absurd hi (Nat.not_lt_zero _)⟩
theorem Lr.step (h : Lr w vv m P u) (hb : Below u.heap.size u u') : Lr w vv m P u' :=
  ⟨h.b.trans (hb.mono h.b.size), own_keep h.own (fun x hx => hb.block x (own_lt h.own x hx)), fun i hi => ⟨(h.ok i hi).1, (h.ok i hi).2.1, (h.ok i hi).2.2.1.below hb, (h.ok i hi).2.2.2⟩⟩
theorem Lr.app (h : Lr w vv m P u) (hm : m ≤ 1000000) {q : Pt8} (hq : Pok q ∧ (q.p = none → q.cp = 0) ∧ q.rs u ∧ (0 < q.n → w.heap.size ≤ q.gb ∧ q.gb ∉ vbl vv)) {gs : Nat} (hs : u.cell? ⟨gs, 0, none⟩ = some (.slice q.p q.n q.cp)) (ty : TypeId) :
    ∃ v' u2, (Builtin.append_ #[131, 131] ty #[vv, .slice (some ⟨gs, 0, none⟩) 1 1]).run Tryz.prog u = .ok v' u2 ∧ Lr w v' (m + 1) (upP P m q) u2 := by
  obtain ⟨i0, hi, hz0, hz1, hz2⟩ := info_sl
  obtain ⟨v', w2, r1, r2, r3, _, r5⟩ := run_append_own_at (P := Tryz.prog) u w.heap.size 131 ty 40 i0 (.slice none 0 0) 1 24 Tryz.underlying131 hi hz0 hz1 hz2 rfl (by decide) vv m _ h.own ⟨gs, 0, none⟩ 1 1 [.slice q.p q.n q.cp] rfl
    (fun j v hj => by
      rcases j with _ | j
      · rw [show (⟨gs, 0, none⟩ : Addr).add 0 = ⟨gs, 0, none⟩ by unfold Addr.add; split <;> simp_all, hs]; exact hj
      · cases hj) (fun v hv => by rw [List.mem_singleton.1 hv]; rfl) (by unfold maxLen; omega) (by omega) h.b.size
  rw [pcs_snoc] at r2
  have hc := Chg.grown r3
  have key : ∀ p : Pt8, p.rs u → (0 < p.n → w.heap.size ≤ p.gb ∧ p.gb ∉ vbl vv) → p.rs w2 ∧ (0 < p.n → w.heap.size ≤ p.gb ∧ p.gb ∉ vbl v') := fun p h1 h2 => ⟨h1.keep hc.size (fun h0 => hc.block _ (h1.lt h0) (h2 h0).2), fun h0 => ⟨(h2 h0).1, fun hx => by
    unfold vbl at hx
    rcases r5 with e | e
    · rw [e] at hx; exact (h2 h0).2 hx
    · rw [e] at hx
      have : p.gb = u.heap.size := by simpa using hx
      have := h1.lt h0
      omega⟩⟩
  refine ⟨v', w2, r1, h.b.trans (hc.toBelow (fun x hx => ?_) h.b.size), r2, fun i hi => ?_⟩
  · unfold vbl at hx
    cases hv : vv.ownBlock with
    | none => rw [hv] at hx; simp at hx
    | some k => rw [hv] at hx; simp at hx; subst hx; exact (World.ownsRow.lt h.own _ hv).1
  · unfold upP
    by_cases e : i = m
    · rw [if_pos e]
      exact ⟨hq.1, hq.2.1, key q hq.2.2.1 hq.2.2.2⟩
    · rw [if_neg e]
      have h3 := h.ok i (by omega)
      exact ⟨h3.1, h3.2.1, key _ h3.2.2.1 h3.2.2.2⟩
end
theorem ex_appL {ρ : Operand → Value} {o : Oper} {x y : Operand} {w w2 : World} {vv sv v' : Value} (ho : o.op = .call { callee := .builtin .append, args := #[x, y], argTypes := #[131, 131] }) (hx : ρ x = vv) (hy : ρ y = sv) (hr : (Builtin.append_ #[131, 131] o.type #[vv, sv]).run Tryz.prog w = .ok v' w2) : (execOp ρ o).run Tryz.prog w = .ok (.value v') w2 := by
  unfold execOp
  simp only [ho, resolve, invoke, builtin, Sem.run_bind, Sem.run_pure, Result.andThen_ok, List.map_toArray, List.map_cons, List.map_nil, hx, hy, hr]
theorem ex_bs131_1 {ρ : Operand → Value} {o : Oper} {x : Operand} {p : Option Addr} {n c : Nat} {w : World} (ho : o.op = .buildSlice 131 1 #[(0, x)]) (hx : ρ x = .slice p n c) : (execOp ρ o).run Tryz.prog w = .ok (.value (.slice (some ⟨w.heap.size, 0, none⟩) 1 1)) (w.alloc (.cells ([.slice p n c] : List Value).toArray 40)) := by
  simp only [execOp, ho, List.map_toArray, List.map_cons, List.map_nil, hx]
  kernel_rfl
/-- Bytes from a place on; a frame's head that is whole; a record that is whole. -/
def sh (f : Nat → Nat) (a : Nat) : Nat → Nat := fun j => f (a + j)
structure Hdk (f : Nat → Nat) (L : Nat) : Prop where
  nb : nb4 (f 0) (f 1) (f 2) (f 3) = L
  le : L ≤ 65536
  ck : crc f 4 = nb4 (f 4) (f 5) (f 6) (f 7)
def Bdk (f : Nat → Nat) (L : Nat) : Prop := crc (sh f 8) L = nb4 (f (8 + L)) (f (8 + L + 1)) (f (8 + L + 2)) (f (8 + L + 3))
/-- So many whole frames stand at the front of a log's bytes. -/
structure Lgk (f : Nat → Nat) (n : Nat) (A Ln : Nat → Nat) (M : Nat) : Prop where
  z : A 0 = 0
  s : ∀ i, i < M → A (i + 1) = A i + (12 + Ln i)
  le : A M ≤ n
  hd : ∀ i, i < M → Hdk (sh f (A i)) (Ln i)
  bd : ∀ i, i < M → Bdk (sh f (A i)) (Ln i)
theorem Lgk.mono {f : Nat → Nat} {n : Nat} {A Ln : Nat → Nat} {M : Nat} (h : Lgk f n A Ln M) : ∀ (k i : Nat), i + k = M → A i + 12 * k ≤ A M
  | 0, i, e => by rw [show i = M by omega]; omega
  | k + 1, i, e => by
    have h1 := h.mono k (i + 1) (by omega)
    have h2 := h.s i (by omega)
    omega
theorem Lgk.at_le {f : Nat → Nat} {n : Nat} {A Ln : Nat → Nat} {M : Nat} (h : Lgk f n A Ln M) {i : Nat} (hi : i ≤ M) : A i ≤ n ∧ M - i ≤ n := by
  have := h.mono (M - i) i (by omega)
  have := h.le
  omega
theorem Lgk.nx_le {f : Nat → Nat} {n : Nat} {A Ln : Nat → Nat} {M : Nat} (h : Lgk f n A Ln M) {i : Nat} (hi : i < M) : A i + (12 + Ln i) ≤ n := by
  have h1 := (h.at_le (i := i + 1) hi).1
  rw [h.s i hi] at h1
  exact h1
/-- Where the reading is: how many were read, what is left, the list. -/
structure Gr where
  i : Nat
  r : Pt8
  v : Value
  P : Nat → Pt8
structure Rk (q : Pt8) (A Ln : Nat → Nat) (M : Nat) (w : World) (x : Gr) : Prop where
  le : x.i ≤ M
  ok : Pok x.r ∧ x.r.rs w
  no : x.r.p = none → x.r.cp = 0
  n : x.r.n + A x.i = q.n
  f : x.r.f = sh q.f (A x.i)
  ps : ∀ i, i < x.i → (x.P i).n = Ln i ∧ ∀ j, j < Ln i → (x.P i).f j = q.f (A i + 8 + j)
theorem length_hd (g t : Nat) (q : Pt8) (L : Nat) (h8 : 8 ≤ q.n) (h : Hdk q.f L) (w : World) (hT : Tb g t w) (hq : Pok q ∧ q.rs w) : Calls Tryz.prog 167 #[PT g t, .slice q.p q.n q.cp] w fun e w' => e = .returned (.tuple #[.int .i64 ((L : Nat) : Int), .int .i64 0]) ∧ Below w.heap.size w w' := by
  obtain ⟨h1, h2, h3⟩ := h
  subst h1
  exact length_ok g t q h8 (by show ¬65536 < nb4 _ _ _ _; omega) (decide_eq_true h3) w hT hq
theorem holds_bd (g t : Nat) (q : Pt8) (L : Nat) (hL : L ≤ 65536) (hn : 8 + L + 4 ≤ q.n) (c : Bool) (hc : decide (crc (sh q.f 8) L = nb4 (q.f (8 + L)) (q.f (8 + L + 1)) (q.f (8 + L + 2)) (q.f (8 + L + 3))) = c) (w : World) (hT : Tb g t w) (hq : Pok q ∧ q.rs w) : Calls Tryz.prog 168 #[PT g t, .slice ((q.tk (8 + L)).dp 8).p ((q.tk (8 + L)).dp 8).n ((q.tk (8 + L)).dp 8).cp, .slice (q.dp (8 + L)).p (q.dp (8 + L)).n (q.dp (8 + L)).cp] w fun e w' => e = .returned (.bool c) ∧ Below w.heap.size w w' := by
  refine holds_is g t ((q.tk (8 + L)).dp 8) (q.dp (8 + L)) c (by show 8 + L - 8 < _; omega) (by show 4 ≤ q.n - (8 + L); omega) ?_ w hT ⟨(hq.1.tk (by omega)).dp (by show 8 ≤ 8 + L; omega), Pt8.rs_dp (Pt8.rs_tk hq.2 (by omega)) (by show 8 ≤ 8 + L; omega)⟩ ⟨hq.1.dp (by omega), Pt8.rs_dp hq.2 (by omega)⟩
  rw [← hc]
  show decide (crc (fun j => q.f (8 + j)) (8 + L - 8) = nb4 (q.f (8 + L + 0)) (q.f (8 + L + 1)) (q.f (8 + L + 2)) (q.f (8 + L + 3))) = _
  rw [Nat.add_sub_cancel_left]
  rfl
theorem Rk.next {q : Pt8} {A Ln : Nat → Nat} {M : Nat} {w : World} {x : Gr} (h : Rk q A Ln M w x) (hg : Lgk q.f q.n A Ln M) (hlt : x.i < M) {q2 : Pt8} {v : Value} (hn : q2.n = ((x.r.tk (8 + Ln x.i)).dp 8).n) (hf : q2.f = ((x.r.tk (8 + Ln x.i)).dp 8).f) : Rk q A Ln M w ⟨x.i + 1, x.r.dp (8 + Ln x.i + 4), v, upP x.P x.i q2⟩ := by
  have h1 := h.n
  have h2 := hg.nx_le hlt
  have h3 := hg.s x.i hlt
  have h4 := h.ok.1.le
  refine ⟨hlt, ⟨h.ok.1.dp (by omega), Pt8.rs_dp h.ok.2 (by omega)⟩, Pt8.dp_no h.no _, ?_, ?_, fun i hi => ?_⟩
  · show x.r.n - (8 + Ln x.i + 4) + A (x.i + 1) = q.n
    omega
  · show (fun j => x.r.f (8 + Ln x.i + 4 + j)) = sh q.f (A (x.i + 1))
    funext j
    rw [h.f]
    show q.f (A x.i + (8 + Ln x.i + 4 + j)) = q.f (A (x.i + 1) + j)
    rw [h3]
    congr 1
    omega
  · show (upP x.P x.i q2 i).n = Ln i ∧ ∀ j, j < Ln i → (upP x.P x.i q2 i).f j = q.f (A i + 8 + j)
    unfold upP
    by_cases e : i = x.i
    · rw [if_pos e, e, hn, hf]
      refine ⟨(show 8 + Ln x.i - 8 = _ by omega), fun j hj => ?_⟩
      show x.r.f (8 + j) = _
      rw [h.f]
      show q.f (A x.i + (8 + j)) = _
      rw [Nat.add_assoc]
    · rw [if_neg e]
      exact h.ps i (by have : i < x.i + 1 := hi; omega)
set_option maxHeartbeats 4000000 in
set_option maxRecDepth 100000 in
theorem read_short (g t : Nat) (q : Pt8) (A Ln : Nat → Nat) (M : Nat) (hbq : q.n ≤ 1048576) (hE : q.n < A M + 8) (w : World) (hT0 : Tb g t w) (hq0 : Pok q ∧ q.rs w) (hqn0 : q.p = none → q.cp = 0) (hlg0 : Lgk q.f q.n A Ln M) :
    Calls Tryz.prog 148 #[PT g t, .slice q.p q.n q.cp] w fun e w' => ∃ v P, e = .returned (.tuple #[v, .int .i64 ((A M : Nat) : Int), .int .i64 0]) ∧ Lr w v M P w' ∧ ∀ i, i < M → (P i).n = Ln i ∧ ∀ j, j < Ln i → (P i).f j = q.f (A i + 8 + j) := by
  have H0 : Hid (_ ∧ _) := ⟨Mm.nil w, Lr.start (fun _ => q) (Below.refl w.heap.size w)⟩
  have hT : Hid _ := hT0
  have hq : Hid _ := hq0
  clear hT0 hq0
  have hqn : Hid _ := hqn0
  clear hqn0
  have hlg : Hid _ := hlg0
  clear hlg0
  go_enter Tryz.func148, Tryz.ntmps148
  refine wp_seq ?_
  refine sq_startW (l := [0, 1, 2]) rfl (fun u0 hu0 => ?_)
  have H1 : Hid (Mm u0 [] ∧ Lr w (.slice none 0 0) 0 (fun _ => q) u0) := by rw [hu0]; exact H0
  clear hu0 H0
  refine rest_set (d := 4) (v := .slice none 0 0) (w' := u0) rfl rfl rfl (rfl) ?_
  simp only [Act.put, sa, sz, ss]
  refine rest_set (d := 5) (v := .int .i64 0) (w' := u0) rfl rfl rfl (rfl) ?_
  simp only [Act.put, sa, sz, ss]
  refine rest_set (d := 6) (v := .int .i64 0) (w' := u0) rfl rfl rfl (rfl) ?_
  simp only [Act.put, sa, sz, ss]
  refine rest_nil (then_normal (wp_seq ?_))
  refine sq_start (l := [0]) rfl ?_
  refine rest_set (d := 7) (v := .slice none 0 0) (w' := u0) rfl rfl rfl (rfl) ?_
  simp only [Act.put, sa, sz, ss]
  refine rest_nil (then_normal (wp_seq ?_))
  refine sq_start (l := [0, 1]) rfl ?_
  refine rest_set (d := 12) (v := .slice q.p q.n q.cp) (w' := u0) rfl rfl rfl (rfl) ?_
  simp only [Act.put, sa, sz, ss]
  refine rest_set (d := 8) (v := .slice q.p q.n q.cp) (w' := u0) rfl rfl rfl (rfl) ?_
  simp only [Act.put, sa, sz, ss]
  refine rest_nil (then_normal ?_)
  refine wp_seq (wp_block ?_)
  refine loop_ghost (α := Gr) (fun x a' w' => ∃ s0 : Nat → Value, a' = ⟨#[PT g t, .slice q.p q.n q.cp, undef, undef, s0 4, s0 5, s0 6, x.v, .slice x.r.p x.r.n x.r.cp, s0 9, s0 10, s0 11, .slice q.p q.n q.cp, s0 13, s0 14, s0 15, s0 16, s0 17, s0 18, s0 19, s0 20, s0 21, s0 22, s0 23, s0 24, s0 25, s0 26, s0 27, s0 28, s0 29, s0 30, s0 31, s0 32, s0 33, s0 34, s0 35, s0 36, s0 37, s0 38, s0 39, s0 40, s0 41, s0 42, s0 43, s0 44, s0 45, s0 46, s0 47, s0 48, s0 49, s0 50, undef, undef, undef, undef, undef, undef], []⟩ ∧ (Mm w' [] ∧ Lr w x.v x.i x.P w') ∧ Rk q A Ln M w x) (fun x => M - x.i) ⟨0, q, .slice none 0 0, fun _ => q⟩ ?st0 ?rd0
  case st0 => exact ⟨(slotfn [undef, undef, undef, undef, .slice none 0 0, .int .i64 0, .int .i64 0, undef, undef, undef, undef, undef, undef, undef, undef, undef, undef, undef, undef, undef, undef, undef, undef, undef, undef, undef, undef, undef, undef, undef, undef, undef, undef, undef, undef, undef, undef, undef, undef, undef, undef, undef, undef, undef, undef, undef, undef, undef, undef, undef, undef]), rfl, ⟨H1.out.1, H1.out.2⟩, ⟨Nat.zero_le _, hq.out, hqn.out, by show q.n + A 0 = q.n; rw [hlg.out.z, Nat.add_zero], by show q.f = sh q.f (A 0); rw [hlg.out.z]; funext j; show q.f j = q.f (0 + j); rw [Nat.zero_add], fun i hi => absurd hi (Nat.not_lt_zero _)⟩⟩
  intro x a' w2 hI
  obtain ⟨s0, rfl, hMB, hk0⟩ := hI
  have H2 : Hid (_ ∧ _) := hMB
  clear hMB H1
  by_cases hltx : x.i < M
  · have hrd : True := trivial
    clear hrd
    have hle := hk0.ok.1.le
    have hrn := hk0.n
    have hAl := hlg.out.at_le hk0.le
    have hMn := hlg.out.mono M 0 (Nat.zero_add M)
    have hMl := hlg.out.le
    have hnx := hlg.out.nx_le hltx
    have hhd : Hdk x.r.f (Ln x.i) := by rw [hk0.f]; exact hlg.out.hd x.i hltx
    have hbd : Bdk x.r.f (Ln x.i) := by rw [hk0.f]; exact hlg.out.bd x.i hltx
    have hL6 := hhd.le
    refine wp_seq (wp_seq ?_)
    refine sq_start (l := [0, 1, 2]) rfl ?_
    refine rest_set (d := 13) (v := .slice x.r.p x.r.n x.r.cp) (w' := w2) rfl rfl rfl (rfl) ?_
    simp only [Act.put, sa, sz, ss]
    refine rest_set (d := 14) (v := .int .i64 ((x.r.n : Nat) : Int)) (w' := w2) rfl rfl rfl (by go_simp) ?_
    simp only [Act.put, sa, sz, ss]
    refine rest_set (d := 15) (v := .bool true) (w' := w2) rfl rfl rfl (by go_simp <;> omega) ?_
    simp only [Act.put, sa, sz, ss]
    refine rest_nil (then_normal ?_)
    refine wp_cond_true rfl (wp_skip ?_)
    refine then_normal (wp_block (wp_seq ?_))
    refine sq_start (l := [0, 1, 2, 3, 4, 5, 6, 7]) rfl ?_
    refine rest_set (d := 17) (v := PT g t) (w' := w2) rfl rfl rfl (rfl) ?_
    simp only [Act.put, sa, sz, ss]
    refine rest_set (d := 18) (v := .slice x.r.p x.r.n x.r.cp) (w' := w2) rfl rfl rfl (rfl) ?_
    simp only [Act.put, sa, sz, ss]
    refine rest_enter (d := 19) (R := fun vv w' => vv = .tuple #[.int .i64 (((Ln x.i) : Nat) : Int), .int .i64 0] ∧ Below w2.heap.size w2 w') rfl rfl rfl (exec_call (args := #[PT g t, .slice x.r.p x.r.n x.r.cp]) rfl call167 rfl (mpn rfl)) (Calls.mono (length_hd g t x.r (Ln x.i) (by omega) hhd w2 (hT.out.below H2.out.2.b) ⟨hk0.ok.1, hk0.ok.2.below H2.out.2.b⟩) (fun e w2 hh => ⟨_, hh.1, rfl, hh.2⟩)) ?_
    rintro _ w3 ⟨rfl, hb⟩
    have H3 : Hid (Mm w3 [] ∧ Lr w x.v x.i x.P w3) := ⟨H2.out.1.below hb, Lr.step H2.out.2 (hb)⟩
    clear hb
    clear H2
    simp only [Act.put, sa, sz, ss]
    refine rest_set (d := 16) (v := .tuple #[.int .i64 (((Ln x.i) : Nat) : Int), .int .i64 0]) (w' := w3) rfl rfl rfl (rfl) ?_
    simp only [Act.put, sa, sz, ss]
    refine rest_set (d := 20) (v := .int .i64 (((Ln x.i) : Nat) : Int)) (w' := w3) rfl rfl rfl (by go_simp) ?_
    simp only [Act.put, sa, sz, ss]
    refine rest_set (d := 21) (v := .int .i64 0) (w' := w3) rfl rfl rfl (by go_simp) ?_
    simp only [Act.put, sa, sz, ss]
    refine rest_set (d := 9) (v := .int .i64 (((Ln x.i) : Nat) : Int)) (w' := w3) rfl rfl rfl (rfl) ?_
    simp only [Act.put, sa, sz, ss]
    refine rest_set (d := 10) (v := .int .i64 0) (w' := w3) rfl rfl rfl (rfl) ?_
    simp only [Act.put, sa, sz, ss]
    refine rest_nil (then_normal ?_)
    refine wp_seq (wp_seq ?_)
    refine sq_start (l := [0, 1]) rfl ?_
    refine rest_set (d := 22) (v := .int .i64 0) (w' := w3) rfl rfl rfl (rfl) ?_
    simp only [Act.put, sa, sz, ss]
    refine rest_set (d := 23) (v := .bool false) (w' := w3) rfl rfl rfl (by kernel_rfl) ?_
    simp only [Act.put, sa, sz, ss]
    refine rest_nil (then_normal ?_)
    refine wp_cond_false rfl (wp_skip ?_)
    refine then_normal (wp_seq (wp_seq ?_))
    refine sq_start (l := [0, 1, 2, 3, 4]) rfl ?_
    refine rest_set (d := 25) (v := .slice x.r.p x.r.n x.r.cp) (w' := w3) rfl rfl rfl (rfl) ?_
    simp only [Act.put, sa, sz, ss]
    refine rest_set (d := 26) (v := .int .i64 ((x.r.n : Nat) : Int)) (w' := w3) rfl rfl rfl (by go_simp) ?_
    simp only [Act.put, sa, sz, ss]
    refine rest_set (d := 27) (v := .int .i64 (((Ln x.i) : Nat) : Int)) (w' := w3) rfl rfl rfl (rfl) ?_
    simp only [Act.put, sa, sz, ss]
    refine rest_enter (d := 28) (R := fun vv w' => vv = .int .i64 ((8 + (Ln x.i) + 4 : Nat) : Int) ∧ Below w3.heap.size w3 w') rfl rfl rfl (exec_call (args := #[.int .i64 (((Ln x.i) : Nat) : Int)]) rfl call143 rfl (mpn rfl)) (Calls.mono (framed_any (Ln x.i) (by omega) w3) (fun e w2 hh => ⟨_, hh.1, rfl, hh.2⟩)) ?_
    rintro _ w4 ⟨rfl, hb⟩
    have H4 : Hid (Mm w4 [] ∧ Lr w x.v x.i x.P w4) := ⟨H3.out.1.below hb, Lr.step H3.out.2 (hb)⟩
    clear hb
    clear H3
    simp only [Act.put, sa, sz, ss]
    refine rest_set (d := 29) (v := .bool false) (w' := w4) rfl rfl rfl (by go_simp <;> omega) ?_
    simp only [Act.put, sa, sz, ss]
    refine rest_nil (then_normal ?_)
    refine wp_cond_false rfl (wp_skip ?_)
    refine then_normal (wp_seq ?_)
    refine sq_start (l := [0, 1, 2, 3, 4]) rfl ?_
    refine rest_set (d := 30) (v := .slice x.r.p x.r.n x.r.cp) (w' := w4) rfl rfl rfl (rfl) ?_
    simp only [Act.put, sa, sz, ss]
    refine rest_set (d := 31) (v := .int .i64 (((Ln x.i) : Nat) : Int)) (w' := w4) rfl rfl rfl (rfl) ?_
    simp only [Act.put, sa, sz, ss]
    refine rest_set (d := 32) (v := .int .i64 ((8 + (Ln x.i) : Nat) : Int)) (w' := w4) rfl rfl rfl (by go_simp; rw [IntKind.wrap_i64]; omega) ?_
    simp only [Act.put, sa, sz, ss]
    refine rest_set (d := 33) (v := .slice ((x.r.tk (8 + (Ln x.i))).dp 8).p ((x.r.tk (8 + (Ln x.i))).dp 8).n ((x.r.tk (8 + (Ln x.i))).dp 8).cp) (w' := w4) rfl rfl rfl (ex_mdQ (q := x.r) (k := 8) (m := 8 + (Ln x.i)) (by omega) (by omega) rfl rfl rfl rfl) ?_
    simp only [Act.put, sa, sz, ss]
    refine rest_set (d := 11) (v := .slice ((x.r.tk (8 + (Ln x.i))).dp 8).p ((x.r.tk (8 + (Ln x.i))).dp 8).n ((x.r.tk (8 + (Ln x.i))).dp 8).cp) (w' := w4) rfl rfl rfl (rfl) ?_
    simp only [Act.put, sa, sz, ss]
    refine rest_nil (then_normal ?_)
    refine wp_seq (wp_seq ?_)
    refine sq_start (l := [0, 1, 2, 3, 4, 5, 6, 7]) rfl ?_
    refine rest_set (d := 34) (v := PT g t) (w' := w4) rfl rfl rfl (rfl) ?_
    simp only [Act.put, sa, sz, ss]
    refine rest_set (d := 35) (v := .slice ((x.r.tk (8 + (Ln x.i))).dp 8).p ((x.r.tk (8 + (Ln x.i))).dp 8).n ((x.r.tk (8 + (Ln x.i))).dp 8).cp) (w' := w4) rfl rfl rfl (rfl) ?_
    simp only [Act.put, sa, sz, ss]
    refine rest_set (d := 36) (v := .slice x.r.p x.r.n x.r.cp) (w' := w4) rfl rfl rfl (rfl) ?_
    simp only [Act.put, sa, sz, ss]
    refine rest_set (d := 37) (v := .int .i64 (((Ln x.i) : Nat) : Int)) (w' := w4) rfl rfl rfl (rfl) ?_
    simp only [Act.put, sa, sz, ss]
    refine rest_set (d := 38) (v := .int .i64 ((8 + (Ln x.i) : Nat) : Int)) (w' := w4) rfl rfl rfl (by go_simp; rw [IntKind.wrap_i64]; omega) ?_
    simp only [Act.put, sa, sz, ss]
    refine rest_set (d := 39) (v := .slice (x.r.dp (8 + (Ln x.i))).p (x.r.dp (8 + (Ln x.i))).n (x.r.dp (8 + (Ln x.i))).cp) (w' := w4) rfl rfl rfl (ex_dpQ (q := x.r) (k := 8 + (Ln x.i)) (by omega) rfl rfl rfl) ?_
    simp only [Act.put, sa, sz, ss]
    refine rest_enter (d := 40) (R := fun vv w' => vv = .bool true ∧ Below w4.heap.size w4 w') rfl rfl rfl (exec_call (args := #[PT g t, .slice ((x.r.tk (8 + (Ln x.i))).dp 8).p ((x.r.tk (8 + (Ln x.i))).dp 8).n ((x.r.tk (8 + (Ln x.i))).dp 8).cp, .slice (x.r.dp (8 + (Ln x.i))).p (x.r.dp (8 + (Ln x.i))).n (x.r.dp (8 + (Ln x.i))).cp]) rfl call168 rfl (mpn rfl)) (Calls.mono (holds_bd g t x.r (Ln x.i) (by omega) (by omega) true (decide_eq_true hbd) w4 (hT.out.below H4.out.2.b) ⟨hk0.ok.1, hk0.ok.2.below H4.out.2.b⟩) (fun e w2 hh => ⟨_, hh.1, rfl, hh.2⟩)) ?_
    rintro _ w5 ⟨rfl, hb⟩
    have H5 : Hid (Mm w5 [] ∧ Lr w x.v x.i x.P w5) := ⟨H4.out.1.below hb, Lr.step H4.out.2 (hb)⟩
    clear hb
    clear H4
    simp only [Act.put, sa, sz, ss]
    refine rest_set (d := 41) (v := .bool false) (w' := w5) rfl rfl rfl (by go_simp) ?_
    simp only [Act.put, sa, sz, ss]
    refine rest_nil (then_normal ?_)
    refine wp_cond_false rfl (wp_skip ?_)
    refine then_normal (wp_seq ?_)
    refine sq_start (l := [0, 1, 2, 3, 4, 5]) rfl ?_
    refine rest_set (d := 42) (v := x.v) (w' := w5) rfl rfl rfl (rfl) ?_
    simp only [Act.put, sa, sz, ss]
    refine rest_set (d := 43) (v := .slice ((x.r.tk (8 + (Ln x.i))).dp 8).p ((x.r.tk (8 + (Ln x.i))).dp 8).n ((x.r.tk (8 + (Ln x.i))).dp 8).cp) (w' := w5) rfl rfl rfl (rfl) ?_
    simp only [Act.put, sa, sz, ss]
    refine rest_enter (d := 44) (R := fun vv w' => Cw w5 vv ((x.r.tk (8 + (Ln x.i))).dp 8).n ((x.r.tk (8 + (Ln x.i))).dp 8).f w') rfl rfl rfl (exec_call (args := #[.slice ((x.r.tk (8 + (Ln x.i))).dp 8).p ((x.r.tk (8 + (Ln x.i))).dp 8).n ((x.r.tk (8 + (Ln x.i))).dp 8).cp]) rfl call43 rfl (mpn rfl)) (Calls.mono (bclone_any ((x.r.tk (8 + (Ln x.i))).dp 8) (by show 8 + (Ln x.i) - 8 ≤ _; omega) w5 ((hk0.ok.1.tk (by omega)).dp (by show 8 ≤ 8 + (Ln x.i); omega)) (Pt8.dp_no (Pt8.tk_no hk0.no _) _) (Pt8.rs_dp (Pt8.rs_tk (hk0.ok.2.below H5.out.2.b) (by omega)) (by show 8 ≤ 8 + (Ln x.i); omega))) (fun e w2 hh => by obtain ⟨v', he, hO⟩ := hh; exact ⟨_, he, hO⟩)) ?_
    rintro vc w6 hO
    obtain ⟨q2, rfl, e2, e3, e4, e5, e6, e7⟩ := hO.part
    have hq2 : Hid (Pok q2 ∧ (q2.p = none → q2.cp = 0) ∧ (0 < q2.n → w.heap.size ≤ q2.gb ∧ q2.gb ∉ vbl x.v)) := ⟨e2, e3, fun h0 => ⟨Nat.le_trans H5.out.2.b.size (e7 h0), fun hx => absurd (own_lt H5.out.2.own _ hx) (Nat.not_lt.2 (e7 h0))⟩⟩
    have hq2n : Hid (q2.n = ((x.r.tk (8 + (Ln x.i))).dp 8).n) := e4
    have hq2f : Hid (q2.f = ((x.r.tk (8 + (Ln x.i))).dp 8).f) := e5
    have H6 : Hid (Mm w6 [] ∧ Lr w x.v x.i x.P w6 ∧ q2.rs w6) := ⟨Mm.nil _, H5.out.2.step hO.b, e6⟩
    clear hO e2 e3 e4 e5 e6 e7 H5
    have hq2z : Hid _ := H6.out.2.2
    have H7 : Hid (Mm w6 [] ∧ Lr w x.v x.i x.P w6) := ⟨Mm.nil _, H6.out.2.1⟩
    clear H6
    simp only [Act.put, sa, sz, ss]
    have hq2r : Hid (q2.rs (w6.alloc (.cells ([Value.slice q2.p q2.n q2.cp] : List Value).toArray 40))) := hq2z.out.below ((Below.refl _ _).alloc (Nat.le_refl _) _)
    refine rest_set (d := 45) (v := .slice (some ⟨w6.heap.size, 0, none⟩) 1 1) (w' := (w6.alloc (.cells ([Value.slice q2.p q2.n q2.cp] : List Value).toArray 40))) rfl rfl rfl (ex_bs131_1 rfl rfl) ?_
    simp only [Act.put, sa, sz, ss]
    have o_γs8 : Hid (w.heap.size ≤ w6.heap.size) := H7.out.2.b.size
    have H8 : Hid (Mm (w6.alloc (.cells ([Value.slice q2.p q2.n q2.cp] : List Value).toArray 40)) ((w6.heap.size, [Value.slice q2.p q2.n q2.cp]) :: []) ∧ Lr w x.v x.i x.P (w6.alloc (.cells ([Value.slice q2.p q2.n q2.cp] : List Value).toArray 40))) := ⟨H7.out.1.alloc _ 40 rfl, Lr.step H7.out.2 (((Below.refl _ _).alloc (Nat.le_refl _) _))⟩
    clear H7
    generalize hgw : w6.alloc (.cells ([Value.slice q2.p q2.n q2.cp] : List Value).toArray 40) = w8 at hq2r H8 ⊢
    clear hgw
    generalize w6.heap.size = γs8 at o_γs8 H8 ⊢
    obtain ⟨vr, w9, hr, hO⟩ := H8.out.2.app (by omega) (q := q2) ⟨hq2.out.1, hq2.out.2.1, hq2r.out, hq2.out.2.2⟩ (H8.out.1.get 0 rfl 0 rfl) 131
    refine rest_set (d := 46) (v := vr) (w' := w9) rfl rfl rfl (ex_appL rfl rfl rfl hr) ?_
    simp only [Act.put, sa, sz, ss]
    have H9 : Hid (Mm w9 [] ∧ Lr w vr (x.i + 1) (upP x.P x.i q2) w9) := ⟨Mm.nil _, hO⟩
    clear hr hO H8
    refine rest_set (d := 7) (v := vr) (w' := w9) rfl rfl rfl (rfl) ?_
    simp only [Act.put, sa, sz, ss]
    refine rest_nil (then_normal ?_)
    refine sq_start (l := [0, 1, 2, 3, 4]) rfl ?_
    refine rest_set (d := 47) (v := .slice x.r.p x.r.n x.r.cp) (w' := w9) rfl rfl rfl (rfl) ?_
    simp only [Act.put, sa, sz, ss]
    refine rest_set (d := 48) (v := .int .i64 (((Ln x.i) : Nat) : Int)) (w' := w9) rfl rfl rfl (rfl) ?_
    simp only [Act.put, sa, sz, ss]
    refine rest_enter (d := 49) (R := fun vv w' => vv = .int .i64 ((8 + (Ln x.i) + 4 : Nat) : Int) ∧ Below w9.heap.size w9 w') rfl rfl rfl (exec_call (args := #[.int .i64 (((Ln x.i) : Nat) : Int)]) rfl call143 rfl (mpn rfl)) (Calls.mono (framed_any (Ln x.i) (by omega) w9) (fun e w2 hh => ⟨_, hh.1, rfl, hh.2⟩)) ?_
    rintro _ w10 ⟨rfl, hb⟩
    have H10 : Hid (Mm w10 [] ∧ Lr w vr (x.i + 1) (upP x.P x.i q2) w10) := ⟨H9.out.1.below hb, Lr.step H9.out.2 (hb)⟩
    clear hb
    clear H9
    simp only [Act.put, sa, sz, ss]
    refine rest_set (d := 50) (v := .slice (x.r.dp (8 + (Ln x.i) + 4)).p (x.r.dp (8 + (Ln x.i) + 4)).n (x.r.dp (8 + (Ln x.i) + 4)).cp) (w' := w10) rfl rfl rfl (ex_dpQ (q := x.r) (k := 8 + (Ln x.i) + 4) (by omega) rfl rfl rfl) ?_
    simp only [Act.put, sa, sz, ss]
    refine rest_set (d := 8) (v := .slice (x.r.dp (8 + (Ln x.i) + 4)).p (x.r.dp (8 + (Ln x.i) + 4)).n (x.r.dp (8 + (Ln x.i) + 4)).cp) (w' := w10) rfl rfl rfl (rfl) ?_
    simp only [Act.put, sa, sz, ss]
    refine rest_nil (block_normal (then_normal ?_))
    exact ⟨⟨x.i + 1, x.r.dp (8 + Ln x.i + 4), vr, upP x.P x.i q2⟩, ⟨(slotfn [undef, undef, undef, undef, s0 4, s0 5, s0 6, undef, undef, .int .i64 (((Ln x.i) : Nat) : Int), .int .i64 0, .slice ((x.r.tk (8 + (Ln x.i))).dp 8).p ((x.r.tk (8 + (Ln x.i))).dp 8).n ((x.r.tk (8 + (Ln x.i))).dp 8).cp, undef, .slice x.r.p x.r.n x.r.cp, .int .i64 ((x.r.n : Nat) : Int), .bool true, .tuple #[.int .i64 (((Ln x.i) : Nat) : Int), .int .i64 0], PT g t, .slice x.r.p x.r.n x.r.cp, .tuple #[.int .i64 (((Ln x.i) : Nat) : Int), .int .i64 0], .int .i64 (((Ln x.i) : Nat) : Int), .int .i64 0, .int .i64 0, .bool false, s0 24, .slice x.r.p x.r.n x.r.cp, .int .i64 ((x.r.n : Nat) : Int), .int .i64 (((Ln x.i) : Nat) : Int), .int .i64 ((8 + (Ln x.i) + 4 : Nat) : Int), .bool false, .slice x.r.p x.r.n x.r.cp, .int .i64 (((Ln x.i) : Nat) : Int), .int .i64 ((8 + (Ln x.i) : Nat) : Int), .slice ((x.r.tk (8 + (Ln x.i))).dp 8).p ((x.r.tk (8 + (Ln x.i))).dp 8).n ((x.r.tk (8 + (Ln x.i))).dp 8).cp, PT g t, .slice ((x.r.tk (8 + (Ln x.i))).dp 8).p ((x.r.tk (8 + (Ln x.i))).dp 8).n ((x.r.tk (8 + (Ln x.i))).dp 8).cp, .slice x.r.p x.r.n x.r.cp, .int .i64 (((Ln x.i) : Nat) : Int), .int .i64 ((8 + (Ln x.i) : Nat) : Int), .slice (x.r.dp (8 + (Ln x.i))).p (x.r.dp (8 + (Ln x.i))).n (x.r.dp (8 + (Ln x.i))).cp, .bool true, .bool false, x.v, .slice ((x.r.tk (8 + (Ln x.i))).dp 8).p ((x.r.tk (8 + (Ln x.i))).dp 8).n ((x.r.tk (8 + (Ln x.i))).dp 8).cp, .slice q2.p q2.n q2.cp, .slice (some ⟨γs8, 0, none⟩) 1 1, vr, .slice x.r.p x.r.n x.r.cp, .int .i64 (((Ln x.i) : Nat) : Int), .int .i64 ((8 + (Ln x.i) + 4 : Nat) : Int), .slice (x.r.dp (8 + (Ln x.i) + 4)).p (x.r.dp (8 + (Ln x.i) + 4)).n (x.r.dp (8 + (Ln x.i) + 4)).cp]), rfl, ⟨H10.out.1, H10.out.2⟩, Rk.next hk0 hlg.out hltx hq2n.out hq2f.out⟩, (show M - (x.i + 1) < M - x.i by omega)⟩
  have hle := hk0.ok.1.le
  have hrn := hk0.n
  have hAl := hlg.out.at_le hk0.le
  have hMn := hlg.out.mono M 0 (Nat.zero_add M)
  have hMl := hlg.out.le
  have hxM : x.i = M := by have := hk0.le; omega
  rw [hxM] at hrn hAl
  refine wp_seq (wp_seq ?_)
  refine sq_start (l := [0, 1, 2]) rfl ?_
  refine rest_set (d := 13) (v := .slice x.r.p x.r.n x.r.cp) (w' := w2) rfl rfl rfl (rfl) ?_
  simp only [Act.put, sa, sz, ss]
  refine rest_set (d := 14) (v := .int .i64 ((x.r.n : Nat) : Int)) (w' := w2) rfl rfl rfl (by go_simp) ?_
  simp only [Act.put, sa, sz, ss]
  refine rest_set (d := 15) (v := .bool false) (w' := w2) rfl rfl rfl (by go_simp <;> omega) ?_
  simp only [Act.put, sa, sz, ss]
  refine rest_nil (then_normal (wp_cond_false rfl ?_))
  refine wp_exit ?_
  repeat refine then_exit ?_
  refine block_exit ?_
  refine then_normal (wp_seq ?_)
  refine sq_start (l := [0, 1, 2, 3, 4, 5, 6, 7, 8]) rfl ?_
  refine rest_set (d := 51) (v := x.v) (w' := w2) rfl rfl rfl (rfl) ?_
  simp only [Act.put, sa, sz, ss]
  refine rest_set (d := 52) (v := .slice q.p q.n q.cp) (w' := w2) rfl rfl rfl (rfl) ?_
  simp only [Act.put, sa, sz, ss]
  refine rest_set (d := 53) (v := .int .i64 ((q.n : Nat) : Int)) (w' := w2) rfl rfl rfl (by go_simp) ?_
  simp only [Act.put, sa, sz, ss]
  refine rest_set (d := 54) (v := .slice x.r.p x.r.n x.r.cp) (w' := w2) rfl rfl rfl (rfl) ?_
  simp only [Act.put, sa, sz, ss]
  refine rest_set (d := 55) (v := .int .i64 ((x.r.n : Nat) : Int)) (w' := w2) rfl rfl rfl (by go_simp) ?_
  simp only [Act.put, sa, sz, ss]
  refine rest_set (d := 56) (v := .int .i64 ((A M : Nat) : Int)) (w' := w2) rfl rfl rfl (by go_simp; rw [IntKind.wrap_i64]; omega) ?_
  simp only [Act.put, sa, sz, ss]
  refine rest_set (d := 4) (v := x.v) (w' := w2) rfl rfl rfl (rfl) ?_
  simp only [Act.put, sa, sz, ss]
  refine rest_set (d := 5) (v := .int .i64 ((A M : Nat) : Int)) (w' := w2) rfl rfl rfl (rfl) ?_
  simp only [Act.put, sa, sz, ss]
  refine rest_set (d := 6) (v := .int .i64 0) (w' := w2) rfl rfl rfl (rfl) ?_
  simp only [Act.put, sa, sz, ss]
  refine rest_nil (then_normal (wp_ret ?_))
  repeat (first | refine then_ret ?_ | refine block_ret ?_)
  refine bodyPost_ret (v := .tuple #[x.v, .int .i64 ((A M : Nat) : Int), .int .i64 0]) (by simp [results, Tryz.results148, go_sem, *]) rfl ?_
  exact ⟨_, _, rfl, by rw [← hxM]; exact H2.out.2, by rw [← hxM]; exact hk0.ps⟩
set_option maxHeartbeats 4000000 in
set_option maxRecDepth 100000 in
theorem read_torn (g t : Nat) (q : Pt8) (A Ln : Nat → Nat) (M : Nat) (hbq : q.n ≤ 1048576) (L : Nat) (h8 : A M + 8 ≤ q.n) (hE : q.n < A M + 8 + L + 4) (w : World) (hT0 : Tb g t w) (hq0 : Pok q ∧ q.rs w) (hqn0 : q.p = none → q.cp = 0) (hlg0 : Lgk q.f q.n A Ln M) (hhe0 : Hdk (sh q.f (A M)) L) :
    Calls Tryz.prog 148 #[PT g t, .slice q.p q.n q.cp] w fun e w' => ∃ v P, e = .returned (.tuple #[v, .int .i64 ((A M : Nat) : Int), .int .i64 0]) ∧ Lr w v M P w' ∧ ∀ i, i < M → (P i).n = Ln i ∧ ∀ j, j < Ln i → (P i).f j = q.f (A i + 8 + j) := by
  have H0 : Hid (_ ∧ _) := ⟨Mm.nil w, Lr.start (fun _ => q) (Below.refl w.heap.size w)⟩
  have hT : Hid _ := hT0
  have hq : Hid _ := hq0
  clear hT0 hq0
  have hqn : Hid _ := hqn0
  clear hqn0
  have hlg : Hid _ := hlg0
  clear hlg0
  have hhe : Hid _ := hhe0
  clear hhe0
  go_enter Tryz.func148, Tryz.ntmps148
  refine wp_seq ?_
  refine sq_startW (l := [0, 1, 2]) rfl (fun u0 hu0 => ?_)
  have H1 : Hid (Mm u0 [] ∧ Lr w (.slice none 0 0) 0 (fun _ => q) u0) := by rw [hu0]; exact H0
  clear hu0 H0
  refine rest_set (d := 4) (v := .slice none 0 0) (w' := u0) rfl rfl rfl (rfl) ?_
  simp only [Act.put, sa, sz, ss]
  refine rest_set (d := 5) (v := .int .i64 0) (w' := u0) rfl rfl rfl (rfl) ?_
  simp only [Act.put, sa, sz, ss]
  refine rest_set (d := 6) (v := .int .i64 0) (w' := u0) rfl rfl rfl (rfl) ?_
  simp only [Act.put, sa, sz, ss]
  refine rest_nil (then_normal (wp_seq ?_))
  refine sq_start (l := [0]) rfl ?_
  refine rest_set (d := 7) (v := .slice none 0 0) (w' := u0) rfl rfl rfl (rfl) ?_
  simp only [Act.put, sa, sz, ss]
  refine rest_nil (then_normal (wp_seq ?_))
  refine sq_start (l := [0, 1]) rfl ?_
  refine rest_set (d := 12) (v := .slice q.p q.n q.cp) (w' := u0) rfl rfl rfl (rfl) ?_
  simp only [Act.put, sa, sz, ss]
  refine rest_set (d := 8) (v := .slice q.p q.n q.cp) (w' := u0) rfl rfl rfl (rfl) ?_
  simp only [Act.put, sa, sz, ss]
  refine rest_nil (then_normal ?_)
  refine wp_seq (wp_block ?_)
  refine loop_ghost (α := Gr) (fun x a' w' => ∃ s0 : Nat → Value, a' = ⟨#[PT g t, .slice q.p q.n q.cp, undef, undef, s0 4, s0 5, s0 6, x.v, .slice x.r.p x.r.n x.r.cp, s0 9, s0 10, s0 11, .slice q.p q.n q.cp, s0 13, s0 14, s0 15, s0 16, s0 17, s0 18, s0 19, s0 20, s0 21, s0 22, s0 23, s0 24, s0 25, s0 26, s0 27, s0 28, s0 29, s0 30, s0 31, s0 32, s0 33, s0 34, s0 35, s0 36, s0 37, s0 38, s0 39, s0 40, s0 41, s0 42, s0 43, s0 44, s0 45, s0 46, s0 47, s0 48, s0 49, s0 50, undef, undef, undef, undef, undef, undef], []⟩ ∧ (Mm w' [] ∧ Lr w x.v x.i x.P w') ∧ Rk q A Ln M w x) (fun x => M - x.i) ⟨0, q, .slice none 0 0, fun _ => q⟩ ?st0 ?rd0
  case st0 => exact ⟨(slotfn [undef, undef, undef, undef, .slice none 0 0, .int .i64 0, .int .i64 0, undef, undef, undef, undef, undef, undef, undef, undef, undef, undef, undef, undef, undef, undef, undef, undef, undef, undef, undef, undef, undef, undef, undef, undef, undef, undef, undef, undef, undef, undef, undef, undef, undef, undef, undef, undef, undef, undef, undef, undef, undef, undef, undef, undef]), rfl, ⟨H1.out.1, H1.out.2⟩, ⟨Nat.zero_le _, hq.out, hqn.out, by show q.n + A 0 = q.n; rw [hlg.out.z, Nat.add_zero], by show q.f = sh q.f (A 0); rw [hlg.out.z]; funext j; show q.f j = q.f (0 + j); rw [Nat.zero_add], fun i hi => absurd hi (Nat.not_lt_zero _)⟩⟩
  intro x a' w2 hI
  obtain ⟨s0, rfl, hMB, hk0⟩ := hI
  have H2 : Hid (_ ∧ _) := hMB
  clear hMB H1
  by_cases hltx : x.i < M
  · have hrd : True := trivial
    clear hrd
    have hle := hk0.ok.1.le
    have hrn := hk0.n
    have hAl := hlg.out.at_le hk0.le
    have hMn := hlg.out.mono M 0 (Nat.zero_add M)
    have hMl := hlg.out.le
    have hnx := hlg.out.nx_le hltx
    have hhd : Hdk x.r.f (Ln x.i) := by rw [hk0.f]; exact hlg.out.hd x.i hltx
    have hbd : Bdk x.r.f (Ln x.i) := by rw [hk0.f]; exact hlg.out.bd x.i hltx
    have hL6 := hhd.le
    refine wp_seq (wp_seq ?_)
    refine sq_start (l := [0, 1, 2]) rfl ?_
    refine rest_set (d := 13) (v := .slice x.r.p x.r.n x.r.cp) (w' := w2) rfl rfl rfl (rfl) ?_
    simp only [Act.put, sa, sz, ss]
    refine rest_set (d := 14) (v := .int .i64 ((x.r.n : Nat) : Int)) (w' := w2) rfl rfl rfl (by go_simp) ?_
    simp only [Act.put, sa, sz, ss]
    refine rest_set (d := 15) (v := .bool true) (w' := w2) rfl rfl rfl (by go_simp <;> omega) ?_
    simp only [Act.put, sa, sz, ss]
    refine rest_nil (then_normal ?_)
    refine wp_cond_true rfl (wp_skip ?_)
    refine then_normal (wp_block (wp_seq ?_))
    refine sq_start (l := [0, 1, 2, 3, 4, 5, 6, 7]) rfl ?_
    refine rest_set (d := 17) (v := PT g t) (w' := w2) rfl rfl rfl (rfl) ?_
    simp only [Act.put, sa, sz, ss]
    refine rest_set (d := 18) (v := .slice x.r.p x.r.n x.r.cp) (w' := w2) rfl rfl rfl (rfl) ?_
    simp only [Act.put, sa, sz, ss]
    refine rest_enter (d := 19) (R := fun vv w' => vv = .tuple #[.int .i64 (((Ln x.i) : Nat) : Int), .int .i64 0] ∧ Below w2.heap.size w2 w') rfl rfl rfl (exec_call (args := #[PT g t, .slice x.r.p x.r.n x.r.cp]) rfl call167 rfl (mpn rfl)) (Calls.mono (length_hd g t x.r (Ln x.i) (by omega) hhd w2 (hT.out.below H2.out.2.b) ⟨hk0.ok.1, hk0.ok.2.below H2.out.2.b⟩) (fun e w2 hh => ⟨_, hh.1, rfl, hh.2⟩)) ?_
    rintro _ w3 ⟨rfl, hb⟩
    have H3 : Hid (Mm w3 [] ∧ Lr w x.v x.i x.P w3) := ⟨H2.out.1.below hb, Lr.step H2.out.2 (hb)⟩
    clear hb
    clear H2
    simp only [Act.put, sa, sz, ss]
    refine rest_set (d := 16) (v := .tuple #[.int .i64 (((Ln x.i) : Nat) : Int), .int .i64 0]) (w' := w3) rfl rfl rfl (rfl) ?_
    simp only [Act.put, sa, sz, ss]
    refine rest_set (d := 20) (v := .int .i64 (((Ln x.i) : Nat) : Int)) (w' := w3) rfl rfl rfl (by go_simp) ?_
    simp only [Act.put, sa, sz, ss]
    refine rest_set (d := 21) (v := .int .i64 0) (w' := w3) rfl rfl rfl (by go_simp) ?_
    simp only [Act.put, sa, sz, ss]
    refine rest_set (d := 9) (v := .int .i64 (((Ln x.i) : Nat) : Int)) (w' := w3) rfl rfl rfl (rfl) ?_
    simp only [Act.put, sa, sz, ss]
    refine rest_set (d := 10) (v := .int .i64 0) (w' := w3) rfl rfl rfl (rfl) ?_
    simp only [Act.put, sa, sz, ss]
    refine rest_nil (then_normal ?_)
    refine wp_seq (wp_seq ?_)
    refine sq_start (l := [0, 1]) rfl ?_
    refine rest_set (d := 22) (v := .int .i64 0) (w' := w3) rfl rfl rfl (rfl) ?_
    simp only [Act.put, sa, sz, ss]
    refine rest_set (d := 23) (v := .bool false) (w' := w3) rfl rfl rfl (by kernel_rfl) ?_
    simp only [Act.put, sa, sz, ss]
    refine rest_nil (then_normal ?_)
    refine wp_cond_false rfl (wp_skip ?_)
    refine then_normal (wp_seq (wp_seq ?_))
    refine sq_start (l := [0, 1, 2, 3, 4]) rfl ?_
    refine rest_set (d := 25) (v := .slice x.r.p x.r.n x.r.cp) (w' := w3) rfl rfl rfl (rfl) ?_
    simp only [Act.put, sa, sz, ss]
    refine rest_set (d := 26) (v := .int .i64 ((x.r.n : Nat) : Int)) (w' := w3) rfl rfl rfl (by go_simp) ?_
    simp only [Act.put, sa, sz, ss]
    refine rest_set (d := 27) (v := .int .i64 (((Ln x.i) : Nat) : Int)) (w' := w3) rfl rfl rfl (rfl) ?_
    simp only [Act.put, sa, sz, ss]
    refine rest_enter (d := 28) (R := fun vv w' => vv = .int .i64 ((8 + (Ln x.i) + 4 : Nat) : Int) ∧ Below w3.heap.size w3 w') rfl rfl rfl (exec_call (args := #[.int .i64 (((Ln x.i) : Nat) : Int)]) rfl call143 rfl (mpn rfl)) (Calls.mono (framed_any (Ln x.i) (by omega) w3) (fun e w2 hh => ⟨_, hh.1, rfl, hh.2⟩)) ?_
    rintro _ w4 ⟨rfl, hb⟩
    have H4 : Hid (Mm w4 [] ∧ Lr w x.v x.i x.P w4) := ⟨H3.out.1.below hb, Lr.step H3.out.2 (hb)⟩
    clear hb
    clear H3
    simp only [Act.put, sa, sz, ss]
    refine rest_set (d := 29) (v := .bool false) (w' := w4) rfl rfl rfl (by go_simp <;> omega) ?_
    simp only [Act.put, sa, sz, ss]
    refine rest_nil (then_normal ?_)
    refine wp_cond_false rfl (wp_skip ?_)
    refine then_normal (wp_seq ?_)
    refine sq_start (l := [0, 1, 2, 3, 4]) rfl ?_
    refine rest_set (d := 30) (v := .slice x.r.p x.r.n x.r.cp) (w' := w4) rfl rfl rfl (rfl) ?_
    simp only [Act.put, sa, sz, ss]
    refine rest_set (d := 31) (v := .int .i64 (((Ln x.i) : Nat) : Int)) (w' := w4) rfl rfl rfl (rfl) ?_
    simp only [Act.put, sa, sz, ss]
    refine rest_set (d := 32) (v := .int .i64 ((8 + (Ln x.i) : Nat) : Int)) (w' := w4) rfl rfl rfl (by go_simp; rw [IntKind.wrap_i64]; omega) ?_
    simp only [Act.put, sa, sz, ss]
    refine rest_set (d := 33) (v := .slice ((x.r.tk (8 + (Ln x.i))).dp 8).p ((x.r.tk (8 + (Ln x.i))).dp 8).n ((x.r.tk (8 + (Ln x.i))).dp 8).cp) (w' := w4) rfl rfl rfl (ex_mdQ (q := x.r) (k := 8) (m := 8 + (Ln x.i)) (by omega) (by omega) rfl rfl rfl rfl) ?_
    simp only [Act.put, sa, sz, ss]
    refine rest_set (d := 11) (v := .slice ((x.r.tk (8 + (Ln x.i))).dp 8).p ((x.r.tk (8 + (Ln x.i))).dp 8).n ((x.r.tk (8 + (Ln x.i))).dp 8).cp) (w' := w4) rfl rfl rfl (rfl) ?_
    simp only [Act.put, sa, sz, ss]
    refine rest_nil (then_normal ?_)
    refine wp_seq (wp_seq ?_)
    refine sq_start (l := [0, 1, 2, 3, 4, 5, 6, 7]) rfl ?_
    refine rest_set (d := 34) (v := PT g t) (w' := w4) rfl rfl rfl (rfl) ?_
    simp only [Act.put, sa, sz, ss]
    refine rest_set (d := 35) (v := .slice ((x.r.tk (8 + (Ln x.i))).dp 8).p ((x.r.tk (8 + (Ln x.i))).dp 8).n ((x.r.tk (8 + (Ln x.i))).dp 8).cp) (w' := w4) rfl rfl rfl (rfl) ?_
    simp only [Act.put, sa, sz, ss]
    refine rest_set (d := 36) (v := .slice x.r.p x.r.n x.r.cp) (w' := w4) rfl rfl rfl (rfl) ?_
    simp only [Act.put, sa, sz, ss]
    refine rest_set (d := 37) (v := .int .i64 (((Ln x.i) : Nat) : Int)) (w' := w4) rfl rfl rfl (rfl) ?_
    simp only [Act.put, sa, sz, ss]
    refine rest_set (d := 38) (v := .int .i64 ((8 + (Ln x.i) : Nat) : Int)) (w' := w4) rfl rfl rfl (by go_simp; rw [IntKind.wrap_i64]; omega) ?_
    simp only [Act.put, sa, sz, ss]
    refine rest_set (d := 39) (v := .slice (x.r.dp (8 + (Ln x.i))).p (x.r.dp (8 + (Ln x.i))).n (x.r.dp (8 + (Ln x.i))).cp) (w' := w4) rfl rfl rfl (ex_dpQ (q := x.r) (k := 8 + (Ln x.i)) (by omega) rfl rfl rfl) ?_
    simp only [Act.put, sa, sz, ss]
    refine rest_enter (d := 40) (R := fun vv w' => vv = .bool true ∧ Below w4.heap.size w4 w') rfl rfl rfl (exec_call (args := #[PT g t, .slice ((x.r.tk (8 + (Ln x.i))).dp 8).p ((x.r.tk (8 + (Ln x.i))).dp 8).n ((x.r.tk (8 + (Ln x.i))).dp 8).cp, .slice (x.r.dp (8 + (Ln x.i))).p (x.r.dp (8 + (Ln x.i))).n (x.r.dp (8 + (Ln x.i))).cp]) rfl call168 rfl (mpn rfl)) (Calls.mono (holds_bd g t x.r (Ln x.i) (by omega) (by omega) true (decide_eq_true hbd) w4 (hT.out.below H4.out.2.b) ⟨hk0.ok.1, hk0.ok.2.below H4.out.2.b⟩) (fun e w2 hh => ⟨_, hh.1, rfl, hh.2⟩)) ?_
    rintro _ w5 ⟨rfl, hb⟩
    have H5 : Hid (Mm w5 [] ∧ Lr w x.v x.i x.P w5) := ⟨H4.out.1.below hb, Lr.step H4.out.2 (hb)⟩
    clear hb
    clear H4
    simp only [Act.put, sa, sz, ss]
    refine rest_set (d := 41) (v := .bool false) (w' := w5) rfl rfl rfl (by go_simp) ?_
    simp only [Act.put, sa, sz, ss]
    refine rest_nil (then_normal ?_)
    refine wp_cond_false rfl (wp_skip ?_)
    refine then_normal (wp_seq ?_)
    refine sq_start (l := [0, 1, 2, 3, 4, 5]) rfl ?_
    refine rest_set (d := 42) (v := x.v) (w' := w5) rfl rfl rfl (rfl) ?_
    simp only [Act.put, sa, sz, ss]
    refine rest_set (d := 43) (v := .slice ((x.r.tk (8 + (Ln x.i))).dp 8).p ((x.r.tk (8 + (Ln x.i))).dp 8).n ((x.r.tk (8 + (Ln x.i))).dp 8).cp) (w' := w5) rfl rfl rfl (rfl) ?_
    simp only [Act.put, sa, sz, ss]
    refine rest_enter (d := 44) (R := fun vv w' => Cw w5 vv ((x.r.tk (8 + (Ln x.i))).dp 8).n ((x.r.tk (8 + (Ln x.i))).dp 8).f w') rfl rfl rfl (exec_call (args := #[.slice ((x.r.tk (8 + (Ln x.i))).dp 8).p ((x.r.tk (8 + (Ln x.i))).dp 8).n ((x.r.tk (8 + (Ln x.i))).dp 8).cp]) rfl call43 rfl (mpn rfl)) (Calls.mono (bclone_any ((x.r.tk (8 + (Ln x.i))).dp 8) (by show 8 + (Ln x.i) - 8 ≤ _; omega) w5 ((hk0.ok.1.tk (by omega)).dp (by show 8 ≤ 8 + (Ln x.i); omega)) (Pt8.dp_no (Pt8.tk_no hk0.no _) _) (Pt8.rs_dp (Pt8.rs_tk (hk0.ok.2.below H5.out.2.b) (by omega)) (by show 8 ≤ 8 + (Ln x.i); omega))) (fun e w2 hh => by obtain ⟨v', he, hO⟩ := hh; exact ⟨_, he, hO⟩)) ?_
    rintro vc w6 hO
    obtain ⟨q2, rfl, e2, e3, e4, e5, e6, e7⟩ := hO.part
    have hq2 : Hid (Pok q2 ∧ (q2.p = none → q2.cp = 0) ∧ (0 < q2.n → w.heap.size ≤ q2.gb ∧ q2.gb ∉ vbl x.v)) := ⟨e2, e3, fun h0 => ⟨Nat.le_trans H5.out.2.b.size (e7 h0), fun hx => absurd (own_lt H5.out.2.own _ hx) (Nat.not_lt.2 (e7 h0))⟩⟩
    have hq2n : Hid (q2.n = ((x.r.tk (8 + (Ln x.i))).dp 8).n) := e4
    have hq2f : Hid (q2.f = ((x.r.tk (8 + (Ln x.i))).dp 8).f) := e5
    have H6 : Hid (Mm w6 [] ∧ Lr w x.v x.i x.P w6 ∧ q2.rs w6) := ⟨Mm.nil _, H5.out.2.step hO.b, e6⟩
    clear hO e2 e3 e4 e5 e6 e7 H5
    have hq2z : Hid _ := H6.out.2.2
    have H7 : Hid (Mm w6 [] ∧ Lr w x.v x.i x.P w6) := ⟨Mm.nil _, H6.out.2.1⟩
    clear H6
    simp only [Act.put, sa, sz, ss]
    have hq2r : Hid (q2.rs (w6.alloc (.cells ([Value.slice q2.p q2.n q2.cp] : List Value).toArray 40))) := hq2z.out.below ((Below.refl _ _).alloc (Nat.le_refl _) _)
    refine rest_set (d := 45) (v := .slice (some ⟨w6.heap.size, 0, none⟩) 1 1) (w' := (w6.alloc (.cells ([Value.slice q2.p q2.n q2.cp] : List Value).toArray 40))) rfl rfl rfl (ex_bs131_1 rfl rfl) ?_
    simp only [Act.put, sa, sz, ss]
    have o_γs8 : Hid (w.heap.size ≤ w6.heap.size) := H7.out.2.b.size
    have H8 : Hid (Mm (w6.alloc (.cells ([Value.slice q2.p q2.n q2.cp] : List Value).toArray 40)) ((w6.heap.size, [Value.slice q2.p q2.n q2.cp]) :: []) ∧ Lr w x.v x.i x.P (w6.alloc (.cells ([Value.slice q2.p q2.n q2.cp] : List Value).toArray 40))) := ⟨H7.out.1.alloc _ 40 rfl, Lr.step H7.out.2 (((Below.refl _ _).alloc (Nat.le_refl _) _))⟩
    clear H7
    generalize hgw : w6.alloc (.cells ([Value.slice q2.p q2.n q2.cp] : List Value).toArray 40) = w8 at hq2r H8 ⊢
    clear hgw
    generalize w6.heap.size = γs8 at o_γs8 H8 ⊢
    obtain ⟨vr, w9, hr, hO⟩ := H8.out.2.app (by omega) (q := q2) ⟨hq2.out.1, hq2.out.2.1, hq2r.out, hq2.out.2.2⟩ (H8.out.1.get 0 rfl 0 rfl) 131
    refine rest_set (d := 46) (v := vr) (w' := w9) rfl rfl rfl (ex_appL rfl rfl rfl hr) ?_
    simp only [Act.put, sa, sz, ss]
    have H9 : Hid (Mm w9 [] ∧ Lr w vr (x.i + 1) (upP x.P x.i q2) w9) := ⟨Mm.nil _, hO⟩
    clear hr hO H8
    refine rest_set (d := 7) (v := vr) (w' := w9) rfl rfl rfl (rfl) ?_
    simp only [Act.put, sa, sz, ss]
    refine rest_nil (then_normal ?_)
    refine sq_start (l := [0, 1, 2, 3, 4]) rfl ?_
    refine rest_set (d := 47) (v := .slice x.r.p x.r.n x.r.cp) (w' := w9) rfl rfl rfl (rfl) ?_
    simp only [Act.put, sa, sz, ss]
    refine rest_set (d := 48) (v := .int .i64 (((Ln x.i) : Nat) : Int)) (w' := w9) rfl rfl rfl (rfl) ?_
    simp only [Act.put, sa, sz, ss]
    refine rest_enter (d := 49) (R := fun vv w' => vv = .int .i64 ((8 + (Ln x.i) + 4 : Nat) : Int) ∧ Below w9.heap.size w9 w') rfl rfl rfl (exec_call (args := #[.int .i64 (((Ln x.i) : Nat) : Int)]) rfl call143 rfl (mpn rfl)) (Calls.mono (framed_any (Ln x.i) (by omega) w9) (fun e w2 hh => ⟨_, hh.1, rfl, hh.2⟩)) ?_
    rintro _ w10 ⟨rfl, hb⟩
    have H10 : Hid (Mm w10 [] ∧ Lr w vr (x.i + 1) (upP x.P x.i q2) w10) := ⟨H9.out.1.below hb, Lr.step H9.out.2 (hb)⟩
    clear hb
    clear H9
    simp only [Act.put, sa, sz, ss]
    refine rest_set (d := 50) (v := .slice (x.r.dp (8 + (Ln x.i) + 4)).p (x.r.dp (8 + (Ln x.i) + 4)).n (x.r.dp (8 + (Ln x.i) + 4)).cp) (w' := w10) rfl rfl rfl (ex_dpQ (q := x.r) (k := 8 + (Ln x.i) + 4) (by omega) rfl rfl rfl) ?_
    simp only [Act.put, sa, sz, ss]
    refine rest_set (d := 8) (v := .slice (x.r.dp (8 + (Ln x.i) + 4)).p (x.r.dp (8 + (Ln x.i) + 4)).n (x.r.dp (8 + (Ln x.i) + 4)).cp) (w' := w10) rfl rfl rfl (rfl) ?_
    simp only [Act.put, sa, sz, ss]
    refine rest_nil (block_normal (then_normal ?_))
    exact ⟨⟨x.i + 1, x.r.dp (8 + Ln x.i + 4), vr, upP x.P x.i q2⟩, ⟨(slotfn [undef, undef, undef, undef, s0 4, s0 5, s0 6, undef, undef, .int .i64 (((Ln x.i) : Nat) : Int), .int .i64 0, .slice ((x.r.tk (8 + (Ln x.i))).dp 8).p ((x.r.tk (8 + (Ln x.i))).dp 8).n ((x.r.tk (8 + (Ln x.i))).dp 8).cp, undef, .slice x.r.p x.r.n x.r.cp, .int .i64 ((x.r.n : Nat) : Int), .bool true, .tuple #[.int .i64 (((Ln x.i) : Nat) : Int), .int .i64 0], PT g t, .slice x.r.p x.r.n x.r.cp, .tuple #[.int .i64 (((Ln x.i) : Nat) : Int), .int .i64 0], .int .i64 (((Ln x.i) : Nat) : Int), .int .i64 0, .int .i64 0, .bool false, s0 24, .slice x.r.p x.r.n x.r.cp, .int .i64 ((x.r.n : Nat) : Int), .int .i64 (((Ln x.i) : Nat) : Int), .int .i64 ((8 + (Ln x.i) + 4 : Nat) : Int), .bool false, .slice x.r.p x.r.n x.r.cp, .int .i64 (((Ln x.i) : Nat) : Int), .int .i64 ((8 + (Ln x.i) : Nat) : Int), .slice ((x.r.tk (8 + (Ln x.i))).dp 8).p ((x.r.tk (8 + (Ln x.i))).dp 8).n ((x.r.tk (8 + (Ln x.i))).dp 8).cp, PT g t, .slice ((x.r.tk (8 + (Ln x.i))).dp 8).p ((x.r.tk (8 + (Ln x.i))).dp 8).n ((x.r.tk (8 + (Ln x.i))).dp 8).cp, .slice x.r.p x.r.n x.r.cp, .int .i64 (((Ln x.i) : Nat) : Int), .int .i64 ((8 + (Ln x.i) : Nat) : Int), .slice (x.r.dp (8 + (Ln x.i))).p (x.r.dp (8 + (Ln x.i))).n (x.r.dp (8 + (Ln x.i))).cp, .bool true, .bool false, x.v, .slice ((x.r.tk (8 + (Ln x.i))).dp 8).p ((x.r.tk (8 + (Ln x.i))).dp 8).n ((x.r.tk (8 + (Ln x.i))).dp 8).cp, .slice q2.p q2.n q2.cp, .slice (some ⟨γs8, 0, none⟩) 1 1, vr, .slice x.r.p x.r.n x.r.cp, .int .i64 (((Ln x.i) : Nat) : Int), .int .i64 ((8 + (Ln x.i) + 4 : Nat) : Int), .slice (x.r.dp (8 + (Ln x.i) + 4)).p (x.r.dp (8 + (Ln x.i) + 4)).n (x.r.dp (8 + (Ln x.i) + 4)).cp]), rfl, ⟨H10.out.1, H10.out.2⟩, Rk.next hk0 hlg.out hltx hq2n.out hq2f.out⟩, (show M - (x.i + 1) < M - x.i by omega)⟩
  have hle := hk0.ok.1.le
  have hrn := hk0.n
  have hAl := hlg.out.at_le hk0.le
  have hMn := hlg.out.mono M 0 (Nat.zero_add M)
  have hMl := hlg.out.le
  have hxM : x.i = M := by have := hk0.le; omega
  rw [hxM] at hrn hAl
  have hfx : x.r.f = sh q.f (A M) := by rw [hk0.f, hxM]
  have hhd : Hdk x.r.f L := by rw [hfx]; exact hhe.out
  have hL6 := hhd.le
  refine wp_seq (wp_seq ?_)
  refine sq_start (l := [0, 1, 2]) rfl ?_
  refine rest_set (d := 13) (v := .slice x.r.p x.r.n x.r.cp) (w' := w2) rfl rfl rfl (rfl) ?_
  simp only [Act.put, sa, sz, ss]
  refine rest_set (d := 14) (v := .int .i64 ((x.r.n : Nat) : Int)) (w' := w2) rfl rfl rfl (by go_simp) ?_
  simp only [Act.put, sa, sz, ss]
  refine rest_set (d := 15) (v := .bool true) (w' := w2) rfl rfl rfl (by go_simp <;> omega) ?_
  simp only [Act.put, sa, sz, ss]
  refine rest_nil (then_normal ?_)
  refine wp_cond_true rfl (wp_skip ?_)
  refine then_normal (wp_block (wp_seq ?_))
  refine sq_start (l := [0, 1, 2, 3, 4, 5, 6, 7]) rfl ?_
  refine rest_set (d := 17) (v := PT g t) (w' := w2) rfl rfl rfl (rfl) ?_
  simp only [Act.put, sa, sz, ss]
  refine rest_set (d := 18) (v := .slice x.r.p x.r.n x.r.cp) (w' := w2) rfl rfl rfl (rfl) ?_
  simp only [Act.put, sa, sz, ss]
  refine rest_enter (d := 19) (R := fun vv w' => vv = .tuple #[.int .i64 ((L : Nat) : Int), .int .i64 0] ∧ Below w2.heap.size w2 w') rfl rfl rfl (exec_call (args := #[PT g t, .slice x.r.p x.r.n x.r.cp]) rfl call167 rfl (mpn rfl)) (Calls.mono (length_hd g t x.r L (by omega) hhd w2 (hT.out.below H2.out.2.b) ⟨hk0.ok.1, hk0.ok.2.below H2.out.2.b⟩) (fun e w2 hh => ⟨_, hh.1, rfl, hh.2⟩)) ?_
  rintro _ w11 ⟨rfl, hb⟩
  have H11 : Hid (Mm w11 [] ∧ Lr w x.v x.i x.P w11) := ⟨H2.out.1.below hb, Lr.step H2.out.2 (hb)⟩
  clear hb
  clear H2
  simp only [Act.put, sa, sz, ss]
  refine rest_set (d := 16) (v := .tuple #[.int .i64 ((L : Nat) : Int), .int .i64 0]) (w' := w11) rfl rfl rfl (rfl) ?_
  simp only [Act.put, sa, sz, ss]
  refine rest_set (d := 20) (v := .int .i64 ((L : Nat) : Int)) (w' := w11) rfl rfl rfl (by go_simp) ?_
  simp only [Act.put, sa, sz, ss]
  refine rest_set (d := 21) (v := .int .i64 0) (w' := w11) rfl rfl rfl (by go_simp) ?_
  simp only [Act.put, sa, sz, ss]
  refine rest_set (d := 9) (v := .int .i64 ((L : Nat) : Int)) (w' := w11) rfl rfl rfl (rfl) ?_
  simp only [Act.put, sa, sz, ss]
  refine rest_set (d := 10) (v := .int .i64 0) (w' := w11) rfl rfl rfl (rfl) ?_
  simp only [Act.put, sa, sz, ss]
  refine rest_nil (then_normal ?_)
  refine wp_seq (wp_seq ?_)
  refine sq_start (l := [0, 1]) rfl ?_
  refine rest_set (d := 22) (v := .int .i64 0) (w' := w11) rfl rfl rfl (rfl) ?_
  simp only [Act.put, sa, sz, ss]
  refine rest_set (d := 23) (v := .bool false) (w' := w11) rfl rfl rfl (by kernel_rfl) ?_
  simp only [Act.put, sa, sz, ss]
  refine rest_nil (then_normal ?_)
  refine wp_cond_false rfl (wp_skip ?_)
  refine then_normal (wp_seq (wp_seq ?_))
  refine sq_start (l := [0, 1, 2, 3, 4]) rfl ?_
  refine rest_set (d := 25) (v := .slice x.r.p x.r.n x.r.cp) (w' := w11) rfl rfl rfl (rfl) ?_
  simp only [Act.put, sa, sz, ss]
  refine rest_set (d := 26) (v := .int .i64 ((x.r.n : Nat) : Int)) (w' := w11) rfl rfl rfl (by go_simp) ?_
  simp only [Act.put, sa, sz, ss]
  refine rest_set (d := 27) (v := .int .i64 ((L : Nat) : Int)) (w' := w11) rfl rfl rfl (rfl) ?_
  simp only [Act.put, sa, sz, ss]
  refine rest_enter (d := 28) (R := fun vv w' => vv = .int .i64 ((8 + L + 4 : Nat) : Int) ∧ Below w11.heap.size w11 w') rfl rfl rfl (exec_call (args := #[.int .i64 ((L : Nat) : Int)]) rfl call143 rfl (mpn rfl)) (Calls.mono (framed_any L (by omega) w11) (fun e w2 hh => ⟨_, hh.1, rfl, hh.2⟩)) ?_
  rintro _ w12 ⟨rfl, hb⟩
  have H12 : Hid (Mm w12 [] ∧ Lr w x.v x.i x.P w12) := ⟨H11.out.1.below hb, Lr.step H11.out.2 (hb)⟩
  clear hb
  clear H11
  simp only [Act.put, sa, sz, ss]
  refine rest_set (d := 29) (v := .bool true) (w' := w12) rfl rfl rfl (by go_simp <;> omega) ?_
  simp only [Act.put, sa, sz, ss]
  refine rest_nil (then_normal (wp_cond_true rfl ?_))
  refine wp_exit ?_
  repeat refine then_exit ?_
  refine block_past (by decide) ?_
  repeat refine then_exit ?_
  refine block_exit ?_
  refine then_normal (wp_seq ?_)
  refine sq_start (l := [0, 1, 2, 3, 4, 5, 6, 7, 8]) rfl ?_
  refine rest_set (d := 51) (v := x.v) (w' := w12) rfl rfl rfl (rfl) ?_
  simp only [Act.put, sa, sz, ss]
  refine rest_set (d := 52) (v := .slice q.p q.n q.cp) (w' := w12) rfl rfl rfl (rfl) ?_
  simp only [Act.put, sa, sz, ss]
  refine rest_set (d := 53) (v := .int .i64 ((q.n : Nat) : Int)) (w' := w12) rfl rfl rfl (by go_simp) ?_
  simp only [Act.put, sa, sz, ss]
  refine rest_set (d := 54) (v := .slice x.r.p x.r.n x.r.cp) (w' := w12) rfl rfl rfl (rfl) ?_
  simp only [Act.put, sa, sz, ss]
  refine rest_set (d := 55) (v := .int .i64 ((x.r.n : Nat) : Int)) (w' := w12) rfl rfl rfl (by go_simp) ?_
  simp only [Act.put, sa, sz, ss]
  refine rest_set (d := 56) (v := .int .i64 ((A M : Nat) : Int)) (w' := w12) rfl rfl rfl (by go_simp; rw [IntKind.wrap_i64]; omega) ?_
  simp only [Act.put, sa, sz, ss]
  refine rest_set (d := 4) (v := x.v) (w' := w12) rfl rfl rfl (rfl) ?_
  simp only [Act.put, sa, sz, ss]
  refine rest_set (d := 5) (v := .int .i64 ((A M : Nat) : Int)) (w' := w12) rfl rfl rfl (rfl) ?_
  simp only [Act.put, sa, sz, ss]
  refine rest_set (d := 6) (v := .int .i64 0) (w' := w12) rfl rfl rfl (rfl) ?_
  simp only [Act.put, sa, sz, ss]
  refine rest_nil (then_normal (wp_ret ?_))
  repeat (first | refine then_ret ?_ | refine block_ret ?_)
  refine bodyPost_ret (v := .tuple #[x.v, .int .i64 ((A M : Nat) : Int), .int .i64 0]) (by simp [results, Tryz.results148, go_sem, *]) rfl ?_
  exact ⟨_, _, rfl, by rw [← hxM]; exact H12.out.2, by rw [← hxM]; exact hk0.ps⟩
end Wi
end Rg
end Go.Proofs.YtmcpagjhpfbpgaaGreatDoor
end
section
namespace Go.Proofs.YtmcpagjhpfbpgaaGreatDoor
open Go.RowKit
namespace Rg
namespace Wi
theorem call8 : ∀ args w, (callFunc 8 args).run Tryz.prog w = .ok (.enter 8 args) w := by intro args w; go_simp
theorem call35 : ∀ args w, (callFunc 35 args).run Tryz.prog w = .ok (.enter 35 args) w := by intro args w; go_simp
theorem call100 : ∀ args w, (callFunc 100 args).run Tryz.prog w = .ok (.enter 100 args) w := by intro args w; go_simp
theorem call166 : ∀ args w, (callFunc 166 args).run Tryz.prog w = .ok (.enter 166 args) w := by intro args w; go_simp
set_option maxRecDepth 100000
/-- A journal, cell by cell. -/
def jc (d : Nat) (s : ByteArray) (c z : Nat) : List Value := PT d 0 :: .string s :: (ints .u32 crt 256 ++ [.int .i64 ((c : Nat) : Int), .int .i64 ((z : Nat) : Int)])
theorem jc_len (d : Nat) (s : ByteArray) (c z : Nat) : (jc d s c z).length = 260 := by simp [jc, ints_len]
theorem jc_tab (d : Nat) (s : ByteArray) (c z : Nat) {i : Nat} (h : i < 256) : (jc d s c z)[2 + i]? = some (W32 (crt i)) := by
  unfold jc
  rw [Nat.add_comm 2 i]
  show (ints .u32 crt 256 ++ _)[i]? = _
  rw [List.getElem?_append_left (by rw [ints_len]; exact h), ints_get _ _ h]
theorem jc_c (d : Nat) (s : ByteArray) (c z : Nat) : (jc d s c z)[258]? = some (.int .i64 ((c : Nat) : Int)) := by
  unfold jc
  show (ints .u32 crt 256 ++ _)[256]? = _
  rw [List.getElem?_append_right (by rw [ints_len]; decide), ints_len]
  rfl
theorem jc_z (d : Nat) (s : ByteArray) (c z : Nat) : (jc d s c z)[259]? = some (.int .i64 ((z : Nat) : Int)) := by
  unfold jc
  show (ints .u32 crt 256 ++ _)[257]? = _
  rw [List.getElem?_append_right (by rw [ints_len]; decide), ints_len]
  rfl
theorem jc_get (d : Nat) (s : ByteArray) (c z k : Nat) (h : k < 258) (c' z' : Nat) : (jc d s c z)[k]? = (jc d s c' z')[k]? := by
  unfold jc
  match k, h with
  | 0, _ => rfl
  | 1, _ => rfl
  | k + 2, h =>
    show (ints .u32 crt 256 ++ _)[k]? = (ints .u32 crt 256 ++ _)[k]?
    rw [List.getElem?_append_left (by rw [ints_len]; omega), List.getElem?_append_left (by rw [ints_len]; omega)]
theorem jc_putc (d : Nat) (s : ByteArray) (c z c' : Nat) : patch (jc d s c z) 258 [.int .i64 ((c' : Nat) : Int)] = jc d s c' z := by
  apply List.ext_getElem?
  intro k
  rw [patch_get _ _ _ (by rw [jc_len]; show 258 + 1 ≤ 260; decide)]
  by_cases h : k < 258
  · rw [if_neg (by simp; omega)]
    exact jc_get _ _ _ _ _ h _ _
  · by_cases h2 : k = 258
    · subst h2
      rw [if_pos (by simp), jc_c]
      rfl
    · rw [if_neg (by simp; omega)]
      by_cases h3 : k = 259
      · subst h3
        rw [jc_z, jc_z]
      · rw [List.getElem?_eq_none (by rw [jc_len]; omega), List.getElem?_eq_none (by rw [jc_len]; omega)]
theorem jc_putz (d : Nat) (s : ByteArray) (c z z' : Nat) : patch (jc d s c z) 259 [.int .i64 ((z' : Nat) : Int)] = jc d s c z' := by
  apply List.ext_getElem?
  intro k
  rw [patch_get _ _ _ (by rw [jc_len]; show 259 + 1 ≤ 260; decide)]
  by_cases h : k < 258
  · rw [if_neg (by simp; omega)]
    exact jc_get _ _ _ _ _ h _ _
  · by_cases h2 : k = 259
    · subst h2
      rw [if_pos (by simp), jc_z]
      rfl
    · rw [if_neg (by simp; omega)]
      by_cases h3 : k = 258
      · subst h3
        rw [jc_c, jc_c]
      · rw [List.getElem?_eq_none (by rw [jc_len]; omega), List.getElem?_eq_none (by rw [jc_len]; omega)]
theorem Tb.jc {w : World} {j d c z : Nat} {s : ByteArray} (h : Mm w [(j, jc d s c z)]) : Tb j 2 w := ⟨(h.blk _ (List.mem_cons_self ..)).1, fun _ hi => h.get 0 rfl _ (jc_tab _ _ _ _ hi)⟩
theorem Mm.keep1 {w u : World} {g : Nat} {cs : List Value} (h : Mm w [(g, cs)]) (hs : w.heap.size ≤ u.heap.size) (hb : u.heap[g]? = w.heap[g]?) : Mm u [(g, cs)] :=
  ⟨fun p hp => by
    obtain rfl := List.mem_singleton.1 hp
    have hk := h.blk _ (List.mem_cons_self ..)
    refine ⟨Nat.lt_of_lt_of_le hk.1 hs, fun j v hv => ?_⟩
    have := hk.2 j v hv
    rw [World.cell?_of_block (a := ⟨g, j, none⟩) hb, World.frozen?_of_block (a := ⟨g, j, none⟩) hb]
    exact this, h.nd⟩
/-- An empty part. -/
def nilp (f : Nat → Nat) : Pt8 := ⟨0, 0, 0, 0, none, f⟩
theorem nilp_ok (f : Nat → Nat) (w : World) : Pok (nilp f) ∧ ((nilp f).p = none → (nilp f).cp = 0) ∧ (nilp f).rs w := ⟨⟨Bv.void _ _ _ _ _, Nat.le_refl _⟩, fun _ => rfl, Rs.void _ _ _ _⟩
theorem nilp_rq (f : Nat → Nat) (D : Dq) (w : World) : Rq (nilp f) D w := ⟨(nilp_ok f w).1, (nilp_ok f w).2.1, (nilp_ok f w).2.2, fun h => absurd h (by show ¬0 < 0; decide)⟩
theorem Nw.down {w u u' : World} {d mb rb m : Nat} {rf : Nat → Bool} (h : Nw w d mb rb rf m u) (hc : Chg (Dq.bl ⟨d, mb, rb, 0, [], rf⟩) u u') : Below w.heap.size w u' := by
  have h1 := h.two.nm
  have h2 := h.nr
  have h3 := h.nd
  refine h.two.b.trans (hc.toBelow (fun x hx => ?_) h.two.b.size)
  have : x = d ∨ x = mb ∨ x = rb := by simpa [Dq.bl] using hx
  omega
theorem fresh_append {w u : World} {d mb rb m : Nat} {rf : Nat → Bool} (h : Nw w d mb rb rf m u) (hr : rf 1 = false) (s : ByteArray) (hs : s.size ≤ 281474976710656) : Calls Tryz.prog 35 #[PT d 0, .string s, .slice none 0 0] u fun e u' => e = .returned (.int .i64 (if nmd s then 0 else 2)) ∧ Below w.heap.size w u' := by
  cases hn : nmd s with
  | true =>
    refine (Append_new_f ⟨d, mb, rb, 0, [], rf⟩ s hs (nilp (fun _ => 0)) u h.disk (show 0 + 1 < 4611686018427387904 by decide) (nilp_rq _ _ _) hr hn rfl (show 0 < 64 by decide) (show 0 ≤ 1048576 by decide)).mono fun e u' hh => ?_
    obtain ⟨e1, g, q2, v, _, _, e2⟩ := hh
    exact ⟨e1, h.down e2.2.1⟩
  | false => exact (Append_bad_f ⟨d, mb, rb, 0, [], rf⟩ s (nilp (fun _ => 0)) u h.disk (show 0 + 1 < 4611686018427387904 by decide) hr hn).mono fun e u' hh => ⟨hh.1, h.down hh.2.2.1⟩
theorem fresh_is {w u : World} {d mb rb m : Nat} {rf : Nat → Bool} (h : Nw w d mb rb rf m u) (hr : rf 1 = false) (s : ByteArray) (hs : s.size ≤ 281474976710656) {c : Bool} (hc : nmd s = c) {r : Int} (hx : (if c then (0 : Int) else 2) = r) : Calls Tryz.prog 35 #[PT d 0, .string s, .slice none 0 0] u fun e u' => e = .returned (.int .i64 r) ∧ Below w.heap.size w u' := by
  subst hc
  subst hx
  exact fresh_append h hr s hs
theorem Nw.up {w u u' : World} {d mb rb m : Nat} {rf : Nat → Bool} (h : Nw u d mb rb rf m u') (hb : Below w.heap.size w u) : Nw w d mb rb rf m u' := ⟨⟨hb.trans (h.two.b.mono hb.size), Nat.le_trans hb.size h.two.nm, h.two.mp⟩, h.nr, h.nd, h.cel, h.rm⟩
set_option maxHeartbeats 2000000 in
set_option maxRecDepth 100000 in
theorem jnamed_1 (s : ByteArray) (hs : s.size ≤ 281474976710656) (hn : nmd s = true) (w : World) :
    Calls Tryz.prog 166 #[.string s] w fun e w' => e = .returned (.bool true) ∧ Below w.heap.size w w' := by
  have H0 : Hid (_ ∧ _) := ⟨Mm.nil w, Below.refl w.heap.size w⟩
  go_enter Tryz.func166, Tryz.ntmps166
  refine wp_seq ?_
  refine sq_startW (l := [0]) rfl (fun u0 hu0 => ?_)
  have H1 : Hid (Mm u0 [] ∧ Below w.heap.size w u0) := by rw [hu0]; exact H0
  clear hu0 H0
  refine rest_set (d := 2) (v := .bool false) (w' := u0) rfl rfl rfl (rfl) ?_
  simp only [Act.put, sa, sz, ss]
  refine rest_nil (then_normal (wp_seq ?_))
  refine sq_start (l := [0, 1, 2, 3, 4, 5]) rfl ?_
  refine rest_enter (d := 6) (R := fun vv w' => ∃ d mb rb, vv = .tuple #[PT d 0, .int .i64 0] ∧ Nw w d mb rb (fun _ => false) 0 w') rfl rfl rfl (exec_call (args := #[.slice none 0 0]) rfl call8 rfl (mpn rfl)) (Calls.mono (New_nil u0) (fun e w2 hh => by obtain ⟨d, mb, rb, he, hI⟩ := hh; exact ⟨_, he, d, mb, rb, rfl, hI.up H1.out.2⟩)) ?_
  rintro _ w2 ⟨d, mb, rb, rfl, hI⟩
  have H2 : Hid (Mm w2 [] ∧ Nw w d mb rb (fun _ => false) 0 w2) := ⟨Mm.nil _, hI⟩
  clear hI H1
  simp only [Act.put, sa, sz, ss]
  refine rest_set (d := 5) (v := .tuple #[PT d 0, .int .i64 0]) (w' := w2) rfl rfl rfl (rfl) ?_
  simp only [Act.put, sa, sz, ss]
  refine rest_set (d := 7) (v := PT d 0) (w' := w2) rfl rfl rfl (by go_simp) ?_
  simp only [Act.put, sa, sz, ss]
  refine rest_set (d := 8) (v := .int .i64 0) (w' := w2) rfl rfl rfl (by go_simp) ?_
  simp only [Act.put, sa, sz, ss]
  refine rest_set (d := 3) (v := PT d 0) (w' := w2) rfl rfl rfl (rfl) ?_
  simp only [Act.put, sa, sz, ss]
  refine rest_set (d := 4) (v := .int .i64 0) (w' := w2) rfl rfl rfl (rfl) ?_
  simp only [Act.put, sa, sz, ss]
  refine rest_nil (then_normal (wp_seq ?_))
  refine sq_start (l := [0, 1, 2, 3, 4]) rfl ?_
  refine rest_set (d := 9) (v := PT d 0) (w' := w2) rfl rfl rfl (rfl) ?_
  simp only [Act.put, sa, sz, ss]
  refine rest_set (d := 10) (v := .string s) (w' := w2) rfl rfl rfl (rfl) ?_
  simp only [Act.put, sa, sz, ss]
  refine rest_enter (d := 11) (R := fun vv w' => vv = .int .i64 0 ∧ Below w.heap.size w w') rfl rfl rfl (exec_call (args := #[PT d 0, .string s, .slice none 0 0]) rfl call35 rfl (mpn rfl)) (Calls.mono (fresh_is H2.out.2 rfl s hs hn rfl) (fun e w2 hh => ⟨_, hh.1, rfl, hh.2⟩)) ?_
  rintro _ w3 ⟨rfl, hI⟩
  have H3 : Hid (Mm w3 [] ∧ Below w.heap.size w w3) := ⟨Mm.nil _, hI⟩
  clear hI H2
  simp only [Act.put, sa, sz, ss]
  refine rest_set (d := 12) (v := .bool true) (w' := w3) rfl rfl rfl (by kernel_rfl) ?_
  simp only [Act.put, sa, sz, ss]
  refine rest_set (d := 2) (v := .bool true) (w' := w3) rfl rfl rfl (rfl) ?_
  simp only [Act.put, sa, sz, ss]
  refine rest_nil (then_normal (wp_ret ?_))
  repeat (first | refine then_ret ?_ | refine block_ret ?_)
  refine bodyPost_ret (v := .bool true) (by simp [results, Tryz.results166, go_sem, *]) rfl ?_
  exact ⟨rfl, H3.out.2⟩
set_option maxHeartbeats 2000000 in
set_option maxRecDepth 100000 in
theorem jnamed_0 (s : ByteArray) (hs : s.size ≤ 281474976710656) (hn : nmd s = false) (w : World) :
    Calls Tryz.prog 166 #[.string s] w fun e w' => e = .returned (.bool false) ∧ Below w.heap.size w w' := by
  have H0 : Hid (_ ∧ _) := ⟨Mm.nil w, Below.refl w.heap.size w⟩
  go_enter Tryz.func166, Tryz.ntmps166
  refine wp_seq ?_
  refine sq_startW (l := [0]) rfl (fun u0 hu0 => ?_)
  have H1 : Hid (Mm u0 [] ∧ Below w.heap.size w u0) := by rw [hu0]; exact H0
  clear hu0 H0
  refine rest_set (d := 2) (v := .bool false) (w' := u0) rfl rfl rfl (rfl) ?_
  simp only [Act.put, sa, sz, ss]
  refine rest_nil (then_normal (wp_seq ?_))
  refine sq_start (l := [0, 1, 2, 3, 4, 5]) rfl ?_
  refine rest_enter (d := 6) (R := fun vv w' => ∃ d mb rb, vv = .tuple #[PT d 0, .int .i64 0] ∧ Nw w d mb rb (fun _ => false) 0 w') rfl rfl rfl (exec_call (args := #[.slice none 0 0]) rfl call8 rfl (mpn rfl)) (Calls.mono (New_nil u0) (fun e w2 hh => by obtain ⟨d, mb, rb, he, hI⟩ := hh; exact ⟨_, he, d, mb, rb, rfl, hI.up H1.out.2⟩)) ?_
  rintro _ w2 ⟨d, mb, rb, rfl, hI⟩
  have H2 : Hid (Mm w2 [] ∧ Nw w d mb rb (fun _ => false) 0 w2) := ⟨Mm.nil _, hI⟩
  clear hI H1
  simp only [Act.put, sa, sz, ss]
  refine rest_set (d := 5) (v := .tuple #[PT d 0, .int .i64 0]) (w' := w2) rfl rfl rfl (rfl) ?_
  simp only [Act.put, sa, sz, ss]
  refine rest_set (d := 7) (v := PT d 0) (w' := w2) rfl rfl rfl (by go_simp) ?_
  simp only [Act.put, sa, sz, ss]
  refine rest_set (d := 8) (v := .int .i64 0) (w' := w2) rfl rfl rfl (by go_simp) ?_
  simp only [Act.put, sa, sz, ss]
  refine rest_set (d := 3) (v := PT d 0) (w' := w2) rfl rfl rfl (rfl) ?_
  simp only [Act.put, sa, sz, ss]
  refine rest_set (d := 4) (v := .int .i64 0) (w' := w2) rfl rfl rfl (rfl) ?_
  simp only [Act.put, sa, sz, ss]
  refine rest_nil (then_normal (wp_seq ?_))
  refine sq_start (l := [0, 1, 2, 3, 4]) rfl ?_
  refine rest_set (d := 9) (v := PT d 0) (w' := w2) rfl rfl rfl (rfl) ?_
  simp only [Act.put, sa, sz, ss]
  refine rest_set (d := 10) (v := .string s) (w' := w2) rfl rfl rfl (rfl) ?_
  simp only [Act.put, sa, sz, ss]
  refine rest_enter (d := 11) (R := fun vv w' => vv = .int .i64 2 ∧ Below w.heap.size w w') rfl rfl rfl (exec_call (args := #[PT d 0, .string s, .slice none 0 0]) rfl call35 rfl (mpn rfl)) (Calls.mono (fresh_is H2.out.2 rfl s hs hn rfl) (fun e w2 hh => ⟨_, hh.1, rfl, hh.2⟩)) ?_
  rintro _ w3 ⟨rfl, hI⟩
  have H3 : Hid (Mm w3 [] ∧ Below w.heap.size w w3) := ⟨Mm.nil _, hI⟩
  clear hI H2
  simp only [Act.put, sa, sz, ss]
  refine rest_set (d := 12) (v := .bool false) (w' := w3) rfl rfl rfl (by kernel_rfl) ?_
  simp only [Act.put, sa, sz, ss]
  refine rest_set (d := 2) (v := .bool false) (w' := w3) rfl rfl rfl (rfl) ?_
  simp only [Act.put, sa, sz, ss]
  refine rest_nil (then_normal (wp_ret ?_))
  repeat (first | refine then_ret ?_ | refine block_ret ?_)
  refine bodyPost_ret (v := .bool false) (by simp [results, Tryz.results166, go_sem, *]) rfl ?_
  exact ⟨rfl, H3.out.2⟩
theorem jnamed_any (s : ByteArray) (hs : s.size ≤ 281474976710656) (w : World) : Calls Tryz.prog 166 #[.string s] w fun e w' => e = .returned (.bool (nmd s)) ∧ Below w.heap.size w w' := by
  cases hn : nmd s with
  | true => exact jnamed_1 s hs hn w
  | false => exact jnamed_0 s hs hn w
theorem jnm_is (s : ByteArray) (hs : s.size ≤ 281474976710656) (c : Bool) (hn : nmd s = c) (w : World) : Calls Tryz.prog 166 #[.string s] w fun e w' => e = .returned (.bool c) ∧ Below w.heap.size w w' := by
  rw [← hn]
  exact jnamed_any s hs w
set_option maxHeartbeats 2000000 in
set_option maxRecDepth 100000 in
theorem jcontent_hit (d : Nat) (s : ByteArray) (hs : s.size ≤ 281474976710656) (hn : nmd s = true) (I1 : Pt8 → World → Prop) (w : World) (s1z : ∀ q u u', I1 q u → Below u.heap.size u u' → I1 q u') (hrdz : ∀ u, Below w.heap.size w u → Calls Tryz.prog 100 #[PT d 0, .string s] u fun e u' => ∃ q : Pt8, e = .returned (.tuple #[.slice q.p q.n q.cp, .int .i64 0]) ∧ I1 q u') :
    Calls Tryz.prog 147 #[PT d 0, .string s] w fun e w' => ∃ q : Pt8, e = .returned (.tuple #[.slice q.p q.n q.cp, .int .i64 0]) ∧ I1 q w' := by
  have H0 : Hid (_ ∧ _) := ⟨Mm.nil w, Below.refl w.heap.size w⟩
  have s1 : Hid _ := s1z
  have hrd : Hid _ := hrdz
  clear s1z hrdz
  go_enter Tryz.func147, Tryz.ntmps147
  refine wp_seq ?_
  refine sq_startW (l := [0, 1]) rfl (fun u0 hu0 => ?_)
  have H1 : Hid (Mm u0 [] ∧ Below w.heap.size w u0) := by rw [hu0]; exact H0
  clear hu0 H0
  refine rest_set (d := 4) (v := .slice none 0 0) (w' := u0) rfl rfl rfl (rfl) ?_
  simp only [Act.put, sa, sz, ss]
  refine rest_set (d := 5) (v := .int .i64 0) (w' := u0) rfl rfl rfl (rfl) ?_
  simp only [Act.put, sa, sz, ss]
  refine rest_nil (then_normal (wp_seq ?_))
  refine sq_start (l := [0, 1, 2, 3, 4, 5, 6, 7]) rfl ?_
  refine rest_set (d := 9) (v := PT d 0) (w' := u0) rfl rfl rfl (rfl) ?_
  simp only [Act.put, sa, sz, ss]
  refine rest_set (d := 10) (v := .string s) (w' := u0) rfl rfl rfl (rfl) ?_
  simp only [Act.put, sa, sz, ss]
  refine rest_enter (d := 11) (R := fun vv w' => ∃ q : Pt8, vv = .tuple #[.slice q.p q.n q.cp, .int .i64 0] ∧ I1 q w') rfl rfl rfl (exec_call (args := #[PT d 0, .string s]) rfl call100 rfl (mpn rfl)) (Calls.mono (hrd.out u0 H1.out.2) (fun e w2 hh => by obtain ⟨q, he, hI⟩ := hh; exact ⟨_, he, q, rfl, hI⟩)) ?_
  rintro _ w2 ⟨q, rfl, hI⟩
  have H2 : Hid (Mm w2 [] ∧ I1 q w2) := ⟨Mm.nil _, hI⟩
  clear hI H1
  simp only [Act.put, sa, sz, ss]
  refine rest_set (d := 8) (v := .tuple #[.slice q.p q.n q.cp, .int .i64 0]) (w' := w2) rfl rfl rfl (rfl) ?_
  simp only [Act.put, sa, sz, ss]
  refine rest_set (d := 12) (v := .slice q.p q.n q.cp) (w' := w2) rfl rfl rfl (by go_simp) ?_
  simp only [Act.put, sa, sz, ss]
  refine rest_set (d := 13) (v := .int .i64 0) (w' := w2) rfl rfl rfl (by go_simp) ?_
  simp only [Act.put, sa, sz, ss]
  refine rest_set (d := 6) (v := .slice q.p q.n q.cp) (w' := w2) rfl rfl rfl (rfl) ?_
  simp only [Act.put, sa, sz, ss]
  refine rest_set (d := 7) (v := .int .i64 0) (w' := w2) rfl rfl rfl (rfl) ?_
  simp only [Act.put, sa, sz, ss]
  refine rest_nil (then_normal ?_)
  refine wp_seq (wp_seq ?_)
  refine sq_start (l := [0, 1]) rfl ?_
  refine rest_set (d := 14) (v := .int .i64 0) (w' := w2) rfl rfl rfl (rfl) ?_
  simp only [Act.put, sa, sz, ss]
  refine rest_set (d := 15) (v := .bool false) (w' := w2) rfl rfl rfl (by kernel_rfl) ?_
  simp only [Act.put, sa, sz, ss]
  refine rest_nil (then_normal ?_)
  refine wp_cond_false rfl (wp_skip ?_)
  refine then_normal (wp_seq (wp_seq ?_))
  refine sq_start (l := [0, 1, 2]) rfl ?_
  refine rest_set (d := 17) (v := .string s) (w' := w2) rfl rfl rfl (rfl) ?_
  simp only [Act.put, sa, sz, ss]
  refine rest_enter (d := 18) (R := fun vv w' => vv = .bool true ∧ Below w2.heap.size w2 w') rfl rfl rfl (exec_call (args := #[.string s]) rfl call166 rfl (mpn rfl)) (Calls.mono (jnm_is s hs true hn w2) (fun e w2 hh => ⟨_, hh.1, rfl, hh.2⟩)) ?_
  rintro _ w3 ⟨rfl, hb⟩
  have H3 : Hid (Mm w3 [] ∧ I1 q w3) := ⟨H2.out.1.below hb, s1.out q _ _ H2.out.2 (hb)⟩
  clear hb
  clear H2
  simp only [Act.put, sa, sz, ss]
  refine rest_set (d := 19) (v := .bool false) (w' := w3) rfl rfl rfl (by go_simp) ?_
  simp only [Act.put, sa, sz, ss]
  refine rest_nil (then_normal ?_)
  refine wp_cond_false rfl (wp_skip ?_)
  refine then_normal (wp_seq (wp_seq ?_))
  refine sq_start (l := [0, 1]) rfl ?_
  refine rest_set (d := 20) (v := .int .i64 0) (w' := w3) rfl rfl rfl (rfl) ?_
  simp only [Act.put, sa, sz, ss]
  refine rest_set (d := 21) (v := .bool false) (w' := w3) rfl rfl rfl (by kernel_rfl) ?_
  simp only [Act.put, sa, sz, ss]
  refine rest_nil (then_normal ?_)
  refine wp_cond_false rfl (wp_skip ?_)
  refine then_normal (wp_seq ?_)
  refine sq_start (l := [0, 1, 2, 3]) rfl ?_
  refine rest_set (d := 22) (v := .slice q.p q.n q.cp) (w' := w3) rfl rfl rfl (rfl) ?_
  simp only [Act.put, sa, sz, ss]
  refine rest_set (d := 23) (v := .int .i64 0) (w' := w3) rfl rfl rfl (rfl) ?_
  simp only [Act.put, sa, sz, ss]
  refine rest_set (d := 4) (v := .slice q.p q.n q.cp) (w' := w3) rfl rfl rfl (rfl) ?_
  simp only [Act.put, sa, sz, ss]
  refine rest_set (d := 5) (v := .int .i64 0) (w' := w3) rfl rfl rfl (rfl) ?_
  simp only [Act.put, sa, sz, ss]
  refine rest_nil (then_normal (wp_ret ?_))
  repeat (first | refine then_ret ?_ | refine block_ret ?_)
  refine bodyPost_ret (v := .tuple #[.slice q.p q.n q.cp, .int .i64 0]) (by simp [results, Tryz.results147, go_sem, *]) rfl ?_
  exact ⟨_, rfl, H3.out.2⟩
set_option maxHeartbeats 2000000 in
set_option maxRecDepth 100000 in
theorem jcontent_miss (d : Nat) (s : ByteArray) (hs : s.size ≤ 281474976710656) (hn : nmd s = true) (w : World) (hrdz : ∀ u, Below w.heap.size w u → Calls Tryz.prog 100 #[PT d 0, .string s] u fun e u' => e = .returned (.tuple #[.slice none 0 0, .int .i64 6]) ∧ Below u.heap.size u u') :
    Calls Tryz.prog 147 #[PT d 0, .string s] w fun e w' => e = .returned (.tuple #[.slice none 0 0, .int .i64 0]) ∧ Below w.heap.size w w' := by
  have H0 : Hid (_ ∧ _) := ⟨Mm.nil w, Below.refl w.heap.size w⟩
  have hrd : Hid _ := hrdz
  clear hrdz
  go_enter Tryz.func147, Tryz.ntmps147
  refine wp_seq ?_
  refine sq_startW (l := [0, 1]) rfl (fun u0 hu0 => ?_)
  have H1 : Hid (Mm u0 [] ∧ Below w.heap.size w u0) := by rw [hu0]; exact H0
  clear hu0 H0
  refine rest_set (d := 4) (v := .slice none 0 0) (w' := u0) rfl rfl rfl (rfl) ?_
  simp only [Act.put, sa, sz, ss]
  refine rest_set (d := 5) (v := .int .i64 0) (w' := u0) rfl rfl rfl (rfl) ?_
  simp only [Act.put, sa, sz, ss]
  refine rest_nil (then_normal (wp_seq ?_))
  refine sq_start (l := [0, 1, 2, 3, 4, 5, 6, 7]) rfl ?_
  refine rest_set (d := 9) (v := PT d 0) (w' := u0) rfl rfl rfl (rfl) ?_
  simp only [Act.put, sa, sz, ss]
  refine rest_set (d := 10) (v := .string s) (w' := u0) rfl rfl rfl (rfl) ?_
  simp only [Act.put, sa, sz, ss]
  refine rest_enter (d := 11) (R := fun vv w' => vv = .tuple #[.slice none 0 0, .int .i64 6] ∧ Below u0.heap.size u0 w') rfl rfl rfl (exec_call (args := #[PT d 0, .string s]) rfl call100 rfl (mpn rfl)) (Calls.mono (hrd.out u0 H1.out.2) (fun e w2 hh => ⟨_, hh.1, rfl, hh.2⟩)) ?_
  rintro _ w2 ⟨rfl, hb⟩
  have H2 : Hid (Mm w2 [] ∧ Below w.heap.size w w2) := ⟨H1.out.1.below hb, H1.out.2.trans (hb.mono H1.out.2.size)⟩
  clear hb
  clear H1
  simp only [Act.put, sa, sz, ss]
  refine rest_set (d := 8) (v := .tuple #[.slice none 0 0, .int .i64 6]) (w' := w2) rfl rfl rfl (rfl) ?_
  simp only [Act.put, sa, sz, ss]
  refine rest_set (d := 12) (v := .slice none 0 0) (w' := w2) rfl rfl rfl (by go_simp) ?_
  simp only [Act.put, sa, sz, ss]
  refine rest_set (d := 13) (v := .int .i64 6) (w' := w2) rfl rfl rfl (by go_simp) ?_
  simp only [Act.put, sa, sz, ss]
  refine rest_set (d := 6) (v := .slice none 0 0) (w' := w2) rfl rfl rfl (rfl) ?_
  simp only [Act.put, sa, sz, ss]
  refine rest_set (d := 7) (v := .int .i64 6) (w' := w2) rfl rfl rfl (rfl) ?_
  simp only [Act.put, sa, sz, ss]
  refine rest_nil (then_normal ?_)
  refine wp_seq (wp_seq ?_)
  refine sq_start (l := [0, 1]) rfl ?_
  refine rest_set (d := 14) (v := .int .i64 6) (w' := w2) rfl rfl rfl (rfl) ?_
  simp only [Act.put, sa, sz, ss]
  refine rest_set (d := 15) (v := .bool false) (w' := w2) rfl rfl rfl (by kernel_rfl) ?_
  simp only [Act.put, sa, sz, ss]
  refine rest_nil (then_normal ?_)
  refine wp_cond_false rfl (wp_skip ?_)
  refine then_normal (wp_seq (wp_seq ?_))
  refine sq_start (l := [0, 1, 2]) rfl ?_
  refine rest_set (d := 17) (v := .string s) (w' := w2) rfl rfl rfl (rfl) ?_
  simp only [Act.put, sa, sz, ss]
  refine rest_enter (d := 18) (R := fun vv w' => vv = .bool true ∧ Below w2.heap.size w2 w') rfl rfl rfl (exec_call (args := #[.string s]) rfl call166 rfl (mpn rfl)) (Calls.mono (jnm_is s hs true hn w2) (fun e w2 hh => ⟨_, hh.1, rfl, hh.2⟩)) ?_
  rintro _ w3 ⟨rfl, hb⟩
  have H3 : Hid (Mm w3 [] ∧ Below w.heap.size w w3) := ⟨H2.out.1.below hb, H2.out.2.trans (hb.mono H2.out.2.size)⟩
  clear hb
  clear H2
  simp only [Act.put, sa, sz, ss]
  refine rest_set (d := 19) (v := .bool false) (w' := w3) rfl rfl rfl (by go_simp) ?_
  simp only [Act.put, sa, sz, ss]
  refine rest_nil (then_normal ?_)
  refine wp_cond_false rfl (wp_skip ?_)
  refine then_normal (wp_seq (wp_seq ?_))
  refine sq_start (l := [0, 1]) rfl ?_
  refine rest_set (d := 20) (v := .int .i64 6) (w' := w3) rfl rfl rfl (rfl) ?_
  simp only [Act.put, sa, sz, ss]
  refine rest_set (d := 21) (v := .bool true) (w' := w3) rfl rfl rfl (by kernel_rfl) ?_
  simp only [Act.put, sa, sz, ss]
  refine rest_nil (then_normal ?_)
  refine wp_cond_true rfl (wp_seq ?_)
  refine sq_start (l := [0, 1]) rfl ?_
  refine rest_set (d := 4) (v := .slice none 0 0) (w' := w3) rfl rfl rfl (rfl) ?_
  simp only [Act.put, sa, sz, ss]
  refine rest_set (d := 5) (v := .int .i64 0) (w' := w3) rfl rfl rfl (rfl) ?_
  simp only [Act.put, sa, sz, ss]
  refine rest_nil (then_normal (wp_ret ?_))
  repeat (first | refine then_ret ?_ | refine block_ret ?_)
  refine bodyPost_ret (v := .tuple #[.slice none 0 0, .int .i64 0]) (by simp [results, Tryz.results147, go_sem, *]) rfl ?_
  exact ⟨rfl, H3.out.2⟩
/-- A file's content, or none. -/
def cnN : Option Fq → Nat
  | some f => f.N
  | none => 0
def cnC : Option Fq → Nat → Nat
  | some f => f.C
  | none => fun _ => 0
/-- A part that was made behind w. -/
structure Pw (w : World) (n : Nat) (f : Nat → Nat) (q : Pt8) (u : World) : Prop where
  b : Below w.heap.size w u
  ok : Pok q
  no : q.p = none → q.cp = 0
  rs : q.rs u
  n : q.n = n
  f : q.f = f
  gb : 0 < q.n → w.heap.size ≤ q.gb
theorem Pw.step {w u u' : World} {n : Nat} {f : Nat → Nat} {q : Pt8} (h : Pw w n f q u) (hb : Below u.heap.size u u') : Pw w n f q u' := ⟨h.b.trans (hb.mono h.b.size), h.ok, h.no, h.rs.below hb, h.n, h.f, h.gb⟩
theorem jcontent_f (D : Dq) (s : ByteArray) (hs : s.size ≤ 281474976710656) (hn : nmd s = true) (w : World) (h : DOk w D) : Calls Tryz.prog 147 #[PT D.d 0, .string s] w fun e w' => ∃ q : Pt8, e = .returned (.tuple #[.slice q.p q.n q.cp, .int .i64 0]) ∧ Pw w (cnN (lk D.fs s)) (cnC (lk D.fs s)) q w' := by
  have hsz : s.size ≤ maxLen := by unfold maxLen; omega
  cases hl : lk D.fs s with
  | none =>
    refine (jcontent_miss D.d s hs hn w (fun u hu => ?_)).mono fun e w' hh => ⟨nilp (fun _ => 0), hh.1, ⟨hh.2, (nilp_ok _ w').1, (nilp_ok _ w').2.1, (nilp_ok _ w').2.2, rfl, rfl, fun h0 => absurd h0 (by show ¬0 < 0; decide)⟩⟩
    have e := Read_f D s hsz u (h.below hu)
    rw [hl] at e
    exact e
  | some f =>
    refine jcontent_hit D.d s hs hn (fun q u => Pw w f.N f.C q u) w (fun q u u' hu hb => hu.step hb) (fun u hu => ?_)
    have e := Read_f D s hsz u (h.below hu)
    rw [hl] at e
    refine e.mono fun e u' hh => ?_
    obtain ⟨v, e1, e2⟩ := hh
    obtain ⟨q, t1, t2, t3, t4, t5, t6, t7⟩ := (Cw.up hu e2).part
    exact ⟨q, by rw [e1, t1], hu.trans (e2.b.mono hu.size), t2, t3, t6, t4, t5, t7⟩
end Wi
end Rg
end Go.Proofs.YtmcpagjhpfbpgaaGreatDoor
end
section
namespace Go.Proofs.YtmcpagjhpfbpgaaGreatDoor
open Go.RowKit
namespace Rg
namespace Wi
theorem call37 : ∀ args w, (callFunc 37 args).run Tryz.prog w = .ok (.enter 37 args) w := by intro args w; go_simp
theorem call101 : ∀ args w, (callFunc 101 args).run Tryz.prog w = .ok (.enter 101 args) w := by intro args w; go_simp
theorem call105 : ∀ args w, (callFunc 105 args).run Tryz.prog w = .ok (.enter 105 args) w := by intro args w; go_simp
set_option maxRecDepth 100000
set_option maxHeartbeats 2000000 in
set_option maxRecDepth 100000 in
theorem jmade (j d c z : Nat) (s : ByteArray) (w : World) (hm : Mm w [(j, jc d s c z)]) :
    Calls Tryz.prog 105 #[PT j 0] w fun e w' => e = .returned (.bool true) ∧ Below w.heap.size w w' := by
  have H0 : Hid (_ ∧ _) := ⟨hm, Below.refl w.heap.size w⟩
  clear hm
  go_enter Tryz.func105, Tryz.ntmps105
  refine wp_seq ?_
  refine sq_startW (l := [0]) rfl (fun u0 hu0 => ?_)
  have H1 : Hid (Mm u0 [(j, jc d s c z)] ∧ Below w.heap.size w u0) := by rw [hu0]; exact H0
  clear hu0 H0
  refine rest_set (d := 2) (v := .bool false) (w' := u0) rfl rfl rfl (rfl) ?_
  simp only [Act.put, sa, sz, ss]
  refine rest_nil (then_normal (wp_seq ?_))
  refine sq_start (l := [0, 1, 2, 3, 4, 5, 6, 7, 8, 9]) rfl ?_
  refine rest_set (d := 3) (v := PT j 0) (w' := u0) rfl rfl rfl (rfl) ?_
  simp only [Act.put, sa, sz, ss]
  refine rest_set (d := 4) (v := .bool true) (w' := u0) rfl rfl rfl (by go_simp) ?_
  simp only [Act.put, sa, sz, ss]
  refine rest_set (d := 5) (v := .bool true) (w' := u0) rfl rfl rfl (rfl) ?_
  simp only [Act.put, sa, sz, ss]
  refine rest_set (d := 6) (v := PT j 0) (w' := u0) rfl rfl rfl (rfl) ?_
  simp only [Act.put, sa, sz, ss]
  refine rest_set (d := 7) (v := PT j 0) (w' := u0) rfl rfl rfl (by go_simp) ?_
  simp only [Act.put, sa, sz, ss]
  refine rest_set (d := 8) (v := PT j 0) (w' := u0) rfl rfl rfl (by go_simp) ?_
  simp only [Act.put, sa, sz, ss]
  refine rest_set (d := 9) (v := PT d 0) (w' := u0) rfl rfl rfl (ex_loadC H1.out.1 0 rfl rfl rfl Tryz.isAgg25 (rfl)) ?_
  simp only [Act.put, sa, sz, ss]
  refine rest_set (d := 10) (v := .bool true) (w' := u0) rfl rfl rfl (by go_simp) ?_
  simp only [Act.put, sa, sz, ss]
  refine rest_set (d := 11) (v := .bool true) (w' := u0) rfl rfl rfl (by go_simp) ?_
  simp only [Act.put, sa, sz, ss]
  refine rest_set (d := 2) (v := .bool true) (w' := u0) rfl rfl rfl (rfl) ?_
  simp only [Act.put, sa, sz, ss]
  refine rest_nil (then_normal (wp_ret ?_))
  repeat (first | refine then_ret ?_ | refine block_ret ?_)
  refine bodyPost_ret (v := .bool true) (by simp [results, Tryz.results105, go_sem, *]) rfl ?_
  exact ⟨rfl, H1.out.2⟩
set_option maxHeartbeats 2000000 in
set_option maxRecDepth 100000 in
theorem jsync_none (j d c z : Nat) (s : ByteArray) (m : Nat) (hm0 : m = 0) (w : World) (hm : Mm w [(j, jc d s c z)]) (hpez : ∀ u, Below w.heap.size w u → Calls Tryz.prog 101 #[PT d 0, .string s] u fun e u' => e = .returned (.int .i64 ((m : Nat) : Int)) ∧ Below u.heap.size u u') :
    Calls Tryz.prog 49 #[PT j 0] w fun e w' => e = .returned (.int .i64 0) ∧ Below w.heap.size w w' := by
  have H0 : Hid (_ ∧ _) := ⟨hm, Below.refl w.heap.size w⟩
  clear hm
  have hpe : Hid _ := hpez
  clear hpez
  go_enter Tryz.func49, Tryz.ntmps49
  refine wp_seq ?_
  refine sq_startW (l := [0]) rfl (fun u0 hu0 => ?_)
  have H1 : Hid (Mm u0 [(j, jc d s c z)] ∧ Below w.heap.size w u0) := by rw [hu0]; exact H0
  clear hu0 H0
  refine rest_set (d := 2) (v := .int .i64 0) (w' := u0) rfl rfl rfl (rfl) ?_
  simp only [Act.put, sa, sz, ss]
  refine rest_nil (then_normal ?_)
  refine wp_seq (wp_seq ?_)
  refine sq_start (l := [0, 1, 2]) rfl ?_
  refine rest_set (d := 3) (v := PT j 0) (w' := u0) rfl rfl rfl (rfl) ?_
  simp only [Act.put, sa, sz, ss]
  refine rest_enter (d := 4) (R := fun vv w' => vv = .bool true ∧ Below u0.heap.size u0 w') rfl rfl rfl (exec_call (args := #[PT j 0]) rfl call105 rfl (mpn rfl)) (Calls.mono (jmade j d c z s u0 (H1.out.1.one 0 rfl)) (fun e w2 hh => ⟨_, hh.1, rfl, hh.2⟩)) ?_
  rintro _ w2 ⟨rfl, hb⟩
  have H2 : Hid (Mm w2 [(j, jc d s c z)] ∧ Below w.heap.size w w2) := ⟨H1.out.1.below hb, H1.out.2.trans (hb.mono H1.out.2.size)⟩
  clear hb
  clear H1
  simp only [Act.put, sa, sz, ss]
  refine rest_set (d := 5) (v := .bool false) (w' := w2) rfl rfl rfl (by go_simp) ?_
  simp only [Act.put, sa, sz, ss]
  refine rest_nil (then_normal ?_)
  refine wp_cond_false rfl (wp_skip ?_)
  refine then_normal (wp_seq (wp_seq ?_))
  refine walk_anyB 8 [.quiet (PT j 0), .quiet (PT j 0), .quiet (PT j 0), .quiet (PT d 0), .quiet (PT j 0), .quiet (PT j 0), .quiet (PT j 1), .quiet (.string s)] H2 ?ho3 ?he3
  case ho3 => exact ak (fun _ => ⟨rfl, fun _ _ => rfl⟩) (ak (by refine fun γ => ⟨rfl, fun w' h => ?_⟩; clear h; go_simp) (ak (by refine fun γ => ⟨rfl, fun w' h => ?_⟩; clear h; go_simp) (ak (fun γ => ⟨rfl, fun w' h => ex_loadC h 0 rfl rfl rfl Tryz.isAgg25 (rfl)⟩) (ak (fun _ => ⟨rfl, fun _ _ => rfl⟩) (ak (by refine fun γ => ⟨rfl, fun w' h => ?_⟩; clear h; go_simp) (ak (by refine fun γ => ⟨rfl, fun w' h => ?_⟩; clear h; go_simp) (ak (fun γ => ⟨rfl, fun w' h => ex_loadC h 0 rfl rfl rfl Tryz.isAgg9 (rfl)⟩) trivial)))))))
  intro _ w3 H3
  clear H2
  refine rest_at (l := [8, 9]) rfl ?_
  refine rest_enter (d := 14) (R := fun vv w' => vv = .int .i64 ((m : Nat) : Int) ∧ Below w3.heap.size w3 w') rfl rfl rfl (exec_call (args := #[PT d 0, .string s]) rfl call101 rfl (mpn rfl)) (Calls.mono (hpe.out w3 H3.out.2) (fun e w2 hh => ⟨_, hh.1, rfl, hh.2⟩)) ?_
  rintro _ w4 ⟨rfl, hb⟩
  have H4 : Hid (Mm w4 [(j, jc d s c z)] ∧ Below w.heap.size w w4) := ⟨H3.out.1.below hb, H3.out.2.trans (hb.mono H3.out.2.size)⟩
  clear hb
  clear H3
  simp only [Act.put, sa, sz, ss]
  refine rest_set (d := 15) (v := .bool true) (w' := w4) rfl rfl rfl (by go_simp <;> omega) ?_
  simp only [Act.put, sa, sz, ss]
  refine rest_nil (then_normal ?_)
  refine wp_cond_true rfl (wp_seq ?_)
  refine sq_start (l := [0]) rfl ?_
  refine rest_set (d := 2) (v := .int .i64 0) (w' := w4) rfl rfl rfl (rfl) ?_
  simp only [Act.put, sa, sz, ss]
  refine rest_nil (then_normal (wp_ret ?_))
  repeat (first | refine then_ret ?_ | refine block_ret ?_)
  refine bodyPost_ret (v := .int .i64 0) (by simp [results, Tryz.results49, go_sem, *]) rfl ?_
  exact ⟨rfl, H4.out.2⟩
set_option maxHeartbeats 2000000 in
set_option maxRecDepth 100000 in
theorem jsync_some (j d c z : Nat) (s : ByteArray) (m : Nat) (hm0 : 0 < m) (r : Int) (I1 : World → Prop) (w : World) (hm : Mm w [(j, jc d s c z)]) (hpez : ∀ u, Below w.heap.size w u → Calls Tryz.prog 101 #[PT d 0, .string s] u fun e u' => e = .returned (.int .i64 ((m : Nat) : Int)) ∧ Below u.heap.size u u') (s1z : ∀ u u', I1 u → Below u.heap.size u u' → I1 u') (hsyz : ∀ u, Below w.heap.size w u → Calls Tryz.prog 37 #[PT d 0, .string s] u fun e u' => e = .returned (.int .i64 r) ∧ I1 u') :
    Calls Tryz.prog 49 #[PT j 0] w fun e w' => e = .returned (.int .i64 r) ∧ I1 w' := by
  have H0 : Hid (_ ∧ _) := ⟨hm, Below.refl w.heap.size w⟩
  clear hm
  have hpe : Hid _ := hpez
  clear hpez
  have s1 : Hid _ := s1z
  have hsy : Hid _ := hsyz
  clear s1z hsyz
  go_enter Tryz.func49, Tryz.ntmps49
  refine wp_seq ?_
  refine sq_startW (l := [0]) rfl (fun u0 hu0 => ?_)
  have H1 : Hid (Mm u0 [(j, jc d s c z)] ∧ Below w.heap.size w u0) := by rw [hu0]; exact H0
  clear hu0 H0
  refine rest_set (d := 2) (v := .int .i64 0) (w' := u0) rfl rfl rfl (rfl) ?_
  simp only [Act.put, sa, sz, ss]
  refine rest_nil (then_normal ?_)
  refine wp_seq (wp_seq ?_)
  refine sq_start (l := [0, 1, 2]) rfl ?_
  refine rest_set (d := 3) (v := PT j 0) (w' := u0) rfl rfl rfl (rfl) ?_
  simp only [Act.put, sa, sz, ss]
  refine rest_enter (d := 4) (R := fun vv w' => vv = .bool true ∧ Below u0.heap.size u0 w') rfl rfl rfl (exec_call (args := #[PT j 0]) rfl call105 rfl (mpn rfl)) (Calls.mono (jmade j d c z s u0 (H1.out.1.one 0 rfl)) (fun e w2 hh => ⟨_, hh.1, rfl, hh.2⟩)) ?_
  rintro _ w2 ⟨rfl, hb⟩
  have H2 : Hid (Mm w2 [(j, jc d s c z)] ∧ Below w.heap.size w w2) := ⟨H1.out.1.below hb, H1.out.2.trans (hb.mono H1.out.2.size)⟩
  clear hb
  clear H1
  simp only [Act.put, sa, sz, ss]
  refine rest_set (d := 5) (v := .bool false) (w' := w2) rfl rfl rfl (by go_simp) ?_
  simp only [Act.put, sa, sz, ss]
  refine rest_nil (then_normal ?_)
  refine wp_cond_false rfl (wp_skip ?_)
  refine then_normal (wp_seq (wp_seq ?_))
  refine walk_anyB 8 [.quiet (PT j 0), .quiet (PT j 0), .quiet (PT j 0), .quiet (PT d 0), .quiet (PT j 0), .quiet (PT j 0), .quiet (PT j 1), .quiet (.string s)] H2 ?ho3 ?he3
  case ho3 => exact ak (fun _ => ⟨rfl, fun _ _ => rfl⟩) (ak (by refine fun γ => ⟨rfl, fun w' h => ?_⟩; clear h; go_simp) (ak (by refine fun γ => ⟨rfl, fun w' h => ?_⟩; clear h; go_simp) (ak (fun γ => ⟨rfl, fun w' h => ex_loadC h 0 rfl rfl rfl Tryz.isAgg25 (rfl)⟩) (ak (fun _ => ⟨rfl, fun _ _ => rfl⟩) (ak (by refine fun γ => ⟨rfl, fun w' h => ?_⟩; clear h; go_simp) (ak (by refine fun γ => ⟨rfl, fun w' h => ?_⟩; clear h; go_simp) (ak (fun γ => ⟨rfl, fun w' h => ex_loadC h 0 rfl rfl rfl Tryz.isAgg9 (rfl)⟩) trivial)))))))
  intro _ w3 H3
  clear H2
  refine rest_at (l := [8, 9]) rfl ?_
  refine rest_enter (d := 14) (R := fun vv w' => vv = .int .i64 ((m : Nat) : Int) ∧ Below w3.heap.size w3 w') rfl rfl rfl (exec_call (args := #[PT d 0, .string s]) rfl call101 rfl (mpn rfl)) (Calls.mono (hpe.out w3 H3.out.2) (fun e w2 hh => ⟨_, hh.1, rfl, hh.2⟩)) ?_
  rintro _ w4 ⟨rfl, hb⟩
  have H4 : Hid (Mm w4 [(j, jc d s c z)] ∧ Below w.heap.size w w4) := ⟨H3.out.1.below hb, H3.out.2.trans (hb.mono H3.out.2.size)⟩
  clear hb
  clear H3
  simp only [Act.put, sa, sz, ss]
  refine rest_set (d := 15) (v := .bool false) (w' := w4) rfl rfl rfl (by go_simp <;> omega) ?_
  simp only [Act.put, sa, sz, ss]
  refine rest_nil (then_normal ?_)
  refine wp_cond_false rfl (wp_skip ?_)
  refine then_normal (wp_seq ?_)
  refine walk_anyB 8 [.quiet (PT j 0), .quiet (PT j 0), .quiet (PT j 0), .quiet (PT d 0), .quiet (PT j 0), .quiet (PT j 0), .quiet (PT j 1), .quiet (.string s)] H4 ?ho4 ?he4
  case ho4 => exact ak (fun _ => ⟨rfl, fun _ _ => rfl⟩) (ak (by refine fun γ => ⟨rfl, fun w' h => ?_⟩; clear h; go_simp) (ak (by refine fun γ => ⟨rfl, fun w' h => ?_⟩; clear h; go_simp) (ak (fun γ => ⟨rfl, fun w' h => ex_loadC h 0 rfl rfl rfl Tryz.isAgg25 (rfl)⟩) (ak (fun _ => ⟨rfl, fun _ _ => rfl⟩) (ak (by refine fun γ => ⟨rfl, fun w' h => ?_⟩; clear h; go_simp) (ak (by refine fun γ => ⟨rfl, fun w' h => ?_⟩; clear h; go_simp) (ak (fun γ => ⟨rfl, fun w' h => ex_loadC h 0 rfl rfl rfl Tryz.isAgg9 (rfl)⟩) trivial)))))))
  intro _ w5 H5
  clear H4
  refine rest_at (l := [8, 9]) rfl ?_
  refine rest_enter (d := 24) (R := fun vv w' => vv = .int .i64 r ∧ I1 w') rfl rfl rfl (exec_call (args := #[PT d 0, .string s]) rfl call37 rfl (mpn rfl)) (Calls.mono (hsy.out w5 H5.out.2) (fun e w2 hh => ⟨_, hh.1, rfl, hh.2⟩)) ?_
  rintro _ w6 ⟨rfl, hI⟩
  have H6 : Hid (Mm w6 [] ∧ I1 w6) := ⟨Mm.nil _, hI⟩
  clear hI H5
  simp only [Act.put, sa, sz, ss]
  refine rest_set (d := 2) (v := .int .i64 r) (w' := w6) rfl rfl rfl (rfl) ?_
  simp only [Act.put, sa, sz, ss]
  refine rest_nil (then_normal (wp_ret ?_))
  repeat (first | refine then_ret ?_ | refine block_ret ?_)
  refine bodyPost_ret (v := .int .i64 r) (by simp [results, Tryz.results49, go_sem, *]) rfl ?_
  exact ⟨rfl, H6.out.2⟩
set_option maxHeartbeats 2000000 in
set_option maxRecDepth 100000 in
theorem jappend_ok (j d c z : Nat) (s : ByteArray) (q : Pt8) (hL : q.n ≤ 65536) (hc : c < 4611686018427387904) (hz : z < 4611686018427387904) (I2 : World → Prop) (w : World) (hm : Mm w [(j, jc d s c z)]) (hq0 : Pok q ∧ q.rs w) (hqn0 : q.p = none → q.cp = 0) (s2z : ∀ u u', I2 u → Below u.heap.size u u' → I2 u') (s2pz : ∀ u off vs, I2 u → I2 (u.setCells j off vs)) (hapz : ∀ q2 u, Pw w (8 + q.n + 4) (frm q.f q.n) q2 u → Calls Tryz.prog 35 #[PT d 0, .string s, .slice q2.p q2.n q2.cp] u fun e u' => e = .returned (.int .i64 0) ∧ I2 u' ∧ u.heap.size ≤ u'.heap.size ∧ u'.heap[j]? = u.heap[j]?) :
    Calls Tryz.prog 47 #[PT j 0, .slice q.p q.n q.cp] w fun e w' => e = .returned (.int .i64 0) ∧ Mm w' [(j, jc d s (c + 1) (z + (8 + q.n + 4)))] ∧ I2 w' := by
  have H0 : Hid (_ ∧ _) := ⟨hm, Below.refl w.heap.size w⟩
  clear hm
  have hq : Hid _ := hq0
  clear hq0
  have hqn : Hid _ := hqn0
  clear hqn0
  have s2 : Hid _ := s2z
  have s2p : Hid _ := s2pz
  have hap : Hid _ := hapz
  clear s2z s2pz hapz
  go_enter Tryz.func47, Tryz.ntmps47
  refine wp_seq ?_
  refine sq_startW (l := [0]) rfl (fun u0 hu0 => ?_)
  have H1 : Hid (Mm u0 [(j, jc d s c z)] ∧ Below w.heap.size w u0) := by rw [hu0]; exact H0
  clear hu0 H0
  refine rest_set (d := 4) (v := .int .i64 0) (w' := u0) rfl rfl rfl (rfl) ?_
  simp only [Act.put, sa, sz, ss]
  refine rest_nil (then_normal ?_)
  refine wp_seq (wp_seq ?_)
  refine sq_start (l := [0, 1, 2]) rfl ?_
  refine rest_set (d := 8) (v := PT j 0) (w' := u0) rfl rfl rfl (rfl) ?_
  simp only [Act.put, sa, sz, ss]
  refine rest_enter (d := 9) (R := fun vv w' => vv = .bool true ∧ Below u0.heap.size u0 w') rfl rfl rfl (exec_call (args := #[PT j 0]) rfl call105 rfl (mpn rfl)) (Calls.mono (jmade j d c z s u0 (H1.out.1.one 0 rfl)) (fun e w2 hh => ⟨_, hh.1, rfl, hh.2⟩)) ?_
  rintro _ w2 ⟨rfl, hb⟩
  have H2 : Hid (Mm w2 [(j, jc d s c z)] ∧ Below w.heap.size w w2) := ⟨H1.out.1.below hb, H1.out.2.trans (hb.mono H1.out.2.size)⟩
  clear hb
  clear H1
  simp only [Act.put, sa, sz, ss]
  refine rest_set (d := 10) (v := .bool false) (w' := w2) rfl rfl rfl (by go_simp) ?_
  simp only [Act.put, sa, sz, ss]
  refine rest_nil (then_normal ?_)
  refine wp_cond_false rfl (wp_skip ?_)
  refine then_normal (wp_seq ?_)
  refine sq_start (l := [0, 1, 2, 3, 4, 5, 6, 7, 8, 9]) rfl ?_
  refine rest_set (d := 12) (v := PT j 0) (w' := w2) rfl rfl rfl (rfl) ?_
  simp only [Act.put, sa, sz, ss]
  refine rest_set (d := 13) (v := PT j 0) (w' := w2) rfl rfl rfl (by go_simp) ?_
  simp only [Act.put, sa, sz, ss]
  refine rest_set (d := 14) (v := PT j 2) (w' := w2) rfl rfl rfl (by go_simp) ?_
  simp only [Act.put, sa, sz, ss]
  refine rest_set (d := 15) (v := .slice q.p q.n q.cp) (w' := w2) rfl rfl rfl (rfl) ?_
  simp only [Act.put, sa, sz, ss]
  refine rest_enter (d := 16) (R := fun vv w' => ∃ v, vv = .tuple #[v, .int .i64 0] ∧ Cw w2 v (8 + q.n + 4) (frm q.f q.n) w') rfl rfl rfl (exec_call (args := #[PT j 2, .slice q.p q.n q.cp]) rfl call106 rfl (mpn rfl)) (Calls.mono (frame_ok j 2 q hL w2 (Tb.jc (H2.out.1.one 0 rfl)) ⟨hq.out.1, hq.out.2.below H2.out.2⟩ hqn.out) (fun e w2 hh => by obtain ⟨v', he, hO⟩ := hh; exact ⟨_, he, _, rfl, hO⟩)) ?_
  rintro _ w3 ⟨vr, rfl, hO⟩
  have hM := H2.out.1.below hO.b
  have hcw := Cw.up H2.out.2 hO
  obtain ⟨q2, rfl, e2, e3, e4, e5, e6, e7⟩ := hcw.part
  have hq2n : Hid _ := e4
  have H3 : Hid (Mm w3 [(j, jc d s c z)] ∧ Pw w (8 + q.n + 4) (frm q.f q.n) q2 w3) := ⟨hM, hcw.b, e2, e3, e6, e4, e5, e7⟩
  clear hO hM hcw e2 e3 e4 e5 e6 e7 H2
  simp only [Act.put, sa, sz, ss]
  refine rest_set (d := 11) (v := .tuple #[.slice q2.p q2.n q2.cp, .int .i64 0]) (w' := w3) rfl rfl rfl (rfl) ?_
  simp only [Act.put, sa, sz, ss]
  refine rest_set (d := 17) (v := .slice q2.p q2.n q2.cp) (w' := w3) rfl rfl rfl (by go_simp) ?_
  simp only [Act.put, sa, sz, ss]
  refine rest_set (d := 18) (v := .int .i64 0) (w' := w3) rfl rfl rfl (by go_simp) ?_
  simp only [Act.put, sa, sz, ss]
  refine rest_set (d := 5) (v := .slice q2.p q2.n q2.cp) (w' := w3) rfl rfl rfl (rfl) ?_
  simp only [Act.put, sa, sz, ss]
  refine rest_set (d := 6) (v := .int .i64 0) (w' := w3) rfl rfl rfl (rfl) ?_
  simp only [Act.put, sa, sz, ss]
  refine rest_nil (then_normal ?_)
  refine wp_seq (wp_seq ?_)
  refine sq_start (l := [0, 1]) rfl ?_
  refine rest_set (d := 19) (v := .int .i64 0) (w' := w3) rfl rfl rfl (rfl) ?_
  simp only [Act.put, sa, sz, ss]
  refine rest_set (d := 20) (v := .bool false) (w' := w3) rfl rfl rfl (by kernel_rfl) ?_
  simp only [Act.put, sa, sz, ss]
  refine rest_nil (then_normal ?_)
  refine wp_cond_false rfl (wp_skip ?_)
  refine then_normal (wp_seq (wp_seq ?_))
  refine walk_anyA 9 [.quiet (PT j 0), .quiet (PT j 0), .quiet (PT j 0), .quiet (PT d 0), .quiet (PT j 0), .quiet (PT j 0), .quiet (PT j 1), .quiet (.string s), .quiet (.slice q2.p q2.n q2.cp)] (sB H3) ?ho5 ?he5
  case ho5 => exact ak (fun _ => ⟨rfl, fun _ _ => rfl⟩) (ak (by refine fun γ => ⟨rfl, fun w' h => ?_⟩; clear h; go_simp) (ak (by refine fun γ => ⟨rfl, fun w' h => ?_⟩; clear h; go_simp) (ak (fun γ => ⟨rfl, fun w' h => ex_loadC h 0 rfl rfl rfl Tryz.isAgg25 (rfl)⟩) (ak (fun _ => ⟨rfl, fun _ _ => rfl⟩) (ak (by refine fun γ => ⟨rfl, fun w' h => ?_⟩; clear h; go_simp) (ak (by refine fun γ => ⟨rfl, fun w' h => ?_⟩; clear h; go_simp) (ak (fun γ => ⟨rfl, fun w' h => ex_loadC h 0 rfl rfl rfl Tryz.isAgg9 (rfl)⟩) (ak (fun _ => ⟨rfl, fun _ _ => rfl⟩) trivial))))))))
  intro γ w4 l hM hl
  have M4 : Mm w4 [(j, jc d s c z)] := H3.out.1.grow hM (Nat.le_refl _) hl [] rfl (by decide)
  have B4 : Pw w (8 + q.n + 4) (frm q.f q.n) q2 w4 := Pw.step H3.out.2 (hM.below)
  clear hM hl l H3
  clear γ
  have H4 : Hid (_ ∧ _) := ⟨M4, B4⟩
  clear M4 B4
  refine rest_at (l := [9, 10]) rfl ?_
  refine rest_enter (d := 31) (R := fun vv w' => vv = .int .i64 0 ∧ I2 w' ∧ w4.heap.size ≤ w'.heap.size ∧ w'.heap[j]? = w4.heap[j]?) rfl rfl rfl (exec_call (args := #[PT d 0, .string s, .slice q2.p q2.n q2.cp]) rfl call35 rfl (mpn rfl)) (Calls.mono (hap.out q2 w4 H4.out.2) (fun e w2 hh => ⟨_, hh.1, rfl, hh.2⟩)) ?_
  rintro _ w5 ⟨rfl, hI, hz1, hz2⟩
  have H5 : Hid (Mm w5 [(j, jc d s c z)] ∧ I2 w5) := ⟨Mm.keep1 H4.out.1 hz1 hz2, hI⟩
  clear hI hz1 hz2 H4
  simp only [Act.put, sa, sz, ss]
  refine rest_set (d := 7) (v := .int .i64 0) (w' := w5) rfl rfl rfl (rfl) ?_
  simp only [Act.put, sa, sz, ss]
  refine rest_nil (then_normal (wp_seq ?_))
  refine sq_start (l := [0, 1]) rfl ?_
  refine rest_set (d := 32) (v := .int .i64 0) (w' := w5) rfl rfl rfl (rfl) ?_
  simp only [Act.put, sa, sz, ss]
  refine rest_set (d := 33) (v := .bool false) (w' := w5) rfl rfl rfl (by kernel_rfl) ?_
  simp only [Act.put, sa, sz, ss]
  refine rest_nil (then_normal ?_)
  refine wp_cond_false rfl (wp_skip ?_)
  refine then_normal (wp_seq ?_)
  refine sq_start (l := [0, 1, 2, 3, 4, 5, 6, 7]) rfl ?_
  refine rest_set (d := 35) (v := PT j 0) (w' := w5) rfl rfl rfl (rfl) ?_
  simp only [Act.put, sa, sz, ss]
  refine rest_set (d := 36) (v := PT j 0) (w' := w5) rfl rfl rfl (by go_simp) ?_
  simp only [Act.put, sa, sz, ss]
  refine rest_set (d := 37) (v := PT j 258) (w' := w5) rfl rfl rfl (by go_simp) ?_
  simp only [Act.put, sa, sz, ss]
  refine rest_set (d := 38) (v := .int .i64 ((c : Nat) : Int)) (w' := w5) rfl rfl rfl (ex_loadC H5.out.1 0 rfl rfl rfl Tryz.isAgg3 (jc_c _ _ _ _)) ?_
  simp only [Act.put, sa, sz, ss]
  refine rest_set (d := 39) (v := .int .i64 ((c + 1 : Nat) : Int)) (w' := w5) rfl rfl rfl (by go_simp; rw [IntKind.wrap_i64]; have := hq2n.out; omega) ?_
  simp only [Act.put, sa, sz, ss]
  refine rest_set (d := 40) (v := PT j 0) (w' := w5) rfl rfl rfl (by go_simp) ?_
  simp only [Act.put, sa, sz, ss]
  refine rest_set (d := 41) (v := PT j 258) (w' := w5) rfl rfl rfl (by go_simp) ?_
  simp only [Act.put, sa, sz, ss]
  refine rest_store rfl rfl rfl (ex_st1 (v := .int .i64 ((c + 1 : Nat) : Int)) H5.out.1 0 rfl rfl Tryz.sizeOf3 rfl rfl rfl (by rw [jc_len]; decide)) ?_
  have H6 : Hid (Mm (w5.setCells j 258 [Value.int .i64 ((c + 1 : Nat) : Int)]) [(j, jc d s (c + 1) z)] ∧ I2 (w5.setCells j 258 [Value.int .i64 ((c + 1 : Nat) : Int)])) := ⟨by
    have h := H5.out.1.put 0 (off := 258) (vs := [Value.int .i64 ((c + 1 : Nat) : Int)]) rfl (by rw [jc_len]; show 258 + 1 ≤ 260; decide)
    rw [jc_putc] at h
    exact h, s2p.out _ _ _ H5.out.2⟩
  clear H5
  generalize hgw : World.setCells _ _ _ _ = w6 at H6 ⊢
  clear hgw
  refine rest_nil (then_normal (wp_seq ?_))
  refine sq_start (l := [0, 1, 2, 3, 4, 5, 6, 7, 8, 9]) rfl ?_
  refine rest_set (d := 42) (v := PT j 0) (w' := w6) rfl rfl rfl (rfl) ?_
  simp only [Act.put, sa, sz, ss]
  refine rest_set (d := 43) (v := PT j 0) (w' := w6) rfl rfl rfl (by go_simp) ?_
  simp only [Act.put, sa, sz, ss]
  refine rest_set (d := 44) (v := PT j 259) (w' := w6) rfl rfl rfl (by go_simp) ?_
  simp only [Act.put, sa, sz, ss]
  refine rest_set (d := 45) (v := .int .i64 ((z : Nat) : Int)) (w' := w6) rfl rfl rfl (ex_loadC H6.out.1 0 rfl rfl rfl Tryz.isAgg3 (jc_z _ _ _ _)) ?_
  simp only [Act.put, sa, sz, ss]
  refine rest_set (d := 46) (v := .slice q2.p q2.n q2.cp) (w' := w6) rfl rfl rfl (rfl) ?_
  simp only [Act.put, sa, sz, ss]
  refine rest_set (d := 47) (v := .int .i64 ((q2.n : Nat) : Int)) (w' := w6) rfl rfl rfl (by go_simp) ?_
  simp only [Act.put, sa, sz, ss]
  refine rest_set (d := 48) (v := .int .i64 ((z + q2.n : Nat) : Int)) (w' := w6) rfl rfl rfl (by go_simp; rw [IntKind.wrap_i64]; have := hq2n.out; omega) ?_
  simp only [Act.put, sa, sz, ss]
  refine rest_set (d := 49) (v := PT j 0) (w' := w6) rfl rfl rfl (by go_simp) ?_
  simp only [Act.put, sa, sz, ss]
  refine rest_set (d := 50) (v := PT j 259) (w' := w6) rfl rfl rfl (by go_simp) ?_
  simp only [Act.put, sa, sz, ss]
  refine rest_store rfl rfl rfl (ex_st1 (v := .int .i64 ((z + q2.n : Nat) : Int)) H6.out.1 0 rfl rfl Tryz.sizeOf3 rfl rfl rfl (by rw [jc_len]; decide)) ?_
  have H7 : Hid (Mm (w6.setCells j 259 [Value.int .i64 ((z + q2.n : Nat) : Int)]) [(j, jc d s (c + 1) (z + q2.n))] ∧ I2 (w6.setCells j 259 [Value.int .i64 ((z + q2.n : Nat) : Int)])) := ⟨by
    have h := H6.out.1.put 0 (off := 259) (vs := [Value.int .i64 ((z + q2.n : Nat) : Int)]) rfl (by rw [jc_len]; show 259 + 1 ≤ 260; decide)
    rw [jc_putz] at h
    exact h, s2p.out _ _ _ H6.out.2⟩
  clear H6
  generalize hgw : World.setCells _ _ _ _ = w7 at H7 ⊢
  clear hgw
  refine rest_nil (then_normal (wp_seq ?_))
  refine sq_start (l := [0]) rfl ?_
  refine rest_set (d := 4) (v := .int .i64 0) (w' := w7) rfl rfl rfl (rfl) ?_
  simp only [Act.put, sa, sz, ss]
  refine rest_nil (then_normal (wp_ret ?_))
  repeat (first | refine then_ret ?_ | refine block_ret ?_)
  refine bodyPost_ret (v := .int .i64 0) (by simp [results, Tryz.results47, go_sem, *]) rfl ?_
  exact ⟨rfl, by have h := H7.out.1; rw [hq2n.out] at h; exact h, H7.out.2⟩
set_option maxHeartbeats 2000000 in
set_option maxRecDepth 100000 in
theorem jappend_err (j d c z : Nat) (s : ByteArray) (q : Pt8) (hL : q.n ≤ 65536) (r : Int) (hr : r ≠ 0) (I2 : World → Prop) (w : World) (hm : Mm w [(j, jc d s c z)]) (hq0 : Pok q ∧ q.rs w) (hqn0 : q.p = none → q.cp = 0) (s2z : ∀ u u', I2 u → Below u.heap.size u u' → I2 u') (s2pz : ∀ u off vs, I2 u → I2 (u.setCells j off vs)) (hapz : ∀ q2 u, Pw w (8 + q.n + 4) (frm q.f q.n) q2 u → Calls Tryz.prog 35 #[PT d 0, .string s, .slice q2.p q2.n q2.cp] u fun e u' => e = .returned (.int .i64 r) ∧ I2 u' ∧ u.heap.size ≤ u'.heap.size ∧ u'.heap[j]? = u.heap[j]?) :
    Calls Tryz.prog 47 #[PT j 0, .slice q.p q.n q.cp] w fun e w' => e = .returned (.int .i64 r) ∧ Mm w' [(j, jc d s c z)] ∧ I2 w' := by
  have H0 : Hid (_ ∧ _) := ⟨hm, Below.refl w.heap.size w⟩
  clear hm
  have hq : Hid _ := hq0
  clear hq0
  have hqn : Hid _ := hqn0
  clear hqn0
  have s2 : Hid _ := s2z
  have s2p : Hid _ := s2pz
  have hap : Hid _ := hapz
  clear s2z s2pz hapz
  go_enter Tryz.func47, Tryz.ntmps47
  refine wp_seq ?_
  refine sq_startW (l := [0]) rfl (fun u0 hu0 => ?_)
  have H1 : Hid (Mm u0 [(j, jc d s c z)] ∧ Below w.heap.size w u0) := by rw [hu0]; exact H0
  clear hu0 H0
  refine rest_set (d := 4) (v := .int .i64 0) (w' := u0) rfl rfl rfl (rfl) ?_
  simp only [Act.put, sa, sz, ss]
  refine rest_nil (then_normal ?_)
  refine wp_seq (wp_seq ?_)
  refine sq_start (l := [0, 1, 2]) rfl ?_
  refine rest_set (d := 8) (v := PT j 0) (w' := u0) rfl rfl rfl (rfl) ?_
  simp only [Act.put, sa, sz, ss]
  refine rest_enter (d := 9) (R := fun vv w' => vv = .bool true ∧ Below u0.heap.size u0 w') rfl rfl rfl (exec_call (args := #[PT j 0]) rfl call105 rfl (mpn rfl)) (Calls.mono (jmade j d c z s u0 (H1.out.1.one 0 rfl)) (fun e w2 hh => ⟨_, hh.1, rfl, hh.2⟩)) ?_
  rintro _ w2 ⟨rfl, hb⟩
  have H2 : Hid (Mm w2 [(j, jc d s c z)] ∧ Below w.heap.size w w2) := ⟨H1.out.1.below hb, H1.out.2.trans (hb.mono H1.out.2.size)⟩
  clear hb
  clear H1
  simp only [Act.put, sa, sz, ss]
  refine rest_set (d := 10) (v := .bool false) (w' := w2) rfl rfl rfl (by go_simp) ?_
  simp only [Act.put, sa, sz, ss]
  refine rest_nil (then_normal ?_)
  refine wp_cond_false rfl (wp_skip ?_)
  refine then_normal (wp_seq ?_)
  refine sq_start (l := [0, 1, 2, 3, 4, 5, 6, 7, 8, 9]) rfl ?_
  refine rest_set (d := 12) (v := PT j 0) (w' := w2) rfl rfl rfl (rfl) ?_
  simp only [Act.put, sa, sz, ss]
  refine rest_set (d := 13) (v := PT j 0) (w' := w2) rfl rfl rfl (by go_simp) ?_
  simp only [Act.put, sa, sz, ss]
  refine rest_set (d := 14) (v := PT j 2) (w' := w2) rfl rfl rfl (by go_simp) ?_
  simp only [Act.put, sa, sz, ss]
  refine rest_set (d := 15) (v := .slice q.p q.n q.cp) (w' := w2) rfl rfl rfl (rfl) ?_
  simp only [Act.put, sa, sz, ss]
  refine rest_enter (d := 16) (R := fun vv w' => ∃ v, vv = .tuple #[v, .int .i64 0] ∧ Cw w2 v (8 + q.n + 4) (frm q.f q.n) w') rfl rfl rfl (exec_call (args := #[PT j 2, .slice q.p q.n q.cp]) rfl call106 rfl (mpn rfl)) (Calls.mono (frame_ok j 2 q hL w2 (Tb.jc (H2.out.1.one 0 rfl)) ⟨hq.out.1, hq.out.2.below H2.out.2⟩ hqn.out) (fun e w2 hh => by obtain ⟨v', he, hO⟩ := hh; exact ⟨_, he, _, rfl, hO⟩)) ?_
  rintro _ w3 ⟨vr, rfl, hO⟩
  have hM := H2.out.1.below hO.b
  have hcw := Cw.up H2.out.2 hO
  obtain ⟨q2, rfl, e2, e3, e4, e5, e6, e7⟩ := hcw.part
  have hq2n : Hid _ := e4
  have H3 : Hid (Mm w3 [(j, jc d s c z)] ∧ Pw w (8 + q.n + 4) (frm q.f q.n) q2 w3) := ⟨hM, hcw.b, e2, e3, e6, e4, e5, e7⟩
  clear hO hM hcw e2 e3 e4 e5 e6 e7 H2
  simp only [Act.put, sa, sz, ss]
  refine rest_set (d := 11) (v := .tuple #[.slice q2.p q2.n q2.cp, .int .i64 0]) (w' := w3) rfl rfl rfl (rfl) ?_
  simp only [Act.put, sa, sz, ss]
  refine rest_set (d := 17) (v := .slice q2.p q2.n q2.cp) (w' := w3) rfl rfl rfl (by go_simp) ?_
  simp only [Act.put, sa, sz, ss]
  refine rest_set (d := 18) (v := .int .i64 0) (w' := w3) rfl rfl rfl (by go_simp) ?_
  simp only [Act.put, sa, sz, ss]
  refine rest_set (d := 5) (v := .slice q2.p q2.n q2.cp) (w' := w3) rfl rfl rfl (rfl) ?_
  simp only [Act.put, sa, sz, ss]
  refine rest_set (d := 6) (v := .int .i64 0) (w' := w3) rfl rfl rfl (rfl) ?_
  simp only [Act.put, sa, sz, ss]
  refine rest_nil (then_normal ?_)
  refine wp_seq (wp_seq ?_)
  refine sq_start (l := [0, 1]) rfl ?_
  refine rest_set (d := 19) (v := .int .i64 0) (w' := w3) rfl rfl rfl (rfl) ?_
  simp only [Act.put, sa, sz, ss]
  refine rest_set (d := 20) (v := .bool false) (w' := w3) rfl rfl rfl (by kernel_rfl) ?_
  simp only [Act.put, sa, sz, ss]
  refine rest_nil (then_normal ?_)
  refine wp_cond_false rfl (wp_skip ?_)
  refine then_normal (wp_seq (wp_seq ?_))
  refine walk_anyA 9 [.quiet (PT j 0), .quiet (PT j 0), .quiet (PT j 0), .quiet (PT d 0), .quiet (PT j 0), .quiet (PT j 0), .quiet (PT j 1), .quiet (.string s), .quiet (.slice q2.p q2.n q2.cp)] (sB H3) ?ho5 ?he5
  case ho5 => exact ak (fun _ => ⟨rfl, fun _ _ => rfl⟩) (ak (by refine fun γ => ⟨rfl, fun w' h => ?_⟩; clear h; go_simp) (ak (by refine fun γ => ⟨rfl, fun w' h => ?_⟩; clear h; go_simp) (ak (fun γ => ⟨rfl, fun w' h => ex_loadC h 0 rfl rfl rfl Tryz.isAgg25 (rfl)⟩) (ak (fun _ => ⟨rfl, fun _ _ => rfl⟩) (ak (by refine fun γ => ⟨rfl, fun w' h => ?_⟩; clear h; go_simp) (ak (by refine fun γ => ⟨rfl, fun w' h => ?_⟩; clear h; go_simp) (ak (fun γ => ⟨rfl, fun w' h => ex_loadC h 0 rfl rfl rfl Tryz.isAgg9 (rfl)⟩) (ak (fun _ => ⟨rfl, fun _ _ => rfl⟩) trivial))))))))
  intro γ w4 l hM hl
  have M4 : Mm w4 [(j, jc d s c z)] := H3.out.1.grow hM (Nat.le_refl _) hl [] rfl (by decide)
  have B4 : Pw w (8 + q.n + 4) (frm q.f q.n) q2 w4 := Pw.step H3.out.2 (hM.below)
  clear hM hl l H3
  clear γ
  have H4 : Hid (_ ∧ _) := ⟨M4, B4⟩
  clear M4 B4
  refine rest_at (l := [9, 10]) rfl ?_
  refine rest_enter (d := 31) (R := fun vv w' => vv = .int .i64 r ∧ I2 w' ∧ w4.heap.size ≤ w'.heap.size ∧ w'.heap[j]? = w4.heap[j]?) rfl rfl rfl (exec_call (args := #[PT d 0, .string s, .slice q2.p q2.n q2.cp]) rfl call35 rfl (mpn rfl)) (Calls.mono (hap.out q2 w4 H4.out.2) (fun e w2 hh => ⟨_, hh.1, rfl, hh.2⟩)) ?_
  rintro _ w5 ⟨rfl, hI, hz1, hz2⟩
  have H5 : Hid (Mm w5 [(j, jc d s c z)] ∧ I2 w5) := ⟨Mm.keep1 H4.out.1 hz1 hz2, hI⟩
  clear hI hz1 hz2 H4
  simp only [Act.put, sa, sz, ss]
  refine rest_set (d := 7) (v := .int .i64 r) (w' := w5) rfl rfl rfl (rfl) ?_
  simp only [Act.put, sa, sz, ss]
  refine rest_nil (then_normal (wp_seq ?_))
  refine sq_start (l := [0, 1]) rfl ?_
  refine rest_set (d := 32) (v := .int .i64 r) (w' := w5) rfl rfl rfl (rfl) ?_
  simp only [Act.put, sa, sz, ss]
  refine rest_set (d := 33) (v := .bool true) (w' := w5) rfl rfl rfl (by go_simp) ?_
  simp only [Act.put, sa, sz, ss]
  refine rest_nil (then_normal ?_)
  refine wp_cond_true rfl (wp_seq ?_)
  refine sq_start (l := [0, 1]) rfl ?_
  refine rest_set (d := 34) (v := .int .i64 r) (w' := w5) rfl rfl rfl (rfl) ?_
  simp only [Act.put, sa, sz, ss]
  refine rest_set (d := 4) (v := .int .i64 r) (w' := w5) rfl rfl rfl (rfl) ?_
  simp only [Act.put, sa, sz, ss]
  refine rest_nil (then_normal (wp_ret ?_))
  repeat (first | refine then_ret ?_ | refine block_ret ?_)
  refine bodyPost_ret (v := .int .i64 r) (by simp [results, Tryz.results47, go_sem, *]) rfl ?_
  exact ⟨rfl, H5.out.1, H5.out.2⟩
end Wi
end Rg
end Go.Proofs.YtmcpagjhpfbpgaaGreatDoor
end
section
namespace Go.Proofs.YtmcpagjhpfbpgaaGreatDoor
open Go.RowKit
namespace Rg
namespace Wi
theorem call147 : ∀ args w, (callFunc 147 args).run Tryz.prog w = .ok (.enter 147 args) w := by intro args w; go_simp
theorem call148 : ∀ args w, (callFunc 148 args).run Tryz.prog w = .ok (.enter 148 args) w := by intro args w; go_simp
set_option maxRecDepth 100000
/-- A list of parts in memory above B. -/
structure Lq (B : Nat) (vv : Value) (m : Nat) (P : Nat → Pt8) (u : World) : Prop where
  own : u.ownsRow B 40 1 vv m (pcs P m)
  ok : ∀ i, i < m → Pok (P i) ∧ ((P i).p = none → (P i).cp = 0) ∧ (P i).rs u ∧ (0 < (P i).n → B ≤ (P i).gb)
section
variable {B m : Nat} {vv : Value} {P : Nat → Pt8} {w u u' : World}
theorem Lr.lq (h : Lr w vv m P u) : Lq w.heap.size vv m P u := ⟨h.own, fun i hi => ⟨(h.ok i hi).1, (h.ok i hi).2.1, (h.ok i hi).2.2.1, fun h0 => ((h.ok i hi).2.2.2 h0).1⟩⟩
theorem Lq.lo (h : Lq B vv m P u) : ∀ x ∈ vbl vv, B ≤ x := fun x hx => by
  unfold vbl at hx
  cases hv : vv.ownBlock with
  | none => rw [hv] at hx; simp at hx
  | some k => rw [hv] at hx; simp at hx; subst hx; exact (World.ownsRow.lt h.own _ hv).1
theorem Lq.chg (h : Lq B vv m P u) {L : List Nat} (hc : Chg L u u') (hL : ∀ x ∈ L, x < B) : Lq B vv m P u' :=
  ⟨own_keep h.own (fun x hx => hc.block x (own_lt h.own x hx) (fun hm => absurd (hL x hm) (Nat.not_lt.2 (h.lo x hx)))), fun i hi => ⟨(h.ok i hi).1, (h.ok i hi).2.1, (h.ok i hi).2.2.1.keep hc.size (fun h0 => hc.block _ ((h.ok i hi).2.2.1.lt h0) (fun hm => absurd (hL _ hm) (Nat.not_lt.2 ((h.ok i hi).2.2.2 h0)))), (h.ok i hi).2.2.2⟩⟩
theorem Lq.step (h : Lq B vv m P u) (hb : Below u.heap.size u u') : Lq B vv m P u' := h.chg (L := []) (Chg.of hb) (fun _ hx => by cases hx)
theorem Lq.put (h : Lq B vv m P u) {j : Nat} (hj : j < B) (off : Nat) (vs : List Value) : Lq B vv m P (u.setCells j off vs) := h.chg (L := [j]) ((Chg.refl _ _).put (.inl (List.mem_cons_self ..))) (fun x hx => by rw [List.mem_singleton.1 hx]; exact hj)
end
theorem ex_bj {ρ : Operand → Value} {o : Oper} {x0 x1 x2 : Operand} {d : Nat} {s : ByteArray} {w : World} (ho : o.op = .build 171 #[(0, x0), (1, x1), (2, x2)]) (h0 : ρ x0 = PT d 0) (h1 : ρ x1 = .string s) (h2 : ρ x2 = .agg (ints .u32 crt 256).toArray) : (execOp ρ o).run Tryz.prog w = .ok (.value (.agg (jc d s 0 0).toArray)) w := by
  simp only [execOp, ho, List.map_toArray, List.map_cons, List.map_nil, h0, h1, h2]
  kernel_rfl
/-- How the reading of a log ends where it is not broken. -/
def End (f : Nat → Nat) (n : Nat) (A : Nat → Nat) (M : Nat) : Prop := n < A M + 8 ∨ ∃ L, A M + 8 ≤ n ∧ n < A M + 8 + L + 4 ∧ Hdk (sh f (A M)) L
theorem read_fine (g t : Nat) (q : Pt8) (A Ln : Nat → Nat) (M : Nat) (hbq : q.n ≤ 1048576) (w : World) (hT : Tb g t w) (hq : Pok q ∧ q.rs w) (hqn : q.p = none → q.cp = 0) (hlg : Lgk q.f q.n A Ln M) (he : End q.f q.n A M) : Calls Tryz.prog 148 #[PT g t, .slice q.p q.n q.cp] w fun e w' => ∃ v P, e = .returned (.tuple #[v, .int .i64 ((A M : Nat) : Int), .int .i64 0]) ∧ Lr w v M P w' ∧ ∀ i, i < M → (P i).n = Ln i ∧ ∀ j, j < Ln i → (P i).f j = q.f (A i + 8 + j) := by
  rcases he with h | ⟨L, h1, h2, h3⟩
  · exact read_short g t q A Ln M hbq h w hT hq hqn hlg
  · exact read_torn g t q A Ln M hbq L h1 h2 w hT hq hqn hlg h3
theorem ex_lnL {ρ : Operand → Value} {o : Oper} {x : Operand} {v : Value} {B n : Nat} {xs : List Value} {w : World} (h : w.ownsRow B 40 1 v n xs) (ho : o.op = .call { callee := .builtin .len, args := #[x], argTypes := #[131] }) (hx : ρ x = v) : (execOp ρ o).run Tryz.prog w = .ok (.value (.int .i64 ((n : Nat) : Int))) w := by
  obtain ⟨p, c, rfl, _⟩ := own_slice h
  simp only [execOp, ho]
  clear h ho
  go_simp
set_option maxHeartbeats 4000000 in
set_option maxRecDepth 100000 in
theorem jopen_whole (d : Nat) (s : ByteArray) (hs : s.size ≤ 281474976710656) (N : Nat) (C : Nat → Nat) (A Ln : Nat → Nat) (M : Nat) (hN : N ≤ 1048576) (hw0 : A M = N) (w : World) (hcnz : ∀ u, Below w.heap.size w u → Calls Tryz.prog 147 #[PT d 0, .string s] u fun e u' => ∃ q : Pt8, e = .returned (.tuple #[.slice q.p q.n q.cp, .int .i64 0]) ∧ Pw w N C q u') (hlgz : Lgk C N A Ln M) (henz : End C N A M) :
    Calls Tryz.prog 111 #[PT d 0, .string s] w fun e w' => ∃ j v P B, e = .returned (.tuple #[PT j 0, v, .int .i64 0]) ∧ Mm w' [(j, jc d s M (A M))] ∧ Below w.heap.size w w' ∧ Lq B v M P w' ∧ w.heap.size ≤ j ∧ j < B ∧ ∀ i, i < M → (P i).n = Ln i ∧ ∀ k, k < Ln i → (P i).f k = C (A i + 8 + k) := by
  have H0 : Hid (_ ∧ _) := ⟨Mm.nil w, Below.refl w.heap.size w⟩
  have hcn : Hid _ := hcnz
  have hlg : Hid _ := hlgz
  have hen : Hid _ := henz
  clear hcnz hlgz henz
  go_enter Tryz.func111, Tryz.ntmps111
  refine wp_seq ?_
  refine sq_startW (l := [0, 1, 2]) rfl (fun u0 hu0 => ?_)
  have H1 : Hid (Mm u0 [] ∧ Below w.heap.size w u0) := by rw [hu0]; exact H0
  clear hu0 H0
  refine rest_set (d := 4) (v := .pointer none) (w' := u0) rfl rfl rfl (rfl) ?_
  simp only [Act.put, sa, sz, ss]
  refine rest_set (d := 5) (v := .slice none 0 0) (w' := u0) rfl rfl rfl (rfl) ?_
  simp only [Act.put, sa, sz, ss]
  refine rest_set (d := 6) (v := .int .i64 0) (w' := u0) rfl rfl rfl (rfl) ?_
  simp only [Act.put, sa, sz, ss]
  refine rest_nil (then_normal (wp_seq ?_))
  refine sq_start (l := [0, 1, 2, 3, 4, 5, 6, 7]) rfl ?_
  refine rest_set (d := 14) (v := PT d 0) (w' := u0) rfl rfl rfl (rfl) ?_
  simp only [Act.put, sa, sz, ss]
  refine rest_set (d := 15) (v := .string s) (w' := u0) rfl rfl rfl (rfl) ?_
  simp only [Act.put, sa, sz, ss]
  refine rest_enter (d := 16) (R := fun vv w' => ∃ q : Pt8, vv = .tuple #[.slice q.p q.n q.cp, .int .i64 0] ∧ Pw w N C q w') rfl rfl rfl (exec_call (args := #[PT d 0, .string s]) rfl call147 rfl (mpn rfl)) (Calls.mono (hcn.out u0 H1.out.2) (fun e w2 hh => by obtain ⟨q, he, hI⟩ := hh; exact ⟨_, he, q, rfl, hI⟩)) ?_
  rintro _ w2 ⟨q, rfl, hI⟩
  have hqN : Hid _ := hI.n
  have hqC : Hid _ := hI.f
  have H2 : Hid (Mm w2 [] ∧ Pw w N C q w2) := ⟨Mm.nil _, hI⟩
  clear hI H1
  simp only [Act.put, sa, sz, ss]
  refine rest_set (d := 13) (v := .tuple #[.slice q.p q.n q.cp, .int .i64 0]) (w' := w2) rfl rfl rfl (rfl) ?_
  simp only [Act.put, sa, sz, ss]
  refine rest_set (d := 17) (v := .slice q.p q.n q.cp) (w' := w2) rfl rfl rfl (by go_simp) ?_
  simp only [Act.put, sa, sz, ss]
  refine rest_set (d := 18) (v := .int .i64 0) (w' := w2) rfl rfl rfl (by go_simp) ?_
  simp only [Act.put, sa, sz, ss]
  refine rest_set (d := 7) (v := .slice q.p q.n q.cp) (w' := w2) rfl rfl rfl (rfl) ?_
  simp only [Act.put, sa, sz, ss]
  refine rest_set (d := 8) (v := .int .i64 0) (w' := w2) rfl rfl rfl (rfl) ?_
  simp only [Act.put, sa, sz, ss]
  refine rest_nil (then_normal ?_)
  refine wp_seq (wp_seq ?_)
  refine sq_start (l := [0, 1]) rfl ?_
  refine rest_set (d := 19) (v := .int .i64 0) (w' := w2) rfl rfl rfl (rfl) ?_
  simp only [Act.put, sa, sz, ss]
  refine rest_set (d := 20) (v := .bool false) (w' := w2) rfl rfl rfl (by kernel_rfl) ?_
  simp only [Act.put, sa, sz, ss]
  refine rest_nil (then_normal ?_)
  refine wp_cond_false rfl (wp_skip ?_)
  refine then_normal (wp_seq ?_)
  refine sq_start (l := [0, 1, 2, 3, 4, 5, 6]) rfl ?_
  refine rest_set (d := 22) (v := PT d 0) (w' := w2) rfl rfl rfl (rfl) ?_
  simp only [Act.put, sa, sz, ss]
  refine rest_set (d := 23) (v := .string s) (w' := w2) rfl rfl rfl (rfl) ?_
  simp only [Act.put, sa, sz, ss]
  refine rest_enter (d := 24) (R := fun vv w' => vv = .string s ∧ Below w2.heap.size w2 w') rfl rfl rfl (exec_call (args := #[.string s]) rfl call57 rfl (mpn rfl)) (Calls.mono (sclone_any s hs w2) (fun e w2 hh => ⟨_, hh.1, rfl, hh.2⟩)) ?_
  rintro _ w3 ⟨rfl, hb⟩
  have H3 : Hid (Mm w3 [] ∧ Pw w N C q w3) := ⟨H2.out.1.below hb, Pw.step H2.out.2 (hb)⟩
  clear hb
  clear H2
  simp only [Act.put, sa, sz, ss]
  refine rest_enter (d := 25) (R := fun vv w' => vv = .agg (ints .u32 crt 256).toArray ∧ Below w3.heap.size w3 w') rfl rfl rfl (exec_call (args := #[]) rfl call146 rfl (mpn rfl)) (Calls.mono (newTable_any w3) (fun e w2 hh => ⟨_, hh.1, rfl, hh.2⟩)) ?_
  rintro _ w4 ⟨rfl, hb⟩
  have H4 : Hid (Mm w4 [] ∧ Pw w N C q w4) := ⟨H3.out.1.below hb, Pw.step H3.out.2 (hb)⟩
  clear hb
  clear H3
  simp only [Act.put, sa, sz, ss]
  refine rest_set (d := 26) (v := .agg (jc d s 0 0).toArray) (w' := w4) rfl rfl rfl (ex_bj rfl rfl rfl rfl) ?_
  simp only [Act.put, sa, sz, ss]
  refine rest_set (d := 27) (v := PT w4.heap.size 0) (w' := (w4.alloc (.cells (jc d s 0 0).toArray 171))) rfl rfl rfl (ex_boxT rfl rfl) ?_
  simp only [Act.put, sa, sz, ss]
  have hwj : Hid (w.heap.size ≤ w4.heap.size) := H4.out.2.b.size
  have H5 : Hid (Mm (w4.alloc (.cells (jc d s 0 0).toArray 171)) [(w4.heap.size, jc d s 0 0)] ∧ Pw w N C q (w4.alloc (.cells (jc d s 0 0).toArray 171))) := ⟨(Mm.nil _).alloc _ _ rfl, H4.out.2.step ((Below.refl _ _).alloc (Nat.le_refl _) _)⟩
  clear H4
  generalize hgw : w4.alloc (.cells (jc d s 0 0).toArray 171) = w5 at H5 ⊢
  clear hgw
  generalize w4.heap.size = j at H5 hwj ⊢
  refine rest_set (d := 9) (v := PT j 0) (w' := w5) rfl rfl rfl (rfl) ?_
  simp only [Act.put, sa, sz, ss]
  refine rest_nil (then_normal (wp_seq ?_))
  refine sq_start (l := [0, 1, 2, 3, 4, 5, 6, 7, 8, 9, 10, 11]) rfl ?_
  refine rest_set (d := 29) (v := PT j 0) (w' := w5) rfl rfl rfl (rfl) ?_
  simp only [Act.put, sa, sz, ss]
  refine rest_set (d := 30) (v := PT j 0) (w' := w5) rfl rfl rfl (by go_simp) ?_
  simp only [Act.put, sa, sz, ss]
  refine rest_set (d := 31) (v := PT j 2) (w' := w5) rfl rfl rfl (by go_simp) ?_
  simp only [Act.put, sa, sz, ss]
  refine rest_set (d := 32) (v := .slice q.p q.n q.cp) (w' := w5) rfl rfl rfl (rfl) ?_
  simp only [Act.put, sa, sz, ss]
  have hlq : Lgk q.f q.n A Ln M := by rw [hqN.out, hqC.out]; exact hlg.out
  have heq : End q.f q.n A M := by rw [hqN.out, hqC.out]; exact hen.out
  refine rest_enter (d := 33) (R := fun vv w' => ∃ v P, vv = .tuple #[v, .int .i64 ((A M : Nat) : Int), .int .i64 0] ∧ Lr w5 v M P w' ∧ ∀ i, i < M → (P i).n = Ln i ∧ ∀ j, j < Ln i → (P i).f j = C (A i + 8 + j)) rfl rfl rfl (exec_call (args := #[PT j 2, .slice q.p q.n q.cp]) rfl call148 rfl (mpn rfl)) (Calls.mono (read_fine j 2 q A Ln M (by rw [hqN.out]; exact hN) w5 (Tb.jc (H5.out.1.one 0 rfl)) ⟨H5.out.2.ok, H5.out.2.rs⟩ H5.out.2.no hlq heq) (fun e w2 hh => by obtain ⟨v, P, he, hI, hP⟩ := hh; exact ⟨_, he, v, P, rfl, hI, by rw [← hqC.out]; exact hP⟩)) ?_
  rintro _ w6 ⟨v, P, rfl, hI, hP⟩
  have hPs : Hid _ := hP
  have hjB : Hid (j < w5.heap.size) := (H5.out.1.blk _ (List.mem_cons_self ..)).1
  have hBw : Hid (w.heap.size ≤ w5.heap.size) := H5.out.2.b.size
  have H6 : Hid (Mm w6 [(j, jc d s 0 0)] ∧ Below w.heap.size w w6 ∧ Lq w5.heap.size v M P w6) := ⟨H5.out.1.below hI.b, below_on _ _ H5.out.2.b hI.b, hI.lq⟩
  clear hI hP hlq heq H5
  generalize w5.heap.size = B at H6 hjB hBw
  simp only [Act.put, sa, sz, ss]
  refine rest_set (d := 28) (v := .tuple #[v, .int .i64 ((A M : Nat) : Int), .int .i64 0]) (w' := w6) rfl rfl rfl (rfl) ?_
  simp only [Act.put, sa, sz, ss]
  refine rest_set (d := 34) (v := v) (w' := w6) rfl rfl rfl (by go_simp) ?_
  simp only [Act.put, sa, sz, ss]
  refine rest_set (d := 35) (v := .int .i64 ((A M : Nat) : Int)) (w' := w6) rfl rfl rfl (by go_simp) ?_
  simp only [Act.put, sa, sz, ss]
  refine rest_set (d := 36) (v := .int .i64 0) (w' := w6) rfl rfl rfl (by go_simp) ?_
  simp only [Act.put, sa, sz, ss]
  refine rest_set (d := 10) (v := v) (w' := w6) rfl rfl rfl (rfl) ?_
  simp only [Act.put, sa, sz, ss]
  refine rest_set (d := 11) (v := .int .i64 ((A M : Nat) : Int)) (w' := w6) rfl rfl rfl (rfl) ?_
  simp only [Act.put, sa, sz, ss]
  refine rest_set (d := 8) (v := .int .i64 0) (w' := w6) rfl rfl rfl (rfl) ?_
  simp only [Act.put, sa, sz, ss]
  refine rest_nil (then_normal ?_)
  refine wp_seq (wp_seq ?_)
  refine sq_start (l := [0, 1]) rfl ?_
  refine rest_set (d := 37) (v := .int .i64 0) (w' := w6) rfl rfl rfl (rfl) ?_
  simp only [Act.put, sa, sz, ss]
  refine rest_set (d := 38) (v := .bool false) (w' := w6) rfl rfl rfl (by kernel_rfl) ?_
  simp only [Act.put, sa, sz, ss]
  refine rest_nil (then_normal ?_)
  refine wp_cond_false rfl (wp_skip ?_)
  refine then_normal (wp_seq (wp_seq ?_))
  refine sq_start (l := [0, 1, 2, 3]) rfl ?_
  refine rest_set (d := 40) (v := .int .i64 ((A M : Nat) : Int)) (w' := w6) rfl rfl rfl (rfl) ?_
  simp only [Act.put, sa, sz, ss]
  refine rest_set (d := 41) (v := .slice q.p q.n q.cp) (w' := w6) rfl rfl rfl (rfl) ?_
  simp only [Act.put, sa, sz, ss]
  refine rest_set (d := 42) (v := .int .i64 ((q.n : Nat) : Int)) (w' := w6) rfl rfl rfl (by go_simp) ?_
  simp only [Act.put, sa, sz, ss]
  refine rest_set (d := 43) (v := .bool false) (w' := w6) rfl rfl rfl (by have := hqN.out; go_simp <;> omega) ?_
  simp only [Act.put, sa, sz, ss]
  refine rest_nil (then_normal ?_)
  refine wp_cond_false rfl (wp_skip ?_)
  refine then_normal (wp_seq ?_)
  refine sq_start (l := [0, 1, 2, 3, 4, 5, 6, 7, 8, 9, 10]) rfl ?_
  refine rest_set (d := 51) (v := PT j 0) (w' := w6) rfl rfl rfl (rfl) ?_
  simp only [Act.put, sa, sz, ss]
  refine rest_set (d := 52) (v := PT j 0) (w' := w6) rfl rfl rfl (rfl) ?_
  simp only [Act.put, sa, sz, ss]
  refine rest_set (d := 53) (v := v) (w' := w6) rfl rfl rfl (rfl) ?_
  simp only [Act.put, sa, sz, ss]
  refine rest_set (d := 54) (v := .int .i64 ((M : Nat) : Int)) (w' := w6) rfl rfl rfl (ex_lnL H6.out.2.2.own rfl rfl) ?_
  simp only [Act.put, sa, sz, ss]
  refine rest_set (d := 55) (v := .int .i64 ((A M : Nat) : Int)) (w' := w6) rfl rfl rfl (rfl) ?_
  simp only [Act.put, sa, sz, ss]
  refine rest_set (d := 56) (v := PT j 0) (w' := w6) rfl rfl rfl (by go_simp) ?_
  simp only [Act.put, sa, sz, ss]
  refine rest_set (d := 57) (v := PT j 258) (w' := w6) rfl rfl rfl (by go_simp) ?_
  simp only [Act.put, sa, sz, ss]
  refine rest_store rfl rfl rfl (ex_st1 (v := .int .i64 ((M : Nat) : Int)) H6.out.1 0 rfl rfl Tryz.sizeOf3 rfl rfl rfl (by rw [jc_len]; decide)) ?_
  have H7 : Hid (Mm (w6.setCells j 258 [Value.int .i64 ((M : Nat) : Int)]) [(j, jc d s M 0)] ∧ Below w.heap.size w (w6.setCells j 258 [Value.int .i64 ((M : Nat) : Int)]) ∧ Lq B v M P (w6.setCells j 258 [Value.int .i64 ((M : Nat) : Int)])) := ⟨by
    have h := H6.out.1.put 0 (off := 258) (vs := [Value.int .i64 ((M : Nat) : Int)]) rfl (by rw [jc_len]; show 258 + 1 ≤ 260; decide)
    rw [jc_putc] at h
    exact h, ⟨below_setCells _ hwj.out _ _ _ H6.out.2.1, H6.out.2.2.put hjB.out _ _⟩⟩
  clear H6
  generalize hgw : World.setCells _ _ _ _ = w7 at H7 ⊢
  clear hgw
  refine rest_set (d := 58) (v := PT j 0) (w' := w7) rfl rfl rfl (by go_simp) ?_
  simp only [Act.put, sa, sz, ss]
  refine rest_set (d := 59) (v := PT j 259) (w' := w7) rfl rfl rfl (by go_simp) ?_
  simp only [Act.put, sa, sz, ss]
  refine rest_store rfl rfl rfl (ex_st1 (v := .int .i64 ((A M : Nat) : Int)) H7.out.1 0 rfl rfl Tryz.sizeOf3 rfl rfl rfl (by rw [jc_len]; decide)) ?_
  have H8 : Hid (Mm (w7.setCells j 259 [Value.int .i64 ((A M : Nat) : Int)]) [(j, jc d s M (A M))] ∧ Below w.heap.size w (w7.setCells j 259 [Value.int .i64 ((A M : Nat) : Int)]) ∧ Lq B v M P (w7.setCells j 259 [Value.int .i64 ((A M : Nat) : Int)])) := ⟨by
    have h := H7.out.1.put 0 (off := 259) (vs := [Value.int .i64 ((A M : Nat) : Int)]) rfl (by rw [jc_len]; show 259 + 1 ≤ 260; decide)
    rw [jc_putz] at h
    exact h, ⟨below_setCells _ hwj.out _ _ _ H7.out.2.1, H7.out.2.2.put hjB.out _ _⟩⟩
  clear H7
  generalize hgw : World.setCells _ _ _ _ = w8 at H8 ⊢
  clear hgw
  refine rest_nil (then_normal (wp_seq ?_))
  refine sq_start (l := [0, 1, 2, 3, 4]) rfl ?_
  refine rest_set (d := 60) (v := PT j 0) (w' := w8) rfl rfl rfl (rfl) ?_
  simp only [Act.put, sa, sz, ss]
  refine rest_set (d := 61) (v := v) (w' := w8) rfl rfl rfl (rfl) ?_
  simp only [Act.put, sa, sz, ss]
  refine rest_set (d := 4) (v := PT j 0) (w' := w8) rfl rfl rfl (rfl) ?_
  simp only [Act.put, sa, sz, ss]
  refine rest_set (d := 5) (v := v) (w' := w8) rfl rfl rfl (rfl) ?_
  simp only [Act.put, sa, sz, ss]
  refine rest_set (d := 6) (v := .int .i64 0) (w' := w8) rfl rfl rfl (rfl) ?_
  simp only [Act.put, sa, sz, ss]
  refine rest_nil (then_normal (wp_ret ?_))
  repeat (first | refine then_ret ?_ | refine block_ret ?_)
  refine bodyPost_ret (v := .tuple #[PT j 0, v, .int .i64 0]) (by simp [results, Tryz.results111, go_sem, *]) rfl ?_
  exact ⟨_, _, _, _, rfl, H8.out.1, H8.out.2.1, H8.out.2.2, hwj.out, hjB.out, hPs.out⟩
end Wi
end Rg
end Go.Proofs.YtmcpagjhpfbpgaaGreatDoor
end
section
namespace Go.Proofs.YtmcpagjhpfbpgaaGreatDoor
open Go.RowKit
namespace Rg
namespace Wi
set_option maxRecDepth 100000
/-- A part's bytes. -/
def q8 (f : Nat → Nat) (n : Nat) : List Int := (List.range n).map fun i => ((f i : Nat) : Int)
theorem q8_cg {f g : Nat → Nat} {n : Nat} (h : ∀ i, i < n → f i = g i) : q8 f n = q8 g n := by
  unfold q8
  exact List.map_congr_left fun i hi => by rw [h i (by simpa using hi)]
theorem bsl_q {q : Pt8} {u : World} (h : Pok q) (hr : q.rs u) : BSl u (q8 q.f q.n) q.cp (.slice q.p q.n q.cp) := by
  rcases Nat.eq_zero_or_pos q.n with e | e
  · rw [e]
    exact BSl.void q.p rfl
  · rw [h.at e]
    exact Rd.bsl ⟨hr.lt e, fun i hi => hr.at_ i hi⟩ h.le
theorem same_q {q r : Pt8} {u : World} (hq : Pok q ∧ q.rs u) (hr : Pok r ∧ r.rs u) (hn : q.n = r.n) (hf : ∀ i, i < r.n → q.f i = r.f i) : Calls Tryz.prog 20 #[.slice q.p q.n q.cp, .slice r.p r.n r.cp] u fun e u' => e = .returned (.bool true) ∧ Below u.heap.size u u' := by
  have h1 := bsl_q hq.1 hq.2
  rw [show q8 q.f q.n = q8 r.f r.n by rw [hn]; exact q8_cg hf] at h1
  exact same_bb h1 (bsl_q hr.1 hr.2)
/-- A list of parts, as it is read. -/
structure Lv (pl : Option Addr) (g o m : Nat) (P : Nat → Pt8) (u : World) : Prop where
  p : 0 < m → pl = some ⟨g, o, none⟩
  lt : 0 < m → g < u.heap.size
  at_ : ∀ i, i < m → u.cell? ⟨g, o + i, none⟩ = some (.slice (P i).p (P i).n (P i).cp)
  ok : ∀ i, i < m → Pok (P i) ∧ ((P i).p = none → (P i).cp = 0) ∧ (P i).rs u
theorem Lv.below {pl : Option Addr} {g o m : Nat} {P : Nat → Pt8} {u u' : World} (h : Lv pl g o m P u) (hb : Below u.heap.size u u') : Lv pl g o m P u' :=
  ⟨h.p, fun h0 => Nat.lt_of_lt_of_le (h.lt h0) hb.size, fun i hi => by rw [hb.cell (p := ⟨g, o + i, none⟩) (h.lt (by omega))]; exact h.at_ i hi, fun i hi => ⟨(h.ok i hi).1, (h.ok i hi).2.1, (h.ok i hi).2.2.below hb⟩⟩
theorem Lq.lv {B m : Nat} {v : Value} {P : Nat → Pt8} {u : World} (h : Lq B v m P u) : ∃ pl c g, v = .slice pl m c ∧ Lv pl g 0 m P u := by
  have hk : ∀ i, i < m → Pok (P i) ∧ ((P i).p = none → (P i).cp = 0) ∧ (P i).rs u := fun i hi => ⟨(h.ok i hi).1, (h.ok i hi).2.1, (h.ok i hi).2.2.1⟩
  rcases h.own.2 with ⟨h1, h2⟩ | ⟨g, cap, cur, h1, h2, h3, h4, _⟩
  · subst h2
    exact ⟨_, _, 0, h1, fun h0 => absurd h0 (Nat.lt_irrefl _), fun h0 => absurd h0 (Nat.lt_irrefl _), fun i hi => absurd hi (Nat.not_lt_zero _), hk⟩
  · refine ⟨_, _, g, h1, fun _ => rfl, fun _ => (Array.getElem?_eq_some_iff.1 h3).1, fun i hi => ?_, hk⟩
    have e := World.ownsRow.cells h.own (g := g) (by rw [h1]; rfl) i _ (pcs_get P hi)
    rwa [show (⟨g, 0, none⟩ : Addr).add i = ⟨g, 0 + i, none⟩ by unfold Addr.add; split <;> simp_all] at e
section
variable {ρ : Operand → Value} {o : Oper} {x y : Operand} {g off j m c : Nat} {v : Value} {w : World}
end
theorem Lq.base {B B' m : Nat} {v : Value} {P : Nat → Pt8} {u : World} (h : Lq B v m P u) (hb : B' ≤ B) : Lq B' v m P u := ⟨own_base h.own hb, fun i hi => ⟨(h.ok i hi).1, (h.ok i hi).2.1, (h.ok i hi).2.2.1, fun h0 => Nat.le_trans hb ((h.ok i hi).2.2.2 h0)⟩⟩
end Wi
end Rg
end Go.Proofs.YtmcpagjhpfbpgaaGreatDoor
end
section
namespace Go.Proofs.YtmcpagjhpfbpgaaGreatDoor
open Go.RowKit
namespace Rg
namespace Wi
set_option maxRecDepth 100000
/-- A disk, and beside it parts and cells that it does not touch. -/
structure De (w0 : World) (d : Nat) (A : Ad) (ps : List Pt8) (cs : List (Nat × Nat × Value)) (u : World) : Prop where
  da : Da w0 d A (ps.flatMap gbl ++ cs.map Prod.fst) u
  pq : ∀ q ∈ ps, Pq q u
  cl : ∀ c ∈ cs, u.cell? ⟨c.1, c.2.1, none⟩ = some c.2.2
section
variable {w0 u u' : World} {d : Nat} {A A' : Ad} {ps : List Pt8} {cs : List (Nat × Nat × Value)}
theorem De.kx (h : De w0 d A ps cs u) (ha : Da w0 d A' (ps.flatMap gbl ++ cs.map Prod.fst) u') (hk : Kx (ps.flatMap gbl ++ cs.map Prod.fst) u u') : De w0 d A' ps cs u' :=
  ⟨ha, fun q hq => (h.pq q hq).kx hk fun x hx => List.mem_append_left _ (List.mem_flatMap.2 ⟨q, hq, hx⟩), fun c hc => by
    rw [World.cell?_of_block (a := ⟨c.1, c.2.1, none⟩) (hk.2 _ (List.mem_append_right _ (List.mem_map.2 ⟨c, hc, rfl⟩)))]
    exact h.cl c hc⟩
theorem De.step (h : De w0 d A ps cs u) (hb : Below u.heap.size u u') : De w0 d A ps cs u' := h.kx (h.da.step hb) (h.da.kx hb)
theorem De.b (h : De w0 d A ps cs u) : Below w0.heap.size w0 u := h.da.b
theorem De.part {q : Pt8} (h : De w0 d A ps cs u) (hq : Pq q u') (hb : Below u.heap.size u u') (hd : Da w0 d A (gbl q ++ (ps.flatMap gbl ++ cs.map Prod.fst)) u') : De w0 d A (q :: ps) cs u' :=
  ⟨by rw [List.flatMap_cons, List.append_assoc]; exact hd, fun x hx => by
    rcases List.mem_cons.1 hx with e | e
    · subst e; exact hq
    · exact ((h.step hb).pq x e), (h.step hb).cl⟩
theorem De.cell {g o : Nat} {v : Value} (h : De w0 d A ps cs u) (hb : Below u.heap.size u u') (h1 : u.heap.size ≤ g) (h2 : g < u'.heap.size) (h3 : u'.cell? ⟨g, o, none⟩ = some v) : De w0 d A ps ((g, o, v) :: cs) u' := by
  have e := h.da.add (M := [g]) hb fun x hx => by obtain rfl := List.mem_singleton.1 hx; exact ⟨h1, h2⟩
  refine ⟨e.sub fun x hx => ?_, (h.step hb).pq, fun c hc => ?_⟩
  · simp only [List.map_cons, List.mem_append, List.mem_cons] at hx ⊢
    rcases hx with e | e | e
    · exact .inr (.inl e)
    · exact .inl (.inl e)
    · exact .inr (.inr e)
  · rcases List.mem_cons.1 hc with e | e
    · subst e; exact h3
    · exact (h.step hb).cl c e
/-- A row that was just laid. -/
def lit (l : List Nat) : Obj := .cells (l.map fun x => Value.int .u8 ((x : Nat) : Int)).toArray 5
def ltp (g : Nat) (l : List Nat) : Pt8 := ⟨g, 0, l.length, l.length, some ⟨g, 0, none⟩, fun i => l.getD i 0⟩
theorem ltp_bs (g : Nat) (l : List Nat) : bs (ltp g l).n (ltp g l).f = l := by
  apply List.ext_getElem?
  intro i
  by_cases h : i < l.length
  · rw [bs_get _ (show i < (ltp g l).n from h)]
    show some (l.getD i 0) = _
    rw [List.getD_eq_getElem?_getD, List.getElem?_eq_getElem h]
    rfl
  · rw [List.getElem?_eq_none (by rw [bs_len]; show l.length ≤ i; omega), List.getElem?_eq_none (by omega)]
theorem ltp_pq (u : World) (l : List Nat) : Pq (ltp u.heap.size l) (u.alloc (lit l)) := by
  refine ⟨⟨Bv.start _ _ _ _, Nat.le_refl _⟩, (fun e => by cases e), fun _ => ?_, fun i hi => ?_⟩
  · show u.heap.size < (u.alloc _).heap.size
    simp
  · have hi : i < l.length := hi
    have h := World.alloc_heap_new u (lit l)
    show (u.alloc (lit l)).cell? ⟨u.heap.size, 0 + i, none⟩ = some (.int .u8 ((l.getD i 0 : Nat) : Int))
    unfold World.cell?
    dsimp only
    rw [h, Nat.zero_add]
    unfold lit
    simp [List.getD_eq_getElem?_getD, hi]
theorem De.lit (h : De w0 d A ps cs u) (l : List Nat) : De w0 d A (ltp u.heap.size l :: ps) cs (u.alloc (lit l)) := by
  have hb : Below u.heap.size u (u.alloc (Wi.lit l)) := (Below.refl _ u).alloc (Nat.le_refl _) _
  refine h.part (ltp_pq u l) hb (h.da.add hb fun x hx => ?_)
  unfold gbl at hx
  split at hx
  · cases hx
  · obtain rfl := List.mem_singleton.1 hx
    exact ⟨Nat.le_refl _, by show u.heap.size < (u.alloc _).heap.size; simp⟩
theorem De.drop {q : Pt8} (h : De w0 d A (q :: ps) cs u) : De w0 d A ps cs u :=
  ⟨h.da.sub fun x hx => by
    rw [List.flatMap_cons]
    simp only [List.mem_append] at hx ⊢
    exact hx.elim (fun e => .inl (.inr e)) .inr, fun x hx => h.pq x (List.mem_cons_of_mem _ hx), h.cl⟩
theorem same_lit {q : Pt8} (hq : Pq q u) (l : List Nat) (hl : bs q.n q.f = l) :
    Calls Tryz.prog 20 #[.slice q.p q.n q.cp, .slice (some ⟨u.heap.size, 0, none⟩) l.length l.length] (u.alloc (Wi.lit l)) fun e u' => e = .returned (.bool true) ∧ Below u.heap.size u u' := by
  have hb : Below u.heap.size u (u.alloc (Wi.lit l)) := (Below.refl _ u).alloc (Nat.le_refl _) _
  have hp := ltp_pq u l
  obtain ⟨e1, e2⟩ := bs_eq (hl.trans (ltp_bs u.heap.size l).symm)
  exact (same_q (q := q) (r := ltp u.heap.size l) ⟨hq.1, (hq.below hb).2.2⟩ ⟨hp.1, hp.2.2⟩ e1 (fun i hi => e2 i (by rw [e1]; exact hi))).mono fun _ _ hh => ⟨hh.1, hb.trans (hh.2.mono hb.size)⟩
end
end Wi
end Rg
end Go.Proofs.YtmcpagjhpfbpgaaGreatDoor
end
section
namespace Go.Proofs.YtmcpagjhpfbpgaaGreatDoor
open Go.RowKit
namespace Rg
namespace Wi
set_option maxRecDepth 100000
open Go.Shelf Go.Maps
def Dq.del (D : Dq) (s : ByteArray) : Dq := ⟨D.d, D.mb, D.rb, D.k, D.fs.filter (fun g => decide (g.nm ≠ s)), D.rf⟩
theorem lk_del {fs : List Fq} {s x : ByteArray} : lk (fs.filter (fun g => decide (g.nm ≠ s))) x = if x = s then none else lk fs x := by
  unfold lk
  by_cases e : x = s
  · rw [if_pos e]
    refine List.find?_eq_none.2 (fun g hg hd => ?_)
    have h1 := of_decide_eq_true (List.mem_filter.1 hg).2
    have h2 := of_decide_eq_true hd
    rw [h2] at h1
    exact h1 e
  · rw [if_neg e]
    refine find_keepM fs (fun g _ hd => decide_eq_true ?_)
    have h2 := of_decide_eq_true hd
    rw [h2]
    exact e
theorem DOk.del {w u : World} {D : Dq} {s : ByteArray} (h : DOk w D) (hc : Chg [D.mb] w u) {X : DataW Nat} {n : Nat} (hm : u.ownsMap Tryz.prog 9 RF D.mb n X) (ha : ∀ x, X.atKey (ky x) .nil = if x = s then .nil else dv (lk D.fs x)) (hh : ∀ x, Maps.has X (ky x) = (!decide (x = s) && (lk D.fs x).isSome)) : DOk u (D.del s) := by
  have key : ∀ y ∈ (D.del s).fs, y ∈ D.fs := fun y hy => (List.mem_filter.1 hy).1
  have hlk : ∀ x, lk (D.del s).fs x = if x = s then none else lk D.fs x := fun x => lk_del
  have hun : ((D.del s).fs.map Fq.nm).Nodup := (List.filter_sublist.map Fq.nm).nodup h.un
  have hh2 : ∀ x, Maps.has X (ky x) = (lk (D.del s).fs x).isSome := fun x => by
    rw [hh, hlk]
    by_cases e2 : x = s
    · rw [if_pos e2, decide_eq_true e2]; rfl
    · rw [if_neg e2, decide_eq_false e2]; rfl
  have hsz := map_size hm hh2 hun
  obtain ⟨n', Y, y1, y2⟩ := h.rm
  have nin : ∀ y ∈ D.fs, ∀ x ∈ y.bl, x ∉ [D.mb] := fun y hy x hx hq => (h.hd y hy x hx).2.1 (List.mem_singleton.1 hq)
  refine ⟨hc.mm h.cel (fun p hp hq => ?_), ⟨X, hsz ▸ ownMap_tight hm, fun x => ?_, hh2, hsz⟩, ⟨n', Y, ownMap_keep y1 (hc.block _ y1.lt (fun hq => h.h3.2.2 (List.mem_singleton.1 hq).symm)), y2⟩, fun y hy => (h.fl y (key y hy)).chg hc (nin y (key y hy)), fun y hy z hz hne x hx => h.ap y (key y hy) z (key z hz) hne x hx, fun y hy x hx => h.hd y (key y hy) x hx, h.h3, hun, h.k1, Nat.le_trans (List.length_filter_le _ _) h.n64⟩
  · obtain rfl := List.mem_singleton.1 hp
    exact h.h3.1 (List.mem_singleton.1 hq)
  · rw [ha, hlk]
    by_cases e2 : x = s
    · rw [if_pos e2, if_pos e2]; rfl
    · rw [if_neg e2, if_neg e2]
theorem Dw.del {w u : World} {D D1 : Dq} {s : ByteArray} (hd : DOk u (D1.del s)) (hc : Chg D.bl w u) (hb : ∀ x ∈ D1.bl, x ∈ D.bl) : Dw w D (D1.del s) u :=
  ⟨hd, hc, fun x hx => .inl (hb x (by
    unfold Dq.bl at hx ⊢
    simp only [List.mem_cons, List.mem_flatMap] at hx ⊢
    rcases hx with e | e | e | ⟨y, hy, e⟩
    · exact .inl e
    · exact .inr (.inl e)
    · exact .inr (.inr (.inl e))
    · exact .inr (.inr (.inr ⟨y, (List.mem_filter.1 hy).1, e⟩))))⟩
set_option maxHeartbeats 1000000 in
theorem Remove_ok_f (D : Dq) (s : ByteArray) (hs : s.size ≤ maxLen) (f : Fq) (w : World) (h : DOk w D) (hk : D.k + 1 < 4611686018427387904) (hno : D.no = false) (hl : lk D.fs s = some f) :
    Calls Tryz.prog 115 #[PT D.d 0, .string s] w fun e w' => e = .returned (.int .i64 0) ∧ Dw w D (D.tick.del s) w' := by
  have hc0 : Calls Tryz.prog 97 #[PT D.d 0, .string s] w fun e w' => e = .returned (.tuple #[PT f.g 0, .int .i64 0]) ∧ DOk w' D.tick ∧ Chg D.bl w w' := (counted_f D s hs w h hk).mono fun e w' hh => ⟨by rw [hh.1]; unfold Dq.cnt; rw [hno, hl]; rfl, hh.2⟩
  clear h
  go_enter Tryz.func115, Tryz.ntmps115
  go_wp2_with (first
    | (go_at_call 97; refine hc0.mono ?_; rintro e w1 ⟨rfl, h1, hc1⟩; have HD : Hid (DOk w1 D.tick) := h1; obtain ⟨X, x1, x2, x3, cD0, hmd⟩ := ren_pre h1; have cD : w1.cell? ⟨D.d, 0, none⟩ = some (.map (some D.mb)) := cD0; clear cD0 h1)
    | (at_delete; refine wpList_delete_own _ rfl _ _ 59 9 rfl 120 (Maps.string_keyed Tryz.underlying9) Tryz.underlying59 RF D.mb _ X rfl x1 _ (ky s) rfl (WideMaps.keyOf_string_mk Tryz.underlying9 hs) ?_; intro w4 hown4 hturn4)
    | fail)
  go_ret
  refine ⟨rfl, Dw.del (HD.out.del (Chg.grown hturn4.grown) hown4 (fun x => ?_) (fun x => ?_)) (hc1.trans (Chg.grown hturn4.grown) (fun x hx => .inl (by rw [List.mem_singleton.1 hx]; show D.mb ∈ D.bl; unfold Dq.bl; simp))) (fun x hx => hx)⟩
  · by_cases e2 : x = s
    · rw [if_pos e2, e2, Maps.atKey_del_same]
    · rw [if_neg e2, Maps.atKey_del_other (fun e3 => e2 (ky_inj e3)), x2]
  · by_cases e2 : x = s
    · rw [decide_eq_true e2, e2, Maps.has_del_same]
      rfl
    · rw [decide_eq_false e2, Maps.has_del_other (fun e3 => e2 (ky_inj e3)), x3]
      rfl
set_option maxHeartbeats 1000000 in
theorem Remove_no_f (D : Dq) (s : ByteArray) (hs : s.size ≤ maxLen) (w : World) (h : DOk w D) (hk : D.k + 1 < 4611686018427387904) (r : Int) (hr : D.cnt s = .tuple #[.pointer none, .int .i64 r]) (hr0 : r ≠ 0) :
    Calls Tryz.prog 115 #[PT D.d 0, .string s] w fun e w' => e = .returned (.int .i64 r) ∧ Dw w D D.tick w' := by
  have hc0 : Calls Tryz.prog 97 #[PT D.d 0, .string s] w fun e w' => e = .returned (.tuple #[.pointer none, .int .i64 r]) ∧ DOk w' D.tick ∧ Chg D.bl w w' := (counted_f D s hs w h hk).mono fun e w' hh => ⟨by rw [hh.1, hr], hh.2⟩
  clear h hr
  go_enter Tryz.func115, Tryz.ntmps115
  go_wp2_with (first
    | (go_at_call 97; refine hc0.mono ?_; rintro e w1 ⟨rfl, h1, hc1⟩; have HD : Hid (DOk w1 D.tick) := h1; clear h1)
    | fail)
  go_ret
  exact ⟨rfl, HD.out, hc1, fun x hx => .inl hx⟩
theorem Remove_f (D : Dq) (s : ByteArray) (hs : s.size ≤ maxLen) (w : World) (h : DOk w D) (hk : D.k + 1 < 4611686018427387904) :
    Calls Tryz.prog 115 #[PT D.d 0, .string s] w fun e w' => if D.no then e = .returned (.int .i64 13) ∧ Dw w D D.tick w' else match lk D.fs s with
      | none => e = .returned (.int .i64 6) ∧ Dw w D D.tick w'
      | some _ => e = .returned (.int .i64 0) ∧ Dw w D (D.tick.del s) w' := by
  cases hno : D.no with
  | true => exact (Remove_no_f D s hs w h hk 13 (by unfold Dq.cnt; rw [hno]; rfl) (by decide)).mono fun _ _ hh => by simpa using hh
  | false =>
    cases hl : lk D.fs s with
    | none => exact (Remove_no_f D s hs w h hk 6 (by unfold Dq.cnt; rw [hno, hl]; rfl) (by decide)).mono fun _ _ hh => by simpa using hh
    | some f => exact (Remove_ok_f D s hs f w h hk hno hl).mono fun _ _ hh => by simpa using hh
end Wi
end Rg
end Go.Proofs.YtmcpagjhpfbpgaaGreatDoor
end
section
namespace Go.Proofs.YtmcpagjhpfbpgaaGreatDoor
open Go.RowKit
namespace Rg
namespace Wi
set_option maxRecDepth 100000
/-- A number below 100 in digits. -/
def dig (n : Nat) : List UInt8 := if n < 10 then [UInt8.ofNat (48 + n)] else [UInt8.ofNat (48 + n / 10), UInt8.ofNat (48 + n % 10)]
set_option maxHeartbeats 1000000 in
theorem itoa_lo (n : Nat) (hn : n < 10) (w : World) : Calls Tryz.prog 116 #[.int .i64 (n : Int)] w fun e w' => e = .returned (.string ⟨(dig n).toArray⟩) ∧ w' = w := by
  obtain rfl | rfl | rfl | rfl | rfl | rfl | rfl | rfl | rfl | rfl : n = 0 ∨ n = 1 ∨ n = 2 ∨ n = 3 ∨ n = 4 ∨ n = 5 ∨ n = 6 ∨ n = 7 ∨ n = 8 ∨ n = 9 := by omega
  all_goals (
    go_enter Tryz.func116, Tryz.ntmps116
    go_wp2_with go_in
    go_ret
    exact ⟨by kernel_rfl, rfl⟩)
set_option maxHeartbeats 1000000 in
theorem snap_any (g : Nat) (base : ByteArray) (hb : base.size ≤ 40) (w : World) (h : w.cell? ⟨g, 1, none⟩ = some (.string base)) : Calls Tryz.prog 113 #[PT g 0] w fun e w' => e = .returned (.string (base ++ ⟨#[46, 115, 110, 97, 112]⟩)) ∧ w' = w := by
  go_enter Tryz.func113, Tryz.ntmps113
  go_wp2
  go_ret
  exact ⟨rfl, rfl⟩
theorem dig_len (n : Nat) : (dig n).length ≤ 2 := by unfold dig; split <;> simp
set_option maxHeartbeats 1000000 in
theorem log_gen (g : Nat) (n : Int) (base t : ByteArray) (hb : base.size ≤ 40) (ht : t.size ≤ 2) (w : World) (h : w.cell? ⟨g, 1, none⟩ = some (.string base)) (hc : ∀ u, Calls Tryz.prog 116 #[.int .i64 n] u fun e w' => e = .returned (.string t) ∧ w' = u) : Calls Tryz.prog 53 #[PT g 0, .int .i64 n] w fun e w' => e = .returned (.string (base ++ ⟨#[46, 108, 111, 103, 46]⟩ ++ t)) ∧ Below w.heap.size w w' := by
  have hs : base.size + 5 + t.size ≤ 9223372036854775807 := by omega
  have HC : Hid _ := hc
  clear hc
  go_enter Tryz.func53, Tryz.ntmps53
  go_wp2
  go_region_with (go_at_call 116; refine (HC.out _).mono ?_; rintro e w' ⟨rfl, hw⟩; subst hw)
  all_goals go_wp2
  all_goals (
    go_ret
    exact ⟨rfl, (Below.refl _ _).drew⟩)
theorem log_any (g n : Nat) (hn : n < 10) (base : ByteArray) (hb : base.size ≤ 40) (w : World) (h : w.cell? ⟨g, 1, none⟩ = some (.string base)) : Calls Tryz.prog 53 #[PT g 0, .int .i64 (n : Int)] w fun e w' => e = .returned (.string (base ++ ⟨#[46, 108, 111, 103, 46]⟩ ++ ⟨(dig n).toArray⟩)) ∧ Below w.heap.size w w' :=
  log_gen g n base _ hb (by show (dig n).toArray.size ≤ 2; simpa using dig_len n) w h (itoa_lo n hn)
set_option maxHeartbeats 1000000 in
theorem tmp_any (g : Nat) (base : ByteArray) (hb : base.size ≤ 40) (w : World) (h : w.cell? ⟨g, 1, none⟩ = some (.string base)) : Calls Tryz.prog 110 #[PT g 0] w fun e w' => e = .returned (.string (base ++ ⟨#[46, 116, 109, 112]⟩)) ∧ w' = w := by
  go_enter Tryz.func110, Tryz.ntmps110
  go_wp2
  go_ret
  exact ⟨rfl, rfl⟩
set_option maxHeartbeats 1000000 in
theorem working_any {w0 u : World} {d : Nat} {A : Ad} {L : List Nat} (h : Da w0 d A L u) : Calls Tryz.prog 55 #[PT d 0] u fun e u' => e = .returned (.bool true) ∧ Below u.heap.size u u' := by
  have H : Hid (Calls Tryz.prog 100 #[PT d 0, .string ⟨#[]⟩] u fun e u' => (∃ (v : Value) (r : Int), e = .returned (.tuple #[v, .int .i64 r]) ∧ ¬r = 1) ∧ Below u.heap.size u u') := (read_a h ⟨#[]⟩ (by decide)).mono fun e u' hh => by
    obtain ⟨hb, hm⟩ := hh
    refine ⟨?_, hb⟩
    split at hm
    · obtain ⟨q, rfl, _⟩ := hm
      exact ⟨_, _, rfl, by decide⟩
    · obtain ⟨rfl, _⟩ := hm
      exact ⟨_, _, rfl, by decide⟩
  clear h
  go_enter Tryz.func55, Tryz.ntmps55
  go_wp2_with (first
    | (go_at_call 100; refine Calls.mono H.out ?_; rintro e w1 ⟨⟨v, r, rfl, hr⟩, hb⟩)
    | fail)
  go_ret
  exact ⟨by show Ending.returned (.bool (r != 1)) = _; simp [hr], hb⟩
/-- May a text be a store's name? -/
theorem app_nil_new (s : ByteArray) (rf : Nat → Bool) (hr : rf 1 = false) : (Ad.app ⟨0, [], rf⟩ s []).1 = if nmd s then 0 else 2 := by
  cases h : nmd s <;> simp [Ad.app, Ad.no, hr, h, Ad.lk]
set_option maxHeartbeats 1000000 in
theorem snamed_ok (s : ByteArray) (hs : s.size ≤ 40) (w : World) : Calls Tryz.prog 56 #[.string s] w fun e w' => e = .returned (.bool (nmd s)) ∧ Below w.heap.size w w' := by
  have hsI : ¬(40 : Int) < s.size := by omega
  have HA : Hid (∀ d u, Da w d ⟨0, [], fun _ => false⟩ [] u → Calls Tryz.prog 35 #[PT d 0, .string s, .slice none 0 0] u fun e u' => e = .returned (.int .i64 (if nmd s then 0 else 2)) ∧ Below w.heap.size w u') := fun d u h =>
    (app_a h (by decide) (fun _ hf => by cases hf) s (by omega) (nilp fun _ => 0) (nilp_ok _ _) (fun x hx => by cases hx) (by decide)).mono fun e u' hh => ⟨by rw [hh.1]; congr 2; exact app_nil_new s _ rfl, hh.2.1.b⟩
  cases hn : nmd s with
  | true =>
    rw [hn] at HA
    go_enter Tryz.func56, Tryz.ntmps56
    go_wp2_with (first
      | (go_at_call 8; refine (New_nil w).mono ?_; rintro e w1 ⟨d, mb, rb, rfl, hN⟩; have H1 : Hid _ := HA.out d w1 (new_a hN); clear hN)
      | (go_at_call 35; refine Calls.mono H1.out ?_; rintro e w2 ⟨rfl, hb⟩)
      | fail)
    go_ret
    exact ⟨rfl, hb⟩
  | false =>
    rw [hn] at HA
    go_enter Tryz.func56, Tryz.ntmps56
    go_wp2_with (first
      | (go_at_call 8; refine (New_nil w).mono ?_; rintro e w1 ⟨d, mb, rb, rfl, hN⟩; have H1 : Hid _ := HA.out d w1 (new_a hN); clear hN)
      | (go_at_call 35; refine Calls.mono H1.out ?_; rintro e w2 ⟨rfl, hb⟩)
      | fail)
    go_ret
    exact ⟨rfl, hb⟩
end Wi
end Rg
end Go.Proofs.YtmcpagjhpfbpgaaGreatDoor
end
section
namespace Go.Proofs.YtmcpagjhpfbpgaaGreatDoor
open Go.RowKit
namespace Rg
namespace Wi
set_option maxRecDepth 100000
def Ad.del (A : Ad) (s : ByteArray) : Ad := ⟨A.k, A.fs.filter (fun g => decide (g.nm ≠ s)), A.rf⟩
def Ad.rem (A : Ad) (s : ByteArray) : Int × Ad := if A.no then (13, A.tick) else match A.lk s with
  | none => (6, A.tick)
  | some _ => (0, A.tick.del s)
theorem rem_a {w0 u : World} {d : Nat} {A : Ad} {L : List Nat} (h : Da w0 d A L u) (hk : A.k < 1000000000) (s : ByteArray) (hs : s.size ≤ 281474976710656) :
    Calls Tryz.prog 115 #[PT d 0, .string s] u fun e u' => e = .returned (.int .i64 (A.rem s).1) ∧ Da w0 d (A.rem s).2 L u' ∧ Kx L u u' := by
  obtain ⟨D, h1, rfl, rfl, h4⟩ := h
  have hk : D.k < 1000000000 := hk
  refine (Remove_f D s (Nat.le_trans hs (by decide)) u h1.dk (by omega)).mono fun e u' hh => ?_
  have hno : D.ab.no = D.no := rfl
  unfold Ad.rem
  by_cases c1 : D.no = true
  · rw [if_pos c1] at hh
    rw [if_pos (hno.trans c1)]
    exact ⟨hh.1, Da.dw h1 h4 hh.2 rfl rfl⟩
  · rw [if_neg c1] at hh
    rw [if_neg (by rw [hno]; exact c1), Dq.lk_ab]
    cases hl : lk D.fs s with
    | none =>
      rw [hl] at hh
      exact ⟨hh.1, Da.dw h1 h4 hh.2 rfl rfl⟩
    | some f =>
      rw [hl] at hh
      refine ⟨hh.1, Da.dw h1 h4 hh.2 rfl ?_⟩
      unfold Dq.ab Dq.del Ad.tick Ad.del Dq.tick
      simp only
      congr 1
      induction D.fs with
      | nil => rfl
      | cons x r ih =>
        simp only [List.filter_cons, List.map_cons]
        show _ = if decide (x.nm ≠ s) = true then _ else _
        split
        · rw [List.map_cons, ih]
        · exact ih
theorem str_ne {s t : ByteArray} (h : ¬s = t) : (s.toList == t.toList) = false := by
  rw [ByteArray.toList_eq, ByteArray.toList_eq]
  refine Bool.eq_false_iff.2 fun e => h (ky_inj ?_)
  show Lit.string s.data.toList = Lit.string t.data.toList
  rw [eq_of_beq e]
set_option maxHeartbeats 1000000 in
theorem index_any (p : Option Addr) (n c g o : Nat) (S : Nat → ByteArray) (s : ByteArray) (hn : n ≤ 4611686018427387904) (w : World) (hp0 : 0 < n → p = some ⟨g, o, none⟩ ∧ g < w.heap.size) (hc0 : ∀ i, i < n → w.cell? ⟨g, o + i, none⟩ = some (.string (S i))) :
    Calls Tryz.prog 150 #[.slice p n c, .string s] w fun e w' => (∃ r : Int, e = .returned (.int .i64 r) ∧ (0 ≤ r ↔ ∃ i, i < n ∧ S i = s)) ∧ Below w.heap.size w w' := by
  have HP : Hid _ := hp0
  have HC : Hid _ := hc0
  clear hp0 hc0
  go_enter Tryz.func150, Tryz.ntmps150
  go_wp2
  go_loopw [8] (fun v wr => ∃ i : Nat, v = .int .i64 (i : Int) ∧ i ≤ n ∧ (∀ j, j < i → S j ≠ s) ∧ Below w.heap.size w wr)
    (fun v _ => n - (RowKit.intOf v).toNat)
  case atStart => exact ⟨0, rfl, Nat.zero_le _, fun j hj => absurd hj (Nat.not_lt_zero _), Below.refl _ _⟩
  case round =>
    obtain ⟨i, rfl, hi, hne, hb⟩ := hrel
    by_cases hlt : i < n
    · obtain ⟨rfl, hg⟩ := HP.out (by omega)
      have hat : wr.cell? ⟨g, o + i, none⟩ = some (.string (S i)) := (hb.cell (p := ⟨g, o + i, none⟩) hg).trans (HC.out i hlt)
      have hltI : (i : Int) < n := by omega
      by_cases he : s = S i
      · subst he
        go_wp2
        go_ret
        exact ⟨⟨i, rfl, ⟨fun _ => ⟨i, hlt, rfl⟩, fun _ => by omega⟩⟩, hb⟩
      · have he2 := str_ne he
        go_wp2
        all_goals first
          | (exact ⟨⟨i + 1, by simp, by omega, fun j hj => by (by_cases hji : j = i); (subst hji; exact fun e => he e.symm); (exact hne j (by omega)), hb⟩, by simp [RowKit.intOf]; omega⟩)
          | (exfalso; exact he (by assumption))
    · obtain rfl : i = n := by omega
      go_wp2
      go_ret
      exact ⟨⟨-1, rfl, by constructor; (intro h; omega); (rintro ⟨j, hj, e⟩; exact absurd e (hne j hj))⟩, hb⟩
set_option maxHeartbeats 1000000 in
theorem contains_any (p : Option Addr) (n c g o : Nat) (S : Nat → ByteArray) (s : ByteArray) (hn : n ≤ 4611686018427387904) (w : World) (hp0 : 0 < n → p = some ⟨g, o, none⟩ ∧ g < w.heap.size) (hc0 : ∀ i, i < n → w.cell? ⟨g, o + i, none⟩ = some (.string (S i))) (b : Bool) (hb0 : b = true ↔ ∃ i, i < n ∧ S i = s) :
    Calls Tryz.prog 114 #[.slice p n c, .string s] w fun e w' => e = .returned (.bool b) ∧ Below w.heap.size w w' := by
  have HI : Hid (Calls Tryz.prog 150 #[.slice p n c, .string s] w fun e w' => (∃ r : Int, e = .returned (.int .i64 r) ∧ decide (0 ≤ r) = b) ∧ Below w.heap.size w w') := (index_any p n c g o S s hn w hp0 hc0).mono fun e w' hh => by
    obtain ⟨⟨r, rfl, hr⟩, hb⟩ := hh
    refine ⟨⟨r, rfl, ?_⟩, hb⟩
    cases b with
    | true => exact decide_eq_true (hr.2 (hb0.1 rfl))
    | false => exact decide_eq_false fun e => by have := hb0.2 (hr.1 e); cases this
  clear hp0 hc0 hb0
  go_enter Tryz.func114, Tryz.ntmps114
  go_wp2_with (first
    | (go_at_call 150; refine Calls.mono HI.out ?_; rintro e w1 ⟨⟨r, rfl, hr⟩, hb⟩; have HR : Hid _ := hr; clear hr)
    | fail)
  go_ret
  exact ⟨by show Ending.returned (.bool (decide (0 ≤ r))) = _; rw [HR.out], hb⟩
theorem names_a {w0 u : World} {d : Nat} {A : Ad} {L : List Nat} (h : Da w0 d A L u) :
    Calls Tryz.prog 25 #[PT d 0] u fun e u' => ∃ (p : Option Addr) (n c g : Nat) (S : Nat → ByteArray), e = .returned (.slice p n c) ∧ (0 < n → p = some ⟨g, 0, none⟩ ∧ g < u'.heap.size) ∧ (∀ i, i < n → u'.cell? ⟨g, 0 + i, none⟩ = some (.string (S i))) ∧ n ≤ 64 ∧ Below u.heap.size u u' ∧ ∀ s, (A.lk s).isSome = true ↔ ∃ i, i < n ∧ S i = s := by
  obtain ⟨D, h1, rfl, rfl, h4⟩ := h
  refine (Names_f D u h1.dk).mono fun e u' hh => ?_
  obtain ⟨v, ss, rfl, hp, hr, hv, hb⟩ := hh
  generalize hL : ss.mergeSort (fun x y => decide (x ≤ y)) = l at hr
  have hpl : l.Perm (D.fs.map fun f => f.nm.data.toList) := by rw [← hL]; exact (List.mergeSort_perm _ _).trans hp
  have hlen : ss.length = l.length := by rw [← hL, List.length_mergeSort]
  rw [hlen] at hr
  have h64 : l.length ≤ 64 := by rw [hpl.length_eq, List.length_map]; exact h1.dk.n64
  have hmem : ∀ s : ByteArray, (D.ab.lk s).isSome = true ↔ ∃ i, i < l.length ∧ (⟨(l.getD i []).toArray⟩ : ByteArray) = s := fun s => by
    rw [Dq.lk_ab, Option.isSome_map]
    have e1 : (lk D.fs s).isSome = true ↔ s.data.toList ∈ l := by
      rw [hpl.mem_iff]
      unfold lk
      rw [List.find?_isSome]
      constructor
      · rintro ⟨f, hf, e⟩
        exact List.mem_map.2 ⟨f, hf, by rw [of_decide_eq_true e]⟩
      · intro hm
        obtain ⟨f, hf, e⟩ := List.mem_map.1 hm
        exact ⟨f, hf, decide_eq_true (ky_inj (show Lit.string f.nm.data.toList = Lit.string s.data.toList by rw [e]))⟩
    rw [e1, List.mem_iff_getElem]
    constructor
    · rintro ⟨i, hi, e⟩
      refine ⟨i, hi, ?_⟩
      rw [List.getD_eq_getElem?_getD, List.getElem?_eq_getElem hi, Option.getD_some, e]
    · rintro ⟨i, hi, e⟩
      refine ⟨i, hi, ?_⟩
      rw [List.getD_eq_getElem?_getD, List.getElem?_eq_getElem hi, Option.getD_some] at e
      rw [← e]
  rcases hr.2 with ⟨e0, h0⟩ | ⟨g, cap, cur, e0, hg, _⟩
  · subst e0
    exact ⟨none, 0, 0, 0, fun i => ⟨(l.getD i []).toArray⟩, rfl, fun h => absurd h (by decide), fun i hi => absurd hi (Nat.not_lt_zero _), by decide, hb, fun s => by rw [hmem s, h0]⟩
  · subst e0
    refine ⟨_, l.length, cap, g, fun i => ⟨(l.getD i []).toArray⟩, rfl, fun _ => ⟨rfl, (World.ownsRow.lt hr g rfl).2⟩, fun i hi => ?_, h64, hb, hmem⟩
    have := World.ownsRow.cells hr (g := g) rfl i (.string ⟨(l.getD i []).toArray⟩) (by
      rw [List.getElem?_map, List.getElem?_eq_getElem hi, List.getD_eq_getElem?_getD, List.getElem?_eq_getElem hi]
      rfl)
    rw [show (⟨g, 0, none⟩ : Addr).add i = ⟨g, 0 + i, none⟩ by unfold Addr.add; split <;> simp_all] at this
    exact this
/-- A file is removed, if it is there. -/
def Ad.rma (A : Ad) (s : ByteArray) : Int × Ad := match A.lk s with
  | none => (0, A)
  | some _ => A.rem s
set_option maxHeartbeats 1000000 in
theorem rma_a {w0 u : World} {d g : Nat} {A : Ad} {L : List Nat} (h : Da w0 d A L u) (hk : A.k < 1000000000) (hg : g ∈ L) (hcd : u.cell? ⟨g, 0, none⟩ = some (PT d 0)) (s : ByteArray) (hs : s.size ≤ 281474976710656) :
    Calls Tryz.prog 52 #[PT g 0, .string s] u fun e u' => e = .returned (.int .i64 (A.rma s).1) ∧ Da w0 d (A.rma s).2 L u' ∧ Kx L u u' := by
  have H : Hid _ := h
  have hgl : g < u.heap.size := by obtain ⟨D, _, _, _, h4⟩ := h; exact (h4 g hg).1
  clear h
  unfold Ad.rma
  cases hl : A.lk s with
  | none =>
    go_enter Tryz.func52, Tryz.ntmps52
    go_wp2_with (first
      | (go_at_call 25; refine (names_a H.out).mono ?_; rintro e w1 ⟨p, n, c, gn, S, rfl, hp, hc, hn, hb, hS⟩; have HS : Hid _ := hS; have HC : Hid _ := hc; have HPp : Hid _ := hp; clear hS hc hp)
      | (go_at_call 114; refine (contains_any p n c gn 0 S s (by omega) w1 HPp.out HC.out false (by rw [← HS.out s, hl]; rfl)).mono ?_; rintro e w2 ⟨rfl, hb2⟩)
      | fail)
    go_ret
    exact ⟨rfl, Da.step H.out (below_on _ _ hb hb2), Da.kx H.out (below_on _ _ hb hb2)⟩
  | some f =>
    go_enter Tryz.func52, Tryz.ntmps52
    go_wp2_with (first
      | (go_at_call 25; refine (names_a H.out).mono ?_; rintro e w1 ⟨p, n, c, gn, S, rfl, hp, hc, hn, hb, hS⟩; have HS : Hid _ := hS; have HC : Hid _ := hc; have HPp : Hid _ := hp; clear hS hc hp)
      | (go_at_call 114; refine (contains_any p n c gn 0 S s (by omega) w1 HPp.out HC.out true (by rw [← HS.out s, hl]; rfl)).mono ?_; rintro e w2 ⟨rfl, hb2⟩; have hcd2 := ((below_on _ _ hb hb2).cell (p := ⟨g, 0, none⟩) hgl).trans hcd)
      | (go_at_call 115; refine (rem_a (Da.step H.out (below_on _ _ hb hb2)) hk s hs).mono ?_; rintro e w3 ⟨rfl, h3, k3⟩)
      | fail)
    go_ret
    exact ⟨rfl, h3, (Da.kx H.out (below_on _ _ hb hb2)).trans k3⟩
end Wi
end Rg
end Go.Proofs.YtmcpagjhpfbpgaaGreatDoor
end
section
namespace Go.Proofs.YtmcpagjhpfbpgaaGreatDoor
open Go.RowKit
namespace Rg
namespace Wi
set_option maxRecDepth 100000
open Go.Shelf Go.Maps
/-- How a row of bytes reads in the map. -/
def RB : Value → Option (DataW Nat × List MemPlace)
  | .slice (some ⟨g, 0, none⟩) n c => some (.agg [.held g, .lit (.int .i64 ((n : Nat) : Int)), .lit (.int .i64 ((c : Nat) : Int))], [])
  | .slice none 0 0 => some (.agg [], [])
  | _ => none
def rbv (v : Value) : DataW Nat := match RB v with
  | some z => z.1
  | none => .nil
theorem RB_own {w : World} {B n : Nat} {v : Value} {xs : List Value} (h : w.ownsRow B 5 1 v n xs) : RB v = some (rbv v, []) := by
  rcases h.2 with ⟨rfl, _⟩ | ⟨g, cap, cur, rfl, _⟩
  · rfl
  · rfl
theorem RB_inj {v v' : Value} {z : DataW Nat} {ps ps' : List MemPlace} (h : RB v = some (z, ps)) (h' : RB v' = some (z, ps')) : v = v' := by
  unfold RB at h h'
  split at h <;> split at h' <;> simp at h h' <;> (try (obtain ⟨h1, _⟩ := h; obtain ⟨h2, _⟩ := h'; rw [← h1] at h2; simp at h2; try (obtain ⟨rfl, h3, h4⟩ := h2; have : _ := Int.ofNat.inj h3; simp_all)))
  all_goals (first | rfl | omega | (simp_all; done))
/-- A value: the row of bytes, how many, which. -/
structure Vq where
  v : Value
  n : Nat
  P : Nat → Nat
def vdt : Option Vq → DataW Nat
  | some x => rbv x.v
  | none => .agg []
def vvl : Option Vq → Value
  | some x => x.v
  | none => .slice none 0 0
def vn : Option Vq → Nat
  | some x => x.n
  | none => 0
def vp : Option Vq → Nat → Nat
  | some x => x.P
  | none => fun _ => 0
/-- A map of values: V tells a key's, N how many there are. -/
structure Vm (w : World) (mv : Nat) (V : ByteArray → Option Vq) (N : Nat) : Prop where
  mp : ∃ X, w.ownsMap Tryz.prog 9 RB mv N X ∧ (∀ s, X.atKey (ky s) (.agg []) = vdt (V s)) ∧ (∀ s, Maps.has X (ky s) = (V s).isSome) ∧ Maps.size X = N
  ow : ∀ s x, V s = some x → w.ownsRow 0 5 1 x.v x.n (ints .u8 x.P x.n)
  nb : ∀ s x, V s = some x → mv ∉ vbl x.v
section
variable {w u : World} {mv N : Nat} {V : ByteArray → Option Vq}
theorem Vm.lt (h : Vm w mv V N) : mv < w.heap.size := by obtain ⟨X, h1, _⟩ := h.mp; exact h1.lt
theorem Vm.keep (h : Vm w mv V N) (hm : u.heap[mv]? = w.heap[mv]?) (hv : ∀ s x, V s = some x → ∀ b ∈ vbl x.v, u.heap[b]? = w.heap[b]?) : Vm u mv V N := by
  obtain ⟨X, h1, h2⟩ := h.mp
  exact ⟨⟨X, ownMap_keep h1 hm, h2⟩, fun s x hx => own_keep (h.ow s x hx) (hv s x hx), h.nb⟩
theorem Vm.below (h : Vm w mv V N) (hb : Below w.heap.size w u) : Vm u mv V N := h.keep (hb.block _ h.lt) fun s x hx b hm => hb.block b (own_lt (h.ow s x hx) b hm)
theorem rb_vvl (h : Vm w mv V N) (s : ByteArray) : RB (vvl (V s)) = some (vdt (V s), []) := by
  cases hv : V s with
  | none => rfl
  | some x => exact RB_own (h.ow s x hv)
theorem Vm.look (h : Vm w mv V N) (s : ByteArray) (hs : s.size ≤ maxLen) : (Instr.lookup 46 (.map (some mv)) (.string s) false).run Tryz.prog w = .ok (vvl (V s)) w := by
  obtain ⟨X, h1, h2, _⟩ := h.mp
  obtain ⟨v, ps, hr, hv⟩ := h1.lookup (Maps.string_keyed Tryz.underlying9) Tryz.underlying46 (z := .slice none 0 0) (by kernel_rfl) (zd := .agg []) (zp := []) rfl (WideMaps.keyOf_string_mk Tryz.underlying9 hs)
  rw [hr, RB_inj (hv.trans (by rw [show X.atKey (Lit.string s.data.toList) (.agg []) = vdt (V s) from h2 s])) (rb_vvl h s)]
theorem Vm.lookok (h : Vm w mv V N) (s : ByteArray) (hs : s.size ≤ maxLen) : (Instr.lookup 46 (.map (some mv)) (.string s) true).run Tryz.prog w = .ok (.tuple #[vvl (V s), .bool (V s).isSome]) w := by
  obtain ⟨X, h1, h2, h3, _⟩ := h.mp
  obtain ⟨v, ps, hr, hv⟩ := h1.look_ok (Maps.string_keyed Tryz.underlying9) Tryz.underlying46 (z := .slice none 0 0) (by kernel_rfl) (zd := .agg []) (zp := []) rfl (WideMaps.keyOf_string_mk Tryz.underlying9 hs)
  rw [hr, RB_inj (hv.trans (by rw [show X.atKey (Lit.string s.data.toList) (.agg []) = vdt (V s) from h2 s])) (rb_vvl h s), show Maps.has X (Lit.string s.data.toList) = (V s).isSome from h3 s]
/-- A key has a value now; how many keys there are then. -/
def vput (V : ByteArray → Option Vq) (s : ByteArray) (x : Vq) : ByteArray → Option Vq := fun t => if t = s then some x else V t
def vdel (V : ByteArray → Option Vq) (s : ByteArray) : ByteArray → Option Vq := fun t => if t = s then none else V t
theorem Vm.put (h : Vm w mv V N) (s : ByteArray) (hs : s.size ≤ maxLen) (hN : N < maxLen) (x : Vq) (hx : w.ownsRow 0 5 1 x.v x.n (ints .u8 x.P x.n)) (hb : mv ∉ vbl x.v) : ∃ u, (Instr.mapUpdate 46 (.map (some mv)) (.string s) x.v).run Tryz.prog w = .ok () u ∧ Vm u mv (vput V s x) (if (V s).isSome then N else N + 1) ∧ w.grownBy u (some mv) := by
  obtain ⟨X, h1, h2, h3, h4⟩ := h.mp
  obtain ⟨u, hr, hm, hg⟩ := h1.update (Maps.string_keyed Tryz.underlying9) Tryz.underlying46 hN (WideMaps.keyOf_string_mk Tryz.underlying9 hs) (RB_own hx)
  have hc : Chg [mv] w u := Chg.grown hg
  have hsz : Maps.size (X.put (Lit.string s.data.toList) (rbv x.v)) = if (V s).isSome then N else N + 1 := by
    rw [Maps.size_put (h1.tidy (Maps.string_keyed Tryz.underlying9)), show Maps.has X (Lit.string s.data.toList) = (V s).isSome from h3 s, h4]
  refine ⟨u, hr, ⟨⟨_, hsz ▸ ownMap_tight hm, fun t => ?_, fun t => ?_, hsz⟩, fun t y hy => ?_, fun t y hy => ?_⟩, hg⟩
  · unfold vput
    by_cases e : t = s
    · subst e
      rw [if_pos rfl]
      exact Maps.atKey_put_same h1.isMap (ky_lit t) _ _
    · rw [if_neg e, ← h2 t]
      exact Maps.atKey_put_other (fun e2 => e (ky_inj e2)) _ _
  · unfold vput
    by_cases e : t = s
    · subst e
      rw [if_pos rfl]
      exact Maps.has_put_same h1.isMap (ky_lit t) _
    · rw [if_neg e, ← h3 t]
      exact Maps.has_put_other (fun e2 => e (ky_inj e2)) _
  · unfold vput at hy
    split at hy
    · obtain rfl := Option.some.inj hy
      exact own_keep hx fun b hm => hc.block b (own_lt hx b hm) fun hq => hb (by rw [List.mem_singleton.1 hq] at hm; exact hm)
    · have := h.ow t y hy
      exact own_keep this fun b hm => hc.block b (own_lt this b hm) fun hq => h.nb t y hy (by rw [List.mem_singleton.1 hq] at hm; exact hm)
  · unfold vput at hy
    split at hy
    · obtain rfl := Option.some.inj hy
      exact hb
    · exact h.nb t y hy
theorem Vm.del (h : Vm w mv V N) (s : ByteArray) {n : Nat} {X : DataW Nat} (h1 : w.ownsMap Tryz.prog 9 RB mv n X) (h2 : ∀ s, X.atKey (ky s) (.agg []) = vdt (V s)) (h3 : ∀ s, Maps.has X (ky s) = (V s).isSome) (h4 : Maps.size X = N) (hm : u.ownsMap Tryz.prog 9 RB mv n (X.del (ky s))) (hg : w.grownBy u (some mv)) : Vm u mv (vdel V s) (if (V s).isSome then N - 1 else N) := by
  have hc : Chg [mv] w u := Chg.grown hg
  have hsz : Maps.size (X.del (ky s)) = if (V s).isSome then N - 1 else N := by
    have e := Maps.size_del (h1.tidy (Maps.string_keyed Tryz.underlying9)) (k := ky s)
    rw [h3 s, h4] at e
    split
    · rename_i hh
      rw [if_pos hh] at e
      omega
    · rename_i hh
      rw [if_neg hh] at e
      omega
  refine ⟨⟨_, hsz ▸ ownMap_tight hm, fun t => ?_, fun t => ?_, hsz⟩, fun t y hy => ?_, fun t y hy => ?_⟩
  · unfold vdel
    by_cases e : t = s
    · rw [if_pos e, e, Maps.atKey_del_same]
      rfl
    · rw [if_neg e, Maps.atKey_del_other (fun e3 => e (ky_inj e3)), h2]
  · unfold vdel
    by_cases e : t = s
    · rw [if_pos e, e, Maps.has_del_same]
      rfl
    · rw [if_neg e, Maps.has_del_other (fun e3 => e (ky_inj e3)), h3]
  · unfold vdel at hy
    split at hy
    · cases hy
    · have := h.ow t y hy
      exact own_keep this fun b hm => hc.block b (own_lt this b hm) fun hq => h.nb t y hy (by rw [List.mem_singleton.1 hq] at hm; exact hm)
  · unfold vdel at hy
    split at hy
    · cases hy
    · exact h.nb t y hy
theorem Vm.len (h : Vm w mv V N) (ty : TypeId) : (Builtin.len_ #[46] ty #[.map (some mv)]).run Tryz.prog w = .ok (.int .i64 ((N : Nat) : Int)) w := by
  obtain ⟨X, x1, _, _, x4⟩ := h.mp
  have e := x1.len Tryz.underlying46 ty
  rw [x4] at e
  exact e
theorem Vm.start (w : World) : Vm (w.alloc (.map #[] 0)) w.heap.size (fun _ => none) 0 :=
  ⟨⟨_, World.ownsMap_made _ _ _ _, fun _ => rfl, fun _ => rfl, rfl⟩, (fun _ _ h => by cases h), (fun _ _ h => by cases h)⟩
end
set_option maxHeartbeats 1000000 in
theorem smade_j (g j : Nat) (w : World) (h : w.cell? ⟨g, 2, none⟩ = some (PT j 0)) : Calls Tryz.prog 42 #[PT g 0] w fun e w' => e = .returned (.bool true) ∧ w' = w := by
  go_enter Tryz.func42, Tryz.ntmps42
  go_wp2
  go_ret
  exact ⟨rfl, rfl⟩
set_option maxHeartbeats 1000000 in
theorem sgen_any (g j : Nat) (n : Int) (w : World) (h : w.cell? ⟨g, 2, none⟩ = some (PT j 0)) (h3 : w.cell? ⟨g, 3, none⟩ = some (.int .i64 n)) : Calls Tryz.prog 18 #[PT g 0] w fun e w' => e = .returned (.int .i64 n) ∧ w' = w := by
  go_enter Tryz.func18, Tryz.ntmps18
  go_wp2_with (first
    | (go_at_call 42; refine (smade_j g j _ h).mono ?_; rintro e w1 ⟨rfl, rfl⟩)
    | fail)
  go_ret
  exact ⟨rfl, rfl⟩
set_option maxHeartbeats 1000000 in
theorem sget_any (g j mv N : Nat) (V : ByteArray → Option Vq) (s : ByteArray) (hs : s.size ≤ maxLen) (w : World) (h : w.cell? ⟨g, 2, none⟩ = some (PT j 0)) (h4 : w.cell? ⟨g, 4, none⟩ = some (.map (some mv))) (hv : Vm w mv V N) (hn : ∀ x, V s = some x → x.n ≤ 2097152) :
    Calls Tryz.prog 12 #[PT g 0, .string s] w fun e w' => ∃ v, e = .returned (.tuple #[v, .bool (V s).isSome]) ∧ Cw w v (vn (V s)) (vp (V s)) w' := by
  have hl := hv.lookok s hs
  have HV : Hid _ := hv
  have HC : Hid (Calls Tryz.prog 43 #[vvl (V s)] w fun e w' => ∃ v, e = .returned v ∧ Cw w v (vn (V s)) (vp (V s)) w') := by
    cases hx : V s with
    | none =>
      refine (bclone_any (nilp fun _ => 0) (by decide) w (nilp_ok _ w).1 (nilp_ok _ w).2.1 (nilp_ok _ w).2.2).mono fun e w' hh => ?_
      obtain ⟨v, e1, e2⟩ := hh
      exact ⟨v, e1, e2⟩
    | some x =>
      obtain ⟨q, q0, q1, q2, q3, q4, q5, _⟩ := own_part (hv.ow s x hx)
      show Calls Tryz.prog 43 #[x.v] w _
      rw [q0]
      refine (bclone_any q (by rw [q3]; exact hn x hx) w q1 q2 q5).mono fun e w' hh => ?_
      obtain ⟨v, e1, e2⟩ := hh
      exact ⟨v, e1, by rw [q3, q4] at e2; exact e2⟩
  clear hv hn
  go_enter Tryz.func12, Tryz.ntmps12
  go_wp2_with (first
    | (go_at_call 42; refine (smade_j g j _ h).mono ?_; rintro e w1 ⟨rfl, rfl⟩)
    | (go_at_call 43; refine Calls.mono HC.out ?_; rintro e w2 ⟨v, rfl, hcw⟩)
    | fail)
  go_ret2
  exact ⟨v, rfl, hcw⟩
set_option maxHeartbeats 1000000 in
theorem slen_any (g j mv N : Nat) (V : ByteArray → Option Vq) (w : World) (h : w.cell? ⟨g, 2, none⟩ = some (PT j 0)) (h4 : w.cell? ⟨g, 4, none⟩ = some (.map (some mv))) (hv : Vm w mv V N) :
    Calls Tryz.prog 17 #[PT g 0] w fun e w' => e = .returned (.int .i64 ((N : Nat) : Int)) ∧ w' = w := by
  have HV : Hid _ := hv
  clear hv
  go_enter Tryz.func17, Tryz.ntmps17
  go_wp2_with (first
    | (go_at_call 42; refine (smade_j g j _ h).mono ?_; rintro e w1 ⟨rfl, rfl⟩)
    | fail)
  rw [Vm.len HV.out, Result.andThen_ok]
  go_wp2
  go_ret
  exact ⟨rfl, rfl⟩
end Wi
end Rg
end Go.Proofs.YtmcpagjhpfbpgaaGreatDoor
end
