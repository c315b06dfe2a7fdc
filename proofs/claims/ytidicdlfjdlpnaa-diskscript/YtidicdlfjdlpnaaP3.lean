/- Texts of the proof, joined. -/
import Derived.Test.YtidicdlfjdlpnaaP2
section
namespace Go.Proofs.Ytidicdlfjdlpnaa
open Go.RowKit
namespace Rg
namespace Wi
theorem call102 : ∀ args w, (callFunc 102 args).run Try.prog w = .ok (.enter 102 args) w := by intro args w; go_simp
theorem call104 : ∀ args w, (callFunc 104 args).run Try.prog w = .ok (.enter 104 args) w := by intro args w; go_simp
set_option maxRecDepth 100000
/-- Behind a change of a file's safe bytes. -/
structure Sg (w : World) (g : Nat) (S s : Value) (n : Nat) (P : Nat → Nat) (w' : World) : Prop where
  ch : Chg (g :: vbl S) w w'
  row : w'.ownsRow 0 5 1 s n (ints .u8 P n)
  bl : ∀ x ∈ vbl s, x ∈ vbl S ∨ w.heap.size ≤ x
section
variable {w w1 w2 : World} {g n n2 : Nat} {S s s2 : Value} {P P2 : Nat → Nat}
theorem Sg.start (h : w.ownsRow 0 5 1 S n (ints .u8 P n)) : Sg w g S S n P w := ⟨Chg.refl _ _, h, fun _ hx => .inl hx⟩
theorem Sg.size (h : Sg w g S s n P w1) : w.heap.size ≤ w1.heap.size := h.ch.size
theorem Sg.below (h : Sg w g S s n P w1) (hb : Below w1.heap.size w1 w2) : Sg w g S s n P w2 := ⟨h.ch.below hb, own_keep h.row (fun b hm => hb.block b (own_lt h.row b hm)), h.bl⟩
theorem Sg.ng (h : Sg w g S s n P w1) (hS : g ∉ vbl S) (hg : g < w.heap.size) : g ∉ vbl s := fun hm => by
  rcases h.bl g hm with e | e
  · exact hS e
  · omega
theorem Sg.put (h : Sg w g S s n P w1) (hS : g ∉ vbl S) (hg : g < w.heap.size) (off : Nat) (vs : List Value) : Sg w g S s n P (w1.setCells g off vs) :=
  ⟨h.ch.put (.inl (List.mem_cons_self ..)), own_keep h.row (fun b hb => heap_setCells g b (fun e => by subst e; exact h.ng hS hg hb) _ _ _), h.bl⟩
theorem Sg.putNew (h : Sg w g S s n P w1) {k : Nat} (hk : w.heap.size ≤ k) (hs : k ∉ vbl s) (off : Nat) (vs : List Value) : Sg w g S s n P (w1.setCells k off vs) :=
  ⟨h.ch.put (.inr hk), own_keep h.row (fun b hb => heap_setCells k b (fun e => by subst e; exact hs hb) _ _ _), h.bl⟩
theorem Sg.on (h : Sg w g S s n P w1) (hc : Chg (vbl s) w1 w2) (hr : w2.ownsRow 0 5 1 s2 n2 (ints .u8 P2 n2)) (hb : ∀ x ∈ vbl s2, x ∈ vbl s ∨ w1.heap.size ≤ x) : Sg w g S s2 n2 P2 w2 :=
  ⟨h.ch.trans hc (fun x hx => (h.bl x hx).imp_left (List.mem_cons_of_mem _)), hr, fun x hx => by
    rcases hb x hx with e | e
    · exact h.bl x e
    · exact .inr (Nat.le_trans h.ch.size e)⟩
theorem Sg.cell (h : Sg w g S s n P w1) {p : Addr} {v : Value} (hp : p.block < w.heap.size) (hn : p.block ∉ g :: vbl S) (hv : w.cell? p = some v) : w1.cell? p = some v := (h.ch.cell hp hn).trans hv
end
def Uop.no : Uop := ⟨0, ⟨0, 0, 0, 0, none, fun _ => 0⟩⟩
/-- What the first i operations make: how many bytes, and which. -/
def rN (n : Nat) (F : Nat → Uop) : Nat → Nat
  | 0 => n
  | i + 1 => (F i).st + (F i).q.n
def rP (P : Nat → Nat) (F : Nat → Uop) : Nat → Nat → Nat
  | 0 => P
  | i + 1 => ct (rP P F i) (F i).st (F i).q.f
theorem upon_v (o : Uop) (v : Value) (n B : Nat) (P : Nat → Nat) (hst : o.st ≤ n) (hbd : o.st + o.q.n ≤ 2097152) (w : World) (hB : B ≤ w.heap.size) (row0 : w.ownsRow B 5 1 v n (ints .u8 P n)) (hq0 : o.ok w) :
    Calls Try.prog 102 #[.agg ([.int .i64 ((o.st : Nat) : Int), .slice o.q.p o.q.n o.q.cp] : List Value).toArray, v] w fun e w' => ∃ v', e = .returned v' ∧ w'.ownsRow B 5 1 v' (o.st + o.q.n) (ints .u8 (ct P o.st o.q.f) (o.st + o.q.n)) ∧ Chg (vbl v) w w' ∧ ∀ x ∈ vbl v', x ∈ vbl v ∨ w.heap.size ≤ x := by
  obtain ⟨ps, cs, rfl, hle⟩ := own_slice row0
  exact upon_any o ps n cs B P hst (by omega) hbd w hB row0 hq0
/-- Where a slice lies of which all is gone. -/
def dz (p : Option Addr) (m c : Nat) : Option Addr := if c = m then p else p.map (·.add (m * 2))
section
variable {ρ : Operand → Value} {o : Oper} {x y : Operand} {g m c k n : Nat} {p : Option Addr} {w : World}
theorem ex_takeO (hk : k ≤ c) (ho : o.op = .slice 115 x none (some y) none) (hx : ρ x = .slice p m c) (hy : ρ y = .int .i64 (k : Int)) : (execOp ρ o).run Try.prog w = .ok (.value (.slice p k c)) w := by
  have h1 : (k : Int) ≤ c := by omega
  simp only [execOp, ho, hx, hy, Option.map_some, Option.map_none]
  clear ho hx hy
  cases p <;> go_simp
theorem ex_dropO (hk : k < m) (hc : m ≤ c) (ho : o.op = .slice 115 x (some y) none none) (hx : ρ x = .slice (some ⟨g, 0, none⟩) m c) (hy : ρ y = .int .i64 (k : Int)) : (execOp ρ o).run Try.prog w = .ok (.value (.slice (some ⟨g, 2 * k, none⟩) (m - k) (c - k))) w := by
  have h1 : (k : Int) ≤ m := by omega
  have h2 : c ≠ k := by omega
  simp only [execOp, ho, hx, hy, Option.map_some, Option.map_none]
  clear ho hx hy
  go_simp
theorem ex_dropZ (ho : o.op = .slice 115 x (some y) none none) (hx : ρ x = .slice p m c) (hy : ρ y = .int .i64 (m : Int)) : (execOp ρ o).run Try.prog w = .ok (.value (.slice (dz p m c) 0 (c - m))) w := by
  have h1 : (m : Int) ≤ m := by omega
  unfold dz
  simp only [execOp, ho, hx, hy, Option.map_some, Option.map_none]
  clear ho hx hy
  cases p <;> go_simp
end
theorem ex_ixO0 {ρ : Operand → Value} {o : Oper} {x y : Operand} {g m c k : Nat} {w : World} (ho : o.op = .indexAddr 115 x y) (hx : ρ x = .slice (some ⟨g, k, none⟩) m c) (hy : ρ y = .int .i64 0) (h : 0 < m) : (execOp ρ o).run Try.prog w = .ok (.value (PT g k)) w := by
  simp only [execOp, ho, hx, hy]
  clear ho hx hy
  go_simp
theorem ex_ldS {ρ : Operand → Value} {o : Oper} {x : Operand} {g k : Nat} {v : Value} {w : World} (c0 : w.cell? ⟨g, k, none⟩ = some v) (ho : o.op = .load 34 x) (hx : ρ x = PT g k) : (execOp ρ o).run Try.prog w = .ok (.value v) w := by
  simp only [execOp, ho, hx]
  clear ho hx
  go_simp
theorem Pt8.pre_ok {q : Pt8} (h : Pok q) {k : Nat} (hk : k ≤ q.n) : Pok { q with n := k } := by
  obtain ⟨gb, o, n, cp, p, f⟩ := q
  obtain ⟨h1, h2⟩ := h
  refine ⟨⟨fun hlt => ?_, fun he => ?_⟩, Nat.le_trans hk h2⟩
  · have e := h1.1 (show 0 < n by simp only at hlt hk; omega)
    have e1 : p = some ⟨gb, o + 0, none⟩ := by injection e
    subst e1
    rfl
  · exact ⟨p, cp, by simp only at he ⊢; rw [← he]⟩
theorem Pt8.pre_rs {q : Pt8} {w : World} (h : q.rs w) {k : Nat} (hk : k ≤ q.n) : Pt8.rs { q with n := k } w := ⟨fun hn => h.lt (by simp only at hn; omega), fun i hi => h.at_ i (by simp only at hi; omega)⟩
set_option maxHeartbeats 4000000 in
set_option maxRecDepth 100000 in
theorem settle_none_old (g : Nat) (S : Value) (n : Nat) (P : Nat → Nat) (a bt : Int) (cu : Nat) (pu : Option Addr) (w : World) (hm : Mm w [(g, [S, Value.slice pu 0 cu, Value.bool false])]) (hg0 : g < w.heap.size) (hgS0 : g ∉ vbl S) (row0 : w.ownsRow 0 5 1 S n (ints .u8 P n)) :
    Calls Try.prog 73 #[PT g 0, .int .i64 a, .int .i64 bt] w fun e w' => e = .returned (.bool (true)) ∧ ∃ s', Mm w' [(g, [s', Value.slice none 0 0, Value.bool false])] ∧ Sg w g S s' (n) (P) w' := by
  have H0 : Hid (_ ∧ _) := ⟨hm, Sg.start (g := g) row0⟩
  clear hm
  have hg : Hid _ := hg0
  have hgS : Hid _ := hgS0
  clear hg0 hgS0
  have hdz : (Value.int .i64 (((min a.toNat 0) : Nat) : Int)) = .int .i64 ((0 : Nat) : Int) := by rw [Nat.min_zero]
  go_enter Try.func73, Try.ntmps73
  refine wp_seq ?_
  refine sq_startW (l := [0]) rfl (fun u0 hu0 => ?_)
  have H1 : Hid (Mm u0 [(g, [S, Value.slice pu 0 cu, Value.bool false])] ∧ Sg w g S S n P u0) := by rw [hu0]; exact H0
  clear hu0 H0
  refine rest_set (d := 6) (v := .bool false) (w' := u0) rfl rfl rfl (rfl) ?_
  simp only [Act.put, sa, sz, ss]
  refine rest_nil (then_normal (wp_seq ?_))
  refine sq_start (l := [0, 1, 2, 3, 4, 5, 6, 7]) rfl ?_
  refine rest_set (d := 13) (v := .int .i64 a) (w' := u0) rfl rfl rfl (rfl) ?_
  simp only [Act.put, sa, sz, ss]
  refine rest_set (d := 14) (v := PT g 0) (w' := u0) rfl rfl rfl (rfl) ?_
  simp only [Act.put, sa, sz, ss]
  refine rest_set (d := 15) (v := PT g 0) (w' := u0) rfl rfl rfl (by go_simp) ?_
  simp only [Act.put, sa, sz, ss]
  refine rest_set (d := 16) (v := PT g 1) (w' := u0) rfl rfl rfl (by go_simp) ?_
  simp only [Act.put, sa, sz, ss]
  refine rest_set (d := 17) (v := .slice pu 0 cu) (w' := u0) rfl rfl rfl (ex_loadC H1.out.1 0 rfl rfl rfl Try.isAgg115 rfl) ?_
  simp only [Act.put, sa, sz, ss]
  refine rest_set (d := 18) (v := .int .i64 0) (w' := u0) rfl rfl rfl (by go_simp) ?_
  simp only [Act.put, sa, sz, ss]
  refine rest_enter (d := 19) (R := fun vv w' => vv = .int .i64 ((min a.toNat 0 : Nat) : Int) ∧ Below u0.heap.size u0 w') rfl rfl rfl (exec_call (args := #[.int .i64 a, .int .i64 0]) rfl call104 rfl (mpn rfl)) (Calls.mono (within_any a 0 u0) (fun e w2 hh => ⟨_, hh.1, rfl, hh.2⟩)) ?_
  rintro _ w2 ⟨rfl, hb⟩
  have H2 : Hid (Mm w2 [(g, [S, Value.slice pu 0 cu, Value.bool false])] ∧ Sg w g S S n P w2) := ⟨H1.out.1.below hb, Sg.below H1.out.2 (hb)⟩
  clear hb
  clear H1
  simp only [Act.put, sa, sz, ss]
  refine rest_set (d := 7) (v := .int .i64 ((min a.toNat 0 : Nat) : Int)) (w' := w2) rfl rfl rfl (rfl) ?_
  simp only [Act.put, sa, sz, ss]
  refine rest_nil (then_normal ?_)
  refine wp_seq (wp_seq ?_)
  refine sq_start (l := [0, 1, 2, 3, 4, 5, 6, 7]) rfl ?_
  refine rest_set (d := 20) (v := PT g 0) (w' := w2) rfl rfl rfl (rfl) ?_
  simp only [Act.put, sa, sz, ss]
  refine rest_set (d := 21) (v := PT g 0) (w' := w2) rfl rfl rfl (by go_simp) ?_
  simp only [Act.put, sa, sz, ss]
  refine rest_set (d := 22) (v := PT g 1) (w' := w2) rfl rfl rfl (by go_simp) ?_
  simp only [Act.put, sa, sz, ss]
  refine rest_set (d := 23) (v := .slice pu 0 cu) (w' := w2) rfl rfl rfl (ex_loadC H2.out.1 0 rfl rfl rfl Try.isAgg115 rfl) ?_
  simp only [Act.put, sa, sz, ss]
  refine rest_set (d := 24) (v := .int .i64 ((min a.toNat 0 : Nat) : Int)) (w' := w2) rfl rfl rfl (rfl) ?_
  simp only [Act.put, sa, sz, ss]
  refine rest_set (d := 25) (v := .slice pu (min a.toNat 0) cu) (w' := w2) rfl rfl rfl (ex_takeO (by omega) rfl rfl rfl) ?_
  simp only [Act.put, sa, sz, ss]
  refine rest_set (d := 26) (v := .int .i64 (((min a.toNat 0) : Nat) : Int)) (w' := w2) rfl rfl rfl (by go_simp) ?_
  simp only [Act.put, sa, sz, ss]
  refine rest_set (d := 27) (v := .int .i64 0) (w' := w2) rfl rfl rfl (rfl) ?_
  simp only [Act.put, sa, sz, ss]
  refine rest_nil (then_normal (wp_block ?_))
  refine wp_loop_rounds 1 ?_
  refine rounds_in (n := 0) ?_
  refine wp_seq ?_
  refine sq_start (l := [0]) rfl ?_
  refine rest_set (d := 28) (v := .bool false) (w' := w2) rfl rfl rfl (by go_simp <;> omega) ?_
  simp only [Act.put, sa, sz, ss]
  refine rest_nil (then_normal ?_)
  refine wp_seq (wp_cond_false rfl ?_)
  refine wp_exit ?_
  repeat refine then_exit ?_
  refine block_exit ?_
  refine then_normal (wp_seq ?_)
  refine sq_start (l := [0]) rfl ?_
  refine rest_set (d := 10) (v := .int .i64 0) (w' := w2) rfl rfl rfl (rfl) ?_
  simp only [Act.put, sa, sz, ss]
  refine rest_nil (then_normal ?_)
  refine wp_seq (wp_seq ?_)
  refine sq_start (l := [0, 1, 2, 3, 4, 5, 6]) rfl ?_
  refine rest_set (d := 41) (v := PT g 0) (w' := w2) rfl rfl rfl (rfl) ?_
  simp only [Act.put, sa, sz, ss]
  refine rest_set (d := 42) (v := PT g 0) (w' := w2) rfl rfl rfl (by go_simp) ?_
  simp only [Act.put, sa, sz, ss]
  refine rest_set (d := 43) (v := PT g 1) (w' := w2) rfl rfl rfl (by go_simp) ?_
  simp only [Act.put, sa, sz, ss]
  refine rest_set (d := 44) (v := .slice pu 0 cu) (w' := w2) rfl rfl rfl (ex_loadC H2.out.1 0 rfl rfl rfl Try.isAgg115 rfl) ?_
  simp only [Act.put, sa, sz, ss]
  refine rest_set (d := 45) (v := .int .i64 ((min a.toNat 0 : Nat) : Int)) (w' := w2) rfl rfl rfl (rfl) ?_
  simp only [Act.put, sa, sz, ss]
  refine rest_set (d := 46) (v := .slice (dz pu 0 cu) 0 (cu - 0)) (w' := w2) rfl rfl rfl (ex_dropZ rfl rfl hdz) ?_
  simp only [Act.put, sa, sz, ss]
  refine rest_set (d := 11) (v := .slice (dz pu 0 cu) 0 (cu - 0)) (w' := w2) rfl rfl rfl (rfl) ?_
  simp only [Act.put, sa, sz, ss]
  refine rest_nil (then_normal (wp_seq ?_))
  refine sq_start (l := [0, 1, 2]) rfl ?_
  refine rest_set (d := 47) (v := .slice (dz pu 0 cu) 0 (cu - 0)) (w' := w2) rfl rfl rfl (rfl) ?_
  simp only [Act.put, sa, sz, ss]
  refine rest_set (d := 48) (v := .int .i64 0) (w' := w2) rfl rfl rfl (by go_simp) ?_
  simp only [Act.put, sa, sz, ss]
  refine rest_set (d := 49) (v := .bool false) (w' := w2) rfl rfl rfl (by go_simp <;> omega) ?_
  simp only [Act.put, sa, sz, ss]
  refine rest_nil (then_normal ?_)
  refine wp_cond_false rfl (wp_skip ?_)
  refine then_normal (wp_seq ?_)
  refine sq_start (l := [0, 1, 2, 3, 4, 5, 6, 7, 8, 9, 10, 11]) rfl ?_
  refine rest_set (d := 71) (v := PT g 0) (w' := w2) rfl rfl rfl (rfl) ?_
  simp only [Act.put, sa, sz, ss]
  refine rest_set (d := 72) (v := PT g 0) (w' := w2) rfl rfl rfl (by go_simp) ?_
  simp only [Act.put, sa, sz, ss]
  refine rest_set (d := 73) (v := PT g 2) (w' := w2) rfl rfl rfl (by go_simp) ?_
  simp only [Act.put, sa, sz, ss]
  refine rest_set (d := 74) (v := .bool false) (w' := w2) rfl rfl rfl (ex_loadC H2.out.1 0 rfl rfl rfl Try.isAgg4 rfl) ?_
  simp only [Act.put, sa, sz, ss]
  refine rest_set (d := 75) (v := .bool true) (w' := w2) rfl rfl rfl (by go_simp) ?_
  simp only [Act.put, sa, sz, ss]
  refine rest_set (d := 76) (v := .bool true) (w' := w2) rfl rfl rfl (rfl) ?_
  simp only [Act.put, sa, sz, ss]
  refine rest_gone1 (d := 77) rfl rfl rfl ?_
  simp only [Act.put, sa, sz, ss]
  refine rest_gone1 (d := 78) rfl rfl rfl ?_
  simp only [Act.put, sa, sz, ss]
  refine rest_gone1 (d := 79) rfl rfl rfl ?_
  simp only [Act.put, sa, sz, ss]
  refine rest_gone1 (d := 80) rfl rfl rfl ?_
  simp only [Act.put, sa, sz, ss]
  refine rest_set (d := 81) (v := .bool true) (w' := w2) rfl rfl rfl (by go_simp) ?_
  simp only [Act.put, sa, sz, ss]
  refine rest_set (d := 12) (v := .bool true) (w' := w2) rfl rfl rfl (rfl) ?_
  simp only [Act.put, sa, sz, ss]
  refine rest_nil (then_normal (wp_seq ?_))
  refine sq_start (l := [0, 1, 2, 3, 4, 5, 6, 7]) rfl ?_
  refine rest_set (d := 82) (v := PT g 0) (w' := w2) rfl rfl rfl (rfl) ?_
  simp only [Act.put, sa, sz, ss]
  refine rest_set (d := 83) (v := PT g 0) (w' := w2) rfl rfl rfl (rfl) ?_
  simp only [Act.put, sa, sz, ss]
  refine rest_set (d := 84) (v := PT g 0) (w' := w2) rfl rfl rfl (by go_simp) ?_
  simp only [Act.put, sa, sz, ss]
  refine rest_set (d := 85) (v := PT g 1) (w' := w2) rfl rfl rfl (by go_simp) ?_
  simp only [Act.put, sa, sz, ss]
  refine rest_store rfl rfl rfl (ex_st1 (v := .slice none 0 0) H2.out.1 0 rfl rfl Try.sizeOf115 rfl rfl (rfl) (Nat.le_of_ble_eq_true rfl)) ?_
  have H3 : Hid (Mm (w2.setCells g 1 [Value.slice none 0 0]) [(g, [S, Value.slice none 0 0, Value.bool false])] ∧ Sg w g S S n P (w2.setCells g 1 [Value.slice none 0 0])) := ⟨H2.out.1.put 0 (off := 1) (vs := [Value.slice none 0 0]) rfl (Nat.le_of_ble_eq_true rfl), H2.out.2.put hgS.out hg.out _ _⟩
  clear H2
  generalize hgw : World.setCells _ _ _ _ = w3 at H3 ⊢
  clear hgw
  refine rest_set (d := 86) (v := PT g 0) (w' := w3) rfl rfl rfl (by go_simp) ?_
  simp only [Act.put, sa, sz, ss]
  refine rest_set (d := 87) (v := PT g 2) (w' := w3) rfl rfl rfl (by go_simp) ?_
  simp only [Act.put, sa, sz, ss]
  refine rest_store rfl rfl rfl (ex_st1 (v := .bool false) H3.out.1 0 rfl rfl Try.sizeOf4 rfl rfl (rfl) (Nat.le_of_ble_eq_true rfl)) ?_
  have H4 : Hid (Mm (w3.setCells g 2 [Value.bool false]) [(g, [S, Value.slice none 0 0, Value.bool false])] ∧ Sg w g S S n P (w3.setCells g 2 [Value.bool false])) := ⟨H3.out.1.put 0 (off := 2) (vs := [Value.bool false]) rfl (Nat.le_of_ble_eq_true rfl), H3.out.2.put hgS.out hg.out _ _⟩
  clear H3
  generalize hgw : World.setCells _ _ _ _ = w4 at H4 ⊢
  clear hgw
  refine rest_nil (then_normal (wp_seq ?_))
  refine sq_start (l := [0, 1]) rfl ?_
  refine rest_set (d := 88) (v := .bool true) (w' := w4) rfl rfl rfl (rfl) ?_
  simp only [Act.put, sa, sz, ss]
  refine rest_set (d := 6) (v := .bool true) (w' := w4) rfl rfl rfl (rfl) ?_
  simp only [Act.put, sa, sz, ss]
  refine rest_nil (then_normal (wp_ret ?_))
  repeat (first | refine then_ret ?_ | refine block_ret ?_)
  refine bodyPost_ret (v := .bool true) (by simp [results, Try.results73, go_sem, *]) rfl ?_
  exact ⟨rfl, S, H4.out.1, H4.out.2⟩
set_option maxHeartbeats 4000000 in
set_option maxRecDepth 100000 in
theorem settle_none_new (g : Nat) (S : Value) (n : Nat) (P : Nat → Nat) (a bt : Int) (cu : Nat) (pu : Option Addr) (w : World) (hm : Mm w [(g, [S, Value.slice pu 0 cu, Value.bool true])]) (hg0 : g < w.heap.size) (hgS0 : g ∉ vbl S) (row0 : w.ownsRow 0 5 1 S n (ints .u8 P n)) :
    Calls Try.prog 73 #[PT g 0, .int .i64 a, .int .i64 bt] w fun e w' => e = .returned (.bool (decide (0 < (min a.toNat 0) + 0))) ∧ ∃ s', Mm w' [(g, [s', Value.slice none 0 0, Value.bool false])] ∧ Sg w g S s' (n) (P) w' := by
  have H0 : Hid (_ ∧ _) := ⟨hm, Sg.start (g := g) row0⟩
  clear hm
  have hg : Hid _ := hg0
  have hgS : Hid _ := hgS0
  clear hg0 hgS0
  have hdz : (Value.int .i64 (((min a.toNat 0) : Nat) : Int)) = .int .i64 ((0 : Nat) : Int) := by rw [Nat.min_zero]
  go_enter Try.func73, Try.ntmps73
  refine wp_seq ?_
  refine sq_startW (l := [0]) rfl (fun u0 hu0 => ?_)
  have H1 : Hid (Mm u0 [(g, [S, Value.slice pu 0 cu, Value.bool true])] ∧ Sg w g S S n P u0) := by rw [hu0]; exact H0
  clear hu0 H0
  refine rest_set (d := 6) (v := .bool false) (w' := u0) rfl rfl rfl (rfl) ?_
  simp only [Act.put, sa, sz, ss]
  refine rest_nil (then_normal (wp_seq ?_))
  refine sq_start (l := [0, 1, 2, 3, 4, 5, 6, 7]) rfl ?_
  refine rest_set (d := 13) (v := .int .i64 a) (w' := u0) rfl rfl rfl (rfl) ?_
  simp only [Act.put, sa, sz, ss]
  refine rest_set (d := 14) (v := PT g 0) (w' := u0) rfl rfl rfl (rfl) ?_
  simp only [Act.put, sa, sz, ss]
  refine rest_set (d := 15) (v := PT g 0) (w' := u0) rfl rfl rfl (by go_simp) ?_
  simp only [Act.put, sa, sz, ss]
  refine rest_set (d := 16) (v := PT g 1) (w' := u0) rfl rfl rfl (by go_simp) ?_
  simp only [Act.put, sa, sz, ss]
  refine rest_set (d := 17) (v := .slice pu 0 cu) (w' := u0) rfl rfl rfl (ex_loadC H1.out.1 0 rfl rfl rfl Try.isAgg115 rfl) ?_
  simp only [Act.put, sa, sz, ss]
  refine rest_set (d := 18) (v := .int .i64 0) (w' := u0) rfl rfl rfl (by go_simp) ?_
  simp only [Act.put, sa, sz, ss]
  refine rest_enter (d := 19) (R := fun vv w' => vv = .int .i64 ((min a.toNat 0 : Nat) : Int) ∧ Below u0.heap.size u0 w') rfl rfl rfl (exec_call (args := #[.int .i64 a, .int .i64 0]) rfl call104 rfl (mpn rfl)) (Calls.mono (within_any a 0 u0) (fun e w2 hh => ⟨_, hh.1, rfl, hh.2⟩)) ?_
  rintro _ w2 ⟨rfl, hb⟩
  have H2 : Hid (Mm w2 [(g, [S, Value.slice pu 0 cu, Value.bool true])] ∧ Sg w g S S n P w2) := ⟨H1.out.1.below hb, Sg.below H1.out.2 (hb)⟩
  clear hb
  clear H1
  simp only [Act.put, sa, sz, ss]
  refine rest_set (d := 7) (v := .int .i64 ((min a.toNat 0 : Nat) : Int)) (w' := w2) rfl rfl rfl (rfl) ?_
  simp only [Act.put, sa, sz, ss]
  refine rest_nil (then_normal ?_)
  refine wp_seq (wp_seq ?_)
  refine sq_start (l := [0, 1, 2, 3, 4, 5, 6, 7]) rfl ?_
  refine rest_set (d := 20) (v := PT g 0) (w' := w2) rfl rfl rfl (rfl) ?_
  simp only [Act.put, sa, sz, ss]
  refine rest_set (d := 21) (v := PT g 0) (w' := w2) rfl rfl rfl (by go_simp) ?_
  simp only [Act.put, sa, sz, ss]
  refine rest_set (d := 22) (v := PT g 1) (w' := w2) rfl rfl rfl (by go_simp) ?_
  simp only [Act.put, sa, sz, ss]
  refine rest_set (d := 23) (v := .slice pu 0 cu) (w' := w2) rfl rfl rfl (ex_loadC H2.out.1 0 rfl rfl rfl Try.isAgg115 rfl) ?_
  simp only [Act.put, sa, sz, ss]
  refine rest_set (d := 24) (v := .int .i64 ((min a.toNat 0 : Nat) : Int)) (w' := w2) rfl rfl rfl (rfl) ?_
  simp only [Act.put, sa, sz, ss]
  refine rest_set (d := 25) (v := .slice pu (min a.toNat 0) cu) (w' := w2) rfl rfl rfl (ex_takeO (by omega) rfl rfl rfl) ?_
  simp only [Act.put, sa, sz, ss]
  refine rest_set (d := 26) (v := .int .i64 (((min a.toNat 0) : Nat) : Int)) (w' := w2) rfl rfl rfl (by go_simp) ?_
  simp only [Act.put, sa, sz, ss]
  refine rest_set (d := 27) (v := .int .i64 0) (w' := w2) rfl rfl rfl (rfl) ?_
  simp only [Act.put, sa, sz, ss]
  refine rest_nil (then_normal (wp_block ?_))
  refine wp_loop_rounds 1 ?_
  refine rounds_in (n := 0) ?_
  refine wp_seq ?_
  refine sq_start (l := [0]) rfl ?_
  refine rest_set (d := 28) (v := .bool false) (w' := w2) rfl rfl rfl (by go_simp <;> omega) ?_
  simp only [Act.put, sa, sz, ss]
  refine rest_nil (then_normal ?_)
  refine wp_seq (wp_cond_false rfl ?_)
  refine wp_exit ?_
  repeat refine then_exit ?_
  refine block_exit ?_
  refine then_normal (wp_seq ?_)
  refine sq_start (l := [0]) rfl ?_
  refine rest_set (d := 10) (v := .int .i64 0) (w' := w2) rfl rfl rfl (rfl) ?_
  simp only [Act.put, sa, sz, ss]
  refine rest_nil (then_normal ?_)
  refine wp_seq (wp_seq ?_)
  refine sq_start (l := [0, 1, 2, 3, 4, 5, 6]) rfl ?_
  refine rest_set (d := 41) (v := PT g 0) (w' := w2) rfl rfl rfl (rfl) ?_
  simp only [Act.put, sa, sz, ss]
  refine rest_set (d := 42) (v := PT g 0) (w' := w2) rfl rfl rfl (by go_simp) ?_
  simp only [Act.put, sa, sz, ss]
  refine rest_set (d := 43) (v := PT g 1) (w' := w2) rfl rfl rfl (by go_simp) ?_
  simp only [Act.put, sa, sz, ss]
  refine rest_set (d := 44) (v := .slice pu 0 cu) (w' := w2) rfl rfl rfl (ex_loadC H2.out.1 0 rfl rfl rfl Try.isAgg115 rfl) ?_
  simp only [Act.put, sa, sz, ss]
  refine rest_set (d := 45) (v := .int .i64 ((min a.toNat 0 : Nat) : Int)) (w' := w2) rfl rfl rfl (rfl) ?_
  simp only [Act.put, sa, sz, ss]
  refine rest_set (d := 46) (v := .slice (dz pu 0 cu) 0 (cu - 0)) (w' := w2) rfl rfl rfl (ex_dropZ rfl rfl hdz) ?_
  simp only [Act.put, sa, sz, ss]
  refine rest_set (d := 11) (v := .slice (dz pu 0 cu) 0 (cu - 0)) (w' := w2) rfl rfl rfl (rfl) ?_
  simp only [Act.put, sa, sz, ss]
  refine rest_nil (then_normal (wp_seq ?_))
  refine sq_start (l := [0, 1, 2]) rfl ?_
  refine rest_set (d := 47) (v := .slice (dz pu 0 cu) 0 (cu - 0)) (w' := w2) rfl rfl rfl (rfl) ?_
  simp only [Act.put, sa, sz, ss]
  refine rest_set (d := 48) (v := .int .i64 0) (w' := w2) rfl rfl rfl (by go_simp) ?_
  simp only [Act.put, sa, sz, ss]
  refine rest_set (d := 49) (v := .bool false) (w' := w2) rfl rfl rfl (by go_simp <;> omega) ?_
  simp only [Act.put, sa, sz, ss]
  refine rest_nil (then_normal ?_)
  refine wp_cond_false rfl (wp_skip ?_)
  refine then_normal (wp_seq ?_)
  refine sq_start (l := [0, 1, 2, 3, 4, 5, 6, 7, 8, 9, 10, 11]) rfl ?_
  refine rest_set (d := 71) (v := PT g 0) (w' := w2) rfl rfl rfl (rfl) ?_
  simp only [Act.put, sa, sz, ss]
  refine rest_set (d := 72) (v := PT g 0) (w' := w2) rfl rfl rfl (by go_simp) ?_
  simp only [Act.put, sa, sz, ss]
  refine rest_set (d := 73) (v := PT g 2) (w' := w2) rfl rfl rfl (by go_simp) ?_
  simp only [Act.put, sa, sz, ss]
  refine rest_set (d := 74) (v := .bool true) (w' := w2) rfl rfl rfl (ex_loadC H2.out.1 0 rfl rfl rfl Try.isAgg4 rfl) ?_
  simp only [Act.put, sa, sz, ss]
  refine rest_set (d := 75) (v := .bool false) (w' := w2) rfl rfl rfl (by go_simp) ?_
  simp only [Act.put, sa, sz, ss]
  refine rest_set (d := 76) (v := .bool false) (w' := w2) rfl rfl rfl (rfl) ?_
  simp only [Act.put, sa, sz, ss]
  refine rest_set (d := 77) (v := .int .i64 ((min a.toNat 0 : Nat) : Int)) (w' := w2) rfl rfl rfl (rfl) ?_
  simp only [Act.put, sa, sz, ss]
  refine rest_set (d := 78) (v := .int .i64 0) (w' := w2) rfl rfl rfl (rfl) ?_
  simp only [Act.put, sa, sz, ss]
  refine rest_set (d := 79) (v := .int .i64 (((min a.toNat 0) + 0 : Nat) : Int)) (w' := w2) rfl rfl rfl (by go_simp; rw [IntKind.wrap_i64]; omega) ?_
  simp only [Act.put, sa, sz, ss]
  refine rest_set (d := 80) (v := .bool (decide (0 < (min a.toNat 0) + 0))) (w' := w2) rfl rfl rfl (by go_simp) ?_
  simp only [Act.put, sa, sz, ss]
  refine rest_set (d := 81) (v := .bool (decide (0 < (min a.toNat 0) + 0))) (w' := w2) rfl rfl rfl (by go_simp) ?_
  simp only [Act.put, sa, sz, ss]
  refine rest_set (d := 12) (v := .bool (decide (0 < (min a.toNat 0) + 0))) (w' := w2) rfl rfl rfl (rfl) ?_
  simp only [Act.put, sa, sz, ss]
  refine rest_nil (then_normal (wp_seq ?_))
  refine sq_start (l := [0, 1, 2, 3, 4, 5, 6, 7]) rfl ?_
  refine rest_set (d := 82) (v := PT g 0) (w' := w2) rfl rfl rfl (rfl) ?_
  simp only [Act.put, sa, sz, ss]
  refine rest_set (d := 83) (v := PT g 0) (w' := w2) rfl rfl rfl (rfl) ?_
  simp only [Act.put, sa, sz, ss]
  refine rest_set (d := 84) (v := PT g 0) (w' := w2) rfl rfl rfl (by go_simp) ?_
  simp only [Act.put, sa, sz, ss]
  refine rest_set (d := 85) (v := PT g 1) (w' := w2) rfl rfl rfl (by go_simp) ?_
  simp only [Act.put, sa, sz, ss]
  refine rest_store rfl rfl rfl (ex_st1 (v := .slice none 0 0) H2.out.1 0 rfl rfl Try.sizeOf115 rfl rfl (rfl) (Nat.le_of_ble_eq_true rfl)) ?_
  have H3 : Hid (Mm (w2.setCells g 1 [Value.slice none 0 0]) [(g, [S, Value.slice none 0 0, Value.bool true])] ∧ Sg w g S S n P (w2.setCells g 1 [Value.slice none 0 0])) := ⟨H2.out.1.put 0 (off := 1) (vs := [Value.slice none 0 0]) rfl (Nat.le_of_ble_eq_true rfl), H2.out.2.put hgS.out hg.out _ _⟩
  clear H2
  generalize hgw : World.setCells _ _ _ _ = w3 at H3 ⊢
  clear hgw
  refine rest_set (d := 86) (v := PT g 0) (w' := w3) rfl rfl rfl (by go_simp) ?_
  simp only [Act.put, sa, sz, ss]
  refine rest_set (d := 87) (v := PT g 2) (w' := w3) rfl rfl rfl (by go_simp) ?_
  simp only [Act.put, sa, sz, ss]
  refine rest_store rfl rfl rfl (ex_st1 (v := .bool false) H3.out.1 0 rfl rfl Try.sizeOf4 rfl rfl (rfl) (Nat.le_of_ble_eq_true rfl)) ?_
  have H4 : Hid (Mm (w3.setCells g 2 [Value.bool false]) [(g, [S, Value.slice none 0 0, Value.bool false])] ∧ Sg w g S S n P (w3.setCells g 2 [Value.bool false])) := ⟨H3.out.1.put 0 (off := 2) (vs := [Value.bool false]) rfl (Nat.le_of_ble_eq_true rfl), H3.out.2.put hgS.out hg.out _ _⟩
  clear H3
  generalize hgw : World.setCells _ _ _ _ = w4 at H4 ⊢
  clear hgw
  refine rest_nil (then_normal (wp_seq ?_))
  refine sq_start (l := [0, 1]) rfl ?_
  refine rest_set (d := 88) (v := .bool (decide (0 < (min a.toNat 0) + 0))) (w' := w4) rfl rfl rfl (rfl) ?_
  simp only [Act.put, sa, sz, ss]
  refine rest_set (d := 6) (v := .bool (decide (0 < (min a.toNat 0) + 0))) (w' := w4) rfl rfl rfl (rfl) ?_
  simp only [Act.put, sa, sz, ss]
  refine rest_nil (then_normal (wp_ret ?_))
  repeat (first | refine then_ret ?_ | refine block_ret ?_)
  refine bodyPost_ret (v := .bool (decide (0 < (min a.toNat 0) + 0))) (by simp [results, Try.results73, go_sem, *]) rfl ?_
  exact ⟨rfl, S, H4.out.1, H4.out.2⟩
set_option maxHeartbeats 4000000 in
set_option maxRecDepth 100000 in
theorem settle_all_old (g : Nat) (S : Value) (n : Nat) (P : Nat → Nat) (a bt : Int) (cu : Nat) (gu m : Nat) (F : Nat → Uop) (hmm : m ≤ 1000000) (hmc : m ≤ cu) (hdn : min a.toNat m = m) (w : World) (hm : Mm w [(g, [S, Value.slice (some ⟨gu, 0, none⟩) m cu, Value.bool false])]) (hg0 : g < w.heap.size) (hgS0 : g ∉ vbl S) (row0 : w.ownsRow 0 5 1 S n (ints .u8 P n)) (hgu0 : gu < w.heap.size) (hgn0 : gu ∉ g :: vbl S) (hcl0 : ∀ i, i < m → w.cell? ⟨gu, 2 * i, none⟩ = some (.int .i64 ((F i).st : Int)) ∧ w.cell? ⟨gu, 2 * i + 1, none⟩ = some (.slice (F i).q.p (F i).q.n (F i).q.cp)) (hv0 : ∀ i, i < m → (F i).st ≤ rN n F i ∧ (F i).st + (F i).q.n ≤ 2097152) (hok0 : ∀ i, i < m → ∀ s' n' P' w', Sg w g S s' n' P' w' → (F i).ok w') :
    Calls Try.prog 73 #[PT g 0, .int .i64 a, .int .i64 bt] w fun e w' => e = .returned (.bool (true)) ∧ ∃ s', Mm w' [(g, [s', Value.slice none 0 0, Value.bool false])] ∧ Sg w g S s' (rN n F (min a.toNat m)) (rP P F (min a.toNat m)) w' := by
  have H0 : Hid (_ ∧ _) := ⟨hm, Sg.start (g := g) row0⟩
  clear hm
  have hg : Hid _ := hg0
  have hgS : Hid _ := hgS0
  clear hg0 hgS0
  have hgu : Hid _ := hgu0
  have hgn : Hid _ := hgn0
  have hcl : Hid _ := hcl0
  have hv : Hid _ := hv0
  have hok : Hid _ := hok0
  clear hgu0 hgn0 hcl0 hv0 hok0
  have hda : (Value.int .i64 (((min a.toNat m) : Nat) : Int)) = .int .i64 ((m : Nat) : Int) := by rw [hdn]
  go_enter Try.func73, Try.ntmps73
  refine wp_seq ?_
  refine sq_startW (l := [0]) rfl (fun u0 hu0 => ?_)
  have H1 : Hid (Mm u0 [(g, [S, Value.slice (some ⟨gu, 0, none⟩) m cu, Value.bool false])] ∧ Sg w g S S n P u0) := by rw [hu0]; exact H0
  clear hu0 H0
  refine rest_set (d := 6) (v := .bool false) (w' := u0) rfl rfl rfl (rfl) ?_
  simp only [Act.put, sa, sz, ss]
  refine rest_nil (then_normal (wp_seq ?_))
  refine sq_start (l := [0, 1, 2, 3, 4, 5, 6, 7]) rfl ?_
  refine rest_set (d := 13) (v := .int .i64 a) (w' := u0) rfl rfl rfl (rfl) ?_
  simp only [Act.put, sa, sz, ss]
  refine rest_set (d := 14) (v := PT g 0) (w' := u0) rfl rfl rfl (rfl) ?_
  simp only [Act.put, sa, sz, ss]
  refine rest_set (d := 15) (v := PT g 0) (w' := u0) rfl rfl rfl (by go_simp) ?_
  simp only [Act.put, sa, sz, ss]
  refine rest_set (d := 16) (v := PT g 1) (w' := u0) rfl rfl rfl (by go_simp) ?_
  simp only [Act.put, sa, sz, ss]
  refine rest_set (d := 17) (v := .slice (some ⟨gu, 0, none⟩) m cu) (w' := u0) rfl rfl rfl (ex_loadC H1.out.1 0 rfl rfl rfl Try.isAgg115 rfl) ?_
  simp only [Act.put, sa, sz, ss]
  refine rest_set (d := 18) (v := .int .i64 ((m : Nat) : Int)) (w' := u0) rfl rfl rfl (by go_simp) ?_
  simp only [Act.put, sa, sz, ss]
  refine rest_enter (d := 19) (R := fun vv w' => vv = .int .i64 ((min a.toNat m : Nat) : Int) ∧ Below u0.heap.size u0 w') rfl rfl rfl (exec_call (args := #[.int .i64 a, .int .i64 ((m : Nat) : Int)]) rfl call104 rfl (mpn rfl)) (Calls.mono (within_any a m u0) (fun e w2 hh => ⟨_, hh.1, rfl, hh.2⟩)) ?_
  rintro _ w2 ⟨rfl, hb⟩
  have H2 : Hid (Mm w2 [(g, [S, Value.slice (some ⟨gu, 0, none⟩) m cu, Value.bool false])] ∧ Sg w g S S n P w2) := ⟨H1.out.1.below hb, Sg.below H1.out.2 (hb)⟩
  clear hb
  clear H1
  simp only [Act.put, sa, sz, ss]
  refine rest_set (d := 7) (v := .int .i64 ((min a.toNat m : Nat) : Int)) (w' := w2) rfl rfl rfl (rfl) ?_
  simp only [Act.put, sa, sz, ss]
  refine rest_nil (then_normal ?_)
  refine wp_seq (wp_seq ?_)
  refine sq_start (l := [0, 1, 2, 3, 4, 5, 6, 7]) rfl ?_
  refine rest_set (d := 20) (v := PT g 0) (w' := w2) rfl rfl rfl (rfl) ?_
  simp only [Act.put, sa, sz, ss]
  refine rest_set (d := 21) (v := PT g 0) (w' := w2) rfl rfl rfl (by go_simp) ?_
  simp only [Act.put, sa, sz, ss]
  refine rest_set (d := 22) (v := PT g 1) (w' := w2) rfl rfl rfl (by go_simp) ?_
  simp only [Act.put, sa, sz, ss]
  refine rest_set (d := 23) (v := .slice (some ⟨gu, 0, none⟩) m cu) (w' := w2) rfl rfl rfl (ex_loadC H2.out.1 0 rfl rfl rfl Try.isAgg115 rfl) ?_
  simp only [Act.put, sa, sz, ss]
  refine rest_set (d := 24) (v := .int .i64 ((min a.toNat m : Nat) : Int)) (w' := w2) rfl rfl rfl (rfl) ?_
  simp only [Act.put, sa, sz, ss]
  refine rest_set (d := 25) (v := .slice (some ⟨gu, 0, none⟩) (min a.toNat m) cu) (w' := w2) rfl rfl rfl (ex_takeO (by omega) rfl rfl rfl) ?_
  simp only [Act.put, sa, sz, ss]
  refine rest_set (d := 26) (v := .int .i64 (((min a.toNat m) : Nat) : Int)) (w' := w2) rfl rfl rfl (by go_simp) ?_
  simp only [Act.put, sa, sz, ss]
  refine rest_set (d := 27) (v := .int .i64 0) (w' := w2) rfl rfl rfl (rfl) ?_
  simp only [Act.put, sa, sz, ss]
  refine rest_nil (then_normal (wp_block ?_))
  refine loop_ghost (α := Nat × Value) (fun x a' w' => ∃ s0 : Nat → Value, a' = ⟨#[PT g 0, .int .i64 a, .int .i64 bt, undef, undef, undef, .bool false, .int .i64 ((min a.toNat m : Nat) : Int), undef, s0 9, undef, undef, undef, .int .i64 a, PT g 0, PT g 0, PT g 1, .slice (some ⟨gu, 0, none⟩) m cu, .int .i64 ((m : Nat) : Int), .int .i64 ((min a.toNat m : Nat) : Int), PT g 0, PT g 0, PT g 1, .slice (some ⟨gu, 0, none⟩) m cu, .int .i64 ((min a.toNat m : Nat) : Int), .slice (some ⟨gu, 0, none⟩) (min a.toNat m) cu, .int .i64 (((min a.toNat m) : Nat) : Int), .int .i64 ((x.1 : Nat) : Int), s0 28, s0 29, s0 30, s0 31, s0 32, s0 33, s0 34, s0 35, s0 36, s0 37, s0 38, s0 39, s0 40, undef, undef, undef, undef, undef, undef, undef, undef, undef, undef, undef, undef, undef, undef, undef, undef, undef, undef, undef, undef, undef, undef, undef, undef, undef, undef, undef, undef, undef, undef, undef, undef, undef, undef, undef, undef, undef, undef, undef, undef, undef, undef, undef, undef, undef, undef, undef, undef], []⟩ ∧ (Mm w' [(g, [x.2, Value.slice (some ⟨gu, 0, none⟩) m cu, Value.bool false])] ∧ Sg w g S x.2 (rN n F x.1) (rP P F x.1) w') ∧ x.1 ≤ (min a.toNat m)) (fun x => (min a.toNat m) - x.1) (0, S) ?st0 ?rd0
  case st0 => exact ⟨(slotfn [undef, undef, undef, undef, undef, undef, undef, undef, undef, undef, undef, undef, undef, undef, undef, undef, undef, undef, undef, undef, undef, undef, undef, undef, undef, undef, undef, undef, undef, undef, undef, undef, undef, undef, undef, undef, undef, undef, undef, undef, undef]), rfl, ⟨H2.out.1, H2.out.2⟩, Nat.zero_le _⟩
  intro x a' w3 hI
  obtain ⟨s0, rfl, hMB, hk0⟩ := hI
  have H3 : Hid (_ ∧ _) := hMB
  clear hMB H2
  by_cases hltx : x.1 < (min a.toNat m)
  · have hrd : True := trivial
    clear hrd
    have hxm : x.1 < m := by omega
    refine wp_seq ?_
    refine sq_start (l := [0]) rfl ?_
    refine rest_set (d := 28) (v := .bool true) (w' := w3) rfl rfl rfl (by go_simp <;> omega) ?_
    simp only [Act.put, sa, sz, ss]
    refine rest_nil (then_normal ?_)
    refine wp_seq (wp_cond_true rfl ?_)
    refine wp_skip (then_normal ?_)
    refine wp_seq (wp_block (wp_seq ?_))
    refine sq_start (l := [0, 1, 2, 3]) rfl ?_
    refine rest_set (d := 29) (v := PT gu (2 * x.1)) (w' := w3) rfl rfl rfl (ex_ixO rfl rfl rfl (by omega)) ?_
    simp only [Act.put, sa, sz, ss]
    refine rest_set (d := 30) (v := .agg ([Value.int .i64 (((F x.1).st : Nat) : Int), Value.slice (F x.1).q.p (F x.1).q.n (F x.1).q.cp]).toArray) (w' := w3) rfl rfl rfl (ex_ldO (H3.out.2.cell hgu.out hgn.out (hcl.out x.1 hxm).1) (H3.out.2.cell hgu.out hgn.out (hcl.out x.1 hxm).2) rfl rfl) ?_
    simp only [Act.put, sa, sz, ss]
    have nbz : Hid (w3.heap.size ∉ vbl x.2) := fun hm => Nat.lt_irrefl _ (own_lt H3.out.2.row _ hm)
    refine rest_set (d := 9) (v := PT w3.heap.size 0) (w' := (w3.alloc (.cells ([Value.int .i64 0, Value.slice none 0 0] : List Value).toArray 120))) rfl rfl rfl (ex_mk120 rfl) ?_
    simp only [Act.put, sa, sz, ss]
    have o_γs4 : Hid (w.heap.size ≤ w3.heap.size) := H3.out.2.size
    have H4 : Hid (Mm (w3.alloc (.cells ([Value.int .i64 0, Value.slice none 0 0] : List Value).toArray 120)) ((w3.heap.size, [Value.int .i64 0, Value.slice none 0 0]) :: [(g, [x.2, Value.slice (some ⟨gu, 0, none⟩) m cu, Value.bool false])]) ∧ Sg w g S x.2 (rN n F x.1) (rP P F x.1) (w3.alloc (.cells ([Value.int .i64 0, Value.slice none 0 0] : List Value).toArray 120))) := ⟨H3.out.1.alloc _ 120 rfl, Sg.below H3.out.2 (((Below.refl _ _).alloc (Nat.le_refl _) _))⟩
    clear H3
    generalize hgw : w3.alloc (.cells ([Value.int .i64 0, Value.slice none 0 0] : List Value).toArray 120) = w4 at H4 ⊢
    clear hgw
    generalize w3.heap.size = γs4 at nbz o_γs4 H4 ⊢
    have nb_γs4 : Hid _ := nbz.out
    clear nbz
    refine rest_store rfl rfl rfl (ex_storeT (vs := [Value.int .i64 (((F x.1).st : Nat) : Int), Value.slice (F x.1).q.p (F x.1).q.n (F x.1).q.cp]) H4.out.1 0 rfl rfl rfl rfl Try.sizeOf120 rfl (Nat.le_of_ble_eq_true rfl)) ?_
    have H5 : Hid (Mm (w4.setCells γs4 0 [Value.int .i64 (((F x.1).st : Nat) : Int), Value.slice (F x.1).q.p (F x.1).q.n (F x.1).q.cp]) [(γs4, [Value.int .i64 (((F x.1).st : Nat) : Int), Value.slice (F x.1).q.p (F x.1).q.n (F x.1).q.cp]), (g, [x.2, Value.slice (some ⟨gu, 0, none⟩) m cu, Value.bool false])] ∧ Sg w g S x.2 (rN n F x.1) (rP P F x.1) (w4.setCells γs4 0 [Value.int .i64 (((F x.1).st : Nat) : Int), Value.slice (F x.1).q.p (F x.1).q.n (F x.1).q.cp])) := ⟨H4.out.1.put 0 (off := 0) (vs := [Value.int .i64 (((F x.1).st : Nat) : Int), Value.slice (F x.1).q.p (F x.1).q.n (F x.1).q.cp]) rfl (Nat.le_of_ble_eq_true rfl), H4.out.2.putNew o_γs4.out nb_γs4.out _ _⟩
    clear H4
    generalize hgw : World.setCells _ _ _ _ = w5 at H5 ⊢
    clear hgw
    refine rest_nil (then_normal ?_)
    refine walk_enterV (by kernel_rfl) 6 [0] [.quiet (PT g 0), .quiet (.agg ([Value.int .i64 (((F x.1).st : Nat) : Int), Value.slice (F x.1).q.p (F x.1).q.n (F x.1).q.cp]).toArray), .quiet (PT g 0), .quiet (PT g 0), .quiet (PT g 0), .quiet (x.2)] (fun w' => Mm w' [(γs4, [Value.int .i64 (((F x.1).st : Nat) : Int), Value.slice (F x.1).q.p (F x.1).q.n (F x.1).q.cp]), (g, [x.2, Value.slice (some ⟨gu, 0, none⟩) m cu, Value.bool false])]) ?pre6 ?F6 ?G6 _ 37 ?hpre6 (fun γ => ?hF6) (fun v γ => ?hG6) (by kernel_rfl) rfl ?hL6 ?hS6 ?ho6 (fun v => ?hla6) ?he6
    case hpre6 => simp only [tk, tz]; rfl
    case hF6 => simp only [fill, Kind.val, Act.put, sa, sz, ss]; rfl
    case hG6 => simp only [fill, Kind.val, Act.put, sa, sz, ss]; rfl
    case hL6 => exact trivial
    case hS6 => exact fun w' hb => H5.out.1.below hb
    case ho6 =>
      refine ak (fun _ => ⟨rfl, fun _ _ => rfl⟩) ?_
      refine ak (fun γ => ⟨rfl, fun w' h => ex_loadT h 0 rfl rfl rfl Try.isAgg120 Try.sizeOf120 rfl rfl⟩) ?_
      refine ak (fun _ => ⟨rfl, fun _ _ => rfl⟩) ?_
      refine ak (by refine fun γ => ⟨rfl, fun w' h => ?_⟩; clear h; go_simp) ?_
      refine ak (by refine fun γ => ⟨rfl, fun w' h => ?_⟩; clear h; go_simp) ?_
      refine ak (fun γ => ⟨rfl, fun w' h => ex_loadC h 1 rfl rfl rfl Try.isAgg34 rfl⟩) ?_
      exact trivial
    case hla6 => exact ⟨⟨_, _, rfl, rfl, fun γ => ⟨rfl, fun w' => rfl⟩⟩, trivial⟩
    intro γ w6 l hM hl
    have M6 : Mm w6 [(γs4, [Value.int .i64 (((F x.1).st : Nat) : Int), Value.slice (F x.1).q.p (F x.1).q.n (F x.1).q.cp]), (g, [x.2, Value.slice (some ⟨gu, 0, none⟩) m cu, Value.bool false])] := H5.out.1.grow hM (Nat.le_refl _) hl [] rfl (by decide)
    have B6 : Sg w g S x.2 (rN n F x.1) (rP P F x.1) w6 := Sg.below H5.out.2 (hM.below)
    clear hM hl l H5
    clear γ
    have H6 : Hid (_ ∧ _) := ⟨M6, B6⟩
    clear M6 B6
    refine ⟨102, #[.agg ([.int .i64 (((F x.1).st : Nat) : Int), .slice (F x.1).q.p (F x.1).q.n (F x.1).q.cp] : List Value).toArray, x.2], fun vv w' => w'.ownsRow 0 5 1 vv ((F x.1).st + (F x.1).q.n) (ints .u8 (ct (rP P F x.1) (F x.1).st (F x.1).q.f) ((F x.1).st + (F x.1).q.n)) ∧ Chg (vbl x.2) w6 w' ∧ ∀ z ∈ vbl vv, z ∈ vbl x.2 ∨ w6.heap.size ≤ z, exec_call rfl call102 rfl (mpn rfl), upon_v (F x.1) x.2 _ 0 _ (hv.out x.1 hxm).1 (hv.out x.1 hxm).2 w6 (Nat.zero_le _) H6.out.2.row (hok.out x.1 hxm _ _ _ _ H6.out.2), ?_⟩
    rintro vr w7 ⟨hO, hC, hb5⟩
    have hM : Mm w7 [(g, [x.2, Value.slice (some ⟨gu, 0, none⟩) m cu, Value.bool false])] := hC.mm (H6.out.1.one 1 rfl) (fun p hp => by obtain rfl := List.mem_singleton.1 hp; exact H6.out.2.ng hgS.out hg.out)
    have hs1 : Hid _ := own_st hO
    have H7 : Hid (Mm w7 [(g, [x.2, Value.slice (some ⟨gu, 0, none⟩) m cu, Value.bool false])] ∧ Sg w g S vr (rN n F (x.1 + 1)) (rP P F (x.1 + 1)) w7) := ⟨hM, H6.out.2.on hC hO hb5⟩
    clear hO hC hb5 hM H6
    refine rest_at (l := [7, 8, 9]) rfl ?_
    refine rest_set (d := 38) (v := PT g 0) (w' := w7) rfl rfl rfl (by go_simp) ?_
    simp only [Act.put, sa, sz, ss]
    refine rest_set (d := 39) (v := PT g 0) (w' := w7) rfl rfl rfl (by go_simp) ?_
    simp only [Act.put, sa, sz, ss]
    refine rest_store rfl rfl rfl (ex_st1 (v := vr) H7.out.1 0 rfl rfl Try.sizeOf34 rfl rfl (hs1.out) (Nat.le_of_ble_eq_true rfl)) ?_
    have H8 : Hid (Mm (w7.setCells g 0 [vr]) [(g, [vr, Value.slice (some ⟨gu, 0, none⟩) m cu, Value.bool false])] ∧ Sg w g S vr (rN n F (x.1 + 1)) (rP P F (x.1 + 1)) (w7.setCells g 0 [vr])) := ⟨H7.out.1.put 0 (off := 0) (vs := [vr]) rfl (Nat.le_of_ble_eq_true rfl), H7.out.2.put hgS.out hg.out _ _⟩
    clear H7
    generalize hgw : World.setCells _ _ _ _ = w8 at H8 ⊢
    clear hgw
    refine rest_nil (block_normal (then_normal ?_))
    refine sq_start (l := [0, 1]) rfl ?_
    refine rest_set (d := 40) (v := .int .i64 ((x.1 + 1 : Nat) : Int)) (w' := w8) rfl rfl rfl (by go_simp; rw [IntKind.wrap_i64]; omega) ?_
    simp only [Act.put, sa, sz, ss]
    refine rest_set (d := 27) (v := .int .i64 ((x.1 + 1 : Nat) : Int)) (w' := w8) rfl rfl rfl (rfl) ?_
    simp only [Act.put, sa, sz, ss]
    refine rest_nil (then_normal ?_)
    exact ⟨(x.1 + 1, vr), ⟨(slotfn [undef, undef, undef, undef, undef, undef, undef, undef, undef, PT γs4 0, undef, undef, undef, undef, undef, undef, undef, undef, undef, undef, undef, undef, undef, undef, undef, undef, undef, undef, .bool true, PT gu (2 * x.1), .agg ([Value.int .i64 (((F x.1).st : Nat) : Int), Value.slice (F x.1).q.p (F x.1).q.n (F x.1).q.cp]).toArray, PT g 0, .agg ([Value.int .i64 (((F x.1).st : Nat) : Int), Value.slice (F x.1).q.p (F x.1).q.n (F x.1).q.cp]).toArray, PT g 0, PT g 0, PT g 0, x.2, vr, PT g 0, PT g 0, .int .i64 ((x.1 + 1 : Nat) : Int)]), rfl, ⟨H8.out.1, H8.out.2⟩, (show x.1 + 1 ≤ (min a.toNat m) by omega)⟩, (show (min a.toNat m) - (x.1 + 1) < (min a.toNat m) - x.1 by omega)⟩
  have hxN : x.1 = (min a.toNat m) := by omega
  refine wp_seq ?_
  refine sq_start (l := [0]) rfl ?_
  refine rest_set (d := 28) (v := .bool false) (w' := w3) rfl rfl rfl (by go_simp <;> omega) ?_
  simp only [Act.put, sa, sz, ss]
  refine rest_nil (then_normal ?_)
  refine wp_seq (wp_cond_false rfl ?_)
  refine wp_exit ?_
  repeat refine then_exit ?_
  refine block_exit ?_
  have H9 : Hid (Mm w3 [(g, [x.2, Value.slice (some ⟨gu, 0, none⟩) m cu, Value.bool false])] ∧ Sg w g S x.2 (rN n F (min a.toNat m)) (rP P F (min a.toNat m)) w3) := ⟨H3.out.1, by rw [← hxN]; exact H3.out.2⟩
  clear H3
  refine then_normal (wp_seq ?_)
  refine sq_start (l := [0]) rfl ?_
  refine rest_set (d := 10) (v := .int .i64 0) (w' := w3) rfl rfl rfl (rfl) ?_
  simp only [Act.put, sa, sz, ss]
  refine rest_nil (then_normal ?_)
  refine wp_seq (wp_seq ?_)
  refine sq_start (l := [0, 1, 2, 3, 4, 5, 6]) rfl ?_
  refine rest_set (d := 41) (v := PT g 0) (w' := w3) rfl rfl rfl (rfl) ?_
  simp only [Act.put, sa, sz, ss]
  refine rest_set (d := 42) (v := PT g 0) (w' := w3) rfl rfl rfl (by go_simp) ?_
  simp only [Act.put, sa, sz, ss]
  refine rest_set (d := 43) (v := PT g 1) (w' := w3) rfl rfl rfl (by go_simp) ?_
  simp only [Act.put, sa, sz, ss]
  refine rest_set (d := 44) (v := .slice (some ⟨gu, 0, none⟩) m cu) (w' := w3) rfl rfl rfl (ex_loadC H9.out.1 0 rfl rfl rfl Try.isAgg115 rfl) ?_
  simp only [Act.put, sa, sz, ss]
  refine rest_set (d := 45) (v := .int .i64 ((min a.toNat m : Nat) : Int)) (w' := w3) rfl rfl rfl (rfl) ?_
  simp only [Act.put, sa, sz, ss]
  refine rest_set (d := 46) (v := .slice (dz (some ⟨gu, 0, none⟩) m cu) 0 (cu - m)) (w' := w3) rfl rfl rfl (ex_dropZ rfl rfl hda) ?_
  simp only [Act.put, sa, sz, ss]
  refine rest_set (d := 11) (v := .slice (dz (some ⟨gu, 0, none⟩) m cu) 0 (cu - m)) (w' := w3) rfl rfl rfl (rfl) ?_
  simp only [Act.put, sa, sz, ss]
  refine rest_nil (then_normal (wp_seq ?_))
  refine sq_start (l := [0, 1, 2]) rfl ?_
  refine rest_set (d := 47) (v := .slice (dz (some ⟨gu, 0, none⟩) m cu) 0 (cu - m)) (w' := w3) rfl rfl rfl (rfl) ?_
  simp only [Act.put, sa, sz, ss]
  refine rest_set (d := 48) (v := .int .i64 0) (w' := w3) rfl rfl rfl (by go_simp) ?_
  simp only [Act.put, sa, sz, ss]
  refine rest_set (d := 49) (v := .bool false) (w' := w3) rfl rfl rfl (by go_simp <;> omega) ?_
  simp only [Act.put, sa, sz, ss]
  refine rest_nil (then_normal ?_)
  refine wp_cond_false rfl (wp_skip ?_)
  refine then_normal (wp_seq ?_)
  refine sq_start (l := [0, 1, 2, 3, 4, 5, 6, 7, 8, 9, 10, 11]) rfl ?_
  refine rest_set (d := 71) (v := PT g 0) (w' := w3) rfl rfl rfl (rfl) ?_
  simp only [Act.put, sa, sz, ss]
  refine rest_set (d := 72) (v := PT g 0) (w' := w3) rfl rfl rfl (by go_simp) ?_
  simp only [Act.put, sa, sz, ss]
  refine rest_set (d := 73) (v := PT g 2) (w' := w3) rfl rfl rfl (by go_simp) ?_
  simp only [Act.put, sa, sz, ss]
  refine rest_set (d := 74) (v := .bool false) (w' := w3) rfl rfl rfl (ex_loadC H9.out.1 0 rfl rfl rfl Try.isAgg4 rfl) ?_
  simp only [Act.put, sa, sz, ss]
  refine rest_set (d := 75) (v := .bool true) (w' := w3) rfl rfl rfl (by go_simp) ?_
  simp only [Act.put, sa, sz, ss]
  refine rest_set (d := 76) (v := .bool true) (w' := w3) rfl rfl rfl (rfl) ?_
  simp only [Act.put, sa, sz, ss]
  refine rest_gone1 (d := 77) rfl rfl rfl ?_
  simp only [Act.put, sa, sz, ss]
  refine rest_gone1 (d := 78) rfl rfl rfl ?_
  simp only [Act.put, sa, sz, ss]
  refine rest_gone1 (d := 79) rfl rfl rfl ?_
  simp only [Act.put, sa, sz, ss]
  refine rest_gone1 (d := 80) rfl rfl rfl ?_
  simp only [Act.put, sa, sz, ss]
  refine rest_set (d := 81) (v := .bool true) (w' := w3) rfl rfl rfl (by go_simp) ?_
  simp only [Act.put, sa, sz, ss]
  refine rest_set (d := 12) (v := .bool true) (w' := w3) rfl rfl rfl (rfl) ?_
  simp only [Act.put, sa, sz, ss]
  refine rest_nil (then_normal (wp_seq ?_))
  refine sq_start (l := [0, 1, 2, 3, 4, 5, 6, 7]) rfl ?_
  refine rest_set (d := 82) (v := PT g 0) (w' := w3) rfl rfl rfl (rfl) ?_
  simp only [Act.put, sa, sz, ss]
  refine rest_set (d := 83) (v := PT g 0) (w' := w3) rfl rfl rfl (rfl) ?_
  simp only [Act.put, sa, sz, ss]
  refine rest_set (d := 84) (v := PT g 0) (w' := w3) rfl rfl rfl (by go_simp) ?_
  simp only [Act.put, sa, sz, ss]
  refine rest_set (d := 85) (v := PT g 1) (w' := w3) rfl rfl rfl (by go_simp) ?_
  simp only [Act.put, sa, sz, ss]
  refine rest_store rfl rfl rfl (ex_st1 (v := .slice none 0 0) H9.out.1 0 rfl rfl Try.sizeOf115 rfl rfl (rfl) (Nat.le_of_ble_eq_true rfl)) ?_
  have H10 : Hid (Mm (w3.setCells g 1 [Value.slice none 0 0]) [(g, [x.2, Value.slice none 0 0, Value.bool false])] ∧ Sg w g S x.2 (rN n F (min a.toNat m)) (rP P F (min a.toNat m)) (w3.setCells g 1 [Value.slice none 0 0])) := ⟨H9.out.1.put 0 (off := 1) (vs := [Value.slice none 0 0]) rfl (Nat.le_of_ble_eq_true rfl), H9.out.2.put hgS.out hg.out _ _⟩
  clear H9
  generalize hgw : World.setCells _ _ _ _ = w10 at H10 ⊢
  clear hgw
  refine rest_set (d := 86) (v := PT g 0) (w' := w10) rfl rfl rfl (by go_simp) ?_
  simp only [Act.put, sa, sz, ss]
  refine rest_set (d := 87) (v := PT g 2) (w' := w10) rfl rfl rfl (by go_simp) ?_
  simp only [Act.put, sa, sz, ss]
  refine rest_store rfl rfl rfl (ex_st1 (v := .bool false) H10.out.1 0 rfl rfl Try.sizeOf4 rfl rfl (rfl) (Nat.le_of_ble_eq_true rfl)) ?_
  have H11 : Hid (Mm (w10.setCells g 2 [Value.bool false]) [(g, [x.2, Value.slice none 0 0, Value.bool false])] ∧ Sg w g S x.2 (rN n F (min a.toNat m)) (rP P F (min a.toNat m)) (w10.setCells g 2 [Value.bool false])) := ⟨H10.out.1.put 0 (off := 2) (vs := [Value.bool false]) rfl (Nat.le_of_ble_eq_true rfl), H10.out.2.put hgS.out hg.out _ _⟩
  clear H10
  generalize hgw : World.setCells _ _ _ _ = w11 at H11 ⊢
  clear hgw
  refine rest_nil (then_normal (wp_seq ?_))
  refine sq_start (l := [0, 1]) rfl ?_
  refine rest_set (d := 88) (v := .bool true) (w' := w11) rfl rfl rfl (rfl) ?_
  simp only [Act.put, sa, sz, ss]
  refine rest_set (d := 6) (v := .bool true) (w' := w11) rfl rfl rfl (rfl) ?_
  simp only [Act.put, sa, sz, ss]
  refine rest_nil (then_normal (wp_ret ?_))
  repeat (first | refine then_ret ?_ | refine block_ret ?_)
  refine bodyPost_ret (v := .bool true) (by simp [results, Try.results73, go_sem, *]) rfl ?_
  exact ⟨rfl, x.2, H11.out.1, H11.out.2⟩
set_option maxHeartbeats 4000000 in
set_option maxRecDepth 100000 in
theorem settle_all_new (g : Nat) (S : Value) (n : Nat) (P : Nat → Nat) (a bt : Int) (cu : Nat) (gu m : Nat) (F : Nat → Uop) (hmm : m ≤ 1000000) (hmc : m ≤ cu) (hdn : min a.toNat m = m) (w : World) (hm : Mm w [(g, [S, Value.slice (some ⟨gu, 0, none⟩) m cu, Value.bool true])]) (hg0 : g < w.heap.size) (hgS0 : g ∉ vbl S) (row0 : w.ownsRow 0 5 1 S n (ints .u8 P n)) (hgu0 : gu < w.heap.size) (hgn0 : gu ∉ g :: vbl S) (hcl0 : ∀ i, i < m → w.cell? ⟨gu, 2 * i, none⟩ = some (.int .i64 ((F i).st : Int)) ∧ w.cell? ⟨gu, 2 * i + 1, none⟩ = some (.slice (F i).q.p (F i).q.n (F i).q.cp)) (hv0 : ∀ i, i < m → (F i).st ≤ rN n F i ∧ (F i).st + (F i).q.n ≤ 2097152) (hok0 : ∀ i, i < m → ∀ s' n' P' w', Sg w g S s' n' P' w' → (F i).ok w') :
    Calls Try.prog 73 #[PT g 0, .int .i64 a, .int .i64 bt] w fun e w' => e = .returned (.bool (decide (0 < (min a.toNat m) + 0))) ∧ ∃ s', Mm w' [(g, [s', Value.slice none 0 0, Value.bool false])] ∧ Sg w g S s' (rN n F (min a.toNat m)) (rP P F (min a.toNat m)) w' := by
  have H0 : Hid (_ ∧ _) := ⟨hm, Sg.start (g := g) row0⟩
  clear hm
  have hg : Hid _ := hg0
  have hgS : Hid _ := hgS0
  clear hg0 hgS0
  have hgu : Hid _ := hgu0
  have hgn : Hid _ := hgn0
  have hcl : Hid _ := hcl0
  have hv : Hid _ := hv0
  have hok : Hid _ := hok0
  clear hgu0 hgn0 hcl0 hv0 hok0
  have hda : (Value.int .i64 (((min a.toNat m) : Nat) : Int)) = .int .i64 ((m : Nat) : Int) := by rw [hdn]
  go_enter Try.func73, Try.ntmps73
  refine wp_seq ?_
  refine sq_startW (l := [0]) rfl (fun u0 hu0 => ?_)
  have H1 : Hid (Mm u0 [(g, [S, Value.slice (some ⟨gu, 0, none⟩) m cu, Value.bool true])] ∧ Sg w g S S n P u0) := by rw [hu0]; exact H0
  clear hu0 H0
  refine rest_set (d := 6) (v := .bool false) (w' := u0) rfl rfl rfl (rfl) ?_
  simp only [Act.put, sa, sz, ss]
  refine rest_nil (then_normal (wp_seq ?_))
  refine sq_start (l := [0, 1, 2, 3, 4, 5, 6, 7]) rfl ?_
  refine rest_set (d := 13) (v := .int .i64 a) (w' := u0) rfl rfl rfl (rfl) ?_
  simp only [Act.put, sa, sz, ss]
  refine rest_set (d := 14) (v := PT g 0) (w' := u0) rfl rfl rfl (rfl) ?_
  simp only [Act.put, sa, sz, ss]
  refine rest_set (d := 15) (v := PT g 0) (w' := u0) rfl rfl rfl (by go_simp) ?_
  simp only [Act.put, sa, sz, ss]
  refine rest_set (d := 16) (v := PT g 1) (w' := u0) rfl rfl rfl (by go_simp) ?_
  simp only [Act.put, sa, sz, ss]
  refine rest_set (d := 17) (v := .slice (some ⟨gu, 0, none⟩) m cu) (w' := u0) rfl rfl rfl (ex_loadC H1.out.1 0 rfl rfl rfl Try.isAgg115 rfl) ?_
  simp only [Act.put, sa, sz, ss]
  refine rest_set (d := 18) (v := .int .i64 ((m : Nat) : Int)) (w' := u0) rfl rfl rfl (by go_simp) ?_
  simp only [Act.put, sa, sz, ss]
  refine rest_enter (d := 19) (R := fun vv w' => vv = .int .i64 ((min a.toNat m : Nat) : Int) ∧ Below u0.heap.size u0 w') rfl rfl rfl (exec_call (args := #[.int .i64 a, .int .i64 ((m : Nat) : Int)]) rfl call104 rfl (mpn rfl)) (Calls.mono (within_any a m u0) (fun e w2 hh => ⟨_, hh.1, rfl, hh.2⟩)) ?_
  rintro _ w2 ⟨rfl, hb⟩
  have H2 : Hid (Mm w2 [(g, [S, Value.slice (some ⟨gu, 0, none⟩) m cu, Value.bool true])] ∧ Sg w g S S n P w2) := ⟨H1.out.1.below hb, Sg.below H1.out.2 (hb)⟩
  clear hb
  clear H1
  simp only [Act.put, sa, sz, ss]
  refine rest_set (d := 7) (v := .int .i64 ((min a.toNat m : Nat) : Int)) (w' := w2) rfl rfl rfl (rfl) ?_
  simp only [Act.put, sa, sz, ss]
  refine rest_nil (then_normal ?_)
  refine wp_seq (wp_seq ?_)
  refine sq_start (l := [0, 1, 2, 3, 4, 5, 6, 7]) rfl ?_
  refine rest_set (d := 20) (v := PT g 0) (w' := w2) rfl rfl rfl (rfl) ?_
  simp only [Act.put, sa, sz, ss]
  refine rest_set (d := 21) (v := PT g 0) (w' := w2) rfl rfl rfl (by go_simp) ?_
  simp only [Act.put, sa, sz, ss]
  refine rest_set (d := 22) (v := PT g 1) (w' := w2) rfl rfl rfl (by go_simp) ?_
  simp only [Act.put, sa, sz, ss]
  refine rest_set (d := 23) (v := .slice (some ⟨gu, 0, none⟩) m cu) (w' := w2) rfl rfl rfl (ex_loadC H2.out.1 0 rfl rfl rfl Try.isAgg115 rfl) ?_
  simp only [Act.put, sa, sz, ss]
  refine rest_set (d := 24) (v := .int .i64 ((min a.toNat m : Nat) : Int)) (w' := w2) rfl rfl rfl (rfl) ?_
  simp only [Act.put, sa, sz, ss]
  refine rest_set (d := 25) (v := .slice (some ⟨gu, 0, none⟩) (min a.toNat m) cu) (w' := w2) rfl rfl rfl (ex_takeO (by omega) rfl rfl rfl) ?_
  simp only [Act.put, sa, sz, ss]
  refine rest_set (d := 26) (v := .int .i64 (((min a.toNat m) : Nat) : Int)) (w' := w2) rfl rfl rfl (by go_simp) ?_
  simp only [Act.put, sa, sz, ss]
  refine rest_set (d := 27) (v := .int .i64 0) (w' := w2) rfl rfl rfl (rfl) ?_
  simp only [Act.put, sa, sz, ss]
  refine rest_nil (then_normal (wp_block ?_))
  refine loop_ghost (α := Nat × Value) (fun x a' w' => ∃ s0 : Nat → Value, a' = ⟨#[PT g 0, .int .i64 a, .int .i64 bt, undef, undef, undef, .bool false, .int .i64 ((min a.toNat m : Nat) : Int), undef, s0 9, undef, undef, undef, .int .i64 a, PT g 0, PT g 0, PT g 1, .slice (some ⟨gu, 0, none⟩) m cu, .int .i64 ((m : Nat) : Int), .int .i64 ((min a.toNat m : Nat) : Int), PT g 0, PT g 0, PT g 1, .slice (some ⟨gu, 0, none⟩) m cu, .int .i64 ((min a.toNat m : Nat) : Int), .slice (some ⟨gu, 0, none⟩) (min a.toNat m) cu, .int .i64 (((min a.toNat m) : Nat) : Int), .int .i64 ((x.1 : Nat) : Int), s0 28, s0 29, s0 30, s0 31, s0 32, s0 33, s0 34, s0 35, s0 36, s0 37, s0 38, s0 39, s0 40, undef, undef, undef, undef, undef, undef, undef, undef, undef, undef, undef, undef, undef, undef, undef, undef, undef, undef, undef, undef, undef, undef, undef, undef, undef, undef, undef, undef, undef, undef, undef, undef, undef, undef, undef, undef, undef, undef, undef, undef, undef, undef, undef, undef, undef, undef, undef, undef], []⟩ ∧ (Mm w' [(g, [x.2, Value.slice (some ⟨gu, 0, none⟩) m cu, Value.bool true])] ∧ Sg w g S x.2 (rN n F x.1) (rP P F x.1) w') ∧ x.1 ≤ (min a.toNat m)) (fun x => (min a.toNat m) - x.1) (0, S) ?st0 ?rd0
  case st0 => exact ⟨(slotfn [undef, undef, undef, undef, undef, undef, undef, undef, undef, undef, undef, undef, undef, undef, undef, undef, undef, undef, undef, undef, undef, undef, undef, undef, undef, undef, undef, undef, undef, undef, undef, undef, undef, undef, undef, undef, undef, undef, undef, undef, undef]), rfl, ⟨H2.out.1, H2.out.2⟩, Nat.zero_le _⟩
  intro x a' w3 hI
  obtain ⟨s0, rfl, hMB, hk0⟩ := hI
  have H3 : Hid (_ ∧ _) := hMB
  clear hMB H2
  by_cases hltx : x.1 < (min a.toNat m)
  · have hrd : True := trivial
    clear hrd
    have hxm : x.1 < m := by omega
    refine wp_seq ?_
    refine sq_start (l := [0]) rfl ?_
    refine rest_set (d := 28) (v := .bool true) (w' := w3) rfl rfl rfl (by go_simp <;> omega) ?_
    simp only [Act.put, sa, sz, ss]
    refine rest_nil (then_normal ?_)
    refine wp_seq (wp_cond_true rfl ?_)
    refine wp_skip (then_normal ?_)
    refine wp_seq (wp_block (wp_seq ?_))
    refine sq_start (l := [0, 1, 2, 3]) rfl ?_
    refine rest_set (d := 29) (v := PT gu (2 * x.1)) (w' := w3) rfl rfl rfl (ex_ixO rfl rfl rfl (by omega)) ?_
    simp only [Act.put, sa, sz, ss]
    refine rest_set (d := 30) (v := .agg ([Value.int .i64 (((F x.1).st : Nat) : Int), Value.slice (F x.1).q.p (F x.1).q.n (F x.1).q.cp]).toArray) (w' := w3) rfl rfl rfl (ex_ldO (H3.out.2.cell hgu.out hgn.out (hcl.out x.1 hxm).1) (H3.out.2.cell hgu.out hgn.out (hcl.out x.1 hxm).2) rfl rfl) ?_
    simp only [Act.put, sa, sz, ss]
    have nbz : Hid (w3.heap.size ∉ vbl x.2) := fun hm => Nat.lt_irrefl _ (own_lt H3.out.2.row _ hm)
    refine rest_set (d := 9) (v := PT w3.heap.size 0) (w' := (w3.alloc (.cells ([Value.int .i64 0, Value.slice none 0 0] : List Value).toArray 120))) rfl rfl rfl (ex_mk120 rfl) ?_
    simp only [Act.put, sa, sz, ss]
    have o_γs4 : Hid (w.heap.size ≤ w3.heap.size) := H3.out.2.size
    have H4 : Hid (Mm (w3.alloc (.cells ([Value.int .i64 0, Value.slice none 0 0] : List Value).toArray 120)) ((w3.heap.size, [Value.int .i64 0, Value.slice none 0 0]) :: [(g, [x.2, Value.slice (some ⟨gu, 0, none⟩) m cu, Value.bool true])]) ∧ Sg w g S x.2 (rN n F x.1) (rP P F x.1) (w3.alloc (.cells ([Value.int .i64 0, Value.slice none 0 0] : List Value).toArray 120))) := ⟨H3.out.1.alloc _ 120 rfl, Sg.below H3.out.2 (((Below.refl _ _).alloc (Nat.le_refl _) _))⟩
    clear H3
    generalize hgw : w3.alloc (.cells ([Value.int .i64 0, Value.slice none 0 0] : List Value).toArray 120) = w4 at H4 ⊢
    clear hgw
    generalize w3.heap.size = γs4 at nbz o_γs4 H4 ⊢
    have nb_γs4 : Hid _ := nbz.out
    clear nbz
    refine rest_store rfl rfl rfl (ex_storeT (vs := [Value.int .i64 (((F x.1).st : Nat) : Int), Value.slice (F x.1).q.p (F x.1).q.n (F x.1).q.cp]) H4.out.1 0 rfl rfl rfl rfl Try.sizeOf120 rfl (Nat.le_of_ble_eq_true rfl)) ?_
    have H5 : Hid (Mm (w4.setCells γs4 0 [Value.int .i64 (((F x.1).st : Nat) : Int), Value.slice (F x.1).q.p (F x.1).q.n (F x.1).q.cp]) [(γs4, [Value.int .i64 (((F x.1).st : Nat) : Int), Value.slice (F x.1).q.p (F x.1).q.n (F x.1).q.cp]), (g, [x.2, Value.slice (some ⟨gu, 0, none⟩) m cu, Value.bool true])] ∧ Sg w g S x.2 (rN n F x.1) (rP P F x.1) (w4.setCells γs4 0 [Value.int .i64 (((F x.1).st : Nat) : Int), Value.slice (F x.1).q.p (F x.1).q.n (F x.1).q.cp])) := ⟨H4.out.1.put 0 (off := 0) (vs := [Value.int .i64 (((F x.1).st : Nat) : Int), Value.slice (F x.1).q.p (F x.1).q.n (F x.1).q.cp]) rfl (Nat.le_of_ble_eq_true rfl), H4.out.2.putNew o_γs4.out nb_γs4.out _ _⟩
    clear H4
    generalize hgw : World.setCells _ _ _ _ = w5 at H5 ⊢
    clear hgw
    refine rest_nil (then_normal ?_)
    refine walk_enterV (by kernel_rfl) 6 [0] [.quiet (PT g 0), .quiet (.agg ([Value.int .i64 (((F x.1).st : Nat) : Int), Value.slice (F x.1).q.p (F x.1).q.n (F x.1).q.cp]).toArray), .quiet (PT g 0), .quiet (PT g 0), .quiet (PT g 0), .quiet (x.2)] (fun w' => Mm w' [(γs4, [Value.int .i64 (((F x.1).st : Nat) : Int), Value.slice (F x.1).q.p (F x.1).q.n (F x.1).q.cp]), (g, [x.2, Value.slice (some ⟨gu, 0, none⟩) m cu, Value.bool true])]) ?pre6 ?F6 ?G6 _ 37 ?hpre6 (fun γ => ?hF6) (fun v γ => ?hG6) (by kernel_rfl) rfl ?hL6 ?hS6 ?ho6 (fun v => ?hla6) ?he6
    case hpre6 => simp only [tk, tz]; rfl
    case hF6 => simp only [fill, Kind.val, Act.put, sa, sz, ss]; rfl
    case hG6 => simp only [fill, Kind.val, Act.put, sa, sz, ss]; rfl
    case hL6 => exact trivial
    case hS6 => exact fun w' hb => H5.out.1.below hb
    case ho6 =>
      refine ak (fun _ => ⟨rfl, fun _ _ => rfl⟩) ?_
      refine ak (fun γ => ⟨rfl, fun w' h => ex_loadT h 0 rfl rfl rfl Try.isAgg120 Try.sizeOf120 rfl rfl⟩) ?_
      refine ak (fun _ => ⟨rfl, fun _ _ => rfl⟩) ?_
      refine ak (by refine fun γ => ⟨rfl, fun w' h => ?_⟩; clear h; go_simp) ?_
      refine ak (by refine fun γ => ⟨rfl, fun w' h => ?_⟩; clear h; go_simp) ?_
      refine ak (fun γ => ⟨rfl, fun w' h => ex_loadC h 1 rfl rfl rfl Try.isAgg34 rfl⟩) ?_
      exact trivial
    case hla6 => exact ⟨⟨_, _, rfl, rfl, fun γ => ⟨rfl, fun w' => rfl⟩⟩, trivial⟩
    intro γ w6 l hM hl
    have M6 : Mm w6 [(γs4, [Value.int .i64 (((F x.1).st : Nat) : Int), Value.slice (F x.1).q.p (F x.1).q.n (F x.1).q.cp]), (g, [x.2, Value.slice (some ⟨gu, 0, none⟩) m cu, Value.bool true])] := H5.out.1.grow hM (Nat.le_refl _) hl [] rfl (by decide)
    have B6 : Sg w g S x.2 (rN n F x.1) (rP P F x.1) w6 := Sg.below H5.out.2 (hM.below)
    clear hM hl l H5
    clear γ
    have H6 : Hid (_ ∧ _) := ⟨M6, B6⟩
    clear M6 B6
    refine ⟨102, #[.agg ([.int .i64 (((F x.1).st : Nat) : Int), .slice (F x.1).q.p (F x.1).q.n (F x.1).q.cp] : List Value).toArray, x.2], fun vv w' => w'.ownsRow 0 5 1 vv ((F x.1).st + (F x.1).q.n) (ints .u8 (ct (rP P F x.1) (F x.1).st (F x.1).q.f) ((F x.1).st + (F x.1).q.n)) ∧ Chg (vbl x.2) w6 w' ∧ ∀ z ∈ vbl vv, z ∈ vbl x.2 ∨ w6.heap.size ≤ z, exec_call rfl call102 rfl (mpn rfl), upon_v (F x.1) x.2 _ 0 _ (hv.out x.1 hxm).1 (hv.out x.1 hxm).2 w6 (Nat.zero_le _) H6.out.2.row (hok.out x.1 hxm _ _ _ _ H6.out.2), ?_⟩
    rintro vr w7 ⟨hO, hC, hb5⟩
    have hM : Mm w7 [(g, [x.2, Value.slice (some ⟨gu, 0, none⟩) m cu, Value.bool true])] := hC.mm (H6.out.1.one 1 rfl) (fun p hp => by obtain rfl := List.mem_singleton.1 hp; exact H6.out.2.ng hgS.out hg.out)
    have hs1 : Hid _ := own_st hO
    have H7 : Hid (Mm w7 [(g, [x.2, Value.slice (some ⟨gu, 0, none⟩) m cu, Value.bool true])] ∧ Sg w g S vr (rN n F (x.1 + 1)) (rP P F (x.1 + 1)) w7) := ⟨hM, H6.out.2.on hC hO hb5⟩
    clear hO hC hb5 hM H6
    refine rest_at (l := [7, 8, 9]) rfl ?_
    refine rest_set (d := 38) (v := PT g 0) (w' := w7) rfl rfl rfl (by go_simp) ?_
    simp only [Act.put, sa, sz, ss]
    refine rest_set (d := 39) (v := PT g 0) (w' := w7) rfl rfl rfl (by go_simp) ?_
    simp only [Act.put, sa, sz, ss]
    refine rest_store rfl rfl rfl (ex_st1 (v := vr) H7.out.1 0 rfl rfl Try.sizeOf34 rfl rfl (hs1.out) (Nat.le_of_ble_eq_true rfl)) ?_
    have H8 : Hid (Mm (w7.setCells g 0 [vr]) [(g, [vr, Value.slice (some ⟨gu, 0, none⟩) m cu, Value.bool true])] ∧ Sg w g S vr (rN n F (x.1 + 1)) (rP P F (x.1 + 1)) (w7.setCells g 0 [vr])) := ⟨H7.out.1.put 0 (off := 0) (vs := [vr]) rfl (Nat.le_of_ble_eq_true rfl), H7.out.2.put hgS.out hg.out _ _⟩
    clear H7
    generalize hgw : World.setCells _ _ _ _ = w8 at H8 ⊢
    clear hgw
    refine rest_nil (block_normal (then_normal ?_))
    refine sq_start (l := [0, 1]) rfl ?_
    refine rest_set (d := 40) (v := .int .i64 ((x.1 + 1 : Nat) : Int)) (w' := w8) rfl rfl rfl (by go_simp; rw [IntKind.wrap_i64]; omega) ?_
    simp only [Act.put, sa, sz, ss]
    refine rest_set (d := 27) (v := .int .i64 ((x.1 + 1 : Nat) : Int)) (w' := w8) rfl rfl rfl (rfl) ?_
    simp only [Act.put, sa, sz, ss]
    refine rest_nil (then_normal ?_)
    exact ⟨(x.1 + 1, vr), ⟨(slotfn [undef, undef, undef, undef, undef, undef, undef, undef, undef, PT γs4 0, undef, undef, undef, undef, undef, undef, undef, undef, undef, undef, undef, undef, undef, undef, undef, undef, undef, undef, .bool true, PT gu (2 * x.1), .agg ([Value.int .i64 (((F x.1).st : Nat) : Int), Value.slice (F x.1).q.p (F x.1).q.n (F x.1).q.cp]).toArray, PT g 0, .agg ([Value.int .i64 (((F x.1).st : Nat) : Int), Value.slice (F x.1).q.p (F x.1).q.n (F x.1).q.cp]).toArray, PT g 0, PT g 0, PT g 0, x.2, vr, PT g 0, PT g 0, .int .i64 ((x.1 + 1 : Nat) : Int)]), rfl, ⟨H8.out.1, H8.out.2⟩, (show x.1 + 1 ≤ (min a.toNat m) by omega)⟩, (show (min a.toNat m) - (x.1 + 1) < (min a.toNat m) - x.1 by omega)⟩
  have hxN : x.1 = (min a.toNat m) := by omega
  refine wp_seq ?_
  refine sq_start (l := [0]) rfl ?_
  refine rest_set (d := 28) (v := .bool false) (w' := w3) rfl rfl rfl (by go_simp <;> omega) ?_
  simp only [Act.put, sa, sz, ss]
  refine rest_nil (then_normal ?_)
  refine wp_seq (wp_cond_false rfl ?_)
  refine wp_exit ?_
  repeat refine then_exit ?_
  refine block_exit ?_
  have H9 : Hid (Mm w3 [(g, [x.2, Value.slice (some ⟨gu, 0, none⟩) m cu, Value.bool true])] ∧ Sg w g S x.2 (rN n F (min a.toNat m)) (rP P F (min a.toNat m)) w3) := ⟨H3.out.1, by rw [← hxN]; exact H3.out.2⟩
  clear H3
  refine then_normal (wp_seq ?_)
  refine sq_start (l := [0]) rfl ?_
  refine rest_set (d := 10) (v := .int .i64 0) (w' := w3) rfl rfl rfl (rfl) ?_
  simp only [Act.put, sa, sz, ss]
  refine rest_nil (then_normal ?_)
  refine wp_seq (wp_seq ?_)
  refine sq_start (l := [0, 1, 2, 3, 4, 5, 6]) rfl ?_
  refine rest_set (d := 41) (v := PT g 0) (w' := w3) rfl rfl rfl (rfl) ?_
  simp only [Act.put, sa, sz, ss]
  refine rest_set (d := 42) (v := PT g 0) (w' := w3) rfl rfl rfl (by go_simp) ?_
  simp only [Act.put, sa, sz, ss]
  refine rest_set (d := 43) (v := PT g 1) (w' := w3) rfl rfl rfl (by go_simp) ?_
  simp only [Act.put, sa, sz, ss]
  refine rest_set (d := 44) (v := .slice (some ⟨gu, 0, none⟩) m cu) (w' := w3) rfl rfl rfl (ex_loadC H9.out.1 0 rfl rfl rfl Try.isAgg115 rfl) ?_
  simp only [Act.put, sa, sz, ss]
  refine rest_set (d := 45) (v := .int .i64 ((min a.toNat m : Nat) : Int)) (w' := w3) rfl rfl rfl (rfl) ?_
  simp only [Act.put, sa, sz, ss]
  refine rest_set (d := 46) (v := .slice (dz (some ⟨gu, 0, none⟩) m cu) 0 (cu - m)) (w' := w3) rfl rfl rfl (ex_dropZ rfl rfl hda) ?_
  simp only [Act.put, sa, sz, ss]
  refine rest_set (d := 11) (v := .slice (dz (some ⟨gu, 0, none⟩) m cu) 0 (cu - m)) (w' := w3) rfl rfl rfl (rfl) ?_
  simp only [Act.put, sa, sz, ss]
  refine rest_nil (then_normal (wp_seq ?_))
  refine sq_start (l := [0, 1, 2]) rfl ?_
  refine rest_set (d := 47) (v := .slice (dz (some ⟨gu, 0, none⟩) m cu) 0 (cu - m)) (w' := w3) rfl rfl rfl (rfl) ?_
  simp only [Act.put, sa, sz, ss]
  refine rest_set (d := 48) (v := .int .i64 0) (w' := w3) rfl rfl rfl (by go_simp) ?_
  simp only [Act.put, sa, sz, ss]
  refine rest_set (d := 49) (v := .bool false) (w' := w3) rfl rfl rfl (by go_simp <;> omega) ?_
  simp only [Act.put, sa, sz, ss]
  refine rest_nil (then_normal ?_)
  refine wp_cond_false rfl (wp_skip ?_)
  refine then_normal (wp_seq ?_)
  refine sq_start (l := [0, 1, 2, 3, 4, 5, 6, 7, 8, 9, 10, 11]) rfl ?_
  refine rest_set (d := 71) (v := PT g 0) (w' := w3) rfl rfl rfl (rfl) ?_
  simp only [Act.put, sa, sz, ss]
  refine rest_set (d := 72) (v := PT g 0) (w' := w3) rfl rfl rfl (by go_simp) ?_
  simp only [Act.put, sa, sz, ss]
  refine rest_set (d := 73) (v := PT g 2) (w' := w3) rfl rfl rfl (by go_simp) ?_
  simp only [Act.put, sa, sz, ss]
  refine rest_set (d := 74) (v := .bool true) (w' := w3) rfl rfl rfl (ex_loadC H9.out.1 0 rfl rfl rfl Try.isAgg4 rfl) ?_
  simp only [Act.put, sa, sz, ss]
  refine rest_set (d := 75) (v := .bool false) (w' := w3) rfl rfl rfl (by go_simp) ?_
  simp only [Act.put, sa, sz, ss]
  refine rest_set (d := 76) (v := .bool false) (w' := w3) rfl rfl rfl (rfl) ?_
  simp only [Act.put, sa, sz, ss]
  refine rest_set (d := 77) (v := .int .i64 ((min a.toNat m : Nat) : Int)) (w' := w3) rfl rfl rfl (rfl) ?_
  simp only [Act.put, sa, sz, ss]
  refine rest_set (d := 78) (v := .int .i64 0) (w' := w3) rfl rfl rfl (rfl) ?_
  simp only [Act.put, sa, sz, ss]
  refine rest_set (d := 79) (v := .int .i64 (((min a.toNat m) + 0 : Nat) : Int)) (w' := w3) rfl rfl rfl (by go_simp; rw [IntKind.wrap_i64]; omega) ?_
  simp only [Act.put, sa, sz, ss]
  refine rest_set (d := 80) (v := .bool (decide (0 < (min a.toNat m) + 0))) (w' := w3) rfl rfl rfl (by go_simp) ?_
  simp only [Act.put, sa, sz, ss]
  refine rest_set (d := 81) (v := .bool (decide (0 < (min a.toNat m) + 0))) (w' := w3) rfl rfl rfl (by go_simp) ?_
  simp only [Act.put, sa, sz, ss]
  refine rest_set (d := 12) (v := .bool (decide (0 < (min a.toNat m) + 0))) (w' := w3) rfl rfl rfl (rfl) ?_
  simp only [Act.put, sa, sz, ss]
  refine rest_nil (then_normal (wp_seq ?_))
  refine sq_start (l := [0, 1, 2, 3, 4, 5, 6, 7]) rfl ?_
  refine rest_set (d := 82) (v := PT g 0) (w' := w3) rfl rfl rfl (rfl) ?_
  simp only [Act.put, sa, sz, ss]
  refine rest_set (d := 83) (v := PT g 0) (w' := w3) rfl rfl rfl (rfl) ?_
  simp only [Act.put, sa, sz, ss]
  refine rest_set (d := 84) (v := PT g 0) (w' := w3) rfl rfl rfl (by go_simp) ?_
  simp only [Act.put, sa, sz, ss]
  refine rest_set (d := 85) (v := PT g 1) (w' := w3) rfl rfl rfl (by go_simp) ?_
  simp only [Act.put, sa, sz, ss]
  refine rest_store rfl rfl rfl (ex_st1 (v := .slice none 0 0) H9.out.1 0 rfl rfl Try.sizeOf115 rfl rfl (rfl) (Nat.le_of_ble_eq_true rfl)) ?_
  have H10 : Hid (Mm (w3.setCells g 1 [Value.slice none 0 0]) [(g, [x.2, Value.slice none 0 0, Value.bool true])] ∧ Sg w g S x.2 (rN n F (min a.toNat m)) (rP P F (min a.toNat m)) (w3.setCells g 1 [Value.slice none 0 0])) := ⟨H9.out.1.put 0 (off := 1) (vs := [Value.slice none 0 0]) rfl (Nat.le_of_ble_eq_true rfl), H9.out.2.put hgS.out hg.out _ _⟩
  clear H9
  generalize hgw : World.setCells _ _ _ _ = w10 at H10 ⊢
  clear hgw
  refine rest_set (d := 86) (v := PT g 0) (w' := w10) rfl rfl rfl (by go_simp) ?_
  simp only [Act.put, sa, sz, ss]
  refine rest_set (d := 87) (v := PT g 2) (w' := w10) rfl rfl rfl (by go_simp) ?_
  simp only [Act.put, sa, sz, ss]
  refine rest_store rfl rfl rfl (ex_st1 (v := .bool false) H10.out.1 0 rfl rfl Try.sizeOf4 rfl rfl (rfl) (Nat.le_of_ble_eq_true rfl)) ?_
  have H11 : Hid (Mm (w10.setCells g 2 [Value.bool false]) [(g, [x.2, Value.slice none 0 0, Value.bool false])] ∧ Sg w g S x.2 (rN n F (min a.toNat m)) (rP P F (min a.toNat m)) (w10.setCells g 2 [Value.bool false])) := ⟨H10.out.1.put 0 (off := 2) (vs := [Value.bool false]) rfl (Nat.le_of_ble_eq_true rfl), H10.out.2.put hgS.out hg.out _ _⟩
  clear H10
  generalize hgw : World.setCells _ _ _ _ = w11 at H11 ⊢
  clear hgw
  refine rest_nil (then_normal (wp_seq ?_))
  refine sq_start (l := [0, 1]) rfl ?_
  refine rest_set (d := 88) (v := .bool (decide (0 < (min a.toNat m) + 0))) (w' := w11) rfl rfl rfl (rfl) ?_
  simp only [Act.put, sa, sz, ss]
  refine rest_set (d := 6) (v := .bool (decide (0 < (min a.toNat m) + 0))) (w' := w11) rfl rfl rfl (rfl) ?_
  simp only [Act.put, sa, sz, ss]
  refine rest_nil (then_normal (wp_ret ?_))
  repeat (first | refine then_ret ?_ | refine block_ret ?_)
  refine bodyPost_ret (v := .bool (decide (0 < (min a.toNat m) + 0))) (by simp [results, Try.results73, go_sem, *]) rfl ?_
  exact ⟨rfl, x.2, H11.out.1, H11.out.2⟩
end Wi
end Rg
end Go.Proofs.Ytidicdlfjdlpnaa
end
section
namespace Go.Proofs.Ytidicdlfjdlpnaa
open Go.RowKit
namespace Rg
namespace Wi
set_option maxRecDepth 100000
theorem ct_zero (P Q : Nat → Nat) (j : Nat) : ct P 0 Q j = Q j := by
  unfold ct
  rw [if_neg (Nat.not_lt_zero _), Nat.sub_zero]
theorem ex_bs0 {ρ : Operand → Value} {o : Oper} {w : World} (ho : o.op = .buildSlice 34 0 #[]) : (execOp ρ o).run Try.prog w = .ok (.value (.slice (some ⟨w.heap.size, 0, none⟩) 0 0)) (w.alloc (.cells #[] 5)) := by
  simp only [execOp, ho]
  kernel_rfl
/-- A row of the call's own. -/
structure Cw (w : World) (v : Value) (n : Nat) (P : Nat → Nat) (w' : World) : Prop where
  b : Below w.heap.size w w'
  own : w'.ownsRow w.heap.size 5 1 v n (ints .u8 P n)
section
variable {w w1 w2 : World} {n n2 : Nat} {v v2 : Value} {P P2 : Nat → Nat}
theorem Cw.size (h : Cw w v n P w1) : w.heap.size ≤ w1.heap.size := h.b.size
theorem Cw.step (h : Cw w v n P w1) (hb : Below w1.heap.size w1 w2) : Cw w v n P w2 := ⟨h.b.trans (hb.mono h.b.size), own_keep h.own (fun b hm => hb.block b (own_lt h.own b hm))⟩
theorem Cw.lo (h : Cw w v n P w1) : ∀ x ∈ vbl v, w.heap.size ≤ x := fun x hx => by
  unfold vbl at hx
  cases hv : v.ownBlock with
  | none => rw [hv] at hx; simp at hx
  | some k => rw [hv] at hx; simp at hx; subst hx; exact (World.ownsRow.lt h.own _ hv).1
theorem Cw.on (h : Cw w v n P w1) (hc : Chg (vbl v) w1 w2) (hr : w2.ownsRow w.heap.size 5 1 v2 n2 (ints .u8 P2 n2)) : Cw w v2 n2 P2 w2 := ⟨h.b.trans (hc.toBelow h.lo h.b.size), hr⟩
theorem Cw.putNew (h : Cw w v n P w1) {k : Nat} (hk : w.heap.size ≤ k) (hs : k ∉ vbl v) (off : Nat) (vs : List Value) : Cw w v n P (w1.setCells k off vs) :=
  ⟨below_setCells k hk vs off w1 h.b, own_keep h.own (fun b hb => heap_setCells k b (fun e => by subst e; exact hs hb) _ _ _)⟩
theorem Cw.cg (h : Cw w v n P w1) (e : ∀ j, j < n → P j = P2 j) : Cw w v n P2 w1 := ⟨h.b, own_cg h.own e⟩
end
theorem made_own {w w1 : World} (hb : Below w.heap.size w w1) (c : Nat) (hc : c ≤ 2097152) : ∃ w2, (Instr.makeSlice 34 (.int .i64 0) (.int .i64 (c : Int))).run Try.prog w1 = .ok (.slice (some ⟨w1.heap.size, 0, none⟩) 0 c) w2 ∧ Cw w (.slice (some ⟨w1.heap.size, 0, none⟩) 0 c) 0 (fun _ => 0) w2 ∧ Below w1.heap.size w1 w2 := by
  obtain ⟨i0, hi, hz0, hz1, hz2⟩ := info_byte
  obtain ⟨w2, h1, h2, h3⟩ := run_make_own (P := Try.prog) w1 w.heap.size 34 5 i0 (.int .u8 0) 1 Try.underlying34 hi hz0 hz1 .i64 .i64 c (by rw [hz2]; omega) (by unfold maxLen; omega) hb.size
  have h4 : Below w1.heap.size w1 w2 := (Chg.grown h3).toBelow (fun x hx => by simp at hx) (Nat.le_refl _)
  exact ⟨w2, h1, ⟨hb.trans (h4.mono hb.size), h2⟩, h4⟩
theorem ex_mkS0 {ρ : Operand → Value} {o : Oper} {x y : Operand} {c : Nat} {v : Value} {w w2 : World} (ho : o.op = .makeSlice 34 x y) (hx : ρ x = .int .i64 0) (hy : ρ y = .int .i64 (c : Int)) (hr : (Instr.makeSlice 34 (.int .i64 0) (.int .i64 (c : Int))).run Try.prog w = .ok v w2) : (execOp ρ o).run Try.prog w = .ok (.value v) w2 := by
  simp only [execOp, ho, hx, hy, Sem.run_bind, hr, Result.andThen_ok, Sem.run_pure]
theorem ex_eqN {ρ : Operand → Value} {o : Oper} {x y : Operand} {a : Addr} {n c : Nat} {w : World} (ho : o.op = .binOp .eql 34 x y 34) (hx : ρ x = .slice (some a) n c) (hy : ρ y = .slice none 0 0) : (execOp ρ o).run Try.prog w = .ok (.value (.bool false)) w := by
  simp only [execOp, ho, hx, hy]
  kernel_rfl
set_option maxHeartbeats 2000000 in
set_option maxRecDepth 100000 in
theorem clone_some (gb o n cp : Nat) (ad : Addr) (f : Nat → Nat) (hn : n ≤ 2097152) (w : World) (hq0 : Pok ⟨gb, o, n, cp, some ad, f⟩ ∧ Pt8.rs ⟨gb, o, n, cp, some ad, f⟩ w) :
    Calls Try.prog 70 #[.slice (some ad) n cp] w fun e w' => ∃ v, e = .returned v ∧ Cw w v n f w' := by
  have H0 : Hid (_ ∧ _) := ⟨Mm.nil w, Below.refl w.heap.size w⟩
  have hq : Hid _ := hq0
  clear hq0
  go_enter Try.func70, Try.ntmps70
  refine wp_seq ?_
  refine sq_startW (l := [0]) rfl (fun u0 hu0 => ?_)
  have H1 : Hid (Mm u0 [] ∧ Below w.heap.size w u0) := by rw [hu0]; exact H0
  clear hu0 H0
  refine rest_set (d := 2) (v := .slice none 0 0) (w' := u0) rfl rfl rfl (rfl) ?_
  simp only [Act.put, sa, sz, ss]
  refine rest_nil (then_normal ?_)
  refine wp_seq (wp_seq ?_)
  refine sq_start (l := [0, 1]) rfl ?_
  refine rest_set (d := 3) (v := .slice (some ad) n cp) (w' := u0) rfl rfl rfl (rfl) ?_
  simp only [Act.put, sa, sz, ss]
  refine rest_set (d := 4) (v := .bool false) (w' := u0) rfl rfl rfl (ex_eqN rfl rfl rfl) ?_
  simp only [Act.put, sa, sz, ss]
  refine rest_nil (then_normal ?_)
  refine wp_cond_false rfl (wp_skip ?_)
  refine then_normal (wp_seq ?_)
  refine sq_start (l := [0, 1, 2, 3]) rfl ?_
  refine rest_set (d := 5) (v := .slice (some ⟨u0.heap.size, 0, none⟩) 0 0) (w' := (u0.alloc (.cells #[] 5))) rfl rfl rfl (ex_bs0 rfl) ?_
  simp only [Act.put, sa, sz, ss]
  have H2 : Hid (Mm (u0.alloc (.cells #[] 5)) [] ∧ Cw w (.slice (some ⟨u0.heap.size, 0, none⟩) 0 0) 0 (fun _ => 0) (u0.alloc (.cells #[] 5))) := ⟨Mm.nil _, ⟨H1.out.2.trans (((Below.refl _ _).alloc (Nat.le_refl _) _).mono H1.out.2.size), World.ownsRow_made _ _ 0 H1.out.2.size (by decide) rfl⟩⟩
  clear H1
  generalize hgw : u0.alloc (.cells #[] 5) = w2 at H2 ⊢
  clear hgw
  generalize u0.heap.size = γm at H2 ⊢
  refine rest_set (d := 6) (v := .slice (some ad) n cp) (w' := w2) rfl rfl rfl (rfl) ?_
  simp only [Act.put, sa, sz, ss]
  obtain ⟨vr, w3, hr, hO, hG, h5⟩ := own_appQ H2.out.2.own H2.out.2.size (q := ⟨gb, o, n, cp, some ad, f⟩) hq.out.1 (fun e => by cases e) (hq.out.2.below H2.out.2.b) (show 0 + n ≤ 2097152 by omega) 34
  refine rest_set (d := 7) (v := vr) (w' := w3) rfl rfl rfl (ex_app rfl rfl rfl hr) ?_
  simp only [Act.put, sa, sz, ss]
  have H3 : Hid (Mm w3 [] ∧ Cw w vr (0 + n) (ct (fun _ => 0) 0 f) w3) := ⟨Mm.nil _, H2.out.2.on (Chg.grown hG) hO⟩
  clear hr hO hG h5 H2
  refine rest_set (d := 2) (v := vr) (w' := w3) rfl rfl rfl (rfl) ?_
  simp only [Act.put, sa, sz, ss]
  refine rest_nil (then_normal (wp_ret ?_))
  repeat (first | refine then_ret ?_ | refine block_ret ?_)
  refine bodyPost_ret (v := vr) (by simp [results, Try.results70, go_sem, *]) rfl ?_
  exact ⟨_, rfl, by have h := H3.out.2.cg (P2 := f) (fun j _ => by rw [ct_zero]); rw [Nat.zero_add] at h; exact h⟩
set_option maxHeartbeats 2000000 in
set_option maxRecDepth 100000 in
theorem clone_nil  (w : World) :
    Calls Try.prog 70 #[.slice none 0 0] w fun e w' => e = .returned (.slice none 0 0) ∧ Below w.heap.size w w' := by
  have H0 : Hid (_ ∧ _) := ⟨Mm.nil w, Below.refl w.heap.size w⟩
  go_enter Try.func70, Try.ntmps70
  refine wp_seq ?_
  refine sq_startW (l := [0]) rfl (fun u0 hu0 => ?_)
  have H1 : Hid (Mm u0 [] ∧ Below w.heap.size w u0) := by rw [hu0]; exact H0
  clear hu0 H0
  refine rest_set (d := 2) (v := .slice none 0 0) (w' := u0) rfl rfl rfl (rfl) ?_
  simp only [Act.put, sa, sz, ss]
  refine rest_nil (then_normal ?_)
  refine wp_seq (wp_seq ?_)
  refine sq_start (l := [0, 1]) rfl ?_
  refine rest_set (d := 3) (v := .slice none 0 0) (w' := u0) rfl rfl rfl (rfl) ?_
  simp only [Act.put, sa, sz, ss]
  refine rest_set (d := 4) (v := .bool true) (w' := u0) rfl rfl rfl (by kernel_rfl) ?_
  simp only [Act.put, sa, sz, ss]
  refine rest_nil (then_normal ?_)
  refine wp_cond_true rfl (wp_seq ?_)
  refine sq_start (l := [0]) rfl ?_
  refine rest_set (d := 2) (v := .slice none 0 0) (w' := u0) rfl rfl rfl (rfl) ?_
  simp only [Act.put, sa, sz, ss]
  refine rest_nil (then_normal (wp_ret ?_))
  repeat (first | refine then_ret ?_ | refine block_ret ?_)
  refine bodyPost_ret (v := .slice none 0 0) (by simp [results, Try.results70, go_sem, *]) rfl ?_
  exact ⟨rfl, H1.out.2⟩
theorem clone_any (q : Pt8) (hn : q.n ≤ 2097152) (w : World) (hq : Pok q) (hN : q.p = none → q.cp = 0) (hr : q.rs w) : Calls Try.prog 70 #[.slice q.p q.n q.cp] w fun e w' => ∃ v, e = .returned v ∧ Cw w v q.n q.f w' := by
  obtain ⟨gb, o, n, cp, p, f⟩ := q
  cases p with
  | some ad => exact clone_some gb o n cp ad f hn w ⟨hq, hr⟩
  | none =>
    have h0 : cp = 0 := hN rfl
    have hle : n ≤ cp := hq.2
    obtain rfl : n = 0 := by omega
    subst h0
    refine (clone_nil w).mono fun e w' h => ⟨_, h.1, h.2, ?_⟩
    show World.ownsRow _ _ _ _ _ _ (ints .u8 f 0)
    exact World.ownsRow_nil _ _ _ _
end Wi
end Rg
end Go.Proofs.Ytidicdlfjdlpnaa
end
section
namespace Go.Proofs.Ytidicdlfjdlpnaa
open Go.RowKit
namespace Rg
namespace Wi
set_option maxRecDepth 100000
/-- All cells of a row of one's own, its room too, are of a kind. -/
def Rmt (e : TypeId) (G : Value → Prop) (w : World) (v : Value) : Prop := ∀ g, v.ownBlock = some g → ∃ cur, w.heap[g]? = some (.cells cur e (0, 0)) ∧ ∀ x ∈ cur.toList, G x
theorem Rmt.nil (e : TypeId) (G : Value → Prop) (w : World) : Rmt e G w (.slice none 0 0) := fun g h => by cases h
theorem Rmt.keep {e : TypeId} {G : Value → Prop} {w w' : World} {v : Value} (h : Rmt e G w v) (hb : ∀ b ∈ vbl v, w'.heap[b]? = w.heap[b]?) : Rmt e G w' v := fun g hg => by
  obtain ⟨cur, h1, h2⟩ := h g hg
  exact ⟨cur, (hb g (by show g ∈ v.ownBlock.toList; rw [hg]; simp)).trans h1, h2⟩
theorem zc_mem {G : Value → Prop} {c : Array Value} (hc : ∀ x ∈ c.toList, G x) (h0 : 0 < c.size) (k : Nat) : ∀ x ∈ (Builtin.zeroCells c k).toList, G x := fun x hx => by
  unfold Builtin.zeroCells at hx
  rw [Array.toList_map, List.mem_map] at hx
  obtain ⟨i, _, rfl⟩ := hx
  have hlt : i % c.size < c.size := Nat.mod_lt _ h0
  have e : c[i % c.size]! = c[i % c.size]'hlt := getElem!_pos c (i % c.size) hlt
  rw [e]
  exact hc _ (by simp)
theorem app_room {P : Program} {G : Value → Prop} (w : World) (base : Nat) (t ty e : TypeId) (i : TypeInfo) (z : Value) (size bytes : Nat) (ht : P.underlying t = some (.slice e)) (hi : P.info? e = some i) (hz : i.zero = some z)
    (hsize : i.size = size) (hby : i.bytes = bytes) (hzs : z.cells.size = size) (hsz : 0 < size) (hzG : ∀ x ∈ z.cells.toList, G x)
    (v : Value) (n : Nat) (xs : List Value) (hown : w.ownsRow base e size v n xs) (hR : Rmt e G w v)
    (a : Addr) (m c : Nat) (news : List Value) (hl : news.length = m * size) (hnews : ∀ j u, news[j]? = some u → w.cell? (a.add j) = some u) (h1 : ∀ u ∈ news, u.oneCell' = true) (hnG : ∀ x ∈ news, G x)
    (h63 : n + m ≤ maxLen) (hbytes : (n + m) * bytes ≤ 140737488355328) (hbase : base ≤ w.heap.size) :
    ∃ v' w', (Builtin.append_ #[t, t] ty #[v, .slice (some a) m c]).run P w = .ok v' w' ∧ w'.ownsRow base e size v' (n + m) (xs ++ news) ∧ w.grownBy w' v.ownBlock ∧ (v'.ownBlock = v.ownBlock ∨ v'.ownBlock = some w.heap.size) ∧ Rmt e G w' v' := by
  obtain ⟨v', w', hr, h2, h3, h4, h5⟩ := run_append_own_at (P := P) w base t ty e i z size bytes ht hi hz hsize hby hzs hsz v n xs hown a m c news hl hnews h1 h63 hbytes hbase
  refine ⟨v', w', hr, h2, h3, h5, ?_⟩
  subst hsize hby
  have hsmall : n + m ≤ 9223372036854775807 := by simp only [maxLen] at h63; omega
  rcases hown.2 with ⟨rfl, rfl⟩ | ⟨g, cap, cur, rfl, hbg, hg, hnc, hcm, hcs, htake⟩
  · by_cases hm : m = 0
    · rw [h4.2 ⟨rfl, hm⟩]
      exact Rmt.nil _ _ _
    · have hr2 := run_append_nil (P := P) w t ty e i z ht hi hz a m c news hl hnews (by omega) (by omega) (by have hb := hbytes; simp only [Nat.zero_add] at hb; omega)
      rw [hr2] at hr
      injection hr with e1 e2
      subst e1 e2
      intro g hg
      injection hg with hg
      subst hg
      refine ⟨_, heap_alloc_new w.drew _, fun x hx => ?_⟩
      rw [Array.toList_append] at hx
      rcases List.mem_append.1 hx with e3 | e3
      · exact hnG x (by simpa using e3)
      · exact zc_mem hzG (by rw [hzs]; exact hsz) _ x e3
  · obtain ⟨cur2, g1, g2⟩ := hR g rfl
    have ecur : cur2 = cur := by
      rw [hg] at g1
      injection g1 with g1
      injection g1 with g1
      exact g1.symm
    subst ecur
    by_cases hroom : n + m ≤ cap
    · have hfit : n * i.size + news.length ≤ cur2.size := by rw [hl, hcs, ← Nat.add_mul]; exact Nat.mul_le_mul_right _ hroom
      have hr2 := run_append_room (P := P) w t ty e i ht hi g n cap cur2 hg a m c news hl hnews h1 hroom hfit
      rw [hr2] at hr
      injection hr with e1 e2
      subst e1 e2
      intro g' hg'
      injection hg' with hg'
      subst hg'
      refine ⟨_, setRow_heap w g cur2 _ e _ hg, fun x hx => ?_⟩
      simp only [List.mem_append] at hx
      rcases hx with (e3 | e3) | e3
      · exact g2 x (List.mem_of_mem_take e3)
      · exact hnG x e3
      · exact g2 x (List.mem_of_mem_drop e3)
    · have holds : ∀ j u, xs[j]? = some u → w.cell? ((⟨g, 0, none⟩ : Addr).add j) = some u := hown.cells (g := g) rfl
      have hr2 := run_append_grow (P := P) w t ty e i z ht hi hz ⟨g, 0, none⟩ n cap xs hown.1 holds a m c news hl hnews (by omega) (by omega) (growslice_fits (by omega) hbytes)
      rw [hr2] at hr
      injection hr with e1 e2
      subst e1 e2
      intro g' hg'
      injection hg' with hg'
      subst hg'
      refine ⟨_, heap_alloc_new w.drew _, fun x hx => ?_⟩
      simp only [Array.toList_append, List.mem_append] at hx
      rcases hx with (e3 | e3) | e3
      · have : x ∈ xs := by simpa using e3
        rw [← htake] at this
        exact g2 x (List.mem_of_mem_take this)
      · exact hnG x (by simpa using e3)
      · exact zc_mem hzG (by rw [hzs]; exact hsz) _ x e3
end Wi
end Rg
end Go.Proofs.Ytidicdlfjdlpnaa
end
section
namespace Go.Proofs.Ytidicdlfjdlpnaa
open Go.RowKit
namespace Rg
namespace Wi
theorem call68 : ∀ args w, (callFunc 68 args).run Try.prog w = .ok (.enter 68 args) w := by intro args w; go_simp
set_option maxRecDepth 100000
theorem Uop.ok.below {o : Uop} {w w' : World} (h : o.ok w) (hb : Below w.heap.size w w') : o.ok w' := ⟨h.1, h.2.1, h.2.2.below hb⟩
set_option maxHeartbeats 2000000 in
set_option maxRecDepth 100000 in
theorem size_F (g gu : Nat) (S : Value) (m cu : Nat) (fr : Bool) (o : Uop) (hm0 : 0 < m) (hm1 : m ≤ 1000000) (hst : o.st + o.q.n ≤ 2097152) (w : World) (hm : Mm w [(g, [S, Value.slice (some ⟨gu, 0, none⟩) m cu, Value.bool fr])]) (hgu0 : gu < w.heap.size) (hc0 : w.cell? ⟨gu, 2 * (m - 1), none⟩ = some (.int .i64 (o.st : Int)) ∧ w.cell? ⟨gu, 2 * (m - 1) + 1, none⟩ = some (.slice o.q.p o.q.n o.q.cp)) :
    Calls Try.prog 68 #[PT g 0] w fun e w' => e = .returned (.int .i64 ((o.st + o.q.n : Nat) : Int)) ∧ Below w.heap.size w w' := by
  have H0 : Hid (_ ∧ _) := ⟨hm, Below.refl w.heap.size w⟩
  clear hm
  have hgu : Hid _ := hgu0
  have hc : Hid _ := hc0
  clear hgu0 hc0
  go_enter Try.func68, Try.ntmps68
  refine wp_seq ?_
  refine sq_startW (l := [0]) rfl (fun u0 hu0 => ?_)
  have H1 : Hid (Mm u0 [(g, [S, Value.slice (some ⟨gu, 0, none⟩) m cu, Value.bool fr])] ∧ Below w.heap.size w u0) := by rw [hu0]; exact H0
  clear hu0 H0
  refine rest_set (d := 2) (v := .int .i64 0) (w' := u0) rfl rfl rfl (rfl) ?_
  simp only [Act.put, sa, sz, ss]
  refine rest_nil (then_normal ?_)
  refine wp_seq (wp_seq ?_)
  refine sq_start (l := [0, 1, 2, 3, 4, 5]) rfl ?_
  refine rest_set (d := 5) (v := PT g 0) (w' := u0) rfl rfl rfl (rfl) ?_
  simp only [Act.put, sa, sz, ss]
  refine rest_set (d := 6) (v := PT g 0) (w' := u0) rfl rfl rfl (by go_simp) ?_
  simp only [Act.put, sa, sz, ss]
  refine rest_set (d := 7) (v := PT g 1) (w' := u0) rfl rfl rfl (by go_simp) ?_
  simp only [Act.put, sa, sz, ss]
  refine rest_set (d := 8) (v := .slice (some ⟨gu, 0, none⟩) m cu) (w' := u0) rfl rfl rfl (ex_loadC H1.out.1 0 rfl rfl rfl Try.isAgg115 rfl) ?_
  simp only [Act.put, sa, sz, ss]
  refine rest_set (d := 9) (v := .int .i64 ((m : Nat) : Int)) (w' := u0) rfl rfl rfl (by go_simp) ?_
  simp only [Act.put, sa, sz, ss]
  refine rest_set (d := 3) (v := .int .i64 ((m : Nat) : Int)) (w' := u0) rfl rfl rfl (rfl) ?_
  simp only [Act.put, sa, sz, ss]
  refine rest_nil (then_normal (wp_seq ?_))
  refine sq_start (l := [0, 1]) rfl ?_
  refine rest_set (d := 10) (v := .int .i64 ((m : Nat) : Int)) (w' := u0) rfl rfl rfl (rfl) ?_
  simp only [Act.put, sa, sz, ss]
  refine rest_set (d := 11) (v := .bool true) (w' := u0) rfl rfl rfl (by go_simp <;> omega) ?_
  simp only [Act.put, sa, sz, ss]
  refine rest_nil (then_normal ?_)
  refine wp_cond_true rfl (wp_seq ?_)
  refine sq_start (l := [0, 1, 2, 3, 4, 5, 6, 7, 8, 9]) rfl ?_
  refine rest_set (d := 12) (v := PT g 0) (w' := u0) rfl rfl rfl (rfl) ?_
  simp only [Act.put, sa, sz, ss]
  refine rest_set (d := 13) (v := PT g 0) (w' := u0) rfl rfl rfl (by go_simp) ?_
  simp only [Act.put, sa, sz, ss]
  refine rest_set (d := 14) (v := PT g 1) (w' := u0) rfl rfl rfl (by go_simp) ?_
  simp only [Act.put, sa, sz, ss]
  refine rest_set (d := 15) (v := .slice (some ⟨gu, 0, none⟩) m cu) (w' := u0) rfl rfl rfl (ex_loadC H1.out.1 0 rfl rfl rfl Try.isAgg115 rfl) ?_
  simp only [Act.put, sa, sz, ss]
  refine rest_set (d := 16) (v := .int .i64 ((m : Nat) : Int)) (w' := u0) rfl rfl rfl (rfl) ?_
  simp only [Act.put, sa, sz, ss]
  refine rest_set (d := 17) (v := .int .i64 ((m - 1 : Nat) : Int)) (w' := u0) rfl rfl rfl (by go_simp; rw [IntKind.wrap_i64]; omega) ?_
  simp only [Act.put, sa, sz, ss]
  refine rest_set (d := 18) (v := PT gu (2 * (m - 1))) (w' := u0) rfl rfl rfl (ex_ixO rfl rfl rfl (by omega)) ?_
  simp only [Act.put, sa, sz, ss]
  refine rest_set (d := 19) (v := .agg ([Value.int .i64 ((o.st : Nat) : Int), Value.slice o.q.p o.q.n o.q.cp]).toArray) (w' := u0) rfl rfl rfl (ex_ldO ((H1.out.2.cell (p := ⟨gu, _, none⟩) hgu.out).trans hc.out.1) ((H1.out.2.cell (p := ⟨gu, _, none⟩) hgu.out).trans hc.out.2) rfl rfl) ?_
  simp only [Act.put, sa, sz, ss]
  refine rest_set (d := 4) (v := PT u0.heap.size 0) (w' := (u0.alloc (.cells ([Value.int .i64 0, Value.slice none 0 0] : List Value).toArray 120))) rfl rfl rfl (ex_mk120 rfl) ?_
  simp only [Act.put, sa, sz, ss]
  have o_γs2 : Hid (w.heap.size ≤ u0.heap.size) := H1.out.2.size
  have H2 : Hid (Mm (u0.alloc (.cells ([Value.int .i64 0, Value.slice none 0 0] : List Value).toArray 120)) ((u0.heap.size, [Value.int .i64 0, Value.slice none 0 0]) :: [(g, [S, Value.slice (some ⟨gu, 0, none⟩) m cu, Value.bool fr])]) ∧ Below w.heap.size w (u0.alloc (.cells ([Value.int .i64 0, Value.slice none 0 0] : List Value).toArray 120))) := ⟨H1.out.1.alloc _ 120 rfl, H1.out.2.trans (((Below.refl _ _).alloc (Nat.le_refl _) _).mono H1.out.2.size)⟩
  clear H1
  generalize hgw : u0.alloc (.cells ([Value.int .i64 0, Value.slice none 0 0] : List Value).toArray 120) = w2 at H2 ⊢
  clear hgw
  generalize u0.heap.size = γs2 at o_γs2 H2 ⊢
  refine rest_store rfl rfl rfl (ex_storeT (vs := [Value.int .i64 ((o.st : Nat) : Int), Value.slice o.q.p o.q.n o.q.cp]) H2.out.1 0 rfl rfl rfl rfl Try.sizeOf120 rfl (Nat.le_of_ble_eq_true rfl)) ?_
  have H3 : Hid (Mm (w2.setCells γs2 0 [Value.int .i64 ((o.st : Nat) : Int), Value.slice o.q.p o.q.n o.q.cp]) [(γs2, [Value.int .i64 ((o.st : Nat) : Int), Value.slice o.q.p o.q.n o.q.cp]), (g, [S, Value.slice (some ⟨gu, 0, none⟩) m cu, Value.bool fr])] ∧ Below w.heap.size w (w2.setCells γs2 0 [Value.int .i64 ((o.st : Nat) : Int), Value.slice o.q.p o.q.n o.q.cp])) := ⟨H2.out.1.put 0 (off := 0) (vs := [Value.int .i64 ((o.st : Nat) : Int), Value.slice o.q.p o.q.n o.q.cp]) rfl (Nat.le_of_ble_eq_true rfl), below_setCells _ o_γs2.out _ _ _ H2.out.2⟩
  clear H2
  generalize hgw : World.setCells _ _ _ _ = w3 at H3 ⊢
  clear hgw
  refine rest_nil (then_normal (wp_seq ?_))
  refine sq_start (l := [0, 1, 2, 3, 4, 5, 6]) rfl ?_
  refine rest_set (d := 20) (v := PT γs2 0) (w' := w3) rfl rfl rfl (by go_simp) ?_
  simp only [Act.put, sa, sz, ss]
  refine rest_set (d := 21) (v := .int .i64 ((o.st : Nat) : Int)) (w' := w3) rfl rfl rfl (ex_loadC H3.out.1 0 rfl rfl rfl Try.isAgg3 rfl) ?_
  simp only [Act.put, sa, sz, ss]
  refine rest_set (d := 22) (v := PT γs2 1) (w' := w3) rfl rfl rfl (by go_simp) ?_
  simp only [Act.put, sa, sz, ss]
  refine rest_set (d := 23) (v := .slice o.q.p o.q.n o.q.cp) (w' := w3) rfl rfl rfl (ex_loadC H3.out.1 0 rfl rfl rfl Try.isAgg34 rfl) ?_
  simp only [Act.put, sa, sz, ss]
  refine rest_set (d := 24) (v := .int .i64 ((o.q.n : Nat) : Int)) (w' := w3) rfl rfl rfl (by go_simp) ?_
  simp only [Act.put, sa, sz, ss]
  refine rest_set (d := 25) (v := .int .i64 ((o.st + o.q.n : Nat) : Int)) (w' := w3) rfl rfl rfl (by go_simp; rw [IntKind.wrap_i64]; omega) ?_
  simp only [Act.put, sa, sz, ss]
  refine rest_set (d := 2) (v := .int .i64 ((o.st + o.q.n : Nat) : Int)) (w' := w3) rfl rfl rfl (rfl) ?_
  simp only [Act.put, sa, sz, ss]
  refine rest_nil (then_normal (wp_ret ?_))
  repeat (first | refine then_ret ?_ | refine block_ret ?_)
  refine bodyPost_ret (v := .int .i64 ((o.st + o.q.n : Nat) : Int)) (by simp [results, Try.results68, go_sem, *]) rfl ?_
  exact ⟨rfl, H3.out.2⟩
end Wi
end Rg
end Go.Proofs.Ytidicdlfjdlpnaa
end
section
namespace Go.Proofs.Ytidicdlfjdlpnaa
open Go.RowKit
namespace Rg
namespace Wi
theorem call103 : ∀ args w, (callFunc 103 args).run Try.prog w = .ok (.enter 103 args) w := by intro args w; go_simp
set_option maxRecDepth 100000
set_option maxHeartbeats 2000000 in
set_option maxRecDepth 100000 in
theorem letter_1 (c : Nat) (h : 97 ≤ c ∧ c ≤ 122) (w : World) :
    Calls Try.prog 103 #[Z8 c] w fun e w' => e = .returned (.bool true) ∧ Below w.heap.size w w' := by
  have H0 : Hid (_ ∧ _) := ⟨Mm.nil w, Below.refl w.heap.size w⟩
  go_enter Try.func103, Try.ntmps103
  refine wp_seq ?_
  refine sq_startW (l := [0]) rfl (fun u0 hu0 => ?_)
  have H1 : Hid (Mm u0 [] ∧ Below w.heap.size w u0) := by rw [hu0]; exact H0
  clear hu0 H0
  refine rest_set (d := 2) (v := .bool false) (w' := u0) rfl rfl rfl (rfl) ?_
  simp only [Act.put, sa, sz, ss]
  refine rest_nil (then_normal (wp_seq ?_))
  refine sq_start (l := [0, 1, 2, 3, 4, 5, 6, 7, 8, 9, 10, 11, 12, 13, 14, 15, 16, 17, 18, 19, 20, 21, 22]) rfl ?_
  refine rest_set (d := 3) (v := Z8 c) (w' := u0) rfl rfl rfl (rfl) ?_
  simp only [Act.put, sa, sz, ss]
  refine rest_set (d := 4) (v := .bool true) (w' := u0) rfl rfl rfl (by go_simp <;> omega) ?_
  simp only [Act.put, sa, sz, ss]
  refine rest_set (d := 5) (v := .bool true) (w' := u0) rfl rfl rfl (rfl) ?_
  simp only [Act.put, sa, sz, ss]
  refine rest_set (d := 6) (v := Z8 c) (w' := u0) rfl rfl rfl (rfl) ?_
  simp only [Act.put, sa, sz, ss]
  refine rest_set (d := 7) (v := .bool true) (w' := u0) rfl rfl rfl (by go_simp <;> omega) ?_
  simp only [Act.put, sa, sz, ss]
  refine rest_set (d := 8) (v := .bool true) (w' := u0) rfl rfl rfl (by go_simp) ?_
  simp only [Act.put, sa, sz, ss]
  refine rest_set (d := 9) (v := .bool true) (w' := u0) rfl rfl rfl (rfl) ?_
  simp only [Act.put, sa, sz, ss]
  refine rest_gone1 (d := 10) rfl rfl rfl ?_
  simp only [Act.put, sa, sz, ss]
  refine rest_gone1 (d := 11) rfl rfl rfl ?_
  simp only [Act.put, sa, sz, ss]
  refine rest_gone1 (d := 12) rfl rfl rfl ?_
  simp only [Act.put, sa, sz, ss]
  refine rest_gone1 (d := 13) rfl rfl rfl ?_
  simp only [Act.put, sa, sz, ss]
  refine rest_gone1 (d := 14) rfl rfl rfl ?_
  simp only [Act.put, sa, sz, ss]
  refine rest_gone1 (d := 15) rfl rfl rfl ?_
  simp only [Act.put, sa, sz, ss]
  refine rest_set (d := 16) (v := .bool true) (w' := u0) rfl rfl rfl (by go_simp) ?_
  simp only [Act.put, sa, sz, ss]
  refine rest_set (d := 17) (v := .bool true) (w' := u0) rfl rfl rfl (rfl) ?_
  simp only [Act.put, sa, sz, ss]
  refine rest_gone1 (d := 18) rfl rfl rfl ?_
  simp only [Act.put, sa, sz, ss]
  refine rest_gone1 (d := 19) rfl rfl rfl ?_
  simp only [Act.put, sa, sz, ss]
  refine rest_set (d := 20) (v := .bool true) (w' := u0) rfl rfl rfl (by go_simp) ?_
  simp only [Act.put, sa, sz, ss]
  refine rest_set (d := 21) (v := .bool true) (w' := u0) rfl rfl rfl (rfl) ?_
  simp only [Act.put, sa, sz, ss]
  refine rest_gone1 (d := 22) rfl rfl rfl ?_
  simp only [Act.put, sa, sz, ss]
  refine rest_gone1 (d := 23) rfl rfl rfl ?_
  simp only [Act.put, sa, sz, ss]
  refine rest_set (d := 24) (v := .bool true) (w' := u0) rfl rfl rfl (by go_simp) ?_
  simp only [Act.put, sa, sz, ss]
  refine rest_set (d := 2) (v := .bool true) (w' := u0) rfl rfl rfl (rfl) ?_
  simp only [Act.put, sa, sz, ss]
  refine rest_nil (then_normal (wp_ret ?_))
  repeat (first | refine then_ret ?_ | refine block_ret ?_)
  refine bodyPost_ret (v := .bool true) (by simp [results, Try.results103, go_sem, *]) rfl ?_
  exact ⟨rfl, H1.out.2⟩
set_option maxHeartbeats 2000000 in
set_option maxRecDepth 100000 in
theorem letter_2 (c : Nat) (h : 122 < c) (w : World) :
    Calls Try.prog 103 #[Z8 c] w fun e w' => e = .returned (.bool false) ∧ Below w.heap.size w w' := by
  have H0 : Hid (_ ∧ _) := ⟨Mm.nil w, Below.refl w.heap.size w⟩
  go_enter Try.func103, Try.ntmps103
  refine wp_seq ?_
  refine sq_startW (l := [0]) rfl (fun u0 hu0 => ?_)
  have H1 : Hid (Mm u0 [] ∧ Below w.heap.size w u0) := by rw [hu0]; exact H0
  clear hu0 H0
  refine rest_set (d := 2) (v := .bool false) (w' := u0) rfl rfl rfl (rfl) ?_
  simp only [Act.put, sa, sz, ss]
  refine rest_nil (then_normal (wp_seq ?_))
  refine sq_start (l := [0, 1, 2, 3, 4, 5, 6, 7, 8, 9, 10, 11, 12, 13, 14, 15, 16, 17, 18, 19, 20, 21, 22]) rfl ?_
  refine rest_set (d := 3) (v := Z8 c) (w' := u0) rfl rfl rfl (rfl) ?_
  simp only [Act.put, sa, sz, ss]
  refine rest_set (d := 4) (v := .bool true) (w' := u0) rfl rfl rfl (by go_simp <;> omega) ?_
  simp only [Act.put, sa, sz, ss]
  refine rest_set (d := 5) (v := .bool true) (w' := u0) rfl rfl rfl (rfl) ?_
  simp only [Act.put, sa, sz, ss]
  refine rest_set (d := 6) (v := Z8 c) (w' := u0) rfl rfl rfl (rfl) ?_
  simp only [Act.put, sa, sz, ss]
  refine rest_set (d := 7) (v := .bool false) (w' := u0) rfl rfl rfl (by go_simp <;> omega) ?_
  simp only [Act.put, sa, sz, ss]
  refine rest_set (d := 8) (v := .bool false) (w' := u0) rfl rfl rfl (by go_simp) ?_
  simp only [Act.put, sa, sz, ss]
  refine rest_set (d := 9) (v := .bool false) (w' := u0) rfl rfl rfl (rfl) ?_
  simp only [Act.put, sa, sz, ss]
  refine rest_set (d := 10) (v := Z8 c) (w' := u0) rfl rfl rfl (rfl) ?_
  simp only [Act.put, sa, sz, ss]
  refine rest_set (d := 11) (v := .bool true) (w' := u0) rfl rfl rfl (by go_simp <;> omega) ?_
  simp only [Act.put, sa, sz, ss]
  refine rest_set (d := 12) (v := .bool true) (w' := u0) rfl rfl rfl (rfl) ?_
  simp only [Act.put, sa, sz, ss]
  refine rest_set (d := 13) (v := Z8 c) (w' := u0) rfl rfl rfl (rfl) ?_
  simp only [Act.put, sa, sz, ss]
  refine rest_set (d := 14) (v := .bool false) (w' := u0) rfl rfl rfl (by go_simp <;> omega) ?_
  simp only [Act.put, sa, sz, ss]
  refine rest_set (d := 15) (v := .bool false) (w' := u0) rfl rfl rfl (by go_simp) ?_
  simp only [Act.put, sa, sz, ss]
  refine rest_set (d := 16) (v := .bool false) (w' := u0) rfl rfl rfl (by go_simp) ?_
  simp only [Act.put, sa, sz, ss]
  refine rest_set (d := 17) (v := .bool false) (w' := u0) rfl rfl rfl (rfl) ?_
  simp only [Act.put, sa, sz, ss]
  refine rest_set (d := 18) (v := Z8 c) (w' := u0) rfl rfl rfl (rfl) ?_
  simp only [Act.put, sa, sz, ss]
  refine rest_set (d := 19) (v := .bool false) (w' := u0) rfl rfl rfl (by go_simp <;> omega) ?_
  simp only [Act.put, sa, sz, ss]
  refine rest_set (d := 20) (v := .bool false) (w' := u0) rfl rfl rfl (by go_simp) ?_
  simp only [Act.put, sa, sz, ss]
  refine rest_set (d := 21) (v := .bool false) (w' := u0) rfl rfl rfl (rfl) ?_
  simp only [Act.put, sa, sz, ss]
  refine rest_set (d := 22) (v := Z8 c) (w' := u0) rfl rfl rfl (rfl) ?_
  simp only [Act.put, sa, sz, ss]
  refine rest_set (d := 23) (v := .bool false) (w' := u0) rfl rfl rfl (by go_simp <;> omega) ?_
  simp only [Act.put, sa, sz, ss]
  refine rest_set (d := 24) (v := .bool false) (w' := u0) rfl rfl rfl (by go_simp) ?_
  simp only [Act.put, sa, sz, ss]
  refine rest_set (d := 2) (v := .bool false) (w' := u0) rfl rfl rfl (rfl) ?_
  simp only [Act.put, sa, sz, ss]
  refine rest_nil (then_normal (wp_ret ?_))
  repeat (first | refine then_ret ?_ | refine block_ret ?_)
  refine bodyPost_ret (v := .bool false) (by simp [results, Try.results103, go_sem, *]) rfl ?_
  exact ⟨rfl, H1.out.2⟩
set_option maxHeartbeats 2000000 in
set_option maxRecDepth 100000 in
theorem letter_3 (c : Nat) (h : 48 ≤ c ∧ c ≤ 57) (w : World) :
    Calls Try.prog 103 #[Z8 c] w fun e w' => e = .returned (.bool true) ∧ Below w.heap.size w w' := by
  have H0 : Hid (_ ∧ _) := ⟨Mm.nil w, Below.refl w.heap.size w⟩
  go_enter Try.func103, Try.ntmps103
  refine wp_seq ?_
  refine sq_startW (l := [0]) rfl (fun u0 hu0 => ?_)
  have H1 : Hid (Mm u0 [] ∧ Below w.heap.size w u0) := by rw [hu0]; exact H0
  clear hu0 H0
  refine rest_set (d := 2) (v := .bool false) (w' := u0) rfl rfl rfl (rfl) ?_
  simp only [Act.put, sa, sz, ss]
  refine rest_nil (then_normal (wp_seq ?_))
  refine sq_start (l := [0, 1, 2, 3, 4, 5, 6, 7, 8, 9, 10, 11, 12, 13, 14, 15, 16, 17, 18, 19, 20, 21, 22]) rfl ?_
  refine rest_set (d := 3) (v := Z8 c) (w' := u0) rfl rfl rfl (rfl) ?_
  simp only [Act.put, sa, sz, ss]
  refine rest_set (d := 4) (v := .bool false) (w' := u0) rfl rfl rfl (by go_simp <;> omega) ?_
  simp only [Act.put, sa, sz, ss]
  refine rest_set (d := 5) (v := .bool false) (w' := u0) rfl rfl rfl (rfl) ?_
  simp only [Act.put, sa, sz, ss]
  refine rest_gone1 (d := 6) rfl rfl rfl ?_
  simp only [Act.put, sa, sz, ss]
  refine rest_gone1 (d := 7) rfl rfl rfl ?_
  simp only [Act.put, sa, sz, ss]
  refine rest_set (d := 8) (v := .bool false) (w' := u0) rfl rfl rfl (by go_simp) ?_
  simp only [Act.put, sa, sz, ss]
  refine rest_set (d := 9) (v := .bool false) (w' := u0) rfl rfl rfl (rfl) ?_
  simp only [Act.put, sa, sz, ss]
  refine rest_set (d := 10) (v := Z8 c) (w' := u0) rfl rfl rfl (rfl) ?_
  simp only [Act.put, sa, sz, ss]
  refine rest_set (d := 11) (v := .bool true) (w' := u0) rfl rfl rfl (by go_simp <;> omega) ?_
  simp only [Act.put, sa, sz, ss]
  refine rest_set (d := 12) (v := .bool true) (w' := u0) rfl rfl rfl (rfl) ?_
  simp only [Act.put, sa, sz, ss]
  refine rest_set (d := 13) (v := Z8 c) (w' := u0) rfl rfl rfl (rfl) ?_
  simp only [Act.put, sa, sz, ss]
  refine rest_set (d := 14) (v := .bool true) (w' := u0) rfl rfl rfl (by go_simp <;> omega) ?_
  simp only [Act.put, sa, sz, ss]
  refine rest_set (d := 15) (v := .bool true) (w' := u0) rfl rfl rfl (by go_simp) ?_
  simp only [Act.put, sa, sz, ss]
  refine rest_set (d := 16) (v := .bool true) (w' := u0) rfl rfl rfl (by go_simp) ?_
  simp only [Act.put, sa, sz, ss]
  refine rest_set (d := 17) (v := .bool true) (w' := u0) rfl rfl rfl (rfl) ?_
  simp only [Act.put, sa, sz, ss]
  refine rest_gone1 (d := 18) rfl rfl rfl ?_
  simp only [Act.put, sa, sz, ss]
  refine rest_gone1 (d := 19) rfl rfl rfl ?_
  simp only [Act.put, sa, sz, ss]
  refine rest_set (d := 20) (v := .bool true) (w' := u0) rfl rfl rfl (by go_simp) ?_
  simp only [Act.put, sa, sz, ss]
  refine rest_set (d := 21) (v := .bool true) (w' := u0) rfl rfl rfl (rfl) ?_
  simp only [Act.put, sa, sz, ss]
  refine rest_gone1 (d := 22) rfl rfl rfl ?_
  simp only [Act.put, sa, sz, ss]
  refine rest_gone1 (d := 23) rfl rfl rfl ?_
  simp only [Act.put, sa, sz, ss]
  refine rest_set (d := 24) (v := .bool true) (w' := u0) rfl rfl rfl (by go_simp) ?_
  simp only [Act.put, sa, sz, ss]
  refine rest_set (d := 2) (v := .bool true) (w' := u0) rfl rfl rfl (rfl) ?_
  simp only [Act.put, sa, sz, ss]
  refine rest_nil (then_normal (wp_ret ?_))
  repeat (first | refine then_ret ?_ | refine block_ret ?_)
  refine bodyPost_ret (v := .bool true) (by simp [results, Try.results103, go_sem, *]) rfl ?_
  exact ⟨rfl, H1.out.2⟩
set_option maxHeartbeats 2000000 in
set_option maxRecDepth 100000 in
theorem letter_4 (c : Nat) (h : 57 < c ∧ c < 97) (w : World) :
    Calls Try.prog 103 #[Z8 c] w fun e w' => e = .returned (.bool false) ∧ Below w.heap.size w w' := by
  have H0 : Hid (_ ∧ _) := ⟨Mm.nil w, Below.refl w.heap.size w⟩
  go_enter Try.func103, Try.ntmps103
  refine wp_seq ?_
  refine sq_startW (l := [0]) rfl (fun u0 hu0 => ?_)
  have H1 : Hid (Mm u0 [] ∧ Below w.heap.size w u0) := by rw [hu0]; exact H0
  clear hu0 H0
  refine rest_set (d := 2) (v := .bool false) (w' := u0) rfl rfl rfl (rfl) ?_
  simp only [Act.put, sa, sz, ss]
  refine rest_nil (then_normal (wp_seq ?_))
  refine sq_start (l := [0, 1, 2, 3, 4, 5, 6, 7, 8, 9, 10, 11, 12, 13, 14, 15, 16, 17, 18, 19, 20, 21, 22]) rfl ?_
  refine rest_set (d := 3) (v := Z8 c) (w' := u0) rfl rfl rfl (rfl) ?_
  simp only [Act.put, sa, sz, ss]
  refine rest_set (d := 4) (v := .bool false) (w' := u0) rfl rfl rfl (by go_simp <;> omega) ?_
  simp only [Act.put, sa, sz, ss]
  refine rest_set (d := 5) (v := .bool false) (w' := u0) rfl rfl rfl (rfl) ?_
  simp only [Act.put, sa, sz, ss]
  refine rest_gone1 (d := 6) rfl rfl rfl ?_
  simp only [Act.put, sa, sz, ss]
  refine rest_gone1 (d := 7) rfl rfl rfl ?_
  simp only [Act.put, sa, sz, ss]
  refine rest_set (d := 8) (v := .bool false) (w' := u0) rfl rfl rfl (by go_simp) ?_
  simp only [Act.put, sa, sz, ss]
  refine rest_set (d := 9) (v := .bool false) (w' := u0) rfl rfl rfl (rfl) ?_
  simp only [Act.put, sa, sz, ss]
  refine rest_set (d := 10) (v := Z8 c) (w' := u0) rfl rfl rfl (rfl) ?_
  simp only [Act.put, sa, sz, ss]
  refine rest_set (d := 11) (v := .bool true) (w' := u0) rfl rfl rfl (by go_simp <;> omega) ?_
  simp only [Act.put, sa, sz, ss]
  refine rest_set (d := 12) (v := .bool true) (w' := u0) rfl rfl rfl (rfl) ?_
  simp only [Act.put, sa, sz, ss]
  refine rest_set (d := 13) (v := Z8 c) (w' := u0) rfl rfl rfl (rfl) ?_
  simp only [Act.put, sa, sz, ss]
  refine rest_set (d := 14) (v := .bool false) (w' := u0) rfl rfl rfl (by go_simp <;> omega) ?_
  simp only [Act.put, sa, sz, ss]
  refine rest_set (d := 15) (v := .bool false) (w' := u0) rfl rfl rfl (by go_simp) ?_
  simp only [Act.put, sa, sz, ss]
  refine rest_set (d := 16) (v := .bool false) (w' := u0) rfl rfl rfl (by go_simp) ?_
  simp only [Act.put, sa, sz, ss]
  refine rest_set (d := 17) (v := .bool false) (w' := u0) rfl rfl rfl (rfl) ?_
  simp only [Act.put, sa, sz, ss]
  refine rest_set (d := 18) (v := Z8 c) (w' := u0) rfl rfl rfl (rfl) ?_
  simp only [Act.put, sa, sz, ss]
  refine rest_set (d := 19) (v := .bool false) (w' := u0) rfl rfl rfl (by go_simp <;> omega) ?_
  simp only [Act.put, sa, sz, ss]
  refine rest_set (d := 20) (v := .bool false) (w' := u0) rfl rfl rfl (by go_simp) ?_
  simp only [Act.put, sa, sz, ss]
  refine rest_set (d := 21) (v := .bool false) (w' := u0) rfl rfl rfl (rfl) ?_
  simp only [Act.put, sa, sz, ss]
  refine rest_set (d := 22) (v := Z8 c) (w' := u0) rfl rfl rfl (rfl) ?_
  simp only [Act.put, sa, sz, ss]
  refine rest_set (d := 23) (v := .bool false) (w' := u0) rfl rfl rfl (by go_simp <;> omega) ?_
  simp only [Act.put, sa, sz, ss]
  refine rest_set (d := 24) (v := .bool false) (w' := u0) rfl rfl rfl (by go_simp) ?_
  simp only [Act.put, sa, sz, ss]
  refine rest_set (d := 2) (v := .bool false) (w' := u0) rfl rfl rfl (rfl) ?_
  simp only [Act.put, sa, sz, ss]
  refine rest_nil (then_normal (wp_ret ?_))
  repeat (first | refine then_ret ?_ | refine block_ret ?_)
  refine bodyPost_ret (v := .bool false) (by simp [results, Try.results103, go_sem, *]) rfl ?_
  exact ⟨rfl, H1.out.2⟩
set_option maxHeartbeats 2000000 in
set_option maxRecDepth 100000 in
theorem letter_5 (c : Nat) (h : c = 46) (w : World) :
    Calls Try.prog 103 #[Z8 c] w fun e w' => e = .returned (.bool true) ∧ Below w.heap.size w w' := by
  have H0 : Hid (_ ∧ _) := ⟨Mm.nil w, Below.refl w.heap.size w⟩
  go_enter Try.func103, Try.ntmps103
  refine wp_seq ?_
  refine sq_startW (l := [0]) rfl (fun u0 hu0 => ?_)
  have H1 : Hid (Mm u0 [] ∧ Below w.heap.size w u0) := by rw [hu0]; exact H0
  clear hu0 H0
  refine rest_set (d := 2) (v := .bool false) (w' := u0) rfl rfl rfl (rfl) ?_
  simp only [Act.put, sa, sz, ss]
  refine rest_nil (then_normal (wp_seq ?_))
  refine sq_start (l := [0, 1, 2, 3, 4, 5, 6, 7, 8, 9, 10, 11, 12, 13, 14, 15, 16, 17, 18, 19, 20, 21, 22]) rfl ?_
  refine rest_set (d := 3) (v := Z8 c) (w' := u0) rfl rfl rfl (rfl) ?_
  simp only [Act.put, sa, sz, ss]
  refine rest_set (d := 4) (v := .bool false) (w' := u0) rfl rfl rfl (by go_simp <;> omega) ?_
  simp only [Act.put, sa, sz, ss]
  refine rest_set (d := 5) (v := .bool false) (w' := u0) rfl rfl rfl (rfl) ?_
  simp only [Act.put, sa, sz, ss]
  refine rest_gone1 (d := 6) rfl rfl rfl ?_
  simp only [Act.put, sa, sz, ss]
  refine rest_gone1 (d := 7) rfl rfl rfl ?_
  simp only [Act.put, sa, sz, ss]
  refine rest_set (d := 8) (v := .bool false) (w' := u0) rfl rfl rfl (by go_simp) ?_
  simp only [Act.put, sa, sz, ss]
  refine rest_set (d := 9) (v := .bool false) (w' := u0) rfl rfl rfl (rfl) ?_
  simp only [Act.put, sa, sz, ss]
  refine rest_set (d := 10) (v := Z8 c) (w' := u0) rfl rfl rfl (rfl) ?_
  simp only [Act.put, sa, sz, ss]
  refine rest_set (d := 11) (v := .bool false) (w' := u0) rfl rfl rfl (by go_simp <;> omega) ?_
  simp only [Act.put, sa, sz, ss]
  refine rest_set (d := 12) (v := .bool false) (w' := u0) rfl rfl rfl (rfl) ?_
  simp only [Act.put, sa, sz, ss]
  refine rest_gone1 (d := 13) rfl rfl rfl ?_
  simp only [Act.put, sa, sz, ss]
  refine rest_gone1 (d := 14) rfl rfl rfl ?_
  simp only [Act.put, sa, sz, ss]
  refine rest_set (d := 15) (v := .bool false) (w' := u0) rfl rfl rfl (by go_simp) ?_
  simp only [Act.put, sa, sz, ss]
  refine rest_set (d := 16) (v := .bool false) (w' := u0) rfl rfl rfl (by go_simp) ?_
  simp only [Act.put, sa, sz, ss]
  refine rest_set (d := 17) (v := .bool false) (w' := u0) rfl rfl rfl (rfl) ?_
  simp only [Act.put, sa, sz, ss]
  refine rest_set (d := 18) (v := Z8 c) (w' := u0) rfl rfl rfl (rfl) ?_
  simp only [Act.put, sa, sz, ss]
  refine rest_set (d := 19) (v := .bool true) (w' := u0) rfl rfl rfl (by go_simp <;> omega) ?_
  simp only [Act.put, sa, sz, ss]
  refine rest_set (d := 20) (v := .bool true) (w' := u0) rfl rfl rfl (by go_simp) ?_
  simp only [Act.put, sa, sz, ss]
  refine rest_set (d := 21) (v := .bool true) (w' := u0) rfl rfl rfl (rfl) ?_
  simp only [Act.put, sa, sz, ss]
  refine rest_gone1 (d := 22) rfl rfl rfl ?_
  simp only [Act.put, sa, sz, ss]
  refine rest_gone1 (d := 23) rfl rfl rfl ?_
  simp only [Act.put, sa, sz, ss]
  refine rest_set (d := 24) (v := .bool true) (w' := u0) rfl rfl rfl (by go_simp) ?_
  simp only [Act.put, sa, sz, ss]
  refine rest_set (d := 2) (v := .bool true) (w' := u0) rfl rfl rfl (rfl) ?_
  simp only [Act.put, sa, sz, ss]
  refine rest_nil (then_normal (wp_ret ?_))
  repeat (first | refine then_ret ?_ | refine block_ret ?_)
  refine bodyPost_ret (v := .bool true) (by simp [results, Try.results103, go_sem, *]) rfl ?_
  exact ⟨rfl, H1.out.2⟩
set_option maxHeartbeats 2000000 in
set_option maxRecDepth 100000 in
theorem letter_6 (c : Nat) (h : c = 45) (w : World) :
    Calls Try.prog 103 #[Z8 c] w fun e w' => e = .returned (.bool true) ∧ Below w.heap.size w w' := by
  have H0 : Hid (_ ∧ _) := ⟨Mm.nil w, Below.refl w.heap.size w⟩
  go_enter Try.func103, Try.ntmps103
  refine wp_seq ?_
  refine sq_startW (l := [0]) rfl (fun u0 hu0 => ?_)
  have H1 : Hid (Mm u0 [] ∧ Below w.heap.size w u0) := by rw [hu0]; exact H0
  clear hu0 H0
  refine rest_set (d := 2) (v := .bool false) (w' := u0) rfl rfl rfl (rfl) ?_
  simp only [Act.put, sa, sz, ss]
  refine rest_nil (then_normal (wp_seq ?_))
  refine sq_start (l := [0, 1, 2, 3, 4, 5, 6, 7, 8, 9, 10, 11, 12, 13, 14, 15, 16, 17, 18, 19, 20, 21, 22]) rfl ?_
  refine rest_set (d := 3) (v := Z8 c) (w' := u0) rfl rfl rfl (rfl) ?_
  simp only [Act.put, sa, sz, ss]
  refine rest_set (d := 4) (v := .bool false) (w' := u0) rfl rfl rfl (by go_simp <;> omega) ?_
  simp only [Act.put, sa, sz, ss]
  refine rest_set (d := 5) (v := .bool false) (w' := u0) rfl rfl rfl (rfl) ?_
  simp only [Act.put, sa, sz, ss]
  refine rest_gone1 (d := 6) rfl rfl rfl ?_
  simp only [Act.put, sa, sz, ss]
  refine rest_gone1 (d := 7) rfl rfl rfl ?_
  simp only [Act.put, sa, sz, ss]
  refine rest_set (d := 8) (v := .bool false) (w' := u0) rfl rfl rfl (by go_simp) ?_
  simp only [Act.put, sa, sz, ss]
  refine rest_set (d := 9) (v := .bool false) (w' := u0) rfl rfl rfl (rfl) ?_
  simp only [Act.put, sa, sz, ss]
  refine rest_set (d := 10) (v := Z8 c) (w' := u0) rfl rfl rfl (rfl) ?_
  simp only [Act.put, sa, sz, ss]
  refine rest_set (d := 11) (v := .bool false) (w' := u0) rfl rfl rfl (by go_simp <;> omega) ?_
  simp only [Act.put, sa, sz, ss]
  refine rest_set (d := 12) (v := .bool false) (w' := u0) rfl rfl rfl (rfl) ?_
  simp only [Act.put, sa, sz, ss]
  refine rest_gone1 (d := 13) rfl rfl rfl ?_
  simp only [Act.put, sa, sz, ss]
  refine rest_gone1 (d := 14) rfl rfl rfl ?_
  simp only [Act.put, sa, sz, ss]
  refine rest_set (d := 15) (v := .bool false) (w' := u0) rfl rfl rfl (by go_simp) ?_
  simp only [Act.put, sa, sz, ss]
  refine rest_set (d := 16) (v := .bool false) (w' := u0) rfl rfl rfl (by go_simp) ?_
  simp only [Act.put, sa, sz, ss]
  refine rest_set (d := 17) (v := .bool false) (w' := u0) rfl rfl rfl (rfl) ?_
  simp only [Act.put, sa, sz, ss]
  refine rest_set (d := 18) (v := Z8 c) (w' := u0) rfl rfl rfl (rfl) ?_
  simp only [Act.put, sa, sz, ss]
  refine rest_set (d := 19) (v := .bool false) (w' := u0) rfl rfl rfl (by go_simp <;> omega) ?_
  simp only [Act.put, sa, sz, ss]
  refine rest_set (d := 20) (v := .bool false) (w' := u0) rfl rfl rfl (by go_simp) ?_
  simp only [Act.put, sa, sz, ss]
  refine rest_set (d := 21) (v := .bool false) (w' := u0) rfl rfl rfl (rfl) ?_
  simp only [Act.put, sa, sz, ss]
  refine rest_set (d := 22) (v := Z8 c) (w' := u0) rfl rfl rfl (rfl) ?_
  simp only [Act.put, sa, sz, ss]
  refine rest_set (d := 23) (v := .bool true) (w' := u0) rfl rfl rfl (by go_simp <;> omega) ?_
  simp only [Act.put, sa, sz, ss]
  refine rest_set (d := 24) (v := .bool true) (w' := u0) rfl rfl rfl (by go_simp) ?_
  simp only [Act.put, sa, sz, ss]
  refine rest_set (d := 2) (v := .bool true) (w' := u0) rfl rfl rfl (rfl) ?_
  simp only [Act.put, sa, sz, ss]
  refine rest_nil (then_normal (wp_ret ?_))
  repeat (first | refine then_ret ?_ | refine block_ret ?_)
  refine bodyPost_ret (v := .bool true) (by simp [results, Try.results103, go_sem, *]) rfl ?_
  exact ⟨rfl, H1.out.2⟩
set_option maxHeartbeats 2000000 in
set_option maxRecDepth 100000 in
theorem letter_7 (c : Nat) (h : c < 48 ∧ c ≠ 46 ∧ c ≠ 45) (w : World) :
    Calls Try.prog 103 #[Z8 c] w fun e w' => e = .returned (.bool false) ∧ Below w.heap.size w w' := by
  have H0 : Hid (_ ∧ _) := ⟨Mm.nil w, Below.refl w.heap.size w⟩
  go_enter Try.func103, Try.ntmps103
  refine wp_seq ?_
  refine sq_startW (l := [0]) rfl (fun u0 hu0 => ?_)
  have H1 : Hid (Mm u0 [] ∧ Below w.heap.size w u0) := by rw [hu0]; exact H0
  clear hu0 H0
  refine rest_set (d := 2) (v := .bool false) (w' := u0) rfl rfl rfl (rfl) ?_
  simp only [Act.put, sa, sz, ss]
  refine rest_nil (then_normal (wp_seq ?_))
  refine sq_start (l := [0, 1, 2, 3, 4, 5, 6, 7, 8, 9, 10, 11, 12, 13, 14, 15, 16, 17, 18, 19, 20, 21, 22]) rfl ?_
  refine rest_set (d := 3) (v := Z8 c) (w' := u0) rfl rfl rfl (rfl) ?_
  simp only [Act.put, sa, sz, ss]
  refine rest_set (d := 4) (v := .bool false) (w' := u0) rfl rfl rfl (by go_simp <;> omega) ?_
  simp only [Act.put, sa, sz, ss]
  refine rest_set (d := 5) (v := .bool false) (w' := u0) rfl rfl rfl (rfl) ?_
  simp only [Act.put, sa, sz, ss]
  refine rest_gone1 (d := 6) rfl rfl rfl ?_
  simp only [Act.put, sa, sz, ss]
  refine rest_gone1 (d := 7) rfl rfl rfl ?_
  simp only [Act.put, sa, sz, ss]
  refine rest_set (d := 8) (v := .bool false) (w' := u0) rfl rfl rfl (by go_simp) ?_
  simp only [Act.put, sa, sz, ss]
  refine rest_set (d := 9) (v := .bool false) (w' := u0) rfl rfl rfl (rfl) ?_
  simp only [Act.put, sa, sz, ss]
  refine rest_set (d := 10) (v := Z8 c) (w' := u0) rfl rfl rfl (rfl) ?_
  simp only [Act.put, sa, sz, ss]
  refine rest_set (d := 11) (v := .bool false) (w' := u0) rfl rfl rfl (by go_simp <;> omega) ?_
  simp only [Act.put, sa, sz, ss]
  refine rest_set (d := 12) (v := .bool false) (w' := u0) rfl rfl rfl (rfl) ?_
  simp only [Act.put, sa, sz, ss]
  refine rest_gone1 (d := 13) rfl rfl rfl ?_
  simp only [Act.put, sa, sz, ss]
  refine rest_gone1 (d := 14) rfl rfl rfl ?_
  simp only [Act.put, sa, sz, ss]
  refine rest_set (d := 15) (v := .bool false) (w' := u0) rfl rfl rfl (by go_simp) ?_
  simp only [Act.put, sa, sz, ss]
  refine rest_set (d := 16) (v := .bool false) (w' := u0) rfl rfl rfl (by go_simp) ?_
  simp only [Act.put, sa, sz, ss]
  refine rest_set (d := 17) (v := .bool false) (w' := u0) rfl rfl rfl (rfl) ?_
  simp only [Act.put, sa, sz, ss]
  refine rest_set (d := 18) (v := Z8 c) (w' := u0) rfl rfl rfl (rfl) ?_
  simp only [Act.put, sa, sz, ss]
  refine rest_set (d := 19) (v := .bool false) (w' := u0) rfl rfl rfl (by go_simp <;> omega) ?_
  simp only [Act.put, sa, sz, ss]
  refine rest_set (d := 20) (v := .bool false) (w' := u0) rfl rfl rfl (by go_simp) ?_
  simp only [Act.put, sa, sz, ss]
  refine rest_set (d := 21) (v := .bool false) (w' := u0) rfl rfl rfl (rfl) ?_
  simp only [Act.put, sa, sz, ss]
  refine rest_set (d := 22) (v := Z8 c) (w' := u0) rfl rfl rfl (rfl) ?_
  simp only [Act.put, sa, sz, ss]
  refine rest_set (d := 23) (v := .bool false) (w' := u0) rfl rfl rfl (by go_simp <;> omega) ?_
  simp only [Act.put, sa, sz, ss]
  refine rest_set (d := 24) (v := .bool false) (w' := u0) rfl rfl rfl (by go_simp) ?_
  simp only [Act.put, sa, sz, ss]
  refine rest_set (d := 2) (v := .bool false) (w' := u0) rfl rfl rfl (rfl) ?_
  simp only [Act.put, sa, sz, ss]
  refine rest_nil (then_normal (wp_ret ?_))
  repeat (first | refine then_ret ?_ | refine block_ret ?_)
  refine bodyPost_ret (v := .bool false) (by simp [results, Try.results103, go_sem, *]) rfl ?_
  exact ⟨rfl, H1.out.2⟩
/-- May a byte stand in a file's name? -/
def ltr (c : Nat) : Bool := decide (97 ≤ c ∧ c ≤ 122 ∨ 48 ≤ c ∧ c ≤ 57 ∨ c = 46 ∨ c = 45)
theorem letter_any (c : Nat) (w : World) : Calls Try.prog 103 #[Z8 c] w fun e w' => e = .returned (.bool (ltr c)) ∧ Below w.heap.size w w' := by
  have t : ∀ x, ltr c = x → (Calls Try.prog 103 #[Z8 c] w fun e w' => e = .returned (.bool x) ∧ Below w.heap.size w w') → Calls Try.prog 103 #[Z8 c] w fun e w' => e = .returned (.bool (ltr c)) ∧ Below w.heap.size w w' := fun x e h => by rw [e]; exact h
  by_cases h1 : 97 ≤ c ∧ c ≤ 122
  · exact t true (decide_eq_true (by omega)) (letter_1 c h1 w)
  by_cases h2 : 122 < c
  · exact t false (decide_eq_false (by omega)) (letter_2 c h2 w)
  by_cases h3 : 48 ≤ c ∧ c ≤ 57
  · exact t true (decide_eq_true (by omega)) (letter_3 c h3 w)
  by_cases h4 : 57 < c ∧ c < 97
  · exact t false (decide_eq_false (by omega)) (letter_4 c h4 w)
  by_cases h5 : c = 46
  · exact t true (decide_eq_true (by omega)) (letter_5 c h5 w)
  by_cases h6 : c = 45
  · exact t true (decide_eq_true (by omega)) (letter_6 c h6 w)
  · exact t false (decide_eq_false (by omega)) (letter_7 c (by omega) w)
theorem letter_is (c : Nat) (x : Bool) (h : ltr c = x) (w : World) : Calls Try.prog 103 #[Z8 c] w fun e w' => e = .returned (.bool x) ∧ Below w.heap.size w w' := by
  have := letter_any c w
  rw [h] at this
  exact this
/-- A text's byte. -/
def sby (s : ByteArray) (i : Nat) : Nat := if h : i < s.size then s[i].toNat else 0
theorem ex_ixT {ρ : Operand → Value} {o : Oper} {x y : Operand} {s : ByteArray} {j : Nat} {w : World} (ho : o.op = .index 9 x y) (hx : ρ x = .string s) (hy : ρ y = .int .i64 ((j : Nat) : Int)) (hj : j < s.size) : (execOp ρ o).run Try.prog w = .ok (.value (Z8 (sby s j))) w := by
  unfold sby
  rw [dif_pos hj]
  simp only [execOp, ho, hx, hy]
  clear ho hx hy
  go_simp
set_option maxHeartbeats 2000000 in
set_option maxRecDepth 100000 in
theorem named_none (s : ByteArray) (h : s.size < 1) (w : World) :
    Calls Try.prog 67 #[.string s] w fun e w' => e = .returned (.bool false) ∧ Below w.heap.size w w' := by
  have H0 : Hid (_ ∧ _) := ⟨Mm.nil w, Below.refl w.heap.size w⟩
  go_enter Try.func67, Try.ntmps67
  refine wp_seq ?_
  refine sq_startW (l := [0]) rfl (fun u0 hu0 => ?_)
  have H1 : Hid (Mm u0 [] ∧ Below w.heap.size w u0) := by rw [hu0]; exact H0
  clear hu0 H0
  refine rest_set (d := 2) (v := .bool false) (w' := u0) rfl rfl rfl (rfl) ?_
  simp only [Act.put, sa, sz, ss]
  refine rest_nil (then_normal ?_)
  refine wp_seq (wp_seq ?_)
  refine sq_start (l := [0, 1, 2, 3, 4, 5, 6, 7]) rfl ?_
  refine rest_set (d := 4) (v := .string s) (w' := u0) rfl rfl rfl (rfl) ?_
  simp only [Act.put, sa, sz, ss]
  refine rest_set (d := 5) (v := .int .i64 ((s.size : Nat) : Int)) (w' := u0) rfl rfl rfl (by go_simp) ?_
  simp only [Act.put, sa, sz, ss]
  refine rest_set (d := 6) (v := .bool true) (w' := u0) rfl rfl rfl (by go_simp <;> omega) ?_
  simp only [Act.put, sa, sz, ss]
  refine rest_set (d := 7) (v := .bool true) (w' := u0) rfl rfl rfl (rfl) ?_
  simp only [Act.put, sa, sz, ss]
  refine rest_gone1 (d := 8) rfl rfl rfl ?_
  simp only [Act.put, sa, sz, ss]
  refine rest_gone1 (d := 9) rfl rfl rfl ?_
  simp only [Act.put, sa, sz, ss]
  refine rest_gone1 (d := 10) rfl rfl rfl ?_
  simp only [Act.put, sa, sz, ss]
  refine rest_set (d := 11) (v := .bool true) (w' := u0) rfl rfl rfl (by go_simp) ?_
  simp only [Act.put, sa, sz, ss]
  refine rest_nil (then_normal ?_)
  refine wp_cond_true rfl (wp_seq ?_)
  refine sq_start (l := [0]) rfl ?_
  refine rest_set (d := 2) (v := .bool false) (w' := u0) rfl rfl rfl (rfl) ?_
  simp only [Act.put, sa, sz, ss]
  refine rest_nil (then_normal (wp_ret ?_))
  repeat (first | refine then_ret ?_ | refine block_ret ?_)
  refine bodyPost_ret (v := .bool false) (by simp [results, Try.results67, go_sem, *]) rfl ?_
  exact ⟨rfl, H1.out.2⟩
set_option maxHeartbeats 2000000 in
set_option maxRecDepth 100000 in
theorem named_long (s : ByteArray) (h : 64 < s.size) (w : World) :
    Calls Try.prog 67 #[.string s] w fun e w' => e = .returned (.bool false) ∧ Below w.heap.size w w' := by
  have H0 : Hid (_ ∧ _) := ⟨Mm.nil w, Below.refl w.heap.size w⟩
  go_enter Try.func67, Try.ntmps67
  refine wp_seq ?_
  refine sq_startW (l := [0]) rfl (fun u0 hu0 => ?_)
  have H1 : Hid (Mm u0 [] ∧ Below w.heap.size w u0) := by rw [hu0]; exact H0
  clear hu0 H0
  refine rest_set (d := 2) (v := .bool false) (w' := u0) rfl rfl rfl (rfl) ?_
  simp only [Act.put, sa, sz, ss]
  refine rest_nil (then_normal ?_)
  refine wp_seq (wp_seq ?_)
  refine sq_start (l := [0, 1, 2, 3, 4, 5, 6, 7]) rfl ?_
  refine rest_set (d := 4) (v := .string s) (w' := u0) rfl rfl rfl (rfl) ?_
  simp only [Act.put, sa, sz, ss]
  refine rest_set (d := 5) (v := .int .i64 ((s.size : Nat) : Int)) (w' := u0) rfl rfl rfl (by go_simp) ?_
  simp only [Act.put, sa, sz, ss]
  refine rest_set (d := 6) (v := .bool false) (w' := u0) rfl rfl rfl (by go_simp <;> omega) ?_
  simp only [Act.put, sa, sz, ss]
  refine rest_set (d := 7) (v := .bool false) (w' := u0) rfl rfl rfl (rfl) ?_
  simp only [Act.put, sa, sz, ss]
  refine rest_set (d := 8) (v := .string s) (w' := u0) rfl rfl rfl (rfl) ?_
  simp only [Act.put, sa, sz, ss]
  refine rest_set (d := 9) (v := .int .i64 ((s.size : Nat) : Int)) (w' := u0) rfl rfl rfl (by go_simp) ?_
  simp only [Act.put, sa, sz, ss]
  refine rest_set (d := 10) (v := .bool true) (w' := u0) rfl rfl rfl (by go_simp <;> omega) ?_
  simp only [Act.put, sa, sz, ss]
  refine rest_set (d := 11) (v := .bool true) (w' := u0) rfl rfl rfl (by go_simp) ?_
  simp only [Act.put, sa, sz, ss]
  refine rest_nil (then_normal ?_)
  refine wp_cond_true rfl (wp_seq ?_)
  refine sq_start (l := [0]) rfl ?_
  refine rest_set (d := 2) (v := .bool false) (w' := u0) rfl rfl rfl (rfl) ?_
  simp only [Act.put, sa, sz, ss]
  refine rest_nil (then_normal (wp_ret ?_))
  repeat (first | refine then_ret ?_ | refine block_ret ?_)
  refine bodyPost_ret (v := .bool false) (by simp [results, Try.results67, go_sem, *]) rfl ?_
  exact ⟨rfl, H1.out.2⟩
/-- May a text be a file's name? -/
def nmd (s : ByteArray) : Bool := decide (1 ≤ s.size ∧ s.size ≤ 64 ∧ ∀ i, i < s.size → ltr (sby s i) = true)
set_option maxHeartbeats 2000000 in
set_option maxRecDepth 100000 in
theorem named_in (s : ByteArray) (h1 : 1 ≤ s.size) (h2 : s.size ≤ 64) (w : World) :
    Calls Try.prog 67 #[.string s] w fun e w' => e = .returned (.bool (nmd s)) ∧ Below w.heap.size w w' := by
  have H0 : Hid (_ ∧ _) := ⟨Mm.nil w, Below.refl w.heap.size w⟩
  go_enter Try.func67, Try.ntmps67
  refine wp_seq ?_
  refine sq_startW (l := [0]) rfl (fun u0 hu0 => ?_)
  have H1 : Hid (Mm u0 [] ∧ Below w.heap.size w u0) := by rw [hu0]; exact H0
  clear hu0 H0
  refine rest_set (d := 2) (v := .bool false) (w' := u0) rfl rfl rfl (rfl) ?_
  simp only [Act.put, sa, sz, ss]
  refine rest_nil (then_normal ?_)
  refine wp_seq (wp_seq ?_)
  refine sq_start (l := [0, 1, 2, 3, 4, 5, 6, 7]) rfl ?_
  refine rest_set (d := 4) (v := .string s) (w' := u0) rfl rfl rfl (rfl) ?_
  simp only [Act.put, sa, sz, ss]
  refine rest_set (d := 5) (v := .int .i64 ((s.size : Nat) : Int)) (w' := u0) rfl rfl rfl (by go_simp) ?_
  simp only [Act.put, sa, sz, ss]
  refine rest_set (d := 6) (v := .bool false) (w' := u0) rfl rfl rfl (by go_simp <;> omega) ?_
  simp only [Act.put, sa, sz, ss]
  refine rest_set (d := 7) (v := .bool false) (w' := u0) rfl rfl rfl (rfl) ?_
  simp only [Act.put, sa, sz, ss]
  refine rest_set (d := 8) (v := .string s) (w' := u0) rfl rfl rfl (rfl) ?_
  simp only [Act.put, sa, sz, ss]
  refine rest_set (d := 9) (v := .int .i64 ((s.size : Nat) : Int)) (w' := u0) rfl rfl rfl (by go_simp) ?_
  simp only [Act.put, sa, sz, ss]
  refine rest_set (d := 10) (v := .bool false) (w' := u0) rfl rfl rfl (by go_simp <;> omega) ?_
  simp only [Act.put, sa, sz, ss]
  refine rest_set (d := 11) (v := .bool false) (w' := u0) rfl rfl rfl (by go_simp) ?_
  simp only [Act.put, sa, sz, ss]
  refine rest_nil (then_normal ?_)
  refine wp_cond_false rfl (wp_skip ?_)
  refine then_normal (wp_seq (wp_seq ?_))
  refine sq_start (l := [0, 1, 2]) rfl ?_
  refine rest_set (d := 12) (v := .string s) (w' := u0) rfl rfl rfl (rfl) ?_
  simp only [Act.put, sa, sz, ss]
  refine rest_set (d := 13) (v := .int .i64 ((s.size : Nat) : Int)) (w' := u0) rfl rfl rfl (by go_simp) ?_
  simp only [Act.put, sa, sz, ss]
  refine rest_set (d := 14) (v := .int .i64 0) (w' := u0) rfl rfl rfl (rfl) ?_
  simp only [Act.put, sa, sz, ss]
  refine rest_nil (then_normal (wp_block ?_))
  refine loop_ghost (α := Nat) (fun x a' w' => ∃ s0 : Nat → Value, a' = ⟨#[.string s, undef, s0 2, s0 3, .string s, .int .i64 ((s.size : Nat) : Int), .bool false, .bool false, .string s, .int .i64 ((s.size : Nat) : Int), .bool false, .bool false, .string s, .int .i64 ((s.size : Nat) : Int), .int .i64 ((x : Nat) : Int), s0 15, s0 16, s0 17, s0 18, s0 19, s0 20, s0 21, s0 22], []⟩ ∧ (Mm w' [] ∧ Below w.heap.size w w') ∧ x ≤ s.size ∧ ∀ i, i < x → ltr (sby s i) = true) (fun x => s.size - x) 0 ?st0 ?rd0
  case st0 => exact ⟨(slotfn [undef, undef, .bool false, undef, undef, undef, undef, undef, undef, undef, undef, undef, undef, undef, undef, undef, undef, undef, undef, undef, undef, undef, undef]), rfl, ⟨H1.out.1, H1.out.2⟩, ⟨Nat.zero_le _, fun i hi => absurd hi (Nat.not_lt_zero _)⟩⟩
  intro x a' w2 hI
  obtain ⟨s0, rfl, hMB, hk0⟩ := hI
  have H2 : Hid (_ ∧ _) := hMB
  clear hMB H1
  by_cases hltx : x < s.size
  · have hrd : True := trivial
    clear hrd
    cases hl : ltr (sby s x)
    · have hrd : True := trivial
      clear hrd
      refine wp_seq ?_
      refine sq_start (l := [0]) rfl ?_
      refine rest_set (d := 15) (v := .bool true) (w' := w2) rfl rfl rfl (by go_simp <;> omega) ?_
      simp only [Act.put, sa, sz, ss]
      refine rest_nil (then_normal ?_)
      refine wp_seq (wp_cond_true rfl ?_)
      refine wp_skip (then_normal ?_)
      refine wp_seq (wp_block (wp_seq ?_))
      refine sq_start (l := [0, 1]) rfl ?_
      refine rest_set (d := 16) (v := .int .i64 ((x : Nat) : Int)) (w' := w2) rfl rfl rfl (rfl) ?_
      simp only [Act.put, sa, sz, ss]
      refine rest_set (d := 3) (v := .int .i64 ((x : Nat) : Int)) (w' := w2) rfl rfl rfl (rfl) ?_
      simp only [Act.put, sa, sz, ss]
      refine rest_nil (then_normal (wp_seq ?_))
      refine sq_start (l := [0, 1, 2, 3, 4]) rfl ?_
      refine rest_set (d := 17) (v := .string s) (w' := w2) rfl rfl rfl (rfl) ?_
      simp only [Act.put, sa, sz, ss]
      refine rest_set (d := 18) (v := .int .i64 ((x : Nat) : Int)) (w' := w2) rfl rfl rfl (rfl) ?_
      simp only [Act.put, sa, sz, ss]
      refine rest_set (d := 19) (v := Z8 (sby s x)) (w' := w2) rfl rfl rfl (ex_ixT rfl rfl rfl (by omega)) ?_
      simp only [Act.put, sa, sz, ss]
      refine rest_enter (d := 20) (R := fun vv w' => vv = .bool false ∧ Below w2.heap.size w2 w') rfl rfl rfl (exec_call (args := #[Z8 (sby s x)]) rfl call103 rfl (mpn rfl)) (Calls.mono (letter_is (sby s x) false hl w2) (fun e w2 hh => ⟨_, hh.1, rfl, hh.2⟩)) ?_
      rintro _ w3 ⟨rfl, hb⟩
      have H3 : Hid (Mm w3 [] ∧ Below w.heap.size w w3) := ⟨H2.out.1.below hb, H2.out.2.trans (hb.mono H2.out.2.size)⟩
      clear hb
      clear H2
      simp only [Act.put, sa, sz, ss]
      refine rest_set (d := 21) (v := .bool true) (w' := w3) rfl rfl rfl (by go_simp) ?_
      simp only [Act.put, sa, sz, ss]
      refine rest_nil (then_normal ?_)
      refine wp_cond_true rfl (wp_seq ?_)
      refine sq_start (l := [0]) rfl ?_
      refine rest_set (d := 2) (v := .bool false) (w' := w3) rfl rfl rfl (rfl) ?_
      simp only [Act.put, sa, sz, ss]
      refine rest_nil (then_normal (wp_ret ?_))
      repeat (first | refine then_ret ?_ | refine block_ret ?_)
      refine bodyPost_ret (v := .bool false) (by simp [results, Try.results67, go_sem, *]) rfl ?_
      exact ⟨by rw [show nmd s = false from decide_eq_false (fun h => by rw [h.2.2 x hltx] at hl; cases hl)], H3.out.2⟩
    · have hrd : True := trivial
      clear hrd
      refine wp_seq ?_
      refine sq_start (l := [0]) rfl ?_
      refine rest_set (d := 15) (v := .bool true) (w' := w2) rfl rfl rfl (by go_simp <;> omega) ?_
      simp only [Act.put, sa, sz, ss]
      refine rest_nil (then_normal ?_)
      refine wp_seq (wp_cond_true rfl ?_)
      refine wp_skip (then_normal ?_)
      refine wp_seq (wp_block (wp_seq ?_))
      refine sq_start (l := [0, 1]) rfl ?_
      refine rest_set (d := 16) (v := .int .i64 ((x : Nat) : Int)) (w' := w2) rfl rfl rfl (rfl) ?_
      simp only [Act.put, sa, sz, ss]
      refine rest_set (d := 3) (v := .int .i64 ((x : Nat) : Int)) (w' := w2) rfl rfl rfl (rfl) ?_
      simp only [Act.put, sa, sz, ss]
      refine rest_nil (then_normal (wp_seq ?_))
      refine sq_start (l := [0, 1, 2, 3, 4]) rfl ?_
      refine rest_set (d := 17) (v := .string s) (w' := w2) rfl rfl rfl (rfl) ?_
      simp only [Act.put, sa, sz, ss]
      refine rest_set (d := 18) (v := .int .i64 ((x : Nat) : Int)) (w' := w2) rfl rfl rfl (rfl) ?_
      simp only [Act.put, sa, sz, ss]
      refine rest_set (d := 19) (v := Z8 (sby s x)) (w' := w2) rfl rfl rfl (ex_ixT rfl rfl rfl (by omega)) ?_
      simp only [Act.put, sa, sz, ss]
      refine rest_enter (d := 20) (R := fun vv w' => vv = .bool true ∧ Below w2.heap.size w2 w') rfl rfl rfl (exec_call (args := #[Z8 (sby s x)]) rfl call103 rfl (mpn rfl)) (Calls.mono (letter_is (sby s x) true hl w2) (fun e w2 hh => ⟨_, hh.1, rfl, hh.2⟩)) ?_
      rintro _ w4 ⟨rfl, hb⟩
      have H4 : Hid (Mm w4 [] ∧ Below w.heap.size w w4) := ⟨H2.out.1.below hb, H2.out.2.trans (hb.mono H2.out.2.size)⟩
      clear hb
      clear H2
      simp only [Act.put, sa, sz, ss]
      refine rest_set (d := 21) (v := .bool false) (w' := w4) rfl rfl rfl (by go_simp) ?_
      simp only [Act.put, sa, sz, ss]
      refine rest_nil (then_normal ?_)
      refine wp_cond_false rfl (wp_skip ?_)
      refine block_normal (then_normal ?_)
      refine sq_start (l := [0, 1]) rfl ?_
      refine rest_set (d := 22) (v := .int .i64 ((x + 1 : Nat) : Int)) (w' := w4) rfl rfl rfl (by go_simp; rw [IntKind.wrap_i64]; omega) ?_
      simp only [Act.put, sa, sz, ss]
      refine rest_set (d := 14) (v := .int .i64 ((x + 1 : Nat) : Int)) (w' := w4) rfl rfl rfl (rfl) ?_
      simp only [Act.put, sa, sz, ss]
      refine rest_nil (then_normal ?_)
      exact ⟨x + 1, ⟨(slotfn [undef, undef, s0 2, .int .i64 ((x : Nat) : Int), undef, undef, undef, undef, undef, undef, undef, undef, undef, undef, undef, .bool true, .int .i64 ((x : Nat) : Int), .string s, .int .i64 ((x : Nat) : Int), Z8 (sby s x), .bool true, .bool false, .int .i64 ((x + 1 : Nat) : Int)]), rfl, ⟨H4.out.1, H4.out.2⟩, ⟨by omega, fun i hi => by rcases Nat.lt_succ_iff_lt_or_eq.1 hi with h | h; exact hk0.2 i h; rw [h]; exact hl⟩⟩, by omega⟩
  refine wp_seq ?_
  refine sq_start (l := [0]) rfl ?_
  refine rest_set (d := 15) (v := .bool false) (w' := w2) rfl rfl rfl (by go_simp <;> omega) ?_
  simp only [Act.put, sa, sz, ss]
  refine rest_nil (then_normal ?_)
  refine wp_seq (wp_cond_false rfl ?_)
  refine wp_exit ?_
  repeat refine then_exit ?_
  refine block_exit ?_
  refine then_normal (wp_seq ?_)
  refine sq_start (l := [0]) rfl ?_
  refine rest_set (d := 2) (v := .bool true) (w' := w2) rfl rfl rfl (rfl) ?_
  simp only [Act.put, sa, sz, ss]
  refine rest_nil (then_normal (wp_ret ?_))
  repeat (first | refine then_ret ?_ | refine block_ret ?_)
  refine bodyPost_ret (v := .bool true) (by simp [results, Try.results67, go_sem, *]) rfl ?_
  exact ⟨by rw [show nmd s = true from decide_eq_true ⟨by omega, by omega, fun i hi => hk0.2 i (by omega)⟩], H2.out.2⟩
theorem named_any (s : ByteArray) (w : World) : Calls Try.prog 67 #[.string s] w fun e w' => e = .returned (.bool (nmd s)) ∧ Below w.heap.size w w' := by
  by_cases h1 : s.size < 1
  · rw [show nmd s = false from decide_eq_false (by omega)]
    exact named_none s h1 w
  by_cases h2 : 64 < s.size
  · rw [show nmd s = false from decide_eq_false (by omega)]
    exact named_long s h2 w
  · exact named_in s (by omega) (by omega) w
end Wi
end Rg
end Go.Proofs.Ytidicdlfjdlpnaa
end
section
namespace Go.Proofs.Ytidicdlfjdlpnaa
open Go.RowKit
namespace Rg
namespace Wi
theorem call75 : ∀ args w, (callFunc 75 args).run Try.prog w = .ok (.enter 75 args) w := by intro args w; go_simp
set_option maxRecDepth 100000
theorem ex_lkp {ρ : Operand → Value} {o : Oper} {x y : Operand} {t : TypeId} {c : Bool} {a k v : Value} {w : World} (hr : (Instr.lookup t a k c).run Try.prog w = .ok v w) (ho : o.op = .lookup t x y c) (hx : ρ x = a) (hy : ρ y = k) : (execOp ρ o).run Try.prog w = .ok (.value v) w := by
  simp only [execOp, ho, hx, hy, Sem.run_bind, hr, Result.andThen_ok, Sem.run_pure]
theorem ex_mk100 {ρ : Operand → Value} {o : Oper} {w : World} (ho : o.op = .alloc 100) : (execOp ρ o).run Try.prog w = .ok (.value (.pointer (some ⟨w.heap.size, 0, none⟩))) (w.alloc (.cells ([] : List Value).toArray 100)) := by
  simp only [execOp, ho]
  kernel_rfl
set_option maxHeartbeats 2000000 in
set_option maxRecDepth 100000 in
theorem made_ok (d mb rb : Nat) (k : Int) (w : World) (hm : Mm w [(d, [Value.map (some mb), Value.map (some rb), Value.int .i64 k])]) :
    Calls Try.prog 75 #[PT d 0] w fun e w' => e = .returned (.bool true) ∧ Below w.heap.size w w' := by
  have H0 : Hid (_ ∧ _) := ⟨hm, Below.refl w.heap.size w⟩
  clear hm
  go_enter Try.func75, Try.ntmps75
  refine wp_seq ?_
  refine sq_startW (l := [0]) rfl (fun u0 hu0 => ?_)
  have H1 : Hid (Mm u0 [(d, [Value.map (some mb), Value.map (some rb), Value.int .i64 k])] ∧ Below w.heap.size w u0) := by rw [hu0]; exact H0
  clear hu0 H0
  refine rest_set (d := 2) (v := .bool false) (w' := u0) rfl rfl rfl (rfl) ?_
  simp only [Act.put, sa, sz, ss]
  refine rest_nil (then_normal (wp_seq ?_))
  refine sq_start (l := [0, 1, 2, 3, 4, 5, 6, 7, 8, 9]) rfl ?_
  refine rest_set (d := 3) (v := PT d 0) (w' := u0) rfl rfl rfl (rfl) ?_
  simp only [Act.put, sa, sz, ss]
  refine rest_set (d := 4) (v := .bool true) (w' := u0) rfl rfl rfl (by go_simp) ?_
  simp only [Act.put, sa, sz, ss]
  refine rest_set (d := 5) (v := .bool true) (w' := u0) rfl rfl rfl (rfl) ?_
  simp only [Act.put, sa, sz, ss]
  refine rest_set (d := 6) (v := PT d 0) (w' := u0) rfl rfl rfl (rfl) ?_
  simp only [Act.put, sa, sz, ss]
  refine rest_set (d := 7) (v := PT d 0) (w' := u0) rfl rfl rfl (by go_simp) ?_
  simp only [Act.put, sa, sz, ss]
  refine rest_set (d := 8) (v := PT d 0) (w' := u0) rfl rfl rfl (by go_simp) ?_
  simp only [Act.put, sa, sz, ss]
  refine rest_set (d := 9) (v := .map (some mb)) (w' := u0) rfl rfl rfl (ex_loadC H1.out.1 0 rfl rfl rfl Try.isAgg39 rfl) ?_
  simp only [Act.put, sa, sz, ss]
  refine rest_set (d := 10) (v := .bool true) (w' := u0) rfl rfl rfl (by kernel_rfl) ?_
  simp only [Act.put, sa, sz, ss]
  refine rest_set (d := 11) (v := .bool true) (w' := u0) rfl rfl rfl (by go_simp) ?_
  simp only [Act.put, sa, sz, ss]
  refine rest_set (d := 2) (v := .bool true) (w' := u0) rfl rfl rfl (rfl) ?_
  simp only [Act.put, sa, sz, ss]
  refine rest_nil (then_normal (wp_ret ?_))
  repeat (first | refine then_ret ?_ | refine block_ret ?_)
  refine bodyPost_ret (v := .bool true) (by simp [results, Try.results75, go_sem, *]) rfl ?_
  exact ⟨rfl, H1.out.2⟩
set_option maxHeartbeats 2000000 in
set_option maxRecDepth 100000 in
theorem find_hit (d mb rb g : Nat) (k : Int) (s : ByteArray) (w : World) (hm : Mm w [(d, [Value.map (some mb), Value.map (some rb), Value.int .i64 k])]) (hlk0 : ∀ u, Below w.heap.size w u → (Instr.lookup 39 (.map (some mb)) (.string s) false).run Try.prog u = .ok (PT g 0) u) :
    Calls Try.prog 64 #[PT d 0, .string s] w fun e w' => e = .returned (.tuple #[PT g 0, .int .i64 0]) ∧ Below w.heap.size w w' := by
  have H0 : Hid (_ ∧ _) := ⟨hm, Below.refl w.heap.size w⟩
  clear hm
  have hlk : Hid _ := hlk0
  clear hlk0
  go_enter Try.func64, Try.ntmps64
  refine wp_seq ?_
  refine sq_startW (l := [0, 1]) rfl (fun u0 hu0 => ?_)
  have H1 : Hid (Mm u0 [(d, [Value.map (some mb), Value.map (some rb), Value.int .i64 k])] ∧ Below w.heap.size w u0) := by rw [hu0]; exact H0
  clear hu0 H0
  refine rest_set (d := 4) (v := .pointer none) (w' := u0) rfl rfl rfl (rfl) ?_
  simp only [Act.put, sa, sz, ss]
  refine rest_set (d := 5) (v := .int .i64 0) (w' := u0) rfl rfl rfl (rfl) ?_
  simp only [Act.put, sa, sz, ss]
  refine rest_nil (then_normal ?_)
  refine wp_seq (wp_seq ?_)
  refine sq_start (l := [0, 1, 2]) rfl ?_
  refine rest_set (d := 7) (v := PT d 0) (w' := u0) rfl rfl rfl (rfl) ?_
  simp only [Act.put, sa, sz, ss]
  refine rest_enter (d := 8) (R := fun vv w' => vv = .bool true ∧ Below u0.heap.size u0 w') rfl rfl rfl (exec_call (args := #[PT d 0]) rfl call75 rfl (mpn rfl)) (Calls.mono (made_ok d mb rb k u0 (H1.out.1.one 0 rfl)) (fun e w2 hh => ⟨_, hh.1, rfl, hh.2⟩)) ?_
  rintro _ w2 ⟨rfl, hb⟩
  have H2 : Hid (Mm w2 [(d, [Value.map (some mb), Value.map (some rb), Value.int .i64 k])] ∧ Below w.heap.size w w2) := ⟨H1.out.1.below hb, H1.out.2.trans (hb.mono H1.out.2.size)⟩
  clear hb
  clear H1
  simp only [Act.put, sa, sz, ss]
  refine rest_set (d := 9) (v := .bool false) (w' := w2) rfl rfl rfl (by go_simp) ?_
  simp only [Act.put, sa, sz, ss]
  refine rest_nil (then_normal ?_)
  refine wp_cond_false rfl (wp_skip ?_)
  refine then_normal (wp_seq ?_)
  refine sq_start (l := [0, 1, 2, 3, 4, 5, 6]) rfl ?_
  refine rest_set (d := 10) (v := PT d 0) (w' := w2) rfl rfl rfl (rfl) ?_
  simp only [Act.put, sa, sz, ss]
  refine rest_set (d := 11) (v := PT d 0) (w' := w2) rfl rfl rfl (by go_simp) ?_
  simp only [Act.put, sa, sz, ss]
  refine rest_set (d := 12) (v := PT d 0) (w' := w2) rfl rfl rfl (by go_simp) ?_
  simp only [Act.put, sa, sz, ss]
  refine rest_set (d := 13) (v := .map (some mb)) (w' := w2) rfl rfl rfl (ex_loadC H2.out.1 0 rfl rfl rfl Try.isAgg39 rfl) ?_
  simp only [Act.put, sa, sz, ss]
  refine rest_set (d := 14) (v := .string s) (w' := w2) rfl rfl rfl (rfl) ?_
  simp only [Act.put, sa, sz, ss]
  refine rest_set (d := 15) (v := PT g 0) (w' := w2) rfl rfl rfl (ex_lkp (hlk.out w2 H2.out.2) rfl rfl rfl) ?_
  simp only [Act.put, sa, sz, ss]
  refine rest_set (d := 6) (v := PT g 0) (w' := w2) rfl rfl rfl (rfl) ?_
  simp only [Act.put, sa, sz, ss]
  refine rest_nil (then_normal ?_)
  refine wp_seq (wp_seq ?_)
  refine sq_start (l := [0, 1]) rfl ?_
  refine rest_set (d := 16) (v := PT g 0) (w' := w2) rfl rfl rfl (rfl) ?_
  simp only [Act.put, sa, sz, ss]
  refine rest_set (d := 17) (v := .bool false) (w' := w2) rfl rfl rfl (by go_simp) ?_
  simp only [Act.put, sa, sz, ss]
  refine rest_nil (then_normal ?_)
  refine wp_cond_false rfl (wp_skip ?_)
  refine then_normal (wp_seq ?_)
  refine sq_start (l := [0, 1, 2]) rfl ?_
  refine rest_set (d := 18) (v := PT g 0) (w' := w2) rfl rfl rfl (rfl) ?_
  simp only [Act.put, sa, sz, ss]
  refine rest_set (d := 4) (v := PT g 0) (w' := w2) rfl rfl rfl (rfl) ?_
  simp only [Act.put, sa, sz, ss]
  refine rest_set (d := 5) (v := .int .i64 0) (w' := w2) rfl rfl rfl (rfl) ?_
  simp only [Act.put, sa, sz, ss]
  refine rest_nil (then_normal (wp_ret ?_))
  repeat (first | refine then_ret ?_ | refine block_ret ?_)
  refine bodyPost_ret (v := .tuple #[PT g 0, .int .i64 0]) (by simp [results, Try.results64, go_sem, *]) rfl ?_
  exact ⟨rfl, H2.out.2⟩
set_option maxHeartbeats 2000000 in
set_option maxRecDepth 100000 in
theorem find_miss (d mb rb : Nat) (k : Int) (s : ByteArray) (w : World) (hm : Mm w [(d, [Value.map (some mb), Value.map (some rb), Value.int .i64 k])]) (hlk0 : ∀ u, Below w.heap.size w u → (Instr.lookup 39 (.map (some mb)) (.string s) false).run Try.prog u = .ok (.pointer none) u) :
    Calls Try.prog 64 #[PT d 0, .string s] w fun e w' => e = .returned (.tuple #[.pointer none, .int .i64 6]) ∧ Below w.heap.size w w' := by
  have H0 : Hid (_ ∧ _) := ⟨hm, Below.refl w.heap.size w⟩
  clear hm
  have hlk : Hid _ := hlk0
  clear hlk0
  go_enter Try.func64, Try.ntmps64
  refine wp_seq ?_
  refine sq_startW (l := [0, 1]) rfl (fun u0 hu0 => ?_)
  have H1 : Hid (Mm u0 [(d, [Value.map (some mb), Value.map (some rb), Value.int .i64 k])] ∧ Below w.heap.size w u0) := by rw [hu0]; exact H0
  clear hu0 H0
  refine rest_set (d := 4) (v := .pointer none) (w' := u0) rfl rfl rfl (rfl) ?_
  simp only [Act.put, sa, sz, ss]
  refine rest_set (d := 5) (v := .int .i64 0) (w' := u0) rfl rfl rfl (rfl) ?_
  simp only [Act.put, sa, sz, ss]
  refine rest_nil (then_normal ?_)
  refine wp_seq (wp_seq ?_)
  refine sq_start (l := [0, 1, 2]) rfl ?_
  refine rest_set (d := 7) (v := PT d 0) (w' := u0) rfl rfl rfl (rfl) ?_
  simp only [Act.put, sa, sz, ss]
  refine rest_enter (d := 8) (R := fun vv w' => vv = .bool true ∧ Below u0.heap.size u0 w') rfl rfl rfl (exec_call (args := #[PT d 0]) rfl call75 rfl (mpn rfl)) (Calls.mono (made_ok d mb rb k u0 (H1.out.1.one 0 rfl)) (fun e w2 hh => ⟨_, hh.1, rfl, hh.2⟩)) ?_
  rintro _ w2 ⟨rfl, hb⟩
  have H2 : Hid (Mm w2 [(d, [Value.map (some mb), Value.map (some rb), Value.int .i64 k])] ∧ Below w.heap.size w w2) := ⟨H1.out.1.below hb, H1.out.2.trans (hb.mono H1.out.2.size)⟩
  clear hb
  clear H1
  simp only [Act.put, sa, sz, ss]
  refine rest_set (d := 9) (v := .bool false) (w' := w2) rfl rfl rfl (by go_simp) ?_
  simp only [Act.put, sa, sz, ss]
  refine rest_nil (then_normal ?_)
  refine wp_cond_false rfl (wp_skip ?_)
  refine then_normal (wp_seq ?_)
  refine sq_start (l := [0, 1, 2, 3, 4, 5, 6]) rfl ?_
  refine rest_set (d := 10) (v := PT d 0) (w' := w2) rfl rfl rfl (rfl) ?_
  simp only [Act.put, sa, sz, ss]
  refine rest_set (d := 11) (v := PT d 0) (w' := w2) rfl rfl rfl (by go_simp) ?_
  simp only [Act.put, sa, sz, ss]
  refine rest_set (d := 12) (v := PT d 0) (w' := w2) rfl rfl rfl (by go_simp) ?_
  simp only [Act.put, sa, sz, ss]
  refine rest_set (d := 13) (v := .map (some mb)) (w' := w2) rfl rfl rfl (ex_loadC H2.out.1 0 rfl rfl rfl Try.isAgg39 rfl) ?_
  simp only [Act.put, sa, sz, ss]
  refine rest_set (d := 14) (v := .string s) (w' := w2) rfl rfl rfl (rfl) ?_
  simp only [Act.put, sa, sz, ss]
  refine rest_set (d := 15) (v := .pointer none) (w' := w2) rfl rfl rfl (ex_lkp (hlk.out w2 H2.out.2) rfl rfl rfl) ?_
  simp only [Act.put, sa, sz, ss]
  refine rest_set (d := 6) (v := .pointer none) (w' := w2) rfl rfl rfl (rfl) ?_
  simp only [Act.put, sa, sz, ss]
  refine rest_nil (then_normal ?_)
  refine wp_seq (wp_seq ?_)
  refine sq_start (l := [0, 1]) rfl ?_
  refine rest_set (d := 16) (v := .pointer none) (w' := w2) rfl rfl rfl (rfl) ?_
  simp only [Act.put, sa, sz, ss]
  refine rest_set (d := 17) (v := .bool true) (w' := w2) rfl rfl rfl (by kernel_rfl) ?_
  simp only [Act.put, sa, sz, ss]
  refine rest_nil (then_normal ?_)
  refine wp_cond_true rfl (wp_seq ?_)
  refine sq_start (l := [0, 1]) rfl ?_
  refine rest_set (d := 4) (v := .pointer none) (w' := w2) rfl rfl rfl (rfl) ?_
  simp only [Act.put, sa, sz, ss]
  refine rest_set (d := 5) (v := .int .i64 6) (w' := w2) rfl rfl rfl (rfl) ?_
  simp only [Act.put, sa, sz, ss]
  refine rest_nil (then_normal (wp_ret ?_))
  repeat (first | refine then_ret ?_ | refine block_ret ?_)
  refine bodyPost_ret (v := .tuple #[.pointer none, .int .i64 6]) (by simp [results, Try.results64, go_sem, *]) rfl ?_
  exact ⟨rfl, H2.out.2⟩
set_option maxHeartbeats 2000000 in
set_option maxRecDepth 100000 in
theorem count_ok (d mb rb k : Nat) (hk : k < 4611686018427387904) (w : World) (hm : Mm w [(d, [Value.map (some mb), Value.map (some rb), Value.int .i64 ((k : Nat) : Int)])]) (hlk0 : ∀ u, Kp d w u → (Instr.lookup 40 (.map (some rb)) (.int .i64 ((k + 1 : Nat) : Int)) true).run Try.prog u = .ok (.tuple #[.agg ([] : List Value).toArray, .bool false]) u) :
    Calls Try.prog 66 #[PT d 0] w fun e w' => e = .returned (.int .i64 0) ∧ Mm w' [(d, [Value.map (some mb), Value.map (some rb), Value.int .i64 ((k + 1 : Nat) : Int)])] ∧ Kp d w w' := by
  have H0 : Hid (_ ∧ _) := ⟨hm, Kp.refl d w⟩
  clear hm
  have hlk : Hid _ := hlk0
  clear hlk0
  go_enter Try.func66, Try.ntmps66
  refine wp_seq ?_
  refine sq_startW (l := [0]) rfl (fun u0 hu0 => ?_)
  have H1 : Hid (Mm u0 [(d, [Value.map (some mb), Value.map (some rb), Value.int .i64 ((k : Nat) : Int)])] ∧ Kp d w u0) := by rw [hu0]; exact H0
  clear hu0 H0
  refine rest_set (d := 2) (v := .int .i64 0) (w' := u0) rfl rfl rfl (rfl) ?_
  simp only [Act.put, sa, sz, ss]
  refine rest_nil (then_normal ?_)
  refine wp_seq (wp_seq ?_)
  refine sq_start (l := [0, 1, 2]) rfl ?_
  refine rest_set (d := 5) (v := PT d 0) (w' := u0) rfl rfl rfl (rfl) ?_
  simp only [Act.put, sa, sz, ss]
  refine rest_enter (d := 6) (R := fun vv w' => vv = .bool true ∧ Below u0.heap.size u0 w') rfl rfl rfl (exec_call (args := #[PT d 0]) rfl call75 rfl (mpn rfl)) (Calls.mono (made_ok d mb rb ((k : Nat) : Int) u0 (H1.out.1.one 0 rfl)) (fun e w2 hh => ⟨_, hh.1, rfl, hh.2⟩)) ?_
  rintro _ w2 ⟨rfl, hb⟩
  have H2 : Hid (Mm w2 [(d, [Value.map (some mb), Value.map (some rb), Value.int .i64 ((k : Nat) : Int)])] ∧ Kp d w w2) := ⟨H1.out.1.below hb, H1.out.2.trans (hb)⟩
  clear hb
  clear H1
  simp only [Act.put, sa, sz, ss]
  refine rest_set (d := 7) (v := .bool false) (w' := w2) rfl rfl rfl (by go_simp) ?_
  simp only [Act.put, sa, sz, ss]
  refine rest_nil (then_normal ?_)
  refine wp_cond_false rfl (wp_skip ?_)
  refine then_normal (wp_seq ?_)
  refine sq_start (l := [0, 1, 2, 3, 4, 5, 6, 7]) rfl ?_
  refine rest_set (d := 8) (v := PT d 0) (w' := w2) rfl rfl rfl (rfl) ?_
  simp only [Act.put, sa, sz, ss]
  refine rest_set (d := 9) (v := PT d 0) (w' := w2) rfl rfl rfl (by go_simp) ?_
  simp only [Act.put, sa, sz, ss]
  refine rest_set (d := 10) (v := PT d 2) (w' := w2) rfl rfl rfl (by go_simp) ?_
  simp only [Act.put, sa, sz, ss]
  refine rest_set (d := 11) (v := .int .i64 ((k : Nat) : Int)) (w' := w2) rfl rfl rfl (ex_loadC H2.out.1 0 rfl rfl rfl Try.isAgg3 rfl) ?_
  simp only [Act.put, sa, sz, ss]
  refine rest_set (d := 12) (v := .int .i64 ((k + 1 : Nat) : Int)) (w' := w2) rfl rfl rfl (by go_simp; rw [IntKind.wrap_i64]; omega) ?_
  simp only [Act.put, sa, sz, ss]
  refine rest_set (d := 13) (v := PT d 0) (w' := w2) rfl rfl rfl (by go_simp) ?_
  simp only [Act.put, sa, sz, ss]
  refine rest_set (d := 14) (v := PT d 2) (w' := w2) rfl rfl rfl (by go_simp) ?_
  simp only [Act.put, sa, sz, ss]
  refine rest_store rfl rfl rfl (ex_st1 (v := .int .i64 ((k + 1 : Nat) : Int)) H2.out.1 0 rfl rfl Try.sizeOf3 rfl rfl (rfl) (Nat.le_of_ble_eq_true rfl)) ?_
  have H3 : Hid (Mm (w2.setCells d 2 [Value.int .i64 ((k + 1 : Nat) : Int)]) [(d, [Value.map (some mb), Value.map (some rb), Value.int .i64 ((k + 1 : Nat) : Int)])] ∧ Kp d w (w2.setCells d 2 [Value.int .i64 ((k + 1 : Nat) : Int)])) := ⟨H2.out.1.put 0 (off := 2) (vs := [Value.int .i64 ((k + 1 : Nat) : Int)]) rfl (Nat.le_of_ble_eq_true rfl), H2.out.2.put (Or.inl rfl)⟩
  clear H2
  generalize hgw : World.setCells _ _ _ _ = w3 at H3 ⊢
  clear hgw
  refine rest_nil (then_normal ?_)
  refine wp_seq (wp_seq ?_)
  refine walk_put (by kernel_rfl) 13 [11] [.quiet (PT d 0), .quiet (PT d 0), .quiet (PT d 1), .quiet (.map (some rb)), .quiet (PT d 0), .quiet (PT d 0), .quiet (PT d 2), .quiet (.int .i64 ((k + 1 : Nat) : Int)), .quiet (.tuple #[.agg (([] : List Value)).toArray, .bool false]), .quiet (.tuple #[.agg (([] : List Value)).toArray, .bool false]), .quiet (.agg (([] : List Value)).toArray), .quiet (.bool false), .made [] 100] (fun u' => Mm u' [(d, [Value.map (some mb), Value.map (some rb), Value.int .i64 ((k + 1 : Nat) : Int)])] ∧ Kp d w u') ?pre4 ?F4 _ ?hpre4 (fun γ => ?hF4) (by kernel_rfl) rfl trivial ?hS4 ?ho4 ?hla4 ?he4
  case hpre4 => simp only [tk, tz]; rfl
  case hF4 => simp only [fill, Kind.val, Act.put, sa, sz, ss]; rfl
  case hS4 => exact fun w' hb => ⟨H3.out.1.below hb, H3.out.2.trans (hb)⟩
  case ho4 =>
    refine ak (fun _ => ⟨rfl, fun _ _ => rfl⟩) ?_
    refine ak (by refine fun γ => ⟨rfl, fun w' h => ?_⟩; clear h; go_simp) ?_
    refine ak (by refine fun γ => ⟨rfl, fun w' h => ?_⟩; clear h; go_simp) ?_
    refine ak (fun γ => ⟨rfl, fun w' hX => have h := hX.1; ex_loadC h 0 rfl rfl rfl Try.isAgg40 rfl⟩) ?_
    refine ak (fun _ => ⟨rfl, fun _ _ => rfl⟩) ?_
    refine ak (by refine fun γ => ⟨rfl, fun w' h => ?_⟩; clear h; go_simp) ?_
    refine ak (by refine fun γ => ⟨rfl, fun w' h => ?_⟩; clear h; go_simp) ?_
    refine ak (fun γ => ⟨rfl, fun w' hX => have h := hX.1; ex_loadC h 0 rfl rfl rfl Try.isAgg3 rfl⟩) ?_
    refine ak (fun γ => ⟨rfl, fun w' hX => ex_lkp (hlk.out w' hX.2) rfl rfl rfl⟩) ?_
    refine ak (fun _ => ⟨rfl, fun _ _ => rfl⟩) ?_
    refine ak (by refine fun γ => ⟨rfl, fun w' h => ?_⟩; clear h; go_simp) ?_
    refine ak (by refine fun γ => ⟨rfl, fun w' h => ?_⟩; clear h; go_simp) ?_
    refine ak (fun γ => ⟨rfl, fun w' => ex_mk100 rfl⟩) ?_
    exact trivial
  case hla4 => exact ⟨⟨_, _, rfl, rfl, fun γ => ⟨rfl, fun w' => by go_simp⟩⟩, trivial⟩
  intro γ w4 l hM hl
  have H4 : Hid (Mm w4 [(γ 12, []), (d, [Value.map (some mb), Value.map (some rb), Value.int .i64 ((k + 1 : Nat) : Int)])] ∧ _) := growK H3 hM (Nat.le_refl _) hl [12] rfl (by decide)
  have o4_12 := ownK H3 hM (Nat.le_refl _) hl (i := 12) rfl
  clear hM hl l H3
  generalize γ 12 = γ4_12 at H4 o4_12 ⊢
  clear γ
  refine ⟨_, ex_storeT (vs := []) H4.out.1 0 rfl rfl rfl rfl Try.sizeOf100 rfl (Nat.le_of_ble_eq_true rfl), ?_⟩
  have H5 : Hid (Mm (w4.setCells γ4_12 0 []) [(γ4_12, []), (d, [Value.map (some mb), Value.map (some rb), Value.int .i64 ((k + 1 : Nat) : Int)])] ∧ Kp d w (w4.setCells γ4_12 0 [])) := ⟨H4.out.1, H4.out.2⟩
  clear H4
  generalize hgw : World.setCells _ _ _ _ = w5 at H5 ⊢
  clear hgw
  refine rest_at (l := [14]) rfl ?_
  refine rest_set (d := 4) (v := .bool false) (w' := w5) rfl rfl rfl (rfl) ?_
  simp only [Act.put, sa, sz, ss]
  refine rest_nil (then_normal (wp_seq ?_))
  refine sq_start (l := [0]) rfl ?_
  refine rest_set (d := 27) (v := .bool false) (w' := w5) rfl rfl rfl (rfl) ?_
  simp only [Act.put, sa, sz, ss]
  refine rest_nil (then_normal ?_)
  refine wp_cond_false rfl (wp_skip ?_)
  refine then_normal (wp_seq ?_)
  refine sq_start (l := [0]) rfl ?_
  refine rest_set (d := 2) (v := .int .i64 0) (w' := w5) rfl rfl rfl (rfl) ?_
  simp only [Act.put, sa, sz, ss]
  refine rest_nil (then_normal (wp_ret ?_))
  repeat (first | refine then_ret ?_ | refine block_ret ?_)
  refine bodyPost_ret (v := .int .i64 0) (by simp [results, Try.results66, go_sem, *]) rfl ?_
  exact ⟨rfl, H5.out.1.one 1 rfl, H5.out.2⟩
set_option maxHeartbeats 2000000 in
set_option maxRecDepth 100000 in
theorem count_no (d mb rb k : Nat) (hk : k < 4611686018427387904) (w : World) (hm : Mm w [(d, [Value.map (some mb), Value.map (some rb), Value.int .i64 ((k : Nat) : Int)])]) (hlk0 : ∀ u, Kp d w u → (Instr.lookup 40 (.map (some rb)) (.int .i64 ((k + 1 : Nat) : Int)) true).run Try.prog u = .ok (.tuple #[.agg ([] : List Value).toArray, .bool true]) u) :
    Calls Try.prog 66 #[PT d 0] w fun e w' => e = .returned (.int .i64 13) ∧ Mm w' [(d, [Value.map (some mb), Value.map (some rb), Value.int .i64 ((k + 1 : Nat) : Int)])] ∧ Kp d w w' := by
  have H0 : Hid (_ ∧ _) := ⟨hm, Kp.refl d w⟩
  clear hm
  have hlk : Hid _ := hlk0
  clear hlk0
  go_enter Try.func66, Try.ntmps66
  refine wp_seq ?_
  refine sq_startW (l := [0]) rfl (fun u0 hu0 => ?_)
  have H1 : Hid (Mm u0 [(d, [Value.map (some mb), Value.map (some rb), Value.int .i64 ((k : Nat) : Int)])] ∧ Kp d w u0) := by rw [hu0]; exact H0
  clear hu0 H0
  refine rest_set (d := 2) (v := .int .i64 0) (w' := u0) rfl rfl rfl (rfl) ?_
  simp only [Act.put, sa, sz, ss]
  refine rest_nil (then_normal ?_)
  refine wp_seq (wp_seq ?_)
  refine sq_start (l := [0, 1, 2]) rfl ?_
  refine rest_set (d := 5) (v := PT d 0) (w' := u0) rfl rfl rfl (rfl) ?_
  simp only [Act.put, sa, sz, ss]
  refine rest_enter (d := 6) (R := fun vv w' => vv = .bool true ∧ Below u0.heap.size u0 w') rfl rfl rfl (exec_call (args := #[PT d 0]) rfl call75 rfl (mpn rfl)) (Calls.mono (made_ok d mb rb ((k : Nat) : Int) u0 (H1.out.1.one 0 rfl)) (fun e w2 hh => ⟨_, hh.1, rfl, hh.2⟩)) ?_
  rintro _ w2 ⟨rfl, hb⟩
  have H2 : Hid (Mm w2 [(d, [Value.map (some mb), Value.map (some rb), Value.int .i64 ((k : Nat) : Int)])] ∧ Kp d w w2) := ⟨H1.out.1.below hb, H1.out.2.trans (hb)⟩
  clear hb
  clear H1
  simp only [Act.put, sa, sz, ss]
  refine rest_set (d := 7) (v := .bool false) (w' := w2) rfl rfl rfl (by go_simp) ?_
  simp only [Act.put, sa, sz, ss]
  refine rest_nil (then_normal ?_)
  refine wp_cond_false rfl (wp_skip ?_)
  refine then_normal (wp_seq ?_)
  refine sq_start (l := [0, 1, 2, 3, 4, 5, 6, 7]) rfl ?_
  refine rest_set (d := 8) (v := PT d 0) (w' := w2) rfl rfl rfl (rfl) ?_
  simp only [Act.put, sa, sz, ss]
  refine rest_set (d := 9) (v := PT d 0) (w' := w2) rfl rfl rfl (by go_simp) ?_
  simp only [Act.put, sa, sz, ss]
  refine rest_set (d := 10) (v := PT d 2) (w' := w2) rfl rfl rfl (by go_simp) ?_
  simp only [Act.put, sa, sz, ss]
  refine rest_set (d := 11) (v := .int .i64 ((k : Nat) : Int)) (w' := w2) rfl rfl rfl (ex_loadC H2.out.1 0 rfl rfl rfl Try.isAgg3 rfl) ?_
  simp only [Act.put, sa, sz, ss]
  refine rest_set (d := 12) (v := .int .i64 ((k + 1 : Nat) : Int)) (w' := w2) rfl rfl rfl (by go_simp; rw [IntKind.wrap_i64]; omega) ?_
  simp only [Act.put, sa, sz, ss]
  refine rest_set (d := 13) (v := PT d 0) (w' := w2) rfl rfl rfl (by go_simp) ?_
  simp only [Act.put, sa, sz, ss]
  refine rest_set (d := 14) (v := PT d 2) (w' := w2) rfl rfl rfl (by go_simp) ?_
  simp only [Act.put, sa, sz, ss]
  refine rest_store rfl rfl rfl (ex_st1 (v := .int .i64 ((k + 1 : Nat) : Int)) H2.out.1 0 rfl rfl Try.sizeOf3 rfl rfl (rfl) (Nat.le_of_ble_eq_true rfl)) ?_
  have H3 : Hid (Mm (w2.setCells d 2 [Value.int .i64 ((k + 1 : Nat) : Int)]) [(d, [Value.map (some mb), Value.map (some rb), Value.int .i64 ((k + 1 : Nat) : Int)])] ∧ Kp d w (w2.setCells d 2 [Value.int .i64 ((k + 1 : Nat) : Int)])) := ⟨H2.out.1.put 0 (off := 2) (vs := [Value.int .i64 ((k + 1 : Nat) : Int)]) rfl (Nat.le_of_ble_eq_true rfl), H2.out.2.put (Or.inl rfl)⟩
  clear H2
  generalize hgw : World.setCells _ _ _ _ = w3 at H3 ⊢
  clear hgw
  refine rest_nil (then_normal ?_)
  refine wp_seq (wp_seq ?_)
  refine walk_put (by kernel_rfl) 13 [11] [.quiet (PT d 0), .quiet (PT d 0), .quiet (PT d 1), .quiet (.map (some rb)), .quiet (PT d 0), .quiet (PT d 0), .quiet (PT d 2), .quiet (.int .i64 ((k + 1 : Nat) : Int)), .quiet (.tuple #[.agg (([] : List Value)).toArray, .bool true]), .quiet (.tuple #[.agg (([] : List Value)).toArray, .bool true]), .quiet (.agg (([] : List Value)).toArray), .quiet (.bool true), .made [] 100] (fun u' => Mm u' [(d, [Value.map (some mb), Value.map (some rb), Value.int .i64 ((k + 1 : Nat) : Int)])] ∧ Kp d w u') ?pre4 ?F4 _ ?hpre4 (fun γ => ?hF4) (by kernel_rfl) rfl trivial ?hS4 ?ho4 ?hla4 ?he4
  case hpre4 => simp only [tk, tz]; rfl
  case hF4 => simp only [fill, Kind.val, Act.put, sa, sz, ss]; rfl
  case hS4 => exact fun w' hb => ⟨H3.out.1.below hb, H3.out.2.trans (hb)⟩
  case ho4 =>
    refine ak (fun _ => ⟨rfl, fun _ _ => rfl⟩) ?_
    refine ak (by refine fun γ => ⟨rfl, fun w' h => ?_⟩; clear h; go_simp) ?_
    refine ak (by refine fun γ => ⟨rfl, fun w' h => ?_⟩; clear h; go_simp) ?_
    refine ak (fun γ => ⟨rfl, fun w' hX => have h := hX.1; ex_loadC h 0 rfl rfl rfl Try.isAgg40 rfl⟩) ?_
    refine ak (fun _ => ⟨rfl, fun _ _ => rfl⟩) ?_
    refine ak (by refine fun γ => ⟨rfl, fun w' h => ?_⟩; clear h; go_simp) ?_
    refine ak (by refine fun γ => ⟨rfl, fun w' h => ?_⟩; clear h; go_simp) ?_
    refine ak (fun γ => ⟨rfl, fun w' hX => have h := hX.1; ex_loadC h 0 rfl rfl rfl Try.isAgg3 rfl⟩) ?_
    refine ak (fun γ => ⟨rfl, fun w' hX => ex_lkp (hlk.out w' hX.2) rfl rfl rfl⟩) ?_
    refine ak (fun _ => ⟨rfl, fun _ _ => rfl⟩) ?_
    refine ak (by refine fun γ => ⟨rfl, fun w' h => ?_⟩; clear h; go_simp) ?_
    refine ak (by refine fun γ => ⟨rfl, fun w' h => ?_⟩; clear h; go_simp) ?_
    refine ak (fun γ => ⟨rfl, fun w' => ex_mk100 rfl⟩) ?_
    exact trivial
  case hla4 => exact ⟨⟨_, _, rfl, rfl, fun γ => ⟨rfl, fun w' => by go_simp⟩⟩, trivial⟩
  intro γ w4 l hM hl
  have H4 : Hid (Mm w4 [(γ 12, []), (d, [Value.map (some mb), Value.map (some rb), Value.int .i64 ((k + 1 : Nat) : Int)])] ∧ _) := growK H3 hM (Nat.le_refl _) hl [12] rfl (by decide)
  have o4_12 := ownK H3 hM (Nat.le_refl _) hl (i := 12) rfl
  clear hM hl l H3
  generalize γ 12 = γ4_12 at H4 o4_12 ⊢
  clear γ
  refine ⟨_, ex_storeT (vs := []) H4.out.1 0 rfl rfl rfl rfl Try.sizeOf100 rfl (Nat.le_of_ble_eq_true rfl), ?_⟩
  have H5 : Hid (Mm (w4.setCells γ4_12 0 []) [(γ4_12, []), (d, [Value.map (some mb), Value.map (some rb), Value.int .i64 ((k + 1 : Nat) : Int)])] ∧ Kp d w (w4.setCells γ4_12 0 [])) := ⟨H4.out.1, H4.out.2⟩
  clear H4
  generalize hgw : World.setCells _ _ _ _ = w5 at H5 ⊢
  clear hgw
  refine rest_at (l := [14]) rfl ?_
  refine rest_set (d := 4) (v := .bool true) (w' := w5) rfl rfl rfl (rfl) ?_
  simp only [Act.put, sa, sz, ss]
  refine rest_nil (then_normal (wp_seq ?_))
  refine sq_start (l := [0]) rfl ?_
  refine rest_set (d := 27) (v := .bool true) (w' := w5) rfl rfl rfl (rfl) ?_
  simp only [Act.put, sa, sz, ss]
  refine rest_nil (then_normal ?_)
  refine wp_cond_true rfl (wp_seq ?_)
  refine sq_start (l := [0]) rfl ?_
  refine rest_set (d := 2) (v := .int .i64 13) (w' := w5) rfl rfl rfl (rfl) ?_
  simp only [Act.put, sa, sz, ss]
  refine rest_nil (then_normal (wp_ret ?_))
  repeat (first | refine then_ret ?_ | refine block_ret ?_)
  refine bodyPost_ret (v := .int .i64 13) (by simp [results, Try.results66, go_sem, *]) rfl ?_
  exact ⟨rfl, H5.out.1.one 1 rfl, H5.out.2⟩
end Wi
end Rg
end Go.Proofs.Ytidicdlfjdlpnaa
end
