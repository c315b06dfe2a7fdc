/- Texts of the proof, joined. -/
import Derived.Test.YtidicdlfjdlpnaaP7
import Derived.ProofKit
import Derived.OpenShut
import Derived.ChangeSlices
import Derived.ChangeMaps5
import Derived.Test.YtidicdlfjdlpnaaRows
section
namespace Go.Proofs.Ytidicdlfjdlpnaa
open Go.RowKit
namespace Rg
namespace Wi
set_option maxRecDepth 100000
theorem ex_remI {ρ : Operand → Value} {o : Oper} {x y : Operand} {a : Int} {n : Nat} {w : World} (hn : 0 < n) (ho : o.op = .binOp .rem 3 x y 3) (hx : ρ x = .int .i64 a) (hy : ρ y = .int .i64 ((n : Nat) : Int)) : (execOp ρ o).run Try.prog w = .ok (.value (.int .i64 (a.tmod n))) w := by
  simp only [execOp, ho, hx, hy]
  clear ho hx hy
  go_simp
  omega
theorem cw_nil (w : World) : Cw w (.slice none 0 0) 0 (fun _ => 0) w := ⟨Below.refl _ _, World.ownsRow_nil _ _ _ _⟩
/-- A number below n that any number says. -/
def pkn (a : Int) (n : Nat) : Nat := if a.tmod n < 0 then (a.tmod n + n).toNat else (a.tmod n).toNat
theorem pkn_lt (a : Int) {n : Nat} (h : 0 < n) : pkn a n < n := by
  unfold pkn
  have h1 := Int.tmod_lt_of_pos a (show (0 : Int) < n by omega)
  have h2 := Int.lt_tmod_of_pos a (show (0 : Int) < n by omega)
  split <;> omega
set_option maxHeartbeats 2000000 in
set_option maxRecDepth 100000 in
theorem pick_neg (a : Int) (n : Nat) (hn : 0 < n) (hn2 : n < 4611686018427387904) (h0 : a.tmod n < 0) (h1 : -(n : Int) < a.tmod n) (w : World) :
    Calls Try.prog 31 #[.int .i64 a, .int .i64 ((n : Nat) : Int)] w fun e w' => e = .returned (.int .i64 (a.tmod n + n)) ∧ Below w.heap.size w w' := by
  have H0 : Hid (_ ∧ _) := ⟨Mm.nil w, Below.refl w.heap.size w⟩
  go_enter Try.func31, Try.ntmps31
  refine wp_seq ?_
  refine sq_startW (l := [0]) rfl (fun u0 hu0 => ?_)
  have H1 : Hid (Mm u0 [] ∧ Below w.heap.size w u0) := by rw [hu0]; exact H0
  clear hu0 H0
  refine rest_set (d := 4) (v := .int .i64 0) (w' := u0) rfl rfl rfl (rfl) ?_
  simp only [Act.put, sa, sz, ss]
  refine rest_nil (then_normal ?_)
  refine wp_seq (wp_seq ?_)
  refine sq_start (l := [0, 1]) rfl ?_
  refine rest_set (d := 5) (v := .int .i64 ((n : Nat) : Int)) (w' := u0) rfl rfl rfl (rfl) ?_
  simp only [Act.put, sa, sz, ss]
  refine rest_set (d := 6) (v := .bool false) (w' := u0) rfl rfl rfl (by go_simp <;> omega) ?_
  simp only [Act.put, sa, sz, ss]
  refine rest_nil (then_normal ?_)
  refine wp_cond_false rfl (wp_skip ?_)
  refine then_normal (wp_seq ?_)
  refine sq_start (l := [0, 1, 2, 3]) rfl ?_
  refine rest_set (d := 7) (v := .int .i64 a) (w' := u0) rfl rfl rfl (rfl) ?_
  simp only [Act.put, sa, sz, ss]
  refine rest_set (d := 8) (v := .int .i64 ((n : Nat) : Int)) (w' := u0) rfl rfl rfl (rfl) ?_
  simp only [Act.put, sa, sz, ss]
  refine rest_set (d := 9) (v := .int .i64 (a.tmod n)) (w' := u0) rfl rfl rfl (ex_remI hn rfl rfl rfl) ?_
  simp only [Act.put, sa, sz, ss]
  refine rest_set (d := 0) (v := .int .i64 (a.tmod n)) (w' := u0) rfl rfl rfl (rfl) ?_
  simp only [Act.put, List.setIfInBounds_toArray, List.set_cons_zero]
  refine rest_nil (then_normal ?_)
  refine wp_seq (wp_seq ?_)
  refine sq_start (l := [0, 1]) rfl ?_
  refine rest_set (d := 10) (v := .int .i64 (a.tmod n)) (w' := u0) rfl rfl rfl (rfl) ?_
  simp only [Act.put, sa, sz, ss]
  refine rest_set (d := 11) (v := .bool true) (w' := u0) rfl rfl rfl (by go_simp <;> omega) ?_
  simp only [Act.put, sa, sz, ss]
  refine rest_nil (then_normal (wp_cond_true rfl ?_))
  refine sq_start (l := [0, 1, 2, 3]) rfl ?_
  refine rest_set (d := 12) (v := .int .i64 (a.tmod n)) (w' := u0) rfl rfl rfl (rfl) ?_
  simp only [Act.put, sa, sz, ss]
  refine rest_set (d := 13) (v := .int .i64 ((n : Nat) : Int)) (w' := u0) rfl rfl rfl (rfl) ?_
  simp only [Act.put, sa, sz, ss]
  refine rest_set (d := 14) (v := .int .i64 (a.tmod n + n)) (w' := u0) rfl rfl rfl (by go_simp; rw [IntKind.wrap_i64]; omega) ?_
  simp only [Act.put, sa, sz, ss]
  refine rest_set (d := 0) (v := .int .i64 (a.tmod n + n)) (w' := u0) rfl rfl rfl (rfl) ?_
  simp only [Act.put, List.setIfInBounds_toArray, List.set_cons_zero]
  refine rest_nil (then_normal (wp_seq ?_))
  refine sq_start (l := [0, 1]) rfl ?_
  refine rest_set (d := 15) (v := .int .i64 (a.tmod n + n)) (w' := u0) rfl rfl rfl (rfl) ?_
  simp only [Act.put, sa, sz, ss]
  refine rest_set (d := 4) (v := .int .i64 (a.tmod n + n)) (w' := u0) rfl rfl rfl (rfl) ?_
  simp only [Act.put, sa, sz, ss]
  refine rest_nil (then_normal (wp_ret ?_))
  repeat (first | refine then_ret ?_ | refine block_ret ?_)
  refine bodyPost_ret (v := .int .i64 (a.tmod n + n)) (by simp [results, Try.results31, go_sem, *]) rfl ?_
  exact ⟨rfl, H1.out.2⟩
set_option maxHeartbeats 2000000 in
set_option maxRecDepth 100000 in
theorem pick_pos (a : Int) (n : Nat) (hn : 0 < n) (hn2 : n < 4611686018427387904) (h0 : ¬a.tmod n < 0) (w : World) :
    Calls Try.prog 31 #[.int .i64 a, .int .i64 ((n : Nat) : Int)] w fun e w' => e = .returned (.int .i64 (a.tmod n)) ∧ Below w.heap.size w w' := by
  have H0 : Hid (_ ∧ _) := ⟨Mm.nil w, Below.refl w.heap.size w⟩
  go_enter Try.func31, Try.ntmps31
  refine wp_seq ?_
  refine sq_startW (l := [0]) rfl (fun u0 hu0 => ?_)
  have H1 : Hid (Mm u0 [] ∧ Below w.heap.size w u0) := by rw [hu0]; exact H0
  clear hu0 H0
  refine rest_set (d := 4) (v := .int .i64 0) (w' := u0) rfl rfl rfl (rfl) ?_
  simp only [Act.put, sa, sz, ss]
  refine rest_nil (then_normal ?_)
  refine wp_seq (wp_seq ?_)
  refine sq_start (l := [0, 1]) rfl ?_
  refine rest_set (d := 5) (v := .int .i64 ((n : Nat) : Int)) (w' := u0) rfl rfl rfl (rfl) ?_
  simp only [Act.put, sa, sz, ss]
  refine rest_set (d := 6) (v := .bool false) (w' := u0) rfl rfl rfl (by go_simp <;> omega) ?_
  simp only [Act.put, sa, sz, ss]
  refine rest_nil (then_normal ?_)
  refine wp_cond_false rfl (wp_skip ?_)
  refine then_normal (wp_seq ?_)
  refine sq_start (l := [0, 1, 2, 3]) rfl ?_
  refine rest_set (d := 7) (v := .int .i64 a) (w' := u0) rfl rfl rfl (rfl) ?_
  simp only [Act.put, sa, sz, ss]
  refine rest_set (d := 8) (v := .int .i64 ((n : Nat) : Int)) (w' := u0) rfl rfl rfl (rfl) ?_
  simp only [Act.put, sa, sz, ss]
  refine rest_set (d := 9) (v := .int .i64 (a.tmod n)) (w' := u0) rfl rfl rfl (ex_remI hn rfl rfl rfl) ?_
  simp only [Act.put, sa, sz, ss]
  refine rest_set (d := 0) (v := .int .i64 (a.tmod n)) (w' := u0) rfl rfl rfl (rfl) ?_
  simp only [Act.put, List.setIfInBounds_toArray, List.set_cons_zero]
  refine rest_nil (then_normal ?_)
  refine wp_seq (wp_seq ?_)
  refine sq_start (l := [0, 1]) rfl ?_
  refine rest_set (d := 10) (v := .int .i64 (a.tmod n)) (w' := u0) rfl rfl rfl (rfl) ?_
  simp only [Act.put, sa, sz, ss]
  refine rest_set (d := 11) (v := .bool false) (w' := u0) rfl rfl rfl (by go_simp <;> omega) ?_
  simp only [Act.put, sa, sz, ss]
  refine rest_nil (then_normal ?_)
  refine wp_cond_false rfl (wp_skip ?_)
  refine then_normal (wp_seq ?_)
  refine sq_start (l := [0, 1]) rfl ?_
  refine rest_set (d := 15) (v := .int .i64 (a.tmod n)) (w' := u0) rfl rfl rfl (rfl) ?_
  simp only [Act.put, sa, sz, ss]
  refine rest_set (d := 4) (v := .int .i64 (a.tmod n)) (w' := u0) rfl rfl rfl (rfl) ?_
  simp only [Act.put, sa, sz, ss]
  refine rest_nil (then_normal (wp_ret ?_))
  repeat (first | refine then_ret ?_ | refine block_ret ?_)
  refine bodyPost_ret (v := .int .i64 (a.tmod n)) (by simp [results, Try.results31, go_sem, *]) rfl ?_
  exact ⟨rfl, H1.out.2⟩
theorem pick_any (a : Int) (n : Nat) (hn : 0 < n) (hn2 : n < 4611686018427387904) (w : World) : Calls Try.prog 31 #[.int .i64 a, .int .i64 ((n : Nat) : Int)] w fun e w' => e = .returned (.int .i64 ((pkn a n : Nat) : Int)) ∧ Below w.heap.size w w' := by
  have h2 := Int.lt_tmod_of_pos a (show (0 : Int) < n by omega)
  unfold pkn
  by_cases h : a.tmod n < 0
  · rw [if_pos h, Int.toNat_of_nonneg (by omega)]
    exact pick_neg a n hn hn2 h h2 w
  · rw [if_neg h, Int.toNat_of_nonneg (by omega)]
    exact pick_pos a n hn hn2 h w
set_option maxHeartbeats 4000000 in
set_option maxRecDepth 100000 in
theorem frames_any (m : Nat) (hm : m ≤ 30) (pl1 : Option Addr) (c1 g1 o1 : Nat) (P1 : Nat → Pt8) (hAm : lA P1 m ≤ 2097152) (w : World) (hl1z : Lv pl1 g1 o1 m P1 w) (h500z : ∀ i, i < m → (P1 i).n ≤ 500) :
    Calls Try.prog 51 #[.slice pl1 m c1] w fun e w' => ∃ v, e = .returned (.tuple #[v, .bool true]) ∧ Cw w v (lA P1 m) (lF P1 m) w' := by
  have H0 : Hid (_ ∧ _) := ⟨Mm.nil w, cw_nil w⟩
  have hl1 : Hid _ := hl1z
  have h500 : Hid _ := h500z
  clear hl1z h500z
  go_enter Try.func51, Try.ntmps51
  refine wp_seq ?_
  refine sq_startW (l := [0, 1]) rfl (fun u0 hu0 => ?_)
  have H1 : Hid (Mm u0 [] ∧ Cw w (.slice none 0 0) 0 (fun _ => 0) u0) := by rw [hu0]; exact H0
  clear hu0 H0
  refine rest_set (d := 2) (v := .slice none 0 0) (w' := u0) rfl rfl rfl (rfl) ?_
  simp only [Act.put, sa, sz, ss]
  refine rest_set (d := 3) (v := .bool false) (w' := u0) rfl rfl rfl (rfl) ?_
  simp only [Act.put, sa, sz, ss]
  refine rest_nil (then_normal (wp_seq ?_))
  refine sq_start (l := [0]) rfl ?_
  refine rest_set (d := 4) (v := .slice none 0 0) (w' := u0) rfl rfl rfl (rfl) ?_
  simp only [Act.put, sa, sz, ss]
  refine rest_nil (then_normal ?_)
  refine wp_seq (wp_seq ?_)
  refine sq_start (l := [0]) rfl ?_
  refine rest_set (d := 5) (v := .int .i64 0) (w' := u0) rfl rfl rfl (rfl) ?_
  simp only [Act.put, sa, sz, ss]
  refine rest_nil (then_normal (wp_block ?_))
  refine loop_ghost (α := Nat × Value) (fun x a' w' => ∃ s0 : Nat → Value, a' = ⟨#[.slice pl1 m c1, undef, s0 2, s0 3, x.2, .int .i64 ((x.1 : Nat) : Int), s0 6, s0 7, s0 8, s0 9, s0 10, s0 11, s0 12, s0 13, s0 14, s0 15, s0 16, s0 17, s0 18, s0 19, s0 20, s0 21, s0 22, s0 23, s0 24, s0 25, s0 26, undef], []⟩ ∧ (Mm w' [] ∧ Cw w x.2 (lA P1 x.1) (lF P1 x.1) w') ∧ x.1 ≤ m) (fun x => m - x.1) (0, .slice none 0 0) ?st0 ?rd0
  case st0 => exact ⟨(slotfn [undef, undef, .slice none 0 0, .bool false, undef, undef, undef, undef, undef, undef, undef, undef, undef, undef, undef, undef, undef, undef, undef, undef, undef, undef, undef, undef, undef, undef, undef]), rfl, ⟨H1.out.1, H1.out.2⟩, Nat.zero_le _⟩
  intro x a' w2 hI
  obtain ⟨s0, rfl, hMB, hk0⟩ := hI
  have H2 : Hid (_ ∧ _) := hMB
  clear hMB H1
  by_cases hltx : x.1 < m
  · have hrd : True := trivial
    clear hrd
    have hxn := h500.out x.1 hltx
    have hax := lA_mono P1 (show x.1 + 1 ≤ m by omega)
    have hae : lA P1 (x.1 + 1) = lA P1 x.1 + (8 + (P1 x.1).n + 4) := rfl
    refine wp_seq (wp_seq ?_)
    refine sq_start (l := [0, 1, 2, 3]) rfl ?_
    refine rest_set (d := 8) (v := .int .i64 ((x.1 : Nat) : Int)) (w' := w2) rfl rfl rfl (rfl) ?_
    simp only [Act.put, sa, sz, ss]
    refine rest_set (d := 9) (v := .slice pl1 m c1) (w' := w2) rfl rfl rfl (rfl) ?_
    simp only [Act.put, sa, sz, ss]
    refine rest_set (d := 10) (v := .int .i64 ((m : Nat) : Int)) (w' := w2) rfl rfl rfl (by go_simp) ?_
    simp only [Act.put, sa, sz, ss]
    refine rest_set (d := 11) (v := .bool true) (w' := w2) rfl rfl rfl (by go_simp <;> omega) ?_
    simp only [Act.put, sa, sz, ss]
    refine rest_nil (then_normal ?_)
    refine wp_cond_true rfl (wp_skip ?_)
    refine then_normal (wp_seq ?_)
    refine wp_block (wp_seq ?_)
    refine sq_start (l := [0, 1, 2, 3, 4, 5, 6, 7, 8, 9]) rfl ?_
    refine rest_set (d := 15) (v := .slice pl1 m c1) (w' := w2) rfl rfl rfl (rfl) ?_
    simp only [Act.put, sa, sz, ss]
    refine rest_set (d := 16) (v := .int .i64 ((x.1 : Nat) : Int)) (w' := w2) rfl rfl rfl (rfl) ?_
    simp only [Act.put, sa, sz, ss]
    refine rest_set (d := 17) (v := PT g1 (o1 + x.1)) (w' := w2) rfl rfl rfl (ex_ixL (hl1.out.p (by omega)) rfl rfl rfl (by omega)) ?_
    simp only [Act.put, sa, sz, ss]
    refine rest_set (d := 18) (v := .slice (P1 x.1).p (P1 x.1).n (P1 x.1).cp) (w' := w2) rfl rfl rfl (ex_ldL ((hl1.out.below H2.out.2.b).at_ x.1 (by omega)) rfl rfl) ?_
    simp only [Act.put, sa, sz, ss]
    refine rest_enter (d := 19) (R := fun vv w' => ∃ q3 : Pt8, vv = .tuple #[.slice q3.p q3.n q3.cp, .int .i64 0] ∧ Below w2.heap.size w2 w' ∧ Pok q3 ∧ (q3.p = none → q3.cp = 0) ∧ q3.rs w' ∧ q3.n = 8 + (P1 x.1).n + 4 ∧ q3.f = frm (P1 x.1).f (P1 x.1).n) rfl rfl rfl (exec_call (args := #[.slice (P1 x.1).p (P1 x.1).n (P1 x.1).cp]) rfl call33 rfl (mpn rfl)) (Calls.mono (Frame_ok (P1 x.1) (by omega) w2 ⟨(hl1.out.ok x.1 (by omega)).1, (hl1.out.ok x.1 (by omega)).2.2.below H2.out.2.b⟩ (hl1.out.ok x.1 (by omega)).2.1) (fun e w2 hh => by obtain ⟨v, he, hI⟩ := hh; obtain ⟨q3, t1, t2, t3, t4, t5, t6, _⟩ := hI.part; exact ⟨_, he, q3, by rw [t1], hI.b, t2, t3, t6, t4, t5⟩)) ?_
    rintro _ w3 ⟨q3, rfl, hb, hq⟩
    have hq3 : Hid _ := hq
    have H3 : Hid (Mm w3 [] ∧ Cw w x.2 (lA P1 x.1) (lF P1 x.1) w3) := ⟨Mm.nil _, Cw.step H2.out.2 hb⟩
    clear hb hq H2
    simp only [Act.put, sa, sz, ss]
    refine rest_set (d := 14) (v := .tuple #[.slice q3.p q3.n q3.cp, .int .i64 0]) (w' := w3) rfl rfl rfl (rfl) ?_
    simp only [Act.put, sa, sz, ss]
    refine rest_set (d := 20) (v := .slice q3.p q3.n q3.cp) (w' := w3) rfl rfl rfl (by go_simp) ?_
    simp only [Act.put, sa, sz, ss]
    refine rest_set (d := 21) (v := .int .i64 0) (w' := w3) rfl rfl rfl (by go_simp) ?_
    simp only [Act.put, sa, sz, ss]
    refine rest_set (d := 6) (v := .slice q3.p q3.n q3.cp) (w' := w3) rfl rfl rfl (rfl) ?_
    simp only [Act.put, sa, sz, ss]
    refine rest_set (d := 7) (v := .int .i64 0) (w' := w3) rfl rfl rfl (rfl) ?_
    simp only [Act.put, sa, sz, ss]
    refine rest_nil (then_normal ?_)
    refine wp_seq (wp_seq ?_)
    refine sq_start (l := [0, 1]) rfl ?_
    refine rest_set (d := 22) (v := .int .i64 0) (w' := w3) rfl rfl rfl (rfl) ?_
    simp only [Act.put, sa, sz, ss]
    refine rest_set (d := 23) (v := .bool false) (w' := w3) rfl rfl rfl (by kernel_rfl) ?_
    simp only [Act.put, sa, sz, ss]
    refine rest_nil (then_normal ?_)
    refine wp_cond_false rfl (wp_skip (then_normal ?_))
    refine sq_start (l := [0, 1, 2, 3]) rfl ?_
    refine rest_set (d := 24) (v := x.2) (w' := w3) rfl rfl rfl (rfl) ?_
    simp only [Act.put, sa, sz, ss]
    refine rest_set (d := 25) (v := .slice q3.p q3.n q3.cp) (w' := w3) rfl rfl rfl (rfl) ?_
    simp only [Act.put, sa, sz, ss]
    obtain ⟨vr, w4, hr, hO, hG, h5⟩ := own_appQ H3.out.2.own H3.out.2.size (q := q3) hq3.out.1 hq3.out.2.1 hq3.out.2.2.1 (by rw [hq3.out.2.2.2.1]; omega) 34
    refine rest_set (d := 26) (v := vr) (w' := w4) rfl rfl rfl (ex_app rfl rfl rfl hr) ?_
    simp only [Act.put, sa, sz, ss]
    rw [hq3.out.2.2.2.1, hq3.out.2.2.2.2] at hO
    have H4 : Hid (Mm w4 [] ∧ Cw w vr (lA P1 (x.1 + 1)) (lF P1 (x.1 + 1)) w4) := ⟨Mm.nil _, H3.out.2.on (Chg.grown hG) hO⟩
    clear hr hO hG h5 H3
    refine rest_set (d := 4) (v := vr) (w' := w4) rfl rfl rfl (rfl) ?_
    simp only [Act.put, sa, sz, ss]
    refine rest_nil (block_normal (then_normal ?_))
    refine sq_start (l := [0, 1, 2]) rfl ?_
    refine rest_set (d := 12) (v := .int .i64 ((x.1 : Nat) : Int)) (w' := w4) rfl rfl rfl (rfl) ?_
    simp only [Act.put, sa, sz, ss]
    refine rest_set (d := 13) (v := .int .i64 ((x.1 + 1 : Nat) : Int)) (w' := w4) rfl rfl rfl (by go_simp; rw [IntKind.wrap_i64]; omega) ?_
    simp only [Act.put, sa, sz, ss]
    refine rest_set (d := 5) (v := .int .i64 ((x.1 + 1 : Nat) : Int)) (w' := w4) rfl rfl rfl (rfl) ?_
    simp only [Act.put, sa, sz, ss]
    refine rest_nil (then_normal ?_)
    exact ⟨(x.1 + 1, vr), ⟨(slotfn [undef, undef, s0 2, s0 3, undef, undef, .slice q3.p q3.n q3.cp, .int .i64 0, .int .i64 ((x.1 : Nat) : Int), .slice pl1 m c1, .int .i64 ((m : Nat) : Int), .bool true, .int .i64 ((x.1 : Nat) : Int), .int .i64 ((x.1 + 1 : Nat) : Int), .tuple #[.slice q3.p q3.n q3.cp, .int .i64 0], .slice pl1 m c1, .int .i64 ((x.1 : Nat) : Int), PT g1 (o1 + x.1), .slice (P1 x.1).p (P1 x.1).n (P1 x.1).cp, .tuple #[.slice q3.p q3.n q3.cp, .int .i64 0], .slice q3.p q3.n q3.cp, .int .i64 0, .int .i64 0, .bool false, x.2, .slice q3.p q3.n q3.cp, vr]), rfl, ⟨H4.out.1, H4.out.2⟩, (show x.1 + 1 ≤ m by omega)⟩, (show m - (x.1 + 1) < m - x.1 by omega)⟩
  refine wp_seq (wp_seq ?_)
  refine sq_start (l := [0, 1, 2, 3]) rfl ?_
  refine rest_set (d := 8) (v := .int .i64 ((x.1 : Nat) : Int)) (w' := w2) rfl rfl rfl (rfl) ?_
  simp only [Act.put, sa, sz, ss]
  refine rest_set (d := 9) (v := .slice pl1 m c1) (w' := w2) rfl rfl rfl (rfl) ?_
  simp only [Act.put, sa, sz, ss]
  refine rest_set (d := 10) (v := .int .i64 ((m : Nat) : Int)) (w' := w2) rfl rfl rfl (by go_simp) ?_
  simp only [Act.put, sa, sz, ss]
  refine rest_set (d := 11) (v := .bool false) (w' := w2) rfl rfl rfl (by go_simp <;> omega) ?_
  simp only [Act.put, sa, sz, ss]
  refine rest_nil (then_normal (wp_cond_false rfl ?_))
  refine wp_exit ?_
  repeat refine then_exit ?_
  refine block_exit ?_
  have hxm : x.1 = m := by omega
  refine then_normal (wp_seq ?_)
  refine sq_start (l := [0, 1, 2]) rfl ?_
  refine rest_set (d := 27) (v := x.2) (w' := w2) rfl rfl rfl (rfl) ?_
  simp only [Act.put, sa, sz, ss]
  refine rest_set (d := 2) (v := x.2) (w' := w2) rfl rfl rfl (rfl) ?_
  simp only [Act.put, sa, sz, ss]
  refine rest_set (d := 3) (v := .bool true) (w' := w2) rfl rfl rfl (rfl) ?_
  simp only [Act.put, sa, sz, ss]
  refine rest_nil (then_normal (wp_ret ?_))
  repeat (first | refine then_ret ?_ | refine block_ret ?_)
  refine bodyPost_ret (v := .tuple #[x.2, .bool true]) (by simp [results, Try.results51, go_sem, *]) rfl ?_
  exact ⟨_, rfl, by rw [← hxm]; exact H2.out.2⟩
end Wi
end Rg
end Go.Proofs.Ytidicdlfjdlpnaa
end
section
namespace Go.Proofs.Ytidicdlfjdlpnaa
open Go.RowKit
namespace Rg
namespace Wi
theorem call10 : ∀ args w, (callFunc 10 args).run Try.prog w = .ok (.enter 10 args) w := by intro args w; go_simp
theorem call31 : ∀ args w, (callFunc 31 args).run Try.prog w = .ok (.enter 31 args) w := by intro args w; go_simp
theorem call39 : ∀ args w, (callFunc 39 args).run Try.prog w = .ok (.enter 39 args) w := by intro args w; go_simp
theorem call50 : ∀ args w, (callFunc 50 args).run Try.prog w = .ok (.enter 50 args) w := by intro args w; go_simp
theorem call51 : ∀ args w, (callFunc 51 args).run Try.prog w = .ok (.enter 51 args) w := by intro args w; go_simp
set_option maxRecDepth 100000
theorem Read_spoilt {w u : World} {v : Value} {n : Nat} {G : Nat → Nat} (h : Cw w v n G u) (hn : n ≤ 1048576) {P : Nat → Pt8} {m k : Nat} (hP : ∀ i, i < m → (P i).n ≤ 65536) (hb : ∀ i, i < m → ∀ j, j < (P i).n → (P i).f j < 256) (hk : k < lA P m) (hle : lA P m ≤ n) (hG : ∀ j, j < lA P m → j ≠ k → G j = lF P m j) (hx : G k ≠ lF P m k) (hx2 : G k < 256) : Calls Try.prog 35 #[v] u fun e u' => e = .returned (.tuple #[.slice none 0 0, .int .i64 0, .int .i64 14]) ∧ Below u.heap.size u u' := by
  obtain ⟨i, h1, h2, h3, h4⟩ := log_bad hP hb hk hG hx hx2
  rcases h4 with h4 | ⟨h4, h5⟩
  · exact Read_badh_cw h (lA P) (fun i => (P i).n) i hn (by omega) (h2 n hle) h4
  · exact Read_badb_cw h (lA P) (fun i => (P i).n) i hn (P i).n (by omega) (h2 n hle) h4 h5
theorem Read_again {w u : World} {v : Value} {P : Nat → Pt8} {m t : Nat} {G : Nat → Nat} (q : Pt8) (hq : q.n ≤ 65536) (ht : t < 8 + q.n + 4) (h : Cw w v (lA P m + t) G u) (hn : lA P m + t ≤ 1048576) (hP : ∀ i, i < m → (P i).n ≤ 65536) (hG : ∀ j, j < lA P m + t → G j = ct (lF P m) (lA P m) (frm q.f q.n) j) : Calls Try.prog 35 #[v] u fun e u' => ∃ v' R, e = .returned (.tuple #[v', .int .i64 ((lA P m : Nat) : Int), .int .i64 0]) ∧ (Below u.heap.size u u' ∧ Lq u.heap.size v' m R u') ∧ ∀ i, i < m → (R i).n = (P i).n ∧ ∀ j, j < (P i).n → (R i).f j = (P i).f j := by
  have hl : ∀ j, j < lA P m → G j = lF P m j := fun j hj => (hG j (by omega)).trans (ct_lo hj)
  refine (Read_fine_cw h (lA P) (fun i => (P i).n) m hn (log_good hl (by omega) hP) (log_torn q hq ht G hG)).mono fun e u' hh => ?_
  obtain ⟨v', R, e1, e2, e3⟩ := hh
  refine ⟨v', R, e1, e2, fun i hi => ⟨(e3 i hi).1, fun j hj => ?_⟩⟩
  have h1 : lA P (i + 1) ≤ lA P m := lA_mono P (by omega)
  have h2 : lA P (i + 1) = lA P i + (8 + (P i).n + 4) := rfl
  rw [(e3 i hi).2 j hj, hl _ (by omega), Nat.add_assoc, lF_at P hi (by omega), frm_rec hj]
section
variable {ρ : Operand → Value} {o : Oper} {x y : Operand} {g n c k s a : Nat} {P : Nat → Nat} {w u : World}
theorem ex_ldCw (h : Cw w (.slice (some ⟨g, 0, none⟩) n c) n P u) (hk : k < n) (ho : o.op = .load 5 x) (hx : ρ x = PT g k) : (execOp ρ o).run Try.prog u = .ok (.value (Z8 (P k))) u := by
  have c0 := h.own.cellAt k (by omega)
  rw [ints_get _ _ hk] at c0
  clear h
  simp only [execOp, ho, hx]
  clear ho hx
  go_simp
theorem ex_ixCw (hk : k < n) (ho : o.op = .indexAddr 34 x y) (hx : ρ x = .slice (some ⟨g, 0, none⟩) n c) (hy : ρ y = .int .i64 ((k : Nat) : Int)) : (execOp ρ o).run Try.prog u = .ok (.value (PT g k)) u := by
  have h := ex_ixP22 (g := g) (off := 0) (p := some ⟨g, 0, none⟩) (w := u) rfl ho hx hy hk
  rw [Nat.zero_add] at h
  exact h
theorem ex_quo8 (ho : o.op = .binOp .quo 3 x y 3) (hx : ρ x = .int .i64 ((a : Nat) : Int)) (hy : ρ y = .int .i64 8) (ha : a < 4611686018427387904) : (execOp ρ o).run Try.prog u = .ok (.value (.int .i64 ((a / 8 : Nat) : Int))) u := by
  simp only [execOp, ho, hx, hy]
  clear ho hx hy
  go_simp
  rw [IntKind.wrap_i64]
  omega
theorem ex_rem8 (ho : o.op = .binOp .rem 3 x y 3) (hx : ρ x = .int .i64 ((a : Nat) : Int)) (hy : ρ y = .int .i64 8) : (execOp ρ o).run Try.prog u = .ok (.value (.int .i64 ((a % 8 : Nat) : Int))) u := by
  simp only [execOp, ho, hx, hy]
  clear ho hx hy
  go_simp
  rw [Int.tmod_eq_emod_of_nonneg (by omega)]
theorem ex_shl8 {t : TypeId} (hs : s < 8) (ho : o.op = .binOp .shl 5 x y t) (hx : ρ x = .int .u8 1) (hy : ρ y = .int .i64 ((s : Nat) : Int)) : (execOp ρ o).run Try.prog u = .ok (.value (Z8 (2 ^ s % 256))) u := by
  simp only [execOp, ho, hx, hy]
  clear ho hx hy
  obtain rfl | rfl | rfl | rfl | rfl | rfl | rfl | rfl : s = 0 ∨ s = 1 ∨ s = 2 ∨ s = 3 ∨ s = 4 ∨ s = 5 ∨ s = 6 ∨ s = 7 := by omega
  all_goals kernel_rfl
end
theorem short_is (m : Nat) (hm : m ≤ 9223372036854775807) (pl1 : Option Addr) (c1 g1 o1 : Nat) (P1 : Nat → Pt8) (c : Bool) (h : shb P1 m = c) (w : World) (hl : Lv pl1 g1 o1 m P1 w) : Calls Try.prog 50 #[.slice pl1 m c1] w fun e w' => e = .returned (.bool c) ∧ Below w.heap.size w w' := by
  rw [← h]
  exact short_any m hm pl1 c1 g1 o1 P1 w hl
set_option maxHeartbeats 2000000 in
set_option maxRecDepth 100000 in
theorem back_long (m : Nat) (pl1 : Option Addr) (c1 g1 o1 : Nat) (P1 : Nat → Pt8) (hm : m ≤ 9223372036854775807) (q : Pt8) (a d : Int) (hsh : shb P1 m = false) (w : World) (hl1z : Lv pl1 g1 o1 m P1 w) :
    Calls Try.prog 11 #[.slice pl1 m c1, .slice q.p q.n q.cp, .int .i64 a, .int .i64 d] w fun e w' => e = .returned (.bool true) ∧ Below w.heap.size w w' := by
  have H0 : Hid (_ ∧ _) := ⟨Mm.nil w, Below.refl w.heap.size w⟩
  have hl1 : Hid _ := hl1z
  clear hl1z
  go_enter Try.func11, Try.ntmps11
  refine wp_seq ?_
  refine sq_startW (l := [0]) rfl (fun u0 hu0 => ?_)
  have H1 : Hid (Mm u0 [] ∧ Below w.heap.size w u0) := by rw [hu0]; exact H0
  clear hu0 H0
  refine rest_set (d := 8) (v := .bool false) (w' := u0) rfl rfl rfl (rfl) ?_
  simp only [Act.put, sa, sz, ss]
  refine rest_nil (then_normal (wp_seq ?_))
  refine sq_start (l := [0, 1]) rfl ?_
  refine rest_enter (d := 21) (R := fun vv w' => vv = .bool true ∧ Below u0.heap.size u0 w') rfl rfl rfl (exec_call (args := #[]) rfl call10 rfl (mpn rfl)) (Calls.mono (known_any u0) (fun e w2 hh => ⟨_, hh.1, rfl, hh.2⟩)) ?_
  rintro _ w2 ⟨rfl, hb⟩
  have H2 : Hid (Mm w2 [] ∧ Below w.heap.size w w2) := ⟨H1.out.1.below hb, H1.out.2.trans (hb.mono H1.out.2.size)⟩
  clear hb
  clear H1
  simp only [Act.put, sa, sz, ss]
  refine rest_set (d := 9) (v := .bool true) (w' := w2) rfl rfl rfl (rfl) ?_
  simp only [Act.put, sa, sz, ss]
  refine rest_nil (then_normal ?_)
  refine wp_seq (wp_seq ?_)
  refine sq_start (l := [0, 1, 2, 3, 4, 5, 6, 7]) rfl ?_
  refine rest_set (d := 22) (v := .slice pl1 m c1) (w' := w2) rfl rfl rfl (rfl) ?_
  simp only [Act.put, sa, sz, ss]
  refine rest_enter (d := 23) (R := fun vv w' => vv = .bool false ∧ Below w2.heap.size w2 w') rfl rfl rfl (exec_call (args := #[.slice pl1 m c1]) rfl call50 rfl (mpn rfl)) (Calls.mono (short_is m hm pl1 c1 g1 o1 P1 false hsh w2 (hl1.out.below H2.out.2)) (fun e w2 hh => ⟨_, hh.1, rfl, hh.2⟩)) ?_
  rintro _ w3 ⟨rfl, hb⟩
  have H3 : Hid (Mm w3 [] ∧ Below w.heap.size w w3) := ⟨H2.out.1.below hb, H2.out.2.trans (hb.mono H2.out.2.size)⟩
  clear hb
  clear H2
  simp only [Act.put, sa, sz, ss]
  refine rest_set (d := 24) (v := .bool true) (w' := w3) rfl rfl rfl (by go_simp) ?_
  simp only [Act.put, sa, sz, ss]
  refine rest_set (d := 25) (v := .bool true) (w' := w3) rfl rfl rfl (rfl) ?_
  simp only [Act.put, sa, sz, ss]
  refine rest_gone1 (d := 26) rfl rfl rfl ?_
  simp only [Act.put, sa, sz, ss]
  refine rest_gone1 (d := 27) rfl rfl rfl ?_
  simp only [Act.put, sa, sz, ss]
  refine rest_gone1 (d := 28) rfl rfl rfl ?_
  simp only [Act.put, sa, sz, ss]
  refine rest_set (d := 29) (v := .bool true) (w' := w3) rfl rfl rfl (by go_simp) ?_
  simp only [Act.put, sa, sz, ss]
  refine rest_nil (then_normal ?_)
  refine wp_cond_true rfl (wp_seq ?_)
  refine sq_start (l := [0, 1]) rfl ?_
  refine rest_set (d := 30) (v := .bool true) (w' := w3) rfl rfl rfl (rfl) ?_
  simp only [Act.put, sa, sz, ss]
  refine rest_set (d := 8) (v := .bool true) (w' := w3) rfl rfl rfl (rfl) ?_
  simp only [Act.put, sa, sz, ss]
  refine rest_nil (then_normal (wp_ret ?_))
  repeat (first | refine then_ret ?_ | refine block_ret ?_)
  refine bodyPost_ret (v := .bool true) (by simp [results, Try.results11, go_sem, *]) rfl ?_
  exact ⟨rfl, H3.out.2⟩
set_option maxHeartbeats 2000000 in
set_option maxRecDepth 100000 in
theorem back_more (m : Nat) (pl1 : Option Addr) (c1 g1 o1 : Nat) (P1 : Nat → Pt8) (hm : m ≤ 9223372036854775807) (q : Pt8) (a d : Int) (hsh : shb P1 m = true) (hmo : 500 < q.n) (w : World) (hl1z : Lv pl1 g1 o1 m P1 w) :
    Calls Try.prog 11 #[.slice pl1 m c1, .slice q.p q.n q.cp, .int .i64 a, .int .i64 d] w fun e w' => e = .returned (.bool true) ∧ Below w.heap.size w w' := by
  have H0 : Hid (_ ∧ _) := ⟨Mm.nil w, Below.refl w.heap.size w⟩
  have hl1 : Hid _ := hl1z
  clear hl1z
  go_enter Try.func11, Try.ntmps11
  refine wp_seq ?_
  refine sq_startW (l := [0]) rfl (fun u0 hu0 => ?_)
  have H1 : Hid (Mm u0 [] ∧ Below w.heap.size w u0) := by rw [hu0]; exact H0
  clear hu0 H0
  refine rest_set (d := 8) (v := .bool false) (w' := u0) rfl rfl rfl (rfl) ?_
  simp only [Act.put, sa, sz, ss]
  refine rest_nil (then_normal (wp_seq ?_))
  refine sq_start (l := [0, 1]) rfl ?_
  refine rest_enter (d := 21) (R := fun vv w' => vv = .bool true ∧ Below u0.heap.size u0 w') rfl rfl rfl (exec_call (args := #[]) rfl call10 rfl (mpn rfl)) (Calls.mono (known_any u0) (fun e w2 hh => ⟨_, hh.1, rfl, hh.2⟩)) ?_
  rintro _ w2 ⟨rfl, hb⟩
  have H2 : Hid (Mm w2 [] ∧ Below w.heap.size w w2) := ⟨H1.out.1.below hb, H1.out.2.trans (hb.mono H1.out.2.size)⟩
  clear hb
  clear H1
  simp only [Act.put, sa, sz, ss]
  refine rest_set (d := 9) (v := .bool true) (w' := w2) rfl rfl rfl (rfl) ?_
  simp only [Act.put, sa, sz, ss]
  refine rest_nil (then_normal ?_)
  refine wp_seq (wp_seq ?_)
  refine sq_start (l := [0, 1, 2, 3, 4, 5, 6, 7]) rfl ?_
  refine rest_set (d := 22) (v := .slice pl1 m c1) (w' := w2) rfl rfl rfl (rfl) ?_
  simp only [Act.put, sa, sz, ss]
  refine rest_enter (d := 23) (R := fun vv w' => vv = .bool true ∧ Below w2.heap.size w2 w') rfl rfl rfl (exec_call (args := #[.slice pl1 m c1]) rfl call50 rfl (mpn rfl)) (Calls.mono (short_is m hm pl1 c1 g1 o1 P1 true hsh w2 (hl1.out.below H2.out.2)) (fun e w2 hh => ⟨_, hh.1, rfl, hh.2⟩)) ?_
  rintro _ w3 ⟨rfl, hb⟩
  have H3 : Hid (Mm w3 [] ∧ Below w.heap.size w w3) := ⟨H2.out.1.below hb, H2.out.2.trans (hb.mono H2.out.2.size)⟩
  clear hb
  clear H2
  simp only [Act.put, sa, sz, ss]
  refine rest_set (d := 24) (v := .bool false) (w' := w3) rfl rfl rfl (by go_simp) ?_
  simp only [Act.put, sa, sz, ss]
  refine rest_set (d := 25) (v := .bool false) (w' := w3) rfl rfl rfl (rfl) ?_
  simp only [Act.put, sa, sz, ss]
  refine rest_set (d := 26) (v := .slice q.p q.n q.cp) (w' := w3) rfl rfl rfl (rfl) ?_
  simp only [Act.put, sa, sz, ss]
  refine rest_set (d := 27) (v := .int .i64 ((q.n : Nat) : Int)) (w' := w3) rfl rfl rfl (by go_simp) ?_
  simp only [Act.put, sa, sz, ss]
  refine rest_set (d := 28) (v := .bool true) (w' := w3) rfl rfl rfl (by go_simp <;> omega) ?_
  simp only [Act.put, sa, sz, ss]
  refine rest_set (d := 29) (v := .bool true) (w' := w3) rfl rfl rfl (by go_simp) ?_
  simp only [Act.put, sa, sz, ss]
  refine rest_nil (then_normal ?_)
  refine wp_cond_true rfl (wp_seq ?_)
  refine sq_start (l := [0, 1]) rfl ?_
  refine rest_set (d := 30) (v := .bool true) (w' := w3) rfl rfl rfl (rfl) ?_
  simp only [Act.put, sa, sz, ss]
  refine rest_set (d := 8) (v := .bool true) (w' := w3) rfl rfl rfl (rfl) ?_
  simp only [Act.put, sa, sz, ss]
  refine rest_nil (then_normal (wp_ret ?_))
  repeat (first | refine then_ret ?_ | refine block_ret ?_)
  refine bodyPost_ret (v := .bool true) (by simp [results, Try.results11, go_sem, *]) rfl ?_
  exact ⟨rfl, H3.out.2⟩
set_option maxHeartbeats 8000000 in
set_option maxRecDepth 100000 in
theorem back_none (m : Nat) (pl1 : Option Addr) (c1 g1 o1 : Nat) (P1 : Nat → Pt8) (hm : m ≤ 9223372036854775807) (q : Pt8) (a d : Int) (hm30 : m ≤ 30) (hsh : shb P1 m = true) (hmo : q.n ≤ 500) (hl0 : lA P1 m = 0) (w : World) (hl1z : Lv pl1 g1 o1 m P1 w) (hq0 : Pok q ∧ q.rs w) (hqn0 : q.p = none → q.cp = 0) (h500z : ∀ i, i < m → (P1 i).n ≤ 500) (hb1z : ∀ i, i < m → ∀ j, j < (P1 i).n → (P1 i).f j < 256) :
    Calls Try.prog 11 #[.slice pl1 m c1, .slice q.p q.n q.cp, .int .i64 a, .int .i64 d] w fun e w' => e = .returned (.bool true) ∧ Below w.heap.size w w' := by
  have H0 : Hid (_ ∧ _) := ⟨Mm.nil w, Below.refl w.heap.size w⟩
  have hl1 : Hid _ := hl1z
  have hq : Hid _ := hq0
  clear hl1z hq0
  have hqn : Hid _ := hqn0
  clear hqn0
  have h500 : Hid _ := h500z
  have hb1 : Hid _ := hb1z
  clear h500z hb1z
  go_enter Try.func11, Try.ntmps11
  refine wp_seq ?_
  refine sq_startW (l := [0]) rfl (fun u0 hu0 => ?_)
  have H1 : Hid (Mm u0 [] ∧ Below w.heap.size w u0) := by rw [hu0]; exact H0
  clear hu0 H0
  refine rest_set (d := 8) (v := .bool false) (w' := u0) rfl rfl rfl (rfl) ?_
  simp only [Act.put, sa, sz, ss]
  refine rest_nil (then_normal (wp_seq ?_))
  refine sq_start (l := [0, 1]) rfl ?_
  refine rest_enter (d := 21) (R := fun vv w' => vv = .bool true ∧ Below u0.heap.size u0 w') rfl rfl rfl (exec_call (args := #[]) rfl call10 rfl (mpn rfl)) (Calls.mono (known_any u0) (fun e w2 hh => ⟨_, hh.1, rfl, hh.2⟩)) ?_
  rintro _ w2 ⟨rfl, hb⟩
  have H2 : Hid (Mm w2 [] ∧ Below w.heap.size w w2) := ⟨H1.out.1.below hb, H1.out.2.trans (hb.mono H1.out.2.size)⟩
  clear hb
  clear H1
  simp only [Act.put, sa, sz, ss]
  refine rest_set (d := 9) (v := .bool true) (w' := w2) rfl rfl rfl (rfl) ?_
  simp only [Act.put, sa, sz, ss]
  refine rest_nil (then_normal ?_)
  refine wp_seq (wp_seq ?_)
  refine sq_start (l := [0, 1, 2, 3, 4, 5, 6, 7]) rfl ?_
  refine rest_set (d := 22) (v := .slice pl1 m c1) (w' := w2) rfl rfl rfl (rfl) ?_
  simp only [Act.put, sa, sz, ss]
  refine rest_enter (d := 23) (R := fun vv w' => vv = .bool true ∧ Below w2.heap.size w2 w') rfl rfl rfl (exec_call (args := #[.slice pl1 m c1]) rfl call50 rfl (mpn rfl)) (Calls.mono (short_is m hm pl1 c1 g1 o1 P1 true hsh w2 (hl1.out.below H2.out.2)) (fun e w2 hh => ⟨_, hh.1, rfl, hh.2⟩)) ?_
  rintro _ w3 ⟨rfl, hb⟩
  have H3 : Hid (Mm w3 [] ∧ Below w.heap.size w w3) := ⟨H2.out.1.below hb, H2.out.2.trans (hb.mono H2.out.2.size)⟩
  clear hb
  clear H2
  simp only [Act.put, sa, sz, ss]
  refine rest_set (d := 24) (v := .bool false) (w' := w3) rfl rfl rfl (by go_simp) ?_
  simp only [Act.put, sa, sz, ss]
  refine rest_set (d := 25) (v := .bool false) (w' := w3) rfl rfl rfl (rfl) ?_
  simp only [Act.put, sa, sz, ss]
  refine rest_set (d := 26) (v := .slice q.p q.n q.cp) (w' := w3) rfl rfl rfl (rfl) ?_
  simp only [Act.put, sa, sz, ss]
  refine rest_set (d := 27) (v := .int .i64 ((q.n : Nat) : Int)) (w' := w3) rfl rfl rfl (by go_simp) ?_
  simp only [Act.put, sa, sz, ss]
  refine rest_set (d := 28) (v := .bool false) (w' := w3) rfl rfl rfl (by go_simp <;> omega) ?_
  simp only [Act.put, sa, sz, ss]
  refine rest_set (d := 29) (v := .bool false) (w' := w3) rfl rfl rfl (by go_simp) ?_
  simp only [Act.put, sa, sz, ss]
  refine rest_nil (then_normal ?_)
  refine wp_cond_false rfl (wp_skip ?_)
  refine then_normal (wp_seq ?_)
  refine sq_start (l := [0, 1, 2, 3, 4, 5, 6]) rfl ?_
  refine rest_set (d := 32) (v := .slice pl1 m c1) (w' := w3) rfl rfl rfl (rfl) ?_
  simp only [Act.put, sa, sz, ss]
  refine rest_enter (d := 33) (R := fun vv w' => ∃ qb : Pt8, vv = .tuple #[.slice qb.p qb.n qb.cp, .bool true] ∧ Pw w (lA P1 m) (lF P1 m) qb w') rfl rfl rfl (exec_call (args := #[.slice pl1 m c1]) rfl call51 rfl (mpn rfl)) (Calls.mono (frames_any m hm30 pl1 c1 g1 o1 P1 (by omega) w3 (hl1.out.below H3.out.2) h500.out) (fun e w2 hh => by obtain ⟨v, he, hI⟩ := hh; obtain ⟨r, t1, t2, t3, t4, t5, t6, t7⟩ := (Cw.up H3.out.2 hI).part; exact ⟨_, he, r, by rw [t1], below_on _ _ H3.out.2 hI.b, t2, t3, t6, t4, t5, t7⟩)) ?_
  rintro _ w4 ⟨qb, rfl, hI⟩
  have hbn : Hid _ := hI.n
  have hbf : Hid _ := hI.f
  have hbo : Hid (Pok qb ∧ (qb.p = none → qb.cp = 0)) := ⟨hI.ok, hI.no⟩
  have H4 : Hid (Mm w4 [] ∧ Pw w (lA P1 m) (lF P1 m) qb w4) := ⟨Mm.nil _, hI⟩
  clear hI H3
  simp only [Act.put, sa, sz, ss]
  refine rest_set (d := 31) (v := .tuple #[.slice qb.p qb.n qb.cp, .bool true]) (w' := w4) rfl rfl rfl (rfl) ?_
  simp only [Act.put, sa, sz, ss]
  refine rest_set (d := 34) (v := .slice qb.p qb.n qb.cp) (w' := w4) rfl rfl rfl (by go_simp) ?_
  simp only [Act.put, sa, sz, ss]
  refine rest_set (d := 35) (v := .bool true) (w' := w4) rfl rfl rfl (by go_simp) ?_
  simp only [Act.put, sa, sz, ss]
  refine rest_set (d := 10) (v := .slice qb.p qb.n qb.cp) (w' := w4) rfl rfl rfl (rfl) ?_
  simp only [Act.put, sa, sz, ss]
  refine rest_set (d := 11) (v := .bool true) (w' := w4) rfl rfl rfl (rfl) ?_
  simp only [Act.put, sa, sz, ss]
  refine rest_nil (then_normal (wp_seq ?_))
  refine sq_start (l := [0, 1, 2, 3, 4, 5, 6]) rfl ?_
  refine rest_set (d := 37) (v := .slice q.p q.n q.cp) (w' := w4) rfl rfl rfl (rfl) ?_
  simp only [Act.put, sa, sz, ss]
  refine rest_enter (d := 38) (R := fun vv w' => ∃ qf : Pt8, vv = .tuple #[.slice qf.p qf.n qf.cp, .int .i64 0] ∧ Pw w4 (8 + q.n + 4) (frm q.f q.n) qf w') rfl rfl rfl (exec_call (args := #[.slice q.p q.n q.cp]) rfl call33 rfl (mpn rfl)) (Calls.mono (Frame_ok q (by omega) w4 ⟨hq.out.1, hq.out.2.below H4.out.2.b⟩ hqn.out) (fun e w2 hh => by obtain ⟨v, he, hI⟩ := hh; obtain ⟨r, t1, t2, t3, t4, t5, t6, t7⟩ := hI.part; exact ⟨_, he, r, by rw [t1], hI.b, t2, t3, t6, t4, t5, t7⟩)) ?_
  rintro _ w5 ⟨qf, rfl, hI⟩
  have hfn : Hid (qf.n = 8 + q.n + 4) := hI.n
  have hff : Hid _ := hI.f
  have hfo : Hid (Pok qf ∧ (qf.p = none → qf.cp = 0)) := ⟨hI.ok, hI.no⟩
  have hpt : Hid ((pkn a qf.n) < 8 + q.n + 4) := by have := pkn_lt a (n := qf.n) (by rw [hfn.out]; omega); rw [hfn.out] at this ⊢; exact this
  have H5 : Hid (Mm w5 [] ∧ Pw w (lA P1 m) (lF P1 m) qb w5 ∧ Pw w (8 + q.n + 4) (frm q.f q.n) qf w5) := ⟨Mm.nil _, Pw.step H4.out.2 hI.b, hI.up H4.out.2.b⟩
  clear hI H4
  simp only [Act.put, sa, sz, ss]
  refine rest_set (d := 36) (v := .tuple #[.slice qf.p qf.n qf.cp, .int .i64 0]) (w' := w5) rfl rfl rfl (rfl) ?_
  simp only [Act.put, sa, sz, ss]
  refine rest_set (d := 39) (v := .slice qf.p qf.n qf.cp) (w' := w5) rfl rfl rfl (by go_simp) ?_
  simp only [Act.put, sa, sz, ss]
  refine rest_set (d := 40) (v := .int .i64 0) (w' := w5) rfl rfl rfl (by go_simp) ?_
  simp only [Act.put, sa, sz, ss]
  refine rest_set (d := 12) (v := .slice qf.p qf.n qf.cp) (w' := w5) rfl rfl rfl (rfl) ?_
  simp only [Act.put, sa, sz, ss]
  refine rest_set (d := 13) (v := .int .i64 0) (w' := w5) rfl rfl rfl (rfl) ?_
  simp only [Act.put, sa, sz, ss]
  refine rest_nil (then_normal ?_)
  refine wp_seq (wp_seq ?_)
  refine sq_start (l := [0, 1, 2, 3, 4, 5, 6, 7, 8, 9, 10, 11, 12, 13]) rfl ?_
  refine rest_set (d := 41) (v := .bool true) (w' := w5) rfl rfl rfl (rfl) ?_
  simp only [Act.put, sa, sz, ss]
  refine rest_set (d := 42) (v := .bool false) (w' := w5) rfl rfl rfl (by go_simp) ?_
  simp only [Act.put, sa, sz, ss]
  refine rest_set (d := 43) (v := .bool false) (w' := w5) rfl rfl rfl (rfl) ?_
  simp only [Act.put, sa, sz, ss]
  refine rest_set (d := 44) (v := .int .i64 0) (w' := w5) rfl rfl rfl (rfl) ?_
  simp only [Act.put, sa, sz, ss]
  refine rest_set (d := 45) (v := .bool false) (w' := w5) rfl rfl rfl (by kernel_rfl) ?_
  simp only [Act.put, sa, sz, ss]
  refine rest_set (d := 46) (v := .bool false) (w' := w5) rfl rfl rfl (by go_simp) ?_
  simp only [Act.put, sa, sz, ss]
  refine rest_set (d := 47) (v := .bool false) (w' := w5) rfl rfl rfl (rfl) ?_
  simp only [Act.put, sa, sz, ss]
  refine rest_set (d := 48) (v := .slice qf.p qf.n qf.cp) (w' := w5) rfl rfl rfl (rfl) ?_
  simp only [Act.put, sa, sz, ss]
  refine rest_set (d := 49) (v := .int .i64 ((qf.n : Nat) : Int)) (w' := w5) rfl rfl rfl (by go_simp) ?_
  simp only [Act.put, sa, sz, ss]
  refine rest_set (d := 50) (v := .slice q.p q.n q.cp) (w' := w5) rfl rfl rfl (rfl) ?_
  simp only [Act.put, sa, sz, ss]
  refine rest_set (d := 51) (v := .int .i64 ((q.n : Nat) : Int)) (w' := w5) rfl rfl rfl (by go_simp) ?_
  simp only [Act.put, sa, sz, ss]
  refine rest_set (d := 52) (v := .int .i64 ((q.n + 12 : Nat) : Int)) (w' := w5) rfl rfl rfl (by go_simp; rw [IntKind.wrap_i64]; omega) ?_
  simp only [Act.put, sa, sz, ss]
  refine rest_set (d := 53) (v := .bool false) (w' := w5) rfl rfl rfl (by go_simp <;> (have h1 := hbn.out; have h2 := hfn.out; omega)) ?_
  simp only [Act.put, sa, sz, ss]
  refine rest_set (d := 54) (v := .bool false) (w' := w5) rfl rfl rfl (by go_simp) ?_
  simp only [Act.put, sa, sz, ss]
  refine rest_nil (then_normal ?_)
  refine wp_cond_false rfl (wp_skip ?_)
  refine then_normal (wp_seq ?_)
  refine sq_start (l := [0, 1, 2, 3, 4]) rfl ?_
  refine rest_set (d := 55) (v := .int .i64 a) (w' := w5) rfl rfl rfl (rfl) ?_
  simp only [Act.put, sa, sz, ss]
  refine rest_set (d := 56) (v := .slice qf.p qf.n qf.cp) (w' := w5) rfl rfl rfl (rfl) ?_
  simp only [Act.put, sa, sz, ss]
  refine rest_set (d := 57) (v := .int .i64 ((qf.n : Nat) : Int)) (w' := w5) rfl rfl rfl (by go_simp) ?_
  simp only [Act.put, sa, sz, ss]
  refine rest_enter (d := 58) (R := fun vv w' => vv = .int .i64 ((pkn a qf.n : Nat) : Int) ∧ Below w5.heap.size w5 w') rfl rfl rfl (exec_call (args := #[.int .i64 a, .int .i64 ((qf.n : Nat) : Int)]) rfl call31 rfl (mpn rfl)) (Calls.mono (pick_any a qf.n (by rw [hfn.out]; omega) (by rw [hfn.out]; omega) w5) (fun e w2 hh => ⟨_, hh.1, rfl, hh.2⟩)) ?_
  rintro _ w6 ⟨rfl, hb⟩
  have H6 : Hid (Mm w6 [] ∧ Pw w (lA P1 m) (lF P1 m) qb w6 ∧ Pw w (8 + q.n + 4) (frm q.f q.n) qf w6) := ⟨H5.out.1.below hb, ⟨Pw.step H5.out.2.1 (hb), Pw.step H5.out.2.2 (hb)⟩⟩
  clear hb
  clear H5
  simp only [Act.put, sa, sz, ss]
  refine rest_set (d := 2) (v := .int .i64 ((pkn a qf.n : Nat) : Int)) (w' := w6) rfl rfl rfl (rfl) ?_
  simp only [Act.put, sa, sz, ss]
  refine rest_nil (then_normal (wp_seq ?_))
  refine walk_free2 (b := ?fz8) (by kernel_rfl) [0, 2, 3, 4] [1, 5, 6, 7] [8, 9, 10] [11, 12, 13] [(60, .slice qb.p qb.n qb.cp), (62, .slice qf.p qf.n qf.cp), (63, .int .i64 ((pkn a qf.n : Nat) : Int)), (64, .slice (qf.tk (pkn a qf.n)).p (qf.tk (pkn a qf.n)).n (qf.tk (pkn a qf.n)).cp)] (fun _ => True) ?fb8 (by kernel_rfl) ?fok8 trivial ?fch8
  case fb8 =>
    simp only [fillv, Act.put, List.setIfInBounds_toArray, List.set_cons_zero, List.set_cons_succ]
    exact rfl
  case fok8 => exact ⟨⟨_, rfl, rfl, rfl, fun w' _ => rfl⟩, ⟨_, rfl, rfl, rfl, fun w' _ => rfl⟩, ⟨_, rfl, rfl, rfl, fun w' _ => rfl⟩, ⟨_, rfl, rfl, rfl, fun w' _ => ex_tkQ (q := qf) (k := (pkn a qf.n)) (by have h1 := hfo.out.1.le; have h2 := hfn.out; have h3 := hpt.out; omega) rfl rfl rfl⟩, trivial⟩
  have H7 : Hid (Mm w6.drew [] ∧ Pw w (lA P1 m) (lF P1 m) qb w6.drew ∧ Pw w (8 + q.n + 4) (frm q.f q.n) qf w6.drew) := ⟨H6.out.1.drew, ⟨Pw.step H6.out.2.1 ((Below.refl _ _).drew), Pw.step H6.out.2.2 ((Below.refl _ _).drew)⟩⟩
  clear H6
  generalize w6.drew = w7 at H7 ⊢
  refine ch_enter (d := 61) (R := fun vv w' => Cw w7 vv (lA P1 m) (lF P1 m) w') rfl rfl trivial (exec_call (args := #[.slice qb.p qb.n qb.cp]) rfl call49 rfl (mpn rfl)) (Calls.mono (copy_q qb (by rw [hbn.out]; omega) w7 ⟨hbo.out.1, H7.out.2.1.rs⟩ hbo.out.2) (fun e w2 hh => by obtain ⟨v, he, hI⟩ := hh; exact ⟨_, he, by rw [hbn.out, hbf.out] at hI; exact hI⟩)) (fun _ _ _ => trivial) ?_
  rintro vc0 w8 hI
  have hB0 : Hid (Pw w (lA P1 m) (lF P1 m) qb w7 ∧ Pw w (8 + q.n + 4) (frm q.f q.n) qf w7) := H7.out.2
  have H8 : Hid (Mm w8 [] ∧ Cw w7 (vc0) (lA P1 m) (lF P1 m) w8) := ⟨Mm.nil _, hI⟩
  clear hI H7
  simp only [Act.put, sa, sz, ss]
  obtain ⟨vr1, w9, hr, hO, hG, h5⟩ := own_appQ H8.out.2.own H8.out.2.size (q := qf.tk (pkn a qf.n)) (hfo.out.1.tk (by have h1 := hfn.out; have h2 := hpt.out; omega)) (Pt8.tk_no hfo.out.2 _) (Pt8.rs_tk (hB0.out.2.rs.below H8.out.2.b) (by have h1 := hfn.out; have h2 := hpt.out; omega)) (show lA P1 m + (pkn a qf.n) ≤ 2097152 by have h2 := hpt.out; omega) 34
  refine ch_set (d := 65) (v := vr1) (w' := w9) rfl rfl trivial (ex_app rfl rfl rfl hr) trivial ?_
  simp only [Act.put, sa, sz, ss]
  rw [show (qf.tk (pkn a qf.n)).f = (frm q.f q.n) from hff.out] at hO
  have H9 : Hid (Mm w9 [] ∧ Cw w7 (vr1) (lA P1 m + (pkn a qf.n)) (ct (lF P1 m) (lA P1 m) (frm q.f q.n)) w9) := ⟨Mm.nil _, H8.out.2.on (Chg.grown hG) hO⟩
  clear hr hO hG h5 H8
  refine ch_enter (d := 66) (R := fun vv w' => ∃ v R, vv = .tuple #[v, .int .i64 (((lA P1 m) : Nat) : Int), .int .i64 0] ∧ (Below w9.heap.size w9 w' ∧ Lq w9.heap.size v m R w') ∧ ∀ i, i < m → (R i).n = (P1 i).n ∧ ∀ j, j < (P1 i).n → (R i).f j = (P1 i).f j) rfl rfl trivial (exec_call (args := #[vr1]) rfl call35 rfl (mpn rfl)) (Calls.mono (Read_again q (by omega) hpt.out H9.out.2 (by have := hpt.out; omega) (fun i hi => Nat.le_trans (h500.out i hi) (by decide)) (fun j _ => rfl)) (fun e w2 hh => by obtain ⟨v, R, he, hI⟩ := hh; exact ⟨_, he, v, R, rfl, hI⟩)) (fun _ _ _ => trivial) ?_
  rintro _ w10 ⟨v1, R, rfl, hI, hP⟩
  have hsm : Hid _ := hP
  obtain ⟨pl2, c2, g2, rfl, hv⟩ := hI.2.lv
  have H10 : Hid (Mm w10 [] ∧ (Pw w (lA P1 m) (lF P1 m) qb w10 ∧ Pw w (8 + q.n + 4) (frm q.f q.n) qf w10) ∧ Lv pl2 g2 0 m R w10) := ⟨Mm.nil _, ⟨Pw.step hB0.out.1 (below_on _ _ H9.out.2.b hI.1), Pw.step hB0.out.2 (below_on _ _ H9.out.2.b hI.1)⟩, hv⟩
  clear hI hP hv H9
  simp only [Act.put, sa, sz, ss]
  refine ch_set (d := 59) (v := .tuple #[.slice pl2 m c2, .int .i64 (((lA P1 m) : Nat) : Int), .int .i64 0]) (w' := w10) rfl rfl trivial (rfl) trivial ?_
  simp only [Act.put, sa, sz, ss]
  refine ch_nil ⟨[(60, .slice qb.p qb.n qb.cp), (62, .slice qf.p qf.n qf.cp), (63, .int .i64 ((pkn a qf.n : Nat) : Int)), (64, .slice (qf.tk (pkn a qf.n)).p (qf.tk (pkn a qf.n)).n (qf.tk (pkn a qf.n)).cp)], [(67, .slice pl2 m c2), (68, .int .i64 (((lA P1 m) : Nat) : Int)), (69, .int .i64 0)], ?fa8, ?fd8, ?fe8, ?ff8, ?fg8⟩
  case fd8 =>
    simp only [fillv, Act.put, List.setIfInBounds_toArray, List.set_cons_zero, List.set_cons_succ]
    exact rfl
  case fe8 =>
    simp only [List.cons_append, List.nil_append]
    exact ⟨⟨_, rfl, rfl, rfl, fun w' _ => by go_simp⟩, ⟨_, rfl, rfl, rfl, fun w' _ => by go_simp⟩, ⟨_, rfl, rfl, rfl, fun w' _ => by go_simp⟩, ⟨_, rfl, rfl, rfl, fun w' _ => rfl⟩, ⟨_, rfl, rfl, rfl, fun w' _ => rfl⟩, ⟨_, rfl, rfl, rfl, fun w' _ => rfl⟩, ⟨_, rfl, rfl, rfl, fun w' _ => ex_tkQ (q := qf) (k := (pkn a qf.n)) (by have h1 := hfo.out.1.le; have h2 := hfn.out; have h3 := hpt.out; omega) rfl rfl rfl⟩, trivial⟩
  case ff8 => exact ⟨⟨_, rfl, rfl, rfl, fun w' _ => by go_simp⟩, ⟨_, rfl, rfl, rfl, fun w' _ => by go_simp⟩, ⟨_, rfl, rfl, rfl, fun w' _ => by go_simp⟩, trivial⟩
  refine ch_set (d := 14) (v := .slice pl2 m c2) (w' := w10) rfl rfl trivial (rfl) trivial ?_
  simp only [Act.put, sa, sz, ss]
  refine ch_set (d := 15) (v := .int .i64 (((lA P1 m) : Nat) : Int)) (w' := w10) rfl rfl trivial (rfl) trivial ?_
  simp only [Act.put, sa, sz, ss]
  refine ch_set (d := 16) (v := .int .i64 0) (w' := w10) rfl rfl trivial (rfl) trivial ?_
  simp only [Act.put, sa, sz, ss]
  refine ch_nil ?_
  refine then_normal (wp_seq (wp_seq ?_))
  refine sq_start (l := [0, 1, 2, 3, 4, 5, 6, 7, 8, 9, 10, 11, 12, 13]) rfl ?_
  refine rest_set (d := 70) (v := .int .i64 0) (w' := w10) rfl rfl rfl (rfl) ?_
  simp only [Act.put, sa, sz, ss]
  refine rest_set (d := 71) (v := .bool false) (w' := w10) rfl rfl rfl (by kernel_rfl) ?_
  simp only [Act.put, sa, sz, ss]
  refine rest_set (d := 72) (v := .bool false) (w' := w10) rfl rfl rfl (rfl) ?_
  simp only [Act.put, sa, sz, ss]
  refine rest_set (d := 73) (v := .int .i64 (((lA P1 m) : Nat) : Int)) (w' := w10) rfl rfl rfl (rfl) ?_
  simp only [Act.put, sa, sz, ss]
  refine rest_set (d := 74) (v := .slice qb.p qb.n qb.cp) (w' := w10) rfl rfl rfl (rfl) ?_
  simp only [Act.put, sa, sz, ss]
  refine rest_set (d := 75) (v := .int .i64 ((qb.n : Nat) : Int)) (w' := w10) rfl rfl rfl (by go_simp) ?_
  simp only [Act.put, sa, sz, ss]
  refine rest_set (d := 76) (v := .bool false) (w' := w10) rfl rfl rfl (by go_simp <;> (have h1 := hbn.out; have h2 := hfn.out; omega)) ?_
  simp only [Act.put, sa, sz, ss]
  refine rest_set (d := 77) (v := .bool false) (w' := w10) rfl rfl rfl (by go_simp) ?_
  simp only [Act.put, sa, sz, ss]
  refine rest_set (d := 78) (v := .bool false) (w' := w10) rfl rfl rfl (rfl) ?_
  simp only [Act.put, sa, sz, ss]
  refine rest_set (d := 79) (v := .slice pl2 m c2) (w' := w10) rfl rfl rfl (rfl) ?_
  simp only [Act.put, sa, sz, ss]
  refine rest_set (d := 80) (v := .slice pl1 m c1) (w' := w10) rfl rfl rfl (rfl) ?_
  simp only [Act.put, sa, sz, ss]
  refine rest_enter (d := 81) (R := fun vv w' => vv = .bool true ∧ Below w10.heap.size w10 w') rfl rfl rfl (exec_call (args := #[.slice pl2 m c2, .slice pl1 m c1]) rfl call39 rfl (mpn rfl)) (Calls.mono (same_lists m (by omega) pl2 c2 g2 0 R pl1 c1 g1 o1 P1 w10 H10.out.2.2 (hl1.out.below H10.out.2.1.1.b) hsm.out) (fun e w2 hh => ⟨_, hh.1, rfl, hh.2⟩)) ?_
  rintro _ w11 ⟨rfl, hb⟩
  have H11 : Hid (Mm w11 [] ∧ (Pw w (lA P1 m) (lF P1 m) qb w11 ∧ Pw w (8 + q.n + 4) (frm q.f q.n) qf w11) ∧ Lv pl2 g2 0 m R w11) := ⟨H10.out.1.below hb, ⟨⟨Pw.step H10.out.2.1.1 (hb), Pw.step H10.out.2.1.2 (hb)⟩, Lv.below H10.out.2.2 (hb)⟩⟩
  clear hb
  clear H10
  simp only [Act.put, sa, sz, ss]
  refine rest_set (d := 82) (v := .bool false) (w' := w11) rfl rfl rfl (by go_simp) ?_
  simp only [Act.put, sa, sz, ss]
  refine rest_set (d := 83) (v := .bool false) (w' := w11) rfl rfl rfl (by go_simp) ?_
  simp only [Act.put, sa, sz, ss]
  refine rest_nil (then_normal ?_)
  refine wp_cond_false rfl (wp_skip ?_)
  refine then_normal (wp_seq (wp_seq ?_))
  refine sq_start (l := [0, 1, 2]) rfl ?_
  refine rest_set (d := 84) (v := .slice qb.p qb.n qb.cp) (w' := w11) rfl rfl rfl (rfl) ?_
  simp only [Act.put, sa, sz, ss]
  refine rest_set (d := 85) (v := .int .i64 ((qb.n : Nat) : Int)) (w' := w11) rfl rfl rfl (by go_simp) ?_
  simp only [Act.put, sa, sz, ss]
  refine rest_set (d := 86) (v := .bool true) (w' := w11) rfl rfl rfl (by go_simp <;> (have h1 := hbn.out; omega)) ?_
  simp only [Act.put, sa, sz, ss]
  refine rest_nil (then_normal ?_)
  refine wp_cond_true rfl (wp_seq ?_)
  refine sq_start (l := [0, 1]) rfl ?_
  refine rest_set (d := 87) (v := .bool true) (w' := w11) rfl rfl rfl (rfl) ?_
  simp only [Act.put, sa, sz, ss]
  refine rest_set (d := 8) (v := .bool true) (w' := w11) rfl rfl rfl (rfl) ?_
  simp only [Act.put, sa, sz, ss]
  refine rest_nil (then_normal (wp_ret ?_))
  repeat (first | refine then_ret ?_ | refine block_ret ?_)
  refine bodyPost_ret (v := .bool true) (by simp [results, Try.results11, go_sem, *]) rfl ?_
  exact ⟨rfl, H11.out.2.1.1.b⟩
set_option maxHeartbeats 8000000 in
set_option maxRecDepth 100000 in
theorem back_some (m : Nat) (pl1 : Option Addr) (c1 g1 o1 : Nat) (P1 : Nat → Pt8) (hm : m ≤ 9223372036854775807) (q : Pt8) (a d : Int) (hm30 : m ≤ 30) (hsh : shb P1 m = true) (hmo : q.n ≤ 500) (hAb : lA P1 m ≤ 15360) (hl0 : 0 < lA P1 m) (w : World) (hl1z : Lv pl1 g1 o1 m P1 w) (hq0 : Pok q ∧ q.rs w) (hqn0 : q.p = none → q.cp = 0) (h500z : ∀ i, i < m → (P1 i).n ≤ 500) (hb1z : ∀ i, i < m → ∀ j, j < (P1 i).n → (P1 i).f j < 256) :
    Calls Try.prog 11 #[.slice pl1 m c1, .slice q.p q.n q.cp, .int .i64 a, .int .i64 d] w fun e w' => e = .returned (.bool true) ∧ Below w.heap.size w w' := by
  have H0 : Hid (_ ∧ _) := ⟨Mm.nil w, Below.refl w.heap.size w⟩
  have hl1 : Hid _ := hl1z
  have hq : Hid _ := hq0
  clear hl1z hq0
  have hqn : Hid _ := hqn0
  clear hqn0
  have h500 : Hid _ := h500z
  have hb1 : Hid _ := hb1z
  clear h500z hb1z
  go_enter Try.func11, Try.ntmps11
  refine wp_seq ?_
  refine sq_startW (l := [0]) rfl (fun u0 hu0 => ?_)
  have H1 : Hid (Mm u0 [] ∧ Below w.heap.size w u0) := by rw [hu0]; exact H0
  clear hu0 H0
  refine rest_set (d := 8) (v := .bool false) (w' := u0) rfl rfl rfl (rfl) ?_
  simp only [Act.put, sa, sz, ss]
  refine rest_nil (then_normal (wp_seq ?_))
  refine sq_start (l := [0, 1]) rfl ?_
  refine rest_enter (d := 21) (R := fun vv w' => vv = .bool true ∧ Below u0.heap.size u0 w') rfl rfl rfl (exec_call (args := #[]) rfl call10 rfl (mpn rfl)) (Calls.mono (known_any u0) (fun e w2 hh => ⟨_, hh.1, rfl, hh.2⟩)) ?_
  rintro _ w2 ⟨rfl, hb⟩
  have H2 : Hid (Mm w2 [] ∧ Below w.heap.size w w2) := ⟨H1.out.1.below hb, H1.out.2.trans (hb.mono H1.out.2.size)⟩
  clear hb
  clear H1
  simp only [Act.put, sa, sz, ss]
  refine rest_set (d := 9) (v := .bool true) (w' := w2) rfl rfl rfl (rfl) ?_
  simp only [Act.put, sa, sz, ss]
  refine rest_nil (then_normal ?_)
  refine wp_seq (wp_seq ?_)
  refine sq_start (l := [0, 1, 2, 3, 4, 5, 6, 7]) rfl ?_
  refine rest_set (d := 22) (v := .slice pl1 m c1) (w' := w2) rfl rfl rfl (rfl) ?_
  simp only [Act.put, sa, sz, ss]
  refine rest_enter (d := 23) (R := fun vv w' => vv = .bool true ∧ Below w2.heap.size w2 w') rfl rfl rfl (exec_call (args := #[.slice pl1 m c1]) rfl call50 rfl (mpn rfl)) (Calls.mono (short_is m hm pl1 c1 g1 o1 P1 true hsh w2 (hl1.out.below H2.out.2)) (fun e w2 hh => ⟨_, hh.1, rfl, hh.2⟩)) ?_
  rintro _ w3 ⟨rfl, hb⟩
  have H3 : Hid (Mm w3 [] ∧ Below w.heap.size w w3) := ⟨H2.out.1.below hb, H2.out.2.trans (hb.mono H2.out.2.size)⟩
  clear hb
  clear H2
  simp only [Act.put, sa, sz, ss]
  refine rest_set (d := 24) (v := .bool false) (w' := w3) rfl rfl rfl (by go_simp) ?_
  simp only [Act.put, sa, sz, ss]
  refine rest_set (d := 25) (v := .bool false) (w' := w3) rfl rfl rfl (rfl) ?_
  simp only [Act.put, sa, sz, ss]
  refine rest_set (d := 26) (v := .slice q.p q.n q.cp) (w' := w3) rfl rfl rfl (rfl) ?_
  simp only [Act.put, sa, sz, ss]
  refine rest_set (d := 27) (v := .int .i64 ((q.n : Nat) : Int)) (w' := w3) rfl rfl rfl (by go_simp) ?_
  simp only [Act.put, sa, sz, ss]
  refine rest_set (d := 28) (v := .bool false) (w' := w3) rfl rfl rfl (by go_simp <;> omega) ?_
  simp only [Act.put, sa, sz, ss]
  refine rest_set (d := 29) (v := .bool false) (w' := w3) rfl rfl rfl (by go_simp) ?_
  simp only [Act.put, sa, sz, ss]
  refine rest_nil (then_normal ?_)
  refine wp_cond_false rfl (wp_skip ?_)
  refine then_normal (wp_seq ?_)
  refine sq_start (l := [0, 1, 2, 3, 4, 5, 6]) rfl ?_
  refine rest_set (d := 32) (v := .slice pl1 m c1) (w' := w3) rfl rfl rfl (rfl) ?_
  simp only [Act.put, sa, sz, ss]
  refine rest_enter (d := 33) (R := fun vv w' => ∃ qb : Pt8, vv = .tuple #[.slice qb.p qb.n qb.cp, .bool true] ∧ Pw w (lA P1 m) (lF P1 m) qb w') rfl rfl rfl (exec_call (args := #[.slice pl1 m c1]) rfl call51 rfl (mpn rfl)) (Calls.mono (frames_any m hm30 pl1 c1 g1 o1 P1 (by omega) w3 (hl1.out.below H3.out.2) h500.out) (fun e w2 hh => by obtain ⟨v, he, hI⟩ := hh; obtain ⟨r, t1, t2, t3, t4, t5, t6, t7⟩ := (Cw.up H3.out.2 hI).part; exact ⟨_, he, r, by rw [t1], below_on _ _ H3.out.2 hI.b, t2, t3, t6, t4, t5, t7⟩)) ?_
  rintro _ w4 ⟨qb, rfl, hI⟩
  have hbn : Hid _ := hI.n
  have hbf : Hid _ := hI.f
  have hbo : Hid (Pok qb ∧ (qb.p = none → qb.cp = 0)) := ⟨hI.ok, hI.no⟩
  have H4 : Hid (Mm w4 [] ∧ Pw w (lA P1 m) (lF P1 m) qb w4) := ⟨Mm.nil _, hI⟩
  clear hI H3
  simp only [Act.put, sa, sz, ss]
  refine rest_set (d := 31) (v := .tuple #[.slice qb.p qb.n qb.cp, .bool true]) (w' := w4) rfl rfl rfl (rfl) ?_
  simp only [Act.put, sa, sz, ss]
  refine rest_set (d := 34) (v := .slice qb.p qb.n qb.cp) (w' := w4) rfl rfl rfl (by go_simp) ?_
  simp only [Act.put, sa, sz, ss]
  refine rest_set (d := 35) (v := .bool true) (w' := w4) rfl rfl rfl (by go_simp) ?_
  simp only [Act.put, sa, sz, ss]
  refine rest_set (d := 10) (v := .slice qb.p qb.n qb.cp) (w' := w4) rfl rfl rfl (rfl) ?_
  simp only [Act.put, sa, sz, ss]
  refine rest_set (d := 11) (v := .bool true) (w' := w4) rfl rfl rfl (rfl) ?_
  simp only [Act.put, sa, sz, ss]
  refine rest_nil (then_normal (wp_seq ?_))
  refine sq_start (l := [0, 1, 2, 3, 4, 5, 6]) rfl ?_
  refine rest_set (d := 37) (v := .slice q.p q.n q.cp) (w' := w4) rfl rfl rfl (rfl) ?_
  simp only [Act.put, sa, sz, ss]
  refine rest_enter (d := 38) (R := fun vv w' => ∃ qf : Pt8, vv = .tuple #[.slice qf.p qf.n qf.cp, .int .i64 0] ∧ Pw w4 (8 + q.n + 4) (frm q.f q.n) qf w') rfl rfl rfl (exec_call (args := #[.slice q.p q.n q.cp]) rfl call33 rfl (mpn rfl)) (Calls.mono (Frame_ok q (by omega) w4 ⟨hq.out.1, hq.out.2.below H4.out.2.b⟩ hqn.out) (fun e w2 hh => by obtain ⟨v, he, hI⟩ := hh; obtain ⟨r, t1, t2, t3, t4, t5, t6, t7⟩ := hI.part; exact ⟨_, he, r, by rw [t1], hI.b, t2, t3, t6, t4, t5, t7⟩)) ?_
  rintro _ w5 ⟨qf, rfl, hI⟩
  have hfn : Hid (qf.n = 8 + q.n + 4) := hI.n
  have hff : Hid _ := hI.f
  have hfo : Hid (Pok qf ∧ (qf.p = none → qf.cp = 0)) := ⟨hI.ok, hI.no⟩
  have hpt : Hid ((pkn a qf.n) < 8 + q.n + 4) := by have := pkn_lt a (n := qf.n) (by rw [hfn.out]; omega); rw [hfn.out] at this ⊢; exact this
  have H5 : Hid (Mm w5 [] ∧ Pw w (lA P1 m) (lF P1 m) qb w5 ∧ Pw w (8 + q.n + 4) (frm q.f q.n) qf w5) := ⟨Mm.nil _, Pw.step H4.out.2 hI.b, hI.up H4.out.2.b⟩
  clear hI H4
  simp only [Act.put, sa, sz, ss]
  refine rest_set (d := 36) (v := .tuple #[.slice qf.p qf.n qf.cp, .int .i64 0]) (w' := w5) rfl rfl rfl (rfl) ?_
  simp only [Act.put, sa, sz, ss]
  refine rest_set (d := 39) (v := .slice qf.p qf.n qf.cp) (w' := w5) rfl rfl rfl (by go_simp) ?_
  simp only [Act.put, sa, sz, ss]
  refine rest_set (d := 40) (v := .int .i64 0) (w' := w5) rfl rfl rfl (by go_simp) ?_
  simp only [Act.put, sa, sz, ss]
  refine rest_set (d := 12) (v := .slice qf.p qf.n qf.cp) (w' := w5) rfl rfl rfl (rfl) ?_
  simp only [Act.put, sa, sz, ss]
  refine rest_set (d := 13) (v := .int .i64 0) (w' := w5) rfl rfl rfl (rfl) ?_
  simp only [Act.put, sa, sz, ss]
  refine rest_nil (then_normal ?_)
  refine wp_seq (wp_seq ?_)
  refine sq_start (l := [0, 1, 2, 3, 4, 5, 6, 7, 8, 9, 10, 11, 12, 13]) rfl ?_
  refine rest_set (d := 41) (v := .bool true) (w' := w5) rfl rfl rfl (rfl) ?_
  simp only [Act.put, sa, sz, ss]
  refine rest_set (d := 42) (v := .bool false) (w' := w5) rfl rfl rfl (by go_simp) ?_
  simp only [Act.put, sa, sz, ss]
  refine rest_set (d := 43) (v := .bool false) (w' := w5) rfl rfl rfl (rfl) ?_
  simp only [Act.put, sa, sz, ss]
  refine rest_set (d := 44) (v := .int .i64 0) (w' := w5) rfl rfl rfl (rfl) ?_
  simp only [Act.put, sa, sz, ss]
  refine rest_set (d := 45) (v := .bool false) (w' := w5) rfl rfl rfl (by kernel_rfl) ?_
  simp only [Act.put, sa, sz, ss]
  refine rest_set (d := 46) (v := .bool false) (w' := w5) rfl rfl rfl (by go_simp) ?_
  simp only [Act.put, sa, sz, ss]
  refine rest_set (d := 47) (v := .bool false) (w' := w5) rfl rfl rfl (rfl) ?_
  simp only [Act.put, sa, sz, ss]
  refine rest_set (d := 48) (v := .slice qf.p qf.n qf.cp) (w' := w5) rfl rfl rfl (rfl) ?_
  simp only [Act.put, sa, sz, ss]
  refine rest_set (d := 49) (v := .int .i64 ((qf.n : Nat) : Int)) (w' := w5) rfl rfl rfl (by go_simp) ?_
  simp only [Act.put, sa, sz, ss]
  refine rest_set (d := 50) (v := .slice q.p q.n q.cp) (w' := w5) rfl rfl rfl (rfl) ?_
  simp only [Act.put, sa, sz, ss]
  refine rest_set (d := 51) (v := .int .i64 ((q.n : Nat) : Int)) (w' := w5) rfl rfl rfl (by go_simp) ?_
  simp only [Act.put, sa, sz, ss]
  refine rest_set (d := 52) (v := .int .i64 ((q.n + 12 : Nat) : Int)) (w' := w5) rfl rfl rfl (by go_simp; rw [IntKind.wrap_i64]; omega) ?_
  simp only [Act.put, sa, sz, ss]
  refine rest_set (d := 53) (v := .bool false) (w' := w5) rfl rfl rfl (by go_simp <;> (have h1 := hbn.out; have h2 := hfn.out; omega)) ?_
  simp only [Act.put, sa, sz, ss]
  refine rest_set (d := 54) (v := .bool false) (w' := w5) rfl rfl rfl (by go_simp) ?_
  simp only [Act.put, sa, sz, ss]
  refine rest_nil (then_normal ?_)
  refine wp_cond_false rfl (wp_skip ?_)
  refine then_normal (wp_seq ?_)
  refine sq_start (l := [0, 1, 2, 3, 4]) rfl ?_
  refine rest_set (d := 55) (v := .int .i64 a) (w' := w5) rfl rfl rfl (rfl) ?_
  simp only [Act.put, sa, sz, ss]
  refine rest_set (d := 56) (v := .slice qf.p qf.n qf.cp) (w' := w5) rfl rfl rfl (rfl) ?_
  simp only [Act.put, sa, sz, ss]
  refine rest_set (d := 57) (v := .int .i64 ((qf.n : Nat) : Int)) (w' := w5) rfl rfl rfl (by go_simp) ?_
  simp only [Act.put, sa, sz, ss]
  refine rest_enter (d := 58) (R := fun vv w' => vv = .int .i64 ((pkn a qf.n : Nat) : Int) ∧ Below w5.heap.size w5 w') rfl rfl rfl (exec_call (args := #[.int .i64 a, .int .i64 ((qf.n : Nat) : Int)]) rfl call31 rfl (mpn rfl)) (Calls.mono (pick_any a qf.n (by rw [hfn.out]; omega) (by rw [hfn.out]; omega) w5) (fun e w2 hh => ⟨_, hh.1, rfl, hh.2⟩)) ?_
  rintro _ w6 ⟨rfl, hb⟩
  have H6 : Hid (Mm w6 [] ∧ Pw w (lA P1 m) (lF P1 m) qb w6 ∧ Pw w (8 + q.n + 4) (frm q.f q.n) qf w6) := ⟨H5.out.1.below hb, ⟨Pw.step H5.out.2.1 (hb), Pw.step H5.out.2.2 (hb)⟩⟩
  clear hb
  clear H5
  simp only [Act.put, sa, sz, ss]
  refine rest_set (d := 2) (v := .int .i64 ((pkn a qf.n : Nat) : Int)) (w' := w6) rfl rfl rfl (rfl) ?_
  simp only [Act.put, sa, sz, ss]
  refine rest_nil (then_normal (wp_seq ?_))
  refine walk_free2 (b := ?fz8) (by kernel_rfl) [0, 2, 3, 4] [1, 5, 6, 7] [8, 9, 10] [11, 12, 13] [(60, .slice qb.p qb.n qb.cp), (62, .slice qf.p qf.n qf.cp), (63, .int .i64 ((pkn a qf.n : Nat) : Int)), (64, .slice (qf.tk (pkn a qf.n)).p (qf.tk (pkn a qf.n)).n (qf.tk (pkn a qf.n)).cp)] (fun _ => True) ?fb8 (by kernel_rfl) ?fok8 trivial ?fch8
  case fb8 =>
    simp only [fillv, Act.put, List.setIfInBounds_toArray, List.set_cons_zero, List.set_cons_succ]
    exact rfl
  case fok8 => exact ⟨⟨_, rfl, rfl, rfl, fun w' _ => rfl⟩, ⟨_, rfl, rfl, rfl, fun w' _ => rfl⟩, ⟨_, rfl, rfl, rfl, fun w' _ => rfl⟩, ⟨_, rfl, rfl, rfl, fun w' _ => ex_tkQ (q := qf) (k := (pkn a qf.n)) (by have h1 := hfo.out.1.le; have h2 := hfn.out; have h3 := hpt.out; omega) rfl rfl rfl⟩, trivial⟩
  have H7 : Hid (Mm w6.drew [] ∧ Pw w (lA P1 m) (lF P1 m) qb w6.drew ∧ Pw w (8 + q.n + 4) (frm q.f q.n) qf w6.drew) := ⟨H6.out.1.drew, ⟨Pw.step H6.out.2.1 ((Below.refl _ _).drew), Pw.step H6.out.2.2 ((Below.refl _ _).drew)⟩⟩
  clear H6
  generalize w6.drew = w7 at H7 ⊢
  refine ch_enter (d := 61) (R := fun vv w' => Cw w7 vv (lA P1 m) (lF P1 m) w') rfl rfl trivial (exec_call (args := #[.slice qb.p qb.n qb.cp]) rfl call49 rfl (mpn rfl)) (Calls.mono (copy_q qb (by rw [hbn.out]; omega) w7 ⟨hbo.out.1, H7.out.2.1.rs⟩ hbo.out.2) (fun e w2 hh => by obtain ⟨v, he, hI⟩ := hh; exact ⟨_, he, by rw [hbn.out, hbf.out] at hI; exact hI⟩)) (fun _ _ _ => trivial) ?_
  rintro vc0 w8 hI
  have hB0 : Hid (Pw w (lA P1 m) (lF P1 m) qb w7 ∧ Pw w (8 + q.n + 4) (frm q.f q.n) qf w7) := H7.out.2
  have H8 : Hid (Mm w8 [] ∧ Cw w7 (vc0) (lA P1 m) (lF P1 m) w8) := ⟨Mm.nil _, hI⟩
  clear hI H7
  simp only [Act.put, sa, sz, ss]
  obtain ⟨vr1, w9, hr, hO, hG, h5⟩ := own_appQ H8.out.2.own H8.out.2.size (q := qf.tk (pkn a qf.n)) (hfo.out.1.tk (by have h1 := hfn.out; have h2 := hpt.out; omega)) (Pt8.tk_no hfo.out.2 _) (Pt8.rs_tk (hB0.out.2.rs.below H8.out.2.b) (by have h1 := hfn.out; have h2 := hpt.out; omega)) (show lA P1 m + (pkn a qf.n) ≤ 2097152 by have h2 := hpt.out; omega) 34
  refine ch_set (d := 65) (v := vr1) (w' := w9) rfl rfl trivial (ex_app rfl rfl rfl hr) trivial ?_
  simp only [Act.put, sa, sz, ss]
  rw [show (qf.tk (pkn a qf.n)).f = (frm q.f q.n) from hff.out] at hO
  have H9 : Hid (Mm w9 [] ∧ Cw w7 (vr1) (lA P1 m + (pkn a qf.n)) (ct (lF P1 m) (lA P1 m) (frm q.f q.n)) w9) := ⟨Mm.nil _, H8.out.2.on (Chg.grown hG) hO⟩
  clear hr hO hG h5 H8
  refine ch_enter (d := 66) (R := fun vv w' => ∃ v R, vv = .tuple #[v, .int .i64 (((lA P1 m) : Nat) : Int), .int .i64 0] ∧ (Below w9.heap.size w9 w' ∧ Lq w9.heap.size v m R w') ∧ ∀ i, i < m → (R i).n = (P1 i).n ∧ ∀ j, j < (P1 i).n → (R i).f j = (P1 i).f j) rfl rfl trivial (exec_call (args := #[vr1]) rfl call35 rfl (mpn rfl)) (Calls.mono (Read_again q (by omega) hpt.out H9.out.2 (by have := hpt.out; omega) (fun i hi => Nat.le_trans (h500.out i hi) (by decide)) (fun j _ => rfl)) (fun e w2 hh => by obtain ⟨v, R, he, hI⟩ := hh; exact ⟨_, he, v, R, rfl, hI⟩)) (fun _ _ _ => trivial) ?_
  rintro _ w10 ⟨v1, R, rfl, hI, hP⟩
  have hsm : Hid _ := hP
  obtain ⟨pl2, c2, g2, rfl, hv⟩ := hI.2.lv
  have H10 : Hid (Mm w10 [] ∧ (Pw w (lA P1 m) (lF P1 m) qb w10 ∧ Pw w (8 + q.n + 4) (frm q.f q.n) qf w10) ∧ Lv pl2 g2 0 m R w10) := ⟨Mm.nil _, ⟨Pw.step hB0.out.1 (below_on _ _ H9.out.2.b hI.1), Pw.step hB0.out.2 (below_on _ _ H9.out.2.b hI.1)⟩, hv⟩
  clear hI hP hv H9
  simp only [Act.put, sa, sz, ss]
  refine ch_set (d := 59) (v := .tuple #[.slice pl2 m c2, .int .i64 (((lA P1 m) : Nat) : Int), .int .i64 0]) (w' := w10) rfl rfl trivial (rfl) trivial ?_
  simp only [Act.put, sa, sz, ss]
  refine ch_nil ⟨[(60, .slice qb.p qb.n qb.cp), (62, .slice qf.p qf.n qf.cp), (63, .int .i64 ((pkn a qf.n : Nat) : Int)), (64, .slice (qf.tk (pkn a qf.n)).p (qf.tk (pkn a qf.n)).n (qf.tk (pkn a qf.n)).cp)], [(67, .slice pl2 m c2), (68, .int .i64 (((lA P1 m) : Nat) : Int)), (69, .int .i64 0)], ?fa8, ?fd8, ?fe8, ?ff8, ?fg8⟩
  case fd8 =>
    simp only [fillv, Act.put, List.setIfInBounds_toArray, List.set_cons_zero, List.set_cons_succ]
    exact rfl
  case fe8 =>
    simp only [List.cons_append, List.nil_append]
    exact ⟨⟨_, rfl, rfl, rfl, fun w' _ => by go_simp⟩, ⟨_, rfl, rfl, rfl, fun w' _ => by go_simp⟩, ⟨_, rfl, rfl, rfl, fun w' _ => by go_simp⟩, ⟨_, rfl, rfl, rfl, fun w' _ => rfl⟩, ⟨_, rfl, rfl, rfl, fun w' _ => rfl⟩, ⟨_, rfl, rfl, rfl, fun w' _ => rfl⟩, ⟨_, rfl, rfl, rfl, fun w' _ => ex_tkQ (q := qf) (k := (pkn a qf.n)) (by have h1 := hfo.out.1.le; have h2 := hfn.out; have h3 := hpt.out; omega) rfl rfl rfl⟩, trivial⟩
  case ff8 => exact ⟨⟨_, rfl, rfl, rfl, fun w' _ => by go_simp⟩, ⟨_, rfl, rfl, rfl, fun w' _ => by go_simp⟩, ⟨_, rfl, rfl, rfl, fun w' _ => by go_simp⟩, trivial⟩
  refine ch_set (d := 14) (v := .slice pl2 m c2) (w' := w10) rfl rfl trivial (rfl) trivial ?_
  simp only [Act.put, sa, sz, ss]
  refine ch_set (d := 15) (v := .int .i64 (((lA P1 m) : Nat) : Int)) (w' := w10) rfl rfl trivial (rfl) trivial ?_
  simp only [Act.put, sa, sz, ss]
  refine ch_set (d := 16) (v := .int .i64 0) (w' := w10) rfl rfl trivial (rfl) trivial ?_
  simp only [Act.put, sa, sz, ss]
  refine ch_nil ?_
  refine then_normal (wp_seq (wp_seq ?_))
  refine sq_start (l := [0, 1, 2, 3, 4, 5, 6, 7, 8, 9, 10, 11, 12, 13]) rfl ?_
  refine rest_set (d := 70) (v := .int .i64 0) (w' := w10) rfl rfl rfl (rfl) ?_
  simp only [Act.put, sa, sz, ss]
  refine rest_set (d := 71) (v := .bool false) (w' := w10) rfl rfl rfl (by kernel_rfl) ?_
  simp only [Act.put, sa, sz, ss]
  refine rest_set (d := 72) (v := .bool false) (w' := w10) rfl rfl rfl (rfl) ?_
  simp only [Act.put, sa, sz, ss]
  refine rest_set (d := 73) (v := .int .i64 (((lA P1 m) : Nat) : Int)) (w' := w10) rfl rfl rfl (rfl) ?_
  simp only [Act.put, sa, sz, ss]
  refine rest_set (d := 74) (v := .slice qb.p qb.n qb.cp) (w' := w10) rfl rfl rfl (rfl) ?_
  simp only [Act.put, sa, sz, ss]
  refine rest_set (d := 75) (v := .int .i64 ((qb.n : Nat) : Int)) (w' := w10) rfl rfl rfl (by go_simp) ?_
  simp only [Act.put, sa, sz, ss]
  refine rest_set (d := 76) (v := .bool false) (w' := w10) rfl rfl rfl (by go_simp <;> (have h1 := hbn.out; have h2 := hfn.out; omega)) ?_
  simp only [Act.put, sa, sz, ss]
  refine rest_set (d := 77) (v := .bool false) (w' := w10) rfl rfl rfl (by go_simp) ?_
  simp only [Act.put, sa, sz, ss]
  refine rest_set (d := 78) (v := .bool false) (w' := w10) rfl rfl rfl (rfl) ?_
  simp only [Act.put, sa, sz, ss]
  refine rest_set (d := 79) (v := .slice pl2 m c2) (w' := w10) rfl rfl rfl (rfl) ?_
  simp only [Act.put, sa, sz, ss]
  refine rest_set (d := 80) (v := .slice pl1 m c1) (w' := w10) rfl rfl rfl (rfl) ?_
  simp only [Act.put, sa, sz, ss]
  refine rest_enter (d := 81) (R := fun vv w' => vv = .bool true ∧ Below w10.heap.size w10 w') rfl rfl rfl (exec_call (args := #[.slice pl2 m c2, .slice pl1 m c1]) rfl call39 rfl (mpn rfl)) (Calls.mono (same_lists m (by omega) pl2 c2 g2 0 R pl1 c1 g1 o1 P1 w10 H10.out.2.2 (hl1.out.below H10.out.2.1.1.b) hsm.out) (fun e w2 hh => ⟨_, hh.1, rfl, hh.2⟩)) ?_
  rintro _ w11 ⟨rfl, hb⟩
  have H11 : Hid (Mm w11 [] ∧ (Pw w (lA P1 m) (lF P1 m) qb w11 ∧ Pw w (8 + q.n + 4) (frm q.f q.n) qf w11) ∧ Lv pl2 g2 0 m R w11) := ⟨H10.out.1.below hb, ⟨⟨Pw.step H10.out.2.1.1 (hb), Pw.step H10.out.2.1.2 (hb)⟩, Lv.below H10.out.2.2 (hb)⟩⟩
  clear hb
  clear H10
  simp only [Act.put, sa, sz, ss]
  refine rest_set (d := 82) (v := .bool false) (w' := w11) rfl rfl rfl (by go_simp) ?_
  simp only [Act.put, sa, sz, ss]
  refine rest_set (d := 83) (v := .bool false) (w' := w11) rfl rfl rfl (by go_simp) ?_
  simp only [Act.put, sa, sz, ss]
  refine rest_nil (then_normal ?_)
  refine wp_cond_false rfl (wp_skip ?_)
  refine then_normal (wp_seq (wp_seq ?_))
  refine sq_start (l := [0, 1, 2]) rfl ?_
  refine rest_set (d := 84) (v := .slice qb.p qb.n qb.cp) (w' := w11) rfl rfl rfl (rfl) ?_
  simp only [Act.put, sa, sz, ss]
  refine rest_set (d := 85) (v := .int .i64 ((qb.n : Nat) : Int)) (w' := w11) rfl rfl rfl (by go_simp) ?_
  simp only [Act.put, sa, sz, ss]
  refine rest_set (d := 86) (v := .bool false) (w' := w11) rfl rfl rfl (by go_simp <;> (have h1 := hbn.out; omega)) ?_
  simp only [Act.put, sa, sz, ss]
  refine rest_nil (then_normal ?_)
  refine wp_cond_false rfl (wp_skip ?_)
  refine then_normal (wp_seq ?_)
  refine sq_start (l := [0, 1, 2]) rfl ?_
  refine rest_set (d := 88) (v := .slice qb.p qb.n qb.cp) (w' := w11) rfl rfl rfl (rfl) ?_
  simp only [Act.put, sa, sz, ss]
  refine rest_enter (d := 89) (R := fun vv w' => Cw w11 vv (lA P1 m) (lF P1 m) w') rfl rfl rfl (exec_call (args := #[.slice qb.p qb.n qb.cp]) rfl call49 rfl (mpn rfl)) (Calls.mono (copy_q qb (by rw [hbn.out]; omega) w11 ⟨hbo.out.1, H11.out.2.1.1.rs⟩ hbo.out.2) (fun e w2 hh => by obtain ⟨v, he, hI⟩ := hh; exact ⟨_, he, by rw [hbn.out, hbf.out] at hI; exact hI⟩)) ?_
  rintro vc1 w12 hI
  have hB1 : Hid ((Pw w (lA P1 m) (lF P1 m) qb w11 ∧ Pw w (8 + q.n + 4) (frm q.f q.n) qf w11) ∧ Lv pl2 g2 0 m R w11) := H11.out.2
  obtain ⟨gc, cc, rfl⟩ := hI.form (by omega)
  have H12 : Hid (Mm w12 [] ∧ Cw w11 (.slice (some ⟨gc, 0, none⟩) (lA P1 m) cc) (lA P1 m) (lF P1 m) w12) := ⟨Mm.nil _, hI⟩
  clear hI H11
  simp only [Act.put, sa, sz, ss]
  refine rest_set (d := 17) (v := .slice (some ⟨gc, 0, none⟩) (lA P1 m) cc) (w' := w12) rfl rfl rfl (rfl) ?_
  simp only [Act.put, sa, sz, ss]
  refine rest_nil (then_normal (wp_seq ?_))
  refine sq_start (l := [0, 1, 2, 3, 4, 5]) rfl ?_
  refine rest_set (d := 90) (v := .int .i64 d) (w' := w12) rfl rfl rfl (rfl) ?_
  simp only [Act.put, sa, sz, ss]
  refine rest_set (d := 91) (v := .slice (some ⟨gc, 0, none⟩) (lA P1 m) cc) (w' := w12) rfl rfl rfl (rfl) ?_
  simp only [Act.put, sa, sz, ss]
  refine rest_set (d := 92) (v := .int .i64 (((lA P1 m) : Nat) : Int)) (w' := w12) rfl rfl rfl (by go_simp) ?_
  simp only [Act.put, sa, sz, ss]
  refine rest_set (d := 93) (v := .int .i64 ((8 * lA P1 m : Nat) : Int)) (w' := w12) rfl rfl rfl (by go_simp; rw [IntKind.wrap_i64]; omega) ?_
  simp only [Act.put, sa, sz, ss]
  refine rest_enter (d := 94) (R := fun vv w' => vv = .int .i64 ((pkn d (8 * lA P1 m) : Nat) : Int) ∧ Below w12.heap.size w12 w') rfl rfl rfl (exec_call (args := #[.int .i64 d, .int .i64 ((8 * lA P1 m : Nat) : Int)]) rfl call31 rfl (mpn rfl)) (Calls.mono (pick_any d (8 * lA P1 m) (by omega) (by omega) w12) (fun e w2 hh => ⟨_, hh.1, rfl, hh.2⟩)) ?_
  rintro _ w13 ⟨rfl, hb⟩
  have H13 : Hid (Mm w13 [] ∧ Cw w11 (.slice (some ⟨gc, 0, none⟩) (lA P1 m) cc) (lA P1 m) (lF P1 m) w13) := ⟨H12.out.1.below hb, Cw.step H12.out.2 (hb)⟩
  clear hb
  clear H12
  simp only [Act.put, sa, sz, ss]
  refine rest_set (d := 3) (v := .int .i64 ((pkn d (8 * lA P1 m) : Nat) : Int)) (w' := w13) rfl rfl rfl (rfl) ?_
  simp only [Act.put, sa, sz, ss]
  refine rest_nil (then_normal (wp_seq ?_))
  have hkb : Hid (pkn d (8 * lA P1 m) / 8 < lA P1 m) := by have := pkn_lt d (n := 8 * lA P1 m) (by omega); exact (by omega : pkn d (8 * lA P1 m) / 8 < lA P1 m)
  have hxx : Hid ((xb (lF P1 m (pkn d (8 * lA P1 m) / 8)) (2 ^ (pkn d (8 * lA P1 m) % 8) % 256)) ≠ lF P1 m (pkn d (8 * lA P1 m) / 8) ∧ (xb (lF P1 m (pkn d (8 * lA P1 m) / 8)) (2 ^ (pkn d (8 * lA P1 m) % 8) % 256)) < 256) := xb_ne (lF_lt hb1.out hkb.out) (Nat.mod_lt _ (by decide))
  refine (walk_any) (by kernel_rfl) 13 [.quiet (.slice (some ⟨gc, 0, none⟩) (lA P1 m) cc), .quiet (.int .i64 ((pkn d (8 * lA P1 m) : Nat) : Int)), .quiet (.int .i64 ((pkn d (8 * lA P1 m) / 8 : Nat) : Int)), .quiet (.slice (some ⟨gc, 0, none⟩) (lA P1 m) cc), .quiet (.int .i64 ((pkn d (8 * lA P1 m) : Nat) : Int)), .quiet (.int .i64 ((pkn d (8 * lA P1 m) / 8 : Nat) : Int)), .quiet (PT gc (pkn d (8 * lA P1 m) / 8)), .quiet (Z8 (lF P1 m (pkn d (8 * lA P1 m) / 8))), .quiet (.int .i64 ((pkn d (8 * lA P1 m) : Nat) : Int)), .quiet (.int .i64 ((pkn d (8 * lA P1 m) % 8 : Nat) : Int)), .quiet (Z8 (2 ^ (pkn d (8 * lA P1 m) % 8) % 256)), .quiet (Z8 (xb (lF P1 m (pkn d (8 * lA P1 m) / 8)) (2 ^ (pkn d (8 * lA P1 m) % 8) % 256))), .quiet (PT gc (pkn d (8 * lA P1 m) / 8))] (fun u' => Mm u' [] ∧ Cw w11 (.slice (some ⟨gc, 0, none⟩) (lA P1 m) cc) (lA P1 m) (lF P1 m) u') ?pre13 ?F13 ?hpre13 (fun γ => ?hF13) (by kernel_rfl) ?hL13 ?hS13 ?ho13 ?he13
  case hpre13 => simp only [tk, tz]; rfl
  case hF13 => simp only [fill, Kind.val, Act.put, sa, sz, ss]; rfl
  case hL13 => exact trivial
  case hS13 => exact fun w' hb => ⟨H13.out.1.below hb, Cw.step H13.out.2 (hb)⟩
  case ho13 =>
    refine ak (fun _ => ⟨rfl, fun _ _ => rfl⟩) ?_
    refine ak (fun _ => ⟨rfl, fun _ _ => rfl⟩) ?_
    refine ak (fun γ => ⟨rfl, fun w' _ => ex_quo8 rfl rfl rfl (by have := hkb.out; omega)⟩) ?_
    refine ak (fun _ => ⟨rfl, fun _ _ => rfl⟩) ?_
    refine ak (fun _ => ⟨rfl, fun _ _ => rfl⟩) ?_
    refine ak (fun γ => ⟨rfl, fun w' _ => ex_quo8 rfl rfl rfl (by have := hkb.out; omega)⟩) ?_
    refine ak (fun γ => ⟨rfl, fun w' _ => ex_ixCw hkb.out rfl rfl rfl⟩) ?_
    refine ak (fun γ => ⟨rfl, fun w' hX => ex_ldCw hX.2 hkb.out rfl rfl⟩) ?_
    refine ak (fun _ => ⟨rfl, fun _ _ => rfl⟩) ?_
    refine ak (fun γ => ⟨rfl, fun w' _ => ex_rem8 rfl rfl rfl⟩) ?_
    refine ak (fun γ => ⟨rfl, fun w' _ => ex_shl8 (Nat.mod_lt _ (by decide)) rfl rfl rfl⟩) ?_
    refine ak (fun γ => ⟨rfl, fun w' _ => ex_xor8 rfl rfl rfl⟩) ?_
    refine ak (fun γ => ⟨rfl, fun w' _ => ex_ixCw hkb.out rfl rfl rfl⟩) ?_
    exact trivial
  intro γ w14 l hM hl
  have M14 : Mm w14 [] := H13.out.1.grow hM (Nat.le_refl _) hl [] rfl (by decide)
  have B14 : Cw w11 (.slice (some ⟨gc, 0, none⟩) (lA P1 m) cc) (lA P1 m) (lF P1 m) w14 := Cw.step H13.out.2 (hM.below)
  clear hM hl l H13
  clear γ
  have H14 : Hid (_ ∧ _) := ⟨M14, B14⟩
  clear M14 B14
  refine rest_at (l := [13]) rfl ?_
  refine rest_store rfl rfl rfl (Cw.store (v := (xb (lF P1 m (pkn d (8 * lA P1 m) / 8)) (2 ^ (pkn d (8 * lA P1 m) % 8) % 256))) H14.out.2 hkb.out rfl rfl rfl) ?_
  have H15 : Hid (Mm (w14.setCell ⟨gc, pkn d (8 * lA P1 m) / 8, none⟩ (Z8 (xb (lF P1 m (pkn d (8 * lA P1 m) / 8)) (2 ^ (pkn d (8 * lA P1 m) % 8) % 256)))) [] ∧ Cw w11 (.slice (some ⟨gc, 0, none⟩) (lA P1 m) cc) (lA P1 m) (up (lF P1 m) (pkn d (8 * lA P1 m) / 8) (xb (lF P1 m (pkn d (8 * lA P1 m) / 8)) (2 ^ (pkn d (8 * lA P1 m) % 8) % 256))) (w14.setCell ⟨gc, pkn d (8 * lA P1 m) / 8, none⟩ (Z8 (xb (lF P1 m (pkn d (8 * lA P1 m) / 8)) (2 ^ (pkn d (8 * lA P1 m) % 8) % 256))))) := ⟨Mm.nil _, H14.out.2.put⟩
  clear H14
  generalize hgw : World.setCell _ _ _ = w15 at H15 ⊢
  clear hgw
  refine rest_nil (then_normal (wp_seq ?_))
  refine sq_start (l := [0, 1, 2, 3, 4, 5, 6, 7, 8, 9, 10, 11, 12]) rfl ?_
  refine rest_set (d := 109) (v := .slice (some ⟨gc, 0, none⟩) (lA P1 m) cc) (w' := w15) rfl rfl rfl (rfl) ?_
  simp only [Act.put, sa, sz, ss]
  refine rest_set (d := 110) (v := .slice qf.p qf.n qf.cp) (w' := w15) rfl rfl rfl (rfl) ?_
  simp only [Act.put, sa, sz, ss]
  refine rest_set (d := 111) (v := .int .i64 ((pkn a qf.n : Nat) : Int)) (w' := w15) rfl rfl rfl (rfl) ?_
  simp only [Act.put, sa, sz, ss]
  refine rest_set (d := 112) (v := .slice (qf.tk (pkn a qf.n)).p (qf.tk (pkn a qf.n)).n (qf.tk (pkn a qf.n)).cp) (w' := w15) rfl rfl rfl (ex_tkQ (q := qf) (k := (pkn a qf.n)) (by have h1 := hfo.out.1.le; have h2 := hfn.out; have h3 := hpt.out; omega) rfl rfl rfl) ?_
  simp only [Act.put, sa, sz, ss]
  obtain ⟨vr2, w16, hr, hO, hG, h5⟩ := own_appQ H15.out.2.own H15.out.2.size (q := qf.tk (pkn a qf.n)) (hfo.out.1.tk (by have h1 := hfn.out; have h2 := hpt.out; omega)) (Pt8.tk_no hfo.out.2 _) (Pt8.rs_tk (hB1.out.1.2.rs.below H15.out.2.b) (by have h1 := hfn.out; have h2 := hpt.out; omega)) (show lA P1 m + (pkn a qf.n) ≤ 2097152 by have h2 := hpt.out; omega) 34
  refine rest_set (d := 113) (v := vr2) (w' := w16) rfl rfl rfl (ex_app rfl rfl rfl hr) ?_
  simp only [Act.put, sa, sz, ss]
  rw [show (qf.tk (pkn a qf.n)).f = (frm q.f q.n) from hff.out] at hO
  have H16 : Hid (Mm w16 [] ∧ Cw w11 (vr2) (lA P1 m + (pkn a qf.n)) (ct (up (lF P1 m) (pkn d (8 * lA P1 m) / 8) (xb (lF P1 m (pkn d (8 * lA P1 m) / 8)) (2 ^ (pkn d (8 * lA P1 m) % 8) % 256))) (lA P1 m) (frm q.f q.n)) w16) := ⟨Mm.nil _, H15.out.2.on (Chg.grown hG) hO⟩
  clear hr hO hG h5 H15
  refine rest_enter (d := 114) (R := fun vv w' => vv = .tuple #[.slice none 0 0, .int .i64 0, .int .i64 14] ∧ Below w16.heap.size w16 w') rfl rfl rfl (exec_call (args := #[vr2]) rfl call35 rfl (mpn rfl)) (Calls.mono (Read_spoilt H16.out.2 (by have := hpt.out; omega) (fun i hi => Nat.le_trans (h500.out i hi) (by decide)) hb1.out (k := pkn d (8 * lA P1 m) / 8) hkb.out (Nat.le_add_right _ _) (fun j hj hne => (ct_lo hj).trans (if_neg hne)) (by rw [ct_lo hkb.out]; show (if _ then _ else _) ≠ _; rw [if_pos rfl]; exact hxx.out.1) (by rw [ct_lo hkb.out]; show (if _ then _ else _) < _; rw [if_pos rfl]; exact hxx.out.2)) (fun e w2 hh => ⟨_, hh.1, rfl, hh.2⟩)) ?_
  rintro _ w17 ⟨rfl, hI⟩
  have H17 : Hid (Mm w17 [] ∧ Below w.heap.size w w17) := ⟨Mm.nil _, below_on _ _ (below_on _ _ hB1.out.1.1.b H16.out.2.b) hI⟩
  clear hI H16
  simp only [Act.put, sa, sz, ss]
  refine rest_set (d := 108) (v := .tuple #[.slice none 0 0, .int .i64 0, .int .i64 14]) (w' := w17) rfl rfl rfl (rfl) ?_
  simp only [Act.put, sa, sz, ss]
  refine rest_set (d := 115) (v := .slice none 0 0) (w' := w17) rfl rfl rfl (by go_simp) ?_
  simp only [Act.put, sa, sz, ss]
  refine rest_set (d := 116) (v := .int .i64 0) (w' := w17) rfl rfl rfl (by go_simp) ?_
  simp only [Act.put, sa, sz, ss]
  refine rest_set (d := 117) (v := .int .i64 14) (w' := w17) rfl rfl rfl (by go_simp) ?_
  simp only [Act.put, sa, sz, ss]
  refine rest_set (d := 18) (v := .slice none 0 0) (w' := w17) rfl rfl rfl (rfl) ?_
  simp only [Act.put, sa, sz, ss]
  refine rest_set (d := 19) (v := .int .i64 0) (w' := w17) rfl rfl rfl (rfl) ?_
  simp only [Act.put, sa, sz, ss]
  refine rest_set (d := 20) (v := .int .i64 14) (w' := w17) rfl rfl rfl (rfl) ?_
  simp only [Act.put, sa, sz, ss]
  refine rest_nil (then_normal (wp_seq ?_))
  refine sq_start (l := [0, 1, 2, 3, 4, 5]) rfl ?_
  refine rest_set (d := 118) (v := .bool true) (w' := w17) rfl rfl rfl (rfl) ?_
  simp only [Act.put, sa, sz, ss]
  refine rest_set (d := 119) (v := .bool true) (w' := w17) rfl rfl rfl (rfl) ?_
  simp only [Act.put, sa, sz, ss]
  refine rest_set (d := 120) (v := .int .i64 14) (w' := w17) rfl rfl rfl (rfl) ?_
  simp only [Act.put, sa, sz, ss]
  refine rest_set (d := 121) (v := .bool true) (w' := w17) rfl rfl rfl (by kernel_rfl) ?_
  simp only [Act.put, sa, sz, ss]
  refine rest_set (d := 122) (v := .bool true) (w' := w17) rfl rfl rfl (by go_simp) ?_
  simp only [Act.put, sa, sz, ss]
  refine rest_set (d := 8) (v := .bool true) (w' := w17) rfl rfl rfl (rfl) ?_
  simp only [Act.put, sa, sz, ss]
  refine rest_nil (then_normal (wp_ret ?_))
  repeat (first | refine then_ret ?_ | refine block_ret ?_)
  refine bodyPost_ret (v := .bool true) (by simp [results, Try.results11, go_sem, *]) rfl ?_
  exact ⟨rfl, H17.out.2⟩
theorem back_any (m : Nat) (pl1 : Option Addr) (c1 g1 o1 : Nat) (P1 : Nat → Pt8) (hm : m ≤ 9223372036854775807) (hb : ∀ i, i < m → ∀ j, j < (P1 i).n → (P1 i).f j < 256) (q : Pt8) (hqo : Pok q) (hqn : q.p = none → q.cp = 0) (_ : ∀ j, j < q.n → q.f j < 256) (a : Int) (_ : -9223372036854775808 ≤ a ∧ a ≤ 9223372036854775807) (d : Int) (_ : -9223372036854775808 ≤ d ∧ d ≤ 9223372036854775807) (w : World) (hl : Lv pl1 g1 o1 m P1 w) (hr : q.rs w) : Calls Try.prog 11 #[.slice pl1 m c1, .slice q.p q.n q.cp, .int .i64 a, .int .i64 d] w fun e w' => e = .returned (.bool true) ∧ Below w.heap.size w w' := by
  cases hs : shb P1 m with
  | false => exact back_long m pl1 c1 g1 o1 P1 hm q a d hs w hl
  | true =>
    by_cases h5 : 500 < q.n
    · exact back_more m pl1 c1 g1 o1 P1 hm q a d hs h5 w hl
    · obtain ⟨k1, k2⟩ := of_decide_eq_true hs
      have hA : lA P1 m ≤ 15360 := Nat.le_trans (lA_le k1) (by omega)
      rcases Nat.eq_zero_or_pos (lA P1 m) with e | e
      · exact back_none m pl1 c1 g1 o1 P1 hm q a d k2 hs (by omega) e w hl ⟨hqo, hr⟩ hqn k1 hb
      · exact back_some m pl1 c1 g1 o1 P1 hm q a d k2 hs (by omega) hA e w hl ⟨hqo, hr⟩ hqn k1 hb
end Wi
end Rg
end Go.Proofs.Ytidicdlfjdlpnaa
end
section
namespace Go.Proofs.Ytidicdlfjdlpnaa
open Go.ChangeMaps Go.ChangeShapes Go.WideShapes Go.ChangeAt Go.RowKit
open Rg.Wi
theorem Try.own : ownKnob Try.prog.godebug = none := by kernel_rfl
theorem Try.laidOut : laidOutB Try.prog = true := by kernel_rfl
theorem Try.cells5 : Try.prog.cellsOf 5 = 1 := by kernel_rfl
theorem Try.cells34 : Try.prog.cellsOf 34 = 1 := by kernel_rfl
section
variable {H : Type} {enc : TypeId × Value → H} {w : World} {base : Nat} {sp : Nat → Bool} {held : Bool}
set_option maxRecDepth 100000 in
theorem open_pt {fuel : Nat} {cs : List Value} {y : DataW H × List MemPlace} (hf : DataW.trod enc Try.prog w base sp held fuel 34 cs = some y) :
    ∃ q : Pt8, cs = [.slice q.p q.n q.cp] ∧ Pok q ∧ (q.p = none → q.cp = 0) ∧ q.rs w ∧ (∀ j, j < q.n → q.f j < 256) ∧ q.cp ≤ maxLen ∧ ∀ x ∈ y.2, x.block < w.heap.size := by
  rcases open_ints Try.underlying34 Try.underlying5 Try.cells5 hf with ⟨hcs, hx⟩ | ⟨a, len, cap, zs, hcs, _, hl, hm, hz, hx, hcell, hwz⟩
  · subst hcs hx
    exact ⟨⟨0, 0, 0, 0, none, fun _ => 0⟩, rfl, ⟨Bv.void _ _ _ _ _, Nat.le_refl _⟩, fun _ => rfl, Rs.void _ _ _ _, fun j hj => absurd hj (Nat.not_lt_zero _), Nat.zero_le _, by simp⟩
  · subst hcs hx
    have hlz : len ≤ zs.length := by rw [hz]; split <;> omega
    have hps : ∀ x ∈ MemPlace.row a zs.length, x.block < w.heap.size := fun x hx => by
      obtain ⟨i, hi, rfl⟩ := MemPlace.mem_row.1 hx
      have := World.block_lt_of_cell? w _ (hcell i hi)
      obtain ⟨b, off, rfl, _⟩ := ints_at hcell (by omega)
      exact World.block_lt_of_cell? w _ (hcell 0 (by omega))
    have hb : ∀ i, i < zs.length → 0 ≤ zs.getD i 0 ∧ zs.getD i 0 < 256 := fun i hi => by
      rw [List.getD_eq_getElem?_getD, List.getElem?_eq_getElem hi]
      have := bounds_u8 (hwz _ (List.getElem_mem hi))
      exact ⟨this.1, by show zs[i] < 256; omega⟩
    by_cases h0 : len = 0
    · subst h0
      exact ⟨⟨0, 0, 0, cap, some a, fun _ => 0⟩, rfl, ⟨Bv.void _ _ _ _ _, hl⟩, (fun e => by cases e), Rs.void _ _ _ _, fun j hj => absurd hj (Nat.not_lt_zero _), hm, hps⟩
    · obtain ⟨b, off, rfl, hc⟩ := ints_at hcell (by omega)
      refine ⟨⟨b, off, len, cap, some ⟨b, off, none⟩, fun i => (zs.getD i 0).toNat⟩, rfl, ⟨Bv.start _ _ _ _, hl⟩, (fun e => by cases e), ⟨fun _ => World.block_lt_of_cell? w _ (hc 0 (by omega)), fun i hi => ?_⟩, fun j hj => ?_, hm, hps⟩
      · have h1 : i < len := hi
        rw [hc i (by omega)]
        have := hb i (by omega)
        show some (Value.int .u8 (zs.getD i 0)) = some (Value.int .u8 (((zs.getD i 0).toNat : Nat) : Int))
        rw [show ((((zs.getD i 0).toNat : Nat)) : Int) = zs.getD i 0 from Int.toNat_of_nonneg this.1]
      · have h1 : j < len := hj
        have := hb j (by omega)
        show (zs.getD j 0).toNat < 256
        omega
variable {r : Reach} {b0 : Nat} {v : Value} {d : DataW H} {ps : List MemPlace}
set_option maxRecDepth 100000 in
theorem open_bytesQ (hval : Value.okWide Try.prog w r b0 34 v) (hd : DataW.Trod enc Try.prog w base sp held 34 v d ps) :
    ∃ q : Pt8, v = .slice q.p q.n q.cp ∧ Pok q ∧ (q.p = none → q.cp = 0) ∧ q.rs w ∧ (∀ j, j < q.n → q.f j < 256) ∧ q.cp ≤ maxLen ∧ ∀ x ∈ ps, x.block < w.heap.size := by
  obtain ⟨a0, len, cap, rfl⟩ := okWide_slice Try.underlying34 hval
  obtain ⟨fuel, hf⟩ := hd
  obtain ⟨q, h1, h2⟩ := open_pt hf
  simp [Value.cells] at h1
  exact ⟨q, by rw [h1.1, h1.2.1, h1.2.2], h2⟩
set_option maxRecDepth 100000 in
theorem open_listQ (hval : Value.okWide Try.prog w r b0 61 v) (hd : DataW.Trod enc Try.prog w base sp held 61 v d ps) :
    ∃ pl c g o m P, v = .slice pl m c ∧ Lv pl g o m P w ∧ m ≤ 9223372036854775807 ∧ (∀ i, i < m → ∀ j, j < (P i).n → (P i).f j < 256) ∧ ∀ x ∈ ps, x.block < w.heap.size := by
  obtain ⟨a0, len0, cap0, rfl⟩ := okWide_slice Try.underlying61 hval
  obtain ⟨fuel, hf⟩ := hd
  rcases DataW.trod_slice Try.underlying61 hf with ⟨hcs, hx⟩ | ⟨a, len, cap, elems, rest, n, _, hcs, hx, hb, hl, hm, hlen, hel, hsp, hns⟩
  · simp [Value.cells] at hcs
    obtain ⟨rfl, rfl, rfl⟩ := hcs
    simp only [Prod.mk.injEq] at hx
    obtain ⟨_, rfl⟩ := hx
    exact ⟨none, 0, 0, 0, 0, fun _ => nilp (fun _ => 0), rfl, ⟨fun h => absurd h (by decide), fun h => absurd h (by decide), fun i hi => absurd hi (Nat.not_lt_zero _), fun i hi => absurd hi (Nat.not_lt_zero _)⟩, by decide, fun i hi => absurd hi (Nat.not_lt_zero _), by simp⟩
  · simp [Value.cells] at hcs
    obtain ⟨rfl, rfl, rfl⟩ := hcs
    simp only [Prod.mk.injEq] at hx
    obtain ⟨rfl, rfl⟩ := hx
    rw [Try.cells34] at hel hsp
    simp only [Nat.mul_one] at hel hsp
    have part : ∀ i, ∃ q : Pt8, i < len0 → w.cell? (a.add i) = some (.slice q.p q.n q.cp) ∧ Pok q ∧ (q.p = none → q.cp = 0) ∧ q.rs w ∧ ∀ j, j < q.n → q.f j < 256 := fun i => by
      by_cases hi : i < len0
      · have h1 := hel i hi
        have hi2 : i < elems.length := by omega
        rw [List.getElem?_eq_getElem hi2, Option.bind_eq_some_iff] at h1
        obtain ⟨cs', hc', hy⟩ := h1
        obtain ⟨q, rfl, h2, h3, h4, h5, _⟩ := open_pt hy
        exact ⟨q, fun _ => ⟨cell_of_cells?_one hc', h2, h3, h4, h5⟩⟩
      · exact ⟨nilp (fun _ => 0), fun h => absurd h hi⟩
    obtain ⟨X, hX⟩ := Classical.axiomOfChoice part
    have hall : ∀ i, i < elems.length + rest.length → ∃ c, w.cell? (a.add i) = some c := fun i hi => by
      by_cases h : i < len0
      · exact ⟨_, (hX i h).1⟩
      · cases hs : sp a.block with
        | false => rw [hns hs] at hi; simp at hi; omega
        | true =>
          obtain ⟨hrl, hr⟩ := hsp hs
          have h1 := hr (i - len0) (by omega)
          rw [List.getElem?_eq_getElem (by omega : i - len0 < rest.length), Option.bind_eq_some_iff, show len0 + (i - len0) = i by omega] at h1
          obtain ⟨cs', hc', hy⟩ := h1
          obtain ⟨q, rfl, _⟩ := open_pt hy
          exact ⟨_, cell_of_cells?_one hc'⟩
    have hrest : ∀ y ∈ elems ++ rest, ∀ x ∈ y.2, x.block < w.heap.size := fun y hy => by
      rcases List.mem_append.1 hy with h | h
      · obtain ⟨i, hi, rfl⟩ := List.getElem_of_mem h
        have h1 := hel i (by omega)
        rw [List.getElem?_eq_getElem hi, Option.bind_eq_some_iff] at h1
        obtain ⟨cs', _, hy'⟩ := h1
        obtain ⟨q, _, _, _, _, _, _, h6⟩ := open_pt hy'
        exact h6
      · cases hs : sp a.block with
        | false => rw [hns hs] at h; cases h
        | true =>
          obtain ⟨hrl, hr⟩ := hsp hs
          obtain ⟨i, hi, rfl⟩ := List.getElem_of_mem h
          have h1 := hr i (by omega)
          rw [List.getElem?_eq_getElem hi, Option.bind_eq_some_iff] at h1
          obtain ⟨cs', _, hy'⟩ := h1
          obtain ⟨q, _, _, _, _, _, _, h6⟩ := open_pt hy'
          exact h6
    have hps : ∀ x ∈ MemPlace.row a ((elems.length + rest.length) * Try.prog.cellsOf 34) ++ (elems ++ rest).flatMap (·.2), x.block < w.heap.size := fun x hx => by
      rcases List.mem_append.1 hx with h | h
      · rw [Try.cells34, Nat.mul_one] at h
        obtain ⟨i, hi, rfl⟩ := MemPlace.mem_row.1 h
        obtain ⟨c, hc⟩ := hall i hi
        have := World.block_lt_of_cell? w _ hc
        rw [add_block] at this
        exact this
      · obtain ⟨y, hy, hxy⟩ := List.mem_flatMap.1 h
        exact hrest y hy x hxy
    have hml : len0 ≤ 9223372036854775807 := by unfold maxLen at hm; omega
    by_cases h0 : len0 = 0
    · subst h0
      exact ⟨some a, cap0, 0, 0, 0, X, rfl, ⟨fun h => absurd h (by decide), fun h => absurd h (by decide), fun i hi => absurd hi (Nat.not_lt_zero _), fun i hi => absurd hi (Nat.not_lt_zero _)⟩, by decide, fun i hi => absurd hi (Nat.not_lt_zero _), hps⟩
    · obtain ⟨b, off, spot⟩ := a
      have hspot : spot = none := by simpa [Addr.add] using World.cell?_spot (hX 0 (by omega)).1
      subst hspot
      have hcl : ∀ i, i < len0 → w.cell? ⟨b, off + i, none⟩ = some (.slice (X i).p (X i).n (X i).cp) := fun i hi => by
        have h1 := (hX i hi).1
        rw [Go.WideShapes.add_plain] at h1
        exact h1
      exact ⟨some ⟨b, off, none⟩, cap0, b, off, len0, X, rfl, ⟨fun _ => rfl, fun _ => World.block_lt_of_cell? w _ (hcl 0 (by omega)), hcl, fun i hi => ⟨(hX i hi).2.1, (hX i hi).2.2.1, (hX i hi).2.2.2.1⟩⟩, hml, fun i hi => (hX i hi).2.2.2.2, hps⟩
end
end Go.Proofs.Ytidicdlfjdlpnaa
end
