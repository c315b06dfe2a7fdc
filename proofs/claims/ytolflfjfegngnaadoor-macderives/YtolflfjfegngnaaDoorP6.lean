/- Texts of the proof, joined. -/
import Derived.Test.YtolflfjfegngnaaDoorP5
section
namespace Go.Proofs.YtolflfjfegngnaaDoor
open Go.RowKit
namespace Rg
set_option maxRecDepth 100000
/-- The document's codes of an expansion. -/
def td (K f : Nat → Nat) (m : Nat) : Nat → Nat → Nat
  | 0 => fun _ => 0
  | k + 1 => dh K (ct (ct (td K f m k) (ln k) f) (ln k + m) (fun _ => bi k)) (ln k + m + 1)
def xd (K f : Nat → Nat) (m : Nat) : Nat → Nat := fun j => td K f m (j / 32 + 1) (j % 32)
theorem xd_next (K f : Nat → Nat) (m k j : Nat) (hj : j < 32 * k + 32) : ct (xd K f m) (32 * k) (td K f m (k + 1)) j = xd K f m j := by
  unfold ct
  by_cases h : j < 32 * k
  · rw [if_pos h]
  · rw [if_neg h]
    unfold xd
    rw [show j / 32 = k by omega, show j - 32 * k = j % 32 by omega]
theorem td_lt (K f : Nat → Nat) (m : Nat) : ∀ k j, td K f m k j < 256
  | 0, _ => by show (0 : Nat) < 256; decide
  | _ + 1, _ => ds_lt _ _ _
/-- The program's codes are the document's. -/
theorem tt_td {K K' f f' : Nat → Nat} {m : Nat} (hK : ∀ j, j < 64 → K j = K' j) (h : ∀ j, j < m → f j = f' j) (hf : ∀ j, f' j < 256) (hm : m ≤ 900000) : ∀ k j, j < 32 → tt K f m k j = td K' f' m k j
  | 0, _, _ => rfl
  | k + 1, j, hj => by
    have hl := ln_le k
    refine hmc_dh hK (fun i hi => ?_) (ct_lt (ct_lt (td_lt _ _ _ _) hf) (fun _ => Nat.mod_lt _ (by decide))) (by omega) j hj
    refine ct_cg (ct_cg (fun i hi => tt_td hK h hf hm k i (by omega)) h) (fun _ _ => rfl) i hi
theorem xpd_xd {K K' f f' : Nat → Nat} {m : Nat} (hK : ∀ j, j < 64 → K j = K' j) (h : ∀ j, j < m → f j = f' j) (hf : ∀ j, f' j < 256) (hm : m ≤ 900000) (j : Nat) : xpd K f m j = xd K' f' m j := tt_td hK h hf hm _ _ (Nat.mod_lt _ (by decide))
theorem Ow.nil (P : Nat → Nat) (w : World) : Ow w [] (.slice none 0 0) 0 P w := ⟨Below.refl _ _, World.ownsRow_nil _ _ _ _, fun g hg => by cases hg⟩
theorem Ow.form0 {w w1 : World} {L : List Nat} {n : Nat} {vv : Value} {P : Nat → Nat} (h : Ow w L vv n P w1) : ∃ p c, vv = .slice p n c := by
  rcases h.own.2 with ⟨h1, h2⟩ | ⟨g, cap, cur, h1, _⟩
  · subst h2
    exact ⟨_, _, h1⟩
  · exact ⟨_, _, h1⟩
theorem Ow.form {w w1 : World} {L : List Nat} {n : Nat} {vv : Value} {P : Nat → Nat} (h : Ow w L vv n P w1) (hn : 0 < n) : ∃ g x, vv = .slice (some ⟨g, 0, none⟩) n (n + x) := by
  rcases h.own.2 with ⟨_, h2⟩ | ⟨g, cap, cur, h1, _, _, h4, _⟩
  · omega
  · exact ⟨g, cap - n, by rw [h1, show n + (cap - n) = cap by omega]⟩
theorem Ow.rs {w w1 : World} {L : List Nat} {n g c : Nat} {P : Nat → Nat} (h : Ow w L (.slice (some ⟨g, 0, none⟩) n c) n P w1) : Rs g 0 n P w1 := by
  refine ⟨fun _ => (World.ownsRow.lt h.own g rfl).2, fun i hi => ?_⟩
  have := World.ownsRow.cells h.own (g := g) rfl i _ (ints_get .u8 P hi)
  rw [show (⟨g, 0, none⟩ : Addr).add i = ⟨g, 0 + i, none⟩ by unfold Addr.add; split <;> simp_all] at this
  exact this
/-- The outer slice meets a block that was made behind it. -/
theorem Ow.meet {w w1 w2 : World} {n : Nat} {vv : Value} {P : Nat → Nat} (h : Ow w [] vv n P w1) (hb : Below w1.heap.size w1 w2) {g : Nat} (hg : w1.heap.size ≤ g) : Ow w [g] vv n P w2 :=
  ⟨(h.step hb).b, (h.step hb).own, fun k hk e => by
    rw [List.mem_singleton.1 hk] at e
    have := (World.ownsRow.lt h.own _ e.symm).2
    omega⟩
theorem Ow.less {w w1 : World} {L : List Nat} {n : Nat} {vv : Value} {P : Nat → Nat} (h : Ow w L vv n P w1) : Ow w [] vv n P w1 := ⟨h.b, h.own, fun g hg => by cases hg⟩
/-- The outer slice, and a part that can be read. -/
structure Oq (q : Pt8) (w : World) (vv : Value) (n : Nat) (P : Nat → Nat) (w' : World) : Prop where
  o : Ow w [] vv n P w'
  r : q.rs w'
theorem Oq.step {q : Pt8} {w w1 w2 : World} {vv : Value} {n : Nat} {P : Nat → Nat} (h : Oq q w vv n P w1) (hb : Below w1.heap.size w1 w2) : Oq q w vv n P w2 := ⟨h.o.step hb, h.r.below hb⟩
theorem Oq.size {q : Pt8} {w w1 : World} {vv : Value} {n : Nat} {P : Nat → Nat} (h : Oq q w vv n P w1) : w.heap.size ≤ w1.heap.size := h.o.b.size
section
variable {ρ : Operand → Value} {o : Oper} {x y : Operand} {a : Nat} {w : World}
theorem ex_cv3_5 {c : Nat} (hc : a % 256 = c) (ho : o.op = .convert 3 5 x) (hx : ρ x = .int .i64 (a : Int)) : (execOp ρ o).run Tryd.prog w = .ok (.value (Z8 c)) w := by
  subst hc
  simp only [execOp, ho, hx]
  clear ho hx
  go_simp
  first | done | simp [IntKind.wrap, IntKind.bits, IntKind.signed]
end
set_option maxHeartbeats 8000000 in
set_option maxRecDepth 100000 in
theorem dExpand_pos (a b : Pt8) (n : Nat) (ha : Pok a) (hb : Pok b) (hNa0 : a.p = none → a.cp = 0) (hNb0 : b.p = none → b.cp = 0) (hna : a.n ≤ 1048576) (hnb : b.n ≤ 900000) (hn : n ≤ 8160) (h0 : 0 < n) (w : World) (hRa : a.rs w) (hRb : b.rs w) :
    Calls Tryd.prog 38 #[.slice a.p a.n a.cp, .slice b.p b.n b.cp, .int .i64 ((n : Nat) : Int)] w fun e w' => ∃ v c, e = .returned (.tuple #[v, .int .i64 0]) ∧ BSl w' ((List.range n).map fun i => ((xd (kd a.f a.n) b.f b.n i : Nat) : Int)) c v ∧ Below w.heap.size w w' := by
  have H0 : Hid (_ ∧ _) := ⟨Mm.nil w, Ow.nil (xd (kd a.f a.n) b.f b.n) w⟩
  have RA : Hid (a.rs w) := hRa
  have RB : Hid (b.rs w) := hRb
  have hNa : Hid _ := hNa0
  have hNb : Hid _ := hNb0
  obtain ⟨NN, hNN⟩ : ∃ NN, NN = (n + 31) / 32 := ⟨_, rfl⟩
  clear hRa hRb hNa0 hNb0
  obtain ⟨w0, rfl⟩ : ∃ w0, w0 = w := ⟨w, rfl⟩
  go_enter Tryd.func38, Tryd.ntmps38
  refine wp_seq ?_
  refine walk_seqA 2 [.quiet (.slice none 0 0), .quiet (.int .i64 0)] (sB H0) ?ho1 ?he1
  case ho1 => exact ak (fun _ => ⟨rfl, fun _ _ => rfl⟩) (ak (fun _ => ⟨rfl, fun _ _ => rfl⟩) trivial)
  intro γ w1 l hM hl
  have M1 : Mm w1 [] := H0.out.1.grow hM (Nat.le_refl _) hl [] rfl (by decide)
  have B1 : Ow w0 [] (.slice none 0 0) 0 (xd (kd a.f a.n) b.f b.n) w1 := Ow.step H0.out.2 (hM.below)
  clear hM hl l
  clear γ
  have H1 : Hid (_ ∧ _) := ⟨M1, B1⟩
  clear M1 B1
  refine rest0 rfl (then_normal (wp_seq (wp_seq ?_)))
  refine walk_seqA 6 [.quiet (.int .i64 ((n : Nat) : Int)), .quiet (.bool false), .quiet (.bool false), .quiet (.int .i64 ((n : Nat) : Int)), .quiet (.bool false), .quiet (.bool false)] (sB H1) ?ho2 ?he2
  case ho2 => exact ak (fun _ => ⟨rfl, fun _ _ => rfl⟩) (ak (by refine fun γ => ⟨rfl, fun w' h => ?_⟩; clear h; go_simp <;> omega) (ak (fun _ => ⟨rfl, fun _ _ => rfl⟩) (ak (fun _ => ⟨rfl, fun _ _ => rfl⟩) (ak (by refine fun γ => ⟨rfl, fun w' h => ?_⟩; clear h; go_simp <;> omega) (ak (by refine fun γ => ⟨rfl, fun w' h => ?_⟩; clear h; go_simp) trivial)))))
  intro γ w2 l hM hl
  have M2 : Mm w2 [] := H1.out.1.grow hM (Nat.le_refl _) hl [] rfl (by decide)
  have B2 : Ow w0 [] (.slice none 0 0) 0 (xd (kd a.f a.n) b.f b.n) w2 := Ow.step H1.out.2 (hM.below)
  clear hM hl l H1
  clear γ
  have H2 : Hid (_ ∧ _) := ⟨M2, B2⟩
  clear M2 B2
  refine rest0 rfl (then_normal (wp_cond_false rfl ?_))
  refine wp_skip (then_normal (wp_seq ?_))
  refine walk_seqA 2 [.quiet (.slice none 0 0), .quiet (.slice none 0 0)] (sB H2) ?ho3 ?he3
  case ho3 => exact ak (fun _ => ⟨rfl, fun _ _ => rfl⟩) (ak (fun _ => ⟨rfl, fun _ _ => rfl⟩) trivial)
  intro γ w3 l hM hl
  have M3 : Mm w3 [] := H2.out.1.grow hM (Nat.le_refl _) hl [] rfl (by decide)
  have B3 : Ow w0 [] (.slice none 0 0) 0 (xd (kd a.f a.n) b.f b.n) w3 := Ow.step H2.out.2 (hM.below)
  clear hM hl l H2
  clear γ
  have H3 : Hid (_ ∧ _) := ⟨M3, B3⟩
  clear M3 B3
  refine rest0 rfl (then_normal (wp_seq (wp_seq ?_)))
  refine walk_seqA 1 [.quiet (.int .i64 1)] (sB H3) ?ho4 ?he4
  case ho4 => exact ak (fun _ => ⟨rfl, fun _ _ => rfl⟩) trivial
  intro γ w4 l hM hl
  have M4 : Mm w4 [] := H3.out.1.grow hM (Nat.le_refl _) hl [] rfl (by decide)
  have B4 : Ow w0 [] (.slice none 0 0) 0 (xd (kd a.f a.n) b.f b.n) w4 := Ow.step H3.out.2 (hM.below)
  clear hM hl l H3
  clear γ
  have H4 : Hid (_ ∧ _) := ⟨M4, B4⟩
  clear M4 B4
  refine rest0 rfl (then_normal (wp_block ?_))
  refine loop_ghost (α := Nat) (fun k a' w' => ∃ s0 : Nat → Value, a' = ⟨#[.slice a.p a.n a.cp, .slice b.p b.n b.cp, .int .i64 ((n : Nat) : Int), undef, undef, undef, .slice none 0 0, .int .i64 0, s0 8, s0 9, .int .i64 ((k + 1 : Nat) : Int), s0 11, s0 12, .int .i64 ((n : Nat) : Int), .bool false, .bool false, .int .i64 ((n : Nat) : Int), .bool false, .bool false, s0 19, s0 20, s0 21, s0 22, s0 23, s0 24, s0 25, s0 26, s0 27, s0 28, s0 29, s0 30, s0 31, s0 32, s0 33, s0 34, s0 35, s0 36, s0 37, s0 38, s0 39, s0 40, s0 41, s0 42, s0 43, undef, undef, undef], []⟩ ∧ (Mm w' [] ∧ Ow w0 [] (s0 8) (32 * k) (xd (kd a.f a.n) b.f b.n) w') ∧ k ≤ NN ∧ ∃ q : Pt8, s0 9 = .slice q.p q.n q.cp ∧ Pok q ∧ (q.p = none → q.cp = 0) ∧ q.n = ln k ∧ (∀ j, j < q.n → q.f j = td (kd a.f a.n) b.f b.n k j) ∧ q.rs w') (fun k => NN - k) 0 ?st0 ?rd0
  case st0 => exact ⟨(slotfn [undef, undef, undef, undef, undef, undef, undef, undef, .slice none 0 0, .slice none 0 0, undef, undef, undef, undef, undef, undef, undef, undef, undef, undef, undef, undef, undef, undef, undef, undef, undef, undef, undef, undef, undef, undef, undef, undef, undef, undef, undef, undef, undef, undef, undef, undef, undef, undef]), rfl, ⟨H4.out.1, H4.out.2⟩, ⟨Nat.zero_le _, pno, rfl, pno_ok, fun _ => rfl, rfl, fun j hj => absurd hj (Nat.not_lt_zero _), pno_rs _⟩⟩
  intro k a' w5 hI
  obtain ⟨s0, rfl, hMB, hk0⟩ := hI
  have H5 : Hid (_ ∧ _) := hMB
  clear hMB H4
  by_cases hlt : k < NN
  · have hrd : True := trivial
    clear hrd
    have hlk := ln_le k
    obtain ⟨hkN, q, e9, hP, hqN, hqn, hqf, hqr⟩ := hk0
    rw [e9]
    clear e9
    have hQ : Hid (Pok q ∧ (q.p = none → q.cp = 0) ∧ q.n = ln k ∧ ∀ j, j < q.n → q.f j = td (kd a.f a.n) b.f b.n k j) := ⟨hP, hqN, hqn, hqf⟩
    clear hP hqN hqn hqf
    obtain ⟨p8, c8, e8⟩ := H5.out.2.form0
    rw [e8] at H5 ⊢
    clear e8
    have H6 : Hid (Mm w5 [] ∧ Oq q w0 (.slice p8 (32 * k) c8) (32 * k) (xd (kd a.f a.n) b.f b.n) w5) := ⟨H5.out.1, H5.out.2, hqr⟩
    clear hqr H5
    refine wp_seq (wp_seq ?_)
    refine walk_seqA 4 [.quiet (.slice p8 (32 * k) c8), .quiet (.int .i64 ((32 * k : Nat) : Int)), .quiet (.int .i64 ((n : Nat) : Int)), .quiet (.bool true)] (sB H6) ?ho5 ?he5
    case ho5 => exact ak (fun _ => ⟨rfl, fun _ _ => rfl⟩) (ak (by refine fun γ => ⟨rfl, fun w' h => ?_⟩; clear h; go_simp) (ak (fun _ => ⟨rfl, fun _ _ => rfl⟩) (ak (by refine fun γ => ⟨rfl, fun w' h => ?_⟩; clear h; go_simp <;> omega) trivial)))
    intro γ w7 l hM hl
    have M7 : Mm w7 [] := H6.out.1.grow hM (Nat.le_refl _) hl [] rfl (by decide)
    have B7 : Oq q w0 (.slice p8 (32 * k) c8) (32 * k) (xd (kd a.f a.n) b.f b.n) w7 := Oq.step H6.out.2 (hM.below)
    clear hM hl l H6
    clear γ
    have H7 : Hid (_ ∧ _) := ⟨M7, B7⟩
    clear M7 B7
    refine rest0 rfl (then_normal (wp_cond_true rfl ?_))
    refine wp_skip (then_normal ?_)
    refine wp_seq (wp_block (wp_seq ?_))
    have HB : Hid (Ow w0 [] (.slice p8 (32 * k) c8) (32 * k) (xd (kd a.f a.n) b.f b.n) w7) := H7.out.2.o
    have RQ : Hid (q.rs w7) := H7.out.2.r
    have RA2 : Hid (a.rs w7) := RA.out.below H7.out.2.o.b
    have RB2 : Hid (b.rs w7) := RB.out.below H7.out.2.o.b
    clear H7
    generalize w7 = w at HB RQ RA2 RB2 ⊢
    have H8 : Hid (Mm w [] ∧ Below w.heap.size w w) := ⟨Mm.nil w, Below.refl _ _⟩
    refine walk_seqB 0 [] H8 ?ho6 ?he6
    case ho6 => exact trivial
    intro _ w9 H9
    clear H8
    refine rest_at (l := [0, 1, 2, 3]) rfl ?_
    refine rest_set (d := 25) (v := .slice (some ⟨w9.heap.size, 0, none⟩) 0 0) (w' := (w9.alloc (.cells #[] 5))) rfl rfl rfl (ex_bs0 rfl) ?_
    simp only [Act.put, sa, sz, ss]
    have hz := Zo.made (fun _ => 0) H9.out.1 H9.out.2
    have H10 : Hid (Mm (w9.alloc (.cells #[] 5)) [] ∧ Zo w w9.heap.size [] (.slice (some ⟨w9.heap.size, 0, none⟩) 0 0) 0 (fun _ => 0) (w9.alloc (.cells #[] 5))) := ⟨hz.m, hz⟩
    clear hz H9
    generalize hgw : (w9.alloc (.cells #[] 5)) = w10 at H10 ⊢
    clear hgw
    generalize w9.heap.size = γb10 at H10 ⊢
    refine rest_set (d := 26) (v := .slice q.p q.n q.cp) (w' := w10) rfl rfl rfl rfl ?_
    simp only [Act.put, sa, sz, ss]
    obtain ⟨v11, w11, hr, hZ⟩ := H10.out.2.appQ (q := q) hQ.out.1.bv hQ.out.2.1 (RQ.out.below H10.out.2.b) (by have := hQ.out.2.2.1; have := ln_le k; omega) 22
    refine rest_set (d := 27) (v := v11) (w' := w11) rfl rfl rfl (ex_app rfl rfl rfl hr) ?_
    simp only [Act.put, sa, sz, ss]
    have hZ2 : Zo w γb10 [] v11 (ln k) (td (kd a.f a.n) b.f b.n k) w11 := by rw [Nat.zero_add, hQ.out.2.2.1] at hZ; exact hZ.cg (fun j hj => by rw [ct_zero]; exact hQ.out.2.2.2 j (by rw [hQ.out.2.2.1]; exact hj))
    have H11 : Hid (Mm w11 [] ∧ Zo w γb10 [] v11 (ln k) (td (kd a.f a.n) b.f b.n k) w11) := ⟨hZ2.m, hZ2⟩
    clear hr hZ hZ2 H10
    refine rest_set (d := 11) (v := v11) (w' := w11) rfl rfl rfl rfl ?_
    simp only [Act.put, sa, sz, ss]
    refine rest_nil (then_normal (wp_seq ?_))
    refine walk_seqA 2 [.quiet (v11), .quiet (.slice b.p b.n b.cp)] (sB H11) ?ho7 ?he7
    case ho7 => exact ak (fun _ => ⟨rfl, fun _ _ => rfl⟩) (ak (fun _ => ⟨rfl, fun _ _ => rfl⟩) trivial)
    intro γ w12 l hM hl
    have M12 : Mm w12 [] := H11.out.1.grow hM (Nat.le_refl _) hl [] rfl (by decide)
    have B12 : Zo w γb10 [] v11 (ln k) (td (kd a.f a.n) b.f b.n k) w12 := Zo.step H11.out.2 (hM.below)
    clear hM hl l H11
    clear γ
    have H12 : Hid (_ ∧ _) := ⟨M12, B12⟩
    clear M12 B12
    refine rest_at (l := [2, 3]) rfl ?_
    obtain ⟨v13, w13, hr, hZ⟩ := H12.out.2.appQ (q := b) hb.bv hNb.out (RB2.out.below H12.out.2.b) (by omega) 22
    refine rest_set (d := 30) (v := v13) (w' := w13) rfl rfl rfl (ex_app rfl rfl rfl hr) ?_
    simp only [Act.put, sa, sz, ss]
    have hZ2 : Zo w γb10 [] v13 (ln k + b.n) (ct (td (kd a.f a.n) b.f b.n k) (ln k) b.f) w13 := hZ
    have H13 : Hid (Mm w13 [] ∧ Zo w γb10 [] v13 (ln k + b.n) (ct (td (kd a.f a.n) b.f b.n k) (ln k) b.f) w13) := ⟨hZ2.m, hZ2⟩
    clear hr hZ hZ2 H12
    refine rest_set (d := 11) (v := v13) (w' := w13) rfl rfl rfl rfl ?_
    simp only [Act.put, sa, sz, ss]
    refine rest_nil (then_normal (wp_seq ?_))
    refine walk_seqA 4 [.quiet (.slice a.p a.n a.cp), .quiet (v13), .quiet (.int .i64 ((k + 1 : Nat) : Int)), .quiet (Z8 (bi k))] (sB H13) ?ho8 ?he8
    case ho8 => exact ak (fun _ => ⟨rfl, fun _ _ => rfl⟩) (ak (fun _ => ⟨rfl, fun _ _ => rfl⟩) (ak (fun _ => ⟨rfl, fun _ _ => rfl⟩) (ak (fun γ => ⟨rfl, fun w' _ => ex_cv3_5 (a := k + 1) rfl rfl rfl⟩) trivial)))
    intro γ w14 l hM hl
    have M14 : Mm w14 [] := H13.out.1.grow hM (Nat.le_refl _) hl [] rfl (by decide)
    have B14 : Zo w γb10 [] v13 (ln k + b.n) (ct (td (kd a.f a.n) b.f b.n k) (ln k) b.f) w14 := Zo.step H13.out.2 (hM.below)
    clear hM hl l H13
    clear γ
    have H14 : Hid (_ ∧ _) := ⟨M14, B14⟩
    clear M14 B14
    refine rest_at (l := [4, 5, 6, 7, 8]) rfl ?_
    refine rest_set (d := 35) (v := .slice (some ⟨w14.heap.size, 0, none⟩) 1 1) (w' := (w14.alloc (.cells ([Z8 (bi k)] : List Value).toArray 5))) rfl rfl rfl (ex_bs1 (a := bi k) rfl rfl) ?_
    simp only [Act.put, sa, sz, ss]
    have H15 : Hid (Mm (w14.alloc (.cells ([Z8 (bi k)] : List Value).toArray 5)) [] ∧ Zo w γb10 [] v13 (ln k + b.n) (ct (td (kd a.f a.n) b.f b.n k) (ln k) b.f) (w14.alloc (.cells ([Z8 (bi k)] : List Value).toArray 5))) := ⟨(Zo.step H14.out.2 (((Below.refl _ _).alloc (Nat.le_refl _) _))).m, (Zo.step H14.out.2 (((Below.refl _ _).alloc (Nat.le_refl _) _)))⟩
    have C15 : Hid _ := cell_one w14 (bi k)
    clear H14
    generalize hgw : (w14.alloc (.cells ([Z8 (bi k)] : List Value).toArray 5)) = w15 at H15 C15 ⊢
    clear hgw
    generalize w14.heap.size = γs15 at C15 ⊢
    obtain ⟨v16, w16, hr, hZ⟩ := H15.out.2.app (a := ⟨γs15, 0, none⟩) 1 1 (fun _ => bi k) C15.out (by omega) 22
    refine rest_set (d := 36) (v := v16) (w' := w16) rfl rfl rfl (ex_app rfl rfl rfl hr) ?_
    simp only [Act.put, sa, sz, ss]
    have hZ2 : Zo w γb10 [] v16 (ln k + b.n + 1) (ct (ct (td (kd a.f a.n) b.f b.n k) (ln k) b.f) (ln k + b.n) (fun _ => bi k)) w16 := hZ
    have H16 : Hid (Mm w16 [] ∧ Zo w γb10 [] v16 (ln k + b.n + 1) (ct (ct (td (kd a.f a.n) b.f b.n k) (ln k) b.f) (ln k + b.n) (fun _ => bi k)) w16) := ⟨hZ2.m, hZ2⟩
    clear hr hZ hZ2 H15
    obtain ⟨g7, cap7, e7⟩ := H16.out.2.form (by omega)
    rw [e7] at H16 ⊢
    clear e7
    obtain ⟨x7, rfl⟩ : ∃ x, cap7 = ln k + b.n + 1 + x := ⟨cap7 - (ln k + b.n + 1), by have := H16.out.2.blk.2.2.1; omega⟩
    refine rest_enter (d := 37) (R := fun vv w' => vv = .agg (ints .u8 (td (kd a.f a.n) b.f b.n (k + 1)) 32).toArray ∧ Below w16.heap.size w16 w') rfl rfl rfl (exec_call (args := #[.slice a.p a.n a.cp, .slice (some ⟨g7, 0, none⟩) (ln k + b.n + 1) (ln k + b.n + 1 + x7)]) rfl call33 rfl (mpn rfl)) (Calls.mono (dCode_any a (pc g7 (ln k + b.n + 1) (ln k + b.n + 1 + x7) (ct (ct (td (kd a.f a.n) b.f b.n k) (ln k) b.f) (ln k + b.n) (fun _ => bi k))) ha (pc_ok _ _ _ _) hNa.out (fun e => by cases e) (by omega) (show ln k + b.n + 1 ≤ 1000000 by have := ln_le k; omega) w16 (RA2.out.below H16.out.2.b) H16.out.2.rs) (fun e w2 hh => ⟨_, hh.1, rfl, hh.2⟩)) ?_
    rintro _ w17 ⟨rfl, hb⟩
    have H17 : Hid (_ ∧ _) := ⟨H16.out.1.below hb, Zo.step H16.out.2 (hb)⟩
    clear hb H16
    simp only [Act.put, sa, sz, ss]
    have H18 : Hid (Mm w17 [] ∧ Below w.heap.size w w17) := ⟨H17.out.1, H17.out.2.b⟩
    clear  H17
    refine rest_set (d := 12) (v := PT w17.heap.size 0) (w' := (w17.alloc (.cells (ints .u8 (fun _ => 0) 32 : List Value).toArray 25))) rfl rfl rfl (ex_made25 rfl) ?_
    simp only [Act.put, sa, sz, ss]
    have o_γs19 : Hid (w.heap.size ≤ w17.heap.size) := H18.out.2.size
    have H19 : Hid (Mm (w17.alloc (.cells (ints .u8 (fun _ => 0) 32 : List Value).toArray 25)) ((w17.heap.size, ints .u8 (fun _ => 0) 32) :: []) ∧ Below w.heap.size w (w17.alloc (.cells (ints .u8 (fun _ => 0) 32 : List Value).toArray 25))) := ⟨H18.out.1.alloc _ 25 rfl, H18.out.2.trans (((Below.refl _ _).alloc (Nat.le_refl _) _).mono H18.out.2.size)⟩
    clear H18
    generalize hgw : (w17.alloc (.cells (ints .u8 (fun _ => 0) 32 : List Value).toArray 25)) = w19 at H19 ⊢
    clear hgw
    generalize w17.heap.size = γs19 at o_γs19 H19 ⊢
    refine rest_store rfl rfl rfl (ex_storeT (vs := ints .u8 (td (kd a.f a.n) b.f b.n (k + 1)) 32) H19.out.1 0 rfl rfl rfl rfl (by rw [ints_len]; exact Tryd.sizeOf25) (ints_all _ _ _) (by simp [ints_len])) ?_
    have H20 : Hid (Mm (w19.setCells γs19 0 (ints .u8 (td (kd a.f a.n) b.f b.n (k + 1)) 32)) [(γs19, ints .u8 (td (kd a.f a.n) b.f b.n (k + 1)) 32)] ∧ Below w.heap.size w (w19.setCells γs19 0 (ints .u8 (td (kd a.f a.n) b.f b.n (k + 1)) 32))) := ⟨by
      have h := H19.out.1.put 0 (off := 0) (vs := ints .u8 (td (kd a.f a.n) b.f b.n (k + 1)) 32) rfl (by simp [ints_len])
      rw [ints_patch0 _ _ _ _] at h
      exact h, below_setCells _ o_γs19.out _ _ _ H19.out.2⟩
    clear H19
    generalize hgw : World.setCells _ _ _ _ = w20 at H20 ⊢
    clear hgw
    refine rest_nil (then_normal (wp_seq ?_))
    refine walk_seqB 0 [] H20 ?ho9 ?he9
    case ho9 => exact trivial
    intro _ w21 H21
    clear H20
    refine rest_at (l := [0, 1, 2, 3]) rfl ?_
    refine rest_set (d := 38) (v := .slice (some ⟨w21.heap.size, 0, none⟩) 0 0) (w' := (w21.alloc (.cells #[] 5))) rfl rfl rfl (ex_bs0 rfl) ?_
    simp only [Act.put, sa, sz, ss]
    have hz := Zo.made (fun _ => 0) H21.out.1 H21.out.2
    have H22 : Hid (Mm (w21.alloc (.cells #[] 5)) [(γs19, ints .u8 (td (kd a.f a.n) b.f b.n (k + 1)) 32)] ∧ Zo w w21.heap.size [(γs19, ints .u8 (td (kd a.f a.n) b.f b.n (k + 1)) 32)] (.slice (some ⟨w21.heap.size, 0, none⟩) 0 0) 0 (fun _ => 0) (w21.alloc (.cells #[] 5))) := ⟨hz.m, hz⟩
    clear hz H21
    generalize hgw : (w21.alloc (.cells #[] 5)) = w22 at H22 ⊢
    clear hgw
    generalize w21.heap.size = γb22 at H22 ⊢
    refine rest_set (d := 39) (v := .slice (some ⟨γs19, 0, none⟩) 32 32) (w' := w22) rfl rfl rfl (ex_sl25 rfl rfl) ?_
    simp only [Act.put, sa, sz, ss]
    obtain ⟨v23, w23, hr, hZ⟩ := H22.out.2.app (a := ⟨γs19, 0, none⟩) 32 32 (td (kd a.f a.n) b.f b.n (k + 1)) (H22.out.1.rs 0 rfl (Nat.le_refl _)).add (by omega) 22
    refine rest_set (d := 40) (v := v23) (w' := w23) rfl rfl rfl (ex_app rfl rfl rfl hr) ?_
    simp only [Act.put, sa, sz, ss]
    have hZ2 : Zo w γb22 [(γs19, ints .u8 (td (kd a.f a.n) b.f b.n (k + 1)) 32)] v23 32 (td (kd a.f a.n) b.f b.n (k + 1)) w23 := by rw [Nat.zero_add] at hZ; exact hZ.cg (fun j _ => by rw [ct_zero])
    have H23 : Hid (Mm w23 [(γs19, ints .u8 (td (kd a.f a.n) b.f b.n (k + 1)) 32)] ∧ Zo w γb22 [(γs19, ints .u8 (td (kd a.f a.n) b.f b.n (k + 1)) 32)] v23 32 (td (kd a.f a.n) b.f b.n (k + 1)) w23) := ⟨hZ2.m, hZ2⟩
    clear hr hZ hZ2 H22
    refine rest_set (d := 9) (v := v23) (w' := w23) rfl rfl rfl rfl ?_
    simp only [Act.put, sa, sz, ss]
    refine rest_nil (then_normal ?_)
    refine walk_seqA 2 [.quiet (.slice p8 (32 * k) c8), .quiet (v23)] (sB H23) ?ho10 ?he10
    case ho10 => exact ak (fun _ => ⟨rfl, fun _ _ => rfl⟩) (ak (fun _ => ⟨rfl, fun _ _ => rfl⟩) trivial)
    intro γ w24 l hM hl
    have M24 : Mm w24 [(γs19, ints .u8 (td (kd a.f a.n) b.f b.n (k + 1)) 32)] := H23.out.1.grow hM (Nat.le_refl _) hl [] rfl (by decide)
    have B24 : Zo w γb22 [(γs19, ints .u8 (td (kd a.f a.n) b.f b.n (k + 1)) 32)] v23 32 (td (kd a.f a.n) b.f b.n (k + 1)) w24 := Zo.step H23.out.2 (hM.below)
    clear hM hl l H23
    clear γ
    have H24 : Hid (_ ∧ _) := ⟨M24, B24⟩
    clear M24 B24
    refine rest_at (l := [2, 3]) rfl ?_
    obtain ⟨g6, cap6, e6⟩ := H24.out.2.form (by decide)
    rw [e6] at H24 ⊢
    clear e6
    obtain ⟨hb1, hb2, hb3, hb4⟩ := H24.out.2.blk
    obtain ⟨x6, rfl⟩ : ∃ x, cap6 = 32 + x := ⟨cap6 - 32, by omega⟩
    have hM6 : Mm w24 [(g6, ints .u8 (td (kd a.f a.n) b.f b.n (k + 1)) 32)] := (H24.out.2.mm).one 0 rfl
    have hO6 := HB.out.meet H24.out.2.b (Nat.le_trans H24.out.2.lo hb1)
    obtain ⟨v25, w25, hr, hZ, hM⟩ := hO6.app hM6 rfl (a := ⟨g6, 0, none⟩) 32 (32 + x6) (td (kd a.f a.n) b.f b.n (k + 1)) (hM6.rs 0 rfl (Nat.le_refl _)).add (by omega) 22
    refine rest_set (d := 43) (v := v25) (w' := w25) rfl rfl rfl (ex_app rfl rfl rfl hr) ?_
    simp only [Act.put, sa, sz, ss]
    have H25 : Hid (Mm w25 [] ∧ Oq (pc g6 32 (32 + x6) (td (kd a.f a.n) b.f b.n (k + 1))) w0 v25 (32 * k + 32) (xd (kd a.f a.n) b.f b.n) w25) := ⟨Mm.nil _, (hZ.cg (fun j hj => xd_next (kd a.f a.n) b.f b.n k j hj)).less, hM.rs 0 rfl (Nat.le_refl _)⟩
    clear hr hZ hM hM6 hO6 hb1 hb2 hb3 hb4 HB H24
    refine rest_set (d := 8) (v := v25) (w' := w25) rfl rfl rfl rfl ?_
    simp only [Act.put, sa, sz, ss]
    refine rest_nil (block_normal (then_normal ?_))
    refine walk_seqA 2 [.quiet (.int .i64 ((k + 1 : Nat) : Int)), .quiet (.int .i64 (((k + 1) + 1 : Nat) : Int))] (sB H25) ?ho11 ?he11
    case ho11 => exact ak (fun _ => ⟨rfl, fun _ _ => rfl⟩) (ak (by refine fun γ => ⟨rfl, fun w' h => ?_⟩; clear h; go_simp; rw [IntKind.wrap_i64]; omega) trivial)
    intro γ w26 l hM hl
    have M26 : Mm w26 [] := H25.out.1.grow hM (Nat.le_refl _) hl [] rfl (by decide)
    have B26 : Oq (pc g6 32 (32 + x6) (td (kd a.f a.n) b.f b.n (k + 1))) w0 v25 (32 * k + 32) (xd (kd a.f a.n) b.f b.n) w26 := Oq.step H25.out.2 (hM.below)
    clear hM hl l H25
    clear γ
    have H26 : Hid (_ ∧ _) := ⟨M26, B26⟩
    clear M26 B26
    refine rest_at (l := [2]) rfl ?_
    refine rest_set (d := 10) (v := .int .i64 (((k + 1) + 1 : Nat) : Int)) (w' := w26) rfl rfl rfl rfl ?_
    simp only [Act.put, sa, sz, ss]
    refine rest_nil (then_normal ?_)
    exact ⟨k + 1, ⟨(slotfn [undef, undef, undef, undef, undef, undef, undef, undef, v25, .slice (some ⟨g6, 0, none⟩) 32 (32 + x6), undef, v13, PT γs19 0, undef, undef, undef, undef, undef, undef, .slice p8 (32 * k) c8, .int .i64 ((32 * k : Nat) : Int), .int .i64 ((n : Nat) : Int), .bool true, .int .i64 ((k + 1 : Nat) : Int), .int .i64 (((k + 1) + 1 : Nat) : Int), .slice (some ⟨γb10, 0, none⟩) 0 0, .slice q.p q.n q.cp, v11, v11, .slice b.p b.n b.cp, v13, .slice a.p a.n a.cp, v13, .int .i64 ((k + 1 : Nat) : Int), Z8 (bi k), .slice (some ⟨γs15, 0, none⟩) 1 1, .slice (some ⟨g7, 0, none⟩) (ln k + b.n + 1) (ln k + b.n + 1 + x7), .agg (ints .u8 (td (kd a.f a.n) b.f b.n (k + 1)) 32).toArray, .slice (some ⟨γb22, 0, none⟩) 0 0, .slice (some ⟨γs19, 0, none⟩) 32 32, .slice (some ⟨g6, 0, none⟩) 32 (32 + x6), .slice p8 (32 * k) c8, .slice (some ⟨g6, 0, none⟩) 32 (32 + x6), v25]), rfl, ⟨H26.out.1, H26.out.2.o⟩, ⟨by omega, pc g6 32 (32 + x6) (td (kd a.f a.n) b.f b.n (k + 1)), rfl, pc_ok _ _ _ _, (fun e => by cases e), rfl, fun _ _ => rfl, H26.out.2.r⟩⟩, by omega⟩
  obtain ⟨hkN, _⟩ := hk0
  have hkm : NN = k := by omega
  subst hkm
  obtain ⟨g8, x8_, e8⟩ := H5.out.2.form (by omega)
  rw [e8] at H5 ⊢
  clear e8
  refine wp_seq (wp_seq ?_)
  refine walk_seqA 4 [.quiet (.slice (some ⟨g8, 0, none⟩) (32 * NN) (32 * NN + x8_)), .quiet (.int .i64 ((32 * NN : Nat) : Int)), .quiet (.int .i64 ((n : Nat) : Int)), .quiet (.bool false)] (sB H5) ?ho12 ?he12
  case ho12 => exact ak (fun _ => ⟨rfl, fun _ _ => rfl⟩) (ak (by refine fun γ => ⟨rfl, fun w' h => ?_⟩; clear h; go_simp) (ak (fun _ => ⟨rfl, fun _ _ => rfl⟩) (ak (by refine fun γ => ⟨rfl, fun w' h => ?_⟩; clear h; go_simp <;> omega) trivial)))
  intro γ w27 l hM hl
  have M27 : Mm w27 [] := H5.out.1.grow hM (Nat.le_refl _) hl [] rfl (by decide)
  have B27 : Ow w0 [] (.slice (some ⟨g8, 0, none⟩) (32 * NN) (32 * NN + x8_)) (32 * NN) (xd (kd a.f a.n) b.f b.n) w27 := Ow.step H5.out.2 (hM.below)
  clear hM hl l H5
  clear γ
  have H27 : Hid (_ ∧ _) := ⟨M27, B27⟩
  clear M27 B27
  refine rest0 rfl (then_normal (wp_cond_false rfl ?_))
  refine wp_exit ?_
  repeat refine then_exit ?_
  refine block_exit ?_
  refine then_normal (wp_seq ?_)
  refine walk_seqA 5 [.quiet (.slice (some ⟨g8, 0, none⟩) (32 * NN) (32 * NN + x8_)), .quiet (.int .i64 ((n : Nat) : Int)), .quiet (.slice (some ⟨g8, 0, none⟩) n (32 * NN + x8_)), .quiet (.slice (some ⟨g8, 0, none⟩) n (32 * NN + x8_)), .quiet (.int .i64 0)] (sB H27) ?ho13 ?he13
  case ho13 => exact ak (fun _ => ⟨rfl, fun _ _ => rfl⟩) (ak (fun _ => ⟨rfl, fun _ _ => rfl⟩) (ak (fun γ => ⟨rfl, fun w' _ => ex_slH22 (l := n) rfl rfl rfl (by omega)⟩) (ak (fun _ => ⟨rfl, fun _ _ => rfl⟩) (ak (fun _ => ⟨rfl, fun _ _ => rfl⟩) trivial))))
  intro γ w28 l hM hl
  have M28 : Mm w28 [] := H27.out.1.grow hM (Nat.le_refl _) hl [] rfl (by decide)
  have B28 : Ow w0 [] (.slice (some ⟨g8, 0, none⟩) (32 * NN) (32 * NN + x8_)) (32 * NN) (xd (kd a.f a.n) b.f b.n) w28 := Ow.step H27.out.2 (hM.below)
  clear hM hl l H27
  clear γ
  have H28 : Hid (_ ∧ _) := ⟨M28, B28⟩
  clear M28 B28
  refine rest0 rfl (then_normal (wp_ret ?_))
  repeat (first | refine then_ret ?_ | refine block_ret ?_)
  refine bodyPost_ret (v := .tuple #[.slice (some ⟨g8, 0, none⟩) n (32 * NN + x8_), .int .i64 0]) (by simp [results, Tryd.results38, go_sem, *]) rfl ?_
  exact ⟨_, _, rfl, Rd.bsl ⟨(H28.out.2.rs).lt (by omega), fun i hi => (H28.out.2.rs).at_ i (by omega)⟩ (by omega), H28.out.2.b⟩
set_option maxRecDepth 100000 in
theorem dExpand_zero (v1 v2 : Value) (w : World) :
    Calls Tryd.prog 38 #[v1, v2, .int .i64 0] w fun e w' => e = .returned (.tuple #[.slice none 0 0, .int .i64 0]) ∧ Below w.heap.size w w' := by
  have H0 : Hid (_ ∧ _) := ⟨Mm.nil w, Below.refl w.heap.size w⟩
  go_enter Tryd.func38, Tryd.ntmps38
  refine wp_seq ?_
  refine walk_seqB 2 [.quiet (.slice none 0 0), .quiet (.int .i64 0)] H0 ?ho1 ?he1
  case ho1 => exact ak (fun _ => ⟨rfl, fun _ _ => rfl⟩) (ak (fun _ => ⟨rfl, fun _ _ => rfl⟩) trivial)
  intro _ w1 H1
  refine rest0 rfl (then_normal (wp_seq (wp_seq ?_)))
  refine walk_seqB 6 [.quiet (.int .i64 0), .quiet (.bool false), .quiet (.bool false), .quiet (.int .i64 0), .quiet (.bool false), .quiet (.bool false)] H1 ?ho2 ?he2
  case ho2 => exact ak (fun _ => ⟨rfl, fun _ _ => rfl⟩) (ak (by refine fun γ => ⟨rfl, fun w' h => ?_⟩; clear h; go_simp <;> omega) (ak (fun _ => ⟨rfl, fun _ _ => rfl⟩) (ak (fun _ => ⟨rfl, fun _ _ => rfl⟩) (ak (by refine fun γ => ⟨rfl, fun w' h => ?_⟩; clear h; go_simp <;> omega) (ak (by refine fun γ => ⟨rfl, fun w' h => ?_⟩; clear h; go_simp) trivial)))))
  intro _ w2 H2
  clear H1
  refine rest0 rfl (then_normal (wp_cond_false rfl ?_))
  refine wp_skip (then_normal (wp_seq ?_))
  refine walk_seqB 2 [.quiet (.slice none 0 0), .quiet (.slice none 0 0)] H2 ?ho3 ?he3
  case ho3 => exact ak (fun _ => ⟨rfl, fun _ _ => rfl⟩) (ak (fun _ => ⟨rfl, fun _ _ => rfl⟩) trivial)
  intro _ w3 H3
  clear H2
  refine rest0 rfl (then_normal (wp_seq (wp_seq ?_)))
  refine walk_seqB 1 [.quiet (.int .i64 1)] H3 ?ho4 ?he4
  case ho4 => exact ak (fun _ => ⟨rfl, fun _ _ => rfl⟩) trivial
  intro _ w4 H4
  clear H3
  refine rest0 rfl (then_normal (wp_block ?_))
  refine wp_loop_rounds 1 ?_
  refine rounds_in (n := 0) ?_
  refine wp_seq (wp_seq ?_)
  refine walk_seqB 4 [.quiet (.slice none 0 0), .quiet (.int .i64 0), .quiet (.int .i64 0), .quiet (.bool false)] H4 ?ho5 ?he5
  case ho5 => exact ak (fun _ => ⟨rfl, fun _ _ => rfl⟩) (ak (by refine fun γ => ⟨rfl, fun w' h => ?_⟩; clear h; go_simp) (ak (fun _ => ⟨rfl, fun _ _ => rfl⟩) (ak (by refine fun γ => ⟨rfl, fun w' h => ?_⟩; clear h; go_simp <;> omega) trivial)))
  intro _ w5 H5
  clear H4
  refine rest0 rfl (then_normal (wp_cond_false rfl ?_))
  refine wp_exit ?_
  repeat refine then_exit ?_
  refine block_exit ?_
  refine then_normal (wp_seq ?_)
  refine walk_seqB 5 [.quiet (.slice none 0 0), .quiet (.int .i64 0), .quiet (.slice none 0 0), .quiet (.slice none 0 0), .quiet (.int .i64 0)] H5 ?ho6 ?he6
  case ho6 => exact ak (fun _ => ⟨rfl, fun _ _ => rfl⟩) (ak (fun _ => ⟨rfl, fun _ _ => rfl⟩) (ak (fun γ => ⟨rfl, fun w' _ => ex_slH0 rfl rfl rfl⟩) (ak (fun _ => ⟨rfl, fun _ _ => rfl⟩) (ak (fun _ => ⟨rfl, fun _ _ => rfl⟩) trivial))))
  intro _ w6 H6
  clear H5
  refine rest0 rfl (then_normal (wp_ret ?_))
  repeat (first | refine then_ret ?_ | refine block_ret ?_)
  refine bodyPost_ret (v := .tuple #[.slice none 0 0, .int .i64 0]) (by simp [results, Tryd.results38, go_sem, *]) rfl ?_
  exact ⟨rfl, H6.out.2⟩
set_option maxRecDepth 100000 in
theorem dExpand_neg (v1 v2 : Value) (z : Int) (hz : z < 0) (w : World) :
    Calls Tryd.prog 38 #[v1, v2, .int .i64 z] w fun e w' => e = .returned (.tuple #[.slice none 0 0, .int .i64 3]) ∧ Below w.heap.size w w' := by
  have H0 : Hid (_ ∧ _) := ⟨Mm.nil w, Below.refl w.heap.size w⟩
  go_enter Tryd.func38, Tryd.ntmps38
  refine wp_seq ?_
  refine walk_seqB 2 [.quiet (.slice none 0 0), .quiet (.int .i64 0)] H0 ?ho1 ?he1
  case ho1 => exact ak (fun _ => ⟨rfl, fun _ _ => rfl⟩) (ak (fun _ => ⟨rfl, fun _ _ => rfl⟩) trivial)
  intro _ w1 H1
  refine rest0 rfl (then_normal (wp_seq (wp_seq ?_)))
  refine walk_seqB 6 [.quiet (.int .i64 z), .quiet (.bool true), .quiet (.bool true), .gone, .gone, .quiet (.bool true)] H1 ?ho2 ?he2
  case ho2 => exact ak (fun _ => ⟨rfl, fun _ _ => rfl⟩) (ak (by refine fun γ => ⟨rfl, fun w' h => ?_⟩; clear h; go_simp <;> omega) (ak (fun _ => ⟨rfl, fun _ _ => rfl⟩) (ak (fun γ => rfl) (ak (fun γ => rfl) (ak (by refine fun γ => ⟨rfl, fun w' h => ?_⟩; clear h; go_simp) trivial)))))
  intro _ w2 H2
  clear H1
  refine rest0 rfl (then_normal (wp_cond_true rfl (wp_seq ?_)))
  refine walk_seqB 2 [.quiet (.slice none 0 0), .quiet (.int .i64 3)] H2 ?ho3 ?he3
  case ho3 => exact ak (fun _ => ⟨rfl, fun _ _ => rfl⟩) (ak (fun _ => ⟨rfl, fun _ _ => rfl⟩) trivial)
  intro _ w3 H3
  clear H2
  refine rest0 rfl (then_normal (wp_ret ?_))
  repeat (first | refine then_ret ?_ | refine block_ret ?_)
  refine bodyPost_ret (v := .tuple #[.slice none 0 0, .int .i64 3]) (by simp [results, Tryd.results38, go_sem, *]) rfl ?_
  exact ⟨rfl, H3.out.2⟩
set_option maxRecDepth 100000 in
theorem dExpand_big (v1 v2 : Value) (z : Int) (hz : 8160 < z) (w : World) :
    Calls Tryd.prog 38 #[v1, v2, .int .i64 z] w fun e w' => e = .returned (.tuple #[.slice none 0 0, .int .i64 3]) ∧ Below w.heap.size w w' := by
  have H0 : Hid (_ ∧ _) := ⟨Mm.nil w, Below.refl w.heap.size w⟩
  go_enter Tryd.func38, Tryd.ntmps38
  refine wp_seq ?_
  refine walk_seqB 2 [.quiet (.slice none 0 0), .quiet (.int .i64 0)] H0 ?ho1 ?he1
  case ho1 => exact ak (fun _ => ⟨rfl, fun _ _ => rfl⟩) (ak (fun _ => ⟨rfl, fun _ _ => rfl⟩) trivial)
  intro _ w1 H1
  refine rest0 rfl (then_normal (wp_seq (wp_seq ?_)))
  refine walk_seqB 6 [.quiet (.int .i64 z), .quiet (.bool false), .quiet (.bool false), .quiet (.int .i64 z), .quiet (.bool true), .quiet (.bool true)] H1 ?ho2 ?he2
  case ho2 => exact ak (fun _ => ⟨rfl, fun _ _ => rfl⟩) (ak (by refine fun γ => ⟨rfl, fun w' h => ?_⟩; clear h; go_simp <;> omega) (ak (fun _ => ⟨rfl, fun _ _ => rfl⟩) (ak (fun _ => ⟨rfl, fun _ _ => rfl⟩) (ak (by refine fun γ => ⟨rfl, fun w' h => ?_⟩; clear h; go_simp <;> omega) (ak (by refine fun γ => ⟨rfl, fun w' h => ?_⟩; clear h; go_simp) trivial)))))
  intro _ w2 H2
  clear H1
  refine rest0 rfl (then_normal (wp_cond_true rfl (wp_seq ?_)))
  refine walk_seqB 2 [.quiet (.slice none 0 0), .quiet (.int .i64 3)] H2 ?ho3 ?he3
  case ho3 => exact ak (fun _ => ⟨rfl, fun _ _ => rfl⟩) (ak (fun _ => ⟨rfl, fun _ _ => rfl⟩) trivial)
  intro _ w3 H3
  clear H2
  refine rest0 rfl (then_normal (wp_ret ?_))
  repeat (first | refine then_ret ?_ | refine block_ret ?_)
  refine bodyPost_ret (v := .tuple #[.slice none 0 0, .int .i64 3]) (by simp [results, Tryd.results38, go_sem, *]) rfl ?_
  exact ⟨rfl, H3.out.2⟩
theorem dExpand_ok (a b : Pt8) (n : Nat) (ha : Pok a) (hb : Pok b) (hNa : a.p = none → a.cp = 0) (hNb : b.p = none → b.cp = 0) (hna : a.n ≤ 1048576) (hnb : b.n ≤ 900000) (hn : n ≤ 8160) (w : World) (hRa : a.rs w) (hRb : b.rs w) :
    Calls Tryd.prog 38 #[.slice a.p a.n a.cp, .slice b.p b.n b.cp, .int .i64 ((n : Nat) : Int)] w fun e w' => ∃ v c, e = .returned (.tuple #[v, .int .i64 0]) ∧ BSl w' ((List.range n).map fun i => ((xd (kd a.f a.n) b.f b.n i : Nat) : Int)) c v ∧ Below w.heap.size w w' := by
  rcases Nat.eq_zero_or_pos n with h0 | h0
  · subst h0
    exact Calls.mono (dExpand_zero _ _ w) (fun e w' hh => ⟨_, 0, hh.1, .void none rfl, hh.2⟩)
  · exact dExpand_pos a b n ha hb hNa hNb hna hnb hn h0 w hRa hRb
end Rg
end Go.Proofs.YtolflfjfegngnaaDoor
end
section
namespace Go.Proofs.YtolflfjfegngnaaDoor
open Go.RowKit
namespace Rg
set_option maxRecDepth 100000
set_option maxHeartbeats 1000000 in
set_option maxRecDepth 100000 in
theorem dDerive_ok (a b c : Pt8) (n : Nat) (ha : Pok a) (hb : Pok b) (hc : Pok c) (hNa0 : a.p = none → a.cp = 0) (hNb0 : b.p = none → b.cp = 0) (hNc0 : c.p = none → c.cp = 0) (hna : a.n ≤ 1048576) (hnb : b.n ≤ 1000000) (hnc : c.n ≤ 900000) (hn : n ≤ 8160) (w : World) (hRa : a.rs w) (hRb : b.rs w) (hRc : c.rs w) :
    Calls Tryd.prog 40 #[.slice a.p a.n a.cp, .slice b.p b.n b.cp, .slice c.p c.n c.cp, .int .i64 ((n : Nat) : Int)] w fun e w' => ∃ v c', e = .returned (.tuple #[v, .int .i64 0]) ∧ BSl w' ((List.range n).map fun i => ((xd (kd (dh (kd a.f a.n) b.f b.n) 32) c.f c.n i : Nat) : Int)) c' v ∧ Below w.heap.size w w' := by
  have H0 : Hid (_ ∧ _) := ⟨Mm.nil w, Below.refl w.heap.size w⟩
  have RA : Hid (a.rs w) := hRa
  have RB : Hid (b.rs w) := hRb
  have RC : Hid (c.rs w) := hRc
  have hNa : Hid _ := hNa0
  have hNb : Hid _ := hNb0
  have hNc : Hid _ := hNc0
  clear hRa hRb hRc hNa0 hNb0 hNc0
  go_enter Tryd.func40, Tryd.ntmps40
  refine wp_seq ?_
  refine walk_seqB 2 [.quiet (.slice none 0 0), .quiet (.int .i64 0)] H0 ?ho1 ?he1
  case ho1 => exact ak (fun _ => ⟨rfl, fun _ _ => rfl⟩) (ak (fun _ => ⟨rfl, fun _ _ => rfl⟩) trivial)
  intro _ w1 H1
  refine rest0 rfl (then_normal (wp_seq ?_))
  refine (walk_seq) 5 [.quiet (.slice a.p a.n a.cp), .quiet (.slice b.p b.n b.cp), .call (.agg (ints .u8 (dh (kd a.f a.n) b.f b.n) 32).toArray), .made (ints .u8 (fun _ => 0) 32) 25, .laid 3 (ints .u8 (fun _ => 0) 32) (ints .u8 (dh (kd a.f a.n) b.f b.n) 32)] (fun u' => Mm u' [] ∧ (a.rs u' ∧ b.rs u' ∧ c.rs u')) ?pre2 ?F2 ?hpre2 (fun γ => ?hF2) (by kernel_rfl) ?hL2 ?hS2 ?ho2 ?he2
  case hpre2 => simp only [tk, tz]; rfl
  case hF2 => simp only [fill, Kind.val, Act.put, sa, sz, ss]; rfl
  case hL2 => exact ⟨⟨_, rfl⟩, trivial⟩
  case hS2 => exact fun w' hb => ⟨H1.out.1.below hb, ⟨RA.out.below (H1.out.2.trans (hb.mono H1.out.2.size)), RB.out.below (H1.out.2.trans (hb.mono H1.out.2.size)), RC.out.below (H1.out.2.trans (hb.mono H1.out.2.size))⟩⟩
  case ho2 =>
    refine ak (fun _ => ⟨rfl, fun _ _ => rfl⟩) ?_
    refine ak (fun _ => ⟨rfl, fun _ _ => rfl⟩) ?_
    refine ak (fun γ => ⟨rfl, fun w' hX => ⟨33, #[.slice a.p a.n a.cp, .slice b.p b.n b.cp], exec_call rfl call33 rfl (mpn rfl), dCode_any a b ha hb hNa.out hNb.out hna hnb w' hX.2.1 hX.2.2.1⟩⟩) ?_
    refine ak (fun γ => ⟨rfl, fun w' => ex_mk25 rfl⟩) ?_
    refine ak (fun γ => ⟨rfl, rfl, (ints_len _ _ _).trans (ints_len _ _ _).symm, fun w' h => ex_laidI h Tryd.sizeOf25 rfl rfl rfl⟩) ?_
    exact trivial
  intro γ w2 l hM hl
  have H2 : Hid (Mm w2 [(γ 3, ints .u8 (dh (kd a.f a.n) b.f b.n) 32)] ∧ _) := growB H1 hM (Nat.le_refl _) hl [3] rfl (by decide)
  have o2_3 := ownB H1 hM (Nat.le_refl _) hl (i := 3) rfl
  clear hM hl l H1
  generalize γ 3 = γ2_3 at H2 o2_3 ⊢
  clear γ
  refine rest0 rfl (then_normal (wp_seq ?_))
  refine walk_seqB 3 [.quiet (.slice (some ⟨γ2_3, 0, none⟩) 32 32), .quiet (.slice c.p c.n c.cp), .quiet (.int .i64 ((n : Nat) : Int))] H2 ?ho3 ?he3
  case ho3 => exact ak (fun γ => ⟨rfl, fun w' _ => ex_sl25 rfl rfl⟩) (ak (fun _ => ⟨rfl, fun _ _ => rfl⟩) (ak (fun _ => ⟨rfl, fun _ _ => rfl⟩) trivial))
  intro _ w3 H3
  clear H2
  refine rest_at (l := [3, 4, 5, 6, 7]) rfl ?_
  refine rest_enter (d := 17) rfl rfl rfl (exec_call (args := #[.slice (some ⟨γ2_3, 0, none⟩) 32 32, .slice c.p c.n c.cp, .int .i64 ((n : Nat) : Int)]) rfl call38 rfl (mpn rfl)) ((Calls.mono (dExpand_ok (pw γ2_3 32 (dh (kd a.f a.n) b.f b.n)) c n (pw_ok _ _ _) hc (fun e => by cases e) hNc.out (show 32 ≤ 1048576 by decide) hnc hn w3 (H3.out.1.rs 0 rfl (Nat.le_refl _)) (RC.out.below H3.out.2)) (fun e w2 hh => by obtain ⟨v, c', he, h1, h2⟩ := hh; exact ⟨_, he, v, c', rfl, h1, h2⟩) : Calls Tryd.prog 38 #[.slice (some ⟨γ2_3, 0, none⟩) 32 32, .slice c.p c.n c.cp, .int .i64 ((n : Nat) : Int)] w3 (fun e w' => ∃ v, e = .returned v ∧ (∃ u c', v = .tuple #[u, .int .i64 0] ∧ BSl w' ((List.range n).map fun i => ((xd (kd (dh (kd a.f a.n) b.f b.n) 32) c.f c.n i : Nat) : Int)) c' u ∧ Below w3.heap.size w3 w')))) ?_
  rintro _ w4 ⟨u3, c3, rfl, hB3, hb⟩
  have H4 : Hid (Mm w4 [(γ2_3, ints .u8 (dh (kd a.f a.n) b.f b.n) 32)] ∧ Below w.heap.size w w4) := ⟨H3.out.1.below hb, H3.out.2.trans (hb.mono H3.out.2.size)⟩
  have B3 : Hid (BSl w4 _ c3 u3) := hB3
  clear hb hB3 H3
  simp only [Act.put, sa, sz, ss]
  refine rest_set (d := 18) (v := u3) (w' := w4) rfl rfl rfl (by go_simp) ?_
  simp only [Act.put, sa, sz, ss]
  refine rest_set (d := 19) (v := .int .i64 0) (w' := w4) rfl rfl rfl (by go_simp) ?_
  simp only [Act.put, sa, sz, ss]
  refine rest_set (d := 8) (v := u3) (w' := w4) rfl rfl rfl rfl ?_
  simp only [Act.put, sa, sz, ss]
  refine rest_set (d := 9) (v := .int .i64 0) (w' := w4) rfl rfl rfl rfl ?_
  simp only [Act.put, sa, sz, ss]
  refine rest_nil (then_normal (wp_ret ?_))
  repeat (first | refine then_ret ?_ | refine block_ret ?_)
  refine bodyPost_ret (v := .tuple #[u3, .int .i64 0]) (by simp [results, Tryd.results40, go_sem, *]) rfl ?_
  exact ⟨_, _, rfl, B3.out, H4.out.2⟩
set_option maxHeartbeats 1000000 in
set_option maxRecDepth 100000 in
theorem dDerive_neg (a b : Pt8) (v3 : Value) (z : Int) (ha : Pok a) (hb : Pok b) (hNa0 : a.p = none → a.cp = 0) (hNb0 : b.p = none → b.cp = 0) (hna : a.n ≤ 1048576) (hnb : b.n ≤ 1000000) (hz : z < 0) (w : World) (hRa : a.rs w) (hRb : b.rs w) :
    Calls Tryd.prog 40 #[.slice a.p a.n a.cp, .slice b.p b.n b.cp, v3, .int .i64 z] w fun e w' => e = .returned (.tuple #[.slice none 0 0, .int .i64 3]) ∧ Below w.heap.size w w' := by
  have H0 : Hid (_ ∧ _) := ⟨Mm.nil w, Below.refl w.heap.size w⟩
  have RA : Hid (a.rs w) := hRa
  have RB : Hid (b.rs w) := hRb
  clear hRa hRb
  have hNa : Hid _ := hNa0
  have hNb : Hid _ := hNb0
  clear hNa0 hNb0
  go_enter Tryd.func40, Tryd.ntmps40
  refine wp_seq ?_
  refine walk_seqB 2 [.quiet (.slice none 0 0), .quiet (.int .i64 0)] H0 ?ho1 ?he1
  case ho1 => exact ak (fun _ => ⟨rfl, fun _ _ => rfl⟩) (ak (fun _ => ⟨rfl, fun _ _ => rfl⟩) trivial)
  intro _ w1 H1
  refine rest0 rfl (then_normal (wp_seq ?_))
  refine (walk_seq) 5 [.quiet (.slice a.p a.n a.cp), .quiet (.slice b.p b.n b.cp), .call (.agg (ints .u8 (dh (kd a.f a.n) b.f b.n) 32).toArray), .made (ints .u8 (fun _ => 0) 32) 25, .laid 3 (ints .u8 (fun _ => 0) 32) (ints .u8 (dh (kd a.f a.n) b.f b.n) 32)] (fun u' => Mm u' [] ∧ (a.rs u' ∧ b.rs u')) ?pre2 ?F2 ?hpre2 (fun γ => ?hF2) (by kernel_rfl) ?hL2 ?hS2 ?ho2 ?he2
  case hpre2 => simp only [tk, tz]; rfl
  case hF2 => simp only [fill, Kind.val, Act.put, sa, sz, ss]; rfl
  case hL2 => exact ⟨⟨_, rfl⟩, trivial⟩
  case hS2 => exact fun w' hb => ⟨H1.out.1.below hb, ⟨RA.out.below (H1.out.2.trans (hb.mono H1.out.2.size)), RB.out.below (H1.out.2.trans (hb.mono H1.out.2.size))⟩⟩
  case ho2 =>
    refine ak (fun _ => ⟨rfl, fun _ _ => rfl⟩) ?_
    refine ak (fun _ => ⟨rfl, fun _ _ => rfl⟩) ?_
    refine ak (fun γ => ⟨rfl, fun w' hX => ⟨33, #[.slice a.p a.n a.cp, .slice b.p b.n b.cp], exec_call rfl call33 rfl (mpn rfl), dCode_any a b ha hb hNa.out hNb.out hna hnb w' hX.2.1 hX.2.2⟩⟩) ?_
    refine ak (fun γ => ⟨rfl, fun w' => ex_mk25 rfl⟩) ?_
    refine ak (fun γ => ⟨rfl, rfl, (ints_len _ _ _).trans (ints_len _ _ _).symm, fun w' h => ex_laidI h Tryd.sizeOf25 rfl rfl rfl⟩) ?_
    exact trivial
  intro γ w2 l hM hl
  have H2 : Hid (Mm w2 [(γ 3, ints .u8 (dh (kd a.f a.n) b.f b.n) 32)] ∧ _) := growB H1 hM (Nat.le_refl _) hl [3] rfl (by decide)
  have o2_3 := ownB H1 hM (Nat.le_refl _) hl (i := 3) rfl
  clear hM hl l H1
  generalize γ 3 = γ2_3 at H2 o2_3 ⊢
  clear γ
  refine rest0 rfl (then_normal (wp_seq ?_))
  refine walk_seqB 8 [.quiet (.slice (some ⟨γ2_3, 0, none⟩) 32 32), .quiet (v3), .quiet (.int .i64 z), .call (.tuple #[.slice none 0 0, .int .i64 3]), .quiet (.slice none 0 0), .quiet (.int .i64 3), .quiet (.slice none 0 0), .quiet (.int .i64 3)] H2 ?ho3 ?he3
  case ho3 => exact ak (fun γ => ⟨rfl, fun w' _ => ex_sl25 rfl rfl⟩) (ak (fun _ => ⟨rfl, fun _ _ => rfl⟩) (ak (fun _ => ⟨rfl, fun _ _ => rfl⟩) (ak (fun γ => ⟨rfl, fun w' h => ⟨38, #[.slice (some ⟨γ2_3, 0, none⟩) 32 32, v3, .int .i64 z], exec_call rfl call38 rfl (mpn rfl), dExpand_neg _ _ z hz w'⟩⟩) (ak (by refine fun γ => ⟨rfl, fun w' h => ?_⟩; clear h; go_simp) (ak (by refine fun γ => ⟨rfl, fun w' h => ?_⟩; clear h; go_simp) (ak (fun _ => ⟨rfl, fun _ _ => rfl⟩) (ak (fun _ => ⟨rfl, fun _ _ => rfl⟩) trivial)))))))
  intro _ w3 H3
  clear H2
  refine rest0 rfl (then_normal (wp_ret ?_))
  repeat (first | refine then_ret ?_ | refine block_ret ?_)
  refine bodyPost_ret (v := .tuple #[.slice none 0 0, .int .i64 3]) (by simp [results, Tryd.results40, go_sem, *]) rfl ?_
  exact ⟨rfl, H3.out.2⟩
set_option maxHeartbeats 1000000 in
set_option maxRecDepth 100000 in
theorem dDerive_big (a b : Pt8) (v3 : Value) (z : Int) (ha : Pok a) (hb : Pok b) (hNa0 : a.p = none → a.cp = 0) (hNb0 : b.p = none → b.cp = 0) (hna : a.n ≤ 1048576) (hnb : b.n ≤ 1000000) (hz : 8160 < z) (w : World) (hRa : a.rs w) (hRb : b.rs w) :
    Calls Tryd.prog 40 #[.slice a.p a.n a.cp, .slice b.p b.n b.cp, v3, .int .i64 z] w fun e w' => e = .returned (.tuple #[.slice none 0 0, .int .i64 3]) ∧ Below w.heap.size w w' := by
  have H0 : Hid (_ ∧ _) := ⟨Mm.nil w, Below.refl w.heap.size w⟩
  have RA : Hid (a.rs w) := hRa
  have RB : Hid (b.rs w) := hRb
  clear hRa hRb
  have hNa : Hid _ := hNa0
  have hNb : Hid _ := hNb0
  clear hNa0 hNb0
  go_enter Tryd.func40, Tryd.ntmps40
  refine wp_seq ?_
  refine walk_seqB 2 [.quiet (.slice none 0 0), .quiet (.int .i64 0)] H0 ?ho1 ?he1
  case ho1 => exact ak (fun _ => ⟨rfl, fun _ _ => rfl⟩) (ak (fun _ => ⟨rfl, fun _ _ => rfl⟩) trivial)
  intro _ w1 H1
  refine rest0 rfl (then_normal (wp_seq ?_))
  refine (walk_seq) 5 [.quiet (.slice a.p a.n a.cp), .quiet (.slice b.p b.n b.cp), .call (.agg (ints .u8 (dh (kd a.f a.n) b.f b.n) 32).toArray), .made (ints .u8 (fun _ => 0) 32) 25, .laid 3 (ints .u8 (fun _ => 0) 32) (ints .u8 (dh (kd a.f a.n) b.f b.n) 32)] (fun u' => Mm u' [] ∧ (a.rs u' ∧ b.rs u')) ?pre2 ?F2 ?hpre2 (fun γ => ?hF2) (by kernel_rfl) ?hL2 ?hS2 ?ho2 ?he2
  case hpre2 => simp only [tk, tz]; rfl
  case hF2 => simp only [fill, Kind.val, Act.put, sa, sz, ss]; rfl
  case hL2 => exact ⟨⟨_, rfl⟩, trivial⟩
  case hS2 => exact fun w' hb => ⟨H1.out.1.below hb, ⟨RA.out.below (H1.out.2.trans (hb.mono H1.out.2.size)), RB.out.below (H1.out.2.trans (hb.mono H1.out.2.size))⟩⟩
  case ho2 =>
    refine ak (fun _ => ⟨rfl, fun _ _ => rfl⟩) ?_
    refine ak (fun _ => ⟨rfl, fun _ _ => rfl⟩) ?_
    refine ak (fun γ => ⟨rfl, fun w' hX => ⟨33, #[.slice a.p a.n a.cp, .slice b.p b.n b.cp], exec_call rfl call33 rfl (mpn rfl), dCode_any a b ha hb hNa.out hNb.out hna hnb w' hX.2.1 hX.2.2⟩⟩) ?_
    refine ak (fun γ => ⟨rfl, fun w' => ex_mk25 rfl⟩) ?_
    refine ak (fun γ => ⟨rfl, rfl, (ints_len _ _ _).trans (ints_len _ _ _).symm, fun w' h => ex_laidI h Tryd.sizeOf25 rfl rfl rfl⟩) ?_
    exact trivial
  intro γ w2 l hM hl
  have H2 : Hid (Mm w2 [(γ 3, ints .u8 (dh (kd a.f a.n) b.f b.n) 32)] ∧ _) := growB H1 hM (Nat.le_refl _) hl [3] rfl (by decide)
  have o2_3 := ownB H1 hM (Nat.le_refl _) hl (i := 3) rfl
  clear hM hl l H1
  generalize γ 3 = γ2_3 at H2 o2_3 ⊢
  clear γ
  refine rest0 rfl (then_normal (wp_seq ?_))
  refine walk_seqB 8 [.quiet (.slice (some ⟨γ2_3, 0, none⟩) 32 32), .quiet (v3), .quiet (.int .i64 z), .call (.tuple #[.slice none 0 0, .int .i64 3]), .quiet (.slice none 0 0), .quiet (.int .i64 3), .quiet (.slice none 0 0), .quiet (.int .i64 3)] H2 ?ho3 ?he3
  case ho3 => exact ak (fun γ => ⟨rfl, fun w' _ => ex_sl25 rfl rfl⟩) (ak (fun _ => ⟨rfl, fun _ _ => rfl⟩) (ak (fun _ => ⟨rfl, fun _ _ => rfl⟩) (ak (fun γ => ⟨rfl, fun w' h => ⟨38, #[.slice (some ⟨γ2_3, 0, none⟩) 32 32, v3, .int .i64 z], exec_call rfl call38 rfl (mpn rfl), dExpand_big _ _ z hz w'⟩⟩) (ak (by refine fun γ => ⟨rfl, fun w' h => ?_⟩; clear h; go_simp) (ak (by refine fun γ => ⟨rfl, fun w' h => ?_⟩; clear h; go_simp) (ak (fun _ => ⟨rfl, fun _ _ => rfl⟩) (ak (fun _ => ⟨rfl, fun _ _ => rfl⟩) trivial)))))))
  intro _ w3 H3
  clear H2
  refine rest0 rfl (then_normal (wp_ret ?_))
  repeat (first | refine then_ret ?_ | refine block_ret ?_)
  refine bodyPost_ret (v := .tuple #[.slice none 0 0, .int .i64 3]) (by simp [results, Tryd.results40, go_sem, *]) rfl ?_
  exact ⟨rfl, H3.out.2⟩
def setO (j : Nat) (v : Value) : Obj → Obj
  | .cells c elem frozen => .cells (c.setIfInBounds j v) elem frozen
  | o => o
theorem heap_set {w : World} {g j : Nat} {v : Value} {o : Obj} (h : w.heap[g]? = some o) : (w.setCells g j [v]).heap[g]? = some (setO j v o) := by
  show (World.setCell w ⟨g, j, none⟩ v).heap[g]? = _
  unfold World.setCell
  show (Array.modify _ _ _)[g]? = _
  rw [Array.getElem?_modify, if_pos rfl, h]
  cases o <;> rfl
/-- Two blocks alike but in their first c cells. -/
def Sm (c : Nat) (o o' : Obj) : Prop := o' = o ∨ ∃ cur cur' t fz, o = .cells cur t fz ∧ o' = .cells cur' t fz ∧ cur'.size = cur.size ∧ ∀ j, c ≤ j → cur'[j]? = cur[j]?
theorem Sm.trans {c : Nat} {a b d : Obj} (h : Sm c a b) (k : Sm c b d) : Sm c a d := by
  rcases h with rfl | ⟨x, y, t, fz, rfl, rfl, h1, h2⟩
  · exact k
  · rcases k with rfl | ⟨x2, y2, t2, fz2, e, rfl, h3, h4⟩
    · exact .inr ⟨x, y, t, fz, rfl, rfl, h1, h2⟩
    · injection e with e1 e2 e3
      subst e1 e2 e3
      exact .inr ⟨x, y2, _, _, rfl, rfl, h3.trans h1, fun j hj => (h4 j hj).trans (h2 j hj)⟩
/-- Block g may have changed, in its first c cells alone. -/
structure Ov (c g : Nat) (w w' : World) : Prop where
  k : Kp g w w'
  lt : g < w.heap.size
  ob : ∀ o, w.heap[g]? = some o → ∃ o', w'.heap[g]? = some o' ∧ Sm c o o'
theorem Ov.refl {c g : Nat} {w : World} (h : g < w.heap.size) : Ov c g w w := ⟨Kp.refl g w, h, fun o e => ⟨o, e, .inl rfl⟩⟩
theorem Ov.size {c g : Nat} {w w' : World} (h : Ov c g w w') : w.heap.size ≤ w'.heap.size := h.k.size
theorem Ov.grow {c g : Nat} {w w1 w2 : World} (h : Ov c g w w1) (hb : Below w1.heap.size w1 w2) : Ov c g w w2 :=
  ⟨h.k.trans hb, h.lt, fun o e => by
    obtain ⟨o', e', h1⟩ := h.ob o e
    exact ⟨o', by rw [hb.block g (Nat.lt_of_lt_of_le h.lt h.k.size)]; exact e', h1⟩⟩
theorem Ov.join {c g : Nat} {w w1 w2 : World} (h : Ov c g w w1) (k : Ov c g w1 w2) : Ov c g w w2 :=
  ⟨h.k.join k.k, h.lt, fun o e => by
    obtain ⟨o', e', h1⟩ := h.ob o e
    obtain ⟨o2, e2, h2⟩ := k.ob o' e'
    exact ⟨o2, e2, h1.trans h2⟩⟩
theorem Ov.put {c g j : Nat} {v : Value} {w w1 : World} (h : Ov c g w w1) (hj : j < c) : Ov c g w (w1.setCells g j [v]) :=
  ⟨h.k.put (Or.inl rfl), h.lt, fun o e => by
    obtain ⟨o', e', h1⟩ := h.ob o e
    refine ⟨_, heap_set e', h1.trans ?_⟩
    cases o' with
    | cells cur t fz => exact .inr ⟨cur, _, t, fz, rfl, rfl, by simp, fun i hi => by rw [Array.getElem?_setIfInBounds, if_neg (by omega)]⟩
    | _ => exact .inl rfl⟩
/-- Where the first c cells are what they were, nothing has changed. -/
theorem Ov.same {c g : Nat} {w w' : World} {vs : List Value} (h : Ov c g w w') (hm : Mm w [(g, vs)]) (hm' : Mm w' [(g, vs)]) (hl : vs.length = c) : Below w.heap.size w w' := by
  refine ⟨h.k.os, h.k.tape, h.k.output, h.k.size, fun k hk => ?_⟩
  by_cases e : k = g
  · subst e
    obtain ⟨o', e', h1⟩ := h.ob _ (Array.getElem?_eq_getElem hk)
    rw [e', Array.getElem?_eq_getElem hk]
    rcases h1 with rfl | ⟨cur, cur', t, fz, ho, rfl, h1, h2⟩
    · rfl
    · rw [ho]
      congr 2
      apply Array.ext_getElem?
      intro j
      by_cases hj : j < c
      · have b1 := (hm.blk _ (List.mem_singleton.2 rfl)).2 j _ (List.getElem?_eq_getElem (by rw [hl]; exact hj))
        have b2 := (hm'.blk _ (List.mem_singleton.2 rfl)).2 j _ (List.getElem?_eq_getElem (by rw [hl]; exact hj))
        have c1 := b1.1
        have c2 := b2.1
        unfold World.cell? at c1 c2
        simp [Array.getElem?_eq_getElem hk, ho] at c1
        simp [e'] at c2
        rw [c1, c2]
      · exact h2 j (by omega)
  · exact h.k.block k hk e
theorem mr_succ (K : Nat → Nat) (x i : Nat) : mr K x (i + 1) = up (mr K x i) i (x8 (mr K x i i) x) := rfl
theorem x8_twice {a : Nat} (x : Nat) (h : a < 256) (hx : x < 256) : x8 (x8 a x) x = a := by
  unfold x8
  have h1 : a ^^^ x < 2 ^ 8 := Nat.xor_lt_two_pow h hx
  rw [Nat.mod_eq_of_lt h1, Nat.xor_assoc, Nat.xor_self, Nat.xor_zero, Nat.mod_eq_of_lt h]
section
variable {ρ : Operand → Value} {o : Oper} {x y : Operand} {n c : Nat} {w : World} {p : Option Addr}
theorem ex_cap22 (ho : o.op = .call { callee := .builtin .cap, args := #[x], argTypes := #[22] }) (hx : ρ x = .slice p n c) : (execOp ρ o).run Tryd.prog w = .ok (.value (.int .i64 ((c : Nat) : Int))) w := by
  have hr : (Builtin.cap_ #[22] o.type #[.slice p n c]).run Tryd.prog w = .ok (.int .i64 ((c : Nat) : Int)) w := by
    simp [Builtin.cap_, goInt]
  unfold execOp
  simp only [ho, resolve, invoke, builtin, Sem.run_bind, Sem.run_pure, Result.andThen_ok, List.map_toArray, List.map_cons, List.map_nil, hx, hr]
end
set_option maxHeartbeats 1000000 in
set_option maxRecDepth 100000 in
theorem Over_some (g n c : Nat) (f : Nat → Nat) (hc : c ≤ 1048576) (w : World) (hm : Mm w [(g, ints .u8 f c)]) :
    Calls Tryd.prog 27 #[.slice (some ⟨g, 0, none⟩) n c] w fun e w' => e = .returned (.tuple #[]) ∧ Mm w' [(g, ints .u8 (mk8 f 90) c)] ∧ Ov c g w w' := by
  have H0 : Hid (_ ∧ _) := ⟨hm, Ov.refl (c := c) (g := g) (hm.blk _ (List.mem_singleton.2 rfl)).1⟩
  clear hm
  go_enter Tryd.func27, Tryd.ntmps27
  refine wp_seq ?_
  refine walk_seqA 5 [.quiet (.slice (some ⟨g, 0, none⟩) n c), .quiet (.slice (some ⟨g, 0, none⟩) n c), .quiet (.int .i64 ((c : Nat) : Int)), .quiet (.slice (some ⟨g, 0, none⟩) c c), .quiet (.slice (some ⟨g, 0, none⟩) c c)] (sB H0) ?ho1 ?he1
  case ho1 => exact ak (fun _ => ⟨rfl, fun _ _ => rfl⟩) (ak (fun _ => ⟨rfl, fun _ _ => rfl⟩) (ak (fun γ => ⟨rfl, fun w' _ => ex_cap22 rfl rfl⟩) (ak (fun γ => ⟨rfl, fun w' _ => ex_slH22 (l := c) rfl rfl rfl (Nat.le_refl _)⟩) (ak (fun _ => ⟨rfl, fun _ _ => rfl⟩) trivial))))
  intro γ w1 l hM hl
  have M1 : Mm w1 [(g, ints .u8 f c)] := H0.out.1.grow hM (Nat.le_refl _) hl [] rfl (by decide)
  have B1 : Ov c g w w1 := H0.out.2.grow (hM.below)
  clear hM hl l
  clear γ
  have H1 : Hid (_ ∧ _) := ⟨M1, B1⟩
  clear M1 B1
  refine rest0 rfl (then_normal (wp_seq ?_))
  refine walk_seqA 1 [.quiet (.int .i64 0)] (sB H1) ?ho2 ?he2
  case ho2 => exact ak (fun _ => ⟨rfl, fun _ _ => rfl⟩) trivial
  intro γ w2 l hM hl
  have M2 : Mm w2 [(g, ints .u8 f c)] := H1.out.1.grow hM (Nat.le_refl _) hl [] rfl (by decide)
  have B2 : Ov c g w w2 := H1.out.2.grow (hM.below)
  clear hM hl l H1
  clear γ
  have H2 : Hid (_ ∧ _) := ⟨M2, B2⟩
  clear M2 B2
  refine rest0 rfl (then_normal (wp_block ?_))
  refine loop_ghost (α := Nat) (fun k a' w' => ∃ s0 : Nat → Value, a' = ⟨#[.slice (some ⟨g, 0, none⟩) n c, undef, .slice (some ⟨g, 0, none⟩) c c, .int .i64 ((k : Nat) : Int), .slice (some ⟨g, 0, none⟩) n c, .slice (some ⟨g, 0, none⟩) n c, .int .i64 ((c : Nat) : Int), .slice (some ⟨g, 0, none⟩) c c, s0 8, s0 9, s0 10, s0 11, s0 12, s0 13, s0 14, s0 15, s0 16, s0 17, s0 18, s0 19, s0 20, s0 21], []⟩ ∧ (Mm w' [(g, ints .u8 (mr f 90 k) c)] ∧ Ov c g w w') ∧ k ≤ c) (fun k => c - k) 0 ?st0 ?rd0
  case st0 => exact ⟨(slotfn [undef, undef, undef, undef, undef, undef, undef, undef, undef, undef, undef, undef, undef, undef, undef, undef, undef, undef, undef, undef, undef, undef]), rfl, ⟨H2.out.1, H2.out.2⟩, by omega⟩
  intro k a' w3 hI
  obtain ⟨s0, rfl, hMB, hk0⟩ := hI
  have H3 : Hid (_ ∧ _) := hMB
  clear hMB H2
  by_cases hltk : k < c
  · have hrd : True := trivial
    clear hrd
    refine wp_seq (wp_seq ?_)
    refine walk_seqA 4 [.quiet (.int .i64 ((k : Nat) : Int)), .quiet (.slice (some ⟨g, 0, none⟩) c c), .quiet (.int .i64 ((c : Nat) : Int)), .quiet (.bool true)] (sB H3) ?ho3 ?he3
    case ho3 => exact ak (fun _ => ⟨rfl, fun _ _ => rfl⟩) (ak (fun _ => ⟨rfl, fun _ _ => rfl⟩) (ak (by refine fun γ => ⟨rfl, fun w' h => ?_⟩; clear h; go_simp) (ak (by refine fun γ => ⟨rfl, fun w' h => ?_⟩; clear h; go_simp <;> omega) trivial)))
    intro γ w4 l hM hl
    have M4 : Mm w4 [(g, ints .u8 (mr f 90 k) c)] := H3.out.1.grow hM (Nat.le_refl _) hl [] rfl (by decide)
    have B4 : Ov c g w w4 := H3.out.2.grow (hM.below)
    clear hM hl l H3
    clear γ
    have H4 : Hid (_ ∧ _) := ⟨M4, B4⟩
    clear M4 B4
    refine rest0 rfl (then_normal (wp_cond_true rfl ?_))
    refine wp_skip (then_normal ?_)
    refine wp_seq (wp_block ?_)
    refine walk_seqA 8 [.quiet (.slice (some ⟨g, 0, none⟩) c c), .quiet (.int .i64 ((k : Nat) : Int)), .quiet (.slice (some ⟨g, 0, none⟩) c c), .quiet (.int .i64 ((k : Nat) : Int)), .quiet (PT g (0 + k)), .quiet (Z8 ((mr f 90 k) (0 + k))), .quiet (Z8 (x8 ((mr f 90 k) (0 + k)) 90)), .quiet (PT g (0 + k))] (sB H4) ?ho4 ?he4
    case ho4 => exact ak (fun _ => ⟨rfl, fun _ _ => rfl⟩) (ak (fun _ => ⟨rfl, fun _ _ => rfl⟩) (ak (fun _ => ⟨rfl, fun _ _ => rfl⟩) (ak (fun _ => ⟨rfl, fun _ _ => rfl⟩) (ak (fun γ => ⟨rfl, fun w' _ => ex_ixS22 (m := c) (j := k) rfl rfl rfl (by omega)⟩) (ak (fun γ => ⟨rfl, fun w' h => ex_loadC h 0 rfl rfl rfl Tryd.isAgg5 (ints_get _ _ (by omega))⟩) (ak (fun γ => ⟨rfl, fun w' _ => ex_xor8 rfl rfl rfl⟩) (ak (fun γ => ⟨rfl, fun w' _ => ex_ixS22 (m := c) (j := k) rfl rfl rfl (by omega)⟩) trivial)))))))
    intro γ w5 l hM hl
    have M5 : Mm w5 [(g, ints .u8 (mr f 90 k) c)] := H4.out.1.grow hM (Nat.le_refl _) hl [] rfl (by decide)
    have B5 : Ov c g w w5 := H4.out.2.grow (hM.below)
    clear hM hl l H4
    clear γ
    have H5 : Hid (_ ∧ _) := ⟨M5, B5⟩
    clear M5 B5
    refine rest_at (l := [8]) rfl ?_
    refine rest_store rfl rfl rfl (ex_storeI H5.out.1 0 rfl rfl Tryd.sizeOf5 rfl rfl (by rw [ints_len]; omega)) ?_
    have H6 : Hid (Mm (w5.setCells g (0 + k) ([Z8 (x8 ((mr f 90 k) (0 + k)) 90)])) [(g, ints .u8 (mr f 90 (k + 1)) c)] ∧ Ov c g w (w5.setCells g (0 + k) ([Z8 (x8 ((mr f 90 k) (0 + k)) 90)]))) := ⟨by
      have h := H5.out.1.put 0 (off := (0 + k)) (vs := [Z8 (x8 ((mr f 90 k) (0 + k)) 90)]) rfl (by rw [ints_len]; simp only [List.length_cons, List.length_nil]; omega)
      rw [ints_patch _ _ _ _ (by omega), show ints .u8 (up (mr f 90 k) (0 + k) (x8 ((mr f 90 k) (0 + k)) 90)) c = ints .u8 (mr f 90 (k + 1)) c by rw [Nat.zero_add, mr_succ]] at h
      exact h, H5.out.2.put (by omega)⟩
    clear H5
    generalize hgw : World.setCells _ _ _ _ = w6 at H6 ⊢
    clear hgw
    refine rest_nil (block_normal (then_normal ?_))
    refine walk_seqA 2 [.quiet (.int .i64 ((k : Nat) : Int)), .quiet (.int .i64 ((k + 1 : Nat) : Int))] (sB H6) ?ho5 ?he5
    case ho5 => exact ak (fun _ => ⟨rfl, fun _ _ => rfl⟩) (ak (by refine fun γ => ⟨rfl, fun w' h => ?_⟩; clear h; go_simp; rw [IntKind.wrap_i64]; omega) trivial)
    intro γ w7 l hM hl
    have M7 : Mm w7 [(g, ints .u8 (mr f 90 (k + 1)) c)] := H6.out.1.grow hM (Nat.le_refl _) hl [] rfl (by decide)
    have B7 : Ov c g w w7 := H6.out.2.grow (hM.below)
    clear hM hl l H6
    clear γ
    have H7 : Hid (_ ∧ _) := ⟨M7, B7⟩
    clear M7 B7
    refine rest_at (l := [2]) rfl ?_
    refine rest_set (d := 3) rfl rfl rfl rfl ?_
    simp only [Act.put, sa, sz, ss]
    refine rest_nil (then_normal ?_)
    exact ⟨k + 1, ⟨(slotfn [undef, undef, undef, undef, undef, undef, undef, undef, .int .i64 ((k : Nat) : Int), .slice (some ⟨g, 0, none⟩) c c, .int .i64 ((c : Nat) : Int), .bool true, .int .i64 ((k : Nat) : Int), .int .i64 ((k + 1 : Nat) : Int), .slice (some ⟨g, 0, none⟩) c c, .int .i64 ((k : Nat) : Int), .slice (some ⟨g, 0, none⟩) c c, .int .i64 ((k : Nat) : Int), PT g (0 + k), Z8 ((mr f 90 k) (0 + k)), Z8 (x8 ((mr f 90 k) (0 + k)) 90), PT g (0 + k)]), rfl, ⟨H7.out.1, H7.out.2⟩, by omega⟩, by omega⟩
  have hkN : c = k := by omega
  subst hkN
  refine wp_seq (wp_seq ?_)
  refine walk_seqA 4 [.quiet (.int .i64 ((c : Nat) : Int)), .quiet (.slice (some ⟨g, 0, none⟩) c c), .quiet (.int .i64 ((c : Nat) : Int)), .quiet (.bool false)] (sB H3) ?ho6 ?he6
  case ho6 => exact ak (fun _ => ⟨rfl, fun _ _ => rfl⟩) (ak (fun _ => ⟨rfl, fun _ _ => rfl⟩) (ak (by refine fun γ => ⟨rfl, fun w' h => ?_⟩; clear h; go_simp) (ak (by refine fun γ => ⟨rfl, fun w' h => ?_⟩; clear h; go_simp <;> omega) trivial)))
  intro γ w8 l hM hl
  have M8 : Mm w8 [(g, ints .u8 (mr f 90 c) c)] := H3.out.1.grow hM (Nat.le_refl _) hl [] rfl (by decide)
  have B8 : Ov c g w w8 := H3.out.2.grow (hM.below)
  clear hM hl l H3
  clear γ
  have H8 : Hid (_ ∧ _) := ⟨M8, B8⟩
  clear M8 B8
  refine rest0 rfl (then_normal (wp_cond_false rfl ?_))
  refine wp_exit ?_
  repeat refine then_exit ?_
  refine block_exit ?_
  refine bodyPost_end (v := .tuple #[]) (by simp [results, Tryd.results27, go_sem]) rfl ?_
  have hfin := H8.out.1
  rw [ints_congr (fun j hj => mr_lt f 90 c j hj)] at hfin
  exact ⟨rfl, hfin, H8.out.2⟩
set_option maxRecDepth 100000 in
theorem Over_nil  (w : World) :
    Calls Tryd.prog 27 #[.slice none 0 0] w fun e w' => e = .returned (.tuple #[]) ∧ Below w.heap.size w w' := by
  have H0 : Hid (_ ∧ _) := ⟨Mm.nil w, Below.refl w.heap.size w⟩
  go_enter Tryd.func27, Tryd.ntmps27
  refine wp_seq ?_
  refine walk_seqB 5 [.quiet (.slice none 0 0), .quiet (.slice none 0 0), .quiet (.int .i64 0), .quiet (.slice none 0 0), .quiet (.slice none 0 0)] H0 ?ho1 ?he1
  case ho1 => exact ak (fun _ => ⟨rfl, fun _ _ => rfl⟩) (ak (fun _ => ⟨rfl, fun _ _ => rfl⟩) (ak (fun γ => ⟨rfl, fun w' _ => ex_cap22 rfl rfl⟩) (ak (fun γ => ⟨rfl, fun w' _ => ex_slH0 rfl rfl rfl⟩) (ak (fun _ => ⟨rfl, fun _ _ => rfl⟩) trivial))))
  intro _ w1 H1
  refine rest0 rfl (then_normal (wp_seq ?_))
  refine walk_seqB 1 [.quiet (.int .i64 0)] H1 ?ho2 ?he2
  case ho2 => exact ak (fun _ => ⟨rfl, fun _ _ => rfl⟩) trivial
  intro _ w2 H2
  clear H1
  refine rest0 rfl (then_normal (wp_block ?_))
  refine wp_loop_rounds 1 ?_
  refine rounds_in (n := 0) ?_
  refine wp_seq (wp_seq ?_)
  refine walk_seqB 4 [.quiet (.int .i64 0), .quiet (.slice none 0 0), .quiet (.int .i64 0), .quiet (.bool false)] H2 ?ho3 ?he3
  case ho3 => exact ak (fun _ => ⟨rfl, fun _ _ => rfl⟩) (ak (fun _ => ⟨rfl, fun _ _ => rfl⟩) (ak (by refine fun γ => ⟨rfl, fun w' h => ?_⟩; clear h; go_simp) (ak (by refine fun γ => ⟨rfl, fun w' h => ?_⟩; clear h; go_simp <;> omega) trivial)))
  intro _ w3 H3
  clear H2
  refine rest0 rfl (then_normal (wp_cond_false rfl ?_))
  refine wp_exit ?_
  repeat refine then_exit ?_
  refine block_exit ?_
  refine bodyPost_end (v := .tuple #[]) (by simp [results, Tryd.results27, go_sem]) rfl ?_
  exact ⟨rfl, H3.out.2⟩
end Rg
end Go.Proofs.YtolflfjfegngnaaDoor
end
section
namespace Go.Proofs.YtolflfjfegngnaaDoor
open Go.RowKit
namespace Rg
set_option maxRecDepth 100000
theorem Zo.appR {w w1 : World} {B n0 : Nat} {l : List (Nat × List Value)} {vv : Value} {P : Nat → Nat} (h : Zo w B l vv n0 P w1) {q : Pt8} (hq : Pok q) (hN : q.p = none → q.cp = 0) (hR : q.rs w1) (hb : n0 + q.n ≤ 2097152) (hv : vv ≠ .slice none 0 0) (ty : TypeId) :
    ∃ v' w2, (Builtin.append_ #[22, 22] ty #[vv, .slice q.p q.n q.cp]).run Tryd.prog w1 = .ok v' w2 ∧ Zo w B l v' (n0 + q.n) (ct P n0 q.f) w2 ∧ v' ≠ .slice none 0 0 := by
  obtain ⟨gb, o, n, cp, p, f⟩ := q
  obtain ⟨hB, hle⟩ := hq
  simp only [Pt8.rs] at hB hN hR hb hle ⊢
  cases p with
  | none =>
    have hn : n = 0 := by
      rcases Nat.eq_zero_or_pos n with e | e
      · exact e
      · have := hB.1 e
        simp at this
    have hc := hN rfl
    subst hn hc
    exact ⟨vv, w1, h.app0 ty, h.cg (fun j hj => by unfold ct; rw [if_pos hj]), hv⟩
  | some a =>
    have hr : ∀ j, j < n → w1.cell? (a.add j) = some (Z8 (f j)) := fun j hj => by
      have e := hB.1 (by omega)
      injection e with e1
      injection e1 with e1
      rw [e1]
      exact hR.add j hj
    obtain ⟨i0, hi, hz0, hz1, hz2⟩ := info_byte
    obtain ⟨v', w2, h1, h2, h3, h4⟩ := run_append_own (P := Tryd.prog) w1 B 22 ty 5 i0 (.int .u8 0) 1 1 Tryd.underlying22 hi hz0 hz1 hz2 rfl (by decide) vv n0 _ h.own a n cp (ints .u8 f n) (by rw [ints_len]; omega)
      (fun j u hj => by
        have hjm : j < n := by
          have := (List.getElem?_eq_some_iff.1 hj).1
          rwa [ints_len] at this
        rw [ints_get _ _ hjm] at hj
        rw [hr j hjm]
        exact hj) (List.all_eq_true.1 (ints_all _ _ _)) (by unfold maxLen; omega) (by omega) h.hi
    have hb2 : Below B w1 w2 := (Below.refl _ _).grown h3 h.hi (fun k hk => (World.ownsRow.lt h.own k hk).1)
    rw [ints_cat] at h2
    exact ⟨v', w2, h1, ⟨h.b.trans (hb2.mono h.lo), h.lo, Nat.le_trans h.hi hb2.size, ⟨fun p hp => ⟨Nat.lt_of_lt_of_le (h.m.blk p hp).1 hb2.size, (h.m.blk p hp).2.below hb2 (h.lt p hp)⟩, h.m.nd⟩, h.lt, h2⟩, fun e => hv (h4.1 e).1⟩
theorem Zo.form1 {w w1 : World} {B n : Nat} {l : List (Nat × List Value)} {vv : Value} {P : Nat → Nat} (h : Zo w B l vv n P w1) (hv : vv ≠ .slice none 0 0) : ∃ g cap, vv = .slice (some ⟨g, 0, none⟩) n cap := by
  rcases h.own.2 with ⟨h1, _⟩ | ⟨g, cap, cur, h1, _⟩
  · exact absurd h1 hv
  · exact ⟨g, cap, h1⟩
set_option maxHeartbeats 1000000 in
set_option maxRecDepth 100000 in
theorem copy_born (a : Pt8) (ha : Pok a) (hN0 : a.p = none → a.cp = 0) (hna : a.n ≤ 1048576) (w : World) (hRa : a.rs w) :
    Calls Tryd.prog 28 #[.slice a.p a.n a.cp] w fun e w' => Below w.heap.size w w' ∧ ∃ (g x y : Nat), e = .returned ((fun g x _ => .slice (some ⟨g, 0, none⟩) a.n (a.n + x)) g x y) ∧ w.heap.size ≤ g ∧ g < w'.heap.size ∧ Blk w' g (ints .u8 a.f a.n) := by
  have H0 : Hid (_ ∧ _) := ⟨Mm.nil w, Below.refl w.heap.size w⟩
  have RA : Hid (a.rs w) := hRa
  have hN : Hid _ := hN0
  clear hRa hN0
  go_enter Tryd.func28, Tryd.ntmps28
  refine wp_seq ?_
  refine walk_seqB 1 [.quiet (.slice none 0 0)] H0 ?ho1 ?he1
  case ho1 => exact ak (fun _ => ⟨rfl, fun _ _ => rfl⟩) trivial
  intro _ w1 H1
  refine rest0 rfl (then_normal (wp_seq ?_))
  refine walk_seqB 0 [] H1 ?ho2 ?he2
  case ho2 => exact trivial
  intro _ w2 H2
  clear H1
  refine rest_at (l := [0, 1, 2, 3]) rfl ?_
  refine rest_set (d := 3) (v := .slice (some ⟨w2.heap.size, 0, none⟩) 0 0) (w' := (w2.alloc (.cells #[] 5))) rfl rfl rfl (ex_bs0 rfl) ?_
  simp only [Act.put, sa, sz, ss]
  have H3 : Hid (Mm (w2.alloc (.cells #[] 5)) [] ∧ Zo w w2.heap.size [] (.slice (some ⟨w2.heap.size, 0, none⟩) 0 0) 0 a.f (w2.alloc (.cells #[] 5))) := ⟨Mm.nil _, Zo.made a.f H2.out.1 H2.out.2⟩
  clear H2
  generalize hgw : (w2.alloc (.cells #[] 5)) = w3 at H3 ⊢
  clear hgw
  generalize w2.heap.size = γb at H3 ⊢
  refine rest_set (d := 4) (v := .slice a.p a.n a.cp) (w' := w3) rfl rfl rfl rfl ?_
  simp only [Act.put, sa, sz, ss]
  obtain ⟨v4, w4, hr, hZ, hnn⟩ := H3.out.2.appR (q := a) ha hN.out (RA.out.below H3.out.2.b) (by omega) (fun e => by cases e) 22
  rw [Nat.zero_add] at hZ
  refine rest_set (d := 5) (v := v4) (w' := w4) rfl rfl rfl (ex_app rfl rfl rfl hr) ?_
  simp only [Act.put, sa, sz, ss]
  have H4 : Hid (Mm w4 [] ∧ Zo w γb [] v4 a.n a.f w4) := ⟨Mm.nil _, hZ.cg (fun j _ => by rw [ct_zero])⟩
  have NN : Hid _ := hnn
  clear hr hZ hnn H3
  refine rest_set (d := 2) (v := v4) (w' := w4) rfl rfl rfl rfl ?_
  simp only [Act.put, sa, sz, ss]
  refine rest_nil (then_normal (wp_ret ?_))
  repeat (first | refine then_ret ?_ | refine block_ret ?_)
  refine bodyPost_ret (v := v4) (by simp [results, Tryd.results28, go_sem, *]) rfl ?_
  obtain ⟨g3, cap3, e3⟩ := H4.out.2.form1 NN.out
  rw [e3] at H4 ⊢
  obtain ⟨hf1, hf2, hf3, hf4⟩ := H4.out.2.blk
  exact ⟨H4.out.2.b, g3, cap3 - a.n, 0, by rw [show a.n + (cap3 - a.n) = cap3 by omega], Nat.le_trans H4.out.2.lo hf1, hf2, hf4⟩
/-- A slice that may lie apart: where, how long, its room, the bytes of all its room. -/
structure Ap where
  p : Option Addr
  g : Nat
  n : Nat
  c : Nat
  f : Nat → Nat
def Ap.pt (q : Ap) : Pt8 := ⟨q.g, 0, q.c, q.c, q.p, q.f⟩
structure Ap.Ok (q : Ap) : Prop where
  at_ : q.p = some ⟨q.g, 0, none⟩ ∨ (q.p = none ∧ q.n = 0 ∧ q.c = 0)
  le : q.n ≤ q.c
  mx : q.c ≤ 1048576
  by_ : ∀ j, q.f j < 256
def Ap.row (q : Ap) (f : Nat → Nat) (w : World) : Prop := q.p = none ∨ Mm w [(q.g, ints .u8 f q.c)]
theorem Ap.Ok.pok {q : Ap} (h : q.Ok) : Pok q.pt := by
  refine ⟨?_, Nat.le_refl _⟩
  show Bv q.g 0 q.c q.c 0 (.slice q.p q.c q.c)
  rcases h.at_ with e | ⟨e, _, e2⟩
  · rw [e]; exact Bv.start _ _ _ _
  · rw [e2]; exact Bv.void _ _ _ _ _
theorem Ap.Ok.nil {q : Ap} (h : q.Ok) : q.pt.p = none → q.pt.cp = 0 := fun e => by
  rcases h.at_ with e2 | ⟨_, _, e2⟩
  · exact absurd (e2.symm.trans e) (by simp)
  · exact e2
theorem Ap.row.rs {q : Ap} (h : q.Ok) {w : World} (hr : q.row q.f w) : q.pt.rs w := by
  rcases hr with e | hm
  · rcases h.at_ with e2 | ⟨_, _, e2⟩
    · exact absurd (e2.symm.trans e) (by simp)
    · show Rs q.g 0 q.c q.f w
      rw [e2]
      exact Rs.void _ _ _ _
  · exact hm.rs 0 rfl (Nat.le_refl _)
theorem Ap.row.below {q : Ap} {f : Nat → Nat} {w w' : World} (h : q.row f w) (hb : Below w.heap.size w w') : q.row f w' := by
  rcases h with h | h
  · exact .inl h
  · exact .inr (h.below hb)
theorem Ap.row.bsl {q : Ap} (h : q.Ok) {w : World} (hr : q.row q.f w) : BSl w ((List.range q.c).map fun i => ((q.f i : Nat) : Int)) q.c (.slice q.p q.c q.c) := by
  rcases hr with e | hm
  · rcases h.at_ with e2 | ⟨_, _, e2⟩
    · exact absurd (e2.symm.trans e) (by simp)
    · rw [e2]
      exact .void _ rfl
  · rcases h.at_ with e2 | ⟨_, _, e2⟩
    · rw [e2]
      exact hm.bsl 0 rfl (Nat.le_refl _) (Nat.le_refl _)
    · rw [e2]
      exact .void _ rfl
/-- Slices in a list. -/
def apl (A : Nat → Ap) (m : Nat) : List Value := (List.range m).map fun i => .slice (A i).p (A i).n (A i).c
structure Al (gl : Nat) (A : Nat → Ap) (m : Nat) (w : World) : Prop where
  ls : Mm w [(gl, apl A m)]
  row : ∀ i, i < m → (A i).row (A i).f w
theorem Al.below {gl : Nat} {A : Nat → Ap} {m : Nat} {w w' : World} (h : Al gl A m w) (hb : Below w.heap.size w w') : Al gl A m w' := ⟨h.ls.below hb, fun i hi => (h.row i hi).below hb⟩
structure Aw (gl : Nat) (A : Nat → Ap) (m : Nat) : Prop where
  ok : ∀ i, i < m → (A i).Ok
  ne : ∀ i j, i < m → j < m → i ≠ j → (A i).p ≠ none → (A j).p ≠ none → (A i).g ≠ (A j).g
  nl : ∀ i, i < m → (A i).p ≠ none → (A i).g ≠ gl
  ml : m ≤ 1048576
theorem rmap_get {F : Nat → Value} {m k : Nat} (h : k < m) : ((List.range m).map F)[0 + k]? = some (F k) := by
  rw [Nat.zero_add, List.getElem?_map, List.getElem?_range h]
  rfl
/-- The copies, k of them. -/
def wl (A : Nat → Ap) (G : Nat → Nat × Nat) (k m : Nat) : List Value := (List.range m).map fun j => if j < k then .slice (some ⟨(G j).1, 0, none⟩) (A j).c ((A j).c + (G j).2) else .slice none 0 0
theorem wl_len (A : Nat → Ap) (G : Nat → Nat × Nat) (k m : Nat) : (wl A G k m).length = m := by simp [wl]
theorem wl_get {A : Nat → Ap} {G : Nat → Nat × Nat} {m k : Nat} (h : k < m) : (wl A G m m)[0 + k]? = some (.slice (some ⟨(G k).1, 0, none⟩) (A k).c ((A k).c + (G k).2)) := by
  unfold wl
  rw [rmap_get h, if_pos h]
theorem wl_zero (A : Nat → Ap) (G : Nat → Nat × Nat) (m : Nat) : wl A G 0 m = List.replicate m (.slice none 0 0) := by
  apply List.ext_getElem?
  intro j
  unfold wl
  by_cases h : j < m
  · have e := rmap_get (F := fun j => if j < 0 then .slice (some ⟨(G j).1, 0, none⟩) (A j).c ((A j).c + (G j).2) else .slice none 0 0) h
    rw [Nat.zero_add] at e
    rw [e, List.getElem?_replicate, if_pos h, if_neg (Nat.not_lt_zero _)]
  · rw [List.getElem?_eq_none (by simp; omega), List.getElem?_replicate, if_neg h]
def uG (G : Nat → Nat × Nat) (k : Nat) (v : Nat × Nat) : Nat → Nat × Nat := fun j => if j = k then v else G j
theorem wl_put (A : Nat → Ap) (G : Nat → Nat × Nat) (k m g x : Nat) (h : k < m) : patch (wl A G k m) (0 + k) [.slice (some ⟨g, 0, none⟩) (A k).c ((A k).c + x)] = wl A (uG G k (g, x)) (k + 1) m := by
  apply List.ext_getElem?
  intro j
  rw [patch_get _ _ _ (by rw [wl_len]; simp; omega)]
  by_cases hj : j < m
  · have e1 : (wl A G k m)[j]? = some (if j < k then .slice (some ⟨(G j).1, 0, none⟩) (A j).c ((A j).c + (G j).2) else .slice none 0 0) := by
      have := rmap_get (F := fun j => if j < k then .slice (some ⟨(G j).1, 0, none⟩) (A j).c ((A j).c + (G j).2) else .slice none 0 0) hj
      rw [Nat.zero_add] at this
      exact this
    have e2 : (wl A (uG G k (g, x)) (k + 1) m)[j]? = some (if j < k + 1 then .slice (some ⟨(uG G k (g, x) j).1, 0, none⟩) (A j).c ((A j).c + (uG G k (g, x) j).2) else .slice none 0 0) := by
      have := rmap_get (F := fun j => if j < k + 1 then .slice (some ⟨(uG G k (g, x) j).1, 0, none⟩) (A j).c ((A j).c + (uG G k (g, x) j).2) else .slice none 0 0) hj
      rw [Nat.zero_add] at this
      exact this
    rw [e1, e2]
    unfold uG
    by_cases h1 : j = k
    · subst h1
      rw [if_pos (by simp), if_pos (by omega), if_pos rfl, show j - (0 + j) = 0 by omega]
      rfl
    · rw [if_neg (by simp; omega), if_neg h1]
      by_cases h2 : j < k
      · rw [if_pos h2, if_pos (by omega)]
      · rw [if_neg h2, if_neg (by omega)]
  · rw [if_neg (by simp; omega), List.getElem?_eq_none (by rw [wl_len]; omega), List.getElem?_eq_none (by rw [wl_len]; omega)]
structure Wq (w : World) (gw : Nat) (A : Nat → Ap) (m k : Nat) (G : Nat → Nat × Nat) (w' : World) : Prop where
  b : Below w.heap.size w w'
  lo : w.heap.size ≤ gw
  m_ : Mm w' [(gw, wl A G k m)]
  cp : ∀ j, j < k → gw < (G j).1 ∧ Mm w' [((G j).1, ints .u8 (A j).f (A j).c)]
def Wk (w : World) (gw : Nat) (A : Nat → Ap) (m k : Nat) (w' : World) : Prop := ∃ G, Wq w gw A m k G w'
section
variable {w w1 w2 : World} {gw gl m k i : Nat} {A : Nat → Ap} {G : Nat → Nat × Nat}
theorem Wq.step (h : Wq w gw A m k G w1) (hb : Below w1.heap.size w1 w2) : Wq w gw A m k G w2 := ⟨h.b.trans (hb.mono h.b.size), h.lo, h.m_.below hb, fun j hj => ⟨(h.cp j hj).1, (h.cp j hj).2.below hb⟩⟩
theorem Wq.size (h : Wq w gw A m k G w1) : w.heap.size ≤ w1.heap.size := h.b.size
theorem Wk.step (h : Wk w gw A m k w1) (hb : Below w1.heap.size w1 w2) : Wk w gw A m k w2 := let ⟨G, h⟩ := h; ⟨G, h.step hb⟩
theorem Wk.b (h : Wk w gw A m k w1) : Below w.heap.size w w1 := let ⟨_, h⟩ := h; h.b
theorem Wk.size (h : Wk w gw A m k w1) : w.heap.size ≤ w1.heap.size := h.b.size
theorem Wk.lt (h : Wk w gw A m k w1) : gw < w1.heap.size := let ⟨_, h⟩ := h; (h.m_.blk _ (List.mem_singleton.2 rfl)).1
theorem Wk.start (hb : Below w.heap.size w w1) (A : Nat → Ap) (m : Nat) (t : TypeId) : Wk w w1.heap.size A m 0 (w1.alloc (.cells (List.replicate m (.slice none 0 0) : List Value).toArray t)) :=
  ⟨fun _ => (0, 0), hb.alloc hb.size _, hb.size, by rw [wl_zero]; exact (Mm.nil w1).alloc _ t rfl, fun j hj => absurd hj (Nat.not_lt_zero _)⟩
theorem Mm.kp {w w' : World} {g k : Nat} {cs : List Value} (h : Mm w [(g, cs)]) (hk : Kp k w w') (hne : g ≠ k) : Mm w' [(g, cs)] := by
  refine ⟨fun p hp => ?_, List.pairwise_singleton _ _⟩
  rw [List.mem_singleton.1 hp]
  have hb := h.blk _ (List.mem_singleton.2 rfl)
  have hblk := hk.block g hb.1 hne
  refine ⟨Nat.lt_of_lt_of_le hb.1 hk.size, fun j v hj => ?_⟩
  rw [World.cell?_of_block (a := ⟨g, j, none⟩) hblk, World.frozen?_of_block (a := ⟨g, j, none⟩) hblk]
  exact hb.2 j v hj
theorem Mm.other {w : World} {g g' off : Nat} {cs vs : List Value} (h : Mm w [(g, cs)]) (hg : g ≠ g') : Mm (w.setCells g' off vs) [(g, cs)] := h.kp ((Kp.refl g' w).put (Or.inl rfl)) hg
theorem Wq.store (h : Wq w gw A m k G w1) (hk : k < m) {g x : Nat} (hg : gw < g) (hm : Mm w1 [(g, ints .u8 (A k).f (A k).c)]) : Wk w gw A m (k + 1) (w1.setCells gw (0 + k) [.slice (some ⟨g, 0, none⟩) (A k).c ((A k).c + x)]) := by
  refine ⟨uG G k (g, x), below_setCells _ h.lo _ _ _ h.b, h.lo, ?_, fun j hj => ?_⟩
  · have := h.m_.put 0 (off := 0 + k) (vs := [.slice (some ⟨g, 0, none⟩) (A k).c ((A k).c + x)]) rfl (by rw [wl_len]; simp; omega)
    rw [wl_put A G k m g x hk] at this
    exact this
  · unfold uG
    by_cases e : j = k
    · subst e
      rw [if_pos rfl]
      exact ⟨hg, hm.other (by omega)⟩
    · rw [if_neg e]
      have hc := h.cp j (by omega)
      exact ⟨hc.1, hc.2.other (by omega)⟩
/-- One of the slices is written over. -/
structure Wo (w : World) (gw : Nat) (A : Nat → Ap) (m i : Nat) (G : Nat → Nat × Nat) (w' : World) : Prop where
  lo : w.heap.size ≤ gw
  sz : w.heap.size ≤ w'.heap.size
  m_ : Mm w' [(gw, wl A G m m)]
  cp : ∀ j, j < m → gw < (G j).1 ∧ Mm w' [((G j).1, ints .u8 (A j).f (A j).c)]
  ov : ((A i).p = none ∧ Below w.heap.size w w') ∨ ((A i).p ≠ none ∧ Ov (A i).c (A i).g w w' ∧ Mm w' [((A i).g, ints .u8 (mk8 (A i).f 90) (A i).c)])
theorem Wo.step (h : Wo w gw A m i G w1) (hb : Below w1.heap.size w1 w2) : Wo w gw A m i G w2 :=
  ⟨h.lo, Nat.le_trans h.sz hb.size, h.m_.below hb, fun j hj => ⟨(h.cp j hj).1, (h.cp j hj).2.below hb⟩, by
    rcases h.ov with ⟨e, h1⟩ | ⟨e, h1, h2⟩
    · exact .inl ⟨e, h1.trans (hb.mono h.sz)⟩
    · exact .inr ⟨e, h1.grow hb, h2.below hb⟩⟩
theorem Wo.size (h : Wo w gw A m i G w1) : w.heap.size ≤ w1.heap.size := h.sz
theorem Wq.nil (h : Wq w gw A m m G w1) (hp : (A i).p = none) (hb : Below w1.heap.size w1 w2) : Wo w gw A m i G w2 :=
  let h' := h.step hb
  ⟨h'.lo, h'.b.size, h'.m_, h'.cp, .inl ⟨hp, h'.b⟩⟩
theorem Wq.over (h : Wq w gw A m m G w1) (hp : (A i).p ≠ none) (hlt : (A i).g < w.heap.size) (hm : Mm w2 [((A i).g, ints .u8 (mk8 (A i).f 90) (A i).c)]) (ho : Ov (A i).c (A i).g w1 w2) : Wo w gw A m i G w2 := by
  have hlo := h.lo
  refine ⟨h.lo, Nat.le_trans h.b.size ho.size, h.m_.kp ho.k (by omega), fun j hj => ⟨(h.cp j hj).1, (h.cp j hj).2.kp ho.k (by have := (h.cp j hj).1; omega)⟩, .inr ⟨hp, ((Ov.refl hlt).grow h.b).join ho, hm⟩⟩
/-- The list, and the other slices, meanwhile. -/
theorem Wo.ls (h : Wo w gw A m i G w1) (hA : Al gl A m w) (hW : Aw gl A m) (hi : i < m) : Mm w1 [(gl, apl A m)] := by
  rcases h.ov with ⟨_, h1⟩ | ⟨e, h1, _⟩
  · exact hA.ls.below h1
  · exact hA.ls.kp h1.k (Ne.symm (hW.nl i hi e))
theorem Wo.row (h : Wo w gw A m i G w1) (hA : Al gl A m w) (hW : Aw gl A m) (hi : i < m) (hk : k < m) (hne : k ≠ i) : (A k).row (A k).f w1 := by
  rcases h.ov with ⟨_, h1⟩ | ⟨e, h1, _⟩
  · exact (hA.row k hk).below h1
  · rcases hA.row k hk with e2 | hm
    · exact .inl e2
    · by_cases e3 : (A k).p = none
      · exact .inl e3
      · exact .inr (hm.kp h1.k (hW.ne k i hk hi hne e3 e))
/-- Written over twice, nothing has changed. -/
theorem Wo.nil (h : Wo w gw A m i G w1) (hp : (A i).p = none) (hb : Below w1.heap.size w1 w2) : Below w.heap.size w w2 := by
  rcases h.ov with ⟨_, h1⟩ | ⟨e, _⟩
  · exact h1.trans (hb.mono h.sz)
  · exact absurd hp e
theorem Wo.back (h : Wo w gw A m i G w1) (hA : Al gl A m w) (hW : Aw gl A m) (hi : i < m) (hp : (A i).p ≠ none) (hm : Mm w2 [((A i).g, ints .u8 (mk8 (mk8 (A i).f 90) 90) (A i).c)]) (ho : Ov (A i).c (A i).g w1 w2) : Below w.heap.size w w2 := by
  rcases h.ov with ⟨e, _⟩ | ⟨_, h1, _⟩
  · exact absurd e hp
  · have e : ints .u8 (mk8 (mk8 (A i).f 90) 90) (A i).c = ints .u8 (A i).f (A i).c := ints_congr fun j _ => x8_twice 90 ((hW.ok i hi).by_ j) (by decide)
    rw [e] at hm
    rcases hA.row i hi with e2 | hm0
    · exact absurd e2 hp
    · exact (h1.join ho).same hm0 hm (ints_len _ _ _)
theorem Wo.row2 (h : Wo w gw A m i G w1) (hp : (A i).p ≠ none) : Mm w1 [((A i).g, ints .u8 (mk8 (A i).f 90) (A i).c)] := by
  rcases h.ov with ⟨e, _⟩ | ⟨_, _, h1⟩
  · exact absurd e hp
  · exact h1
end
section
variable {ρ : Operand → Value} {o : Oper} {x y : Operand} {g off n c m : Nat} {w : World} {p : Option Addr}
theorem ex_slC (h : p = none → c = 0) (ho : o.op = .slice 22 x none (some y) none) (hx : ρ x = .slice p n c) (hy : ρ y = .int .i64 ((c : Nat) : Int)) : (execOp ρ o).run Tryd.prog w = .ok (.value (.slice p c c)) w := by
  cases p with
  | none =>
    obtain rfl := h rfl
    simp only [execOp, ho, hx, hy, Option.map_some, Option.map_none]
    clear ho hx hy h
    go_simp
  | some a =>
    simp only [execOp, ho, hx, hy, Option.map_some, Option.map_none]
    clear ho hx hy h
    go_simp
theorem ex_storeS {n c : Nat} {p : Option Addr} {cs : List Value} {l : List (Nat × List Value)} (h : Mm w l) (k : Nat) (hk : l[k]? = some (g, cs)) (ho : o.op = .store 22 x y) (hx : ρ x = PT g off) (hy : ρ y = .slice p n c) (hc : off < cs.length) :
    (execOp ρ o).run Tryd.prog w = .ok .skip (w.setCells g off [.slice p n c]) := by
  have hs : ∀ w, (sizeOf 22).run Tryd.prog w = .ok 1 w := Tryd.sizeOf22
  have hm := List.mem_of_getElem? hk
  have e : cs[off]? = some (cs[off]'hc) := List.getElem?_eq_getElem _
  have c0 := h.cell hm e
  have f0 := h.free hm e
  clear h hm hk
  simp only [execOp, ho, hx, hy]
  go_simp
  simp [World.setCells]
theorem ex_mkL (hn : m ≤ 1048576) (ho : o.op = .makeSlice 29 x y) (hx : ρ x = .int .i64 ((m : Nat) : Int)) (hy : ρ y = .int .i64 ((m : Nat) : Int)) : (execOp ρ o).run Tryd.prog w = .ok (.value (.slice (some ⟨w.heap.size, 0, none⟩) m m)) (w.alloc (.cells (List.replicate m (.slice none 0 0) : List Value).toArray 22)) := by
  have hmk := run_make_row' (P := Tryd.prog) 29 22 (.slice none 0 0) 24 (by kernel_rfl) (by kernel_rfl) rfl .i64 .i64 m (by omega) (by omega) w
  rw [show madeCells #[.slice none 0 0] m = (List.replicate m (.slice none 0 0) : List Value).toArray by apply Array.toList_inj.1; rw [toList_madeCells_one]] at hmk
  simp only [execOp, ho, hx, hy, Sem.run_bind, hmk, Result.andThen_ok, Sem.run_pure]
end
end Rg
end Go.Proofs.YtolflfjfegngnaaDoor
end
section
namespace Go.Proofs.YtolflfjfegngnaaDoor
open Go.RowKit
namespace Rg
set_option maxRecDepth 100000
theorem Al.glt {gl : Nat} {A : Nat → Ap} {m i : Nat} {w : World} (h : Al gl A m w) (hi : i < m) (hp : (A i).p ≠ none) : (A i).g < w.heap.size := by
  rcases h.row i hi with e | hm
  · exact absurd e hp
  · exact (hm.blk _ (List.mem_singleton.2 rfl)).1
theorem Over_ap {q : Ap} (h : q.Ok) (f : Nat → Nat) (w : World) (hr : q.row f w) : Calls Tryd.prog 27 #[.slice q.p q.n q.c] w fun e w' => e = .returned (.tuple #[]) ∧ ((q.p = none ∧ Below w.heap.size w w') ∨ (q.p ≠ none ∧ Mm w' [(q.g, ints .u8 (mk8 f 90) q.c)] ∧ Ov q.c q.g w w')) := by
  rcases h.at_ with e | ⟨e, e1, e2⟩
  · rcases hr with e3 | hm
    · exact absurd (e.symm.trans e3) (by simp)
    · rw [e]
      exact Calls.mono (Over_some q.g q.n q.c f h.mx w hm) (fun e' w' hh => ⟨hh.1, .inr ⟨by simp, hh.2⟩⟩)
  · rw [e, e1, e2]
    exact Calls.mono (Over_nil w) (fun e' w' hh => ⟨hh.1, .inl ⟨rfl, hh.2⟩⟩)
theorem same_bb {xs : List Int} {c c' : Nat} {v v' : Value} {w : World} (h : BSl w xs c v) (h' : BSl w xs c' v') : Calls Tryd.prog 36 #[v, v'] w fun e w' => e = .returned (.bool true) ∧ Below w.heap.size w w' := Calls.mono (same_any w h h') (fun e w' hh => ⟨hh.1, by rw [hh.2]; exact Below.refl _ _⟩)
set_option maxHeartbeats 4000000 in
set_option maxRecDepth 100000 in
theorem apart_any (gl m : Nat) (A : Nat → Ap) (hW0 : Aw gl A m) (w : World) (hA : Al gl A m w) :
    Calls Tryd.prog 41 #[.slice (some ⟨gl, 0, none⟩) m m] w fun e w' => e = .returned (.bool true) ∧ Below w.heap.size w w' := by
  have H0 : Hid (_ ∧ _) := ⟨Mm.nil w, Below.refl w.heap.size w⟩
  have hml := hW0.ml
  have hW : Hid _ := hW0
  have AL0 : Hid (Al gl A m w) := hA
  clear hA hW0
  obtain ⟨w0, rfl⟩ : ∃ w0, w0 = w := ⟨w, rfl⟩
  go_enter Tryd.func41, Tryd.ntmps41
  refine wp_seq ?_
  refine walk_seqB 1 [.quiet (.bool false)] H0 ?ho1 ?he1
  case ho1 => exact ak (fun _ => ⟨rfl, fun _ _ => rfl⟩) trivial
  intro _ w1 H1
  refine rest0 rfl (then_normal (wp_seq (wp_seq ?_)))
  refine walk_seqB 1 [.quiet (.int .i64 0)] H1 ?ho2 ?he2
  case ho2 => exact ak (fun _ => ⟨rfl, fun _ _ => rfl⟩) trivial
  intro _ w2 H2
  clear H1
  refine rest0 rfl (then_normal (wp_block ?_))
  refine loop_ghost (α := Nat) (fun i a' w' => ∃ s0 : Nat → Value, a' = ⟨#[.slice (some ⟨gl, 0, none⟩) m m, undef, s0 2, .int .i64 ((i : Nat) : Int), s0 4, s0 5, s0 6, s0 7, s0 8, s0 9, s0 10, s0 11, s0 12, s0 13, s0 14, s0 15, s0 16, s0 17, s0 18, s0 19, s0 20, s0 21, s0 22, s0 23, s0 24, s0 25, s0 26, s0 27, s0 28, s0 29, s0 30, s0 31, s0 32, s0 33, s0 34, s0 35, s0 36, s0 37, s0 38, s0 39, s0 40, s0 41, s0 42, s0 43, s0 44, s0 45, s0 46, s0 47, s0 48, s0 49, s0 50, s0 51, s0 52, s0 53, s0 54, s0 55, s0 56, s0 57, s0 58, s0 59, s0 60, s0 61, s0 62, s0 63, s0 64, s0 65, s0 66, s0 67, s0 68, s0 69, s0 70, s0 71, s0 72], []⟩ ∧ (Mm w' [] ∧ Below w0.heap.size w0 w') ∧ i ≤ m) (fun i => m - i) 0 ?st0 ?rd0
  case st0 => exact ⟨(slotfn [undef, undef, .bool false, undef, undef, undef, undef, undef, undef, undef, undef, undef, undef, undef, undef, undef, undef, undef, undef, undef, undef, undef, undef, undef, undef, undef, undef, undef, undef, undef, undef, undef, undef, undef, undef, undef, undef, undef, undef, undef, undef, undef, undef, undef, undef, undef, undef, undef, undef, undef, undef, undef, undef, undef, undef, undef, undef, undef, undef, undef, undef, undef, undef, undef, undef, undef, undef, undef, undef, undef, undef, undef, undef]), rfl, ⟨H2.out.1, H2.out.2⟩, by omega⟩
  intro i a' w3 hI
  obtain ⟨s0, rfl, hMB, hk0⟩ := hI
  have H3 : Hid (_ ∧ _) := hMB
  clear hMB H2
  by_cases hlti : i < m
  · have hrd : True := trivial
    clear hrd
    refine wp_seq (wp_seq ?_)
    refine walk_seqB 4 [.quiet (.int .i64 ((i : Nat) : Int)), .quiet (.slice (some ⟨gl, 0, none⟩) m m), .quiet (.int .i64 ((m : Nat) : Int)), .quiet (.bool true)] H3 ?ho3 ?he3
    case ho3 => exact ak (fun _ => ⟨rfl, fun _ _ => rfl⟩) (ak (fun _ => ⟨rfl, fun _ _ => rfl⟩) (ak (by refine fun γ => ⟨rfl, fun w' h => ?_⟩; clear h; go_simp) (ak (by refine fun γ => ⟨rfl, fun w' h => ?_⟩; clear h; go_simp <;> omega) trivial)))
    intro _ w4 H4
    clear H3
    refine rest0 rfl (then_normal (wp_cond_true rfl ?_))
    refine wp_skip (then_normal ?_)
    refine wp_seq (wp_block (wp_seq ?_))
    have HB : Hid (Below w0.heap.size w0 w4) := H4.out.2
    have AL : Hid (Al gl A m w4) := AL0.out.below H4.out.2
    clear H4
    generalize w4 = w at HB AL ⊢
    have H5 : Hid (Mm w [] ∧ Below w.heap.size w w) := ⟨Mm.nil w, Below.refl _ _⟩
    refine walk_seqB 2 [.quiet (.slice (some ⟨gl, 0, none⟩) m m), .quiet (.int .i64 ((m : Nat) : Int))] H5 ?ho4 ?he4
    case ho4 => exact ak (fun _ => ⟨rfl, fun _ _ => rfl⟩) (ak (by refine fun γ => ⟨rfl, fun w' h => ?_⟩; clear h; go_simp) trivial)
    intro _ w6 H6
    clear H5
    refine rest_at (l := [2, 3]) rfl ?_
    refine rest_set (d := 15) (v := .slice (some ⟨w6.heap.size, 0, none⟩) m m) (w' := (w6.alloc (.cells (List.replicate m (.slice none 0 0) : List Value).toArray 22))) rfl rfl rfl (ex_mkL hW.out.ml rfl rfl rfl) ?_
    simp only [Act.put, sa, sz, ss]
    have H7 : Hid (Mm (w6.alloc (.cells (List.replicate m (.slice none 0 0) : List Value).toArray 22)) [] ∧ Wk w w6.heap.size A m 0 (w6.alloc (.cells (List.replicate m (.slice none 0 0) : List Value).toArray 22))) := ⟨Mm.nil _, Wk.start H6.out.2 A m 22⟩
    clear H6
    generalize hgw : (w6.alloc (.cells (List.replicate m (.slice none 0 0) : List Value).toArray 22)) = w7 at H7 ⊢
    clear hgw
    generalize w6.heap.size = gw at H7 ⊢
    refine rest_set (d := 4) (v := .slice (some ⟨gw, 0, none⟩) m m) (w' := w7) rfl rfl rfl rfl ?_
    simp only [Act.put, sa, sz, ss]
    refine rest_nil (then_normal ?_)
    refine wp_seq (wp_seq ?_)
    refine walk_seqA 1 [.quiet (.int .i64 0)] (sB H7) ?ho5 ?he5
    case ho5 => exact ak (fun _ => ⟨rfl, fun _ _ => rfl⟩) trivial
    intro γ w8 l hM hl
    have M8 : Mm w8 [] := H7.out.1.grow hM (Nat.le_refl _) hl [] rfl (by decide)
    have B8 : Wk w gw A m 0 w8 := Wk.step H7.out.2 (hM.below)
    clear hM hl l H7
    clear γ
    have H8 : Hid (_ ∧ _) := ⟨M8, B8⟩
    clear M8 B8
    refine rest0 rfl (then_normal (wp_block ?_))
    refine loop_ghost (α := Nat) (fun k a' w' => ∃ s2 : Nat → Value, a' = ⟨#[.slice (some ⟨gl, 0, none⟩) m m, undef, s0 2, .int .i64 ((i : Nat) : Int), .slice (some ⟨gw, 0, none⟩) m m, .int .i64 ((k : Nat) : Int), s0 6, .int .i64 ((i : Nat) : Int), .slice (some ⟨gl, 0, none⟩) m m, .int .i64 ((m : Nat) : Int), .bool true, s0 11, s0 12, .slice (some ⟨gl, 0, none⟩) m m, .int .i64 ((m : Nat) : Int), .slice (some ⟨gw, 0, none⟩) m m, s2 16, s2 17, s2 18, s2 19, s2 20, s2 21, s2 22, s2 23, s2 24, s2 25, s2 26, s2 27, s2 28, s2 29, s2 30, s2 31, s2 32, s2 33, s2 34, s2 35, s0 36, s0 37, s0 38, s0 39, s0 40, s0 41, s0 42, s0 43, s0 44, s0 45, s0 46, s0 47, s0 48, s0 49, s0 50, s0 51, s0 52, s0 53, s0 54, s0 55, s0 56, s0 57, s0 58, s0 59, s0 60, s0 61, s0 62, s0 63, s0 64, s0 65, s0 66, s0 67, s0 68, s0 69, s0 70, s0 71, s0 72], []⟩ ∧ (Mm w' [] ∧ Wk w gw A m k w') ∧ k ≤ m) (fun k => m - k) 0 ?st2 ?rd2
    case st2 => exact ⟨(slotfn [undef, undef, undef, undef, undef, undef, undef, undef, undef, undef, undef, undef, undef, undef, undef, undef, s0 16, s0 17, s0 18, s0 19, s0 20, s0 21, s0 22, s0 23, s0 24, s0 25, s0 26, s0 27, s0 28, s0 29, s0 30, s0 31, s0 32, s0 33, s0 34, s0 35]), rfl, ⟨H8.out.1, H8.out.2⟩, by omega⟩
    intro k a' w9 hI
    obtain ⟨s2, rfl, hMB, hk2⟩ := hI
    have H9 : Hid (_ ∧ _) := hMB
    clear hMB H8
    by_cases hlt : k < m
    · have hrd : True := trivial
      clear hrd
      refine wp_seq (wp_seq ?_)
      refine walk_seqA 4 [.quiet (.int .i64 ((k : Nat) : Int)), .quiet (.slice (some ⟨gl, 0, none⟩) m m), .quiet (.int .i64 ((m : Nat) : Int)), .quiet (.bool true)] (sB H9) ?ho6 ?he6
      case ho6 => exact ak (fun _ => ⟨rfl, fun _ _ => rfl⟩) (ak (fun _ => ⟨rfl, fun _ _ => rfl⟩) (ak (by refine fun γ => ⟨rfl, fun w' h => ?_⟩; clear h; go_simp) (ak (by refine fun γ => ⟨rfl, fun w' h => ?_⟩; clear h; go_simp <;> omega) trivial)))
      intro γ w10 l hM hl
      have M10 : Mm w10 [] := H9.out.1.grow hM (Nat.le_refl _) hl [] rfl (by decide)
      have B10 : Wk w gw A m k w10 := Wk.step H9.out.2 (hM.below)
      clear hM hl l H9
      clear γ
      have H10 : Hid (_ ∧ _) := ⟨M10, B10⟩
      clear M10 B10
      refine rest0 rfl (then_normal (wp_cond_true rfl ?_))
      refine wp_skip (then_normal ?_)
      refine wp_seq (wp_block ?_)
      refine (walk_any) (by kernel_rfl) 14 [.quiet (.slice (some ⟨gw, 0, none⟩) m m), .quiet (.int .i64 ((k : Nat) : Int)), .quiet (.slice (some ⟨gl, 0, none⟩) m m), .quiet (.int .i64 ((k : Nat) : Int)), .quiet (PT gl (0 + k)), .quiet (.slice (A k).p (A k).n (A k).c), .quiet (.slice (some ⟨gl, 0, none⟩) m m), .quiet (.int .i64 ((k : Nat) : Int)), .quiet (PT gl (0 + k)), .quiet (.slice (A k).p (A k).n (A k).c), .quiet (.int .i64 (((A k).c : Nat) : Int)), .quiet (.slice (A k).p (A k).c (A k).c), .bornX (fun g x y => .slice (some ⟨g, 0, none⟩) ((A k).c) ((A k).c + x)) (ints .u8 (A k).f (A k).c), .quiet (PT gw (0 + k))] (fun u' => Mm u' [] ∧ (Al gl A m u')) ?pre7 ?F7 ?hpre7 (fun γ => ?hF7) (by kernel_rfl) ?hL7 ?hS7 ?ho7 ?he7
      case hpre7 => simp only [tk, tz]; rfl
      case hF7 => simp only [fill, Kind.val, Act.put, sa, sz, ss]; rfl
      case hL7 => exact trivial
      case hS7 => exact fun w' hb => ⟨H10.out.1.below hb, AL.out.below (Wk.step H10.out.2 (hb)).b⟩
      case ho7 =>
        refine ak (fun _ => ⟨rfl, fun _ _ => rfl⟩) ?_
        refine ak (fun _ => ⟨rfl, fun _ _ => rfl⟩) ?_
        refine ak (fun _ => ⟨rfl, fun _ _ => rfl⟩) ?_
        refine ak (fun _ => ⟨rfl, fun _ _ => rfl⟩) ?_
        refine ak (fun γ => ⟨rfl, fun w' _ => ex_ixP29 (j := k) rfl rfl rfl rfl (by omega)⟩) ?_
        refine ak (fun γ => ⟨rfl, fun w' hX => ex_loadC hX.2.ls 0 rfl rfl rfl Tryd.isAgg22 (rmap_get (by omega))⟩) ?_
        refine ak (fun _ => ⟨rfl, fun _ _ => rfl⟩) ?_
        refine ak (fun _ => ⟨rfl, fun _ _ => rfl⟩) ?_
        refine ak (fun γ => ⟨rfl, fun w' _ => ex_ixP29 (j := k) rfl rfl rfl rfl (by omega)⟩) ?_
        refine ak (fun γ => ⟨rfl, fun w' hX => ex_loadC hX.2.ls 0 rfl rfl rfl Tryd.isAgg22 (rmap_get (by omega))⟩) ?_
        refine ak (fun γ => ⟨rfl, fun w' _ => ex_cap22 rfl rfl⟩) ?_
        refine ak (fun γ => ⟨rfl, fun w' _ => ex_slC (hW.out.ok k (by omega)).nil rfl rfl rfl⟩) ?_
        refine ak (fun γ => ⟨rfl, fun w' hX => ⟨28, #[.slice (A k).p (A k).c (A k).c], exec_call rfl call28 rfl (mpn rfl), copy_born (A k).pt (hW.out.ok k (by omega)).pok (hW.out.ok k (by omega)).nil (hW.out.ok k (by omega)).mx w' (Ap.row.rs (hW.out.ok k (by omega)) (hX.2.row k (by omega)))⟩⟩) ?_
        refine ak (fun γ => ⟨rfl, fun w' _ => ex_ixP29 (j := k) rfl rfl rfl rfl (by omega)⟩) ?_
        exact trivial
      intro γ w11 l hM hl
      have M11 : Mm w11 [(γ 12, ints .u8 (A k).f (A k).c)] := H10.out.1.grow hM (Nat.le_refl _) hl [12] rfl (by decide)
      have B11 : Wk w gw A m k w11 := Wk.step H10.out.2 (hM.below)
      have o7_12 : Hid (w.heap.size ≤ γ 12) := Nat.le_trans H10.out.2.size (hM.fin (Nat.le_refl _) hl (i := 12) rfl).2.1
      have og7_12 : Hid (gw < γ 12) := Nat.lt_of_lt_of_le H10.out.2.lt (hM.fin (Nat.le_refl _) hl (i := 12) rfl).2.1
      clear hM hl l H10
      generalize γ 12 = γ7_12 at M11 o7_12 og7_12 ⊢
      generalize γ 65548 = γ7_65548
      clear γ
      have H11 : Hid (_ ∧ _) := ⟨M11, B11⟩
      clear M11 B11
      refine rest_at (l := [14]) rfl ?_
      obtain ⟨G, hG⟩ := H11.out.2
      refine rest_store rfl rfl rfl (ex_storeS hG.m_ 0 rfl rfl rfl rfl (by rw [wl_len]; omega)) ?_
      have H12 : Hid (Mm (w11.setCells gw (0 + k) [.slice (some ⟨γ7_12, 0, none⟩) (A k).c ((A k).c + γ7_65548)]) [] ∧ Wk w gw A m (k + 1) (w11.setCells gw (0 + k) [.slice (some ⟨γ7_12, 0, none⟩) (A k).c ((A k).c + γ7_65548)])) := ⟨Mm.nil _, hG.store hlt og7_12.out (H11.out.1.one 0 rfl)⟩
      clear hG H11
      generalize hgw : World.setCells _ _ _ _ = w12 at H12 ⊢
      clear hgw
      refine rest_nil (block_normal (then_normal ?_))
      refine walk_seqA 2 [.quiet (.int .i64 ((k : Nat) : Int)), .quiet (.int .i64 ((k + 1 : Nat) : Int))] (sB H12) ?ho8 ?he8
      case ho8 => exact ak (fun _ => ⟨rfl, fun _ _ => rfl⟩) (ak (by refine fun γ => ⟨rfl, fun w' h => ?_⟩; clear h; go_simp; rw [IntKind.wrap_i64]; omega) trivial)
      intro γ w13 l hM hl
      have M13 : Mm w13 [] := H12.out.1.grow hM (Nat.le_refl _) hl [] rfl (by decide)
      have B13 : Wk w gw A m (k + 1) w13 := Wk.step H12.out.2 (hM.below)
      clear hM hl l H12
      clear γ
      have H13 : Hid (_ ∧ _) := ⟨M13, B13⟩
      clear M13 B13
      refine rest_at (l := [2]) rfl ?_
      refine rest_set (d := 5) (v := .int .i64 ((k + 1 : Nat) : Int)) (w' := w13) rfl rfl rfl rfl ?_
      simp only [Act.put, sa, sz, ss]
      refine rest_nil (then_normal ?_)
      exact ⟨k + 1, ⟨(slotfn [undef, undef, undef, undef, undef, undef, undef, undef, undef, undef, undef, undef, undef, undef, undef, undef, .int .i64 ((k : Nat) : Int), .slice (some ⟨gl, 0, none⟩) m m, .int .i64 ((m : Nat) : Int), .bool true, .int .i64 ((k : Nat) : Int), .int .i64 ((k + 1 : Nat) : Int), .slice (some ⟨gw, 0, none⟩) m m, .int .i64 ((k : Nat) : Int), .slice (some ⟨gl, 0, none⟩) m m, .int .i64 ((k : Nat) : Int), PT gl (0 + k), .slice (A k).p (A k).n (A k).c, .slice (some ⟨gl, 0, none⟩) m m, .int .i64 ((k : Nat) : Int), PT gl (0 + k), .slice (A k).p (A k).n (A k).c, .int .i64 (((A k).c : Nat) : Int), .slice (A k).p (A k).c (A k).c, .slice (some ⟨γ7_12, 0, none⟩) ((A k).c) ((A k).c + γ7_65548), PT gw (0 + k)]), rfl, ⟨Mm.nil _, H13.out.2⟩, by omega⟩, by omega⟩
    have hkm : m = k := by omega
    subst hkm
    refine wp_seq (wp_seq ?_)
    refine walk_seqA 4 [.quiet (.int .i64 ((m : Nat) : Int)), .quiet (.slice (some ⟨gl, 0, none⟩) m m), .quiet (.int .i64 ((m : Nat) : Int)), .quiet (.bool false)] (sB H9) ?ho9 ?he9
    case ho9 => exact ak (fun _ => ⟨rfl, fun _ _ => rfl⟩) (ak (fun _ => ⟨rfl, fun _ _ => rfl⟩) (ak (by refine fun γ => ⟨rfl, fun w' h => ?_⟩; clear h; go_simp) (ak (by refine fun γ => ⟨rfl, fun w' h => ?_⟩; clear h; go_simp <;> omega) trivial)))
    intro γ w14 l hM hl
    have M14 : Mm w14 [] := H9.out.1.grow hM (Nat.le_refl _) hl [] rfl (by decide)
    have B14 : Wk w gw A m m w14 := Wk.step H9.out.2 (hM.below)
    clear hM hl l H9
    clear γ
    have H14 : Hid (_ ∧ _) := ⟨M14, B14⟩
    clear M14 B14
    refine rest0 rfl (then_normal (wp_cond_false rfl ?_))
    refine wp_exit ?_
    repeat refine then_exit ?_
    refine block_exit ?_
    obtain ⟨G, hG⟩ := H14.out.2
    have H15 : Hid (Mm w14 [] ∧ Wq w gw A m m G w14) := ⟨H14.out.1, hG⟩
    clear hG H14
    refine then_normal (wp_seq ?_)
    refine (walk_seq) 4 [.quiet (.slice (some ⟨gl, 0, none⟩) m m), .quiet (.int .i64 ((i : Nat) : Int)), .quiet (PT gl (0 + i)), .quiet (.slice (A i).p (A i).n (A i).c)] (fun u' => Mm u' [] ∧ (Al gl A m u')) ?pre10 ?F10 ?hpre10 (fun γ => ?hF10) (by kernel_rfl) ?hL10 ?hS10 ?ho10 ?he10
    case hpre10 => simp only [tk, tz]; rfl
    case hF10 => simp only [fill, Kind.val, Act.put, sa, sz, ss]; rfl
    case hL10 => exact trivial
    case hS10 => exact fun w' hb => ⟨H15.out.1.below hb, AL.out.below (Wq.step H15.out.2 (hb)).b⟩
    case ho10 =>
      refine ak (fun _ => ⟨rfl, fun _ _ => rfl⟩) ?_
      refine ak (fun _ => ⟨rfl, fun _ _ => rfl⟩) ?_
      refine ak (fun γ => ⟨rfl, fun w' _ => ex_ixP29 (j := i) rfl rfl rfl rfl (by omega)⟩) ?_
      refine ak (fun γ => ⟨rfl, fun w' hX => ex_loadC hX.2.ls 0 rfl rfl rfl Tryd.isAgg22 (rmap_get (by omega))⟩) ?_
      exact trivial
    intro γ w16 l hM hl
    have M16 : Mm w16 [] := H15.out.1.grow hM (Nat.le_refl _) hl [] rfl (by decide)
    have B16 : Wq w gw A m m G w16 := Wq.step H15.out.2 (hM.below)
    clear hM hl l H15
    clear γ
    have H16 : Hid (_ ∧ _) := ⟨M16, B16⟩
    clear M16 B16
    refine rest_at (l := [4]) rfl ?_
    refine rest_enter (d := 40) rfl rfl rfl (exec_call (args := #[.slice (A i).p (A i).n (A i).c]) rfl call27 rfl (mpn rfl)) ((Calls.mono (Over_ap (hW.out.ok i hlti) (A i).f w16 ((AL.out.below H16.out.2.b).row i hlti)) (fun e w2 hh => ⟨_, hh.1, rfl, hh.2⟩) : Calls Tryd.prog 27 #[.slice (A i).p (A i).n (A i).c] w16 (fun e w' => ∃ v, e = .returned v ∧ (v = .tuple #[] ∧ (((A i).p = none ∧ Below w16.heap.size w16 w') ∨ ((A i).p ≠ none ∧ Mm w' [((A i).g, ints .u8 (mk8 (A i).f 90) (A i).c)] ∧ Ov (A i).c (A i).g w16 w')))))) ?_
    rintro _ w17 ⟨rfl, hov⟩
    have hwo : Wo w gw A m i G w17 := by
      rcases hov with ⟨hp, hb⟩ | ⟨hp, h1, h2⟩
      · exact H16.out.2.nil hp hb
      · exact H16.out.2.over hp (AL.out.glt hlti hp) h1 h2
    have H17 : Hid (Mm w17 [] ∧ Wo w gw A m i G w17) := ⟨Mm.nil _, hwo⟩
    clear hov hwo H16
    simp only [Act.put, sa, sz, ss]
    refine rest_nil (then_normal ?_)
    refine wp_seq (wp_seq ?_)
    refine walk_seqA 1 [.quiet (.int .i64 0)] (sB H17) ?ho11 ?he11
    case ho11 => exact ak (fun _ => ⟨rfl, fun _ _ => rfl⟩) trivial
    intro γ w18 l hM hl
    have M18 : Mm w18 [] := H17.out.1.grow hM (Nat.le_refl _) hl [] rfl (by decide)
    have B18 : Wo w gw A m i G w18 := Wo.step H17.out.2 (hM.below)
    clear hM hl l H17
    clear γ
    have H18 : Hid (_ ∧ _) := ⟨M18, B18⟩
    clear M18 B18
    refine rest0 rfl (then_normal (wp_block ?_))
    refine loop_ghost (α := Nat) (fun l a' w' => ∃ s4 : Nat → Value, a' = ⟨#[.slice (some ⟨gl, 0, none⟩) m m, undef, s4 2, .int .i64 ((i : Nat) : Int), .slice (some ⟨gw, 0, none⟩) m m, .int .i64 ((m : Nat) : Int), .int .i64 ((l : Nat) : Int), .int .i64 ((i : Nat) : Int), .slice (some ⟨gl, 0, none⟩) m m, .int .i64 ((m : Nat) : Int), .bool true, s0 11, s0 12, .slice (some ⟨gl, 0, none⟩) m m, .int .i64 ((m : Nat) : Int), .slice (some ⟨gw, 0, none⟩) m m, .int .i64 ((m : Nat) : Int), .slice (some ⟨gl, 0, none⟩) m m, .int .i64 ((m : Nat) : Int), .bool false, s2 20, s2 21, s2 22, s2 23, s2 24, s2 25, s2 26, s2 27, s2 28, s2 29, s2 30, s2 31, s2 32, s2 33, s2 34, s2 35, .slice (some ⟨gl, 0, none⟩) m m, .int .i64 ((i : Nat) : Int), PT gl (0 + i), .slice (A i).p (A i).n (A i).c, .tuple #[], s4 41, s4 42, s4 43, s4 44, s4 45, s4 46, s4 47, s4 48, s4 49, s4 50, s4 51, s4 52, s4 53, s4 54, s4 55, s4 56, s4 57, s4 58, s4 59, s4 60, s4 61, s4 62, s4 63, s4 64, s4 65, s4 66, s4 67, s0 68, s0 69, s0 70, s0 71, s0 72], []⟩ ∧ (Mm w' [] ∧ Wo w gw A m i G w') ∧ l ≤ m) (fun l => m - l) 0 ?st4 ?rd4
    case st4 => exact ⟨(slotfn [undef, undef, s0 2, undef, undef, undef, undef, undef, undef, undef, undef, undef, undef, undef, undef, undef, undef, undef, undef, undef, undef, undef, undef, undef, undef, undef, undef, undef, undef, undef, undef, undef, undef, undef, undef, undef, undef, undef, undef, undef, undef, s0 41, s0 42, s0 43, s0 44, s0 45, s0 46, s0 47, s0 48, s0 49, s0 50, s0 51, s0 52, s0 53, s0 54, s0 55, s0 56, s0 57, s0 58, s0 59, s0 60, s0 61, s0 62, s0 63, s0 64, s0 65, s0 66, s0 67]), rfl, ⟨H18.out.1, H18.out.2⟩, by omega⟩
    intro l a' w19 hI
    obtain ⟨s4, rfl, hMB, hk4⟩ := hI
    have H19 : Hid (_ ∧ _) := hMB
    clear hMB H18
    by_cases hltl : l < m
    · have hrd : True := trivial
      clear hrd
      by_cases hli : l = i
      · have hrd : True := trivial
        clear hrd
        refine wp_seq (wp_seq ?_)
        refine walk_seqA 4 [.quiet (.int .i64 ((l : Nat) : Int)), .quiet (.slice (some ⟨gl, 0, none⟩) m m), .quiet (.int .i64 ((m : Nat) : Int)), .quiet (.bool true)] (sB H19) ?ho12eq ?he12eq
        case ho12eq => exact ak (fun _ => ⟨rfl, fun _ _ => rfl⟩) (ak (fun _ => ⟨rfl, fun _ _ => rfl⟩) (ak (by refine fun γ => ⟨rfl, fun w' h => ?_⟩; clear h; go_simp) (ak (by refine fun γ => ⟨rfl, fun w' h => ?_⟩; clear h; go_simp <;> omega) trivial)))
        intro γ w20 l hM hl
        have M20 : Mm w20 [] := H19.out.1.grow hM (Nat.le_refl _) hl [] rfl (by decide)
        have B20 : Wo w gw A m i G w20 := Wo.step H19.out.2 (hM.below)
        clear hM hl l H19
        clear γ
        have H20 : Hid (_ ∧ _) := ⟨M20, B20⟩
        clear M20 B20
        refine rest0 rfl (then_normal (wp_cond_true rfl ?_))
        refine wp_skip (then_normal ?_)
        refine wp_seq (wp_block (wp_seq ?_))
        refine walk_anyA 21 [.quiet (.int .i64 ((l : Nat) : Int)), .quiet (.int .i64 ((i : Nat) : Int)), .quiet (.bool false), .quiet (.bool false), .gone, .gone, .gone, .gone, .gone, .gone, .gone, .gone, .gone, .gone, .gone, .gone, .gone, .gone, .gone, .gone, .quiet (.bool false)] (sB H20) ?ho13eq ?he13eq
        case ho13eq => exact ak (fun _ => ⟨rfl, fun _ _ => rfl⟩) (ak (fun _ => ⟨rfl, fun _ _ => rfl⟩) (ak (by refine fun γ => ⟨rfl, fun w' h => ?_⟩; clear h; go_simp <;> omega) (ak (fun _ => ⟨rfl, fun _ _ => rfl⟩) (ak (fun γ => rfl) (ak (fun γ => rfl) (ak (fun γ => rfl) (ak (fun γ => rfl) (ak (fun γ => rfl) (ak (fun γ => rfl) (ak (fun γ => rfl) (ak (fun γ => rfl) (ak (fun γ => rfl) (ak (fun γ => rfl) (ak (fun γ => rfl) (ak (fun γ => rfl) (ak (fun γ => rfl) (ak (fun γ => rfl) (ak (fun γ => rfl) (ak (fun γ => rfl) (ak (by refine fun γ => ⟨rfl, fun w' h => ?_⟩; clear h; go_simp) trivial))))))))))))))))))))
        intro γ w21 l hM hl
        have M21 : Mm w21 [] := H20.out.1.grow hM (Nat.le_refl _) hl [] rfl (by decide)
        have B21 : Wo w gw A m i G w21 := Wo.step H20.out.2 (hM.below)
        clear hM hl l H20
        clear γ
        have H21 : Hid (_ ∧ _) := ⟨M21, B21⟩
        clear M21 B21
        refine rest0 rfl (then_normal (wp_cond_false rfl ?_))
        refine wp_skip (block_normal (then_normal ?_))
        refine walk_seqA 2 [.quiet (.int .i64 ((l : Nat) : Int)), .quiet (.int .i64 ((l + 1 : Nat) : Int))] (sB H21) ?ho14eq ?he14eq
        case ho14eq => exact ak (fun _ => ⟨rfl, fun _ _ => rfl⟩) (ak (by refine fun γ => ⟨rfl, fun w' h => ?_⟩; clear h; go_simp; rw [IntKind.wrap_i64]; omega) trivial)
        intro γ w22 l hM hl
        have M22 : Mm w22 [] := H21.out.1.grow hM (Nat.le_refl _) hl [] rfl (by decide)
        have B22 : Wo w gw A m i G w22 := Wo.step H21.out.2 (hM.below)
        clear hM hl l H21
        clear γ
        have H22 : Hid (_ ∧ _) := ⟨M22, B22⟩
        clear M22 B22
        refine rest_at (l := [2]) rfl ?_
        refine rest_set (d := 6) (v := .int .i64 ((l + 1 : Nat) : Int)) (w' := w22) rfl rfl rfl rfl ?_
        simp only [Act.put, sa, sz, ss]
        refine rest_nil (then_normal ?_)
        exact ⟨l + 1, ⟨(slotfn [undef, undef, s4 2, undef, undef, undef, undef, undef, undef, undef, undef, undef, undef, undef, undef, undef, undef, undef, undef, undef, undef, undef, undef, undef, undef, undef, undef, undef, undef, undef, undef, undef, undef, undef, undef, undef, undef, undef, undef, undef, undef, .int .i64 ((l : Nat) : Int), .slice (some ⟨gl, 0, none⟩) m m, .int .i64 ((m : Nat) : Int), .bool true, .int .i64 ((l : Nat) : Int), .int .i64 ((l + 1 : Nat) : Int), .int .i64 ((l : Nat) : Int), .int .i64 ((i : Nat) : Int), .bool false, .bool false, undef, undef, undef, undef, undef, undef, undef, undef, undef, undef, undef, undef, undef, undef, undef, undef, .bool false]), rfl, ⟨Mm.nil _, H22.out.2⟩, by omega⟩, by omega⟩
      · have hrd : True := trivial
        clear hrd
        refine wp_seq (wp_seq ?_)
        refine walk_seqA 4 [.quiet (.int .i64 ((l : Nat) : Int)), .quiet (.slice (some ⟨gl, 0, none⟩) m m), .quiet (.int .i64 ((m : Nat) : Int)), .quiet (.bool true)] (sB H19) ?ho15ne ?he15ne
        case ho15ne => exact ak (fun _ => ⟨rfl, fun _ _ => rfl⟩) (ak (fun _ => ⟨rfl, fun _ _ => rfl⟩) (ak (by refine fun γ => ⟨rfl, fun w' h => ?_⟩; clear h; go_simp) (ak (by refine fun γ => ⟨rfl, fun w' h => ?_⟩; clear h; go_simp <;> omega) trivial)))
        intro γ w23 l hM hl
        have M23 : Mm w23 [] := H19.out.1.grow hM (Nat.le_refl _) hl [] rfl (by decide)
        have B23 : Wo w gw A m i G w23 := Wo.step H19.out.2 (hM.below)
        clear hM hl l H19
        clear γ
        have H23 : Hid (_ ∧ _) := ⟨M23, B23⟩
        clear M23 B23
        refine rest0 rfl (then_normal (wp_cond_true rfl ?_))
        refine wp_skip (then_normal ?_)
        refine wp_seq (wp_block (wp_seq ?_))
        refine (walk_any) (by kernel_rfl) 21 [.quiet (.int .i64 ((l : Nat) : Int)), .quiet (.int .i64 ((i : Nat) : Int)), .quiet (.bool true), .quiet (.bool true), .quiet (.slice (some ⟨gl, 0, none⟩) m m), .quiet (.int .i64 ((l : Nat) : Int)), .quiet (PT gl (0 + l)), .quiet (.slice (A l).p (A l).n (A l).c), .quiet (.slice (some ⟨gl, 0, none⟩) m m), .quiet (.int .i64 ((l : Nat) : Int)), .quiet (PT gl (0 + l)), .quiet (.slice (A l).p (A l).n (A l).c), .quiet (.int .i64 (((A l).c : Nat) : Int)), .quiet (.slice (A l).p (A l).c (A l).c), .quiet (.slice (some ⟨gw, 0, none⟩) m m), .quiet (.int .i64 ((l : Nat) : Int)), .quiet (PT gw (0 + l)), .quiet (.slice (some ⟨(G l).1, 0, none⟩) ((A l).c) ((A l).c + (G l).2)), .call (.bool true), .quiet (.bool false), .quiet (.bool false)] (fun u' => Mm u' [] ∧ (Wo w gw A m i G u')) ?pre16ne ?F16ne ?hpre16ne (fun γ => ?hF16ne) (by kernel_rfl) ?hL16ne ?hS16ne ?ho16ne ?he16ne
        case hpre16ne => simp only [tk, tz]; rfl
        case hF16ne => simp only [fill, Kind.val, Act.put, sa, sz, ss]; rfl
        case hL16ne => exact trivial
        case hS16ne => exact fun w' hb => ⟨H23.out.1.below hb, (Wo.step H23.out.2 (hb))⟩
        case ho16ne =>
          refine ak (fun _ => ⟨rfl, fun _ _ => rfl⟩) ?_
          refine ak (fun _ => ⟨rfl, fun _ _ => rfl⟩) ?_
          refine ak (by refine fun γ => ⟨rfl, fun w' h => ?_⟩; clear h; go_simp <;> omega) ?_
          refine ak (fun _ => ⟨rfl, fun _ _ => rfl⟩) ?_
          refine ak (fun _ => ⟨rfl, fun _ _ => rfl⟩) ?_
          refine ak (fun _ => ⟨rfl, fun _ _ => rfl⟩) ?_
          refine ak (fun γ => ⟨rfl, fun w' _ => ex_ixP29 (j := l) rfl rfl rfl rfl (by omega)⟩) ?_
          refine ak (fun γ => ⟨rfl, fun w' hX => ex_loadC (hX.2.ls AL.out hW.out hlti) 0 rfl rfl rfl Tryd.isAgg22 (rmap_get (by omega))⟩) ?_
          refine ak (fun _ => ⟨rfl, fun _ _ => rfl⟩) ?_
          refine ak (fun _ => ⟨rfl, fun _ _ => rfl⟩) ?_
          refine ak (fun γ => ⟨rfl, fun w' _ => ex_ixP29 (j := l) rfl rfl rfl rfl (by omega)⟩) ?_
          refine ak (fun γ => ⟨rfl, fun w' hX => ex_loadC (hX.2.ls AL.out hW.out hlti) 0 rfl rfl rfl Tryd.isAgg22 (rmap_get (by omega))⟩) ?_
          refine ak (fun γ => ⟨rfl, fun w' _ => ex_cap22 rfl rfl⟩) ?_
          refine ak (fun γ => ⟨rfl, fun w' _ => ex_slC (hW.out.ok l (by omega)).nil rfl rfl rfl⟩) ?_
          refine ak (fun _ => ⟨rfl, fun _ _ => rfl⟩) ?_
          refine ak (fun _ => ⟨rfl, fun _ _ => rfl⟩) ?_
          refine ak (fun γ => ⟨rfl, fun w' _ => ex_ixP29 (j := l) rfl rfl rfl rfl (by omega)⟩) ?_
          refine ak (fun γ => ⟨rfl, fun w' hX => ex_loadC hX.2.m_ 0 rfl rfl rfl Tryd.isAgg22 (wl_get (by omega))⟩) ?_
          refine ak (fun γ => ⟨rfl, fun w' hX => ⟨36, #[.slice (A l).p (A l).c (A l).c, .slice (some ⟨(G l).1, 0, none⟩) ((A l).c) ((A l).c + (G l).2)], exec_call rfl call36 rfl (mpn rfl), same_bb (Ap.row.bsl (hW.out.ok l (by omega)) (hX.2.row AL.out hW.out hlti hltl hli)) ((hX.2.cp l hltl).2.bsl 0 rfl (Nat.le_refl _) (Nat.le_add_right _ _))⟩⟩) ?_
          refine ak (by refine fun γ => ⟨rfl, fun w' h => ?_⟩; clear h; go_simp) ?_
          refine ak (by refine fun γ => ⟨rfl, fun w' h => ?_⟩; clear h; go_simp) ?_
          exact trivial
        intro γ w24 l hM hl
        have M24 : Mm w24 [] := H23.out.1.grow hM (Nat.le_refl _) hl [] rfl (by decide)
        have B24 : Wo w gw A m i G w24 := Wo.step H23.out.2 (hM.below)
        clear hM hl l H23
        clear γ
        have H24 : Hid (_ ∧ _) := ⟨M24, B24⟩
        clear M24 B24
        refine rest0 rfl (then_normal (wp_cond_false rfl ?_))
        refine wp_skip (block_normal (then_normal ?_))
        refine walk_seqA 2 [.quiet (.int .i64 ((l : Nat) : Int)), .quiet (.int .i64 ((l + 1 : Nat) : Int))] (sB H24) ?ho17ne ?he17ne
        case ho17ne => exact ak (fun _ => ⟨rfl, fun _ _ => rfl⟩) (ak (by refine fun γ => ⟨rfl, fun w' h => ?_⟩; clear h; go_simp; rw [IntKind.wrap_i64]; omega) trivial)
        intro γ w25 l hM hl
        have M25 : Mm w25 [] := H24.out.1.grow hM (Nat.le_refl _) hl [] rfl (by decide)
        have B25 : Wo w gw A m i G w25 := Wo.step H24.out.2 (hM.below)
        clear hM hl l H24
        clear γ
        have H25 : Hid (_ ∧ _) := ⟨M25, B25⟩
        clear M25 B25
        refine rest_at (l := [2]) rfl ?_
        refine rest_set (d := 6) (v := .int .i64 ((l + 1 : Nat) : Int)) (w' := w25) rfl rfl rfl rfl ?_
        simp only [Act.put, sa, sz, ss]
        refine rest_nil (then_normal ?_)
        exact ⟨l + 1, ⟨(slotfn [undef, undef, s4 2, undef, undef, undef, undef, undef, undef, undef, undef, undef, undef, undef, undef, undef, undef, undef, undef, undef, undef, undef, undef, undef, undef, undef, undef, undef, undef, undef, undef, undef, undef, undef, undef, undef, undef, undef, undef, undef, undef, .int .i64 ((l : Nat) : Int), .slice (some ⟨gl, 0, none⟩) m m, .int .i64 ((m : Nat) : Int), .bool true, .int .i64 ((l : Nat) : Int), .int .i64 ((l + 1 : Nat) : Int), .int .i64 ((l : Nat) : Int), .int .i64 ((i : Nat) : Int), .bool true, .bool true, .slice (some ⟨gl, 0, none⟩) m m, .int .i64 ((l : Nat) : Int), PT gl (0 + l), .slice (A l).p (A l).n (A l).c, .slice (some ⟨gl, 0, none⟩) m m, .int .i64 ((l : Nat) : Int), PT gl (0 + l), .slice (A l).p (A l).n (A l).c, .int .i64 (((A l).c : Nat) : Int), .slice (A l).p (A l).c (A l).c, .slice (some ⟨gw, 0, none⟩) m m, .int .i64 ((l : Nat) : Int), PT gw (0 + l), .slice (some ⟨(G l).1, 0, none⟩) ((A l).c) ((A l).c + (G l).2), .bool true, .bool false, .bool false]), rfl, ⟨Mm.nil _, H25.out.2⟩, by omega⟩, by omega⟩
    have hlm : m = l := by omega
    subst hlm
    refine wp_seq (wp_seq ?_)
    refine walk_seqA 4 [.quiet (.int .i64 ((m : Nat) : Int)), .quiet (.slice (some ⟨gl, 0, none⟩) m m), .quiet (.int .i64 ((m : Nat) : Int)), .quiet (.bool false)] (sB H19) ?ho18o ?he18o
    case ho18o => exact ak (fun _ => ⟨rfl, fun _ _ => rfl⟩) (ak (fun _ => ⟨rfl, fun _ _ => rfl⟩) (ak (by refine fun γ => ⟨rfl, fun w' h => ?_⟩; clear h; go_simp) (ak (by refine fun γ => ⟨rfl, fun w' h => ?_⟩; clear h; go_simp <;> omega) trivial)))
    intro γ w26 l hM hl
    have M26 : Mm w26 [] := H19.out.1.grow hM (Nat.le_refl _) hl [] rfl (by decide)
    have B26 : Wo w gw A m i G w26 := Wo.step H19.out.2 (hM.below)
    clear hM hl l H19
    clear γ
    have H26 : Hid (_ ∧ _) := ⟨M26, B26⟩
    clear M26 B26
    refine rest0 rfl (then_normal (wp_cond_false rfl ?_))
    refine wp_exit ?_
    repeat refine then_exit ?_
    refine block_exit ?_
    refine then_normal ?_
    refine (walk_seq) 4 [.quiet (.slice (some ⟨gl, 0, none⟩) m m), .quiet (.int .i64 ((i : Nat) : Int)), .quiet (PT gl (0 + i)), .quiet (.slice (A i).p (A i).n (A i).c)] (fun u' => Mm u' [] ∧ (Wo w gw A m i G u')) ?pre19 ?F19 ?hpre19 (fun γ => ?hF19) (by kernel_rfl) ?hL19 ?hS19 ?ho19 ?he19
    case hpre19 => simp only [tk, tz]; rfl
    case hF19 => simp only [fill, Kind.val, Act.put, sa, sz, ss]; rfl
    case hL19 => exact trivial
    case hS19 => exact fun w' hb => ⟨H26.out.1.below hb, (Wo.step H26.out.2 (hb))⟩
    case ho19 =>
      refine ak (fun _ => ⟨rfl, fun _ _ => rfl⟩) ?_
      refine ak (fun _ => ⟨rfl, fun _ _ => rfl⟩) ?_
      refine ak (fun γ => ⟨rfl, fun w' _ => ex_ixP29 (j := i) rfl rfl rfl rfl (by omega)⟩) ?_
      refine ak (fun γ => ⟨rfl, fun w' hX => ex_loadC (hX.2.ls AL.out hW.out hlti) 0 rfl rfl rfl Tryd.isAgg22 (rmap_get (by omega))⟩) ?_
      exact trivial
    intro γ w27 l hM hl
    have M27 : Mm w27 [] := H26.out.1.grow hM (Nat.le_refl _) hl [] rfl (by decide)
    have B27 : Wo w gw A m i G w27 := Wo.step H26.out.2 (hM.below)
    clear hM hl l H26
    clear γ
    have H27 : Hid (_ ∧ _) := ⟨M27, B27⟩
    clear M27 B27
    refine rest_at (l := [4]) rfl ?_
    refine rest_enter (d := 72) rfl rfl rfl (exec_call (args := #[.slice (A i).p (A i).n (A i).c]) rfl call27 rfl (mpn rfl)) ((Calls.mono (Over_ap (hW.out.ok i hlti) (mk8 (A i).f 90) w27 ((Classical.byCases (fun hp : (A i).p = none => (Or.inl hp : (A i).row (mk8 (A i).f 90) w27)) (fun hp => (Or.inr (H27.out.2.row2 hp) : (A i).row (mk8 (A i).f 90) w27))))) (fun e w2 hh => ⟨_, hh.1, rfl, hh.2⟩) : Calls Tryd.prog 27 #[.slice (A i).p (A i).n (A i).c] w27 (fun e w' => ∃ v, e = .returned v ∧ (v = .tuple #[] ∧ (((A i).p = none ∧ Below w27.heap.size w27 w') ∨ ((A i).p ≠ none ∧ Mm w' [((A i).g, ints .u8 (mk8 (mk8 (A i).f 90) 90) (A i).c)] ∧ Ov (A i).c (A i).g w27 w')))))) ?_
    rintro _ w28 ⟨rfl, hov⟩
    have hwo : Below w0.heap.size w0 w28 := by
      rcases hov with ⟨hp, hb⟩ | ⟨hp, h1, h2⟩
      · exact HB.out.trans ((H27.out.2.nil hp hb).mono HB.out.size)
      · exact HB.out.trans ((H27.out.2.back AL.out hW.out hlti hp h1 h2).mono HB.out.size)
    have H28 : Hid (Mm w28 [] ∧ Below w0.heap.size w0 w28) := ⟨Mm.nil _, hwo⟩
    clear hov hwo H27
    simp only [Act.put, sa, sz, ss]
    refine rest_nil (block_normal (then_normal ?_))
    refine walk_seqB 2 [.quiet (.int .i64 ((i : Nat) : Int)), .quiet (.int .i64 ((i + 1 : Nat) : Int))] H28 ?ho20 ?he20
    case ho20 => exact ak (fun _ => ⟨rfl, fun _ _ => rfl⟩) (ak (by refine fun γ => ⟨rfl, fun w' h => ?_⟩; clear h; go_simp; rw [IntKind.wrap_i64]; omega) trivial)
    intro _ w29 H29
    clear H28
    refine rest_at (l := [2]) rfl ?_
    refine rest_set (d := 3) (v := .int .i64 ((i + 1 : Nat) : Int)) (w' := w29) rfl rfl rfl rfl ?_
    simp only [Act.put, sa, sz, ss]
    refine rest_nil (then_normal ?_)
    exact ⟨i + 1, ⟨(slotfn [undef, undef, s4 2, undef, .slice (some ⟨gw, 0, none⟩) m m, .int .i64 ((m : Nat) : Int), .int .i64 ((m : Nat) : Int), .int .i64 ((i : Nat) : Int), .slice (some ⟨gl, 0, none⟩) m m, .int .i64 ((m : Nat) : Int), .bool true, .int .i64 ((i : Nat) : Int), .int .i64 ((i + 1 : Nat) : Int), .slice (some ⟨gl, 0, none⟩) m m, .int .i64 ((m : Nat) : Int), .slice (some ⟨gw, 0, none⟩) m m, .int .i64 ((m : Nat) : Int), .slice (some ⟨gl, 0, none⟩) m m, .int .i64 ((m : Nat) : Int), .bool false, s2 20, s2 21, s2 22, s2 23, s2 24, s2 25, s2 26, s2 27, s2 28, s2 29, s2 30, s2 31, s2 32, s2 33, s2 34, s2 35, .slice (some ⟨gl, 0, none⟩) m m, .int .i64 ((i : Nat) : Int), PT gl (0 + i), .slice (A i).p (A i).n (A i).c, .tuple #[], .int .i64 ((m : Nat) : Int), .slice (some ⟨gl, 0, none⟩) m m, .int .i64 ((m : Nat) : Int), .bool false, s4 45, s4 46, s4 47, s4 48, s4 49, s4 50, s4 51, s4 52, s4 53, s4 54, s4 55, s4 56, s4 57, s4 58, s4 59, s4 60, s4 61, s4 62, s4 63, s4 64, s4 65, s4 66, s4 67, .slice (some ⟨gl, 0, none⟩) m m, .int .i64 ((i : Nat) : Int), PT gl (0 + i), .slice (A i).p (A i).n (A i).c, .tuple #[]]), rfl, ⟨Mm.nil _, H29.out.2⟩, by omega⟩, by omega⟩
  have him : m = i := by omega
  subst him
  refine wp_seq (wp_seq ?_)
  refine walk_seqB 4 [.quiet (.int .i64 ((m : Nat) : Int)), .quiet (.slice (some ⟨gl, 0, none⟩) m m), .quiet (.int .i64 ((m : Nat) : Int)), .quiet (.bool false)] H3 ?ho21 ?he21
  case ho21 => exact ak (fun _ => ⟨rfl, fun _ _ => rfl⟩) (ak (fun _ => ⟨rfl, fun _ _ => rfl⟩) (ak (by refine fun γ => ⟨rfl, fun w' h => ?_⟩; clear h; go_simp) (ak (by refine fun γ => ⟨rfl, fun w' h => ?_⟩; clear h; go_simp <;> omega) trivial)))
  intro _ w30 H30
  clear H3
  refine rest0 rfl (then_normal (wp_cond_false rfl ?_))
  refine wp_exit ?_
  repeat refine then_exit ?_
  refine block_exit ?_
  refine then_normal (wp_seq ?_)
  refine walk_seqB 1 [.quiet (.bool true)] H30 ?ho22 ?he22
  case ho22 => exact ak (fun _ => ⟨rfl, fun _ _ => rfl⟩) trivial
  intro _ w31 H31
  clear H30
  refine rest0 rfl (then_normal (wp_ret ?_))
  repeat (first | refine then_ret ?_ | refine block_ret ?_)
  refine bodyPost_ret (v := .bool true) (by simp [results, Tryd.results41, go_sem, *]) rfl ?_
  exact ⟨rfl, H31.out.2⟩
end Rg
end Go.Proofs.YtolflfjfegngnaaDoor
end
section
namespace Go.Proofs.YtolflfjfegngnaaDoor
open Go.RowKit
namespace Rg
set_option maxRecDepth 100000
/-- What holds of a world, and stays, while nothing old is changed. -/
structure Bk (w : World) (F : World → Prop) (w' : World) : Prop where
  b : Below w.heap.size w w'
  st : ∀ {x y : World}, Below x.heap.size x y → F x → F y
  r : F w'
theorem Bk.step {w w1 w2 : World} {F : World → Prop} (h : Bk w F w1) (hb : Below w1.heap.size w1 w2) : Bk w F w2 := ⟨h.b.trans (hb.mono h.b.size), h.st, h.st hb h.r⟩
theorem Bk.size {w w1 : World} {F : World → Prop} (h : Bk w F w1) : w.heap.size ≤ w1.heap.size := h.b.size
theorem Bk.of {w w1 w2 : World} {xs : List Int} {c : Nat} {v : Value} (h : Below w.heap.size w w1) (hb : Below w1.heap.size w1 w2) (h2 : BSl w2 xs c v) : Bk w (fun u => BSl u xs c v) w2 := ⟨h.trans (hb.mono h.size), fun hb h => BSl.below h hb, h2⟩
theorem Bk.and {w w1 w2 : World} {F : World → Prop} {xs : List Int} {c : Nat} {v : Value} (h : Bk w F w1) (hb : Below w1.heap.size w1 w2) (h2 : BSl w2 xs c v) : Bk w (fun u => F u ∧ BSl u xs c v) w2 := ⟨h.b.trans (hb.mono h.b.size), fun hb h' => ⟨h.st hb h'.1, BSl.below h'.2 hb⟩, h.st hb h.r, h2⟩
theorem Mm.sel {w : World} {l l' : List (Nat × List Value)} (h : Mm w l) (is : List Nat) (hn : is.Nodup) (hl : is.map (fun i => l[i]?) = l'.map some) : Mm w l' := by
  have hlen : is.length = l'.length := by
    have := congrArg List.length hl
    simpa using this
  have hget : ∀ (j : Nat) (hj : j < l'.length), l[is[j]'(by omega)]? = some l'[j] := fun j hj => by
    have := congrArg (fun x => x[j]?) hl
    simp [hj, hlen] at this
    exact this
  refine ⟨fun p hp => ?_, List.pairwise_iff_getElem.2 fun i j hi hj hij => ?_⟩
  · obtain ⟨j, hj, rfl⟩ := List.getElem_of_mem hp
    exact h.blk _ (List.mem_of_getElem? (hget j hj))
  · have e1 := hget i hi
    have e2 := hget j hj
    have hne : is[i]'(by omega) ≠ is[j]'(by omega) := fun e => by
      have := (List.getElem_inj hn).1 e
      omega
    obtain ⟨q1, f1⟩ := List.getElem?_eq_some_iff.1 e1
    obtain ⟨q2, f2⟩ := List.getElem?_eq_some_iff.1 e2
    rw [← f1, ← f2]
    rcases Nat.lt_or_gt_of_ne hne with hlt | hlt
    · exact List.pairwise_iff_getElem.1 h.nd _ _ q1 q2 hlt
    · exact Ne.symm (List.pairwise_iff_getElem.1 h.nd _ _ q2 q1 hlt)
/-- Five slices. -/
def A5 (a b c d e : Ap) : Nat → Ap
  | 0 => a
  | 1 => b
  | 2 => c
  | 3 => d
  | _ => e
def ap (g n c : Nat) (f : Nat → Nat) : Ap := ⟨some ⟨g, 0, none⟩, g, n, c, f⟩
def apn : Ap := ⟨none, 0, 0, 0, fun _ => 0⟩
theorem ap_ok {g n c : Nat} {f : Nat → Nat} (h1 : n ≤ c) (h2 : c ≤ 1048576) (h3 : ∀ j, f j < 256) : (ap g n c f).Ok := ⟨.inl rfl, h1, h2, h3⟩
theorem apn_ok : apn.Ok := ⟨.inr ⟨rfl, rfl, rfl⟩, Nat.le_refl _, Nat.zero_le _, fun _ => by show (0 : Nat) < 256; decide⟩
theorem apart5 {w : World} {gs g0 g1 g2 g3 g4 n0 n1 n2 n3 n4 c0 c1 c2 c3 c4 : Nat} {f0 f1 f2 f3 f4 : Nat → Nat} (h0 : (ap g0 n0 c0 f0).Ok) (h1 : (ap g1 n1 c1 f1).Ok) (h2 : (ap g2 n2 c2 f2).Ok) (h3 : (ap g3 n3 c3 f3).Ok) (h4 : (ap g4 n4 c4 f4).Ok)
    (hm : Mm w [(gs, [.slice (some ⟨g0, 0, none⟩) n0 c0, .slice (some ⟨g1, 0, none⟩) n1 c1, .slice (some ⟨g2, 0, none⟩) n2 c2, .slice (some ⟨g3, 0, none⟩) n3 c3, .slice (some ⟨g4, 0, none⟩) n4 c4]), (g0, ints .u8 f0 c0), (g1, ints .u8 f1 c1), (g2, ints .u8 f2 c2), (g3, ints .u8 f3 c3), (g4, ints .u8 f4 c4)]) :
    Calls Tryd.prog 41 #[.slice (some ⟨gs, 0, none⟩) 5 5] w fun e w' => e = .returned (.bool true) ∧ Below w.heap.size w w' := by
  have nd := hm.nd
  simp only [List.pairwise_cons, List.mem_cons, List.not_mem_nil, or_false, forall_eq_or_imp, forall_eq] at nd
  obtain ⟨⟨a1, a2, a3, a4, a5⟩, ⟨b1, b2, b3, b4⟩, ⟨d1, d2, d3⟩, ⟨e1, e2⟩, x1, _⟩ := nd
  refine apart_any gs 5 (A5 (ap g0 n0 c0 f0) (ap g1 n1 c1 f1) (ap g2 n2 c2 f2) (ap g3 n3 c3 f3) (ap g4 n4 c4 f4)) ⟨fun i hi => ?_, fun i j hi hj hne _ _ => ?_, fun i hi _ => ?_, by decide⟩ w ⟨hm.one 0 rfl, fun i hi => .inr ?_⟩
  · rcases (by omega : i = 0 ∨ i = 1 ∨ i = 2 ∨ i = 3 ∨ i = 4) with rfl | rfl | rfl | rfl | rfl
    · exact h0
    · exact h1
    · exact h2
    · exact h3
    · exact h4
  · rcases (by omega : i = 0 ∨ i = 1 ∨ i = 2 ∨ i = 3 ∨ i = 4) with rfl | rfl | rfl | rfl | rfl <;> rcases (by omega : j = 0 ∨ j = 1 ∨ j = 2 ∨ j = 3 ∨ j = 4) with rfl | rfl | rfl | rfl | rfl <;> first | exact absurd rfl hne | assumption | (apply Ne.symm; assumption)
  · rcases (by omega : i = 0 ∨ i = 1 ∨ i = 2 ∨ i = 3 ∨ i = 4) with rfl | rfl | rfl | rfl | rfl
    · exact Ne.symm a1
    · exact Ne.symm a2
    · exact Ne.symm a3
    · exact Ne.symm a4
    · exact Ne.symm a5
  · rcases (by omega : i = 0 ∨ i = 1 ∨ i = 2 ∨ i = 3 ∨ i = 4) with rfl | rfl | rfl | rfl | rfl
    · exact hm.one 1 rfl
    · exact hm.one 2 rfl
    · exact hm.one 3 rfl
    · exact hm.one 4 rfl
    · exact hm.one 5 rfl
theorem apart3 {w : World} {gs g2 g3 g4 n2 n3 n4 c2 c3 c4 : Nat} {f2 f3 f4 : Nat → Nat} (h2 : (ap g2 n2 c2 f2).Ok) (h3 : (ap g3 n3 c3 f3).Ok) (h4 : (ap g4 n4 c4 f4).Ok)
    (hm : Mm w [(gs, [.slice none 0 0, .slice none 0 0, .slice (some ⟨g2, 0, none⟩) n2 c2, .slice (some ⟨g3, 0, none⟩) n3 c3, .slice (some ⟨g4, 0, none⟩) n4 c4]), (g2, ints .u8 f2 c2), (g3, ints .u8 f3 c3), (g4, ints .u8 f4 c4)]) :
    Calls Tryd.prog 41 #[.slice (some ⟨gs, 0, none⟩) 5 5] w fun e w' => e = .returned (.bool true) ∧ Below w.heap.size w w' := by
  have nd := hm.nd
  simp only [List.pairwise_cons, List.mem_cons, List.not_mem_nil, or_false, forall_eq_or_imp, forall_eq] at nd
  obtain ⟨⟨a3, a4, a5⟩, ⟨e1, e2⟩, x1, _⟩ := nd
  refine apart_any gs 5 (A5 apn apn (ap g2 n2 c2 f2) (ap g3 n3 c3 f3) (ap g4 n4 c4 f4)) ⟨fun i hi => ?_, fun i j hi hj hne hp hq => ?_, fun i hi hp => ?_, by decide⟩ w ⟨hm.one 0 rfl, fun i hi => ?_⟩
  · rcases (by omega : i = 0 ∨ i = 1 ∨ i = 2 ∨ i = 3 ∨ i = 4) with rfl | rfl | rfl | rfl | rfl
    · exact apn_ok
    · exact apn_ok
    · exact h2
    · exact h3
    · exact h4
  · rcases (by omega : i = 0 ∨ i = 1 ∨ i = 2 ∨ i = 3 ∨ i = 4) with rfl | rfl | rfl | rfl | rfl <;> rcases (by omega : j = 0 ∨ j = 1 ∨ j = 2 ∨ j = 3 ∨ j = 4) with rfl | rfl | rfl | rfl | rfl <;> first | exact absurd rfl hne | exact absurd rfl hp | exact absurd rfl hq | assumption | (apply Ne.symm; assumption)
  · rcases (by omega : i = 0 ∨ i = 1 ∨ i = 2 ∨ i = 3 ∨ i = 4) with rfl | rfl | rfl | rfl | rfl
    · exact absurd rfl hp
    · exact absurd rfl hp
    · exact Ne.symm a3
    · exact Ne.symm a4
    · exact Ne.symm a5
  · rcases (by omega : i = 0 ∨ i = 1 ∨ i = 2 ∨ i = 3 ∨ i = 4) with rfl | rfl | rfl | rfl | rfl
    · exact .inl rfl
    · exact .inl rfl
    · exact .inr (hm.one 1 rfl)
    · exact .inr (hm.one 2 rfl)
    · exact .inr (hm.one 3 rfl)
theorem same_fg {f g : Nat → Nat} {n c c' : Nat} {v v' : Value} {w : World} (h : BSl w ((List.range n).map fun i => ((f i : Nat) : Int)) c v) (h' : BSl w ((List.range n).map fun i => ((g i : Nat) : Int)) c' v') (e : ∀ i, f i = g i) : Calls Tryd.prog 36 #[v, v'] w fun e w' => e = .returned (.bool true) ∧ Below w.heap.size w w' := by
  have e2 : f = g := funext e
  subst e2
  exact same_bb h h'
theorem xpd_lt (K f : Nat → Nat) (m j : Nat) : xpd K f m j < 256 := fz_lt _ _ _ _
section
variable {ρ : Operand → Value} {o : Oper} {x0 x1 x2 x3 x4 : Operand} {w : World}
theorem ex_bsL5 {p0 p1 p2 p3 p4 : Option Addr} {n0 n1 n2 n3 n4 c0 c1 c2 c3 c4 : Nat} (ho : o.op = .buildSlice 29 5 #[(0, x0), (1, x1), (2, x2), (3, x3), (4, x4)]) (h0 : ρ x0 = .slice p0 n0 c0) (h1 : ρ x1 = .slice p1 n1 c1) (h2 : ρ x2 = .slice p2 n2 c2) (h3 : ρ x3 = .slice p3 n3 c3) (h4 : ρ x4 = .slice p4 n4 c4) : (execOp ρ o).run Tryd.prog w = .ok (.value (.slice (some ⟨w.heap.size, 0, none⟩) 5 5)) (w.alloc (.cells ([.slice p0 n0 c0, .slice p1 n1 c1, .slice p2 n2 c2, .slice p3 n3 c3, .slice p4 n4 c4] : List Value).toArray 22)) := by
  simp only [execOp, ho, List.map_toArray, List.map_cons, List.map_nil, h0, h1, h2, h3, h4]
  kernel_rfl
end
end Rg
end Go.Proofs.YtolflfjfegngnaaDoor
end
