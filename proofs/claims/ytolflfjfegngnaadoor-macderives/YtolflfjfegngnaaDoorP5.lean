/- Texts of the proof, joined. -/
import Derived.Test.YtolflfjfegngnaaDoorP4
import Derived.Laws.OwnMore
import Derived.Lib.Bytes
import Derived.Maps.AppendAt
section
namespace Go.Proofs.YtolflfjfegngnaaDoor
open Go.RowKit
namespace Rg
set_option maxRecDepth 100000
/-- The codes that a key is expanded to, one behind the other: how long, which; the byte that numbers them. -/
def ln : Nat → Nat
  | 0 => 0
  | _ + 1 => 32
def bi (k : Nat) : Nat := (k + 1) % 256
def tt (K f : Nat → Nat) (m : Nat) : Nat → Nat → Nat
  | 0 => fun _ => 0
  | k + 1 => hmc K (ct (ct (tt K f m k) (ln k) f) (ln k + m) (fun _ => bi k)) (ln k + m + 1)
/-- What a key is expanded to. -/
def xpd (K f : Nat → Nat) (m : Nat) : Nat → Nat := fun j => tt K f m (j / 32 + 1) (j % 32)
def xo_ (K f : Nat → Nat) (m k : Nat) : Nat → Nat := fun j => if j < 32 * k then xpd K f m j else 0
theorem xo_zero (K f : Nat → Nat) (m : Nat) : xo_ K f m 0 = fun _ => 0 := by
  funext j
  unfold xo_
  rw [if_neg (by omega)]
theorem xo_step (K f : Nat → Nat) (m k n mm : Nat) (h : 32 * k < n) (hm : mm = Nat.min 32 (n - 32 * k)) : ints .u8 (pr8 (xo_ K f m k) (0 + 32 * k) mm (tt K f m (k + 1))) n = ints .u8 (xo_ K f m (k + 1)) n := by
  refine ints_congr fun j hj => ?_
  have hm' : mm = min 32 (n - 32 * k) := hm
  unfold pr8 xo_
  by_cases h1 : j < 32 * k
  · rw [if_neg (by omega), if_pos h1, if_pos (by omega)]
  · by_cases h2 : j < 32 * (k + 1)
    · rw [if_pos (by omega), if_pos h2]
      unfold xpd
      rw [show j / 32 = k by omega, show j - (0 + 32 * k) = j % 32 by omega]
    · rw [if_neg (by omega), if_neg h1, if_neg h2]
theorem xo_all (K f : Nat → Nat) (m k n : Nat) (h : n ≤ 32 * k) : ints .u8 (xo_ K f m k) n = ints .u8 (xpd K f m) n := ints_congr fun j hj => by
  unfold xo_
  rw [if_pos (by omega)]
/-- A part that can be read, while nothing old is changed. -/
structure Bq (q : Pt8) (w w' : World) : Prop where
  b : Below w.heap.size w w'
  r : q.rs w'
theorem Bq.grow {q : Pt8} {w w1 w2 : World} (h : Bq q w w1) (hb : Below w1.heap.size w1 w2) : Bq q w w2 := ⟨h.b.trans (hb.mono h.b.size), h.r.below hb⟩
theorem Bq.size {q : Pt8} {w w1 : World} (h : Bq q w w1) : w.heap.size ≤ w1.heap.size := h.b.size
/-- Three parts. -/
def P3 (a b c : Pt8) : Nat → Pt8
  | 0 => a
  | 1 => b
  | _ => c
theorem ct_zero (f g : Nat → Nat) : ct f 0 g = g := by
  funext j
  unfold ct
  rw [if_neg (by omega), Nat.sub_zero]
theorem cd_three (K : Nat → Nat) (q b : Pt8) (g v : Nat) : cd K (P3 q b (pw g 1 (fun _ => v))) 3 = hmc K (ct (ct q.f q.n b.f) (q.n + b.n) (fun _ => v)) (q.n + b.n + 1) := by
  rw [cd_hm]
  show hmc K (ct (ct (ct (fun _ => 0) 0 q.f) (0 + q.n) b.f) (0 + q.n + b.n) (fun _ => v)) (0 + q.n + b.n + 1) = _
  rw [ct_zero, Nat.zero_add]
theorem tt_next {K f : Nat → Nat} {m k : Nat} {q b : Pt8} (g : Nat) (hn : q.n = ln k) (hq : ∀ j, j < q.n → q.f j = tt K f m k j) (hb : b.f = f) (hm : b.n = m) : cd K (P3 q b (pw g 1 (fun _ => bi k))) 3 = tt K f m (k + 1) := by
  subst hb hm
  rw [cd_three, hn]
  show _ = hmc K (ct (ct (tt K b.f b.n k) (ln k) b.f) (ln k + b.n) (fun _ => bi k)) (ln k + b.n + 1)
  refine hm_cg fun j _ => ?_
  unfold ct
  by_cases h1 : j < ln k + b.n
  · rw [if_pos h1, if_pos h1]
    by_cases h2 : j < ln k
    · rw [if_pos h2, if_pos h2, hq j (by omega)]
    · rw [if_neg h2, if_neg h2]
  · rw [if_neg h1, if_neg h1]
theorem ln_le (k : Nat) : ln k ≤ 32 := by cases k <;> simp [ln]
theorem Lw.three (gs g v : Nat) {q b : Pt8} {k : Nat} (hq : Pok q) (hn : q.n = ln k) (hb : Pok b) (hnb : b.n ≤ 1048576) : Lw (some ⟨gs, 0, none⟩) (P3 q b (pw g 1 (fun _ => v))) 3 := by
  have hl := ln_le k
  refine ⟨fun _ => ⟨gs, 0, rfl⟩, fun i hi => ?_, fun i hi => ?_, by decide⟩
  · rcases (by omega : i = 0 ∨ i = 1 ∨ i = 2) with rfl | rfl | rfl
    · exact ⟨hq.bv, hq.le⟩
    · exact ⟨hb.bv, hb.le⟩
    · exact pw_bv g 1 _
  · rcases (by omega : i = 0 ∨ i = 1 ∨ i = 2) with rfl | rfl | rfl
    · show 64 + 0 + q.n < _
      omega
    · show 64 + (0 + q.n) + b.n < _
      omega
    · show 64 + (0 + q.n + b.n) + 1 < _
      omega
theorem Ls.three {w : World} {l : List (Nat × List Value)} {gs g v : Nat} {q b : Pt8} (h : Mm w l) (k i : Nat) (hk : l[k]? = some (gs, [.slice q.p q.n q.cp, .slice b.p b.n b.cp, .slice (some ⟨g, 0, none⟩) 1 1])) (hi : l[i]? = some (g, ints .u8 (fun _ => v) 1)) (hq : q.rs w) (hb : b.rs w) : Ls (some ⟨gs, 0, none⟩) (P3 q b (pw g 1 (fun _ => v))) 3 w := by
  refine Ls.mk h k hk (fun i hi => ?_) (fun j hj => ?_)
  · rcases (by omega : i = 0 ∨ i = 1 ∨ i = 2) with rfl | rfl | rfl <;> rfl
  · rcases (by omega : j = 0 ∨ j = 1 ∨ j = 2) with rfl | rfl | rfl
    · exact hq
    · exact hb
    · exact h.rs i hi (Nat.le_refl _)
section
variable {ρ : Operand → Value} {o : Oper} {x y z : Operand} {a c : Nat} {w : World}
theorem ex_bsL3 {p0 p1 p2 : Option Addr} {n0 c0 n1 c1 n2 c2 : Nat} (ho : o.op = .buildSlice 29 3 #[(0, x), (1, y), (2, z)]) (hx : ρ x = .slice p0 n0 c0) (hy : ρ y = .slice p1 n1 c1) (hz : ρ z = .slice p2 n2 c2) : (execOp ρ o).run Tryd.prog w = .ok (.value (.slice (some ⟨w.heap.size, 0, none⟩) 3 3)) (w.alloc (.cells ([.slice p0 n0 c0, .slice p1 n1 c1, .slice p2 n2 c2] : List Value).toArray 22)) := by
  simp only [execOp, ho, List.map_toArray, List.map_cons, List.map_nil, hx, hy, hz]
  kernel_rfl
theorem ex_add8w {b : Nat} (hc : (a + b) % 256 = c) (ho : o.op = .binOp .add 5 x y 5) (hx : ρ x = Z8 a) (hy : ρ y = .int .u8 (b : Int)) : (execOp ρ o).run Tryd.prog w = .ok (.value (Z8 c)) w := by
  subst hc
  simp only [execOp, ho, hx, hy]
  clear ho hx hy
  go_simp
  simp [IntKind.wrap, IntKind.bits, IntKind.signed]
theorem ints_zero (n : Nat) : madeCells #[.int .u8 0] n = (ints .u8 (fun _ => 0) n).toArray := by
  apply Array.toList_inj.1
  rw [toList_madeCells_one]
  apply List.ext_getElem?
  intro j
  by_cases h : j < n
  · rw [ints_get _ _ h, List.getElem?_replicate, if_pos h]; rfl
  · rw [ints_none _ _ (by omega), List.getElem?_replicate, if_neg h]
theorem ex_mkS {n : Nat} (hn : n ≤ 1048576) (ho : o.op = .makeSlice 22 x y) (hx : ρ x = .int .i64 ((n : Nat) : Int)) (hy : ρ y = .int .i64 ((n : Nat) : Int)) : (execOp ρ o).run Tryd.prog w = .ok (.value (.slice (some ⟨w.heap.size, 0, none⟩) n n)) (w.alloc (.cells (ints .u8 (fun _ => 0) n).toArray 5)) := by
  have hmk := run_make_row' (P := Tryd.prog) 22 5 (.int .u8 0) 1 (by kernel_rfl) (by kernel_rfl) rfl .i64 .i64 n (by omega) (by omega) w
  rw [ints_zero] at hmk
  simp only [execOp, ho, hx, hy, Sem.run_bind, hmk, Result.andThen_ok, Sem.run_pure]
theorem ex_made25 (ho : o.op = .alloc 25) : (execOp ρ o).run Tryd.prog w = .ok (.value (PT w.heap.size 0)) (w.alloc (.cells (ints .u8 (fun _ => 0) 32).toArray 25)) := ex_mk25 ho
end
theorem code_three (K : Nat → Nat) (gs g k c : Nat) {q b : Pt8} (hq : Pok q) (hn : q.n = ln k) (hf : ∀ j, j < q.n → q.f j = tt K b.f b.n k j) (hb : Pok b) (hnb : b.n ≤ 1048576) (w : World) (hm : Mm w [(0, ints .u32 fT 8), (1, ints .u32 kT 64)]) (hL : Ls (some ⟨gs, 0, none⟩) (P3 q b (pw g 1 (fun _ => bi k))) 3 w) :
    Calls Tryd.prog 55 #[.agg (ints .u8 K 64).toArray, .slice (some ⟨gs, 0, none⟩) 3 c] w fun e w' => e = .returned (.agg (ints .u8 (tt K b.f b.n (k + 1)) 32).toArray) ∧ Below w.heap.size w w' := by
  have hh := code_any K _ (P3 q b (pw g 1 (fun _ => bi k))) 3 c (Lw.three gs g (bi k) hq hn hb hnb) w hm hL
  rw [tt_next g hn hf rfl rfl] at hh
  exact hh
set_option maxHeartbeats 4000000 in
set_option maxRecDepth 100000 in
theorem Expand_ok (a b : Pt8) (n : Nat) (ha : Pok a) (hb : Pok b) (hna : a.n < 4611686018427387904) (hnb : b.n ≤ 1048576) (hn : n ≤ 8160) (w : World) (hm : Mm w [(0, ints .u32 fT 8), (1, ints .u32 kT 64)]) (hRa : a.rs w) (hRb : b.rs w) :
    Calls Tryd.prog 37 #[.slice a.p a.n a.cp, .slice b.p b.n b.cp, .int .i64 ((n : Nat) : Int)] w fun e w' => Below w.heap.size w w' ∧ ∃ g, e = .returned (.tuple #[.slice (some ⟨g, 0, none⟩) n n, .int .i64 0]) ∧ w.heap.size ≤ g ∧ g < w'.heap.size ∧ Blk w' g (ints .u8 (xpd (kf a.f a.n) b.f b.n) n) := by
  have H0 : Hid (_ ∧ _) := ⟨hm, Below.refl w.heap.size w⟩
  clear hm
  have RA : Hid (a.rs w) := hRa
  have RB : Hid (b.rs w) := hRb
  obtain ⟨NN, hNN⟩ : ∃ NN, NN = (n + 31) / 32 := ⟨_, rfl⟩
  clear hRa hRb
  go_enter Tryd.func37, Tryd.ntmps37
  refine wp_seq ?_
  refine walk_seqB 2 [.quiet (.slice none 0 0), .quiet (.int .i64 0)] H0 ?ho1 ?he1
  case ho1 => exact ak (fun _ => ⟨rfl, fun _ _ => rfl⟩) (ak (fun _ => ⟨rfl, fun _ _ => rfl⟩) trivial)
  intro _ w1 H1
  refine rest0 rfl (then_normal (wp_seq (wp_seq ?_)))
  refine walk_seqB 6 [.quiet (.int .i64 ((n : Nat) : Int)), .quiet (.bool false), .quiet (.bool false), .quiet (.int .i64 ((n : Nat) : Int)), .quiet (.bool false), .quiet (.bool false)] H1 ?ho2 ?he2
  case ho2 => exact ak (fun _ => ⟨rfl, fun _ _ => rfl⟩) (ak (by refine fun γ => ⟨rfl, fun w' h => ?_⟩; clear h; go_simp <;> omega) (ak (fun _ => ⟨rfl, fun _ _ => rfl⟩) (ak (fun _ => ⟨rfl, fun _ _ => rfl⟩) (ak (by refine fun γ => ⟨rfl, fun w' h => ?_⟩; clear h; go_simp <;> omega) (ak (by refine fun γ => ⟨rfl, fun w' h => ?_⟩; clear h; go_simp) trivial)))))
  intro _ w2 H2
  clear H1
  refine rest0 rfl (then_normal (wp_cond_false rfl ?_))
  refine wp_skip (then_normal (wp_seq ?_))
  refine (walk_seq) 4 [.quiet (.slice a.p a.n a.cp), .call (.agg (ints .u8 (kf a.f a.n) 64).toArray), .made (ints .u8 (fun _ => 0) 64) 86, .laid 2 (ints .u8 (fun _ => 0) 64) (ints .u8 (kf a.f a.n) 64)] (fun u' => Mm u' [(0, ints .u32 fT 8), (1, ints .u32 kT 64)] ∧ (a.rs u')) ?pre3 ?F3 ?hpre3 (fun γ => ?hF3) (by kernel_rfl) ?hL3 ?hS3 ?ho3 ?he3
  case hpre3 => simp only [tk, tz]; rfl
  case hF3 => simp only [fill, Kind.val, Act.put, sa, sz, ss]; rfl
  case hL3 => exact ⟨⟨_, rfl⟩, trivial⟩
  case hS3 => exact fun w' hb => ⟨H2.out.1.below hb, RA.out.below (H2.out.2.trans (hb.mono H2.out.2.size))⟩
  case ho3 =>
    refine ak (fun _ => ⟨rfl, fun _ _ => rfl⟩) ?_
    refine ak (fun γ => ⟨rfl, fun w' hX => have h := hX.1; ⟨56, #[.slice a.p a.n a.cp], exec_call rfl call56 rfl (mpn rfl), kfilled_any a.gb a.o a.n a.cp a.p a.f ha.bv ha.le hna w' (h.two 0 1 rfl rfl (by decide)) hX.2⟩⟩) ?_
    refine ak (fun γ => ⟨rfl, fun w' => ex_mk86 rfl⟩) ?_
    refine ak (fun γ => ⟨rfl, rfl, (ints_len _ _ _).trans (ints_len _ _ _).symm, fun w' h => ex_laidI h Tryd.sizeOf86 rfl rfl rfl⟩) ?_
    exact trivial
  intro γ w3 l hM hl
  have H3 : Hid (Mm w3 [(γ 2, ints .u8 (kf a.f a.n) 64), (0, ints .u32 fT 8), (1, ints .u32 kT 64)] ∧ _) := growB H2 hM (Nat.le_refl _) hl [2] rfl (by decide)
  have o3_2 := ownB H2 hM (Nat.le_refl _) hl (i := 2) rfl
  clear hM hl l H2
  generalize γ 2 = γ3_2 at H3 o3_2 ⊢
  clear γ
  refine rest0 rfl (then_normal (wp_seq ?_))
  refine walk_seqB 1 [.quiet (.int .i64 ((n : Nat) : Int))] H3 ?ho4 ?he4
  case ho4 => exact ak (fun _ => ⟨rfl, fun _ _ => rfl⟩) trivial
  intro _ w4 H4
  clear H3
  refine rest_at (l := [1, 2]) rfl ?_
  refine rest_set (d := 23) (v := .slice (some ⟨w4.heap.size, 0, none⟩) n n) (w' := (w4.alloc (.cells (ints .u8 (fun _ => 0) n : List Value).toArray 5))) rfl rfl rfl (ex_mkS (by omega) rfl rfl rfl) ?_
  simp only [Act.put, sa, sz, ss]
  have o_γs5 : Hid (w.heap.size ≤ w4.heap.size) := H4.out.2.size
  have H5 : Hid (Mm (w4.alloc (.cells (ints .u8 (fun _ => 0) n : List Value).toArray 5)) ((w4.heap.size, ints .u8 (fun _ => 0) n) :: [(γ3_2, ints .u8 (kf a.f a.n) 64), (0, ints .u32 fT 8), (1, ints .u32 kT 64)]) ∧ Below w.heap.size w (w4.alloc (.cells (ints .u8 (fun _ => 0) n : List Value).toArray 5))) := ⟨H4.out.1.alloc _ 5 rfl, H4.out.2.trans (((Below.refl _ _).alloc (Nat.le_refl _) _).mono H4.out.2.size)⟩
  clear H4
  generalize hgw : (w4.alloc (.cells (ints .u8 (fun _ => 0) n : List Value).toArray 5)) = w5 at H5 ⊢
  clear hgw
  generalize w4.heap.size = γs5 at o_γs5 H5 ⊢
  refine rest_set (d := 9) (v := .slice (some ⟨γs5, 0, none⟩) n n) (w' := w5) rfl rfl rfl rfl ?_
  simp only [Act.put, sa, sz, ss]
  refine rest_nil (then_normal (wp_seq ?_))
  refine walk_seqB 1 [.quiet (.slice none 0 0)] H5 ?ho5 ?he5
  case ho5 => exact ak (fun _ => ⟨rfl, fun _ _ => rfl⟩) trivial
  intro _ w6 H6
  clear H5
  refine rest0 rfl (then_normal (wp_seq (wp_seq ?_)))
  refine walk_seqB 3 [.quiet (.slice (some ⟨γs5, 0, none⟩) n n), .quiet (.slice (some ⟨γs5, 0, none⟩) n n), .quiet (.int .u8 1)] H6 ?ho6 ?he6
  case ho6 => exact ak (fun _ => ⟨rfl, fun _ _ => rfl⟩) (ak (fun _ => ⟨rfl, fun _ _ => rfl⟩) (ak (fun _ => ⟨rfl, fun _ _ => rfl⟩) trivial))
  intro _ w7 H7
  clear H6
  refine rest0 rfl (then_normal (wp_block ?_))
  refine loop_ghost (α := Nat) (fun k a' w' => ∃ s0 : Nat → Value, a' = ⟨#[.slice a.p a.n a.cp, .slice b.p b.n b.cp, .int .i64 ((n : Nat) : Int), undef, undef, undef, .slice none 0 0, .int .i64 0, PT γ3_2 0, .slice (some ⟨γs5, 0, none⟩) n n, s0 10, s0 11, Z8 (bi k), s0 13, .int .i64 ((n : Nat) : Int), .bool false, .bool false, .int .i64 ((n : Nat) : Int), .bool false, .bool false, .slice a.p a.n a.cp, .agg (ints .u8 (kf a.f a.n) 64).toArray, .int .i64 ((n : Nat) : Int), .slice (some ⟨γs5, 0, none⟩) n n, .slice (some ⟨γs5, 0, none⟩) n n, s0 25, s0 26, s0 27, s0 28, s0 29, s0 30, s0 31, s0 32, s0 33, s0 34, s0 35, s0 36, s0 37, s0 38, s0 39, s0 40, s0 41, s0 42, undef], []⟩ ∧ (Mm w' [(γs5, ints .u8 (xo_ (kf a.f a.n) b.f b.n k) n), (γ3_2, ints .u8 (kf a.f a.n) 64), (0, ints .u32 fT 8), (1, ints .u32 kT 64)] ∧ Below w.heap.size w w') ∧ k ≤ NN ∧ Bv γs5 0 n n (min (32 * k) n) (s0 11) ∧ ∃ q : Pt8, s0 10 = .slice q.p q.n q.cp ∧ Pok q ∧ q.n = ln k ∧ (∀ j, j < q.n → q.f j = tt (kf a.f a.n) b.f b.n k j) ∧ q.rs w') (fun k => NN - k) 0 ?st0 ?rd0
  case st0 => exact ⟨(slotfn [undef, undef, undef, undef, undef, undef, undef, undef, undef, undef, .slice none 0 0, .slice (some ⟨γs5, 0, none⟩) n n, undef, undef, undef, undef, undef, undef, undef, undef, undef, undef, undef, undef, undef, undef, undef, undef, undef, undef, undef, undef, undef, undef, undef, undef, undef, undef, undef, undef, undef, undef, undef]), rfl, ⟨by rw [xo_zero]; exact H7.out.1, H7.out.2⟩, ⟨Nat.zero_le _, by rw [Nat.mul_zero, Nat.zero_min]; exact Bv.start _ _ _ _, ⟨0, 0, 0, 0, none, fun _ => 0⟩, rfl, ⟨Bv.void _ _ _ _ _, Nat.le_refl _⟩, rfl, fun j hj => absurd hj (Nat.not_lt_zero _), Rs.void _ _ _ _⟩⟩
  intro k a' w8 hI
  obtain ⟨s0, rfl, hMB, hk0⟩ := hI
  have H8 : Hid (_ ∧ _) := hMB
  clear hMB H7
  by_cases hlt : k < NN
  · have hrd : True := trivial
    clear hrd
    obtain ⟨hkN, hB11, q, e10, hP, hqn, hqf, hqr⟩ := hk0
    have e11 := hB11.1 (by omega)
    rw [show min (32 * k) n = 32 * k by omega] at e11
    rw [e10, e11]
    clear e10 e11 hB11
    have hQ : Hid (Pok q ∧ q.n = ln k ∧ ∀ j, j < q.n → q.f j = tt (kf a.f a.n) b.f b.n k j) := ⟨hP, hqn, hqf⟩
    obtain ⟨mm, hmn⟩ : ∃ mm, mm = Nat.min 32 (n - 32 * k) := ⟨_, rfl⟩
    have hmm : Hid (mm = Nat.min 32 (n - 32 * k)) := hmn
    have m1 : mm = min 32 (n - 32 * k) := hmn
    clear hmn hP hqn hqf
    have H9 : Hid (Mm w8 [(γs5, ints .u8 (xo_ (kf a.f a.n) b.f b.n k) n), (γ3_2, ints .u8 (kf a.f a.n) 64), (0, ints .u32 fT 8), (1, ints .u32 kT 64)] ∧ Bq q w w8) := ⟨H8.out.1, H8.out.2, hqr⟩
    clear H8 hqr
    refine wp_seq (wp_seq ?_)
    refine walk_seqA 3 [.quiet (.slice (some ⟨γs5, (0 + 32 * k), none⟩) (n - 32 * k) (n - 32 * k)), .quiet (.int .i64 (((n - 32 * k) : Nat) : Int)), .quiet (.bool true)] (sB H9) ?ho7 ?he7
    case ho7 => exact ak (fun _ => ⟨rfl, fun _ _ => rfl⟩) (ak (by refine fun γ => ⟨rfl, fun w' h => ?_⟩; clear h; go_simp) (ak (by refine fun γ => ⟨rfl, fun w' h => ?_⟩; clear h; go_simp <;> omega) trivial))
    intro γ w10 l hM hl
    have M10 : Mm w10 [(γs5, ints .u8 (xo_ (kf a.f a.n) b.f b.n k) n), (γ3_2, ints .u8 (kf a.f a.n) 64), (0, ints .u32 fT 8), (1, ints .u32 kT 64)] := H9.out.1.grow hM (Nat.le_refl _) hl [] rfl (by decide)
    have B10 : Bq q w w10 := H9.out.2.grow (hM.below)
    clear hM hl l H9
    clear γ
    have H10 : Hid (_ ∧ _) := ⟨M10, B10⟩
    clear M10 B10
    refine rest0 rfl (then_normal (wp_cond_true rfl ?_))
    refine wp_skip (then_normal ?_)
    refine wp_seq (wp_block (wp_seq ?_))
    refine walk_seqA 4 [.quiet (.agg (ints .u8 (kf a.f a.n) 64).toArray), .quiet (.slice q.p q.n q.cp), .quiet (.slice b.p b.n b.cp), .quiet (Z8 (bi k))] (sB H10) ?ho8 ?he8
    case ho8 => exact ak (fun γ => ⟨rfl, fun w' h => ex_loadT h 1 rfl rfl rfl Tryd.isAgg86 Tryd.sizeOf86 (ints_whole _ _ _) (ints_len _ _ _)⟩) (ak (fun _ => ⟨rfl, fun _ _ => rfl⟩) (ak (fun _ => ⟨rfl, fun _ _ => rfl⟩) (ak (fun _ => ⟨rfl, fun _ _ => rfl⟩) trivial)))
    intro γ w11 l hM hl
    have M11 : Mm w11 [(γs5, ints .u8 (xo_ (kf a.f a.n) b.f b.n k) n), (γ3_2, ints .u8 (kf a.f a.n) 64), (0, ints .u32 fT 8), (1, ints .u32 kT 64)] := H10.out.1.grow hM (Nat.le_refl _) hl [] rfl (by decide)
    have B11 : Bq q w w11 := H10.out.2.grow (hM.below)
    clear hM hl l H10
    clear γ
    have H11 : Hid (_ ∧ _) := ⟨M11, B11⟩
    clear M11 B11
    refine rest_at (l := [4, 5, 6, 7, 8]) rfl ?_
    refine rest_set (d := 34) (v := .slice (some ⟨w11.heap.size, 0, none⟩) 1 1) (w' := (w11.alloc (.cells (ints .u8 (fun _ => bi k) 1 : List Value).toArray 5))) rfl rfl rfl (ex_bs1 (a := bi k) rfl rfl) ?_
    simp only [Act.put, sa, sz, ss]
    have o_γs12 : Hid (w.heap.size ≤ w11.heap.size) := H11.out.2.size
    have H12 : Hid (Mm (w11.alloc (.cells (ints .u8 (fun _ => bi k) 1 : List Value).toArray 5)) ((w11.heap.size, ints .u8 (fun _ => bi k) 1) :: [(γs5, ints .u8 (xo_ (kf a.f a.n) b.f b.n k) n), (γ3_2, ints .u8 (kf a.f a.n) 64), (0, ints .u32 fT 8), (1, ints .u32 kT 64)]) ∧ Bq q w (w11.alloc (.cells (ints .u8 (fun _ => bi k) 1 : List Value).toArray 5))) := ⟨H11.out.1.alloc _ 5 rfl, H11.out.2.grow (((Below.refl _ _).alloc (Nat.le_refl _) _))⟩
    clear H11
    generalize hgw : (w11.alloc (.cells (ints .u8 (fun _ => bi k) 1 : List Value).toArray 5)) = w12 at H12 ⊢
    clear hgw
    generalize w11.heap.size = γs12 at o_γs12 H12 ⊢
    refine rest_set (d := 35) (v := .slice (some ⟨w12.heap.size, 0, none⟩) 3 3) (w' := (w12.alloc (.cells ([Value.slice q.p q.n q.cp, Value.slice b.p b.n b.cp, Value.slice (some ⟨γs12, 0, none⟩) 1 1] : List Value).toArray 22))) rfl rfl rfl (ex_bsL3 rfl rfl rfl rfl) ?_
    simp only [Act.put, sa, sz, ss]
    have o_γs13 : Hid (w.heap.size ≤ w12.heap.size) := H12.out.2.size
    have H13 : Hid (Mm (w12.alloc (.cells ([Value.slice q.p q.n q.cp, Value.slice b.p b.n b.cp, Value.slice (some ⟨γs12, 0, none⟩) 1 1] : List Value).toArray 22)) ((w12.heap.size, [Value.slice q.p q.n q.cp, Value.slice b.p b.n b.cp, Value.slice (some ⟨γs12, 0, none⟩) 1 1]) :: [(γs12, ints .u8 (fun _ => bi k) 1), (γs5, ints .u8 (xo_ (kf a.f a.n) b.f b.n k) n), (γ3_2, ints .u8 (kf a.f a.n) 64), (0, ints .u32 fT 8), (1, ints .u32 kT 64)]) ∧ Bq q w (w12.alloc (.cells ([Value.slice q.p q.n q.cp, Value.slice b.p b.n b.cp, Value.slice (some ⟨γs12, 0, none⟩) 1 1] : List Value).toArray 22))) := ⟨H12.out.1.alloc _ 22 rfl, H12.out.2.grow (((Below.refl _ _).alloc (Nat.le_refl _) _))⟩
    clear H12
    generalize hgw : (w12.alloc (.cells ([Value.slice q.p q.n q.cp, Value.slice b.p b.n b.cp, Value.slice (some ⟨γs12, 0, none⟩) 1 1] : List Value).toArray 22)) = w13 at H13 ⊢
    clear hgw
    generalize w12.heap.size = γs13 at o_γs13 H13 ⊢
    refine rest_enter (d := 36) (R := fun vv w' => vv = .agg (ints .u8 (tt (kf a.f a.n) b.f b.n (k + 1)) 32).toArray ∧ Below w13.heap.size w13 w') rfl rfl rfl (exec_call (args := #[.agg (ints .u8 (kf a.f a.n) 64).toArray, .slice (some ⟨γs13, 0, none⟩) 3 3]) rfl call55 rfl (mpn rfl)) (Calls.mono (code_three (kf a.f a.n) _ γs12 k 3 hQ.out.1 hQ.out.2.1 hQ.out.2.2 hb hnb w13 (H13.out.1.two 4 5 rfl rfl (by decide)) (Ls.three (H13.out.1.two 0 1 rfl rfl (by decide)) 0 1 rfl rfl H13.out.2.r (RB.out.below H13.out.2.b))) (fun e w2 hh => ⟨_, hh.1, rfl, hh.2⟩)) ?_
    rintro _ w14 ⟨rfl, hb⟩
    have H14 : Hid (_ ∧ _) := ⟨H13.out.1.below hb, H13.out.2.grow (hb)⟩
    clear hb H13
    simp only [Act.put, sa, sz, ss]
    have H15 : Hid (Mm w14 [(γs13, [Value.slice q.p q.n q.cp, Value.slice b.p b.n b.cp, Value.slice (some ⟨γs12, 0, none⟩) 1 1]), (γs12, ints .u8 (fun _ => bi k) 1), (γs5, ints .u8 (xo_ (kf a.f a.n) b.f b.n k) n), (γ3_2, ints .u8 (kf a.f a.n) 64), (0, ints .u32 fT 8), (1, ints .u32 kT 64)] ∧ Below w.heap.size w w14) := ⟨H14.out.1, H14.out.2.b⟩
    clear H14
    refine rest_set (d := 13) (v := PT w14.heap.size 0) (w' := (w14.alloc (.cells (ints .u8 (fun _ => 0) 32 : List Value).toArray 25))) rfl rfl rfl (ex_made25 rfl) ?_
    simp only [Act.put, sa, sz, ss]
    have o_γs16 : Hid (w.heap.size ≤ w14.heap.size) := H15.out.2.size
    have H16 : Hid (Mm (w14.alloc (.cells (ints .u8 (fun _ => 0) 32 : List Value).toArray 25)) ((w14.heap.size, ints .u8 (fun _ => 0) 32) :: [(γs13, [Value.slice q.p q.n q.cp, Value.slice b.p b.n b.cp, Value.slice (some ⟨γs12, 0, none⟩) 1 1]), (γs12, ints .u8 (fun _ => bi k) 1), (γs5, ints .u8 (xo_ (kf a.f a.n) b.f b.n k) n), (γ3_2, ints .u8 (kf a.f a.n) 64), (0, ints .u32 fT 8), (1, ints .u32 kT 64)]) ∧ Below w.heap.size w (w14.alloc (.cells (ints .u8 (fun _ => 0) 32 : List Value).toArray 25))) := ⟨H15.out.1.alloc _ 25 rfl, H15.out.2.trans (((Below.refl _ _).alloc (Nat.le_refl _) _).mono H15.out.2.size)⟩
    clear H15
    generalize hgw : (w14.alloc (.cells (ints .u8 (fun _ => 0) 32 : List Value).toArray 25)) = w16 at H16 ⊢
    clear hgw
    generalize w14.heap.size = γs16 at o_γs16 H16 ⊢
    refine rest_store rfl rfl rfl (ex_storeT (vs := ints .u8 (tt (kf a.f a.n) b.f b.n (k + 1)) 32) H16.out.1 0 rfl rfl rfl rfl (by rw [ints_len]; exact Tryd.sizeOf25) (ints_all _ _ _) (by simp [ints_len])) ?_
    have H17 : Hid (Mm (w16.setCells γs16 0 (ints .u8 (tt (kf a.f a.n) b.f b.n (k + 1)) 32)) [(γs16, ints .u8 (tt (kf a.f a.n) b.f b.n (k + 1)) 32), (γs13, [Value.slice q.p q.n q.cp, Value.slice b.p b.n b.cp, Value.slice (some ⟨γs12, 0, none⟩) 1 1]), (γs12, ints .u8 (fun _ => bi k) 1), (γs5, ints .u8 (xo_ (kf a.f a.n) b.f b.n k) n), (γ3_2, ints .u8 (kf a.f a.n) 64), (0, ints .u32 fT 8), (1, ints .u32 kT 64)] ∧ Below w.heap.size w (w16.setCells γs16 0 (ints .u8 (tt (kf a.f a.n) b.f b.n (k + 1)) 32))) := ⟨by
      have h := H16.out.1.put 0 (off := 0) (vs := ints .u8 (tt (kf a.f a.n) b.f b.n (k + 1)) 32) rfl (by simp [ints_len])
      rw [ints_patch0 _ _ _ _] at h
      exact h, below_setCells _ o_γs16.out _ _ _ H16.out.2⟩
    clear H16
    generalize hgw : World.setCells _ _ _ _ = w17 at H17 ⊢
    clear hgw
    refine rest_nil (then_normal (wp_seq ?_))
    refine walk_seqB 3 [.quiet (.slice (some ⟨γs5, (0 + 32 * k), none⟩) (n - 32 * k) (n - 32 * k)), .quiet (.slice (some ⟨γs5, (0 + 32 * k), none⟩) (n - 32 * k) (n - 32 * k)), .quiet (.slice (some ⟨γs16, 0, none⟩) 32 32)] H17 ?ho9 ?he9
    case ho9 => exact ak (fun _ => ⟨rfl, fun _ _ => rfl⟩) (ak (fun _ => ⟨rfl, fun _ _ => rfl⟩) (ak (fun γ => ⟨rfl, fun w' _ => ex_sl25 rfl rfl⟩) trivial))
    intro _ w18 H18
    clear H17
    refine rest_at (l := [3, 4, 5]) rfl ?_
    refine rest_set (d := 40) (v := .int .i64 ((mm : Nat) : Int)) (w' := (w18.setCells γs5 (0 + 32 * k) (ints .u8 (tt (kf a.f a.n) b.f b.n (k + 1)) mm))) rfl rfl rfl (ex_copyR (sn := 32) H18.out.1 3 rfl (fun j hj => by have := (H18.out.1.rs 0 rfl (Nat.le_refl _)).at_ j (by omega); exact this) hmm.out (by omega) rfl rfl rfl) ?_
    simp only [Act.put, sa, sz, ss]
    have H19 : Hid (Mm (w18.setCells γs5 (0 + 32 * k) (ints .u8 (tt (kf a.f a.n) b.f b.n (k + 1)) mm)) [(γs16, ints .u8 (tt (kf a.f a.n) b.f b.n (k + 1)) 32), (γs13, [Value.slice q.p q.n q.cp, Value.slice b.p b.n b.cp, Value.slice (some ⟨γs12, 0, none⟩) 1 1]), (γs12, ints .u8 (fun _ => bi k) 1), (γs5, ints .u8 (xo_ (kf a.f a.n) b.f b.n (k + 1)) n), (γ3_2, ints .u8 (kf a.f a.n) 64), (0, ints .u32 fT 8), (1, ints .u32 kT 64)] ∧ Below w.heap.size w (w18.setCells γs5 (0 + 32 * k) (ints .u8 (tt (kf a.f a.n) b.f b.n (k + 1)) mm))) := ⟨by
      have h := H18.out.1.put 3 (off := 0 + 32 * k) (vs := ints .u8 (tt (kf a.f a.n) b.f b.n (k + 1)) mm) rfl (by rw [ints_len, ints_len]; omega)
      rw [ints_pr8 _ _ _ _ _ (by omega), xo_step (kf a.f a.n) b.f b.n k n mm (by omega) hmm.out] at h
      exact h, below_setCells _ o_γs5.out _ _ _ H18.out.2⟩
    clear H18
    generalize hgw : World.setCells _ _ _ _ = w19 at H19 ⊢
    clear hgw
    refine rest_set (d := 41) (v := sl22 γs5 (0 + 32 * k) (n - 32 * k) (n - 32 * k) mm) (w' := w19) rfl rfl rfl (ex_sl22 (l := mm) rfl rfl rfl (by omega) (Nat.le_refl _)) ?_
    simp only [Act.put, sa, sz, ss]
    refine rest_set (d := 11) (v := sl22 γs5 (0 + 32 * k) (n - 32 * k) (n - 32 * k) mm) (w' := w19) rfl rfl rfl rfl ?_
    simp only [Act.put, sa, sz, ss]
    refine rest_nil (then_normal ?_)
    refine walk_seqB 2 [.quiet (.slice (some ⟨γs16, 0, none⟩) 32 32), .quiet (.slice (some ⟨γs16, 0, none⟩) 32 32)] H19 ?ho10 ?he10
    case ho10 => exact ak (fun γ => ⟨rfl, fun w' _ => ex_sl25 rfl rfl⟩) (ak (fun _ => ⟨rfl, fun _ _ => rfl⟩) trivial)
    intro _ w20 H20
    clear H19
    refine rest0 rfl ?_
    refine block_normal (then_normal ?_)
    refine walk_seqB 2 [.quiet (Z8 (bi k)), .quiet (Z8 (bi (k + 1)))] H20 ?ho11 ?he11
    case ho11 => exact ak (fun _ => ⟨rfl, fun _ _ => rfl⟩) (ak (fun γ => ⟨rfl, fun w' _ => ex_add8w (b := 1) (by unfold bi; omega) rfl rfl rfl⟩) trivial)
    intro _ w21 H21
    clear H20
    refine rest_at (l := [2]) rfl ?_
    refine rest_set (d := 12) (v := Z8 (bi (k + 1))) (w' := w21) rfl rfl rfl rfl ?_
    simp only [Act.put, sa, sz, ss]
    refine rest_nil (then_normal ?_)
    exact ⟨k + 1, ⟨(slotfn [undef, undef, undef, undef, undef, undef, undef, undef, undef, undef, .slice (some ⟨γs16, 0, none⟩) 32 32, sl22 γs5 (0 + 32 * k) (n - 32 * k) (n - 32 * k) mm, undef, PT γs16 0, undef, undef, undef, undef, undef, undef, undef, undef, undef, undef, undef, .slice (some ⟨γs5, (0 + 32 * k), none⟩) (n - 32 * k) (n - 32 * k), .int .i64 (((n - 32 * k) : Nat) : Int), .bool true, Z8 (bi k), Z8 (bi (k + 1)), .agg (ints .u8 (kf a.f a.n) 64).toArray, .slice q.p q.n q.cp, .slice b.p b.n b.cp, Z8 (bi k), .slice (some ⟨γs12, 0, none⟩) 1 1, .slice (some ⟨γs13, 0, none⟩) 3 3, .agg (ints .u8 (tt (kf a.f a.n) b.f b.n (k + 1)) 32).toArray, .slice (some ⟨γs5, (0 + 32 * k), none⟩) (n - 32 * k) (n - 32 * k), .slice (some ⟨γs5, (0 + 32 * k), none⟩) (n - 32 * k) (n - 32 * k), .slice (some ⟨γs16, 0, none⟩) 32 32, .int .i64 ((mm : Nat) : Int), sl22 γs5 (0 + 32 * k) (n - 32 * k) (n - 32 * k) mm, .slice (some ⟨γs16, 0, none⟩) 32 32]), rfl, ⟨H21.out.1.tail.tail.tail, H21.out.2⟩, ⟨by omega, (by have hh := sl22_bv (gb := γs5) (o := 0) (n := n) (cp := n) (i := 32 * k) (m := mm) (Nat.le_refl _); rw [show min (32 * (k + 1)) n = 32 * k + mm by omega]; exact hh), pw γs16 32 (tt (kf a.f a.n) b.f b.n (k + 1)), rfl, ⟨(pw_bv _ _ _).1, (pw_bv _ _ _).2⟩, rfl, fun _ _ => rfl, H21.out.1.rs 0 rfl (Nat.le_refl _)⟩⟩, by omega⟩
  obtain ⟨hkN, hB11, _⟩ := hk0
  obtain ⟨p', c', e11⟩ := hB11.2 (by omega)
  rw [e11]
  clear e11 hB11
  refine wp_seq (wp_seq ?_)
  refine walk_seqB 3 [.quiet (.slice p' 0 c'), .quiet (.int .i64 0), .quiet (.bool false)] H8 ?ho12 ?he12
  case ho12 => exact ak (fun _ => ⟨rfl, fun _ _ => rfl⟩) (ak (by refine fun γ => ⟨rfl, fun w' h => ?_⟩; clear h; go_simp) (ak (by refine fun γ => ⟨rfl, fun w' h => ?_⟩; clear h; go_simp <;> omega) trivial))
  intro _ w22 H22
  clear H8
  refine rest0 rfl (then_normal (wp_cond_false rfl ?_))
  refine wp_exit ?_
  repeat refine then_exit ?_
  refine block_exit ?_
  refine then_normal (wp_seq ?_)
  refine walk_seqB 3 [.quiet (.slice (some ⟨γs5, 0, none⟩) n n), .quiet (.slice (some ⟨γs5, 0, none⟩) n n), .quiet (.int .i64 0)] H22 ?ho13 ?he13
  case ho13 => exact ak (fun _ => ⟨rfl, fun _ _ => rfl⟩) (ak (fun _ => ⟨rfl, fun _ _ => rfl⟩) (ak (fun _ => ⟨rfl, fun _ _ => rfl⟩) trivial))
  intro _ w23 H23
  clear H22
  refine rest0 rfl (then_normal (wp_ret ?_))
  repeat (first | refine then_ret ?_ | refine block_ret ?_)
  refine bodyPost_ret (v := .tuple #[.slice (some ⟨γs5, 0, none⟩) n n, .int .i64 0]) (by simp [results, Tryd.results37, go_sem, *]) rfl ?_
  have hfin := (H23.out.1.one 0 rfl).blk _ (List.mem_singleton.2 rfl)
  rw [xo_all (kf a.f a.n) b.f b.n k n (by omega)] at hfin
  exact ⟨H23.out.2, γs5, rfl, o_γs5.out, hfin⟩
set_option maxRecDepth 100000 in
theorem Expand_neg (v1 v2 : Value) (z : Int) (hz : z < 0) (w : World) :
    Calls Tryd.prog 37 #[v1, v2, .int .i64 z] w fun e w' => e = .returned (.tuple #[.slice none 0 0, .int .i64 3]) ∧ Below w.heap.size w w' := by
  have H0 : Hid (_ ∧ _) := ⟨Mm.nil w, Below.refl w.heap.size w⟩
  go_enter Tryd.func37, Tryd.ntmps37
  refine wp_seq ?_
  refine walk_seqB 2 [.quiet (.slice none 0 0), .quiet (.int .i64 0)] H0 ?ho1 ?he1
  case ho1 => exact ak (fun _ => ⟨rfl, fun _ _ => rfl⟩) (ak (fun _ => ⟨rfl, fun _ _ => rfl⟩) trivial)
  intro _ w1 H1
  refine rest0 rfl (then_normal (wp_seq (wp_seq ?_)))
  refine walk_seqB 6 [.quiet (.int .i64 z), .quiet (.bool true), .quiet (.bool true), .gone, .gone, .quiet (.bool true)] H1 ?ho2 ?he2
  case ho2 => exact ak (fun _ => ⟨rfl, fun _ _ => rfl⟩) (ak (by refine fun γ => ⟨rfl, fun w' h => ?_⟩; clear h; go_simp <;> omega) (ak (fun _ => ⟨rfl, fun _ _ => rfl⟩) (ak (fun γ => rfl) (ak (fun γ => rfl) (ak (by refine fun γ => ⟨rfl, fun w' h => ?_⟩; clear h; go_simp) trivial)))))
  intro _ w2 H2
  clear H1
  refine rest0 rfl (then_normal (wp_cond_true rfl (wp_seq ?_)))
  refine walk_seqB 2 [.quiet (.slice none 0 0), .quiet (.int .i64 3)] H2 ?ho3 ?he3
  case ho3 => exact ak (fun _ => ⟨rfl, fun _ _ => rfl⟩) (ak (fun _ => ⟨rfl, fun _ _ => rfl⟩) trivial)
  intro _ w3 H3
  clear H2
  refine rest0 rfl (then_normal (wp_ret ?_))
  repeat (first | refine then_ret ?_ | refine block_ret ?_)
  refine bodyPost_ret (v := .tuple #[.slice none 0 0, .int .i64 3]) (by simp [results, Tryd.results37, go_sem, *]) rfl ?_
  exact ⟨rfl, H3.out.2⟩
set_option maxRecDepth 100000 in
theorem Expand_big (v1 v2 : Value) (z : Int) (hz : 8160 < z) (w : World) :
    Calls Tryd.prog 37 #[v1, v2, .int .i64 z] w fun e w' => e = .returned (.tuple #[.slice none 0 0, .int .i64 3]) ∧ Below w.heap.size w w' := by
  have H0 : Hid (_ ∧ _) := ⟨Mm.nil w, Below.refl w.heap.size w⟩
  go_enter Tryd.func37, Tryd.ntmps37
  refine wp_seq ?_
  refine walk_seqB 2 [.quiet (.slice none 0 0), .quiet (.int .i64 0)] H0 ?ho1 ?he1
  case ho1 => exact ak (fun _ => ⟨rfl, fun _ _ => rfl⟩) (ak (fun _ => ⟨rfl, fun _ _ => rfl⟩) trivial)
  intro _ w1 H1
  refine rest0 rfl (then_normal (wp_seq (wp_seq ?_)))
  refine walk_seqB 6 [.quiet (.int .i64 z), .quiet (.bool false), .quiet (.bool false), .quiet (.int .i64 z), .quiet (.bool true), .quiet (.bool true)] H1 ?ho2 ?he2
  case ho2 => exact ak (fun _ => ⟨rfl, fun _ _ => rfl⟩) (ak (by refine fun γ => ⟨rfl, fun w' h => ?_⟩; clear h; go_simp <;> omega) (ak (fun _ => ⟨rfl, fun _ _ => rfl⟩) (ak (fun _ => ⟨rfl, fun _ _ => rfl⟩) (ak (by refine fun γ => ⟨rfl, fun w' h => ?_⟩; clear h; go_simp <;> omega) (ak (by refine fun γ => ⟨rfl, fun w' h => ?_⟩; clear h; go_simp) trivial)))))
  intro _ w2 H2
  clear H1
  refine rest0 rfl (then_normal (wp_cond_true rfl (wp_seq ?_)))
  refine walk_seqB 2 [.quiet (.slice none 0 0), .quiet (.int .i64 3)] H2 ?ho3 ?he3
  case ho3 => exact ak (fun _ => ⟨rfl, fun _ _ => rfl⟩) (ak (fun _ => ⟨rfl, fun _ _ => rfl⟩) trivial)
  intro _ w3 H3
  clear H2
  refine rest0 rfl (then_normal (wp_ret ?_))
  repeat (first | refine then_ret ?_ | refine block_ret ?_)
  refine bodyPost_ret (v := .tuple #[.slice none 0 0, .int .i64 3]) (by simp [results, Tryd.results37, go_sem, *]) rfl ?_
  exact ⟨rfl, H3.out.2⟩
end Rg
end Go.Proofs.YtolflfjfegngnaaDoor
end
section
namespace Go.Proofs.YtolflfjfegngnaaDoor
open Go.RowKit
namespace Rg
set_option maxRecDepth 100000
theorem pw_ok (g n : Nat) (f : Nat → Nat) : Pok (pw g n f) := ⟨(pw_bv g n f).1, (pw_bv g n f).2⟩
set_option maxHeartbeats 1000000 in
set_option maxRecDepth 100000 in
theorem Derive_ok (a b c : Pt8) (n : Nat) (ha : Pok a) (hb : Pok b) (hc : Pok c) (hna : a.n < 4611686018427387904) (hnb : b.n ≤ 1048576) (hnc : c.n ≤ 1048576) (hn : n ≤ 8160) (w : World) (hm : Mm w [(0, ints .u32 fT 8), (1, ints .u32 kT 64)]) (hRa : a.rs w) (hRb : b.rs w) (hRc : c.rs w) :
    Calls Tryd.prog 39 #[.slice a.p a.n a.cp, .slice b.p b.n b.cp, .slice c.p c.n c.cp, .int .i64 ((n : Nat) : Int)] w fun e w' => Below w.heap.size w w' ∧ ∃ g, e = .returned (.tuple #[.slice (some ⟨g, 0, none⟩) n n, .int .i64 0]) ∧ w.heap.size ≤ g ∧ g < w'.heap.size ∧ Blk w' g (ints .u8 (xpd (kf (hmc (kf a.f a.n) b.f b.n) 32) c.f c.n) n) := by
  have H0 : Hid (_ ∧ _) := ⟨hm, Below.refl w.heap.size w⟩
  clear hm
  have RA : Hid (a.rs w) := hRa
  have RB : Hid (b.rs w) := hRb
  have RC : Hid (c.rs w) := hRc
  clear hRa hRb hRc
  go_enter Tryd.func39, Tryd.ntmps39
  refine wp_seq ?_
  refine walk_seqB 2 [.quiet (.slice none 0 0), .quiet (.int .i64 0)] H0 ?ho1 ?he1
  case ho1 => exact ak (fun _ => ⟨rfl, fun _ _ => rfl⟩) (ak (fun _ => ⟨rfl, fun _ _ => rfl⟩) trivial)
  intro _ w1 H1
  refine rest0 rfl (then_normal (wp_seq ?_))
  refine (walk_seq) 5 [.quiet (.slice a.p a.n a.cp), .quiet (.slice b.p b.n b.cp), .call (.agg (ints .u8 (hmc (kf a.f a.n) b.f b.n) 32).toArray), .made (ints .u8 (fun _ => 0) 32) 25, .laid 3 (ints .u8 (fun _ => 0) 32) (ints .u8 (hmc (kf a.f a.n) b.f b.n) 32)] (fun u' => Mm u' [(0, ints .u32 fT 8), (1, ints .u32 kT 64)] ∧ (a.rs u' ∧ b.rs u' ∧ c.rs u')) ?pre2 ?F2 ?hpre2 (fun γ => ?hF2) (by kernel_rfl) ?hL2 ?hS2 ?ho2 ?he2
  case hpre2 => simp only [tk, tz]; rfl
  case hF2 => simp only [fill, Kind.val, Act.put, sa, sz, ss]; rfl
  case hL2 => exact ⟨⟨_, rfl⟩, trivial⟩
  case hS2 => exact fun w' hb => ⟨H1.out.1.below hb, ⟨RA.out.below (H1.out.2.trans (hb.mono H1.out.2.size)), RB.out.below (H1.out.2.trans (hb.mono H1.out.2.size)), RC.out.below (H1.out.2.trans (hb.mono H1.out.2.size))⟩⟩
  case ho2 =>
    refine ak (fun _ => ⟨rfl, fun _ _ => rfl⟩) ?_
    refine ak (fun _ => ⟨rfl, fun _ _ => rfl⟩) ?_
    refine ak (fun γ => ⟨rfl, fun w' hX => have h := hX.1; ⟨34, #[.slice a.p a.n a.cp, .slice b.p b.n b.cp], exec_call rfl call34 rfl (mpn rfl), Extract_any a b ha hb hna hnb w' (h.two 0 1 rfl rfl (by decide)) hX.2.1 hX.2.2.1⟩⟩) ?_
    refine ak (fun γ => ⟨rfl, fun w' => ex_mk25 rfl⟩) ?_
    refine ak (fun γ => ⟨rfl, rfl, (ints_len _ _ _).trans (ints_len _ _ _).symm, fun w' h => ex_laidI h Tryd.sizeOf25 rfl rfl rfl⟩) ?_
    exact trivial
  intro γ w2 l hM hl
  have H2 : Hid (Mm w2 [(γ 3, ints .u8 (hmc (kf a.f a.n) b.f b.n) 32), (0, ints .u32 fT 8), (1, ints .u32 kT 64)] ∧ _) := growB H1 hM (Nat.le_refl _) hl [3] rfl (by decide)
  have o2_3 := ownB H1 hM (Nat.le_refl _) hl (i := 3) rfl
  clear hM hl l H1
  generalize γ 3 = γ2_3 at H2 o2_3 ⊢
  clear γ
  refine rest0 rfl (then_normal (wp_seq ?_))
  refine (walk_seq) 4 [.quiet (.slice (some ⟨γ2_3, 0, none⟩) 32 32), .quiet (.slice c.p c.n c.cp), .quiet (.int .i64 ((n : Nat) : Int)), .born (fun g => .tuple #[.slice (some ⟨g, 0, none⟩) n n, .int .i64 0]) (ints .u8 (xpd (kf (hmc (kf a.f a.n) b.f b.n) 32) c.f c.n) n)] (fun u' => Mm u' [(γ2_3, ints .u8 (hmc (kf a.f a.n) b.f b.n) 32), (0, ints .u32 fT 8), (1, ints .u32 kT 64)] ∧ (a.rs u' ∧ b.rs u' ∧ c.rs u')) ?pre3 ?F3 ?hpre3 (fun γ => ?hF3) (by kernel_rfl) ?hL3 ?hS3 ?ho3 ?he3
  case hpre3 => simp only [tk, tz]; rfl
  case hF3 => simp only [fill, Kind.val, Act.put, sa, sz, ss]; rfl
  case hL3 => exact trivial
  case hS3 => exact fun w' hb => ⟨H2.out.1.below hb, ⟨RA.out.below (H2.out.2.trans (hb.mono H2.out.2.size)), RB.out.below (H2.out.2.trans (hb.mono H2.out.2.size)), RC.out.below (H2.out.2.trans (hb.mono H2.out.2.size))⟩⟩
  case ho3 =>
    refine ak (fun γ => ⟨rfl, fun w' _ => ex_sl25 rfl rfl⟩) ?_
    refine ak (fun _ => ⟨rfl, fun _ _ => rfl⟩) ?_
    refine ak (fun _ => ⟨rfl, fun _ _ => rfl⟩) ?_
    refine ak (fun γ => ⟨rfl, fun w' hX => have h := hX.1; ⟨37, #[.slice (some ⟨γ2_3, 0, none⟩) 32 32, .slice c.p c.n c.cp, .int .i64 ((n : Nat) : Int)], exec_call rfl call37 rfl (mpn rfl), Expand_ok (pw γ2_3 32 (hmc (kf a.f a.n) b.f b.n)) c n (pw_ok _ _ _) hc (show 32 < 4611686018427387904 by decide) hnc hn w' (h.two 1 2 rfl rfl (by decide)) (h.rs 0 rfl (Nat.le_refl _)) hX.2.2.2⟩⟩) ?_
    exact trivial
  intro γ w3 l hM hl
  have H3 : Hid (Mm w3 [(γ 3, ints .u8 (xpd (kf (hmc (kf a.f a.n) b.f b.n) 32) c.f c.n) n), (γ2_3, ints .u8 (hmc (kf a.f a.n) b.f b.n) 32), (0, ints .u32 fT 8), (1, ints .u32 kT 64)] ∧ _) := growB H2 hM (Nat.le_refl _) hl [3] rfl (by decide)
  have o3_3 := ownB H2 hM (Nat.le_refl _) hl (i := 3) rfl
  clear hM hl l H2
  generalize γ 3 = γ3_3 at H3 o3_3 ⊢
  clear γ
  refine rest_at (l := [4, 5, 6, 7]) rfl ?_
  refine rest_set (d := 18) (v := .slice (some ⟨γ3_3, 0, none⟩) n n) (w' := w3) rfl rfl rfl (by go_simp) ?_
  simp only [Act.put, sa, sz, ss]
  refine rest_set (d := 19) (v := .int .i64 0) (w' := w3) rfl rfl rfl (by go_simp) ?_
  simp only [Act.put, sa, sz, ss]
  refine rest_set (d := 8) (v := .slice (some ⟨γ3_3, 0, none⟩) n n) (w' := w3) rfl rfl rfl rfl ?_
  simp only [Act.put, sa, sz, ss]
  refine rest_set (d := 9) (v := .int .i64 0) (w' := w3) rfl rfl rfl rfl ?_
  simp only [Act.put, sa, sz, ss]
  refine rest_nil (then_normal (wp_ret ?_))
  repeat (first | refine then_ret ?_ | refine block_ret ?_)
  refine bodyPost_ret (v := .tuple #[.slice (some ⟨γ3_3, 0, none⟩) n n, .int .i64 0]) (by simp [results, Tryd.results39, go_sem, *]) rfl ?_
  exact ⟨H3.out.2, γ3_3, rfl, o3_3.out, (H3.out.1.one 0 rfl).blk _ (List.mem_singleton.2 rfl)⟩
set_option maxHeartbeats 1000000 in
set_option maxRecDepth 100000 in
theorem Derive_neg (a b : Pt8) (v3 : Value) (z : Int) (ha : Pok a) (hb : Pok b) (hna : a.n < 4611686018427387904) (hnb : b.n ≤ 1048576) (hz : z < 0) (w : World) (hm : Mm w [(0, ints .u32 fT 8), (1, ints .u32 kT 64)]) (hRa : a.rs w) (hRb : b.rs w) :
    Calls Tryd.prog 39 #[.slice a.p a.n a.cp, .slice b.p b.n b.cp, v3, .int .i64 z] w fun e w' => e = .returned (.tuple #[.slice none 0 0, .int .i64 3]) ∧ Below w.heap.size w w' := by
  have H0 : Hid (_ ∧ _) := ⟨hm, Below.refl w.heap.size w⟩
  clear hm
  have RA : Hid (a.rs w) := hRa
  have RB : Hid (b.rs w) := hRb
  clear hRa hRb
  go_enter Tryd.func39, Tryd.ntmps39
  refine wp_seq ?_
  refine walk_seqB 2 [.quiet (.slice none 0 0), .quiet (.int .i64 0)] H0 ?ho1 ?he1
  case ho1 => exact ak (fun _ => ⟨rfl, fun _ _ => rfl⟩) (ak (fun _ => ⟨rfl, fun _ _ => rfl⟩) trivial)
  intro _ w1 H1
  refine rest0 rfl (then_normal (wp_seq ?_))
  refine (walk_seq) 5 [.quiet (.slice a.p a.n a.cp), .quiet (.slice b.p b.n b.cp), .call (.agg (ints .u8 (hmc (kf a.f a.n) b.f b.n) 32).toArray), .made (ints .u8 (fun _ => 0) 32) 25, .laid 3 (ints .u8 (fun _ => 0) 32) (ints .u8 (hmc (kf a.f a.n) b.f b.n) 32)] (fun u' => Mm u' [(0, ints .u32 fT 8), (1, ints .u32 kT 64)] ∧ (a.rs u' ∧ b.rs u')) ?pre2 ?F2 ?hpre2 (fun γ => ?hF2) (by kernel_rfl) ?hL2 ?hS2 ?ho2 ?he2
  case hpre2 => simp only [tk, tz]; rfl
  case hF2 => simp only [fill, Kind.val, Act.put, sa, sz, ss]; rfl
  case hL2 => exact ⟨⟨_, rfl⟩, trivial⟩
  case hS2 => exact fun w' hb => ⟨H1.out.1.below hb, ⟨RA.out.below (H1.out.2.trans (hb.mono H1.out.2.size)), RB.out.below (H1.out.2.trans (hb.mono H1.out.2.size))⟩⟩
  case ho2 =>
    refine ak (fun _ => ⟨rfl, fun _ _ => rfl⟩) ?_
    refine ak (fun _ => ⟨rfl, fun _ _ => rfl⟩) ?_
    refine ak (fun γ => ⟨rfl, fun w' hX => have h := hX.1; ⟨34, #[.slice a.p a.n a.cp, .slice b.p b.n b.cp], exec_call rfl call34 rfl (mpn rfl), Extract_any a b ha hb hna hnb w' (h.two 0 1 rfl rfl (by decide)) hX.2.1 hX.2.2⟩⟩) ?_
    refine ak (fun γ => ⟨rfl, fun w' => ex_mk25 rfl⟩) ?_
    refine ak (fun γ => ⟨rfl, rfl, (ints_len _ _ _).trans (ints_len _ _ _).symm, fun w' h => ex_laidI h Tryd.sizeOf25 rfl rfl rfl⟩) ?_
    exact trivial
  intro γ w2 l hM hl
  have H2 : Hid (Mm w2 [(γ 3, ints .u8 (hmc (kf a.f a.n) b.f b.n) 32), (0, ints .u32 fT 8), (1, ints .u32 kT 64)] ∧ _) := growB H1 hM (Nat.le_refl _) hl [3] rfl (by decide)
  have o2_3 := ownB H1 hM (Nat.le_refl _) hl (i := 3) rfl
  clear hM hl l H1
  generalize γ 3 = γ2_3 at H2 o2_3 ⊢
  clear γ
  refine rest0 rfl (then_normal (wp_seq ?_))
  refine walk_seqB 8 [.quiet (.slice (some ⟨γ2_3, 0, none⟩) 32 32), .quiet (v3), .quiet (.int .i64 z), .call (.tuple #[.slice none 0 0, .int .i64 3]), .quiet (.slice none 0 0), .quiet (.int .i64 3), .quiet (.slice none 0 0), .quiet (.int .i64 3)] H2 ?ho3 ?he3
  case ho3 => exact ak (fun γ => ⟨rfl, fun w' _ => ex_sl25 rfl rfl⟩) (ak (fun _ => ⟨rfl, fun _ _ => rfl⟩) (ak (fun _ => ⟨rfl, fun _ _ => rfl⟩) (ak (fun γ => ⟨rfl, fun w' h => ⟨37, #[.slice (some ⟨γ2_3, 0, none⟩) 32 32, v3, .int .i64 z], exec_call rfl call37 rfl (mpn rfl), Expand_neg _ _ z hz w'⟩⟩) (ak (by refine fun γ => ⟨rfl, fun w' h => ?_⟩; clear h; go_simp) (ak (by refine fun γ => ⟨rfl, fun w' h => ?_⟩; clear h; go_simp) (ak (fun _ => ⟨rfl, fun _ _ => rfl⟩) (ak (fun _ => ⟨rfl, fun _ _ => rfl⟩) trivial)))))))
  intro _ w3 H3
  clear H2
  refine rest0 rfl (then_normal (wp_ret ?_))
  repeat (first | refine then_ret ?_ | refine block_ret ?_)
  refine bodyPost_ret (v := .tuple #[.slice none 0 0, .int .i64 3]) (by simp [results, Tryd.results39, go_sem, *]) rfl ?_
  exact ⟨rfl, H3.out.2⟩
set_option maxHeartbeats 1000000 in
set_option maxRecDepth 100000 in
theorem Derive_big (a b : Pt8) (v3 : Value) (z : Int) (ha : Pok a) (hb : Pok b) (hna : a.n < 4611686018427387904) (hnb : b.n ≤ 1048576) (hz : 8160 < z) (w : World) (hm : Mm w [(0, ints .u32 fT 8), (1, ints .u32 kT 64)]) (hRa : a.rs w) (hRb : b.rs w) :
    Calls Tryd.prog 39 #[.slice a.p a.n a.cp, .slice b.p b.n b.cp, v3, .int .i64 z] w fun e w' => e = .returned (.tuple #[.slice none 0 0, .int .i64 3]) ∧ Below w.heap.size w w' := by
  have H0 : Hid (_ ∧ _) := ⟨hm, Below.refl w.heap.size w⟩
  clear hm
  have RA : Hid (a.rs w) := hRa
  have RB : Hid (b.rs w) := hRb
  clear hRa hRb
  go_enter Tryd.func39, Tryd.ntmps39
  refine wp_seq ?_
  refine walk_seqB 2 [.quiet (.slice none 0 0), .quiet (.int .i64 0)] H0 ?ho1 ?he1
  case ho1 => exact ak (fun _ => ⟨rfl, fun _ _ => rfl⟩) (ak (fun _ => ⟨rfl, fun _ _ => rfl⟩) trivial)
  intro _ w1 H1
  refine rest0 rfl (then_normal (wp_seq ?_))
  refine (walk_seq) 5 [.quiet (.slice a.p a.n a.cp), .quiet (.slice b.p b.n b.cp), .call (.agg (ints .u8 (hmc (kf a.f a.n) b.f b.n) 32).toArray), .made (ints .u8 (fun _ => 0) 32) 25, .laid 3 (ints .u8 (fun _ => 0) 32) (ints .u8 (hmc (kf a.f a.n) b.f b.n) 32)] (fun u' => Mm u' [(0, ints .u32 fT 8), (1, ints .u32 kT 64)] ∧ (a.rs u' ∧ b.rs u')) ?pre2 ?F2 ?hpre2 (fun γ => ?hF2) (by kernel_rfl) ?hL2 ?hS2 ?ho2 ?he2
  case hpre2 => simp only [tk, tz]; rfl
  case hF2 => simp only [fill, Kind.val, Act.put, sa, sz, ss]; rfl
  case hL2 => exact ⟨⟨_, rfl⟩, trivial⟩
  case hS2 => exact fun w' hb => ⟨H1.out.1.below hb, ⟨RA.out.below (H1.out.2.trans (hb.mono H1.out.2.size)), RB.out.below (H1.out.2.trans (hb.mono H1.out.2.size))⟩⟩
  case ho2 =>
    refine ak (fun _ => ⟨rfl, fun _ _ => rfl⟩) ?_
    refine ak (fun _ => ⟨rfl, fun _ _ => rfl⟩) ?_
    refine ak (fun γ => ⟨rfl, fun w' hX => have h := hX.1; ⟨34, #[.slice a.p a.n a.cp, .slice b.p b.n b.cp], exec_call rfl call34 rfl (mpn rfl), Extract_any a b ha hb hna hnb w' (h.two 0 1 rfl rfl (by decide)) hX.2.1 hX.2.2⟩⟩) ?_
    refine ak (fun γ => ⟨rfl, fun w' => ex_mk25 rfl⟩) ?_
    refine ak (fun γ => ⟨rfl, rfl, (ints_len _ _ _).trans (ints_len _ _ _).symm, fun w' h => ex_laidI h Tryd.sizeOf25 rfl rfl rfl⟩) ?_
    exact trivial
  intro γ w2 l hM hl
  have H2 : Hid (Mm w2 [(γ 3, ints .u8 (hmc (kf a.f a.n) b.f b.n) 32), (0, ints .u32 fT 8), (1, ints .u32 kT 64)] ∧ _) := growB H1 hM (Nat.le_refl _) hl [3] rfl (by decide)
  have o2_3 := ownB H1 hM (Nat.le_refl _) hl (i := 3) rfl
  clear hM hl l H1
  generalize γ 3 = γ2_3 at H2 o2_3 ⊢
  clear γ
  refine rest0 rfl (then_normal (wp_seq ?_))
  refine walk_seqB 8 [.quiet (.slice (some ⟨γ2_3, 0, none⟩) 32 32), .quiet (v3), .quiet (.int .i64 z), .call (.tuple #[.slice none 0 0, .int .i64 3]), .quiet (.slice none 0 0), .quiet (.int .i64 3), .quiet (.slice none 0 0), .quiet (.int .i64 3)] H2 ?ho3 ?he3
  case ho3 => exact ak (fun γ => ⟨rfl, fun w' _ => ex_sl25 rfl rfl⟩) (ak (fun _ => ⟨rfl, fun _ _ => rfl⟩) (ak (fun _ => ⟨rfl, fun _ _ => rfl⟩) (ak (fun γ => ⟨rfl, fun w' h => ⟨37, #[.slice (some ⟨γ2_3, 0, none⟩) 32 32, v3, .int .i64 z], exec_call rfl call37 rfl (mpn rfl), Expand_big _ _ z hz w'⟩⟩) (ak (by refine fun γ => ⟨rfl, fun w' h => ?_⟩; clear h; go_simp) (ak (by refine fun γ => ⟨rfl, fun w' h => ?_⟩; clear h; go_simp) (ak (fun _ => ⟨rfl, fun _ _ => rfl⟩) (ak (fun _ => ⟨rfl, fun _ _ => rfl⟩) trivial)))))))
  intro _ w3 H3
  clear H2
  refine rest0 rfl (then_normal (wp_ret ?_))
  repeat (first | refine then_ret ?_ | refine block_ret ?_)
  refine bodyPost_ret (v := .tuple #[.slice none 0 0, .int .i64 3]) (by simp [results, Tryd.results39, go_sem, *]) rfl ?_
  exact ⟨rfl, H3.out.2⟩
theorem Zo.blk {w w1 : World} {B n g cap : Nat} {l : List (Nat × List Value)} {P : Nat → Nat} (h : Zo w B l (.slice (some ⟨g, 0, none⟩) n cap) n P w1) : B ≤ g ∧ g < w1.heap.size ∧ n ≤ cap ∧ Blk w1 g (ints .u8 P n) := by
  have hl := World.ownsRow.lt h.own g rfl
  refine ⟨hl.1, hl.2, ?_, fun j v hj => ?_⟩
  · rcases h.own.2 with ⟨h1, _⟩ | ⟨g', cap', cur, h1, _, _, h2, _⟩
    · cases h1
    · injection h1 with _ _ e
      rw [e]
      exact h2
  · have hjn : j < n := by
      have := (List.getElem?_eq_some_iff.1 hj).1
      rwa [ints_len] at this
    refine ⟨?_, World.ownsRow.frozenAt h.own j⟩
    rw [World.ownsRow.cellAt h.own j (by omega)]
    exact hj
section
variable {ρ : Operand → Value} {o : Oper} {x y : Operand} {z : Int} {w : World}
end
end Rg
namespace Rg
end Rg
end Go.Proofs.YtolflfjfegngnaaDoor
end
section
namespace Go.Proofs.YtolflfjfegngnaaDoor
open Go.RowKit
namespace Rg
set_option maxRecDepth 100000
/-- A part with room behind it. -/
def pc (g n c : Nat) (f : Nat → Nat) : Pt8 := ⟨g, 0, n, c, some ⟨g, 0, none⟩, f⟩
theorem pc_ok (g n x : Nat) (f : Nat → Nat) : Pok (pc g n (n + x) f) := ⟨Bv.start _ _ _ _, Nat.le_add_right _ _⟩
/-- No part. -/
def pno : Pt8 := ⟨0, 0, 0, 0, none, fun _ => 0⟩
theorem pno_ok : Pok pno := ⟨Bv.void _ _ _ _ _, Nat.le_refl _⟩
theorem pno_rs (w : World) : pno.rs w := Rs.void _ _ _ _
section
variable {ρ : Operand → Value} {o : Oper} {x y : Operand} {a b : Nat} {w : World}
end
end Rg
end Go.Proofs.YtolflfjfegngnaaDoor
end
section
namespace Go.Proofs.YtolflfjfegngnaaDoor
open Go.RowKit
namespace Rg
set_option maxRecDepth 100000
theorem Zo.mm {w w1 : World} {B n g cap : Nat} {l : List (Nat × List Value)} {P : Nat → Nat} (h : Zo w B l (.slice (some ⟨g, 0, none⟩) n cap) n P w1) : Mm w1 ((g, ints .u8 P n) :: l) :=
  h.m.cons h.blk.2.2.2 h.blk.2.1 (fun p hp => by have h1 := h.lt p hp; have h2 := h.blk.1; omega)
theorem Zo.appQ {w w1 : World} {B n0 : Nat} {l : List (Nat × List Value)} {vv : Value} {P : Nat → Nat} (h : Zo w B l vv n0 P w1) {q : Pt8} (hB : Bv q.gb q.o q.n q.cp 0 (.slice q.p q.n q.cp)) (hN : q.p = none → q.cp = 0) (hR : Rs q.gb q.o q.n q.f w1) (hb : n0 + q.n ≤ 2097152) (ty : TypeId) :
    ∃ v' w2, (Builtin.append_ #[22, 22] ty #[vv, .slice q.p q.n q.cp]).run Tryd.prog w1 = .ok v' w2 ∧ Zo w B l v' (n0 + q.n) (ct P n0 q.f) w2 := by
  obtain ⟨gb, o, n, cp, p, f⟩ := q
  simp only at hB hN hR hb ⊢
  cases p with
  | none =>
    have hn : n = 0 := by
      rcases Nat.eq_zero_or_pos n with e | e
      · exact e
      · have := hB.1 e
        simp at this
    have hc := hN rfl
    subst hn hc
    exact ⟨vv, w1, h.app0 ty, h.cg (fun j hj => by unfold ct; rw [if_pos hj])⟩
  | some a =>
    refine h.app (a := a) n cp f (fun j hj => ?_) hb ty
    have e := hB.1 (by omega)
    injection e with e1
    injection e1 with e1
    rw [e1]
    exact hR.add j hj
theorem Mm.bsl {w : World} {l : List (Nat × List Value)} {g m n c : Nat} {f : Nat → Nat} (h : Mm w l) (k : Nat) (hk : l[k]? = some (g, ints .u8 f m)) (hn : n ≤ m) (hc : n ≤ c) : BSl w ((List.range n).map fun i => ((f i : Nat) : Int)) c (.slice (some ⟨g, 0, none⟩) n c) :=
  Rd.bsl ⟨(h.blk _ (List.mem_of_getElem? hk)).1, (h.rs k hk hn).at_⟩ hc
/-- The part that a slice handed in is. -/
theorem bsl_part {w : World} {xs : List Int} {c : Nat} {v : Value} (hx : ∀ x ∈ xs, 0 ≤ x ∧ x < 256) (h : BSl w xs c v) (h0 : v = .slice none 0 0 ∨ ∃ a k c', v = .slice (some a) k c') :
    ∃ q : Pt8, v = .slice q.p q.n q.cp ∧ Pok q ∧ (q.p = none → q.cp = 0) ∧ q.rs w ∧ q.n = xs.length ∧ q.f = lf xs ∧ q.cp = c := by
  cases h using BSl.each with
  | full g o hg hc hcell =>
    refine ⟨⟨g, o, xs.length, c, some ⟨g, o, none⟩, lf xs⟩, rfl, ⟨Bv.start _ _ _ _, hc⟩, (fun e => by cases e), ⟨fun _ => hg, fun i hi => ?_⟩, rfl, rfl, rfl⟩
    rw [hcell i hi]
    have e := lf_int hx i
    show some (Value.int .u8 (xs.getD i 0)) = some (Value.int .u8 ((lf xs i : Nat) : Int))
    rw [e]
    unfold lent
    rw [if_pos hi]
  | void p hx' =>
    subst hx'
    refine ⟨⟨0, 0, 0, c, p, lf []⟩, rfl, ⟨Bv.void _ _ _ _ _, Nat.zero_le _⟩, fun e => ?_, Rs.void _ _ _ _, rfl, rfl, rfl⟩
    have e' : p = none := e
    subst e'
    rcases h0 with h0 | ⟨a, k, c', h0⟩
    · injection h0
    · injection h0 with h1
      cases h1
end Rg
end Go.Proofs.YtolflfjfegngnaaDoor
end
section
namespace Go.Proofs.YtolflfjfegngnaaDoor
open Go.RowKit
namespace Rg
set_option maxRecDepth 100000
section
variable {ρ : Operand → Value} {o : Oper} {x y : Operand} {a b : Nat} {w : World}
end
end Rg
end Go.Proofs.YtolflfjfegngnaaDoor
end
section
namespace Go.Proofs.YtolflfjfegngnaaDoor
open Go.RowKit
namespace Rg
set_option maxRecDepth 100000
def Dv (v : Value) (n : Nat) (f : Nat → Nat) (w : World) : Prop := (v = .slice none 0 0 ∧ n = 0) ∨ ∃ a cp, v = .slice (some a) n cp ∧ Ra a n f w
theorem Dv.below {v : Value} {n : Nat} {f : Nat → Nat} {w w' : World} (h : Dv v n f w) (hb : Below w.heap.size w w') : Dv v n f w' := by
  rcases h with h | ⟨a, cp, e, h⟩
  · exact .inl h
  · exact .inr ⟨a, cp, e, h.below hb⟩
end Rg
end Go.Proofs.YtolflfjfegngnaaDoor
end
section
namespace Go.Proofs.YtolflfjfegngnaaDoor
open Go.RowKit
namespace Rg
set_option maxRecDepth 100000
theorem Zo.form0 {w w1 : World} {B n : Nat} {l : List (Nat × List Value)} {vv : Value} {P : Nat → Nat} (h : Zo w B l vv n P w1) : ∃ p c, vv = .slice p n c := by
  rcases h.own.2 with ⟨h1, h2⟩ | ⟨g, cap, cur, h1, _⟩
  · subst h2
    exact ⟨_, _, h1⟩
  · exact ⟨_, _, h1⟩
theorem own_doc {w1 : World} {B n : Nat} {vv : Value} {P : Nat → Nat} (h : w1.ownsRow B 5 1 vv n (ints .u8 P n)) : Dv vv n P w1 := by
  rcases h.2 with ⟨h1, h2⟩ | ⟨g, cap, cur, h1, h2⟩
  · exact .inl ⟨h1, h2⟩
  · refine .inr ⟨⟨g, 0, none⟩, cap, h1, fun _ => ?_, fun j hj => ?_⟩
    · subst h1
      exact (World.ownsRow.lt h g rfl).2
    · subst h1
      exact World.ownsRow.cells h rfl j _ (ints_get .u8 P hj)
/-- Two slices of the call's own, beside blocks l. -/
structure Z2 (w : World) (B : Nat) (l : List (Nat × List Value)) (v1 : Value) (n1 : Nat) (P1 : Nat → Nat) (v2 : Value) (n2 : Nat) (P2 : Nat → Nat) (w' : World) : Prop where
  b : Below w.heap.size w w'
  lo : w.heap.size ≤ B
  hi : B ≤ w'.heap.size
  m : Mm w' l
  lt : ∀ p ∈ l, p.1 < B
  o1 : w'.ownsRow B 5 1 v1 n1 (ints .u8 P1 n1)
  o2 : w'.ownsRow B 5 1 v2 n2 (ints .u8 P2 n2)
  ne : v1.ownBlock = none ∨ v1.ownBlock ≠ v2.ownBlock
theorem own_step {w1 w2 : World} {B n : Nat} {vv : Value} {P : Nat → Nat} (h : w1.ownsRow B 5 1 vv n (ints .u8 P n)) (hb : Below w1.heap.size w1 w2) : w2.ownsRow B 5 1 vv n (ints .u8 P n) := by
  refine ⟨h.1, ?_⟩
  rcases h.2 with ⟨h1, h2⟩ | ⟨g, cap, cur, h1, h2, h3, h4⟩
  · exact .inl ⟨h1, h2⟩
  · refine .inr ⟨g, cap, cur, h1, h2, ?_, h4⟩
    rw [hb.block g (Array.getElem?_eq_some_iff.1 h3).1]
    exact h3
theorem own_cg {w1 : World} {B n : Nat} {vv : Value} {P P' : Nat → Nat} (h : w1.ownsRow B 5 1 vv n (ints .u8 P n)) (e : ∀ j, j < n → P j = P' j) : w1.ownsRow B 5 1 vv n (ints .u8 P' n) := by
  rw [ints_congr e] at h
  exact h
theorem own_app {w1 : World} {B n : Nat} {vv : Value} {P : Nat → Nat} (h : w1.ownsRow B 5 1 vv n (ints .u8 P n)) (hB : B ≤ w1.heap.size) {a : Addr} (m c : Nat) (Q : Nat → Nat) (hr : ∀ j, j < m → w1.cell? (a.add j) = some (Z8 (Q j))) (hb : n + m ≤ 2097152) (ty : TypeId) :
    ∃ v' w2, (Builtin.append_ #[22, 22] ty #[vv, .slice (some a) m c]).run Tryd.prog w1 = .ok v' w2 ∧ w2.ownsRow B 5 1 v' (n + m) (ints .u8 (ct P n Q) (n + m)) ∧ w1.grownBy w2 vv.ownBlock ∧ (v'.ownBlock = vv.ownBlock ∨ v'.ownBlock = some w1.heap.size) := by
  obtain ⟨i0, hi, hz0, hz1, hz2⟩ := info_byte
  obtain ⟨v', w2, h1, h2, h3, _, h5⟩ := run_append_own_at (P := Tryd.prog) w1 B 22 ty 5 i0 (.int .u8 0) 1 1 Tryd.underlying22 hi hz0 hz1 hz2 rfl (by decide) vv n _ h a m c (ints .u8 Q m) (by rw [ints_len]; omega)
    (fun j u hj => by
      have hjm : j < m := by
        have := (List.getElem?_eq_some_iff.1 hj).1
        rwa [ints_len] at this
      rw [ints_get _ _ hjm] at hj
      rw [hr j hjm]
      exact hj) (List.all_eq_true.1 (ints_all _ _ _)) (by unfold maxLen; omega) (by omega) hB
  rw [ints_cat] at h2
  exact ⟨v', w2, h1, h2, h3, h5⟩
section
variable {w w1 w2 : World} {B n1 n2 : Nat} {l : List (Nat × List Value)} {v1 v2 : Value} {P1 P2 P' : Nat → Nat}
theorem Z2.size (h : Z2 w B l v1 n1 P1 v2 n2 P2 w1) : w.heap.size ≤ w1.heap.size := h.b.size
theorem Z2.step (h : Z2 w B l v1 n1 P1 v2 n2 P2 w1) (hb : Below w1.heap.size w1 w2) : Z2 w B l v1 n1 P1 v2 n2 P2 w2 :=
  ⟨h.b.trans (hb.mono h.b.size), h.lo, Nat.le_trans h.hi hb.size, h.m.below hb, h.lt, own_step h.o1 hb, own_step h.o2 hb, h.ne⟩
theorem Z2.nil (hm : Mm w1 l) (hb : Below w.heap.size w w1) (P1 P2 : Nat → Nat) : Z2 w w1.heap.size l (.slice none 0 0) 0 P1 (.slice none 0 0) 0 P2 w1 :=
  ⟨hb, hb.size, Nat.le_refl _, hm, fun p hp => (hm.blk p hp).1, World.ownsRow_nil _ _ _ _, World.ownsRow_nil _ _ _ _, .inl rfl⟩
theorem Z2.swap (h : Z2 w B l v1 n1 P1 v2 n2 P2 w1) : Z2 w B l v2 n2 P2 v1 n1 P1 w1 :=
  ⟨h.b, h.lo, h.hi, h.m, h.lt, h.o2, h.o1, by
    rcases h.ne with e | e
    · rcases hv : v2.ownBlock with _ | g
      · exact .inl rfl
      · rw [e]; exact .inr (by simp)
    · exact .inr (Ne.symm e)⟩
theorem Z2.cg1 (h : Z2 w B l v1 n1 P1 v2 n2 P2 w1) (e : ∀ j, j < n1 → P1 j = P' j) : Z2 w B l v1 n1 P' v2 n2 P2 w1 :=
  ⟨h.b, h.lo, h.hi, h.m, h.lt, own_cg h.o1 e, h.o2, h.ne⟩
theorem Z2.cg2 (h : Z2 w B l v1 n1 P1 v2 n2 P2 w1) (e : ∀ j, j < n2 → P2 j = P' j) : Z2 w B l v1 n1 P1 v2 n2 P' w1 :=
  ⟨h.b, h.lo, h.hi, h.m, h.lt, h.o1, own_cg h.o2 e, h.ne⟩
theorem Z2.app1 (h : Z2 w B l v1 n1 P1 v2 n2 P2 w1) {a : Addr} (m c : Nat) (Q : Nat → Nat) (hr : ∀ j, j < m → w1.cell? (a.add j) = some (Z8 (Q j))) (hb : n1 + m ≤ 2097152) (ty : TypeId) :
    ∃ v' w2, (Builtin.append_ #[22, 22] ty #[v1, .slice (some a) m c]).run Tryd.prog w1 = .ok v' w2 ∧ Z2 w B l v' (n1 + m) (ct P1 n1 Q) v2 n2 P2 w2 := by
  obtain ⟨v', w2, h1, h2, h3, h5⟩ := own_app h.o1 h.hi m c Q hr hb ty
  have hb2 : Below B w1 w2 := (Below.refl _ _).grown h3 h.hi (fun k hk => (World.ownsRow.lt h.o1 k hk).1)
  have hne2 : v2.ownBlock = none ∨ v2.ownBlock ≠ v1.ownBlock := h.swap.ne
  refine ⟨v', w2, h1, h.b.trans (hb2.mono h.lo), h.lo, Nat.le_trans h.hi hb2.size, ⟨fun p hp => ⟨Nat.lt_of_lt_of_le (h.m.blk p hp).1 hb2.size, (h.m.blk p hp).2.below hb2 (h.lt p hp)⟩, h.m.nd⟩, h.lt, h2, h.o2.kept h3 hne2, ?_⟩
  rcases h5 with e | e
  · rw [e]; exact h.ne
  · refine .inr (fun e2 => ?_)
    rw [e] at e2
    have := (World.ownsRow.lt h.o2 _ e2.symm).2
    omega
theorem Z2.app2 (h : Z2 w B l v1 n1 P1 v2 n2 P2 w1) {a : Addr} (m c : Nat) (Q : Nat → Nat) (hr : ∀ j, j < m → w1.cell? (a.add j) = some (Z8 (Q j))) (hb : n2 + m ≤ 2097152) (ty : TypeId) :
    ∃ v' w2, (Builtin.append_ #[22, 22] ty #[v2, .slice (some a) m c]).run Tryd.prog w1 = .ok v' w2 ∧ Z2 w B l v1 n1 P1 v' (n2 + m) (ct P2 n2 Q) w2 := by
  obtain ⟨v', w2, h1, h2⟩ := h.swap.app1 m c Q hr hb ty
  exact ⟨v', w2, h1, h2.swap⟩
theorem Z2.appQ1 (h : Z2 w B l v1 n1 P1 v2 n2 P2 w1) {q : Pt8} (hq : Pok q) (hN : q.p = none → q.cp = 0) (hR : q.rs w1) (hb : n1 + q.n ≤ 2097152) (ty : TypeId) :
    ∃ v' w2, (Builtin.append_ #[22, 22] ty #[v1, .slice q.p q.n q.cp]).run Tryd.prog w1 = .ok v' w2 ∧ Z2 w B l v' (n1 + q.n) (ct P1 n1 q.f) v2 n2 P2 w2 := by
  obtain ⟨gb, o, n, cp, p, f⟩ := q
  obtain ⟨hB, hle⟩ := hq
  simp only [Pt8.rs] at hB hN hR hb hle ⊢
  cases p with
  | none =>
    have hn : n = 0 := by
      rcases Nat.eq_zero_or_pos n with e | e
      · exact e
      · have := hB.1 e
        simp at this
    have hc := hN rfl
    subst hn hc
    obtain ⟨i0, hi, _, _, _⟩ := info_byte
    exact ⟨v1, w1, run_append_owned_none (P := Tryd.prog) (w := w1) B 22 ty 5 i0 1 Tryd.underlying22 hi v1 n1 _ h.o1, h.cg1 (fun j hj => by unfold ct; rw [if_pos hj])⟩
  | some a =>
    refine h.app1 (a := a) n cp f (fun j hj => ?_) hb ty
    have e := hB.1 (by omega)
    injection e with e1
    injection e1 with e1
    rw [e1]
    exact hR.add j hj
end
theorem own_mono {w1 : World} {B B' n : Nat} {vv : Value} {xs : List Value} (h : w1.ownsRow B 5 1 vv n xs) (hB : B' ≤ B) : w1.ownsRow B' 5 1 vv n xs := by
  refine ⟨h.1, ?_⟩
  rcases h.2 with h1 | ⟨g, cap, cur, h1, h2, h3⟩
  · exact .inl h1
  · exact .inr ⟨g, cap, cur, h1, Nat.le_trans hB h2, h3⟩
/-- A slice of the call's own, apart from the blocks L. -/
structure Ow (w : World) (L : List Nat) (vv : Value) (n : Nat) (P : Nat → Nat) (w' : World) : Prop where
  b : Below w.heap.size w w'
  own : w'.ownsRow w.heap.size 5 1 vv n (ints .u8 P n)
  ne : ∀ g ∈ L, some g ≠ vv.ownBlock
section
variable {w w1 w2 : World} {B n n2 : Nat} {L : List Nat} {l : List (Nat × List Value)} {vv v2 : Value} {P P' P2 : Nat → Nat}
theorem Ow.size (h : Ow w L vv n P w1) : w.heap.size ≤ w1.heap.size := h.b.size
theorem Ow.step (h : Ow w L vv n P w1) (hb : Below w1.heap.size w1 w2) : Ow w L vv n P w2 := ⟨h.b.trans (hb.mono h.b.size), own_step h.own hb, h.ne⟩
theorem Ow.cg (h : Ow w L vv n P w1) (e : ∀ j, j < n → P j = P' j) : Ow w L vv n P' w1 := ⟨h.b, own_cg h.own e, h.ne⟩
theorem Ow.alloc (h : Ow w L vv n P w1) (o : Obj) : Ow w (w1.heap.size :: L) vv n P (w1.alloc o) :=
  ⟨h.b.trans (((Below.refl _ _).alloc (Nat.le_refl _) _).mono h.b.size), own_step h.own ((Below.refl _ _).alloc (Nat.le_refl _) _), fun g hg e => by
    rcases List.mem_cons.1 hg with rfl | hg
    · have := (World.ownsRow.lt h.own _ e.symm).2
      omega
    · exact h.ne g hg e⟩
theorem Ow.put (h : Ow w L vv n P w1) {g off : Nat} {vs : List Value} (hg : g ∈ L) (ho : w.heap.size ≤ g) : Ow w L vv n P (w1.setCells g off vs) := by
  refine ⟨below_setCells _ ho _ _ _ h.b, ⟨h.own.1, ?_⟩, h.ne⟩
  rcases h.own.2 with h1 | ⟨k, cap, cur, h1, h2, h3, h4⟩
  · exact .inl h1
  · refine .inr ⟨k, cap, cur, h1, h2, ?_, h4⟩
    have hk : k ≠ g := fun e => h.ne g hg (by rw [h1, ← e]; rfl)
    rw [heap_setCells0 g k hk]
    exact h3
theorem Ow.app (h : Ow w L vv n P w1) (hm : Mm w1 l) (hl : l.map Prod.fst = L) {a : Addr} (m c : Nat) (Q : Nat → Nat) (hr : ∀ j, j < m → w1.cell? (a.add j) = some (Z8 (Q j))) (hb : n + m ≤ 2097152) (ty : TypeId) :
    ∃ v' w2, (Builtin.append_ #[22, 22] ty #[vv, .slice (some a) m c]).run Tryd.prog w1 = .ok v' w2 ∧ Ow w L v' (n + m) (ct P n Q) w2 ∧ Mm w2 l := by
  obtain ⟨v', w2, h1, h2, h3, h5⟩ := own_app h.own h.b.size m c Q hr hb ty
  have hb2 : Below w.heap.size w1 w2 := (Below.refl _ _).grown h3 h.b.size (fun k hk => (World.ownsRow.lt h.own k hk).1)
  have hne : ∀ p ∈ l, some p.1 ≠ vv.ownBlock := fun p hp => h.ne p.1 (by rw [← hl]; exact List.mem_map_of_mem hp)
  refine ⟨v', w2, h1, ⟨h.b.trans hb2, h2, fun g hg e => ?_⟩, ⟨fun p hp => ?_, hm.nd⟩⟩
  · rcases h5 with e5 | e5
    · exact h.ne g hg (e.trans e5)
    · rw [e5] at e
      rw [← hl] at hg
      obtain ⟨p, hp, e6⟩ := List.mem_map.1 hg
      have := (hm.blk p hp).1
      injection e with e
      omega
  · have hlt := (hm.blk p hp).1
    have hblk := h3.block p.1 hlt (hne p hp)
    refine ⟨Nat.lt_of_lt_of_le hlt hb2.size, fun j v hj => ?_⟩
    have := (hm.blk p hp).2 j v hj
    rw [World.cell?_of_block (a := ⟨p.1, j, none⟩) hblk, World.frozen?_of_block (a := ⟨p.1, j, none⟩) hblk]
    exact this
theorem Z2.ow {v1 : Value} {n1 : Nat} {P1 : Nat → Nat} (h : Z2 w B l v1 n1 P1 v2 n2 P2 w1) (hl : l.map Prod.fst = L) : Ow w L v2 n2 P2 w1 :=
  ⟨h.b, own_mono h.o2 h.lo, fun g hg e => by
    rw [← hl] at hg
    obtain ⟨p, hp, e6⟩ := List.mem_map.1 hg
    have h1 := h.lt p hp
    have h2 := (World.ownsRow.lt h.o2 _ e.symm).1
    omega⟩
end
/-- A key's block, as the document fills it. -/
def kz (f : Nat → Nat) (n : Nat) : Nat → Nat := fun j => if j < n then f j else 0
theorem kz_lt (f : Nat → Nat) (n j : Nat) (h : j < n) : f j = kz f n j := by unfold kz; rw [if_pos h]
theorem kz_ge (f : Nat → Nat) (n k : Nat) : 0 = kz f n (n + k) := by unfold kz; rw [if_neg (by omega)]
/-- The document's code of a message under a block. -/
def dh (K f : Nat → Nat) (n : Nat) : Nat → Nat := ds (ct (mk8 K 92) 64 (ds (ct (mk8 K 54) 64 f) (64 + n))) (64 + 32)
set_option maxHeartbeats 8000000 in
set_option maxRecDepth 100000 in
theorem dCode_short (a b : Pt8) (ha : Pok a) (hb : Pok b) (hNa0 : a.p = none → a.cp = 0) (hNb0 : b.p = none → b.cp = 0) (hna : a.n ≤ 1048576) (hnb : b.n ≤ 1000000) (h64 : a.n ≤ 64) (w : World) (hRa : a.rs w) (hRb : b.rs w) :
    Calls Tryd.prog 33 #[.slice a.p a.n a.cp, .slice b.p b.n b.cp] w fun e w' => e = .returned (.agg (ints .u8 (dh (kz a.f a.n) b.f b.n) 32).toArray) ∧ Below w.heap.size w w' := by
  have H0 : Hid (_ ∧ _) := ⟨Mm.nil w, Below.refl w.heap.size w⟩
  have RA : Hid (a.rs w) := hRa
  have RB : Hid (b.rs w) := hRb
  have hNa : Hid _ := hNa0
  have hNb : Hid _ := hNb0
  obtain ⟨NN, hNN⟩ : ∃ NN, NN = 64 - a.n := ⟨_, rfl⟩
  clear hRa hRb hNa0 hNb0
  go_enter Tryd.func33, Tryd.ntmps33
  refine wp_seq ?_
  refine walk_seqA 1 [.made (ints .u8 (fun _ => 0) 32) 25] (sB H0) ?ho1 ?he1
  case ho1 => exact ak (fun γ => ⟨rfl, fun w' => ex_mk25 rfl⟩) trivial
  intro γ w1 l hM hl
  have H1 : Hid (Mm w1 [(γ 0, ints .u8 (fun _ => 0) 32)] ∧ _) := growB H0 hM (Nat.le_refl _) hl [0] rfl (by decide)
  have o1_0 := ownB H0 hM (Nat.le_refl _) hl (i := 0) rfl
  clear hM hl l
  generalize γ 0 = γ1_0 at H1 o1_0 ⊢
  clear γ
  refine rest0 rfl (then_normal (wp_seq ?_))
  refine walk_seqB 0 [] H1 ?ho2 ?he2
  case ho2 => exact trivial
  intro _ w2 H2
  clear H1
  refine rest_at (l := [0, 1, 2, 3]) rfl ?_
  refine rest_set (d := 11) (v := .slice (some ⟨w2.heap.size, 0, none⟩) 0 0) (w' := (w2.alloc (.cells #[] 5))) rfl rfl rfl (ex_bs0 rfl) ?_
  simp only [Act.put, sa, sz, ss]
  have hz := Zo.made (fun _ => 0) H2.out.1 H2.out.2
  have H3 : Hid (Mm (w2.alloc (.cells #[] 5)) [(γ1_0, ints .u8 (fun _ => 0) 32)] ∧ Zo w w2.heap.size [(γ1_0, ints .u8 (fun _ => 0) 32)] (.slice (some ⟨w2.heap.size, 0, none⟩) 0 0) 0 (fun _ => 0) (w2.alloc (.cells #[] 5))) := ⟨hz.m, hz⟩
  clear hz H2
  generalize hgw : (w2.alloc (.cells #[] 5)) = w3 at H3 ⊢
  clear hgw
  generalize w2.heap.size = γb3 at H3 ⊢
  refine rest_set (d := 12) (v := .slice a.p a.n a.cp) (w' := w3) rfl rfl rfl rfl ?_
  simp only [Act.put, sa, sz, ss]
  obtain ⟨v4, w4, hr, hZ⟩ := H3.out.2.appQ (q := a) ha.bv hNa.out (RA.out.below H3.out.2.b) (by omega) 22
  refine rest_set (d := 13) (v := v4) (w' := w4) rfl rfl rfl (ex_app rfl rfl rfl hr) ?_
  simp only [Act.put, sa, sz, ss]
  have hZ2 : Zo w γb3 [(γ1_0, ints .u8 (fun _ => 0) 32)] v4 a.n a.f w4 := by rw [Nat.zero_add] at hZ; exact hZ.cg (fun j _ => by rw [ct_zero])
  have H4 : Hid (Mm w4 [(γ1_0, ints .u8 (fun _ => 0) 32)] ∧ Zo w γb3 [(γ1_0, ints .u8 (fun _ => 0) 32)] v4 a.n a.f w4) := ⟨hZ2.m, hZ2⟩
  clear hr hZ hZ2 H3
  refine rest_set (d := 5) (v := v4) (w' := w4) rfl rfl rfl rfl ?_
  simp only [Act.put, sa, sz, ss]
  refine rest_nil ?_
  obtain ⟨p1, c1, e1⟩ := H4.out.2.form0
  rw [e1] at H4 ⊢
  clear e1
  refine then_normal (wp_seq (wp_seq ?_))
  refine walk_seqA 3 [.quiet (.slice p1 a.n c1), .quiet (.int .i64 ((a.n : Nat) : Int)), .quiet (.bool false)] (sB H4) ?ho3 ?he3
  case ho3 => exact ak (fun _ => ⟨rfl, fun _ _ => rfl⟩) (ak (by refine fun γ => ⟨rfl, fun w' h => ?_⟩; clear h; go_simp) (ak (by refine fun γ => ⟨rfl, fun w' h => ?_⟩; clear h; go_simp <;> omega) trivial))
  intro γ w5 l hM hl
  have M5 : Mm w5 [(γ1_0, ints .u8 (fun _ => 0) 32)] := H4.out.1.grow hM (Nat.le_refl _) hl [] rfl (by decide)
  have B5 : Zo w γb3 [(γ1_0, ints .u8 (fun _ => 0) 32)] (.slice p1 a.n c1) a.n a.f w5 := Zo.step H4.out.2 (hM.below)
  clear hM hl l H4
  clear γ
  have H5 : Hid (_ ∧ _) := ⟨M5, B5⟩
  clear M5 B5
  refine rest0 rfl (then_normal (wp_cond_false rfl ?_))
  refine wp_skip (then_normal (wp_seq ?_))
  have hz0 := H5.out.2.cg (kz_lt a.f a.n)
  have H6 : Hid (Mm w5 [(γ1_0, ints .u8 (fun _ => 0) 32)] ∧ Zo w γb3 [(γ1_0, ints .u8 (fun _ => 0) 32)] (.slice p1 a.n c1) a.n (kz a.f a.n) w5) := ⟨hz0.m, hz0⟩
  clear hz0 H5
  refine wp_block ?_
  refine loop_ghost (α := Nat) (fun k a' w' => ∃ s0 : Nat → Value, a' = ⟨#[.slice a.p a.n a.cp, .slice b.p b.n b.cp, undef, undef, PT γ1_0 0, s0 5, undef, undef, undef, undef, undef, .slice (some ⟨γb3, 0, none⟩) 0 0, .slice a.p a.n a.cp, .slice p1 a.n c1, .slice p1 a.n c1, .int .i64 ((a.n : Nat) : Int), .bool false, undef, undef, undef, undef, undef, s0 22, s0 23, s0 24, s0 25, s0 26, s0 27, undef, undef, undef, undef, undef, undef, undef, undef, undef, undef, undef, undef, undef, undef, undef, undef, undef, undef, undef, undef, undef, undef, undef, undef, undef, undef, undef, undef], []⟩ ∧ (Mm w' [(γ1_0, ints .u8 (fun _ => 0) 32)] ∧ Zo w γb3 [(γ1_0, ints .u8 (fun _ => 0) 32)] (s0 5) (a.n + k) (kz a.f a.n) w') ∧ k ≤ NN) (fun k => NN - k) 0 ?st0 ?rd0
  case st0 => exact ⟨(slotfn [undef, undef, undef, undef, undef, .slice p1 a.n c1, undef, undef, undef, undef, undef, undef, undef, undef, undef, undef, undef, undef, undef, undef, undef, undef, undef, undef, undef, undef, undef, undef]), rfl, ⟨H6.out.1, H6.out.2⟩, by omega⟩
  intro k a' w7 hI
  obtain ⟨s0, rfl, hMB, hk0⟩ := hI
  have H7 : Hid (_ ∧ _) := hMB
  clear hMB H6
  by_cases hlt : k < NN
  · have hrd : True := trivial
    clear hrd
    obtain ⟨p7, c7, e7⟩ := H7.out.2.form0
    rw [e7] at H7 ⊢
    clear e7
    refine wp_seq (wp_seq ?_)
    refine walk_seqA 3 [.quiet (.slice p7 (a.n + k) c7), .quiet (.int .i64 ((a.n + k : Nat) : Int)), .quiet (.bool true)] (sB H7) ?ho4 ?he4
    case ho4 => exact ak (fun _ => ⟨rfl, fun _ _ => rfl⟩) (ak (by refine fun γ => ⟨rfl, fun w' h => ?_⟩; clear h; go_simp) (ak (by refine fun γ => ⟨rfl, fun w' h => ?_⟩; clear h; go_simp <;> omega) trivial))
    intro γ w8 l hM hl
    have M8 : Mm w8 [(γ1_0, ints .u8 (fun _ => 0) 32)] := H7.out.1.grow hM (Nat.le_refl _) hl [] rfl (by decide)
    have B8 : Zo w γb3 [(γ1_0, ints .u8 (fun _ => 0) 32)] (.slice p7 (a.n + k) c7) (a.n + k) (kz a.f a.n) w8 := Zo.step H7.out.2 (hM.below)
    clear hM hl l H7
    clear γ
    have H8 : Hid (_ ∧ _) := ⟨M8, B8⟩
    clear M8 B8
    refine rest0 rfl (then_normal (wp_cond_true rfl ?_))
    refine wp_skip (then_normal (wp_block ?_))
    refine walk_seqA 1 [.quiet (.slice p7 (a.n + k) c7)] (sB H8) ?ho5 ?he5
    case ho5 => exact ak (fun _ => ⟨rfl, fun _ _ => rfl⟩) trivial
    intro γ w9 l hM hl
    have M9 : Mm w9 [(γ1_0, ints .u8 (fun _ => 0) 32)] := H8.out.1.grow hM (Nat.le_refl _) hl [] rfl (by decide)
    have B9 : Zo w γb3 [(γ1_0, ints .u8 (fun _ => 0) 32)] (.slice p7 (a.n + k) c7) (a.n + k) (kz a.f a.n) w9 := Zo.step H8.out.2 (hM.below)
    clear hM hl l H8
    clear γ
    have H9 : Hid (_ ∧ _) := ⟨M9, B9⟩
    clear M9 B9
    refine rest_at (l := [1, 2, 3]) rfl ?_
    refine rest_set (d := 26) (v := .slice (some ⟨w9.heap.size, 0, none⟩) 1 1) (w' := (w9.alloc (.cells ([Z8 0] : List Value).toArray 5))) rfl rfl rfl (ex_bs1 (a := 0) rfl rfl) ?_
    simp only [Act.put, sa, sz, ss]
    have H10 : Hid (Mm (w9.alloc (.cells ([Z8 0] : List Value).toArray 5)) [(γ1_0, ints .u8 (fun _ => 0) 32)] ∧ Zo w γb3 [(γ1_0, ints .u8 (fun _ => 0) 32)] (.slice p7 (a.n + k) c7) (a.n + k) (kz a.f a.n) (w9.alloc (.cells ([Z8 0] : List Value).toArray 5))) := ⟨(Zo.step H9.out.2 (((Below.refl _ _).alloc (Nat.le_refl _) _))).m, (Zo.step H9.out.2 (((Below.refl _ _).alloc (Nat.le_refl _) _)))⟩
    have C10 : Hid _ := cell_one w9 0
    clear H9
    generalize hgw : (w9.alloc (.cells ([Z8 0] : List Value).toArray 5)) = w10 at H10 C10 ⊢
    clear hgw
    generalize w9.heap.size = γs10 at C10 ⊢
    obtain ⟨v11, w11, hr, hZ⟩ := H10.out.2.app (a := ⟨γs10, 0, none⟩) 1 1 (fun _ => 0) C10.out (by omega) 22
    refine rest_set (d := 27) (v := v11) (w' := w11) rfl rfl rfl (ex_app rfl rfl rfl hr) ?_
    simp only [Act.put, sa, sz, ss]
    have hZ2 : Zo w γb3 [(γ1_0, ints .u8 (fun _ => 0) 32)] v11 (a.n + (k + 1)) (kz a.f a.n) w11 := hZ.cg (ct_snoc (kz_ge a.f a.n k))
    have H11 : Hid (Mm w11 [(γ1_0, ints .u8 (fun _ => 0) 32)] ∧ Zo w γb3 [(γ1_0, ints .u8 (fun _ => 0) 32)] v11 (a.n + (k + 1)) (kz a.f a.n) w11) := ⟨hZ2.m, hZ2⟩
    clear hr hZ hZ2 H10
    refine rest_set (d := 5) (v := v11) (w' := w11) rfl rfl rfl rfl ?_
    simp only [Act.put, sa, sz, ss]
    refine rest_nil (block_normal (then_normal ?_))
    exact ⟨k + 1, ⟨(slotfn [undef, undef, undef, undef, undef, v11, undef, undef, undef, undef, undef, undef, undef, undef, undef, undef, undef, undef, undef, undef, undef, undef, .slice p7 (a.n + k) c7, .int .i64 ((a.n + k : Nat) : Int), .bool true, .slice p7 (a.n + k) c7, .slice (some ⟨γs10, 0, none⟩) 1 1, v11]), rfl, ⟨H11.out.1, H11.out.2⟩, by omega⟩, by omega⟩
  have hkN : NN = k := by omega
  subst hkN
  have hn64 : a.n + NN = 64 := by omega
  rw [hn64] at H7
  obtain ⟨p8, c8, e8⟩ := H7.out.2.form0
  rw [e8] at H7 ⊢
  clear e8
  refine wp_seq (wp_seq ?_)
  refine walk_seqA 3 [.quiet (.slice p8 64 c8), .quiet (.int .i64 64), .quiet (.bool false)] (sB H7) ?ho6 ?he6
  case ho6 => exact ak (fun _ => ⟨rfl, fun _ _ => rfl⟩) (ak (by refine fun γ => ⟨rfl, fun w' h => ?_⟩; clear h; go_simp) (ak (by refine fun γ => ⟨rfl, fun w' h => ?_⟩; clear h; go_simp <;> omega) trivial))
  intro γ w12 l hM hl
  have M12 : Mm w12 [(γ1_0, ints .u8 (fun _ => 0) 32)] := H7.out.1.grow hM (Nat.le_refl _) hl [] rfl (by decide)
  have B12 : Zo w γb3 [(γ1_0, ints .u8 (fun _ => 0) 32)] (.slice p8 64 c8) 64 (kz a.f a.n) w12 := Zo.step H7.out.2 (hM.below)
  clear hM hl l H7
  clear γ
  have H12 : Hid (_ ∧ _) := ⟨M12, B12⟩
  clear M12 B12
  refine rest0 rfl (then_normal (wp_cond_false rfl ?_))
  refine wp_exit ?_
  repeat refine then_exit ?_
  refine block_exit ?_
  obtain ⟨g5, cap5, e5⟩ := H12.out.2.form (by decide)
  rw [e5] at H12 ⊢
  clear e5
  have o_g5 : Hid (w.heap.size ≤ g5) := Nat.le_trans H12.out.2.lo H12.out.2.blk.1
  have H13 : Hid (Mm w12 [(g5, ints .u8 (kz a.f a.n) 64), (γ1_0, ints .u8 (fun _ => 0) 32)] ∧ Below w.heap.size w w12) := ⟨H12.out.2.mm, H12.out.2.b⟩
  clear  H12
  refine then_normal (wp_seq ?_)
  refine walk_seqB 2 [.quiet (.slice none 0 0), .quiet (.slice none 0 0)] H13 ?ho7 ?he7
  case ho7 => exact ak (fun _ => ⟨rfl, fun _ _ => rfl⟩) (ak (fun _ => ⟨rfl, fun _ _ => rfl⟩) trivial)
  intro _ w14 H14
  clear H13
  refine rest0 rfl ?_
  have H15 : Hid (Mm w14 [(g5, ints .u8 (kz a.f a.n) 64), (γ1_0, ints .u8 (fun _ => 0) 32)] ∧ Z2 w w14.heap.size [(g5, ints .u8 (kz a.f a.n) 64), (γ1_0, ints .u8 (fun _ => 0) 32)] (.slice none 0 0) 0 (mk8 (kz a.f a.n) 54) (.slice none 0 0) 0 (mk8 (kz a.f a.n) 92) w14) := ⟨H14.out.1, Z2.nil H14.out.1 H14.out.2 _ _⟩
  clear  H14
  generalize w14.heap.size = γb at H15
  refine then_normal (wp_seq (wp_seq ?_))
  refine walk_seqA 1 [.quiet (.int .i64 0)] (sB H15) ?ho8 ?he8
  case ho8 => exact ak (fun _ => ⟨rfl, fun _ _ => rfl⟩) trivial
  intro γ w16 l hM hl
  have M16 : Mm w16 [(g5, ints .u8 (kz a.f a.n) 64), (γ1_0, ints .u8 (fun _ => 0) 32)] := H15.out.1.grow hM (Nat.le_refl _) hl [] rfl (by decide)
  have B16 : Z2 w γb [(g5, ints .u8 (kz a.f a.n) 64), (γ1_0, ints .u8 (fun _ => 0) 32)] (.slice none 0 0) 0 (mk8 (kz a.f a.n) 54) (.slice none 0 0) 0 (mk8 (kz a.f a.n) 92) w16 := Z2.step H15.out.2 (hM.below)
  clear hM hl l H15
  clear γ
  have H16 : Hid (_ ∧ _) := ⟨M16, B16⟩
  clear M16 B16
  refine rest0 rfl (then_normal (wp_block ?_))
  refine loop_ghost (α := Nat) (fun k a' w' => ∃ s2 : Nat → Value, a' = ⟨#[.slice a.p a.n a.cp, .slice b.p b.n b.cp, undef, undef, PT γ1_0 0, .slice (some ⟨g5, 0, none⟩) 64 cap5, undef, s2 7, s2 8, .int .i64 ((k : Nat) : Int), undef, .slice (some ⟨γb3, 0, none⟩) 0 0, .slice a.p a.n a.cp, .slice p1 a.n c1, .slice p1 a.n c1, .int .i64 ((a.n : Nat) : Int), .bool false, undef, undef, undef, undef, undef, .slice (some ⟨g5, 0, none⟩) 64 cap5, .int .i64 64, .bool false, s0 25, s0 26, s0 27, s2 28, s2 29, s2 30, s2 31, s2 32, s2 33, s2 34, s2 35, s2 36, s2 37, s2 38, s2 39, s2 40, s2 41, s2 42, s2 43, s2 44, s2 45, s2 46, s2 47, undef, undef, undef, undef, undef, undef, undef, undef], []⟩ ∧ (Mm w' [(g5, ints .u8 (kz a.f a.n) 64), (γ1_0, ints .u8 (fun _ => 0) 32)] ∧ Z2 w γb [(g5, ints .u8 (kz a.f a.n) 64), (γ1_0, ints .u8 (fun _ => 0) 32)] (s2 7) k (mk8 (kz a.f a.n) 54) (s2 8) k (mk8 (kz a.f a.n) 92) w') ∧ k ≤ 64) (fun k => 64 - k) 0 ?st2 ?rd2
  case st2 => exact ⟨(slotfn [undef, undef, undef, undef, undef, undef, undef, .slice none 0 0, .slice none 0 0, undef, undef, undef, undef, undef, undef, undef, undef, undef, undef, undef, undef, undef, undef, undef, undef, undef, undef, undef, undef, undef, undef, undef, undef, undef, undef, undef, undef, undef, undef, undef, undef, undef, undef, undef, undef, undef, undef, undef]), rfl, ⟨H16.out.1, H16.out.2⟩, by omega⟩
  intro k a' w17 hI
  obtain ⟨s2, rfl, hMB, hk2⟩ := hI
  have H17 : Hid (_ ∧ _) := hMB
  clear hMB H16
  by_cases hlt : k < 64
  · have hrd : True := trivial
    clear hrd
    refine wp_seq (wp_seq ?_)
    refine walk_seqA 2 [.quiet (.int .i64 ((k : Nat) : Int)), .quiet (.bool true)] (sB H17) ?ho9 ?he9
    case ho9 => exact ak (fun _ => ⟨rfl, fun _ _ => rfl⟩) (ak (by refine fun γ => ⟨rfl, fun w' h => ?_⟩; clear h; go_simp <;> omega) trivial)
    intro γ w18 l hM hl
    have M18 : Mm w18 [(g5, ints .u8 (kz a.f a.n) 64), (γ1_0, ints .u8 (fun _ => 0) 32)] := H17.out.1.grow hM (Nat.le_refl _) hl [] rfl (by decide)
    have B18 : Z2 w γb [(g5, ints .u8 (kz a.f a.n) 64), (γ1_0, ints .u8 (fun _ => 0) 32)] (s2 7) k (mk8 (kz a.f a.n) 54) (s2 8) k (mk8 (kz a.f a.n) 92) w18 := Z2.step H17.out.2 (hM.below)
    clear hM hl l H17
    clear γ
    have H18 : Hid (_ ∧ _) := ⟨M18, B18⟩
    clear M18 B18
    refine rest0 rfl (then_normal (wp_cond_true rfl ?_))
    refine wp_skip (then_normal ?_)
    refine wp_seq (wp_block (wp_seq ?_))
    refine walk_seqA 6 [.quiet ((s2 7)), .quiet (.slice (some ⟨g5, 0, none⟩) 64 cap5), .quiet (.int .i64 ((k : Nat) : Int)), .quiet (PT g5 (0 + k)), .quiet (Z8 ((kz a.f a.n) (0 + k))), .quiet (Z8 (x8 ((kz a.f a.n) (0 + k)) 54))] (sB H18) ?ho10 ?he10
    case ho10 => exact ak (fun _ => ⟨rfl, fun _ _ => rfl⟩) (ak (fun _ => ⟨rfl, fun _ _ => rfl⟩) (ak (fun _ => ⟨rfl, fun _ _ => rfl⟩) (ak (fun γ => ⟨rfl, fun w' _ => ex_ixS22 (m := 64) (j := k) rfl rfl rfl (by omega)⟩) (ak (fun γ => ⟨rfl, fun w' h => ex_loadC h 0 rfl rfl rfl Tryd.isAgg5 (ints_get _ _ (by omega))⟩) (ak (fun γ => ⟨rfl, fun w' _ => ex_xor8 rfl rfl rfl⟩) trivial)))))
    intro γ w19 l hM hl
    have M19 : Mm w19 [(g5, ints .u8 (kz a.f a.n) 64), (γ1_0, ints .u8 (fun _ => 0) 32)] := H18.out.1.grow hM (Nat.le_refl _) hl [] rfl (by decide)
    have B19 : Z2 w γb [(g5, ints .u8 (kz a.f a.n) 64), (γ1_0, ints .u8 (fun _ => 0) 32)] (s2 7) k (mk8 (kz a.f a.n) 54) (s2 8) k (mk8 (kz a.f a.n) 92) w19 := Z2.step H18.out.2 (hM.below)
    clear hM hl l H18
    clear γ
    have H19 : Hid (_ ∧ _) := ⟨M19, B19⟩
    clear M19 B19
    refine rest_at (l := [6, 7, 8]) rfl ?_
    refine rest_set (d := 38) (v := .slice (some ⟨w19.heap.size, 0, none⟩) 1 1) (w' := (w19.alloc (.cells ([Z8 (x8 ((kz a.f a.n) (0 + k)) 54)] : List Value).toArray 5))) rfl rfl rfl (ex_bs1 (a := x8 ((kz a.f a.n) (0 + k)) 54) rfl rfl) ?_
    simp only [Act.put, sa, sz, ss]
    have H20 : Hid (Mm (w19.alloc (.cells ([Z8 (x8 ((kz a.f a.n) (0 + k)) 54)] : List Value).toArray 5)) [(g5, ints .u8 (kz a.f a.n) 64), (γ1_0, ints .u8 (fun _ => 0) 32)] ∧ Z2 w γb [(g5, ints .u8 (kz a.f a.n) 64), (γ1_0, ints .u8 (fun _ => 0) 32)] (s2 7) k (mk8 (kz a.f a.n) 54) (s2 8) k (mk8 (kz a.f a.n) 92) (w19.alloc (.cells ([Z8 (x8 ((kz a.f a.n) (0 + k)) 54)] : List Value).toArray 5))) := ⟨(Z2.step H19.out.2 (((Below.refl _ _).alloc (Nat.le_refl _) _))).m, (Z2.step H19.out.2 (((Below.refl _ _).alloc (Nat.le_refl _) _)))⟩
    have C20 : Hid _ := cell_one w19 (x8 ((kz a.f a.n) (0 + k)) 54)
    clear H19
    generalize hgw : (w19.alloc (.cells ([Z8 (x8 ((kz a.f a.n) (0 + k)) 54)] : List Value).toArray 5)) = w20 at H20 C20 ⊢
    clear hgw
    generalize w19.heap.size = γs20 at C20 ⊢
    obtain ⟨v21, w21, hr, hZ⟩ := H20.out.2.app1 (a := ⟨γs20, 0, none⟩) 1 1 (fun _ => x8 ((kz a.f a.n) (0 + k)) 54) C20.out (by omega) 22
    refine rest_set (d := 39) (v := v21) (w' := w21) rfl rfl rfl (ex_app rfl rfl rfl hr) ?_
    simp only [Act.put, sa, sz, ss]
    have hZ2 : Z2 w γb [(g5, ints .u8 (kz a.f a.n) 64), (γ1_0, ints .u8 (fun _ => 0) 32)] v21 (k + 1) (mk8 (kz a.f a.n) 54) (s2 8) k (mk8 (kz a.f a.n) 92) w21 := hZ.cg1 (ct_snoc (by show x8 ((kz a.f a.n) (0 + k)) _ = x8 ((kz a.f a.n) k) _; rw [Nat.zero_add]))
    have H21 : Hid (Mm w21 [(g5, ints .u8 (kz a.f a.n) 64), (γ1_0, ints .u8 (fun _ => 0) 32)] ∧ Z2 w γb [(g5, ints .u8 (kz a.f a.n) 64), (γ1_0, ints .u8 (fun _ => 0) 32)] v21 (k + 1) (mk8 (kz a.f a.n) 54) (s2 8) k (mk8 (kz a.f a.n) 92) w21) := ⟨hZ2.m, hZ2⟩
    clear hr hZ hZ2 H20
    refine rest_set (d := 7) (v := v21) (w' := w21) rfl rfl rfl rfl ?_
    simp only [Act.put, sa, sz, ss]
    refine rest_nil (then_normal ?_)
    refine walk_seqA 6 [.quiet ((s2 8)), .quiet (.slice (some ⟨g5, 0, none⟩) 64 cap5), .quiet (.int .i64 ((k : Nat) : Int)), .quiet (PT g5 (0 + k)), .quiet (Z8 ((kz a.f a.n) (0 + k))), .quiet (Z8 (x8 ((kz a.f a.n) (0 + k)) 92))] (sB H21) ?ho11 ?he11
    case ho11 => exact ak (fun _ => ⟨rfl, fun _ _ => rfl⟩) (ak (fun _ => ⟨rfl, fun _ _ => rfl⟩) (ak (fun _ => ⟨rfl, fun _ _ => rfl⟩) (ak (fun γ => ⟨rfl, fun w' _ => ex_ixS22 (m := 64) (j := k) rfl rfl rfl (by omega)⟩) (ak (fun γ => ⟨rfl, fun w' h => ex_loadC h 0 rfl rfl rfl Tryd.isAgg5 (ints_get _ _ (by omega))⟩) (ak (fun γ => ⟨rfl, fun w' _ => ex_xor8 rfl rfl rfl⟩) trivial)))))
    intro γ w22 l hM hl
    have M22 : Mm w22 [(g5, ints .u8 (kz a.f a.n) 64), (γ1_0, ints .u8 (fun _ => 0) 32)] := H21.out.1.grow hM (Nat.le_refl _) hl [] rfl (by decide)
    have B22 : Z2 w γb [(g5, ints .u8 (kz a.f a.n) 64), (γ1_0, ints .u8 (fun _ => 0) 32)] v21 (k + 1) (mk8 (kz a.f a.n) 54) (s2 8) k (mk8 (kz a.f a.n) 92) w22 := Z2.step H21.out.2 (hM.below)
    clear hM hl l H21
    clear γ
    have H22 : Hid (_ ∧ _) := ⟨M22, B22⟩
    clear M22 B22
    refine rest_at (l := [6, 7, 8]) rfl ?_
    refine rest_set (d := 46) (v := .slice (some ⟨w22.heap.size, 0, none⟩) 1 1) (w' := (w22.alloc (.cells ([Z8 (x8 ((kz a.f a.n) (0 + k)) 92)] : List Value).toArray 5))) rfl rfl rfl (ex_bs1 (a := x8 ((kz a.f a.n) (0 + k)) 92) rfl rfl) ?_
    simp only [Act.put, sa, sz, ss]
    have H23 : Hid (Mm (w22.alloc (.cells ([Z8 (x8 ((kz a.f a.n) (0 + k)) 92)] : List Value).toArray 5)) [(g5, ints .u8 (kz a.f a.n) 64), (γ1_0, ints .u8 (fun _ => 0) 32)] ∧ Z2 w γb [(g5, ints .u8 (kz a.f a.n) 64), (γ1_0, ints .u8 (fun _ => 0) 32)] v21 (k + 1) (mk8 (kz a.f a.n) 54) (s2 8) k (mk8 (kz a.f a.n) 92) (w22.alloc (.cells ([Z8 (x8 ((kz a.f a.n) (0 + k)) 92)] : List Value).toArray 5))) := ⟨(Z2.step H22.out.2 (((Below.refl _ _).alloc (Nat.le_refl _) _))).m, (Z2.step H22.out.2 (((Below.refl _ _).alloc (Nat.le_refl _) _)))⟩
    have C23 : Hid _ := cell_one w22 (x8 ((kz a.f a.n) (0 + k)) 92)
    clear H22
    generalize hgw : (w22.alloc (.cells ([Z8 (x8 ((kz a.f a.n) (0 + k)) 92)] : List Value).toArray 5)) = w23 at H23 C23 ⊢
    clear hgw
    generalize w22.heap.size = γs23 at C23 ⊢
    obtain ⟨v24, w24, hr, hZ⟩ := H23.out.2.app2 (a := ⟨γs23, 0, none⟩) 1 1 (fun _ => x8 ((kz a.f a.n) (0 + k)) 92) C23.out (by omega) 22
    refine rest_set (d := 47) (v := v24) (w' := w24) rfl rfl rfl (ex_app rfl rfl rfl hr) ?_
    simp only [Act.put, sa, sz, ss]
    have hZ2 : Z2 w γb [(g5, ints .u8 (kz a.f a.n) 64), (γ1_0, ints .u8 (fun _ => 0) 32)] v21 (k + 1) (mk8 (kz a.f a.n) 54) v24 (k + 1) (mk8 (kz a.f a.n) 92) w24 := hZ.cg2 (ct_snoc (by show x8 ((kz a.f a.n) (0 + k)) _ = x8 ((kz a.f a.n) k) _; rw [Nat.zero_add]))
    have H24 : Hid (Mm w24 [(g5, ints .u8 (kz a.f a.n) 64), (γ1_0, ints .u8 (fun _ => 0) 32)] ∧ Z2 w γb [(g5, ints .u8 (kz a.f a.n) 64), (γ1_0, ints .u8 (fun _ => 0) 32)] v21 (k + 1) (mk8 (kz a.f a.n) 54) v24 (k + 1) (mk8 (kz a.f a.n) 92) w24) := ⟨hZ2.m, hZ2⟩
    clear hr hZ hZ2 H23
    refine rest_set (d := 8) (v := v24) (w' := w24) rfl rfl rfl rfl ?_
    simp only [Act.put, sa, sz, ss]
    refine rest_nil (block_normal (then_normal ?_))
    refine walk_seqA 2 [.quiet (.int .i64 ((k : Nat) : Int)), .quiet (.int .i64 ((k + 1 : Nat) : Int))] (sB H24) ?ho12 ?he12
    case ho12 => exact ak (fun _ => ⟨rfl, fun _ _ => rfl⟩) (ak (by refine fun γ => ⟨rfl, fun w' h => ?_⟩; clear h; go_simp; rw [IntKind.wrap_i64]; omega) trivial)
    intro γ w25 l hM hl
    have M25 : Mm w25 [(g5, ints .u8 (kz a.f a.n) 64), (γ1_0, ints .u8 (fun _ => 0) 32)] := H24.out.1.grow hM (Nat.le_refl _) hl [] rfl (by decide)
    have B25 : Z2 w γb [(g5, ints .u8 (kz a.f a.n) 64), (γ1_0, ints .u8 (fun _ => 0) 32)] v21 (k + 1) (mk8 (kz a.f a.n) 54) v24 (k + 1) (mk8 (kz a.f a.n) 92) w25 := Z2.step H24.out.2 (hM.below)
    clear hM hl l H24
    clear γ
    have H25 : Hid (_ ∧ _) := ⟨M25, B25⟩
    clear M25 B25
    refine rest_at (l := [2]) rfl ?_
    refine rest_set (d := 9) (v := .int .i64 ((k + 1 : Nat) : Int)) (w' := w25) rfl rfl rfl rfl ?_
    simp only [Act.put, sa, sz, ss]
    refine rest_nil (then_normal ?_)
    exact ⟨k + 1, ⟨(slotfn [undef, undef, undef, undef, undef, undef, undef, v21, v24, undef, undef, undef, undef, undef, undef, undef, undef, undef, undef, undef, undef, undef, undef, undef, undef, undef, undef, undef, .int .i64 ((k : Nat) : Int), .bool true, .int .i64 ((k : Nat) : Int), .int .i64 ((k + 1 : Nat) : Int), (s2 7), .slice (some ⟨g5, 0, none⟩) 64 cap5, .int .i64 ((k : Nat) : Int), PT g5 (0 + k), Z8 ((kz a.f a.n) (0 + k)), Z8 (x8 ((kz a.f a.n) (0 + k)) 54), .slice (some ⟨γs20, 0, none⟩) 1 1, v21, (s2 8), .slice (some ⟨g5, 0, none⟩) 64 cap5, .int .i64 ((k : Nat) : Int), PT g5 (0 + k), Z8 ((kz a.f a.n) (0 + k)), Z8 (x8 ((kz a.f a.n) (0 + k)) 92), .slice (some ⟨γs23, 0, none⟩) 1 1, v24]), rfl, ⟨H25.out.1, H25.out.2⟩, by omega⟩, by omega⟩
  have hk64 : k = 64 := by omega
  subst hk64
  refine wp_seq (wp_seq ?_)
  refine walk_seqA 2 [.quiet (.int .i64 ((64 : Nat) : Int)), .quiet (.bool false)] (sB H17) ?ho13 ?he13
  case ho13 => exact ak (fun _ => ⟨rfl, fun _ _ => rfl⟩) (ak (by refine fun γ => ⟨rfl, fun w' h => ?_⟩; clear h; go_simp <;> omega) trivial)
  intro γ w26 l hM hl
  have M26 : Mm w26 [(g5, ints .u8 (kz a.f a.n) 64), (γ1_0, ints .u8 (fun _ => 0) 32)] := H17.out.1.grow hM (Nat.le_refl _) hl [] rfl (by decide)
  have B26 : Z2 w γb [(g5, ints .u8 (kz a.f a.n) 64), (γ1_0, ints .u8 (fun _ => 0) 32)] (s2 7) 64 (mk8 (kz a.f a.n) 54) (s2 8) 64 (mk8 (kz a.f a.n) 92) w26 := Z2.step H17.out.2 (hM.below)
  clear hM hl l H17
  clear γ
  have H26 : Hid (_ ∧ _) := ⟨M26, B26⟩
  clear M26 B26
  refine rest0 rfl (then_normal (wp_cond_false rfl ?_))
  refine wp_exit ?_
  repeat refine then_exit ?_
  refine block_exit ?_
  refine then_normal (wp_seq ?_)
  refine walk_seqA 2 [.quiet ((s2 7)), .quiet (.slice b.p b.n b.cp)] (sB H26) ?ho14 ?he14
  case ho14 => exact ak (fun _ => ⟨rfl, fun _ _ => rfl⟩) (ak (fun _ => ⟨rfl, fun _ _ => rfl⟩) trivial)
  intro γ w27 l hM hl
  have M27 : Mm w27 [(g5, ints .u8 (kz a.f a.n) 64), (γ1_0, ints .u8 (fun _ => 0) 32)] := H26.out.1.grow hM (Nat.le_refl _) hl [] rfl (by decide)
  have B27 : Z2 w γb [(g5, ints .u8 (kz a.f a.n) 64), (γ1_0, ints .u8 (fun _ => 0) 32)] (s2 7) 64 (mk8 (kz a.f a.n) 54) (s2 8) 64 (mk8 (kz a.f a.n) 92) w27 := Z2.step H26.out.2 (hM.below)
  clear hM hl l H26
  clear γ
  have H27 : Hid (_ ∧ _) := ⟨M27, B27⟩
  clear M27 B27
  refine rest_at (l := [2, 3, 4, 5]) rfl ?_
  obtain ⟨v28, w28, hr, hZ⟩ := H27.out.2.appQ1 (q := b) hb hNb.out (RB.out.below H27.out.2.b) (by omega) 22
  refine rest_set (d := 50) (v := v28) (w' := w28) rfl rfl rfl (ex_app rfl rfl rfl hr) ?_
  simp only [Act.put, sa, sz, ss]
  have hZ2 : Z2 w γb [(g5, ints .u8 (kz a.f a.n) 64), (γ1_0, ints .u8 (fun _ => 0) 32)] v28 (64 + b.n) (ct (mk8 (kz a.f a.n) 54) 64 b.f) (s2 8) 64 (mk8 (kz a.f a.n) 92) w28 := hZ
  have H28 : Hid (Mm w28 [(g5, ints .u8 (kz a.f a.n) 64), (γ1_0, ints .u8 (fun _ => 0) 32)] ∧ Z2 w γb [(g5, ints .u8 (kz a.f a.n) 64), (γ1_0, ints .u8 (fun _ => 0) 32)] v28 (64 + b.n) (ct (mk8 (kz a.f a.n) 54) 64 b.f) (s2 8) 64 (mk8 (kz a.f a.n) 92) w28) := ⟨hZ2.m, hZ2⟩
  clear hr hZ hZ2 H27
  refine rest_enter (d := 51) (R := fun vv w' => vv = .agg (ints .u8 (ds (ct (mk8 (kz a.f a.n) 54) 64 b.f) (64 + b.n)) 32).toArray ∧ Below w28.heap.size w28 w') rfl rfl rfl (exec_call (args := #[v28]) rfl call15 rfl (mpn rfl)) (Calls.mono (dSum_any (ct (mk8 (kz a.f a.n) 54) 64 b.f) (64 + b.n) (by omega) _ w28 (own_doc H28.out.2.o1)) (fun e w2 hh => ⟨_, hh.1, rfl, hh.2⟩)) ?_
  rintro _ w29 ⟨rfl, hb⟩
  have H29 : Hid (_ ∧ _) := ⟨H28.out.1.below hb, Z2.step H28.out.2 (hb)⟩
  clear hb H28
  simp only [Act.put, sa, sz, ss]
  have H30 : Hid (Mm w29 [(g5, ints .u8 (kz a.f a.n) 64), (γ1_0, ints .u8 (fun _ => 0) 32)] ∧ Ow w [g5, γ1_0] (s2 8) 64 (mk8 (kz a.f a.n) 92) w29) := ⟨H29.out.1, H29.out.2.ow rfl⟩
  clear  H29
  refine rest_set (d := 10) (v := PT w29.heap.size 0) (w' := (w29.alloc (.cells (ints .u8 (fun _ => 0) 32 : List Value).toArray 25))) rfl rfl rfl (ex_made25 rfl) ?_
  simp only [Act.put, sa, sz, ss]
  have o_γs31 : Hid (w.heap.size ≤ w29.heap.size) := H30.out.2.size
  have H31 : Hid (Mm (w29.alloc (.cells (ints .u8 (fun _ => 0) 32 : List Value).toArray 25)) ((w29.heap.size, ints .u8 (fun _ => 0) 32) :: [(g5, ints .u8 (kz a.f a.n) 64), (γ1_0, ints .u8 (fun _ => 0) 32)]) ∧ Ow w [w29.heap.size, g5, γ1_0] (s2 8) 64 (mk8 (kz a.f a.n) 92) (w29.alloc (.cells (ints .u8 (fun _ => 0) 32 : List Value).toArray 25))) := ⟨H30.out.1.alloc _ 25 rfl, H30.out.2.alloc _⟩
  clear H30
  generalize hgw : (w29.alloc (.cells (ints .u8 (fun _ => 0) 32 : List Value).toArray 25)) = w31 at H31 ⊢
  clear hgw
  generalize w29.heap.size = γs31 at o_γs31 H31 ⊢
  refine rest_store rfl rfl rfl (ex_storeT (vs := ints .u8 (ds (ct (mk8 (kz a.f a.n) 54) 64 b.f) (64 + b.n)) 32) H31.out.1 0 rfl rfl rfl rfl (by rw [ints_len]; exact Tryd.sizeOf25) (ints_all _ _ _) (by simp [ints_len])) ?_
  have H32 : Hid (Mm (w31.setCells γs31 0 (ints .u8 (ds (ct (mk8 (kz a.f a.n) 54) 64 b.f) (64 + b.n)) 32)) [(γs31, ints .u8 (ds (ct (mk8 (kz a.f a.n) 54) 64 b.f) (64 + b.n)) 32), (g5, ints .u8 (kz a.f a.n) 64), (γ1_0, ints .u8 (fun _ => 0) 32)] ∧ Ow w [γs31, g5, γ1_0] (s2 8) 64 (mk8 (kz a.f a.n) 92) (w31.setCells γs31 0 (ints .u8 (ds (ct (mk8 (kz a.f a.n) 54) 64 b.f) (64 + b.n)) 32))) := ⟨by
    have h := H31.out.1.put 0 (off := 0) (vs := ints .u8 (ds (ct (mk8 (kz a.f a.n) 54) 64 b.f) (64 + b.n)) 32) rfl (by simp [ints_len])
    rw [ints_patch0 _ _ _ _] at h
    exact h, H31.out.2.put (by simp) o_γs31.out⟩
  clear H31
  generalize hgw : World.setCells _ _ _ _ = w32 at H32 ⊢
  clear hgw
  refine rest_nil (then_normal (wp_seq ?_))
  refine walk_seqA 2 [.quiet ((s2 8)), .quiet (.slice (some ⟨γs31, 0, none⟩) 32 32)] (sB H32) ?ho15 ?he15
  case ho15 => exact ak (fun _ => ⟨rfl, fun _ _ => rfl⟩) (ak (fun γ => ⟨rfl, fun w' _ => ex_sl25 rfl rfl⟩) trivial)
  intro γ w33 l hM hl
  have M33 : Mm w33 [(γs31, ints .u8 (ds (ct (mk8 (kz a.f a.n) 54) 64 b.f) (64 + b.n)) 32), (g5, ints .u8 (kz a.f a.n) 64), (γ1_0, ints .u8 (fun _ => 0) 32)] := H32.out.1.grow hM (Nat.le_refl _) hl [] rfl (by decide)
  have B33 : Ow w [γs31, g5, γ1_0] (s2 8) 64 (mk8 (kz a.f a.n) 92) w33 := Ow.step H32.out.2 (hM.below)
  clear hM hl l H32
  clear γ
  have H33 : Hid (_ ∧ _) := ⟨M33, B33⟩
  clear M33 B33
  refine rest_at (l := [2, 3, 4]) rfl ?_
  obtain ⟨v34, w34, hr, hZ, hM⟩ := H33.out.2.app H33.out.1 rfl (a := ⟨γs31, 0, none⟩) 32 32 (ds (ct (mk8 (kz a.f a.n) 54) 64 b.f) (64 + b.n)) (H33.out.1.rs 0 rfl (Nat.le_refl _)).add (by omega) 22
  refine rest_set (d := 54) (v := v34) (w' := w34) rfl rfl rfl (ex_app rfl rfl rfl hr) ?_
  simp only [Act.put, sa, sz, ss]
  have hZ2 : Ow w [γs31, g5, γ1_0] v34 (64 + 32) (ct (mk8 (kz a.f a.n) 92) 64 (ds (ct (mk8 (kz a.f a.n) 54) 64 b.f) (64 + b.n))) w34 := hZ
  have H34 : Hid (Mm w34 [(γs31, ints .u8 (ds (ct (mk8 (kz a.f a.n) 54) 64 b.f) (64 + b.n)) 32), (g5, ints .u8 (kz a.f a.n) 64), (γ1_0, ints .u8 (fun _ => 0) 32)] ∧ Ow w [γs31, g5, γ1_0] v34 (64 + 32) (ct (mk8 (kz a.f a.n) 92) 64 (ds (ct (mk8 (kz a.f a.n) 54) 64 b.f) (64 + b.n))) w34) := ⟨hM, hZ2⟩
  clear hr hZ hZ2 hM H33
  refine rest_enter (d := 55) (R := fun vv w' => vv = .agg (ints .u8 (ds (ct (mk8 (kz a.f a.n) 92) 64 (ds (ct (mk8 (kz a.f a.n) 54) 64 b.f) (64 + b.n))) (64 + 32)) 32).toArray ∧ Below w34.heap.size w34 w') rfl rfl rfl (exec_call (args := #[v34]) rfl call15 rfl (mpn rfl)) (Calls.mono (dSum_any (ct (mk8 (kz a.f a.n) 92) 64 (ds (ct (mk8 (kz a.f a.n) 54) 64 b.f) (64 + b.n))) (64 + 32) (by omega) _ w34 (own_doc H34.out.2.own)) (fun e w2 hh => ⟨_, hh.1, rfl, hh.2⟩)) ?_
  rintro _ w35 ⟨rfl, hb⟩
  have H35 : Hid (_ ∧ _) := ⟨H34.out.1.below hb, Ow.step H34.out.2 (hb)⟩
  clear hb H34
  simp only [Act.put, sa, sz, ss]
  refine rest_store rfl rfl rfl (ex_storeT (vs := ints .u8 (ds (ct (mk8 (kz a.f a.n) 92) 64 (ds (ct (mk8 (kz a.f a.n) 54) 64 b.f) (64 + b.n))) (64 + 32)) 32) H35.out.1 2 rfl rfl rfl rfl (by rw [ints_len]; exact Tryd.sizeOf25) (ints_all _ _ _) (by simp [ints_len])) ?_
  have H36 : Hid (Mm (w35.setCells γ1_0 0 (ints .u8 (ds (ct (mk8 (kz a.f a.n) 92) 64 (ds (ct (mk8 (kz a.f a.n) 54) 64 b.f) (64 + b.n))) (64 + 32)) 32)) [(γs31, ints .u8 (ds (ct (mk8 (kz a.f a.n) 54) 64 b.f) (64 + b.n)) 32), (g5, ints .u8 (kz a.f a.n) 64), (γ1_0, ints .u8 (ds (ct (mk8 (kz a.f a.n) 92) 64 (ds (ct (mk8 (kz a.f a.n) 54) 64 b.f) (64 + b.n))) (64 + 32)) 32)] ∧ Ow w [γs31, g5, γ1_0] v34 (64 + 32) (ct (mk8 (kz a.f a.n) 92) 64 (ds (ct (mk8 (kz a.f a.n) 54) 64 b.f) (64 + b.n))) (w35.setCells γ1_0 0 (ints .u8 (ds (ct (mk8 (kz a.f a.n) 92) 64 (ds (ct (mk8 (kz a.f a.n) 54) 64 b.f) (64 + b.n))) (64 + 32)) 32))) := ⟨by
    have h := H35.out.1.put 2 (off := 0) (vs := ints .u8 (ds (ct (mk8 (kz a.f a.n) 92) 64 (ds (ct (mk8 (kz a.f a.n) 54) 64 b.f) (64 + b.n))) (64 + 32)) 32) rfl (by simp [ints_len])
    rw [ints_patch0 _ _ _ _] at h
    exact h, H35.out.2.put (by simp) o1_0.out⟩
  clear H35
  generalize hgw : World.setCells _ _ _ _ = w36 at H36 ⊢
  clear hgw
  refine rest_nil (then_normal (wp_ret ?_))
  repeat (first | refine then_ret ?_ | refine block_ret ?_)
  have hf0 := var_T H36.out.1 2 rfl Tryd.isAgg25 Tryd.sizeOf25 (ints_len _ _ _)
  refine bodyPost_ret (v := .agg (ints .u8 (ds (ct (mk8 (kz a.f a.n) 92) 64 (ds (ct (mk8 (kz a.f a.n) 54) 64 b.f) (64 + b.n))) (64 + 32)) 32).toArray) (by simp [results, Tryd.results33, asAddr, hf0]) rfl ?_
  exact ⟨rfl, H36.out.2.b⟩
set_option maxHeartbeats 8000000 in
set_option maxRecDepth 100000 in
theorem dCode_long (a b : Pt8) (ha : Pok a) (hb : Pok b) (hNa0 : a.p = none → a.cp = 0) (hNb0 : b.p = none → b.cp = 0) (hna : a.n ≤ 1048576) (hnb : b.n ≤ 1000000) (h64 : 64 < a.n) (w : World) (hRa : a.rs w) (hRb : b.rs w) :
    Calls Tryd.prog 33 #[.slice a.p a.n a.cp, .slice b.p b.n b.cp] w fun e w' => e = .returned (.agg (ints .u8 (dh (kz (ds a.f a.n) 32) b.f b.n) 32).toArray) ∧ Below w.heap.size w w' := by
  have H0 : Hid (_ ∧ _) := ⟨Mm.nil w, Below.refl w.heap.size w⟩
  have RA : Hid (a.rs w) := hRa
  have RB : Hid (b.rs w) := hRb
  have hNa : Hid _ := hNa0
  have hNb : Hid _ := hNb0
  obtain ⟨NN, hNN⟩ : ∃ NN, NN = 64 - 32 := ⟨_, rfl⟩
  clear hRa hRb hNa0 hNb0
  go_enter Tryd.func33, Tryd.ntmps33
  refine wp_seq ?_
  refine walk_seqA 1 [.made (ints .u8 (fun _ => 0) 32) 25] (sB H0) ?ho1 ?he1
  case ho1 => exact ak (fun γ => ⟨rfl, fun w' => ex_mk25 rfl⟩) trivial
  intro γ w1 l hM hl
  have H1 : Hid (Mm w1 [(γ 0, ints .u8 (fun _ => 0) 32)] ∧ _) := growB H0 hM (Nat.le_refl _) hl [0] rfl (by decide)
  have o1_0 := ownB H0 hM (Nat.le_refl _) hl (i := 0) rfl
  clear hM hl l
  generalize γ 0 = γ1_0 at H1 o1_0 ⊢
  clear γ
  refine rest0 rfl (then_normal (wp_seq ?_))
  refine walk_seqB 0 [] H1 ?ho2 ?he2
  case ho2 => exact trivial
  intro _ w2 H2
  clear H1
  refine rest_at (l := [0, 1, 2, 3]) rfl ?_
  refine rest_set (d := 11) (v := .slice (some ⟨w2.heap.size, 0, none⟩) 0 0) (w' := (w2.alloc (.cells #[] 5))) rfl rfl rfl (ex_bs0 rfl) ?_
  simp only [Act.put, sa, sz, ss]
  have hz := Zo.made (fun _ => 0) H2.out.1 H2.out.2
  have H3 : Hid (Mm (w2.alloc (.cells #[] 5)) [(γ1_0, ints .u8 (fun _ => 0) 32)] ∧ Zo w w2.heap.size [(γ1_0, ints .u8 (fun _ => 0) 32)] (.slice (some ⟨w2.heap.size, 0, none⟩) 0 0) 0 (fun _ => 0) (w2.alloc (.cells #[] 5))) := ⟨hz.m, hz⟩
  clear hz H2
  generalize hgw : (w2.alloc (.cells #[] 5)) = w3 at H3 ⊢
  clear hgw
  generalize w2.heap.size = γb3 at H3 ⊢
  refine rest_set (d := 12) (v := .slice a.p a.n a.cp) (w' := w3) rfl rfl rfl rfl ?_
  simp only [Act.put, sa, sz, ss]
  obtain ⟨v4, w4, hr, hZ⟩ := H3.out.2.appQ (q := a) ha.bv hNa.out (RA.out.below H3.out.2.b) (by omega) 22
  refine rest_set (d := 13) (v := v4) (w' := w4) rfl rfl rfl (ex_app rfl rfl rfl hr) ?_
  simp only [Act.put, sa, sz, ss]
  have hZ2 : Zo w γb3 [(γ1_0, ints .u8 (fun _ => 0) 32)] v4 a.n a.f w4 := by rw [Nat.zero_add] at hZ; exact hZ.cg (fun j _ => by rw [ct_zero])
  have H4 : Hid (Mm w4 [(γ1_0, ints .u8 (fun _ => 0) 32)] ∧ Zo w γb3 [(γ1_0, ints .u8 (fun _ => 0) 32)] v4 a.n a.f w4) := ⟨hZ2.m, hZ2⟩
  clear hr hZ hZ2 H3
  refine rest_set (d := 5) (v := v4) (w' := w4) rfl rfl rfl rfl ?_
  simp only [Act.put, sa, sz, ss]
  refine rest_nil ?_
  obtain ⟨p1, c1, e1⟩ := H4.out.2.form0
  rw [e1] at H4 ⊢
  clear e1
  refine then_normal (wp_seq (wp_seq ?_))
  refine walk_seqA 3 [.quiet (.slice p1 a.n c1), .quiet (.int .i64 ((a.n : Nat) : Int)), .quiet (.bool true)] (sB H4) ?ho3 ?he3
  case ho3 => exact ak (fun _ => ⟨rfl, fun _ _ => rfl⟩) (ak (by refine fun γ => ⟨rfl, fun w' h => ?_⟩; clear h; go_simp) (ak (by refine fun γ => ⟨rfl, fun w' h => ?_⟩; clear h; go_simp <;> omega) trivial))
  intro γ w5 l hM hl
  have M5 : Mm w5 [(γ1_0, ints .u8 (fun _ => 0) 32)] := H4.out.1.grow hM (Nat.le_refl _) hl [] rfl (by decide)
  have B5 : Zo w γb3 [(γ1_0, ints .u8 (fun _ => 0) 32)] (.slice p1 a.n c1) a.n a.f w5 := Zo.step H4.out.2 (hM.below)
  clear hM hl l H4
  clear γ
  have H5 : Hid (_ ∧ _) := ⟨M5, B5⟩
  clear M5 B5
  refine rest0 rfl (then_normal (wp_cond_true rfl (wp_seq ?_)))
  have HD : Hid (Dv (.slice p1 a.n c1) a.n a.f w5) := own_doc H5.out.2.own
  refine (walk_seq) 4 [.quiet (.slice p1 a.n c1), .call (.agg (ints .u8 (ds a.f a.n) 32).toArray), .made (ints .u8 (fun _ => 0) 32) 25, .laid 2 (ints .u8 (fun _ => 0) 32) (ints .u8 (ds a.f a.n) 32)] (fun u' => Mm u' [(γ1_0, ints .u8 (fun _ => 0) 32)] ∧ (Dv (.slice p1 a.n c1) a.n a.f u')) ?pre4 ?F4 ?hpre4 (fun γ => ?hF4) (by kernel_rfl) ?hL4 ?hS4 ?ho4 ?he4
  case hpre4 => simp only [tk, tz]; rfl
  case hF4 => simp only [fill, Kind.val, Act.put, sa, sz, ss]; rfl
  case hL4 => exact ⟨⟨_, rfl⟩, trivial⟩
  case hS4 => exact fun w' hb => ⟨H5.out.1.below hb, HD.out.below hb⟩
  case ho4 =>
    refine ak (fun _ => ⟨rfl, fun _ _ => rfl⟩) ?_
    refine ak (fun γ => ⟨rfl, fun w' hX => ⟨15, #[.slice p1 a.n c1], exec_call rfl call15 rfl (mpn rfl), dSum_any a.f a.n (by omega) _ w' hX.2⟩⟩) ?_
    refine ak (fun γ => ⟨rfl, fun w' => ex_mk25 rfl⟩) ?_
    refine ak (fun γ => ⟨rfl, rfl, (ints_len _ _ _).trans (ints_len _ _ _).symm, fun w' h => ex_laidI h Tryd.sizeOf25 rfl rfl rfl⟩) ?_
    exact trivial
  intro γ w6 l hM hl
  have M6 : Mm w6 [(γ 2, ints .u8 (ds a.f a.n) 32), (γ1_0, ints .u8 (fun _ => 0) 32)] := H5.out.1.grow hM (Nat.le_refl _) hl [2] rfl (by decide)
  have B6 : Zo w γb3 [(γ1_0, ints .u8 (fun _ => 0) 32)] (.slice p1 a.n c1) a.n a.f w6 := Zo.step H5.out.2 (hM.below)
  have o4_2 : Hid (w.heap.size ≤ γ 2) := Nat.le_trans H5.out.2.size (hM.fin (Nat.le_refl _) hl (i := 2) rfl).2.1
  clear hM hl l H5
  generalize γ 2 = γ4_2 at M6 o4_2 ⊢
  clear γ
  have H6 : Hid (_ ∧ _) := ⟨M6, B6⟩
  clear M6 B6
  refine rest0 rfl ?_
  have H7 : Hid (Mm w6 [(γ4_2, ints .u8 (ds a.f a.n) 32), (γ1_0, ints .u8 (fun _ => 0) 32)] ∧ Below w.heap.size w w6) := ⟨H6.out.1, H6.out.2.b⟩
  clear  H6
  refine then_normal ?_
  refine walk_seqB 0 [] H7 ?ho5 ?he5
  case ho5 => exact trivial
  intro _ w8 H8
  clear H7
  refine rest_at (l := [0, 1, 2, 3]) rfl ?_
  refine rest_set (d := 19) (v := .slice (some ⟨w8.heap.size, 0, none⟩) 0 0) (w' := (w8.alloc (.cells #[] 5))) rfl rfl rfl (ex_bs0 rfl) ?_
  simp only [Act.put, sa, sz, ss]
  have hz := Zo.made (fun _ => 0) H8.out.1 H8.out.2
  have H9 : Hid (Mm (w8.alloc (.cells #[] 5)) [(γ4_2, ints .u8 (ds a.f a.n) 32), (γ1_0, ints .u8 (fun _ => 0) 32)] ∧ Zo w w8.heap.size [(γ4_2, ints .u8 (ds a.f a.n) 32), (γ1_0, ints .u8 (fun _ => 0) 32)] (.slice (some ⟨w8.heap.size, 0, none⟩) 0 0) 0 (fun _ => 0) (w8.alloc (.cells #[] 5))) := ⟨hz.m, hz⟩
  clear hz H8
  generalize hgw : (w8.alloc (.cells #[] 5)) = w9 at H9 ⊢
  clear hgw
  generalize w8.heap.size = γb9 at H9 ⊢
  refine rest_set (d := 20) (v := .slice (some ⟨γ4_2, 0, none⟩) 32 32) (w' := w9) rfl rfl rfl (ex_sl25 rfl rfl) ?_
  simp only [Act.put, sa, sz, ss]
  obtain ⟨v10, w10, hr, hZ⟩ := H9.out.2.app (a := ⟨γ4_2, 0, none⟩) 32 32 (ds a.f a.n) (H9.out.1.rs 0 rfl (Nat.le_refl _)).add (by omega) 22
  refine rest_set (d := 21) (v := v10) (w' := w10) rfl rfl rfl (ex_app rfl rfl rfl hr) ?_
  simp only [Act.put, sa, sz, ss]
  have hZ2 : Zo w γb9 [(γ4_2, ints .u8 (ds a.f a.n) 32), (γ1_0, ints .u8 (fun _ => 0) 32)] v10 32 (ds a.f a.n) w10 := by rw [Nat.zero_add] at hZ; exact hZ.cg (fun j _ => by rw [ct_zero])
  have H10 : Hid (Mm w10 [(γ4_2, ints .u8 (ds a.f a.n) 32), (γ1_0, ints .u8 (fun _ => 0) 32)] ∧ Zo w γb9 [(γ4_2, ints .u8 (ds a.f a.n) 32), (γ1_0, ints .u8 (fun _ => 0) 32)] v10 32 (ds a.f a.n) w10) := ⟨hZ2.m, hZ2⟩
  clear hr hZ hZ2 H9
  refine rest_set (d := 5) (v := v10) (w' := w10) rfl rfl rfl rfl ?_
  simp only [Act.put, sa, sz, ss]
  refine rest_nil ?_
  obtain ⟨p4, c4, e4⟩ := H10.out.2.form0
  rw [e4] at H10 ⊢
  clear e4
  refine then_normal (wp_seq ?_)
  have hz0 := H10.out.2.cg (kz_lt (ds a.f a.n) 32)
  have H11 : Hid (Mm w10 [(γ4_2, ints .u8 (ds a.f a.n) 32), (γ1_0, ints .u8 (fun _ => 0) 32)] ∧ Zo w γb9 [(γ4_2, ints .u8 (ds a.f a.n) 32), (γ1_0, ints .u8 (fun _ => 0) 32)] (.slice p4 32 c4) 32 (kz (ds a.f a.n) 32) w10) := ⟨hz0.m, hz0⟩
  clear hz0 H10
  refine wp_block ?_
  refine loop_ghost (α := Nat) (fun k a' w' => ∃ s0 : Nat → Value, a' = ⟨#[.slice a.p a.n a.cp, .slice b.p b.n b.cp, undef, undef, PT γ1_0 0, s0 5, PT γ4_2 0, undef, undef, undef, undef, .slice (some ⟨γb3, 0, none⟩) 0 0, .slice a.p a.n a.cp, .slice p1 a.n c1, .slice p1 a.n c1, .int .i64 ((a.n : Nat) : Int), .bool true, .slice p1 a.n c1, .agg (ints .u8 (ds a.f a.n) 32).toArray, .slice (some ⟨γb9, 0, none⟩) 0 0, .slice (some ⟨γ4_2, 0, none⟩) 32 32, .slice p4 32 c4, s0 22, s0 23, s0 24, s0 25, s0 26, s0 27, undef, undef, undef, undef, undef, undef, undef, undef, undef, undef, undef, undef, undef, undef, undef, undef, undef, undef, undef, undef, undef, undef, undef, undef, undef, undef, undef, undef], []⟩ ∧ (Mm w' [(γ4_2, ints .u8 (ds a.f a.n) 32), (γ1_0, ints .u8 (fun _ => 0) 32)] ∧ Zo w γb9 [(γ4_2, ints .u8 (ds a.f a.n) 32), (γ1_0, ints .u8 (fun _ => 0) 32)] (s0 5) (32 + k) (kz (ds a.f a.n) 32) w') ∧ k ≤ NN) (fun k => NN - k) 0 ?st0 ?rd0
  case st0 => exact ⟨(slotfn [undef, undef, undef, undef, undef, .slice p4 32 c4, undef, undef, undef, undef, undef, undef, undef, undef, undef, undef, undef, undef, undef, undef, undef, undef, undef, undef, undef, undef, undef, undef]), rfl, ⟨H11.out.1, H11.out.2⟩, by omega⟩
  intro k a' w12 hI
  obtain ⟨s0, rfl, hMB, hk0⟩ := hI
  have H12 : Hid (_ ∧ _) := hMB
  clear hMB H11
  by_cases hlt : k < NN
  · have hrd : True := trivial
    clear hrd
    obtain ⟨p7, c7, e7⟩ := H12.out.2.form0
    rw [e7] at H12 ⊢
    clear e7
    refine wp_seq (wp_seq ?_)
    refine walk_seqA 3 [.quiet (.slice p7 (32 + k) c7), .quiet (.int .i64 ((32 + k : Nat) : Int)), .quiet (.bool true)] (sB H12) ?ho6 ?he6
    case ho6 => exact ak (fun _ => ⟨rfl, fun _ _ => rfl⟩) (ak (by refine fun γ => ⟨rfl, fun w' h => ?_⟩; clear h; go_simp) (ak (by refine fun γ => ⟨rfl, fun w' h => ?_⟩; clear h; go_simp <;> omega) trivial))
    intro γ w13 l hM hl
    have M13 : Mm w13 [(γ4_2, ints .u8 (ds a.f a.n) 32), (γ1_0, ints .u8 (fun _ => 0) 32)] := H12.out.1.grow hM (Nat.le_refl _) hl [] rfl (by decide)
    have B13 : Zo w γb9 [(γ4_2, ints .u8 (ds a.f a.n) 32), (γ1_0, ints .u8 (fun _ => 0) 32)] (.slice p7 (32 + k) c7) (32 + k) (kz (ds a.f a.n) 32) w13 := Zo.step H12.out.2 (hM.below)
    clear hM hl l H12
    clear γ
    have H13 : Hid (_ ∧ _) := ⟨M13, B13⟩
    clear M13 B13
    refine rest0 rfl (then_normal (wp_cond_true rfl ?_))
    refine wp_skip (then_normal (wp_block ?_))
    refine walk_seqA 1 [.quiet (.slice p7 (32 + k) c7)] (sB H13) ?ho7 ?he7
    case ho7 => exact ak (fun _ => ⟨rfl, fun _ _ => rfl⟩) trivial
    intro γ w14 l hM hl
    have M14 : Mm w14 [(γ4_2, ints .u8 (ds a.f a.n) 32), (γ1_0, ints .u8 (fun _ => 0) 32)] := H13.out.1.grow hM (Nat.le_refl _) hl [] rfl (by decide)
    have B14 : Zo w γb9 [(γ4_2, ints .u8 (ds a.f a.n) 32), (γ1_0, ints .u8 (fun _ => 0) 32)] (.slice p7 (32 + k) c7) (32 + k) (kz (ds a.f a.n) 32) w14 := Zo.step H13.out.2 (hM.below)
    clear hM hl l H13
    clear γ
    have H14 : Hid (_ ∧ _) := ⟨M14, B14⟩
    clear M14 B14
    refine rest_at (l := [1, 2, 3]) rfl ?_
    refine rest_set (d := 26) (v := .slice (some ⟨w14.heap.size, 0, none⟩) 1 1) (w' := (w14.alloc (.cells ([Z8 0] : List Value).toArray 5))) rfl rfl rfl (ex_bs1 (a := 0) rfl rfl) ?_
    simp only [Act.put, sa, sz, ss]
    have H15 : Hid (Mm (w14.alloc (.cells ([Z8 0] : List Value).toArray 5)) [(γ4_2, ints .u8 (ds a.f a.n) 32), (γ1_0, ints .u8 (fun _ => 0) 32)] ∧ Zo w γb9 [(γ4_2, ints .u8 (ds a.f a.n) 32), (γ1_0, ints .u8 (fun _ => 0) 32)] (.slice p7 (32 + k) c7) (32 + k) (kz (ds a.f a.n) 32) (w14.alloc (.cells ([Z8 0] : List Value).toArray 5))) := ⟨(Zo.step H14.out.2 (((Below.refl _ _).alloc (Nat.le_refl _) _))).m, (Zo.step H14.out.2 (((Below.refl _ _).alloc (Nat.le_refl _) _)))⟩
    have C15 : Hid _ := cell_one w14 0
    clear H14
    generalize hgw : (w14.alloc (.cells ([Z8 0] : List Value).toArray 5)) = w15 at H15 C15 ⊢
    clear hgw
    generalize w14.heap.size = γs15 at C15 ⊢
    obtain ⟨v16, w16, hr, hZ⟩ := H15.out.2.app (a := ⟨γs15, 0, none⟩) 1 1 (fun _ => 0) C15.out (by omega) 22
    refine rest_set (d := 27) (v := v16) (w' := w16) rfl rfl rfl (ex_app rfl rfl rfl hr) ?_
    simp only [Act.put, sa, sz, ss]
    have hZ2 : Zo w γb9 [(γ4_2, ints .u8 (ds a.f a.n) 32), (γ1_0, ints .u8 (fun _ => 0) 32)] v16 (32 + (k + 1)) (kz (ds a.f a.n) 32) w16 := hZ.cg (ct_snoc (kz_ge (ds a.f a.n) 32 k))
    have H16 : Hid (Mm w16 [(γ4_2, ints .u8 (ds a.f a.n) 32), (γ1_0, ints .u8 (fun _ => 0) 32)] ∧ Zo w γb9 [(γ4_2, ints .u8 (ds a.f a.n) 32), (γ1_0, ints .u8 (fun _ => 0) 32)] v16 (32 + (k + 1)) (kz (ds a.f a.n) 32) w16) := ⟨hZ2.m, hZ2⟩
    clear hr hZ hZ2 H15
    refine rest_set (d := 5) (v := v16) (w' := w16) rfl rfl rfl rfl ?_
    simp only [Act.put, sa, sz, ss]
    refine rest_nil (block_normal (then_normal ?_))
    exact ⟨k + 1, ⟨(slotfn [undef, undef, undef, undef, undef, v16, undef, undef, undef, undef, undef, undef, undef, undef, undef, undef, undef, undef, undef, undef, undef, undef, .slice p7 (32 + k) c7, .int .i64 ((32 + k : Nat) : Int), .bool true, .slice p7 (32 + k) c7, .slice (some ⟨γs15, 0, none⟩) 1 1, v16]), rfl, ⟨H16.out.1, H16.out.2⟩, by omega⟩, by omega⟩
  have hkN : NN = k := by omega
  subst hkN
  have hn64 : 32 + NN = 64 := by omega
  rw [hn64] at H12
  obtain ⟨p8, c8, e8⟩ := H12.out.2.form0
  rw [e8] at H12 ⊢
  clear e8
  refine wp_seq (wp_seq ?_)
  refine walk_seqA 3 [.quiet (.slice p8 64 c8), .quiet (.int .i64 64), .quiet (.bool false)] (sB H12) ?ho8 ?he8
  case ho8 => exact ak (fun _ => ⟨rfl, fun _ _ => rfl⟩) (ak (by refine fun γ => ⟨rfl, fun w' h => ?_⟩; clear h; go_simp) (ak (by refine fun γ => ⟨rfl, fun w' h => ?_⟩; clear h; go_simp <;> omega) trivial))
  intro γ w17 l hM hl
  have M17 : Mm w17 [(γ4_2, ints .u8 (ds a.f a.n) 32), (γ1_0, ints .u8 (fun _ => 0) 32)] := H12.out.1.grow hM (Nat.le_refl _) hl [] rfl (by decide)
  have B17 : Zo w γb9 [(γ4_2, ints .u8 (ds a.f a.n) 32), (γ1_0, ints .u8 (fun _ => 0) 32)] (.slice p8 64 c8) 64 (kz (ds a.f a.n) 32) w17 := Zo.step H12.out.2 (hM.below)
  clear hM hl l H12
  clear γ
  have H17 : Hid (_ ∧ _) := ⟨M17, B17⟩
  clear M17 B17
  refine rest0 rfl (then_normal (wp_cond_false rfl ?_))
  refine wp_exit ?_
  repeat refine then_exit ?_
  refine block_exit ?_
  obtain ⟨g5, cap5, e5⟩ := H17.out.2.form (by decide)
  rw [e5] at H17 ⊢
  clear e5
  have o_g5 : Hid (w.heap.size ≤ g5) := Nat.le_trans H17.out.2.lo H17.out.2.blk.1
  have H18 : Hid (Mm w17 [(g5, ints .u8 (kz (ds a.f a.n) 32) 64), (γ4_2, ints .u8 (ds a.f a.n) 32), (γ1_0, ints .u8 (fun _ => 0) 32)] ∧ Below w.heap.size w w17) := ⟨H17.out.2.mm, H17.out.2.b⟩
  clear  H17
  refine then_normal (wp_seq ?_)
  refine walk_seqB 2 [.quiet (.slice none 0 0), .quiet (.slice none 0 0)] H18 ?ho9 ?he9
  case ho9 => exact ak (fun _ => ⟨rfl, fun _ _ => rfl⟩) (ak (fun _ => ⟨rfl, fun _ _ => rfl⟩) trivial)
  intro _ w19 H19
  clear H18
  refine rest0 rfl ?_
  have H20 : Hid (Mm w19 [(g5, ints .u8 (kz (ds a.f a.n) 32) 64), (γ4_2, ints .u8 (ds a.f a.n) 32), (γ1_0, ints .u8 (fun _ => 0) 32)] ∧ Z2 w w19.heap.size [(g5, ints .u8 (kz (ds a.f a.n) 32) 64), (γ4_2, ints .u8 (ds a.f a.n) 32), (γ1_0, ints .u8 (fun _ => 0) 32)] (.slice none 0 0) 0 (mk8 (kz (ds a.f a.n) 32) 54) (.slice none 0 0) 0 (mk8 (kz (ds a.f a.n) 32) 92) w19) := ⟨H19.out.1, Z2.nil H19.out.1 H19.out.2 _ _⟩
  clear  H19
  generalize w19.heap.size = γb at H20
  refine then_normal (wp_seq (wp_seq ?_))
  refine walk_seqA 1 [.quiet (.int .i64 0)] (sB H20) ?ho10 ?he10
  case ho10 => exact ak (fun _ => ⟨rfl, fun _ _ => rfl⟩) trivial
  intro γ w21 l hM hl
  have M21 : Mm w21 [(g5, ints .u8 (kz (ds a.f a.n) 32) 64), (γ4_2, ints .u8 (ds a.f a.n) 32), (γ1_0, ints .u8 (fun _ => 0) 32)] := H20.out.1.grow hM (Nat.le_refl _) hl [] rfl (by decide)
  have B21 : Z2 w γb [(g5, ints .u8 (kz (ds a.f a.n) 32) 64), (γ4_2, ints .u8 (ds a.f a.n) 32), (γ1_0, ints .u8 (fun _ => 0) 32)] (.slice none 0 0) 0 (mk8 (kz (ds a.f a.n) 32) 54) (.slice none 0 0) 0 (mk8 (kz (ds a.f a.n) 32) 92) w21 := Z2.step H20.out.2 (hM.below)
  clear hM hl l H20
  clear γ
  have H21 : Hid (_ ∧ _) := ⟨M21, B21⟩
  clear M21 B21
  refine rest0 rfl (then_normal (wp_block ?_))
  refine loop_ghost (α := Nat) (fun k a' w' => ∃ s2 : Nat → Value, a' = ⟨#[.slice a.p a.n a.cp, .slice b.p b.n b.cp, undef, undef, PT γ1_0 0, .slice (some ⟨g5, 0, none⟩) 64 cap5, PT γ4_2 0, s2 7, s2 8, .int .i64 ((k : Nat) : Int), undef, .slice (some ⟨γb3, 0, none⟩) 0 0, .slice a.p a.n a.cp, .slice p1 a.n c1, .slice p1 a.n c1, .int .i64 ((a.n : Nat) : Int), .bool true, .slice p1 a.n c1, .agg (ints .u8 (ds a.f a.n) 32).toArray, .slice (some ⟨γb9, 0, none⟩) 0 0, .slice (some ⟨γ4_2, 0, none⟩) 32 32, .slice p4 32 c4, .slice (some ⟨g5, 0, none⟩) 64 cap5, .int .i64 64, .bool false, s0 25, s0 26, s0 27, s2 28, s2 29, s2 30, s2 31, s2 32, s2 33, s2 34, s2 35, s2 36, s2 37, s2 38, s2 39, s2 40, s2 41, s2 42, s2 43, s2 44, s2 45, s2 46, s2 47, undef, undef, undef, undef, undef, undef, undef, undef], []⟩ ∧ (Mm w' [(g5, ints .u8 (kz (ds a.f a.n) 32) 64), (γ4_2, ints .u8 (ds a.f a.n) 32), (γ1_0, ints .u8 (fun _ => 0) 32)] ∧ Z2 w γb [(g5, ints .u8 (kz (ds a.f a.n) 32) 64), (γ4_2, ints .u8 (ds a.f a.n) 32), (γ1_0, ints .u8 (fun _ => 0) 32)] (s2 7) k (mk8 (kz (ds a.f a.n) 32) 54) (s2 8) k (mk8 (kz (ds a.f a.n) 32) 92) w') ∧ k ≤ 64) (fun k => 64 - k) 0 ?st2 ?rd2
  case st2 => exact ⟨(slotfn [undef, undef, undef, undef, undef, undef, undef, .slice none 0 0, .slice none 0 0, undef, undef, undef, undef, undef, undef, undef, undef, undef, undef, undef, undef, undef, undef, undef, undef, undef, undef, undef, undef, undef, undef, undef, undef, undef, undef, undef, undef, undef, undef, undef, undef, undef, undef, undef, undef, undef, undef, undef]), rfl, ⟨H21.out.1, H21.out.2⟩, by omega⟩
  intro k a' w22 hI
  obtain ⟨s2, rfl, hMB, hk2⟩ := hI
  have H22 : Hid (_ ∧ _) := hMB
  clear hMB H21
  by_cases hlt : k < 64
  · have hrd : True := trivial
    clear hrd
    refine wp_seq (wp_seq ?_)
    refine walk_seqA 2 [.quiet (.int .i64 ((k : Nat) : Int)), .quiet (.bool true)] (sB H22) ?ho11 ?he11
    case ho11 => exact ak (fun _ => ⟨rfl, fun _ _ => rfl⟩) (ak (by refine fun γ => ⟨rfl, fun w' h => ?_⟩; clear h; go_simp <;> omega) trivial)
    intro γ w23 l hM hl
    have M23 : Mm w23 [(g5, ints .u8 (kz (ds a.f a.n) 32) 64), (γ4_2, ints .u8 (ds a.f a.n) 32), (γ1_0, ints .u8 (fun _ => 0) 32)] := H22.out.1.grow hM (Nat.le_refl _) hl [] rfl (by decide)
    have B23 : Z2 w γb [(g5, ints .u8 (kz (ds a.f a.n) 32) 64), (γ4_2, ints .u8 (ds a.f a.n) 32), (γ1_0, ints .u8 (fun _ => 0) 32)] (s2 7) k (mk8 (kz (ds a.f a.n) 32) 54) (s2 8) k (mk8 (kz (ds a.f a.n) 32) 92) w23 := Z2.step H22.out.2 (hM.below)
    clear hM hl l H22
    clear γ
    have H23 : Hid (_ ∧ _) := ⟨M23, B23⟩
    clear M23 B23
    refine rest0 rfl (then_normal (wp_cond_true rfl ?_))
    refine wp_skip (then_normal ?_)
    refine wp_seq (wp_block (wp_seq ?_))
    refine walk_seqA 6 [.quiet ((s2 7)), .quiet (.slice (some ⟨g5, 0, none⟩) 64 cap5), .quiet (.int .i64 ((k : Nat) : Int)), .quiet (PT g5 (0 + k)), .quiet (Z8 ((kz (ds a.f a.n) 32) (0 + k))), .quiet (Z8 (x8 ((kz (ds a.f a.n) 32) (0 + k)) 54))] (sB H23) ?ho12 ?he12
    case ho12 => exact ak (fun _ => ⟨rfl, fun _ _ => rfl⟩) (ak (fun _ => ⟨rfl, fun _ _ => rfl⟩) (ak (fun _ => ⟨rfl, fun _ _ => rfl⟩) (ak (fun γ => ⟨rfl, fun w' _ => ex_ixS22 (m := 64) (j := k) rfl rfl rfl (by omega)⟩) (ak (fun γ => ⟨rfl, fun w' h => ex_loadC h 0 rfl rfl rfl Tryd.isAgg5 (ints_get _ _ (by omega))⟩) (ak (fun γ => ⟨rfl, fun w' _ => ex_xor8 rfl rfl rfl⟩) trivial)))))
    intro γ w24 l hM hl
    have M24 : Mm w24 [(g5, ints .u8 (kz (ds a.f a.n) 32) 64), (γ4_2, ints .u8 (ds a.f a.n) 32), (γ1_0, ints .u8 (fun _ => 0) 32)] := H23.out.1.grow hM (Nat.le_refl _) hl [] rfl (by decide)
    have B24 : Z2 w γb [(g5, ints .u8 (kz (ds a.f a.n) 32) 64), (γ4_2, ints .u8 (ds a.f a.n) 32), (γ1_0, ints .u8 (fun _ => 0) 32)] (s2 7) k (mk8 (kz (ds a.f a.n) 32) 54) (s2 8) k (mk8 (kz (ds a.f a.n) 32) 92) w24 := Z2.step H23.out.2 (hM.below)
    clear hM hl l H23
    clear γ
    have H24 : Hid (_ ∧ _) := ⟨M24, B24⟩
    clear M24 B24
    refine rest_at (l := [6, 7, 8]) rfl ?_
    refine rest_set (d := 38) (v := .slice (some ⟨w24.heap.size, 0, none⟩) 1 1) (w' := (w24.alloc (.cells ([Z8 (x8 ((kz (ds a.f a.n) 32) (0 + k)) 54)] : List Value).toArray 5))) rfl rfl rfl (ex_bs1 (a := x8 ((kz (ds a.f a.n) 32) (0 + k)) 54) rfl rfl) ?_
    simp only [Act.put, sa, sz, ss]
    have H25 : Hid (Mm (w24.alloc (.cells ([Z8 (x8 ((kz (ds a.f a.n) 32) (0 + k)) 54)] : List Value).toArray 5)) [(g5, ints .u8 (kz (ds a.f a.n) 32) 64), (γ4_2, ints .u8 (ds a.f a.n) 32), (γ1_0, ints .u8 (fun _ => 0) 32)] ∧ Z2 w γb [(g5, ints .u8 (kz (ds a.f a.n) 32) 64), (γ4_2, ints .u8 (ds a.f a.n) 32), (γ1_0, ints .u8 (fun _ => 0) 32)] (s2 7) k (mk8 (kz (ds a.f a.n) 32) 54) (s2 8) k (mk8 (kz (ds a.f a.n) 32) 92) (w24.alloc (.cells ([Z8 (x8 ((kz (ds a.f a.n) 32) (0 + k)) 54)] : List Value).toArray 5))) := ⟨(Z2.step H24.out.2 (((Below.refl _ _).alloc (Nat.le_refl _) _))).m, (Z2.step H24.out.2 (((Below.refl _ _).alloc (Nat.le_refl _) _)))⟩
    have C25 : Hid _ := cell_one w24 (x8 ((kz (ds a.f a.n) 32) (0 + k)) 54)
    clear H24
    generalize hgw : (w24.alloc (.cells ([Z8 (x8 ((kz (ds a.f a.n) 32) (0 + k)) 54)] : List Value).toArray 5)) = w25 at H25 C25 ⊢
    clear hgw
    generalize w24.heap.size = γs25 at C25 ⊢
    obtain ⟨v26, w26, hr, hZ⟩ := H25.out.2.app1 (a := ⟨γs25, 0, none⟩) 1 1 (fun _ => x8 ((kz (ds a.f a.n) 32) (0 + k)) 54) C25.out (by omega) 22
    refine rest_set (d := 39) (v := v26) (w' := w26) rfl rfl rfl (ex_app rfl rfl rfl hr) ?_
    simp only [Act.put, sa, sz, ss]
    have hZ2 : Z2 w γb [(g5, ints .u8 (kz (ds a.f a.n) 32) 64), (γ4_2, ints .u8 (ds a.f a.n) 32), (γ1_0, ints .u8 (fun _ => 0) 32)] v26 (k + 1) (mk8 (kz (ds a.f a.n) 32) 54) (s2 8) k (mk8 (kz (ds a.f a.n) 32) 92) w26 := hZ.cg1 (ct_snoc (by show x8 ((kz (ds a.f a.n) 32) (0 + k)) _ = x8 ((kz (ds a.f a.n) 32) k) _; rw [Nat.zero_add]))
    have H26 : Hid (Mm w26 [(g5, ints .u8 (kz (ds a.f a.n) 32) 64), (γ4_2, ints .u8 (ds a.f a.n) 32), (γ1_0, ints .u8 (fun _ => 0) 32)] ∧ Z2 w γb [(g5, ints .u8 (kz (ds a.f a.n) 32) 64), (γ4_2, ints .u8 (ds a.f a.n) 32), (γ1_0, ints .u8 (fun _ => 0) 32)] v26 (k + 1) (mk8 (kz (ds a.f a.n) 32) 54) (s2 8) k (mk8 (kz (ds a.f a.n) 32) 92) w26) := ⟨hZ2.m, hZ2⟩
    clear hr hZ hZ2 H25
    refine rest_set (d := 7) (v := v26) (w' := w26) rfl rfl rfl rfl ?_
    simp only [Act.put, sa, sz, ss]
    refine rest_nil (then_normal ?_)
    refine walk_seqA 6 [.quiet ((s2 8)), .quiet (.slice (some ⟨g5, 0, none⟩) 64 cap5), .quiet (.int .i64 ((k : Nat) : Int)), .quiet (PT g5 (0 + k)), .quiet (Z8 ((kz (ds a.f a.n) 32) (0 + k))), .quiet (Z8 (x8 ((kz (ds a.f a.n) 32) (0 + k)) 92))] (sB H26) ?ho13 ?he13
    case ho13 => exact ak (fun _ => ⟨rfl, fun _ _ => rfl⟩) (ak (fun _ => ⟨rfl, fun _ _ => rfl⟩) (ak (fun _ => ⟨rfl, fun _ _ => rfl⟩) (ak (fun γ => ⟨rfl, fun w' _ => ex_ixS22 (m := 64) (j := k) rfl rfl rfl (by omega)⟩) (ak (fun γ => ⟨rfl, fun w' h => ex_loadC h 0 rfl rfl rfl Tryd.isAgg5 (ints_get _ _ (by omega))⟩) (ak (fun γ => ⟨rfl, fun w' _ => ex_xor8 rfl rfl rfl⟩) trivial)))))
    intro γ w27 l hM hl
    have M27 : Mm w27 [(g5, ints .u8 (kz (ds a.f a.n) 32) 64), (γ4_2, ints .u8 (ds a.f a.n) 32), (γ1_0, ints .u8 (fun _ => 0) 32)] := H26.out.1.grow hM (Nat.le_refl _) hl [] rfl (by decide)
    have B27 : Z2 w γb [(g5, ints .u8 (kz (ds a.f a.n) 32) 64), (γ4_2, ints .u8 (ds a.f a.n) 32), (γ1_0, ints .u8 (fun _ => 0) 32)] v26 (k + 1) (mk8 (kz (ds a.f a.n) 32) 54) (s2 8) k (mk8 (kz (ds a.f a.n) 32) 92) w27 := Z2.step H26.out.2 (hM.below)
    clear hM hl l H26
    clear γ
    have H27 : Hid (_ ∧ _) := ⟨M27, B27⟩
    clear M27 B27
    refine rest_at (l := [6, 7, 8]) rfl ?_
    refine rest_set (d := 46) (v := .slice (some ⟨w27.heap.size, 0, none⟩) 1 1) (w' := (w27.alloc (.cells ([Z8 (x8 ((kz (ds a.f a.n) 32) (0 + k)) 92)] : List Value).toArray 5))) rfl rfl rfl (ex_bs1 (a := x8 ((kz (ds a.f a.n) 32) (0 + k)) 92) rfl rfl) ?_
    simp only [Act.put, sa, sz, ss]
    have H28 : Hid (Mm (w27.alloc (.cells ([Z8 (x8 ((kz (ds a.f a.n) 32) (0 + k)) 92)] : List Value).toArray 5)) [(g5, ints .u8 (kz (ds a.f a.n) 32) 64), (γ4_2, ints .u8 (ds a.f a.n) 32), (γ1_0, ints .u8 (fun _ => 0) 32)] ∧ Z2 w γb [(g5, ints .u8 (kz (ds a.f a.n) 32) 64), (γ4_2, ints .u8 (ds a.f a.n) 32), (γ1_0, ints .u8 (fun _ => 0) 32)] v26 (k + 1) (mk8 (kz (ds a.f a.n) 32) 54) (s2 8) k (mk8 (kz (ds a.f a.n) 32) 92) (w27.alloc (.cells ([Z8 (x8 ((kz (ds a.f a.n) 32) (0 + k)) 92)] : List Value).toArray 5))) := ⟨(Z2.step H27.out.2 (((Below.refl _ _).alloc (Nat.le_refl _) _))).m, (Z2.step H27.out.2 (((Below.refl _ _).alloc (Nat.le_refl _) _)))⟩
    have C28 : Hid _ := cell_one w27 (x8 ((kz (ds a.f a.n) 32) (0 + k)) 92)
    clear H27
    generalize hgw : (w27.alloc (.cells ([Z8 (x8 ((kz (ds a.f a.n) 32) (0 + k)) 92)] : List Value).toArray 5)) = w28 at H28 C28 ⊢
    clear hgw
    generalize w27.heap.size = γs28 at C28 ⊢
    obtain ⟨v29, w29, hr, hZ⟩ := H28.out.2.app2 (a := ⟨γs28, 0, none⟩) 1 1 (fun _ => x8 ((kz (ds a.f a.n) 32) (0 + k)) 92) C28.out (by omega) 22
    refine rest_set (d := 47) (v := v29) (w' := w29) rfl rfl rfl (ex_app rfl rfl rfl hr) ?_
    simp only [Act.put, sa, sz, ss]
    have hZ2 : Z2 w γb [(g5, ints .u8 (kz (ds a.f a.n) 32) 64), (γ4_2, ints .u8 (ds a.f a.n) 32), (γ1_0, ints .u8 (fun _ => 0) 32)] v26 (k + 1) (mk8 (kz (ds a.f a.n) 32) 54) v29 (k + 1) (mk8 (kz (ds a.f a.n) 32) 92) w29 := hZ.cg2 (ct_snoc (by show x8 ((kz (ds a.f a.n) 32) (0 + k)) _ = x8 ((kz (ds a.f a.n) 32) k) _; rw [Nat.zero_add]))
    have H29 : Hid (Mm w29 [(g5, ints .u8 (kz (ds a.f a.n) 32) 64), (γ4_2, ints .u8 (ds a.f a.n) 32), (γ1_0, ints .u8 (fun _ => 0) 32)] ∧ Z2 w γb [(g5, ints .u8 (kz (ds a.f a.n) 32) 64), (γ4_2, ints .u8 (ds a.f a.n) 32), (γ1_0, ints .u8 (fun _ => 0) 32)] v26 (k + 1) (mk8 (kz (ds a.f a.n) 32) 54) v29 (k + 1) (mk8 (kz (ds a.f a.n) 32) 92) w29) := ⟨hZ2.m, hZ2⟩
    clear hr hZ hZ2 H28
    refine rest_set (d := 8) (v := v29) (w' := w29) rfl rfl rfl rfl ?_
    simp only [Act.put, sa, sz, ss]
    refine rest_nil (block_normal (then_normal ?_))
    refine walk_seqA 2 [.quiet (.int .i64 ((k : Nat) : Int)), .quiet (.int .i64 ((k + 1 : Nat) : Int))] (sB H29) ?ho14 ?he14
    case ho14 => exact ak (fun _ => ⟨rfl, fun _ _ => rfl⟩) (ak (by refine fun γ => ⟨rfl, fun w' h => ?_⟩; clear h; go_simp; rw [IntKind.wrap_i64]; omega) trivial)
    intro γ w30 l hM hl
    have M30 : Mm w30 [(g5, ints .u8 (kz (ds a.f a.n) 32) 64), (γ4_2, ints .u8 (ds a.f a.n) 32), (γ1_0, ints .u8 (fun _ => 0) 32)] := H29.out.1.grow hM (Nat.le_refl _) hl [] rfl (by decide)
    have B30 : Z2 w γb [(g5, ints .u8 (kz (ds a.f a.n) 32) 64), (γ4_2, ints .u8 (ds a.f a.n) 32), (γ1_0, ints .u8 (fun _ => 0) 32)] v26 (k + 1) (mk8 (kz (ds a.f a.n) 32) 54) v29 (k + 1) (mk8 (kz (ds a.f a.n) 32) 92) w30 := Z2.step H29.out.2 (hM.below)
    clear hM hl l H29
    clear γ
    have H30 : Hid (_ ∧ _) := ⟨M30, B30⟩
    clear M30 B30
    refine rest_at (l := [2]) rfl ?_
    refine rest_set (d := 9) (v := .int .i64 ((k + 1 : Nat) : Int)) (w' := w30) rfl rfl rfl rfl ?_
    simp only [Act.put, sa, sz, ss]
    refine rest_nil (then_normal ?_)
    exact ⟨k + 1, ⟨(slotfn [undef, undef, undef, undef, undef, undef, undef, v26, v29, undef, undef, undef, undef, undef, undef, undef, undef, undef, undef, undef, undef, undef, undef, undef, undef, undef, undef, undef, .int .i64 ((k : Nat) : Int), .bool true, .int .i64 ((k : Nat) : Int), .int .i64 ((k + 1 : Nat) : Int), (s2 7), .slice (some ⟨g5, 0, none⟩) 64 cap5, .int .i64 ((k : Nat) : Int), PT g5 (0 + k), Z8 ((kz (ds a.f a.n) 32) (0 + k)), Z8 (x8 ((kz (ds a.f a.n) 32) (0 + k)) 54), .slice (some ⟨γs25, 0, none⟩) 1 1, v26, (s2 8), .slice (some ⟨g5, 0, none⟩) 64 cap5, .int .i64 ((k : Nat) : Int), PT g5 (0 + k), Z8 ((kz (ds a.f a.n) 32) (0 + k)), Z8 (x8 ((kz (ds a.f a.n) 32) (0 + k)) 92), .slice (some ⟨γs28, 0, none⟩) 1 1, v29]), rfl, ⟨H30.out.1, H30.out.2⟩, by omega⟩, by omega⟩
  have hk64 : k = 64 := by omega
  subst hk64
  refine wp_seq (wp_seq ?_)
  refine walk_seqA 2 [.quiet (.int .i64 ((64 : Nat) : Int)), .quiet (.bool false)] (sB H22) ?ho15 ?he15
  case ho15 => exact ak (fun _ => ⟨rfl, fun _ _ => rfl⟩) (ak (by refine fun γ => ⟨rfl, fun w' h => ?_⟩; clear h; go_simp <;> omega) trivial)
  intro γ w31 l hM hl
  have M31 : Mm w31 [(g5, ints .u8 (kz (ds a.f a.n) 32) 64), (γ4_2, ints .u8 (ds a.f a.n) 32), (γ1_0, ints .u8 (fun _ => 0) 32)] := H22.out.1.grow hM (Nat.le_refl _) hl [] rfl (by decide)
  have B31 : Z2 w γb [(g5, ints .u8 (kz (ds a.f a.n) 32) 64), (γ4_2, ints .u8 (ds a.f a.n) 32), (γ1_0, ints .u8 (fun _ => 0) 32)] (s2 7) 64 (mk8 (kz (ds a.f a.n) 32) 54) (s2 8) 64 (mk8 (kz (ds a.f a.n) 32) 92) w31 := Z2.step H22.out.2 (hM.below)
  clear hM hl l H22
  clear γ
  have H31 : Hid (_ ∧ _) := ⟨M31, B31⟩
  clear M31 B31
  refine rest0 rfl (then_normal (wp_cond_false rfl ?_))
  refine wp_exit ?_
  repeat refine then_exit ?_
  refine block_exit ?_
  refine then_normal (wp_seq ?_)
  refine walk_seqA 2 [.quiet ((s2 7)), .quiet (.slice b.p b.n b.cp)] (sB H31) ?ho16 ?he16
  case ho16 => exact ak (fun _ => ⟨rfl, fun _ _ => rfl⟩) (ak (fun _ => ⟨rfl, fun _ _ => rfl⟩) trivial)
  intro γ w32 l hM hl
  have M32 : Mm w32 [(g5, ints .u8 (kz (ds a.f a.n) 32) 64), (γ4_2, ints .u8 (ds a.f a.n) 32), (γ1_0, ints .u8 (fun _ => 0) 32)] := H31.out.1.grow hM (Nat.le_refl _) hl [] rfl (by decide)
  have B32 : Z2 w γb [(g5, ints .u8 (kz (ds a.f a.n) 32) 64), (γ4_2, ints .u8 (ds a.f a.n) 32), (γ1_0, ints .u8 (fun _ => 0) 32)] (s2 7) 64 (mk8 (kz (ds a.f a.n) 32) 54) (s2 8) 64 (mk8 (kz (ds a.f a.n) 32) 92) w32 := Z2.step H31.out.2 (hM.below)
  clear hM hl l H31
  clear γ
  have H32 : Hid (_ ∧ _) := ⟨M32, B32⟩
  clear M32 B32
  refine rest_at (l := [2, 3, 4, 5]) rfl ?_
  obtain ⟨v33, w33, hr, hZ⟩ := H32.out.2.appQ1 (q := b) hb hNb.out (RB.out.below H32.out.2.b) (by omega) 22
  refine rest_set (d := 50) (v := v33) (w' := w33) rfl rfl rfl (ex_app rfl rfl rfl hr) ?_
  simp only [Act.put, sa, sz, ss]
  have hZ2 : Z2 w γb [(g5, ints .u8 (kz (ds a.f a.n) 32) 64), (γ4_2, ints .u8 (ds a.f a.n) 32), (γ1_0, ints .u8 (fun _ => 0) 32)] v33 (64 + b.n) (ct (mk8 (kz (ds a.f a.n) 32) 54) 64 b.f) (s2 8) 64 (mk8 (kz (ds a.f a.n) 32) 92) w33 := hZ
  have H33 : Hid (Mm w33 [(g5, ints .u8 (kz (ds a.f a.n) 32) 64), (γ4_2, ints .u8 (ds a.f a.n) 32), (γ1_0, ints .u8 (fun _ => 0) 32)] ∧ Z2 w γb [(g5, ints .u8 (kz (ds a.f a.n) 32) 64), (γ4_2, ints .u8 (ds a.f a.n) 32), (γ1_0, ints .u8 (fun _ => 0) 32)] v33 (64 + b.n) (ct (mk8 (kz (ds a.f a.n) 32) 54) 64 b.f) (s2 8) 64 (mk8 (kz (ds a.f a.n) 32) 92) w33) := ⟨hZ2.m, hZ2⟩
  clear hr hZ hZ2 H32
  refine rest_enter (d := 51) (R := fun vv w' => vv = .agg (ints .u8 (ds (ct (mk8 (kz (ds a.f a.n) 32) 54) 64 b.f) (64 + b.n)) 32).toArray ∧ Below w33.heap.size w33 w') rfl rfl rfl (exec_call (args := #[v33]) rfl call15 rfl (mpn rfl)) (Calls.mono (dSum_any (ct (mk8 (kz (ds a.f a.n) 32) 54) 64 b.f) (64 + b.n) (by omega) _ w33 (own_doc H33.out.2.o1)) (fun e w2 hh => ⟨_, hh.1, rfl, hh.2⟩)) ?_
  rintro _ w34 ⟨rfl, hb⟩
  have H34 : Hid (_ ∧ _) := ⟨H33.out.1.below hb, Z2.step H33.out.2 (hb)⟩
  clear hb H33
  simp only [Act.put, sa, sz, ss]
  have H35 : Hid (Mm w34 [(g5, ints .u8 (kz (ds a.f a.n) 32) 64), (γ4_2, ints .u8 (ds a.f a.n) 32), (γ1_0, ints .u8 (fun _ => 0) 32)] ∧ Ow w [g5, γ4_2, γ1_0] (s2 8) 64 (mk8 (kz (ds a.f a.n) 32) 92) w34) := ⟨H34.out.1, H34.out.2.ow rfl⟩
  clear  H34
  refine rest_set (d := 10) (v := PT w34.heap.size 0) (w' := (w34.alloc (.cells (ints .u8 (fun _ => 0) 32 : List Value).toArray 25))) rfl rfl rfl (ex_made25 rfl) ?_
  simp only [Act.put, sa, sz, ss]
  have o_γs36 : Hid (w.heap.size ≤ w34.heap.size) := H35.out.2.size
  have H36 : Hid (Mm (w34.alloc (.cells (ints .u8 (fun _ => 0) 32 : List Value).toArray 25)) ((w34.heap.size, ints .u8 (fun _ => 0) 32) :: [(g5, ints .u8 (kz (ds a.f a.n) 32) 64), (γ4_2, ints .u8 (ds a.f a.n) 32), (γ1_0, ints .u8 (fun _ => 0) 32)]) ∧ Ow w [w34.heap.size, g5, γ4_2, γ1_0] (s2 8) 64 (mk8 (kz (ds a.f a.n) 32) 92) (w34.alloc (.cells (ints .u8 (fun _ => 0) 32 : List Value).toArray 25))) := ⟨H35.out.1.alloc _ 25 rfl, H35.out.2.alloc _⟩
  clear H35
  generalize hgw : (w34.alloc (.cells (ints .u8 (fun _ => 0) 32 : List Value).toArray 25)) = w36 at H36 ⊢
  clear hgw
  generalize w34.heap.size = γs36 at o_γs36 H36 ⊢
  refine rest_store rfl rfl rfl (ex_storeT (vs := ints .u8 (ds (ct (mk8 (kz (ds a.f a.n) 32) 54) 64 b.f) (64 + b.n)) 32) H36.out.1 0 rfl rfl rfl rfl (by rw [ints_len]; exact Tryd.sizeOf25) (ints_all _ _ _) (by simp [ints_len])) ?_
  have H37 : Hid (Mm (w36.setCells γs36 0 (ints .u8 (ds (ct (mk8 (kz (ds a.f a.n) 32) 54) 64 b.f) (64 + b.n)) 32)) [(γs36, ints .u8 (ds (ct (mk8 (kz (ds a.f a.n) 32) 54) 64 b.f) (64 + b.n)) 32), (g5, ints .u8 (kz (ds a.f a.n) 32) 64), (γ4_2, ints .u8 (ds a.f a.n) 32), (γ1_0, ints .u8 (fun _ => 0) 32)] ∧ Ow w [γs36, g5, γ4_2, γ1_0] (s2 8) 64 (mk8 (kz (ds a.f a.n) 32) 92) (w36.setCells γs36 0 (ints .u8 (ds (ct (mk8 (kz (ds a.f a.n) 32) 54) 64 b.f) (64 + b.n)) 32))) := ⟨by
    have h := H36.out.1.put 0 (off := 0) (vs := ints .u8 (ds (ct (mk8 (kz (ds a.f a.n) 32) 54) 64 b.f) (64 + b.n)) 32) rfl (by simp [ints_len])
    rw [ints_patch0 _ _ _ _] at h
    exact h, H36.out.2.put (by simp) o_γs36.out⟩
  clear H36
  generalize hgw : World.setCells _ _ _ _ = w37 at H37 ⊢
  clear hgw
  refine rest_nil (then_normal (wp_seq ?_))
  refine walk_seqA 2 [.quiet ((s2 8)), .quiet (.slice (some ⟨γs36, 0, none⟩) 32 32)] (sB H37) ?ho17 ?he17
  case ho17 => exact ak (fun _ => ⟨rfl, fun _ _ => rfl⟩) (ak (fun γ => ⟨rfl, fun w' _ => ex_sl25 rfl rfl⟩) trivial)
  intro γ w38 l hM hl
  have M38 : Mm w38 [(γs36, ints .u8 (ds (ct (mk8 (kz (ds a.f a.n) 32) 54) 64 b.f) (64 + b.n)) 32), (g5, ints .u8 (kz (ds a.f a.n) 32) 64), (γ4_2, ints .u8 (ds a.f a.n) 32), (γ1_0, ints .u8 (fun _ => 0) 32)] := H37.out.1.grow hM (Nat.le_refl _) hl [] rfl (by decide)
  have B38 : Ow w [γs36, g5, γ4_2, γ1_0] (s2 8) 64 (mk8 (kz (ds a.f a.n) 32) 92) w38 := Ow.step H37.out.2 (hM.below)
  clear hM hl l H37
  clear γ
  have H38 : Hid (_ ∧ _) := ⟨M38, B38⟩
  clear M38 B38
  refine rest_at (l := [2, 3, 4]) rfl ?_
  obtain ⟨v39, w39, hr, hZ, hM⟩ := H38.out.2.app H38.out.1 rfl (a := ⟨γs36, 0, none⟩) 32 32 (ds (ct (mk8 (kz (ds a.f a.n) 32) 54) 64 b.f) (64 + b.n)) (H38.out.1.rs 0 rfl (Nat.le_refl _)).add (by omega) 22
  refine rest_set (d := 54) (v := v39) (w' := w39) rfl rfl rfl (ex_app rfl rfl rfl hr) ?_
  simp only [Act.put, sa, sz, ss]
  have hZ2 : Ow w [γs36, g5, γ4_2, γ1_0] v39 (64 + 32) (ct (mk8 (kz (ds a.f a.n) 32) 92) 64 (ds (ct (mk8 (kz (ds a.f a.n) 32) 54) 64 b.f) (64 + b.n))) w39 := hZ
  have H39 : Hid (Mm w39 [(γs36, ints .u8 (ds (ct (mk8 (kz (ds a.f a.n) 32) 54) 64 b.f) (64 + b.n)) 32), (g5, ints .u8 (kz (ds a.f a.n) 32) 64), (γ4_2, ints .u8 (ds a.f a.n) 32), (γ1_0, ints .u8 (fun _ => 0) 32)] ∧ Ow w [γs36, g5, γ4_2, γ1_0] v39 (64 + 32) (ct (mk8 (kz (ds a.f a.n) 32) 92) 64 (ds (ct (mk8 (kz (ds a.f a.n) 32) 54) 64 b.f) (64 + b.n))) w39) := ⟨hM, hZ2⟩
  clear hr hZ hZ2 hM H38
  refine rest_enter (d := 55) (R := fun vv w' => vv = .agg (ints .u8 (ds (ct (mk8 (kz (ds a.f a.n) 32) 92) 64 (ds (ct (mk8 (kz (ds a.f a.n) 32) 54) 64 b.f) (64 + b.n))) (64 + 32)) 32).toArray ∧ Below w39.heap.size w39 w') rfl rfl rfl (exec_call (args := #[v39]) rfl call15 rfl (mpn rfl)) (Calls.mono (dSum_any (ct (mk8 (kz (ds a.f a.n) 32) 92) 64 (ds (ct (mk8 (kz (ds a.f a.n) 32) 54) 64 b.f) (64 + b.n))) (64 + 32) (by omega) _ w39 (own_doc H39.out.2.own)) (fun e w2 hh => ⟨_, hh.1, rfl, hh.2⟩)) ?_
  rintro _ w40 ⟨rfl, hb⟩
  have H40 : Hid (_ ∧ _) := ⟨H39.out.1.below hb, Ow.step H39.out.2 (hb)⟩
  clear hb H39
  simp only [Act.put, sa, sz, ss]
  refine rest_store rfl rfl rfl (ex_storeT (vs := ints .u8 (ds (ct (mk8 (kz (ds a.f a.n) 32) 92) 64 (ds (ct (mk8 (kz (ds a.f a.n) 32) 54) 64 b.f) (64 + b.n))) (64 + 32)) 32) H40.out.1 3 rfl rfl rfl rfl (by rw [ints_len]; exact Tryd.sizeOf25) (ints_all _ _ _) (by simp [ints_len])) ?_
  have H41 : Hid (Mm (w40.setCells γ1_0 0 (ints .u8 (ds (ct (mk8 (kz (ds a.f a.n) 32) 92) 64 (ds (ct (mk8 (kz (ds a.f a.n) 32) 54) 64 b.f) (64 + b.n))) (64 + 32)) 32)) [(γs36, ints .u8 (ds (ct (mk8 (kz (ds a.f a.n) 32) 54) 64 b.f) (64 + b.n)) 32), (g5, ints .u8 (kz (ds a.f a.n) 32) 64), (γ4_2, ints .u8 (ds a.f a.n) 32), (γ1_0, ints .u8 (ds (ct (mk8 (kz (ds a.f a.n) 32) 92) 64 (ds (ct (mk8 (kz (ds a.f a.n) 32) 54) 64 b.f) (64 + b.n))) (64 + 32)) 32)] ∧ Ow w [γs36, g5, γ4_2, γ1_0] v39 (64 + 32) (ct (mk8 (kz (ds a.f a.n) 32) 92) 64 (ds (ct (mk8 (kz (ds a.f a.n) 32) 54) 64 b.f) (64 + b.n))) (w40.setCells γ1_0 0 (ints .u8 (ds (ct (mk8 (kz (ds a.f a.n) 32) 92) 64 (ds (ct (mk8 (kz (ds a.f a.n) 32) 54) 64 b.f) (64 + b.n))) (64 + 32)) 32))) := ⟨by
    have h := H40.out.1.put 3 (off := 0) (vs := ints .u8 (ds (ct (mk8 (kz (ds a.f a.n) 32) 92) 64 (ds (ct (mk8 (kz (ds a.f a.n) 32) 54) 64 b.f) (64 + b.n))) (64 + 32)) 32) rfl (by simp [ints_len])
    rw [ints_patch0 _ _ _ _] at h
    exact h, H40.out.2.put (by simp) o1_0.out⟩
  clear H40
  generalize hgw : World.setCells _ _ _ _ = w41 at H41 ⊢
  clear hgw
  refine rest_nil (then_normal (wp_ret ?_))
  repeat (first | refine then_ret ?_ | refine block_ret ?_)
  have hf0 := var_T H41.out.1 3 rfl Tryd.isAgg25 Tryd.sizeOf25 (ints_len _ _ _)
  refine bodyPost_ret (v := .agg (ints .u8 (ds (ct (mk8 (kz (ds a.f a.n) 32) 92) 64 (ds (ct (mk8 (kz (ds a.f a.n) 32) 54) 64 b.f) (64 + b.n))) (64 + 32)) 32).toArray) (by simp [results, Tryd.results33, asAddr, hf0]) rfl ?_
  exact ⟨rfl, H41.out.2.b⟩
end Rg
end Go.Proofs.YtolflfjfegngnaaDoor
end
section
namespace Go.Proofs.YtolflfjfegngnaaDoor
open Go.RowKit
namespace Rg
set_option maxRecDepth 100000
theorem mk8_lt (K : Nat → Nat) (x j : Nat) : mk8 K x j < 256 := Nat.mod_lt _ (by decide)
theorem ct_lt {f g : Nat → Nat} {n : Nat} (hf : ∀ j, f j < 256) (hg : ∀ j, g j < 256) (j : Nat) : ct f n g j < 256 := by
  unfold ct
  split
  · exact hf j
  · exact hg _
theorem ob_lt (h : Nat → Nat) : ∀ i j, ob h i j < 256
  | 0, _ => by show (0 : Nat) < 256; decide
  | i + 1, j => by
    show up (ob h i) i _ j < 256
    unfold up
    split
    · exact Nat.mod_lt _ (by decide)
    · exact ob_lt h i j
theorem ds_lt (f : Nat → Nat) (n j : Nat) : ds f n j < 256 := ob_lt _ 32 j
theorem dg0_cg {f f' : Nat → Nat} {n : Nat} (h : ∀ j, j < n → f j = f' j) : dg0 f n = dg0 f' n := by
  unfold dg0
  rw [hby_cg _ n h]
theorem dg0_ct (f g : Nat → Nat) (n m : Nat) : dg0 (ct f n g) (n + m) = fz (hby g (hby f ⟨fT, fun _ => 0, 0⟩ n) m).s (hby g (hby f ⟨fT, fun _ => 0, 0⟩ n) m).r (hby g (hby f ⟨fT, fun _ => 0, 0⟩ n) m).c := by
  unfold dg0
  rw [hby_ct]
theorem ct_cg {f f' g g' : Nat → Nat} {n m : Nat} (hf : ∀ j, j < n → f j = f' j) (hg : ∀ j, j < m → g j = g' j) (j : Nat) (hj : j < n + m) : ct f n g j = ct f' n g' j := by
  unfold ct
  by_cases h : j < n
  · rw [if_pos h, if_pos h, hf j h]
  · rw [if_neg h, if_neg h, hg _ (by omega)]
/-- The program's code is the document's. -/
theorem hmc_dh {K K' f f' : Nat → Nat} {n : Nat} (hK : ∀ j, j < 64 → K j = K' j) (h : ∀ j, j < n → f j = f' j) (hf : ∀ j, f' j < 256) (hn : n ≤ 1000000) (j : Nat) (hj : j < 32) : hmc K f n j = dh K' f' n j := by
  have hm : ∀ x i, i < 64 → mk8 K x i = mk8 K' x i := fun x i hi => by
    unfold mk8
    rw [hK i hi]
  have e1 : hmi K f n = dg0 (ct (mk8 K' 54) 64 f') (64 + n) := by
    unfold hmi
    rw [← dg0_ct (mk8 K 54) f 64 n]
    exact dg0_cg (ct_cg (hm 54) h)
  have e2 : ∀ i, i < 32 → hmi K f n i = ds (ct (mk8 K' 54) 64 f') (64 + n) i := fun i hi => by
    rw [e1]
    exact dg0_ds _ (ct_lt (mk8_lt _ _) hf) _ (by omega) i hi
  unfold hmc
  rw [← dg0_ct (mk8 K 92) (hmi K f n) 64 32, dg0_cg (ct_cg (hm 92) e2)]
  exact dg0_ds _ (ct_lt (mk8_lt _ _) (ds_lt _ _)) _ (by decide) j hj
/-- A key's block, as the document has it. -/
def kd (f : Nat → Nat) (n : Nat) : Nat → Nat := if 64 < n then kz (ds f n) 32 else kz f n
theorem kf_kd {f f' : Nat → Nat} {n : Nat} (h : ∀ j, j < n → f j = f' j) (hf : ∀ j, f' j < 256) (hn : n ≤ 1048576) (j : Nat) : kf f n j = kd f' n j := by
  unfold kf kd
  by_cases h64 : 64 < n
  · rw [if_pos h64, if_pos h64]
    unfold pr8 kz
    by_cases h1 : j < 32
    · rw [if_pos (by omega), if_pos h1, Nat.sub_zero, dg0_cg h]
      exact dg0_ds _ hf _ hn j h1
    · rw [if_neg (by omega), if_neg h1]
  · rw [if_neg h64, if_neg h64]
    unfold pr8 kz
    by_cases h1 : j < n
    · rw [if_pos (by omega), if_pos h1, Nat.sub_zero, h j h1]
    · rw [if_neg (by omega), if_neg h1]
theorem dCode_any (a b : Pt8) (ha : Pok a) (hb : Pok b) (hNa : a.p = none → a.cp = 0) (hNb : b.p = none → b.cp = 0) (hna : a.n ≤ 1048576) (hnb : b.n ≤ 1000000) (w : World) (hRa : a.rs w) (hRb : b.rs w) : Calls Tryd.prog 33 #[.slice a.p a.n a.cp, .slice b.p b.n b.cp] w fun e w' => e = .returned (.agg (ints .u8 (dh (kd a.f a.n) b.f b.n) 32).toArray) ∧ Below w.heap.size w w' := by
  unfold kd
  by_cases h64 : 64 < a.n
  · rw [if_pos h64]
    exact dCode_long a b ha hb hNa hNb hna hnb h64 w hRa hRb
  · rw [if_neg h64]
    exact dCode_short a b ha hb hNa hNb hna hnb (by omega) w hRa hRb
end Rg
end Go.Proofs.YtolflfjfegngnaaDoor
end
section
namespace Go.Proofs.YtolflfjfegngnaaDoor
open Go.RowKit
namespace Rg
set_option maxRecDepth 100000
/-- A slice handed in: its bytes, its part. -/
structure Ar (xs : List Int) (a : Pt8) : Prop where
  ok : Pok a
  nn : a.p = none → a.cp = 0
  len : a.n = xs.length
  f : a.f = lf xs
  by_ : ∀ x ∈ xs, 0 ≤ x ∧ x < 256
abbrev Pt8.bs (a : Pt8) (xs : List Int) (w : World) : Prop := BSl w xs a.cp (.slice a.p a.n a.cp) ∧ a.rs w
theorem Pt8.bs.below {a : Pt8} {xs : List Int} {w w' : World} (h : a.bs xs w) (hb : Below w.heap.size w w') : a.bs xs w' := ⟨BSl.below h.1 hb, Rs.below h.2 hb⟩
theorem lent_part {xs : List Int} {a : Pt8} (h : Ar xs a) (hn : a.n ≤ 1048576) (w : World) (hB : a.bs xs w) :
    Calls Tryd.prog 13 #[.slice a.p a.n a.cp] w fun e w' => Below w.heap.size w w' ∧ ∃ g, e = .returned (.slice (some ⟨g, 0, none⟩) a.n (a.n + 3)) ∧ w.heap.size ≤ g ∧ g < w'.heap.size ∧ Blk w' g (ints .u8 (lf xs) (a.n + 3)) := by
  have hh := lent_born xs a.cp _ h.by_ (by rw [← h.len]; exact hn) w hB.1
  rw [← h.len] at hh
  exact hh
theorem kept_part {xs : List Int} {a : Pt8} (h : Ar xs a) (hn : a.n ≤ 1048576) {w : World} {l : List (Nat × List Value)} (hm : Mm w l) (k : Nat) {g : Nat} (hk : l[k]? = some (g, ints .u8 (lf xs) (a.n + 3))) (hB : a.bs xs w) : Calls Tryd.prog 16 #[.slice (some ⟨g, 0, none⟩) a.n (a.n + 3), .slice a.p a.n a.cp] w fun e w' => e = .returned (.bool true) ∧ Below w.heap.size w w' := by
  rw [h.len] at hk
  have hr := hm.row8 h.by_ k hk
  have hh := kept_any xs g a.cp _ (by rw [← h.len]; exact hn) w hr.1 hr.2 hB.1
  rw [← h.len] at hh
  exact hh
section
variable {ρ : Operand → Value} {o : Oper} {x y : Operand} {t : Bool} {w : World}
end
theorem bsl_ar {w : World} {xs : List Int} {c : Nat} {v : Value} (hx : ∀ x ∈ xs, 0 ≤ x ∧ x < 256) (h : BSl w xs c v) (h0 : v = .slice none 0 0 ∨ ∃ a k c', v = .slice (some a) k c') :
    ∃ q : Pt8, v = .slice q.p q.n q.cp ∧ Ar xs q ∧ q.bs xs w := by
  obtain ⟨q, e, h1, h2, h3, h4, h5, h6⟩ := bsl_part hx h h0
  subst e
  exact ⟨q, rfl, ⟨h1, h2, h4, h5, hx⟩, by rw [h6]; rw [h6] at h; exact h, h3⟩
end Rg
end Go.Proofs.YtolflfjfegngnaaDoor
end
