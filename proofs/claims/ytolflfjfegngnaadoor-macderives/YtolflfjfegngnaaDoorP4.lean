/- Texts of the proof, joined. -/
import Derived.Test.YtolflfjfegngnaaDoorP3
section
namespace Go.Proofs.YtolflfjfegngnaaDoor
open Go.RowKit
namespace Rg
set_option maxRecDepth 100000
section
variable {ρ : Operand → Value} {o : Oper} {x y : Operand} {a b : Nat} {w : World}
theorem ex_quo3 (h : 0 < b) (ha : a < 4611686018427387904) (ho : o.op = .binOp .quo 3 x y 3) (hx : ρ x = .int .i64 ((a : Nat) : Int)) (hy : ρ y = .int .i64 ((b : Nat) : Int)) : (execOp ρ o).run Tryd.prog w = .ok (.value (.int .i64 ((a / b : Nat) : Int))) w := by
  have hle : a / b ≤ a := Nat.div_le_self _ _
  simp only [execOp, ho, hx, hy]
  clear ho hx hy
  have hw : IntKind.i64.wrap ((a : Int) / (b : Int)) = (a : Int) / (b : Int) := by
    rw [← Int.natCast_ediv]
    generalize a / b = k at hle ⊢
    rw [IntKind.wrap_i64]
    omega
  go_simp
  omega
theorem ex_rem3 (h : 0 < b) (ha : a < 4611686018427387904) (ho : o.op = .binOp .rem 3 x y 3) (hx : ρ x = .int .i64 ((a : Nat) : Int)) (hy : ρ y = .int .i64 ((b : Nat) : Int)) : (execOp ρ o).run Tryd.prog w = .ok (.value (.int .i64 ((a % b : Nat) : Int))) w := by
  have _ := ha
  simp only [execOp, ho, hx, hy]
  clear ho hx hy
  go_simp
  rw [if_neg (by omega), Int.tmod_eq_emod_of_nonneg (by omega)]
end
theorem Rs.add {g o n : Nat} {f : Nat → Nat} {w : World} (h : Rs g o n f w) (j : Nat) (hj : j < n) : w.cell? ((⟨g, o, none⟩ : Addr).add j) = some (Z8 (f j)) := by
  rw [show (⟨g, o, none⟩ : Addr).add j = ⟨g, o + j, none⟩ by unfold Addr.add; split <;> simp_all]
  exact h.at_ j hj
/-- Bytes at an address. -/
structure Ra (a : Addr) (n : Nat) (f : Nat → Nat) (w : World) : Prop where
  lt : 0 < n → a.block < w.heap.size
  at_ : ∀ j, j < n → w.cell? (a.add j) = some (Z8 (f j))
theorem add_block (a : Addr) (j : Nat) : (a.add j).block = a.block := by unfold Addr.add; split <;> rfl
theorem Ra.below {a : Addr} {n : Nat} {f : Nat → Nat} {w w' : World} (h : Ra a n f w) (hb : Below w.heap.size w w') : Ra a n f w' :=
  ⟨fun hn => Nat.lt_of_lt_of_le (h.lt hn) hb.size, fun j hj => by rw [hb.cell (p := a.add j) (by rw [add_block]; exact h.lt (by omega))]; exact h.at_ j hj⟩
theorem Rs.kp2 {g gb o n : Nat} {f : Nat → Nat} {w w' : World} (h : Rs gb o n f w) (k : Kp g w w') (ne : gb ≠ g) : Rs gb o n f w' := by
  have s : Src g gb o n f w := ⟨h.lt, fun _ => ne, h.at_⟩
  exact ⟨fun hn => Nat.lt_of_lt_of_le (h.lt hn) k.size, fun i hi => s.kp k i hi⟩
/-- The message with its ending, as the document has it. -/
def zc (n : Nat) : Nat := (120 - (n + 1) % 64) % 64
def pn (n : Nat) : Nat := n + 1 + zc n + 8
def nb (n : Nat) : Nat := pn n / 64
def pz (f : Nat → Nat) (n : Nat) : Nat → Nat := fun j => if j < n then f j else if j = n then 128 else 0
def pd (f : Nat → Nat) (n : Nat) : Nat → Nat := ct (pz f n) (n + 1 + zc n) (b8 (c64 (8 * c64 n)))
theorem pz_f (f : Nat → Nat) (n j : Nat) (h : j < n) : f j = pz f n j := by unfold pz; rw [if_pos h]
theorem pz_n (f : Nat → Nat) (n : Nat) : 128 = pz f n n := by unfold pz; rw [if_neg (by omega), if_pos rfl]
theorem pz_z (f : Nat → Nat) (n k : Nat) : 0 = pz f n (n + 1 + k) := by unfold pz; rw [if_neg (by omega), if_neg (by omega)]
theorem nb_pn (n : Nat) : 64 * nb n = pn n := by unfold nb pn zc; omega
def hd (P : Nat → Nat) : Nat → Nat → Nat
  | 0 => fT
  | k + 1 => db (hd P k) kT P (64 * k)
def ob (h : Nat → Nat) : Nat → Nat → Nat
  | 0 => fun _ => 0
  | i + 1 => up (ob h i) i (sr (h (i / 4)) (24 - (8 * (i % 4))) % 256)
/-- The digest of n bytes, as the document has it. -/
def ds (f : Nat → Nat) (n : Nat) : Nat → Nat := ob (hd (pd f n) (nb n)) 32
theorem call47 : ∀ args w, (callFunc 47 args).run Tryd.prog w = .ok (.enter 47 args) w := by intro args w; go_simp
theorem call48 : ∀ args w, (callFunc 48 args).run Tryd.prog w = .ok (.enter 48 args) w := by intro args w; go_simp
theorem call49 : ∀ args w, (callFunc 49 args).run Tryd.prog w = .ok (.enter 49 args) w := by intro args w; go_simp
theorem call50 : ∀ args w, (callFunc 50 args).run Tryd.prog w = .ok (.enter 50 args) w := by intro args w; go_simp
set_option maxHeartbeats 4000000 in
set_option maxRecDepth 100000 in
theorem dSum_some (f : Nat → Nat) (n : Nat) (hn : n ≤ 1048576) (a : Addr) (cp : Nat) (w : World) (hR : Ra a n f w) :
    Calls Tryd.prog 15 #[.slice (some a) n cp] w fun e w' => e = .returned (.agg (ints .u8 (ds f n) 32).toArray) ∧ Below w.heap.size w w' := by
  have H0 : Hid (_ ∧ _) := ⟨Mm.nil w, Below.refl w.heap.size w⟩
  have R0 : Hid (Ra a n f w) := hR
  clear hR
  have hz : zc n = (120 - (n + 1) % 64) % 64 := rfl
  have hN : pn n = n + 1 + zc n + 8 := rfl
  have hM := nb_pn n
  go_enter Tryd.func15, Tryd.ntmps15
  refine wp_seq ?_
  refine walk_seqA 1 [.made (ints .u8 (fun _ => 0) 32) 25] (sB H0) ?ho1 ?he1
  case ho1 => exact ak (fun γ => ⟨rfl, fun w' => ex_mk25 rfl⟩) trivial
  intro γ w1 l hM hl
  have H1 : Hid (Mm w1 [(γ 0, ints .u8 (fun _ => 0) 32)] ∧ _) := growB H0 hM (Nat.le_refl _) hl [0] rfl (by decide)
  have o1_0 := ownB H0 hM (Nat.le_refl _) hl (i := 0) rfl
  clear hM hl l
  generalize γ 0 = γ1_0 at H1 o1_0 ⊢
  clear γ
  refine rest0 rfl (then_normal (wp_seq ?_))
  refine walk_seqB 0 [] H1 ?ho2 ?he2
  case ho2 => exact trivial
  intro _ w2 H2
  clear H1
  refine rest_at (l := [0, 1, 2, 3]) rfl ?_
  refine rest_set (d := 9) (v := .slice (some ⟨w2.heap.size, 0, none⟩) 0 0) (w' := (w2.alloc (.cells #[] 5))) rfl rfl rfl (ex_bs0 rfl) ?_
  simp only [Act.put, sa, sz, ss]
  have H3 : Hid (Mm (w2.alloc (.cells #[] 5)) [] ∧ Zo w w2.heap.size [(γ1_0, ints .u8 (fun _ => 0) 32)] (.slice (some ⟨w2.heap.size, 0, none⟩) 0 0) 0 f (w2.alloc (.cells #[] 5))) := ⟨Mm.nil _, Zo.made f H2.out.1 H2.out.2⟩
  clear H2
  generalize hgw : (w2.alloc (.cells #[] 5)) = w3 at H3 ⊢
  clear hgw
  generalize w2.heap.size = γb at H3 ⊢
  refine rest_set (d := 10) (v := .slice (some a) n cp) (w' := w3) rfl rfl rfl rfl ?_
  simp only [Act.put, sa, sz, ss]
  obtain ⟨v4, w4, hr, hZ⟩ := H3.out.2.app (a := a) n cp f ((R0.out.below H3.out.2.b).at_) (by omega) 22
  refine rest_set (d := 11) (v := v4) (w' := w4) rfl rfl rfl (ex_app rfl rfl rfl hr) ?_
  simp only [Act.put, sa, sz, ss]
  have H4 : Hid (Mm w4 [] ∧ Zo w γb [(γ1_0, ints .u8 (fun _ => 0) 32)] v4 n f w4) := ⟨Mm.nil _, by rw [Nat.zero_add] at hZ; exact hZ.cg (fun j _ => by unfold ct; rw [if_neg (by omega), Nat.sub_zero])⟩
  clear hr hZ H3
  refine rest_set (d := 3) (v := v4) (w' := w4) rfl rfl rfl rfl ?_
  simp only [Act.put, sa, sz, ss]
  refine rest_nil (then_normal (wp_seq ?_))
  refine walk_seqA 1 [.quiet (v4)] (sB H4) ?ho3 ?he3
  case ho3 => exact ak (fun _ => ⟨rfl, fun _ _ => rfl⟩) trivial
  intro γ w5 l hM hl
  have M5 : Mm w5 [] := H4.out.1.grow hM (Nat.le_refl _) hl [] rfl (by decide)
  have B5 : Zo w γb [(γ1_0, ints .u8 (fun _ => 0) 32)] v4 n f w5 := Zo.step H4.out.2 (hM.below)
  clear hM hl l H4
  clear γ
  have H5 : Hid (_ ∧ _) := ⟨M5, B5⟩
  clear M5 B5
  refine rest_at (l := [1, 2, 3]) rfl ?_
  refine rest_set (d := 13) (v := .slice (some ⟨w5.heap.size, 0, none⟩) 1 1) (w' := (w5.alloc (.cells ([Z8 128] : List Value).toArray 5))) rfl rfl rfl (ex_bs1 (a := 128) rfl rfl) ?_
  simp only [Act.put, sa, sz, ss]
  have H6 : Hid (Mm (w5.alloc (.cells ([Z8 128] : List Value).toArray 5)) [] ∧ Zo w γb [(γ1_0, ints .u8 (fun _ => 0) 32)] v4 n f (w5.alloc (.cells ([Z8 128] : List Value).toArray 5))) := ⟨Mm.nil _, Zo.step H5.out.2 ((Below.refl _ _).alloc (Nat.le_refl _) _)⟩
  have c6 := cell_one w5 128
  have C6 : Hid _ := c6
  clear c6 H5
  generalize hgw : (w5.alloc (.cells ([Z8 128] : List Value).toArray 5)) = w6 at H6 C6 ⊢
  clear hgw
  generalize w5.heap.size = γs6 at C6 ⊢
  obtain ⟨v7, w7, hr, hZ⟩ := H6.out.2.app (a := ⟨γs6, 0, none⟩) 1 1 (fun _ => 128) (C6.out) (by omega) 22
  refine rest_set (d := 14) (v := v7) (w' := w7) rfl rfl rfl (ex_app rfl rfl rfl hr) ?_
  simp only [Act.put, sa, sz, ss]
  have H7 : Hid (Mm w7 [] ∧ Zo w γb [(γ1_0, ints .u8 (fun _ => 0) 32)] v7 (n + 1 + 0) (pz f n) w7) := ⟨Mm.nil _, hZ.cg (ct_snoc (pz_n f n) (pz_f f n))⟩
  clear hr hZ H6
  refine rest_set (d := 3) (v := v7) (w' := w7) rfl rfl rfl rfl ?_
  simp only [Act.put, sa, sz, ss]
  refine rest_nil (then_normal ?_)
  refine wp_seq (wp_block ?_)
  refine loop_ghost (α := Nat) (fun k a' w' => ∃ s0 : Nat → Value, a' = ⟨#[.slice (some a) n cp, undef, PT γ1_0 0, s0 3, undef, undef, undef, undef, undef, .slice (some ⟨γb, 0, none⟩) 0 0, .slice (some a) n cp, v4, v4, .slice (some ⟨γs6, 0, none⟩) 1 1, v7, s0 15, s0 16, s0 17, s0 18, s0 19, s0 20, s0 21, undef, undef, undef, undef, undef, undef, undef, undef, undef, undef, undef, undef, undef, undef, undef, undef, undef, undef, undef, undef, undef, undef, undef, undef, undef, undef, undef, undef, undef, undef, undef, undef, undef, undef, undef, undef, undef], []⟩ ∧ (Mm w' [] ∧ Zo w γb [(γ1_0, ints .u8 (fun _ => 0) 32)] (s0 3) (n + 1 + k) (pz f n) w') ∧ k ≤ zc n) (fun k => zc n - k) 0 ?st0 ?rd0
  case st0 => exact ⟨(slotfn [undef, undef, undef, v7, undef, undef, undef, undef, undef, undef, undef, undef, undef, undef, undef, undef, undef, undef, undef, undef, undef, undef]), rfl, ⟨H7.out.1, H7.out.2⟩, by omega⟩
  intro k a' w8 hI
  obtain ⟨s0, rfl, hMB, hk0⟩ := hI
  have H8 : Hid (_ ∧ _) := hMB
  clear hMB H7
  by_cases hlt : k < zc n
  · have hrd : True := trivial
    clear hrd
    obtain ⟨g3, cap3, e3⟩ := H8.out.2.form (by omega)
    rw [e3] at H8 ⊢
    clear e3
    refine wp_seq (wp_seq ?_)
    refine walk_seqA 4 [.quiet (.slice (some ⟨g3, 0, none⟩) (n + 1 + k) cap3), .quiet (.int .i64 (((n + 1 + k) : Nat) : Int)), .quiet (.int .i64 (((n + 1 + k) % 64 : Nat) : Int)), .quiet (.bool true)] (sB H8) ?ho4 ?he4
    case ho4 => exact ak (fun _ => ⟨rfl, fun _ _ => rfl⟩) (ak (by refine fun γ => ⟨rfl, fun w' h => ?_⟩; clear h; go_simp) (ak (fun γ => ⟨rfl, fun w' _ => ex_rem3 (a := (n + 1 + k)) (b := 64) (by omega) (by omega) rfl rfl rfl⟩) (ak (by refine fun γ => ⟨rfl, fun w' h => ?_⟩; clear h; go_simp <;> omega) trivial)))
    intro γ w9 l hM hl
    have M9 : Mm w9 [] := H8.out.1.grow hM (Nat.le_refl _) hl [] rfl (by decide)
    have B9 : Zo w γb [(γ1_0, ints .u8 (fun _ => 0) 32)] (.slice (some ⟨g3, 0, none⟩) (n + 1 + k) cap3) (n + 1 + k) (pz f n) w9 := Zo.step H8.out.2 (hM.below)
    clear hM hl l H8
    clear γ
    have H9 : Hid (_ ∧ _) := ⟨M9, B9⟩
    clear M9 B9
    refine rest0 rfl (then_normal (wp_cond_true rfl ?_))
    refine wp_skip (then_normal (wp_block ?_))
    refine walk_seqA 1 [.quiet (.slice (some ⟨g3, 0, none⟩) (n + 1 + k) cap3)] (sB H9) ?ho5 ?he5
    case ho5 => exact ak (fun _ => ⟨rfl, fun _ _ => rfl⟩) trivial
    intro γ w10 l hM hl
    have M10 : Mm w10 [] := H9.out.1.grow hM (Nat.le_refl _) hl [] rfl (by decide)
    have B10 : Zo w γb [(γ1_0, ints .u8 (fun _ => 0) 32)] (.slice (some ⟨g3, 0, none⟩) (n + 1 + k) cap3) (n + 1 + k) (pz f n) w10 := Zo.step H9.out.2 (hM.below)
    clear hM hl l H9
    clear γ
    have H10 : Hid (_ ∧ _) := ⟨M10, B10⟩
    clear M10 B10
    refine rest_at (l := [1, 2, 3]) rfl ?_
    refine rest_set (d := 20) (v := .slice (some ⟨w10.heap.size, 0, none⟩) 1 1) (w' := (w10.alloc (.cells ([Z8 0] : List Value).toArray 5))) rfl rfl rfl (ex_bs1 (a := 0) rfl rfl) ?_
    simp only [Act.put, sa, sz, ss]
    have H11 : Hid (Mm (w10.alloc (.cells ([Z8 0] : List Value).toArray 5)) [] ∧ Zo w γb [(γ1_0, ints .u8 (fun _ => 0) 32)] (.slice (some ⟨g3, 0, none⟩) (n + 1 + k) cap3) (n + 1 + k) (pz f n) (w10.alloc (.cells ([Z8 0] : List Value).toArray 5))) := ⟨Mm.nil _, Zo.step H10.out.2 ((Below.refl _ _).alloc (Nat.le_refl _) _)⟩
    have c11 := cell_one w10 0
    have C11 : Hid _ := c11
    clear c11 H10
    generalize hgw : (w10.alloc (.cells ([Z8 0] : List Value).toArray 5)) = w11 at H11 C11 ⊢
    clear hgw
    generalize w10.heap.size = γs11 at C11 ⊢
    obtain ⟨v12, w12, hr, hZ⟩ := H11.out.2.app (a := ⟨γs11, 0, none⟩) 1 1 (fun _ => 0) (C11.out) (by omega) 22
    refine rest_set (d := 21) (v := v12) (w' := w12) rfl rfl rfl (ex_app rfl rfl rfl hr) ?_
    simp only [Act.put, sa, sz, ss]
    have H12 : Hid (Mm w12 [] ∧ Zo w γb [(γ1_0, ints .u8 (fun _ => 0) 32)] v12 (n + 1 + (k + 1)) (pz f n) w12) := ⟨Mm.nil _, hZ.cg (ct_snoc (pz_z f n k))⟩
    clear hr hZ H11
    refine rest_set (d := 3) (v := v12) (w' := w12) rfl rfl rfl rfl ?_
    simp only [Act.put, sa, sz, ss]
    refine rest_nil (block_normal (then_normal ?_))
    exact ⟨k + 1, ⟨(slotfn [undef, undef, undef, v12, undef, undef, undef, undef, undef, undef, undef, undef, undef, undef, undef, .slice (some ⟨g3, 0, none⟩) (n + 1 + k) cap3, .int .i64 (((n + 1 + k) : Nat) : Int), .int .i64 (((n + 1 + k) % 64 : Nat) : Int), .bool true, .slice (some ⟨g3, 0, none⟩) (n + 1 + k) cap3, .slice (some ⟨γs11, 0, none⟩) 1 1, v12]), rfl, ⟨H12.out.1, H12.out.2⟩, by omega⟩, by omega⟩
  have hkN : k = zc n := by omega
  subst hkN
  obtain ⟨g3, cap3, e3⟩ := H8.out.2.form (by omega)
  rw [e3] at H8 ⊢
  clear e3
  refine wp_seq (wp_seq ?_)
  refine walk_seqA 4 [.quiet (.slice (some ⟨g3, 0, none⟩) (n + 1 + zc n) cap3), .quiet (.int .i64 (((n + 1 + zc n) : Nat) : Int)), .quiet (.int .i64 (((n + 1 + zc n) % 64 : Nat) : Int)), .quiet (.bool false)] (sB H8) ?ho6 ?he6
  case ho6 => exact ak (fun _ => ⟨rfl, fun _ _ => rfl⟩) (ak (by refine fun γ => ⟨rfl, fun w' h => ?_⟩; clear h; go_simp) (ak (fun γ => ⟨rfl, fun w' _ => ex_rem3 (a := (n + 1 + zc n)) (b := 64) (by omega) (by omega) rfl rfl rfl⟩) (ak (by refine fun γ => ⟨rfl, fun w' h => ?_⟩; clear h; go_simp <;> omega) trivial)))
  intro γ w13 l hM hl
  have M13 : Mm w13 [] := H8.out.1.grow hM (Nat.le_refl _) hl [] rfl (by decide)
  have B13 : Zo w γb [(γ1_0, ints .u8 (fun _ => 0) 32)] (.slice (some ⟨g3, 0, none⟩) (n + 1 + zc n) cap3) (n + 1 + zc n) (pz f n) w13 := Zo.step H8.out.2 (hM.below)
  clear hM hl l H8
  clear γ
  have H13 : Hid (_ ∧ _) := ⟨M13, B13⟩
  clear M13 B13
  refine rest0 rfl (then_normal (wp_cond_false rfl ?_))
  refine wp_exit ?_
  repeat refine then_exit ?_
  refine block_exit ?_
  refine then_normal (wp_seq ?_)
  refine walk_seqA 5 [.quiet (.slice (some ⟨g3, 0, none⟩) (n + 1 + zc n) cap3), .quiet (.slice (some a) n cp), .quiet (.int .i64 ((n : Nat) : Int)), .quiet (U (c64 n)), .quiet (U (c64 (8 * c64 n)))] (sB H13) ?ho7 ?he7
  case ho7 => exact ak (fun _ => ⟨rfl, fun _ _ => rfl⟩) (ak (fun _ => ⟨rfl, fun _ _ => rfl⟩) (ak (by refine fun γ => ⟨rfl, fun w' h => ?_⟩; clear h; go_simp) (ak (fun γ => ⟨rfl, fun w' _ => ex_cv3_56 (a := n) rfl rfl⟩) (ak (fun γ => ⟨rfl, fun w' _ => ex_mul64 rfl rfl rfl⟩) trivial))))
  intro γ w14 l hM hl
  have M14 : Mm w14 [] := H13.out.1.grow hM (Nat.le_refl _) hl [] rfl (by decide)
  have B14 : Zo w γb [(γ1_0, ints .u8 (fun _ => 0) 32)] (.slice (some ⟨g3, 0, none⟩) (n + 1 + zc n) cap3) (n + 1 + zc n) (pz f n) w14 := Zo.step H13.out.2 (hM.below)
  clear hM hl l H13
  clear γ
  have H14 : Hid (_ ∧ _) := ⟨M14, B14⟩
  clear M14 B14
  refine rest_at (l := [5, 6, 7]) rfl ?_
  refine rest_enter (d := 27) rfl rfl rfl (exec_call (args := #[U (c64 (8 * c64 n))]) rfl call47 rfl (mpn rfl)) ((Calls.mono (Eight_any (c64 (8 * (c64 n))) w14) (fun e w2 hh => by obtain ⟨hb, g, cap, he, hR⟩ := hh; exact ⟨_, he, hb, g, cap, rfl, hR⟩) : Calls Tryd.prog 47 #[U (c64 (8 * (c64 n)))] w14 (fun e w' => ∃ v, e = .returned v ∧ (Below w14.heap.size w14 w' ∧ ∃ g cap, v = .slice (some ⟨g, 0, none⟩) 8 cap ∧ Rs g 0 8 (b8 (c64 (8 * (c64 n)))) w')))) ?_
  rintro _ w15 ⟨hb, g8, cap8, rfl, hR8⟩
  have H15 : Hid (Mm w15 [] ∧ Zo w γb [(γ1_0, ints .u8 (fun _ => 0) 32)] (.slice (some ⟨g3, 0, none⟩) (n + 1 + zc n) cap3) (n + 1 + zc n) (pz f n) w15) := ⟨Mm.nil _, Zo.step H14.out.2 hb⟩
  have R8 : Hid _ := hR8
  clear hb hR8 H14
  simp only [Act.put, sa, sz, ss]
  obtain ⟨v16, w16, hr, hZ⟩ := H15.out.2.app (a := ⟨g8, 0, none⟩) 8 cap8 (b8 (c64 (8 * (c64 n)))) (R8.out.add) (by omega) 22
  refine rest_set (d := 28) (v := v16) (w' := w16) rfl rfl rfl (ex_app rfl rfl rfl hr) ?_
  simp only [Act.put, sa, sz, ss]
  have H16 : Hid (Mm w16 [] ∧ Zo w γb [(γ1_0, ints .u8 (fun _ => 0) 32)] v16 (pn n) (pd f n) w16) := ⟨Mm.nil _, hZ⟩
  clear hr hZ H15
  refine rest_set (d := 3) (v := v16) (w' := w16) rfl rfl rfl rfl ?_
  simp only [Act.put, sa, sz, ss]
  refine rest_nil ?_
  obtain ⟨g9, cap9, e9⟩ := H16.out.2.form (by omega)
  rw [e9] at H16 ⊢
  have HB : Hid _ := H16.out.2.b
  have HM := H16.out.2.m
  have HR : Hid (Rs g9 0 (pn n) (pd f n) w16) := H16.out.2.rs
  have HN : Hid (g9 ≠ γ1_0) := (by have a1 := (World.ownsRow.lt H16.out.2.own g9 rfl).1; have a2 := H16.out.2.lt _ (List.mem_singleton.2 rfl); intro e; have a3 : γ1_0 < γb := a2; omega : g9 ≠ γ1_0)
  clear H16 e9
  generalize w16 = w at HB HM HR ⊢
  have H17 : Hid (_ ∧ _) := ⟨HM, Kp.refl γ1_0 w⟩
  clear HM
  refine then_normal (wp_seq ?_)
  refine walk_seqA 3 [.call (.agg (ints .u32 fT 8).toArray), .made (ints .u32 (fun _ => 0) 8) 52, .laid 1 (ints .u32 (fun _ => 0) 8) (ints .u32 fT 8)] (sB H17) ?ho8 ?he8 (hL := ?hL8)
  case hL8 => exact ⟨⟨_, rfl⟩, trivial⟩
  case ho8 => exact ak (fun γ => ⟨rfl, fun w' h => ⟨48, #[], exec_call rfl call48 rfl (mpn rfl), begin_any w'⟩⟩) (ak (fun γ => ⟨rfl, fun w' => ex_mk52 rfl⟩) (ak (fun γ => ⟨rfl, rfl, (ints_len _ _ _).trans (ints_len _ _ _).symm, fun w' h => ex_laidI h Tryd.sizeOf52 rfl rfl rfl⟩) trivial))
  intro γ w18 l hM hl
  have H18 : Hid (Mm w18 [(γ 1, ints .u32 fT 8), (γ1_0, ints .u8 (fun _ => 0) 32)] ∧ _) := growK H17 hM (Nat.le_refl _) hl [1] rfl (by decide)
  have o8_1 := ownK H17 hM (Nat.le_refl _) hl (i := 1) rfl
  clear hM hl l H17
  generalize γ 1 = γ8_1 at H18 o8_1 ⊢
  clear γ
  refine rest0 rfl (then_normal (wp_seq ?_))
  refine walk_seqA 3 [.call (.agg (ints .u32 kT 64).toArray), .made (ints .u32 (fun _ => 0) 64) 78, .laid 1 (ints .u32 (fun _ => 0) 64) (ints .u32 kT 64)] (sB H18) ?ho9 ?he9 (hL := ?hL9)
  case hL9 => exact ⟨⟨_, rfl⟩, trivial⟩
  case ho9 => exact ak (fun γ => ⟨rfl, fun w' h => ⟨49, #[], exec_call rfl call49 rfl (mpn rfl), table_any w'⟩⟩) (ak (fun γ => ⟨rfl, fun w' => ex_mk78 rfl⟩) (ak (fun γ => ⟨rfl, rfl, (ints_len _ _ _).trans (ints_len _ _ _).symm, fun w' h => ex_laidI h Tryd.sizeOf78 rfl rfl rfl⟩) trivial))
  intro γ w19 l hM hl
  have H19 : Hid (Mm w19 [(γ 1, ints .u32 kT 64), (γ8_1, ints .u32 fT 8), (γ1_0, ints .u8 (fun _ => 0) 32)] ∧ _) := growK H18 hM (Nat.le_refl _) hl [1] rfl (by decide)
  have o9_1 := ownK H18 hM (Nat.le_refl _) hl (i := 1) rfl
  clear hM hl l H18
  generalize γ 1 = γ9_1 at H19 o9_1 ⊢
  clear γ
  refine rest0 rfl (then_normal (wp_seq (wp_seq ?_)))
  refine walk_seqA 1 [.quiet (.int .i64 0)] (sB H19) ?ho10 ?he10
  case ho10 => exact ak (fun _ => ⟨rfl, fun _ _ => rfl⟩) trivial
  intro γ w20 l hM hl
  have H20 := keepK H19 hM.below
  clear hM hl l H19 γ
  refine rest0 rfl (then_normal (wp_block ?_))
  refine loop_ghost (α := Nat) (fun k a' w' => ∃ s2 : Nat → Value, a' = ⟨#[.slice (some a) n cp, undef, PT γ1_0 0, .slice (some ⟨g9, 0, none⟩) (pn n) cap9, PT γ8_1 0, PT γ9_1 0, .int .i64 ((64 * k : Nat) : Int), undef, undef, .slice (some ⟨γb, 0, none⟩) 0 0, .slice (some a) n cp, v4, v4, .slice (some ⟨γs6, 0, none⟩) 1 1, v7, .slice (some ⟨g3, 0, none⟩) (n + 1 + zc n) cap3, .int .i64 (((n + 1 + zc n) : Nat) : Int), .int .i64 (((n + 1 + zc n) % 64 : Nat) : Int), .bool false, s0 19, s0 20, s0 21, .slice (some ⟨g3, 0, none⟩) (n + 1 + zc n) cap3, .slice (some a) n cp, .int .i64 ((n : Nat) : Int), U (c64 n), U (c64 (8 * c64 n)), .slice (some ⟨g8, 0, none⟩) 8 cap8, .slice (some ⟨g9, 0, none⟩) (pn n) cap9, .agg (ints .u32 fT 8).toArray, .agg (ints .u32 kT 64).toArray, s2 31, s2 32, s2 33, s2 34, s2 35, s2 36, s2 37, s2 38, s2 39, s2 40, s2 41, undef, undef, undef, undef, undef, undef, undef, undef, undef, undef, undef, undef, undef, undef, undef, undef, undef], []⟩ ∧ (Mm w' [(γ9_1, ints .u32 kT 64), (γ8_1, ints .u32 (hd (pd f n) k) 8), (γ1_0, ints .u8 (fun _ => 0) 32)] ∧ Kp γ1_0 w w') ∧ k ≤ nb n) (fun k => nb n - k) 0 ?st2 ?rd2
  case st2 => exact ⟨(slotfn [undef, undef, undef, undef, undef, undef, undef, undef, undef, undef, undef, undef, undef, undef, undef, undef, undef, undef, undef, undef, undef, undef, undef, undef, undef, undef, undef, undef, undef, undef, undef, undef, undef, undef, undef, undef, undef, undef, undef, undef, undef, undef]), rfl, ⟨H20.out.1, H20.out.2⟩, by omega⟩
  intro k a' w21 hI
  obtain ⟨s2, rfl, hMB, hk2⟩ := hI
  have H21 : Hid (_ ∧ _) := hMB
  clear hMB H20
  by_cases hltk : k < nb n
  · have hrd : True := trivial
    clear hrd
    refine wp_seq (wp_seq ?_)
    refine walk_seqA 4 [.quiet (.int .i64 ((64 * k : Nat) : Int)), .quiet (.slice (some ⟨g9, 0, none⟩) (pn n) cap9), .quiet (.int .i64 (((pn n) : Nat) : Int)), .quiet (.bool true)] (sB H21) ?ho11 ?he11
    case ho11 => exact ak (fun _ => ⟨rfl, fun _ _ => rfl⟩) (ak (fun _ => ⟨rfl, fun _ _ => rfl⟩) (ak (by refine fun γ => ⟨rfl, fun w' h => ?_⟩; clear h; go_simp) (ak (by refine fun γ => ⟨rfl, fun w' h => ?_⟩; clear h; go_simp <;> omega) trivial)))
    intro γ w22 l hM hl
    have H22 := keepK H21 hM.below
    clear hM hl l H21 γ
    refine rest0 rfl (then_normal (wp_cond_true rfl ?_))
    refine wp_skip (then_normal ?_)
    refine wp_seq (wp_block ?_)
    refine (walk_seq) 5 [.quiet (.agg (ints .u32 (hd (pd f n) k) 8).toArray), .quiet (.agg (ints .u32 kT 64).toArray), .quiet (.slice (some ⟨g9, 0, none⟩) (pn n) cap9), .quiet (.int .i64 ((64 * k : Nat) : Int)), .call (.agg (ints .u32 (db (hd (pd f n) k) kT (pd f n) (64 * k)) 8).toArray)] (fun u' => Mm u' [(γ9_1, ints .u32 kT 64), (γ8_1, ints .u32 (hd (pd f n) k) 8), (γ1_0, ints .u8 (fun _ => 0) 32)] ∧ Rs g9 0 (pn n) (pd f n) u') ?pre12 ?F12 ?hpre12 (fun γ => ?hF12) (by kernel_rfl) ?hL12 ?hS12 ?ho12 ?he12
    case hpre12 => simp only [tk, tz]; rfl
    case hF12 => simp only [fill, Kind.val, Act.put, sa, sz, ss]; rfl
    case hL12 => exact trivial
    case hS12 => exact fun w' hb => ⟨H22.out.1.below hb, HR.out.kp2 (H22.out.2.trans (hb)) HN.out⟩
    case ho12 =>
      refine ak (fun γ => ⟨rfl, fun w' hX => have h := hX.1; ex_loadT h 1 rfl rfl rfl Tryd.isAgg52 Tryd.sizeOf52 (ints_whole _ _ _) (ints_len _ _ _)⟩) ?_
      refine ak (fun γ => ⟨rfl, fun w' hX => have h := hX.1; ex_loadT h 0 rfl rfl rfl Tryd.isAgg78 Tryd.sizeOf78 (ints_whole _ _ _) (ints_len _ _ _)⟩) ?_
      refine ak (fun _ => ⟨rfl, fun _ _ => rfl⟩) ?_
      refine ak (fun _ => ⟨rfl, fun _ _ => rfl⟩) ?_
      refine ak (fun γ => ⟨rfl, fun w' hX => ⟨50, #[.agg (ints .u32 (hd (pd f n) k) 8).toArray, .agg (ints .u32 kT 64).toArray, .slice (some ⟨g9, 0, none⟩) (pn n) cap9, .int .i64 ((64 * k : Nat) : Int)], exec_call rfl call50 rfl (mpn rfl), block_any (hd (pd f n) k) kT (pd f n) g9 (pn n) cap9 (64 * k) (by omega) (by omega) w' hX.2⟩⟩) ?_
      exact trivial
    intro γ w23 l hM hl
    have H23 := keepK H22 hM.below
    clear hM hl l H22 γ
    refine rest_at (l := [5]) rfl ?_
    refine rest_store rfl rfl rfl (ex_storeT (vs := ints .u32 (db (hd (pd f n) k) kT (pd f n) (64 * k)) 8) H23.out.1 1 rfl rfl rfl rfl (by rw [ints_len]; exact Tryd.sizeOf52) (ints_all _ _ _) (by simp [ints_len])) ?_
    have H24 : Hid (Mm (w23.setCells γ8_1 0 (ints .u32 (db (hd (pd f n) k) kT (pd f n) (64 * k)) 8)) [(γ9_1, ints .u32 kT 64), (γ8_1, ints .u32 (db (hd (pd f n) k) kT (pd f n) (64 * k)) 8), (γ1_0, ints .u8 (fun _ => 0) 32)] ∧ Kp γ1_0 w (w23.setCells γ8_1 0 (ints .u32 (db (hd (pd f n) k) kT (pd f n) (64 * k)) 8))) := ⟨by
      have h := H23.out.1.put 1 (off := 0) (vs := ints .u32 (db (hd (pd f n) k) kT (pd f n) (64 * k)) 8) rfl (by simp [ints_len])
      rw [ints_patch0 _ _ _ _] at h
      exact h, H23.out.2.put (Or.inr o8_1.out)⟩
    clear H23
    generalize hgw : World.setCells _ _ _ _ = w24 at H24 ⊢
    clear hgw
    refine rest_nil (block_normal (then_normal ?_))
    refine walk_seqA 2 [.quiet (.int .i64 ((64 * k : Nat) : Int)), .quiet (.int .i64 (((64 * k) + 64 : Nat) : Int))] (sB H24) ?ho13 ?he13
    case ho13 => exact ak (fun _ => ⟨rfl, fun _ _ => rfl⟩) (ak (by refine fun γ => ⟨rfl, fun w' h => ?_⟩; clear h; go_simp; rw [IntKind.wrap_i64]; omega) trivial)
    intro γ w25 l hM hl
    have H25 := keepK H24 hM.below
    clear hM hl l H24 γ
    refine rest_at (l := [2]) rfl ?_
    refine rest_set (d := 6) (v := .int .i64 (((64 * k) + 64 : Nat) : Int)) (w' := w25) rfl rfl rfl rfl ?_
    simp only [Act.put, sa, sz, ss]
    refine rest_nil (then_normal ?_)
    exact ⟨k + 1, ⟨(slotfn [undef, undef, undef, undef, undef, undef, undef, undef, undef, undef, undef, undef, undef, undef, undef, undef, undef, undef, undef, undef, undef, undef, undef, undef, undef, undef, undef, undef, undef, undef, undef, .int .i64 ((64 * k : Nat) : Int), .slice (some ⟨g9, 0, none⟩) (pn n) cap9, .int .i64 (((pn n) : Nat) : Int), .bool true, .int .i64 ((64 * k : Nat) : Int), .int .i64 (((64 * k) + 64 : Nat) : Int), .agg (ints .u32 (hd (pd f n) k) 8).toArray, .agg (ints .u32 kT 64).toArray, .slice (some ⟨g9, 0, none⟩) (pn n) cap9, .int .i64 ((64 * k : Nat) : Int), .agg (ints .u32 (db (hd (pd f n) k) kT (pd f n) (64 * k)) 8).toArray]), rfl, ⟨H25.out.1, H25.out.2⟩, by omega⟩, by omega⟩
  have hkN : k = nb n := by omega
  subst hkN
  refine wp_seq (wp_seq ?_)
  refine walk_seqA 4 [.quiet (.int .i64 ((64 * (nb n) : Nat) : Int)), .quiet (.slice (some ⟨g9, 0, none⟩) (pn n) cap9), .quiet (.int .i64 (((pn n) : Nat) : Int)), .quiet (.bool false)] (sB H21) ?ho14 ?he14
  case ho14 => exact ak (fun _ => ⟨rfl, fun _ _ => rfl⟩) (ak (fun _ => ⟨rfl, fun _ _ => rfl⟩) (ak (by refine fun γ => ⟨rfl, fun w' h => ?_⟩; clear h; go_simp) (ak (by refine fun γ => ⟨rfl, fun w' h => ?_⟩; clear h; go_simp <;> omega) trivial)))
  intro γ w26 l hM hl
  have H26 := keepK H21 hM.below
  clear hM hl l H21 γ
  refine rest0 rfl (then_normal (wp_cond_false rfl ?_))
  refine wp_exit ?_
  repeat refine then_exit ?_
  refine block_exit ?_
  refine then_normal (wp_seq ?_)
  refine walk_seqA 1 [.made (ints .u8 (fun _ => 0) 32) 25] (sB H26) ?ho15 ?he15
  case ho15 => exact ak (fun γ => ⟨rfl, fun w' => ex_mk25 rfl⟩) trivial
  intro γ w27 l hM hl
  have H27 : Hid (Mm w27 [(γ 0, ints .u8 (fun _ => 0) 32), (γ9_1, ints .u32 kT 64), (γ8_1, ints .u32 (hd (pd f n) (nb n)) 8), (γ1_0, ints .u8 (fun _ => 0) 32)] ∧ _) := growK H26 hM (Nat.le_refl _) hl [0] rfl (by decide)
  have o15_0 := ownK H26 hM (Nat.le_refl _) hl (i := 0) rfl
  clear hM hl l H26
  generalize γ 0 = γ15_0 at H27 o15_0 ⊢
  clear γ
  refine rest0 rfl (then_normal (wp_seq (wp_seq ?_)))
  refine walk_seqA 1 [.quiet (.int .i64 0)] (sB H27) ?ho16 ?he16
  case ho16 => exact ak (fun _ => ⟨rfl, fun _ _ => rfl⟩) trivial
  intro γ w28 l hM hl
  have H28 := keepK H27 hM.below
  clear hM hl l H27 γ
  refine rest0 rfl (then_normal (wp_block ?_))
  refine loop_ghost (α := Nat) (fun i a' w' => ∃ s4 : Nat → Value, a' = ⟨#[.slice (some a) n cp, undef, PT γ1_0 0, .slice (some ⟨g9, 0, none⟩) (pn n) cap9, PT γ8_1 0, PT γ9_1 0, .int .i64 ((64 * (nb n) : Nat) : Int), PT γ15_0 0, .int .i64 ((i : Nat) : Int), .slice (some ⟨γb, 0, none⟩) 0 0, .slice (some a) n cp, v4, v4, .slice (some ⟨γs6, 0, none⟩) 1 1, v7, .slice (some ⟨g3, 0, none⟩) (n + 1 + zc n) cap3, .int .i64 (((n + 1 + zc n) : Nat) : Int), .int .i64 (((n + 1 + zc n) % 64 : Nat) : Int), .bool false, s0 19, s0 20, s0 21, .slice (some ⟨g3, 0, none⟩) (n + 1 + zc n) cap3, .slice (some a) n cp, .int .i64 ((n : Nat) : Int), U (c64 n), U (c64 (8 * c64 n)), .slice (some ⟨g8, 0, none⟩) 8 cap8, .slice (some ⟨g9, 0, none⟩) (pn n) cap9, .agg (ints .u32 fT 8).toArray, .agg (ints .u32 kT 64).toArray, .int .i64 ((64 * (nb n) : Nat) : Int), .slice (some ⟨g9, 0, none⟩) (pn n) cap9, .int .i64 (((pn n) : Nat) : Int), .bool false, s2 35, s2 36, s2 37, s2 38, s2 39, s2 40, s2 41, s4 42, s4 43, s4 44, s4 45, s4 46, s4 47, s4 48, s4 49, s4 50, s4 51, s4 52, s4 53, s4 54, s4 55, s4 56, s4 57, undef], []⟩ ∧ (Mm w' [(γ15_0, ints .u8 (ob (hd (pd f n) (nb n)) i) 32), (γ9_1, ints .u32 kT 64), (γ8_1, ints .u32 (hd (pd f n) (nb n)) 8), (γ1_0, ints .u8 (fun _ => 0) 32)] ∧ Kp γ1_0 w w') ∧ i ≤ 32) (fun i => 32 - i) 0 ?st4 ?rd4
  case st4 => exact ⟨(slotfn [undef, undef, undef, undef, undef, undef, undef, undef, undef, undef, undef, undef, undef, undef, undef, undef, undef, undef, undef, undef, undef, undef, undef, undef, undef, undef, undef, undef, undef, undef, undef, undef, undef, undef, undef, undef, undef, undef, undef, undef, undef, undef, undef, undef, undef, undef, undef, undef, undef, undef, undef, undef, undef, undef, undef, undef, undef, undef]), rfl, ⟨H28.out.1, H28.out.2⟩, by omega⟩
  intro i a' w29 hI
  obtain ⟨s4, rfl, hMB, hk4⟩ := hI
  have H29 : Hid (_ ∧ _) := hMB
  clear hMB H28
  by_cases hlti : i < 32
  · have hrd : True := trivial
    clear hrd
    refine wp_seq (wp_seq ?_)
    refine walk_seqA 2 [.quiet (.int .i64 ((i : Nat) : Int)), .quiet (.bool true)] (sB H29) ?ho17 ?he17
    case ho17 => exact ak (fun _ => ⟨rfl, fun _ _ => rfl⟩) (ak (by refine fun γ => ⟨rfl, fun w' h => ?_⟩; clear h; go_simp <;> omega) trivial)
    intro γ w30 l hM hl
    have H30 := keepK H29 hM.below
    clear hM hl l H29 γ
    refine rest0 rfl (then_normal (wp_cond_true rfl ?_))
    refine wp_skip (then_normal ?_)
    refine wp_seq (wp_block ?_)
    refine walk_seqA 12 [.quiet (.int .i64 ((i : Nat) : Int)), .quiet (.int .i64 ((i : Nat) : Int)), .quiet (.int .i64 ((i / 4 : Nat) : Int)), .quiet (PT γ8_1 (i / 4)), .quiet (W32 ((hd (pd f n) (nb n)) (i / 4))), .quiet (.int .i64 ((i : Nat) : Int)), .quiet (.int .i64 ((i % 4 : Nat) : Int)), .quiet (.int .i64 ((8 * (i % 4) : Nat) : Int)), .quiet (.int .i64 ((24 - (8 * (i % 4)) : Nat) : Int)), .quiet (W32 (sr ((hd (pd f n) (nb n)) (i / 4)) (24 - (8 * (i % 4))))), .quiet (Z8 ((sr ((hd (pd f n) (nb n)) (i / 4)) (24 - (8 * (i % 4)))) % 256)), .quiet (PT γ15_0 i)] (sB H30) ?ho18 ?he18
    case ho18 => exact ak (fun _ => ⟨rfl, fun _ _ => rfl⟩) (ak (fun _ => ⟨rfl, fun _ _ => rfl⟩) (ak (fun γ => ⟨rfl, fun w' _ => ex_quo3 (a := i) (b := 4) (by omega) (by omega) rfl rfl rfl⟩) (ak (fun γ => ⟨rfl, fun w' _ => ex_ix0_52 (j := i / 4) rfl rfl rfl (by omega)⟩) (ak (fun γ => ⟨rfl, fun w' h => ex_loadC h 2 rfl rfl rfl Tryd.isAgg51 (ints_get _ _ (by omega))⟩) (ak (fun _ => ⟨rfl, fun _ _ => rfl⟩) (ak (fun γ => ⟨rfl, fun w' _ => ex_rem3 (a := i) (b := 4) (by omega) (by omega) rfl rfl rfl⟩) (ak (by refine fun γ => ⟨rfl, fun w' h => ?_⟩; clear h; go_simp; rw [IntKind.wrap_i64]; omega) (ak (by refine fun γ => ⟨rfl, fun w' h => ?_⟩; clear h; go_simp; rw [IntKind.wrap_i64]; omega) (ak (fun γ => ⟨rfl, fun w' _ => ex_shr32 (k := 24 - (8 * (i % 4))) (by omega) rfl rfl rfl⟩) (ak (fun γ => ⟨rfl, fun w' _ => ex_cv51_5 rfl rfl⟩) (ak (fun γ => ⟨rfl, fun w' _ => ex_ix0_25 (j := i) rfl rfl rfl (by omega)⟩) trivial)))))))))))
    intro γ w31 l hM hl
    have H31 := keepK H30 hM.below
    clear hM hl l H30 γ
    refine rest_at (l := [12]) rfl ?_
    refine rest_store rfl rfl rfl (ex_storeI H31.out.1 0 rfl rfl Tryd.sizeOf5 rfl rfl (by rw [ints_len]; omega)) ?_
    have H32 : Hid (Mm (w31.setCells γ15_0 i ([Z8 ((sr ((hd (pd f n) (nb n)) (i / 4)) (24 - (8 * (i % 4)))) % 256)])) [(γ15_0, ints .u8 (up (ob (hd (pd f n) (nb n)) i) i ((sr ((hd (pd f n) (nb n)) (i / 4)) (24 - (8 * (i % 4)))) % 256)) 32), (γ9_1, ints .u32 kT 64), (γ8_1, ints .u32 (hd (pd f n) (nb n)) 8), (γ1_0, ints .u8 (fun _ => 0) 32)] ∧ Kp γ1_0 w (w31.setCells γ15_0 i ([Z8 ((sr ((hd (pd f n) (nb n)) (i / 4)) (24 - (8 * (i % 4)))) % 256)]))) := ⟨by
      have h := H31.out.1.put 0 (off := i) (vs := [Z8 ((sr ((hd (pd f n) (nb n)) (i / 4)) (24 - (8 * (i % 4)))) % 256)]) rfl (by rw [ints_len]; simp only [List.length_cons, List.length_nil]; omega)
      rw [ints_patch _ _ _ _ (by omega)] at h
      exact h, H31.out.2.put (Or.inr o15_0.out)⟩
    clear H31
    generalize hgw : World.setCells _ _ _ _ = w32 at H32 ⊢
    clear hgw
    refine rest_nil (block_normal (then_normal ?_))
    refine walk_seqA 2 [.quiet (.int .i64 ((i : Nat) : Int)), .quiet (.int .i64 ((i + 1 : Nat) : Int))] (sB H32) ?ho19 ?he19
    case ho19 => exact ak (fun _ => ⟨rfl, fun _ _ => rfl⟩) (ak (by refine fun γ => ⟨rfl, fun w' h => ?_⟩; clear h; go_simp; rw [IntKind.wrap_i64]; omega) trivial)
    intro γ w33 l hM hl
    have H33 := keepK H32 hM.below
    clear hM hl l H32 γ
    refine rest_at (l := [2]) rfl ?_
    refine rest_set (d := 8) (v := .int .i64 ((i + 1 : Nat) : Int)) (w' := w33) rfl rfl rfl rfl ?_
    simp only [Act.put, sa, sz, ss]
    refine rest_nil (then_normal ?_)
    exact ⟨i + 1, ⟨(slotfn [undef, undef, undef, undef, undef, undef, undef, undef, undef, undef, undef, undef, undef, undef, undef, undef, undef, undef, undef, undef, undef, undef, undef, undef, undef, undef, undef, undef, undef, undef, undef, undef, undef, undef, undef, undef, undef, undef, undef, undef, undef, undef, .int .i64 ((i : Nat) : Int), .bool true, .int .i64 ((i : Nat) : Int), .int .i64 ((i + 1 : Nat) : Int), .int .i64 ((i : Nat) : Int), .int .i64 ((i : Nat) : Int), .int .i64 ((i / 4 : Nat) : Int), PT γ8_1 (i / 4), W32 ((hd (pd f n) (nb n)) (i / 4)), .int .i64 ((i : Nat) : Int), .int .i64 ((i % 4 : Nat) : Int), .int .i64 ((8 * (i % 4) : Nat) : Int), .int .i64 ((24 - (8 * (i % 4)) : Nat) : Int), W32 (sr ((hd (pd f n) (nb n)) (i / 4)) (24 - (8 * (i % 4)))), Z8 ((sr ((hd (pd f n) (nb n)) (i / 4)) (24 - (8 * (i % 4)))) % 256), PT γ15_0 i]), rfl, ⟨H33.out.1, H33.out.2⟩, by omega⟩, by omega⟩
  have hiN : i = 32 := by omega
  subst hiN
  refine wp_seq (wp_seq ?_)
  refine walk_seqA 2 [.quiet (.int .i64 ((32 : Nat) : Int)), .quiet (.bool false)] (sB H29) ?ho20 ?he20
  case ho20 => exact ak (fun _ => ⟨rfl, fun _ _ => rfl⟩) (ak (by refine fun γ => ⟨rfl, fun w' h => ?_⟩; clear h; go_simp <;> omega) trivial)
  intro γ w34 l hM hl
  have H34 := keepK H29 hM.below
  clear hM hl l H29 γ
  refine rest0 rfl (then_normal (wp_cond_false rfl ?_))
  refine wp_exit ?_
  repeat refine then_exit ?_
  refine block_exit ?_
  refine then_normal (wp_seq ?_)
  refine walk_seqA 1 [.quiet (.agg (ints .u8 (ob (hd (pd f n) (nb n)) 32) 32).toArray)] (sB H34) ?ho21 ?he21
  case ho21 => exact ak (fun γ => ⟨rfl, fun w' h => ex_loadT h 0 rfl rfl rfl Tryd.isAgg25 Tryd.sizeOf25 (ints_whole _ _ _) (ints_len _ _ _)⟩) trivial
  intro γ w35 l hM hl
  have H35 := keepK H34 hM.below
  clear hM hl l H34 γ
  refine rest_at (l := [1]) rfl ?_
  refine rest_store rfl rfl rfl (ex_storeT (vs := ints .u8 (ob (hd (pd f n) (nb n)) 32) 32) H35.out.1 3 rfl rfl rfl rfl (by rw [ints_len]; exact Tryd.sizeOf25) (ints_all _ _ _) (by simp [ints_len])) ?_
  have H36 : Hid (Mm (w35.setCells γ1_0 0 (ints .u8 (ob (hd (pd f n) (nb n)) 32) 32)) [(γ15_0, ints .u8 (ob (hd (pd f n) (nb n)) 32) 32), (γ9_1, ints .u32 kT 64), (γ8_1, ints .u32 (hd (pd f n) (nb n)) 8), (γ1_0, ints .u8 (ob (hd (pd f n) (nb n)) 32) 32)] ∧ Kp γ1_0 w (w35.setCells γ1_0 0 (ints .u8 (ob (hd (pd f n) (nb n)) 32) 32))) := ⟨by
    have h := H35.out.1.put 3 (off := 0) (vs := ints .u8 (ob (hd (pd f n) (nb n)) 32) 32) rfl (by simp [ints_len])
    rw [ints_patch0 _ _ _ _] at h
    exact h, H35.out.2.put (Or.inl rfl)⟩
  clear H35
  generalize hgw : World.setCells _ _ _ _ = w36 at H36 ⊢
  clear hgw
  refine rest_nil (then_normal (wp_ret ?_))
  repeat (first | refine then_ret ?_ | refine block_ret ?_)
  have hf0 := var_T H36.out.1 3 rfl Tryd.isAgg25 Tryd.sizeOf25 (ints_len _ _ _)
  refine bodyPost_ret (v := .agg (ints .u8 (ob (hd (pd f n) (nb n)) 32) 32).toArray) (by simp [results, Tryd.results15, asAddr, hf0]) rfl ?_
  exact ⟨rfl, Below.kp HB.out H36.out.2 o1_0.out HB.out.size⟩
set_option maxHeartbeats 4000000 in
set_option maxRecDepth 100000 in
theorem dSum_none (f : Nat → Nat) (n : Nat) (hn : n ≤ 1048576) (h0 : n = 0) (w : World) :
    Calls Tryd.prog 15 #[.slice none 0 0] w fun e w' => e = .returned (.agg (ints .u8 (ds f n) 32).toArray) ∧ Below w.heap.size w w' := by
  have H0 : Hid (_ ∧ _) := ⟨Mm.nil w, Below.refl w.heap.size w⟩
  have hn0 : Hid (n = 0) := h0
  clear h0
  have hz : zc n = (120 - (n + 1) % 64) % 64 := rfl
  have hN : pn n = n + 1 + zc n + 8 := rfl
  have hM := nb_pn n
  go_enter Tryd.func15, Tryd.ntmps15
  refine wp_seq ?_
  refine walk_seqA 1 [.made (ints .u8 (fun _ => 0) 32) 25] (sB H0) ?ho1 ?he1
  case ho1 => exact ak (fun γ => ⟨rfl, fun w' => ex_mk25 rfl⟩) trivial
  intro γ w1 l hM hl
  have H1 : Hid (Mm w1 [(γ 0, ints .u8 (fun _ => 0) 32)] ∧ _) := growB H0 hM (Nat.le_refl _) hl [0] rfl (by decide)
  have o1_0 := ownB H0 hM (Nat.le_refl _) hl (i := 0) rfl
  clear hM hl l
  generalize γ 0 = γ1_0 at H1 o1_0 ⊢
  clear γ
  refine rest0 rfl (then_normal (wp_seq ?_))
  refine walk_seqB 0 [] H1 ?ho2 ?he2
  case ho2 => exact trivial
  intro _ w2 H2
  clear H1
  refine rest_at (l := [0, 1, 2, 3]) rfl ?_
  refine rest_set (d := 9) (v := .slice (some ⟨w2.heap.size, 0, none⟩) 0 0) (w' := (w2.alloc (.cells #[] 5))) rfl rfl rfl (ex_bs0 rfl) ?_
  simp only [Act.put, sa, sz, ss]
  have H3 : Hid (Mm (w2.alloc (.cells #[] 5)) [] ∧ Zo w w2.heap.size [(γ1_0, ints .u8 (fun _ => 0) 32)] (.slice (some ⟨w2.heap.size, 0, none⟩) 0 0) 0 f (w2.alloc (.cells #[] 5))) := ⟨Mm.nil _, Zo.made f H2.out.1 H2.out.2⟩
  clear H2
  generalize hgw : (w2.alloc (.cells #[] 5)) = w3 at H3 ⊢
  clear hgw
  generalize w2.heap.size = γb at H3 ⊢
  refine rest_set (d := 10) (v := .slice none 0 0) (w' := w3) rfl rfl rfl rfl ?_
  simp only [Act.put, sa, sz, ss]
  refine rest_set (d := 11) (v := .slice (some ⟨γb, 0, none⟩) 0 0) (w' := w3) rfl rfl rfl (ex_app rfl rfl rfl (H3.out.2.app0 22)) ?_
  simp only [Act.put, sa, sz, ss]
  have H4 : Hid (Mm w3 [] ∧ Zo w γb [(γ1_0, ints .u8 (fun _ => 0) 32)] (.slice (some ⟨γb, 0, none⟩) 0 0) n f w3) := ⟨Mm.nil _, by rw [hn0.out]; exact H3.out.2⟩
  clear H3
  refine rest_set (d := 3) (v := .slice (some ⟨γb, 0, none⟩) 0 0) (w' := w3) rfl rfl rfl rfl ?_
  simp only [Act.put, sa, sz, ss]
  refine rest_nil (then_normal (wp_seq ?_))
  refine walk_seqA 1 [.quiet (.slice (some ⟨γb, 0, none⟩) 0 0)] (sB H4) ?ho3 ?he3
  case ho3 => exact ak (fun _ => ⟨rfl, fun _ _ => rfl⟩) trivial
  intro γ w5 l hM hl
  have M5 : Mm w5 [] := H4.out.1.grow hM (Nat.le_refl _) hl [] rfl (by decide)
  have B5 : Zo w γb [(γ1_0, ints .u8 (fun _ => 0) 32)] (.slice (some ⟨γb, 0, none⟩) 0 0) n f w5 := Zo.step H4.out.2 (hM.below)
  clear hM hl l H4
  clear γ
  have H5 : Hid (_ ∧ _) := ⟨M5, B5⟩
  clear M5 B5
  refine rest_at (l := [1, 2, 3]) rfl ?_
  refine rest_set (d := 13) (v := .slice (some ⟨w5.heap.size, 0, none⟩) 1 1) (w' := (w5.alloc (.cells ([Z8 128] : List Value).toArray 5))) rfl rfl rfl (ex_bs1 (a := 128) rfl rfl) ?_
  simp only [Act.put, sa, sz, ss]
  have H6 : Hid (Mm (w5.alloc (.cells ([Z8 128] : List Value).toArray 5)) [] ∧ Zo w γb [(γ1_0, ints .u8 (fun _ => 0) 32)] (.slice (some ⟨γb, 0, none⟩) 0 0) n f (w5.alloc (.cells ([Z8 128] : List Value).toArray 5))) := ⟨Mm.nil _, Zo.step H5.out.2 ((Below.refl _ _).alloc (Nat.le_refl _) _)⟩
  have c6 := cell_one w5 128
  have C6 : Hid _ := c6
  clear c6 H5
  generalize hgw : (w5.alloc (.cells ([Z8 128] : List Value).toArray 5)) = w6 at H6 C6 ⊢
  clear hgw
  generalize w5.heap.size = γs6 at C6 ⊢
  obtain ⟨v7, w7, hr, hZ⟩ := H6.out.2.app (a := ⟨γs6, 0, none⟩) 1 1 (fun _ => 128) (C6.out) (by omega) 22
  refine rest_set (d := 14) (v := v7) (w' := w7) rfl rfl rfl (ex_app rfl rfl rfl hr) ?_
  simp only [Act.put, sa, sz, ss]
  have H7 : Hid (Mm w7 [] ∧ Zo w γb [(γ1_0, ints .u8 (fun _ => 0) 32)] v7 (n + 1 + 0) (pz f n) w7) := ⟨Mm.nil _, hZ.cg (ct_snoc (pz_n f n) (pz_f f n))⟩
  clear hr hZ H6
  refine rest_set (d := 3) (v := v7) (w' := w7) rfl rfl rfl rfl ?_
  simp only [Act.put, sa, sz, ss]
  refine rest_nil (then_normal ?_)
  refine wp_seq (wp_block ?_)
  refine loop_ghost (α := Nat) (fun k a' w' => ∃ s0 : Nat → Value, a' = ⟨#[.slice none 0 0, undef, PT γ1_0 0, s0 3, undef, undef, undef, undef, undef, .slice (some ⟨γb, 0, none⟩) 0 0, .slice none 0 0, .slice (some ⟨γb, 0, none⟩) 0 0, .slice (some ⟨γb, 0, none⟩) 0 0, .slice (some ⟨γs6, 0, none⟩) 1 1, v7, s0 15, s0 16, s0 17, s0 18, s0 19, s0 20, s0 21, undef, undef, undef, undef, undef, undef, undef, undef, undef, undef, undef, undef, undef, undef, undef, undef, undef, undef, undef, undef, undef, undef, undef, undef, undef, undef, undef, undef, undef, undef, undef, undef, undef, undef, undef, undef, undef], []⟩ ∧ (Mm w' [] ∧ Zo w γb [(γ1_0, ints .u8 (fun _ => 0) 32)] (s0 3) (n + 1 + k) (pz f n) w') ∧ k ≤ zc n) (fun k => zc n - k) 0 ?st0 ?rd0
  case st0 => exact ⟨(slotfn [undef, undef, undef, v7, undef, undef, undef, undef, undef, undef, undef, undef, undef, undef, undef, undef, undef, undef, undef, undef, undef, undef]), rfl, ⟨H7.out.1, H7.out.2⟩, by omega⟩
  intro k a' w8 hI
  obtain ⟨s0, rfl, hMB, hk0⟩ := hI
  have H8 : Hid (_ ∧ _) := hMB
  clear hMB H7
  by_cases hlt : k < zc n
  · have hrd : True := trivial
    clear hrd
    obtain ⟨g3, cap3, e3⟩ := H8.out.2.form (by omega)
    rw [e3] at H8 ⊢
    clear e3
    refine wp_seq (wp_seq ?_)
    refine walk_seqA 4 [.quiet (.slice (some ⟨g3, 0, none⟩) (n + 1 + k) cap3), .quiet (.int .i64 (((n + 1 + k) : Nat) : Int)), .quiet (.int .i64 (((n + 1 + k) % 64 : Nat) : Int)), .quiet (.bool true)] (sB H8) ?ho4 ?he4
    case ho4 => exact ak (fun _ => ⟨rfl, fun _ _ => rfl⟩) (ak (by refine fun γ => ⟨rfl, fun w' h => ?_⟩; clear h; go_simp) (ak (fun γ => ⟨rfl, fun w' _ => ex_rem3 (a := (n + 1 + k)) (b := 64) (by omega) (by omega) rfl rfl rfl⟩) (ak (by refine fun γ => ⟨rfl, fun w' h => ?_⟩; clear h; go_simp <;> omega) trivial)))
    intro γ w9 l hM hl
    have M9 : Mm w9 [] := H8.out.1.grow hM (Nat.le_refl _) hl [] rfl (by decide)
    have B9 : Zo w γb [(γ1_0, ints .u8 (fun _ => 0) 32)] (.slice (some ⟨g3, 0, none⟩) (n + 1 + k) cap3) (n + 1 + k) (pz f n) w9 := Zo.step H8.out.2 (hM.below)
    clear hM hl l H8
    clear γ
    have H9 : Hid (_ ∧ _) := ⟨M9, B9⟩
    clear M9 B9
    refine rest0 rfl (then_normal (wp_cond_true rfl ?_))
    refine wp_skip (then_normal (wp_block ?_))
    refine walk_seqA 1 [.quiet (.slice (some ⟨g3, 0, none⟩) (n + 1 + k) cap3)] (sB H9) ?ho5 ?he5
    case ho5 => exact ak (fun _ => ⟨rfl, fun _ _ => rfl⟩) trivial
    intro γ w10 l hM hl
    have M10 : Mm w10 [] := H9.out.1.grow hM (Nat.le_refl _) hl [] rfl (by decide)
    have B10 : Zo w γb [(γ1_0, ints .u8 (fun _ => 0) 32)] (.slice (some ⟨g3, 0, none⟩) (n + 1 + k) cap3) (n + 1 + k) (pz f n) w10 := Zo.step H9.out.2 (hM.below)
    clear hM hl l H9
    clear γ
    have H10 : Hid (_ ∧ _) := ⟨M10, B10⟩
    clear M10 B10
    refine rest_at (l := [1, 2, 3]) rfl ?_
    refine rest_set (d := 20) (v := .slice (some ⟨w10.heap.size, 0, none⟩) 1 1) (w' := (w10.alloc (.cells ([Z8 0] : List Value).toArray 5))) rfl rfl rfl (ex_bs1 (a := 0) rfl rfl) ?_
    simp only [Act.put, sa, sz, ss]
    have H11 : Hid (Mm (w10.alloc (.cells ([Z8 0] : List Value).toArray 5)) [] ∧ Zo w γb [(γ1_0, ints .u8 (fun _ => 0) 32)] (.slice (some ⟨g3, 0, none⟩) (n + 1 + k) cap3) (n + 1 + k) (pz f n) (w10.alloc (.cells ([Z8 0] : List Value).toArray 5))) := ⟨Mm.nil _, Zo.step H10.out.2 ((Below.refl _ _).alloc (Nat.le_refl _) _)⟩
    have c11 := cell_one w10 0
    have C11 : Hid _ := c11
    clear c11 H10
    generalize hgw : (w10.alloc (.cells ([Z8 0] : List Value).toArray 5)) = w11 at H11 C11 ⊢
    clear hgw
    generalize w10.heap.size = γs11 at C11 ⊢
    obtain ⟨v12, w12, hr, hZ⟩ := H11.out.2.app (a := ⟨γs11, 0, none⟩) 1 1 (fun _ => 0) (C11.out) (by omega) 22
    refine rest_set (d := 21) (v := v12) (w' := w12) rfl rfl rfl (ex_app rfl rfl rfl hr) ?_
    simp only [Act.put, sa, sz, ss]
    have H12 : Hid (Mm w12 [] ∧ Zo w γb [(γ1_0, ints .u8 (fun _ => 0) 32)] v12 (n + 1 + (k + 1)) (pz f n) w12) := ⟨Mm.nil _, hZ.cg (ct_snoc (pz_z f n k))⟩
    clear hr hZ H11
    refine rest_set (d := 3) (v := v12) (w' := w12) rfl rfl rfl rfl ?_
    simp only [Act.put, sa, sz, ss]
    refine rest_nil (block_normal (then_normal ?_))
    exact ⟨k + 1, ⟨(slotfn [undef, undef, undef, v12, undef, undef, undef, undef, undef, undef, undef, undef, undef, undef, undef, .slice (some ⟨g3, 0, none⟩) (n + 1 + k) cap3, .int .i64 (((n + 1 + k) : Nat) : Int), .int .i64 (((n + 1 + k) % 64 : Nat) : Int), .bool true, .slice (some ⟨g3, 0, none⟩) (n + 1 + k) cap3, .slice (some ⟨γs11, 0, none⟩) 1 1, v12]), rfl, ⟨H12.out.1, H12.out.2⟩, by omega⟩, by omega⟩
  have hkN : k = zc n := by omega
  subst hkN
  obtain ⟨g3, cap3, e3⟩ := H8.out.2.form (by omega)
  rw [e3] at H8 ⊢
  clear e3
  refine wp_seq (wp_seq ?_)
  refine walk_seqA 4 [.quiet (.slice (some ⟨g3, 0, none⟩) (n + 1 + zc n) cap3), .quiet (.int .i64 (((n + 1 + zc n) : Nat) : Int)), .quiet (.int .i64 (((n + 1 + zc n) % 64 : Nat) : Int)), .quiet (.bool false)] (sB H8) ?ho6 ?he6
  case ho6 => exact ak (fun _ => ⟨rfl, fun _ _ => rfl⟩) (ak (by refine fun γ => ⟨rfl, fun w' h => ?_⟩; clear h; go_simp) (ak (fun γ => ⟨rfl, fun w' _ => ex_rem3 (a := (n + 1 + zc n)) (b := 64) (by omega) (by omega) rfl rfl rfl⟩) (ak (by refine fun γ => ⟨rfl, fun w' h => ?_⟩; clear h; go_simp <;> omega) trivial)))
  intro γ w13 l hM hl
  have M13 : Mm w13 [] := H8.out.1.grow hM (Nat.le_refl _) hl [] rfl (by decide)
  have B13 : Zo w γb [(γ1_0, ints .u8 (fun _ => 0) 32)] (.slice (some ⟨g3, 0, none⟩) (n + 1 + zc n) cap3) (n + 1 + zc n) (pz f n) w13 := Zo.step H8.out.2 (hM.below)
  clear hM hl l H8
  clear γ
  have H13 : Hid (_ ∧ _) := ⟨M13, B13⟩
  clear M13 B13
  refine rest0 rfl (then_normal (wp_cond_false rfl ?_))
  refine wp_exit ?_
  repeat refine then_exit ?_
  refine block_exit ?_
  refine then_normal (wp_seq ?_)
  refine walk_seqA 5 [.quiet (.slice (some ⟨g3, 0, none⟩) (n + 1 + zc n) cap3), .quiet (.slice none 0 0), .quiet (.int .i64 ((n : Nat) : Int)), .quiet (U (c64 n)), .quiet (U (c64 (8 * c64 n)))] (sB H13) ?ho7 ?he7
  case ho7 => exact ak (fun _ => ⟨rfl, fun _ _ => rfl⟩) (ak (fun _ => ⟨rfl, fun _ _ => rfl⟩) (ak (by refine fun γ => ⟨rfl, fun w' h => ?_⟩; clear h; rw [hn0.out]; go_simp) (ak (fun γ => ⟨rfl, fun w' _ => ex_cv3_56 (a := n) rfl rfl⟩) (ak (fun γ => ⟨rfl, fun w' _ => ex_mul64 rfl rfl rfl⟩) trivial))))
  intro γ w14 l hM hl
  have M14 : Mm w14 [] := H13.out.1.grow hM (Nat.le_refl _) hl [] rfl (by decide)
  have B14 : Zo w γb [(γ1_0, ints .u8 (fun _ => 0) 32)] (.slice (some ⟨g3, 0, none⟩) (n + 1 + zc n) cap3) (n + 1 + zc n) (pz f n) w14 := Zo.step H13.out.2 (hM.below)
  clear hM hl l H13
  clear γ
  have H14 : Hid (_ ∧ _) := ⟨M14, B14⟩
  clear M14 B14
  refine rest_at (l := [5, 6, 7]) rfl ?_
  refine rest_enter (d := 27) rfl rfl rfl (exec_call (args := #[U (c64 (8 * c64 n))]) rfl call47 rfl (mpn rfl)) ((Calls.mono (Eight_any (c64 (8 * (c64 n))) w14) (fun e w2 hh => by obtain ⟨hb, g, cap, he, hR⟩ := hh; exact ⟨_, he, hb, g, cap, rfl, hR⟩) : Calls Tryd.prog 47 #[U (c64 (8 * (c64 n)))] w14 (fun e w' => ∃ v, e = .returned v ∧ (Below w14.heap.size w14 w' ∧ ∃ g cap, v = .slice (some ⟨g, 0, none⟩) 8 cap ∧ Rs g 0 8 (b8 (c64 (8 * (c64 n)))) w')))) ?_
  rintro _ w15 ⟨hb, g8, cap8, rfl, hR8⟩
  have H15 : Hid (Mm w15 [] ∧ Zo w γb [(γ1_0, ints .u8 (fun _ => 0) 32)] (.slice (some ⟨g3, 0, none⟩) (n + 1 + zc n) cap3) (n + 1 + zc n) (pz f n) w15) := ⟨Mm.nil _, Zo.step H14.out.2 hb⟩
  have R8 : Hid _ := hR8
  clear hb hR8 H14
  simp only [Act.put, sa, sz, ss]
  obtain ⟨v16, w16, hr, hZ⟩ := H15.out.2.app (a := ⟨g8, 0, none⟩) 8 cap8 (b8 (c64 (8 * (c64 n)))) (R8.out.add) (by omega) 22
  refine rest_set (d := 28) (v := v16) (w' := w16) rfl rfl rfl (ex_app rfl rfl rfl hr) ?_
  simp only [Act.put, sa, sz, ss]
  have H16 : Hid (Mm w16 [] ∧ Zo w γb [(γ1_0, ints .u8 (fun _ => 0) 32)] v16 (pn n) (pd f n) w16) := ⟨Mm.nil _, hZ⟩
  clear hr hZ H15
  refine rest_set (d := 3) (v := v16) (w' := w16) rfl rfl rfl rfl ?_
  simp only [Act.put, sa, sz, ss]
  refine rest_nil ?_
  obtain ⟨g9, cap9, e9⟩ := H16.out.2.form (by omega)
  rw [e9] at H16 ⊢
  have HB : Hid _ := H16.out.2.b
  have HM := H16.out.2.m
  have HR : Hid (Rs g9 0 (pn n) (pd f n) w16) := H16.out.2.rs
  have HN : Hid (g9 ≠ γ1_0) := (by have a1 := (World.ownsRow.lt H16.out.2.own g9 rfl).1; have a2 := H16.out.2.lt _ (List.mem_singleton.2 rfl); intro e; have a3 : γ1_0 < γb := a2; omega : g9 ≠ γ1_0)
  clear H16 e9
  generalize w16 = w at HB HM HR ⊢
  have H17 : Hid (_ ∧ _) := ⟨HM, Kp.refl γ1_0 w⟩
  clear HM
  refine then_normal (wp_seq ?_)
  refine walk_seqA 3 [.call (.agg (ints .u32 fT 8).toArray), .made (ints .u32 (fun _ => 0) 8) 52, .laid 1 (ints .u32 (fun _ => 0) 8) (ints .u32 fT 8)] (sB H17) ?ho8 ?he8 (hL := ?hL8)
  case hL8 => exact ⟨⟨_, rfl⟩, trivial⟩
  case ho8 => exact ak (fun γ => ⟨rfl, fun w' h => ⟨48, #[], exec_call rfl call48 rfl (mpn rfl), begin_any w'⟩⟩) (ak (fun γ => ⟨rfl, fun w' => ex_mk52 rfl⟩) (ak (fun γ => ⟨rfl, rfl, (ints_len _ _ _).trans (ints_len _ _ _).symm, fun w' h => ex_laidI h Tryd.sizeOf52 rfl rfl rfl⟩) trivial))
  intro γ w18 l hM hl
  have H18 : Hid (Mm w18 [(γ 1, ints .u32 fT 8), (γ1_0, ints .u8 (fun _ => 0) 32)] ∧ _) := growK H17 hM (Nat.le_refl _) hl [1] rfl (by decide)
  have o8_1 := ownK H17 hM (Nat.le_refl _) hl (i := 1) rfl
  clear hM hl l H17
  generalize γ 1 = γ8_1 at H18 o8_1 ⊢
  clear γ
  refine rest0 rfl (then_normal (wp_seq ?_))
  refine walk_seqA 3 [.call (.agg (ints .u32 kT 64).toArray), .made (ints .u32 (fun _ => 0) 64) 78, .laid 1 (ints .u32 (fun _ => 0) 64) (ints .u32 kT 64)] (sB H18) ?ho9 ?he9 (hL := ?hL9)
  case hL9 => exact ⟨⟨_, rfl⟩, trivial⟩
  case ho9 => exact ak (fun γ => ⟨rfl, fun w' h => ⟨49, #[], exec_call rfl call49 rfl (mpn rfl), table_any w'⟩⟩) (ak (fun γ => ⟨rfl, fun w' => ex_mk78 rfl⟩) (ak (fun γ => ⟨rfl, rfl, (ints_len _ _ _).trans (ints_len _ _ _).symm, fun w' h => ex_laidI h Tryd.sizeOf78 rfl rfl rfl⟩) trivial))
  intro γ w19 l hM hl
  have H19 : Hid (Mm w19 [(γ 1, ints .u32 kT 64), (γ8_1, ints .u32 fT 8), (γ1_0, ints .u8 (fun _ => 0) 32)] ∧ _) := growK H18 hM (Nat.le_refl _) hl [1] rfl (by decide)
  have o9_1 := ownK H18 hM (Nat.le_refl _) hl (i := 1) rfl
  clear hM hl l H18
  generalize γ 1 = γ9_1 at H19 o9_1 ⊢
  clear γ
  refine rest0 rfl (then_normal (wp_seq (wp_seq ?_)))
  refine walk_seqA 1 [.quiet (.int .i64 0)] (sB H19) ?ho10 ?he10
  case ho10 => exact ak (fun _ => ⟨rfl, fun _ _ => rfl⟩) trivial
  intro γ w20 l hM hl
  have H20 := keepK H19 hM.below
  clear hM hl l H19 γ
  refine rest0 rfl (then_normal (wp_block ?_))
  refine loop_ghost (α := Nat) (fun k a' w' => ∃ s2 : Nat → Value, a' = ⟨#[.slice none 0 0, undef, PT γ1_0 0, .slice (some ⟨g9, 0, none⟩) (pn n) cap9, PT γ8_1 0, PT γ9_1 0, .int .i64 ((64 * k : Nat) : Int), undef, undef, .slice (some ⟨γb, 0, none⟩) 0 0, .slice none 0 0, .slice (some ⟨γb, 0, none⟩) 0 0, .slice (some ⟨γb, 0, none⟩) 0 0, .slice (some ⟨γs6, 0, none⟩) 1 1, v7, .slice (some ⟨g3, 0, none⟩) (n + 1 + zc n) cap3, .int .i64 (((n + 1 + zc n) : Nat) : Int), .int .i64 (((n + 1 + zc n) % 64 : Nat) : Int), .bool false, s0 19, s0 20, s0 21, .slice (some ⟨g3, 0, none⟩) (n + 1 + zc n) cap3, .slice none 0 0, .int .i64 ((n : Nat) : Int), U (c64 n), U (c64 (8 * c64 n)), .slice (some ⟨g8, 0, none⟩) 8 cap8, .slice (some ⟨g9, 0, none⟩) (pn n) cap9, .agg (ints .u32 fT 8).toArray, .agg (ints .u32 kT 64).toArray, s2 31, s2 32, s2 33, s2 34, s2 35, s2 36, s2 37, s2 38, s2 39, s2 40, s2 41, undef, undef, undef, undef, undef, undef, undef, undef, undef, undef, undef, undef, undef, undef, undef, undef, undef], []⟩ ∧ (Mm w' [(γ9_1, ints .u32 kT 64), (γ8_1, ints .u32 (hd (pd f n) k) 8), (γ1_0, ints .u8 (fun _ => 0) 32)] ∧ Kp γ1_0 w w') ∧ k ≤ nb n) (fun k => nb n - k) 0 ?st2 ?rd2
  case st2 => exact ⟨(slotfn [undef, undef, undef, undef, undef, undef, undef, undef, undef, undef, undef, undef, undef, undef, undef, undef, undef, undef, undef, undef, undef, undef, undef, undef, undef, undef, undef, undef, undef, undef, undef, undef, undef, undef, undef, undef, undef, undef, undef, undef, undef, undef]), rfl, ⟨H20.out.1, H20.out.2⟩, by omega⟩
  intro k a' w21 hI
  obtain ⟨s2, rfl, hMB, hk2⟩ := hI
  have H21 : Hid (_ ∧ _) := hMB
  clear hMB H20
  by_cases hltk : k < nb n
  · have hrd : True := trivial
    clear hrd
    refine wp_seq (wp_seq ?_)
    refine walk_seqA 4 [.quiet (.int .i64 ((64 * k : Nat) : Int)), .quiet (.slice (some ⟨g9, 0, none⟩) (pn n) cap9), .quiet (.int .i64 (((pn n) : Nat) : Int)), .quiet (.bool true)] (sB H21) ?ho11 ?he11
    case ho11 => exact ak (fun _ => ⟨rfl, fun _ _ => rfl⟩) (ak (fun _ => ⟨rfl, fun _ _ => rfl⟩) (ak (by refine fun γ => ⟨rfl, fun w' h => ?_⟩; clear h; go_simp) (ak (by refine fun γ => ⟨rfl, fun w' h => ?_⟩; clear h; go_simp <;> omega) trivial)))
    intro γ w22 l hM hl
    have H22 := keepK H21 hM.below
    clear hM hl l H21 γ
    refine rest0 rfl (then_normal (wp_cond_true rfl ?_))
    refine wp_skip (then_normal ?_)
    refine wp_seq (wp_block ?_)
    refine (walk_seq) 5 [.quiet (.agg (ints .u32 (hd (pd f n) k) 8).toArray), .quiet (.agg (ints .u32 kT 64).toArray), .quiet (.slice (some ⟨g9, 0, none⟩) (pn n) cap9), .quiet (.int .i64 ((64 * k : Nat) : Int)), .call (.agg (ints .u32 (db (hd (pd f n) k) kT (pd f n) (64 * k)) 8).toArray)] (fun u' => Mm u' [(γ9_1, ints .u32 kT 64), (γ8_1, ints .u32 (hd (pd f n) k) 8), (γ1_0, ints .u8 (fun _ => 0) 32)] ∧ Rs g9 0 (pn n) (pd f n) u') ?pre12 ?F12 ?hpre12 (fun γ => ?hF12) (by kernel_rfl) ?hL12 ?hS12 ?ho12 ?he12
    case hpre12 => simp only [tk, tz]; rfl
    case hF12 => simp only [fill, Kind.val, Act.put, sa, sz, ss]; rfl
    case hL12 => exact trivial
    case hS12 => exact fun w' hb => ⟨H22.out.1.below hb, HR.out.kp2 (H22.out.2.trans (hb)) HN.out⟩
    case ho12 =>
      refine ak (fun γ => ⟨rfl, fun w' hX => have h := hX.1; ex_loadT h 1 rfl rfl rfl Tryd.isAgg52 Tryd.sizeOf52 (ints_whole _ _ _) (ints_len _ _ _)⟩) ?_
      refine ak (fun γ => ⟨rfl, fun w' hX => have h := hX.1; ex_loadT h 0 rfl rfl rfl Tryd.isAgg78 Tryd.sizeOf78 (ints_whole _ _ _) (ints_len _ _ _)⟩) ?_
      refine ak (fun _ => ⟨rfl, fun _ _ => rfl⟩) ?_
      refine ak (fun _ => ⟨rfl, fun _ _ => rfl⟩) ?_
      refine ak (fun γ => ⟨rfl, fun w' hX => ⟨50, #[.agg (ints .u32 (hd (pd f n) k) 8).toArray, .agg (ints .u32 kT 64).toArray, .slice (some ⟨g9, 0, none⟩) (pn n) cap9, .int .i64 ((64 * k : Nat) : Int)], exec_call rfl call50 rfl (mpn rfl), block_any (hd (pd f n) k) kT (pd f n) g9 (pn n) cap9 (64 * k) (by omega) (by omega) w' hX.2⟩⟩) ?_
      exact trivial
    intro γ w23 l hM hl
    have H23 := keepK H22 hM.below
    clear hM hl l H22 γ
    refine rest_at (l := [5]) rfl ?_
    refine rest_store rfl rfl rfl (ex_storeT (vs := ints .u32 (db (hd (pd f n) k) kT (pd f n) (64 * k)) 8) H23.out.1 1 rfl rfl rfl rfl (by rw [ints_len]; exact Tryd.sizeOf52) (ints_all _ _ _) (by simp [ints_len])) ?_
    have H24 : Hid (Mm (w23.setCells γ8_1 0 (ints .u32 (db (hd (pd f n) k) kT (pd f n) (64 * k)) 8)) [(γ9_1, ints .u32 kT 64), (γ8_1, ints .u32 (db (hd (pd f n) k) kT (pd f n) (64 * k)) 8), (γ1_0, ints .u8 (fun _ => 0) 32)] ∧ Kp γ1_0 w (w23.setCells γ8_1 0 (ints .u32 (db (hd (pd f n) k) kT (pd f n) (64 * k)) 8))) := ⟨by
      have h := H23.out.1.put 1 (off := 0) (vs := ints .u32 (db (hd (pd f n) k) kT (pd f n) (64 * k)) 8) rfl (by simp [ints_len])
      rw [ints_patch0 _ _ _ _] at h
      exact h, H23.out.2.put (Or.inr o8_1.out)⟩
    clear H23
    generalize hgw : World.setCells _ _ _ _ = w24 at H24 ⊢
    clear hgw
    refine rest_nil (block_normal (then_normal ?_))
    refine walk_seqA 2 [.quiet (.int .i64 ((64 * k : Nat) : Int)), .quiet (.int .i64 (((64 * k) + 64 : Nat) : Int))] (sB H24) ?ho13 ?he13
    case ho13 => exact ak (fun _ => ⟨rfl, fun _ _ => rfl⟩) (ak (by refine fun γ => ⟨rfl, fun w' h => ?_⟩; clear h; go_simp; rw [IntKind.wrap_i64]; omega) trivial)
    intro γ w25 l hM hl
    have H25 := keepK H24 hM.below
    clear hM hl l H24 γ
    refine rest_at (l := [2]) rfl ?_
    refine rest_set (d := 6) (v := .int .i64 (((64 * k) + 64 : Nat) : Int)) (w' := w25) rfl rfl rfl rfl ?_
    simp only [Act.put, sa, sz, ss]
    refine rest_nil (then_normal ?_)
    exact ⟨k + 1, ⟨(slotfn [undef, undef, undef, undef, undef, undef, undef, undef, undef, undef, undef, undef, undef, undef, undef, undef, undef, undef, undef, undef, undef, undef, undef, undef, undef, undef, undef, undef, undef, undef, undef, .int .i64 ((64 * k : Nat) : Int), .slice (some ⟨g9, 0, none⟩) (pn n) cap9, .int .i64 (((pn n) : Nat) : Int), .bool true, .int .i64 ((64 * k : Nat) : Int), .int .i64 (((64 * k) + 64 : Nat) : Int), .agg (ints .u32 (hd (pd f n) k) 8).toArray, .agg (ints .u32 kT 64).toArray, .slice (some ⟨g9, 0, none⟩) (pn n) cap9, .int .i64 ((64 * k : Nat) : Int), .agg (ints .u32 (db (hd (pd f n) k) kT (pd f n) (64 * k)) 8).toArray]), rfl, ⟨H25.out.1, H25.out.2⟩, by omega⟩, by omega⟩
  have hkN : k = nb n := by omega
  subst hkN
  refine wp_seq (wp_seq ?_)
  refine walk_seqA 4 [.quiet (.int .i64 ((64 * (nb n) : Nat) : Int)), .quiet (.slice (some ⟨g9, 0, none⟩) (pn n) cap9), .quiet (.int .i64 (((pn n) : Nat) : Int)), .quiet (.bool false)] (sB H21) ?ho14 ?he14
  case ho14 => exact ak (fun _ => ⟨rfl, fun _ _ => rfl⟩) (ak (fun _ => ⟨rfl, fun _ _ => rfl⟩) (ak (by refine fun γ => ⟨rfl, fun w' h => ?_⟩; clear h; go_simp) (ak (by refine fun γ => ⟨rfl, fun w' h => ?_⟩; clear h; go_simp <;> omega) trivial)))
  intro γ w26 l hM hl
  have H26 := keepK H21 hM.below
  clear hM hl l H21 γ
  refine rest0 rfl (then_normal (wp_cond_false rfl ?_))
  refine wp_exit ?_
  repeat refine then_exit ?_
  refine block_exit ?_
  refine then_normal (wp_seq ?_)
  refine walk_seqA 1 [.made (ints .u8 (fun _ => 0) 32) 25] (sB H26) ?ho15 ?he15
  case ho15 => exact ak (fun γ => ⟨rfl, fun w' => ex_mk25 rfl⟩) trivial
  intro γ w27 l hM hl
  have H27 : Hid (Mm w27 [(γ 0, ints .u8 (fun _ => 0) 32), (γ9_1, ints .u32 kT 64), (γ8_1, ints .u32 (hd (pd f n) (nb n)) 8), (γ1_0, ints .u8 (fun _ => 0) 32)] ∧ _) := growK H26 hM (Nat.le_refl _) hl [0] rfl (by decide)
  have o15_0 := ownK H26 hM (Nat.le_refl _) hl (i := 0) rfl
  clear hM hl l H26
  generalize γ 0 = γ15_0 at H27 o15_0 ⊢
  clear γ
  refine rest0 rfl (then_normal (wp_seq (wp_seq ?_)))
  refine walk_seqA 1 [.quiet (.int .i64 0)] (sB H27) ?ho16 ?he16
  case ho16 => exact ak (fun _ => ⟨rfl, fun _ _ => rfl⟩) trivial
  intro γ w28 l hM hl
  have H28 := keepK H27 hM.below
  clear hM hl l H27 γ
  refine rest0 rfl (then_normal (wp_block ?_))
  refine loop_ghost (α := Nat) (fun i a' w' => ∃ s4 : Nat → Value, a' = ⟨#[.slice none 0 0, undef, PT γ1_0 0, .slice (some ⟨g9, 0, none⟩) (pn n) cap9, PT γ8_1 0, PT γ9_1 0, .int .i64 ((64 * (nb n) : Nat) : Int), PT γ15_0 0, .int .i64 ((i : Nat) : Int), .slice (some ⟨γb, 0, none⟩) 0 0, .slice none 0 0, .slice (some ⟨γb, 0, none⟩) 0 0, .slice (some ⟨γb, 0, none⟩) 0 0, .slice (some ⟨γs6, 0, none⟩) 1 1, v7, .slice (some ⟨g3, 0, none⟩) (n + 1 + zc n) cap3, .int .i64 (((n + 1 + zc n) : Nat) : Int), .int .i64 (((n + 1 + zc n) % 64 : Nat) : Int), .bool false, s0 19, s0 20, s0 21, .slice (some ⟨g3, 0, none⟩) (n + 1 + zc n) cap3, .slice none 0 0, .int .i64 ((n : Nat) : Int), U (c64 n), U (c64 (8 * c64 n)), .slice (some ⟨g8, 0, none⟩) 8 cap8, .slice (some ⟨g9, 0, none⟩) (pn n) cap9, .agg (ints .u32 fT 8).toArray, .agg (ints .u32 kT 64).toArray, .int .i64 ((64 * (nb n) : Nat) : Int), .slice (some ⟨g9, 0, none⟩) (pn n) cap9, .int .i64 (((pn n) : Nat) : Int), .bool false, s2 35, s2 36, s2 37, s2 38, s2 39, s2 40, s2 41, s4 42, s4 43, s4 44, s4 45, s4 46, s4 47, s4 48, s4 49, s4 50, s4 51, s4 52, s4 53, s4 54, s4 55, s4 56, s4 57, undef], []⟩ ∧ (Mm w' [(γ15_0, ints .u8 (ob (hd (pd f n) (nb n)) i) 32), (γ9_1, ints .u32 kT 64), (γ8_1, ints .u32 (hd (pd f n) (nb n)) 8), (γ1_0, ints .u8 (fun _ => 0) 32)] ∧ Kp γ1_0 w w') ∧ i ≤ 32) (fun i => 32 - i) 0 ?st4 ?rd4
  case st4 => exact ⟨(slotfn [undef, undef, undef, undef, undef, undef, undef, undef, undef, undef, undef, undef, undef, undef, undef, undef, undef, undef, undef, undef, undef, undef, undef, undef, undef, undef, undef, undef, undef, undef, undef, undef, undef, undef, undef, undef, undef, undef, undef, undef, undef, undef, undef, undef, undef, undef, undef, undef, undef, undef, undef, undef, undef, undef, undef, undef, undef, undef]), rfl, ⟨H28.out.1, H28.out.2⟩, by omega⟩
  intro i a' w29 hI
  obtain ⟨s4, rfl, hMB, hk4⟩ := hI
  have H29 : Hid (_ ∧ _) := hMB
  clear hMB H28
  by_cases hlti : i < 32
  · have hrd : True := trivial
    clear hrd
    refine wp_seq (wp_seq ?_)
    refine walk_seqA 2 [.quiet (.int .i64 ((i : Nat) : Int)), .quiet (.bool true)] (sB H29) ?ho17 ?he17
    case ho17 => exact ak (fun _ => ⟨rfl, fun _ _ => rfl⟩) (ak (by refine fun γ => ⟨rfl, fun w' h => ?_⟩; clear h; go_simp <;> omega) trivial)
    intro γ w30 l hM hl
    have H30 := keepK H29 hM.below
    clear hM hl l H29 γ
    refine rest0 rfl (then_normal (wp_cond_true rfl ?_))
    refine wp_skip (then_normal ?_)
    refine wp_seq (wp_block ?_)
    refine walk_seqA 12 [.quiet (.int .i64 ((i : Nat) : Int)), .quiet (.int .i64 ((i : Nat) : Int)), .quiet (.int .i64 ((i / 4 : Nat) : Int)), .quiet (PT γ8_1 (i / 4)), .quiet (W32 ((hd (pd f n) (nb n)) (i / 4))), .quiet (.int .i64 ((i : Nat) : Int)), .quiet (.int .i64 ((i % 4 : Nat) : Int)), .quiet (.int .i64 ((8 * (i % 4) : Nat) : Int)), .quiet (.int .i64 ((24 - (8 * (i % 4)) : Nat) : Int)), .quiet (W32 (sr ((hd (pd f n) (nb n)) (i / 4)) (24 - (8 * (i % 4))))), .quiet (Z8 ((sr ((hd (pd f n) (nb n)) (i / 4)) (24 - (8 * (i % 4)))) % 256)), .quiet (PT γ15_0 i)] (sB H30) ?ho18 ?he18
    case ho18 => exact ak (fun _ => ⟨rfl, fun _ _ => rfl⟩) (ak (fun _ => ⟨rfl, fun _ _ => rfl⟩) (ak (fun γ => ⟨rfl, fun w' _ => ex_quo3 (a := i) (b := 4) (by omega) (by omega) rfl rfl rfl⟩) (ak (fun γ => ⟨rfl, fun w' _ => ex_ix0_52 (j := i / 4) rfl rfl rfl (by omega)⟩) (ak (fun γ => ⟨rfl, fun w' h => ex_loadC h 2 rfl rfl rfl Tryd.isAgg51 (ints_get _ _ (by omega))⟩) (ak (fun _ => ⟨rfl, fun _ _ => rfl⟩) (ak (fun γ => ⟨rfl, fun w' _ => ex_rem3 (a := i) (b := 4) (by omega) (by omega) rfl rfl rfl⟩) (ak (by refine fun γ => ⟨rfl, fun w' h => ?_⟩; clear h; go_simp; rw [IntKind.wrap_i64]; omega) (ak (by refine fun γ => ⟨rfl, fun w' h => ?_⟩; clear h; go_simp; rw [IntKind.wrap_i64]; omega) (ak (fun γ => ⟨rfl, fun w' _ => ex_shr32 (k := 24 - (8 * (i % 4))) (by omega) rfl rfl rfl⟩) (ak (fun γ => ⟨rfl, fun w' _ => ex_cv51_5 rfl rfl⟩) (ak (fun γ => ⟨rfl, fun w' _ => ex_ix0_25 (j := i) rfl rfl rfl (by omega)⟩) trivial)))))))))))
    intro γ w31 l hM hl
    have H31 := keepK H30 hM.below
    clear hM hl l H30 γ
    refine rest_at (l := [12]) rfl ?_
    refine rest_store rfl rfl rfl (ex_storeI H31.out.1 0 rfl rfl Tryd.sizeOf5 rfl rfl (by rw [ints_len]; omega)) ?_
    have H32 : Hid (Mm (w31.setCells γ15_0 i ([Z8 ((sr ((hd (pd f n) (nb n)) (i / 4)) (24 - (8 * (i % 4)))) % 256)])) [(γ15_0, ints .u8 (up (ob (hd (pd f n) (nb n)) i) i ((sr ((hd (pd f n) (nb n)) (i / 4)) (24 - (8 * (i % 4)))) % 256)) 32), (γ9_1, ints .u32 kT 64), (γ8_1, ints .u32 (hd (pd f n) (nb n)) 8), (γ1_0, ints .u8 (fun _ => 0) 32)] ∧ Kp γ1_0 w (w31.setCells γ15_0 i ([Z8 ((sr ((hd (pd f n) (nb n)) (i / 4)) (24 - (8 * (i % 4)))) % 256)]))) := ⟨by
      have h := H31.out.1.put 0 (off := i) (vs := [Z8 ((sr ((hd (pd f n) (nb n)) (i / 4)) (24 - (8 * (i % 4)))) % 256)]) rfl (by rw [ints_len]; simp only [List.length_cons, List.length_nil]; omega)
      rw [ints_patch _ _ _ _ (by omega)] at h
      exact h, H31.out.2.put (Or.inr o15_0.out)⟩
    clear H31
    generalize hgw : World.setCells _ _ _ _ = w32 at H32 ⊢
    clear hgw
    refine rest_nil (block_normal (then_normal ?_))
    refine walk_seqA 2 [.quiet (.int .i64 ((i : Nat) : Int)), .quiet (.int .i64 ((i + 1 : Nat) : Int))] (sB H32) ?ho19 ?he19
    case ho19 => exact ak (fun _ => ⟨rfl, fun _ _ => rfl⟩) (ak (by refine fun γ => ⟨rfl, fun w' h => ?_⟩; clear h; go_simp; rw [IntKind.wrap_i64]; omega) trivial)
    intro γ w33 l hM hl
    have H33 := keepK H32 hM.below
    clear hM hl l H32 γ
    refine rest_at (l := [2]) rfl ?_
    refine rest_set (d := 8) (v := .int .i64 ((i + 1 : Nat) : Int)) (w' := w33) rfl rfl rfl rfl ?_
    simp only [Act.put, sa, sz, ss]
    refine rest_nil (then_normal ?_)
    exact ⟨i + 1, ⟨(slotfn [undef, undef, undef, undef, undef, undef, undef, undef, undef, undef, undef, undef, undef, undef, undef, undef, undef, undef, undef, undef, undef, undef, undef, undef, undef, undef, undef, undef, undef, undef, undef, undef, undef, undef, undef, undef, undef, undef, undef, undef, undef, undef, .int .i64 ((i : Nat) : Int), .bool true, .int .i64 ((i : Nat) : Int), .int .i64 ((i + 1 : Nat) : Int), .int .i64 ((i : Nat) : Int), .int .i64 ((i : Nat) : Int), .int .i64 ((i / 4 : Nat) : Int), PT γ8_1 (i / 4), W32 ((hd (pd f n) (nb n)) (i / 4)), .int .i64 ((i : Nat) : Int), .int .i64 ((i % 4 : Nat) : Int), .int .i64 ((8 * (i % 4) : Nat) : Int), .int .i64 ((24 - (8 * (i % 4)) : Nat) : Int), W32 (sr ((hd (pd f n) (nb n)) (i / 4)) (24 - (8 * (i % 4)))), Z8 ((sr ((hd (pd f n) (nb n)) (i / 4)) (24 - (8 * (i % 4)))) % 256), PT γ15_0 i]), rfl, ⟨H33.out.1, H33.out.2⟩, by omega⟩, by omega⟩
  have hiN : i = 32 := by omega
  subst hiN
  refine wp_seq (wp_seq ?_)
  refine walk_seqA 2 [.quiet (.int .i64 ((32 : Nat) : Int)), .quiet (.bool false)] (sB H29) ?ho20 ?he20
  case ho20 => exact ak (fun _ => ⟨rfl, fun _ _ => rfl⟩) (ak (by refine fun γ => ⟨rfl, fun w' h => ?_⟩; clear h; go_simp <;> omega) trivial)
  intro γ w34 l hM hl
  have H34 := keepK H29 hM.below
  clear hM hl l H29 γ
  refine rest0 rfl (then_normal (wp_cond_false rfl ?_))
  refine wp_exit ?_
  repeat refine then_exit ?_
  refine block_exit ?_
  refine then_normal (wp_seq ?_)
  refine walk_seqA 1 [.quiet (.agg (ints .u8 (ob (hd (pd f n) (nb n)) 32) 32).toArray)] (sB H34) ?ho21 ?he21
  case ho21 => exact ak (fun γ => ⟨rfl, fun w' h => ex_loadT h 0 rfl rfl rfl Tryd.isAgg25 Tryd.sizeOf25 (ints_whole _ _ _) (ints_len _ _ _)⟩) trivial
  intro γ w35 l hM hl
  have H35 := keepK H34 hM.below
  clear hM hl l H34 γ
  refine rest_at (l := [1]) rfl ?_
  refine rest_store rfl rfl rfl (ex_storeT (vs := ints .u8 (ob (hd (pd f n) (nb n)) 32) 32) H35.out.1 3 rfl rfl rfl rfl (by rw [ints_len]; exact Tryd.sizeOf25) (ints_all _ _ _) (by simp [ints_len])) ?_
  have H36 : Hid (Mm (w35.setCells γ1_0 0 (ints .u8 (ob (hd (pd f n) (nb n)) 32) 32)) [(γ15_0, ints .u8 (ob (hd (pd f n) (nb n)) 32) 32), (γ9_1, ints .u32 kT 64), (γ8_1, ints .u32 (hd (pd f n) (nb n)) 8), (γ1_0, ints .u8 (ob (hd (pd f n) (nb n)) 32) 32)] ∧ Kp γ1_0 w (w35.setCells γ1_0 0 (ints .u8 (ob (hd (pd f n) (nb n)) 32) 32))) := ⟨by
    have h := H35.out.1.put 3 (off := 0) (vs := ints .u8 (ob (hd (pd f n) (nb n)) 32) 32) rfl (by simp [ints_len])
    rw [ints_patch0 _ _ _ _] at h
    exact h, H35.out.2.put (Or.inl rfl)⟩
  clear H35
  generalize hgw : World.setCells _ _ _ _ = w36 at H36 ⊢
  clear hgw
  refine rest_nil (then_normal (wp_ret ?_))
  repeat (first | refine then_ret ?_ | refine block_ret ?_)
  have hf0 := var_T H36.out.1 3 rfl Tryd.isAgg25 Tryd.sizeOf25 (ints_len _ _ _)
  refine bodyPost_ret (v := .agg (ints .u8 (ob (hd (pd f n) (nb n)) 32) 32).toArray) (by simp [results, Tryd.results15, asAddr, hf0]) rfl ?_
  exact ⟨rfl, Below.kp HB.out H36.out.2 o1_0.out HB.out.size⟩
/-- The digest of bytes, as the document has it. -/
theorem dSum_any (f : Nat → Nat) (n : Nat) (hn : n ≤ 1048576) (v : Value) (w : World) (hv : (v = .slice none 0 0 ∧ n = 0) ∨ ∃ a cp, v = .slice (some a) n cp ∧ Ra a n f w) : Calls Tryd.prog 15 #[v] w fun e w' => e = .returned (.agg (ints .u8 (ds f n) 32).toArray) ∧ Below w.heap.size w w' := by
  rcases hv with ⟨rfl, h0⟩ | ⟨a, cp, rfl, hR⟩
  · exact dSum_none f n hn h0 w
  · exact dSum_some f n hn a cp w hR
end Rg
end Go.Proofs.YtolflfjfegngnaaDoor
end
section
namespace Go.Proofs.YtolflfjfegngnaaDoor
open Go.RowKit
namespace Rg
/-! The words. -/
theorem or_low (a b k : Nat) (h : b < 2 ^ k) : a * 2 ^ k ||| b = a * 2 ^ k + b := by
  have := Nat.two_pow_add_eq_or_of_lt (i := k) (b := b) h a
  rw [Nat.mul_comm a]
  exact this.symm
theorem wd_val {a b c d : Nat} (ha : a < 256) (hb : b < 256) (hc : c < 256) (hd : d < 256) : ou (ou (ou (sl (c32 a) 24) (sl (c32 b) 16)) (sl (c32 c) 8)) (c32 d) = ((a * 256 + b) * 256 + c) * 256 + d := by
  have e1 : sl (c32 a) 24 = a * 2 ^ 24 := by unfold sl c32; omega
  have e2 : sl (c32 b) 16 = b * 2 ^ 16 := by unfold sl c32; omega
  have e3 : sl (c32 c) 8 = c * 2 ^ 8 := by unfold sl c32; omega
  have e4 : c32 d = d := by unfold c32; omega
  have o1 : ou (a * 2 ^ 24) (b * 2 ^ 16) = (a * 256 + b) * 2 ^ 16 := by
    unfold ou
    rw [or_low a (b * 2 ^ 16) 24 (by omega)]
    omega
  have o2 : ou ((a * 256 + b) * 2 ^ 16) (c * 2 ^ 8) = ((a * 256 + b) * 256 + c) * 2 ^ 8 := by
    unfold ou
    rw [or_low (a * 256 + b) (c * 2 ^ 8) 16 (by omega)]
    omega
  have o3 : ou (((a * 256 + b) * 256 + c) * 2 ^ 8) d = ((a * 256 + b) * 256 + c) * 256 + d := by
    unfold ou
    rw [or_low ((a * 256 + b) * 256 + c) d 8 (by omega)]
    omega
  rw [e1, e2, e3, e4, o1, o2, o3]
theorem wd_one {a b : Nat} (ha : a < 16777216) (hb : b < 256) : ou (sl a 8) (c32 b) = a * 256 + b := by
  have e1 : sl a 8 = a * 2 ^ 8 := by unfold sl; omega
  have e2 : c32 b = b := by unfold c32; omega
  rw [e1, e2]
  unfold ou
  rw [or_low a b 8 (by omega)]
  omega
theorem up_up (f : Nat → Nat) (k a b : Nat) : up (up f k a) k b = up f k b := by
  funext j
  unfold up
  by_cases h : j = k
  · rw [if_pos h, if_pos h]
  · rw [if_neg h, if_neg h, if_neg h]
theorem up_same (f : Nat → Nat) (k a : Nat) : up f k a k = a := by unfold up; rw [if_pos rfl]
theorem iw_four (v : Nat → Nat) (t : Nat) (y : Nat → Nat) (h0 : v t = 0) (hy : ∀ i, y i < 256) : iw v t y 4 = up v t (((y 0 * 256 + y 1) * 256 + y 2) * 256 + y 3) := by
  have a0 := hy 0
  have a1 := hy 1
  have a2 := hy 2
  have a3 := hy 3
  have e1 : iw v t y 1 = up v t (y 0) := by
    show up v t (ou (sl (v t) 8) (c32 (y 0))) = _
    rw [h0, wd_one (by omega) a0, Nat.zero_mul, Nat.zero_add]
  have e2 : iw v t y 2 = up v t (y 0 * 256 + y 1) := by
    show up (iw v t y 1) t (ou (sl (iw v t y 1 t) 8) (c32 (y 1))) = _
    rw [e1, up_same, up_up, wd_one (by omega) a1]
  have e3 : iw v t y 3 = up v t ((y 0 * 256 + y 1) * 256 + y 2) := by
    show up (iw v t y 2) t (ou (sl (iw v t y 2 t) 8) (c32 (y 2))) = _
    rw [e2, up_same, up_up, wd_one (by omega) a2]
  show up (iw v t y 3) t (ou (sl (iw v t y 3 t) 8) (c32 (y 3))) = _
  rw [e3, up_same, up_up, wd_one (by omega) a3]
theorem w0_zero (x : Nat → Nat) : ∀ k j, k ≤ j → w0 x k j = 0
  | 0, _, _ => rfl
  | k + 1, j, h => by
    show up (w0 x k) k (wd x k) j = 0
    unfold up
    rw [if_neg (by omega), w0_zero x k j (by omega)]
theorem dw_w0 (P : Nat → Nat) (ap : Nat) (hP : ∀ j, P j < 256) : ∀ k, k ≤ 16 → dw P ap k = w0 (fun j => P (ap + j)) k
  | 0, _ => rfl
  | k + 1, h => by
    rw [dw_lo P ap (by omega), dw_w0 P ap hP k (by omega), iw_four _ _ _ (w0_zero _ k k (Nat.le_refl _)) (fun i => hP _)]
    show _ = up (w0 (fun j => P (ap + j)) k) k (wd (fun j => P (ap + j)) k)
    congr 1
    unfold wd
    rw [wd_val (hP _) (hP _) (hP _) (hP _), Nat.add_zero, Nat.add_assoc ap, Nat.add_assoc ap, Nat.add_assoc ap]
theorem dw_ws (P : Nat → Nat) (ap : Nat) (hP : ∀ j, P j < 256) : ∀ m, dw P ap (16 + m) = ws (w0 (fun j => P (ap + j)) 16) m
  | 0 => dw_w0 P ap hP 16 (Nat.le_refl _)
  | m + 1 => by
    show dw P ap (16 + m + 1) = _
    rw [dw_hi P ap (by omega), dw_ws P ap hP m]
    rfl
/-! The eight numbers. -/
def xn (K W : Nat) (x : Nat → Nat) : Nat → Nat := ei (ad (xp K W x) (xq x)) (x 0) (x 1) (x 2) (ad (x 3) (xp K W x)) (x 4) (x 5) (x 6)
def st8 (x : Nat → Nat) : St := ⟨x 0, x 1, x 2, x 3, x 4, x 5, x 6, x 7⟩
theorem ei_0 (a b c d e f g h : Nat) : ei a b c d e f g h 0 = a := rfl
theorem ei_1 (a b c d e f g h : Nat) : ei a b c d e f g h 1 = b := rfl
theorem ei_2 (a b c d e f g h : Nat) : ei a b c d e f g h 2 = c := rfl
theorem ei_3 (a b c d e f g h : Nat) : ei a b c d e f g h 3 = d := rfl
theorem ei_4 (a b c d e f g h : Nat) : ei a b c d e f g h 4 = e := rfl
theorem ei_5 (a b c d e f g h : Nat) : ei a b c d e f g h 5 = f := rfl
theorem ei_6 (a b c d e f g h : Nat) : ei a b c d e f g h 6 = g := rfl
theorem ei_7 (a b c d e f g h : Nat) : ei a b c d e f g h 7 = h := rfl
theorem pp_xp (K W : Nat) (x : Nat → Nat) : pp K W (st8 x) = xp K W x := by
  unfold pp xp
  unfold st8
  exact Eq.refl _
theorem qq_xq (x : Nat → Nat) : qq (st8 x) = xq x := by
  unfold qq xq
  unfold st8
  exact Eq.refl _
theorem stp_of (K W : Nat) (s : St) (p q : Nat) (hp : pp K W s = p) (hq : qq s = q) : stp K W s = ⟨ad p q, s.a, s.b, s.c, ad s.d p, s.e, s.f, s.g⟩ := by
  unfold stp
  rw [hp, hq]
theorem stp_xn (K W : Nat) (x : Nat → Nat) : stp K W (st8 x) = st8 (xn K W x) := by
  rw [stp_of K W (st8 x) _ _ (pp_xp K W x) (qq_xq x)]
  unfold xn
  generalize xp K W x = p
  generalize xq x = q
  unfold st8
  generalize ad p q = u
  generalize ad (x 3) p = v
  rw [ei_0, ei_1, ei_2, ei_3, ei_4, ei_5, ei_6, ei_7]
theorem rn_succ (s W : Nat → Nat) (t : Nat) : rn s W (t + 1) = stp (kT t) (W t) (rn s W t) := by rw [rn]
theorem rn_zero (s W : Nat → Nat) : rn s W 0 = st8 s := by rw [rn, st8]
theorem xs_succ (h K W : Nat → Nat) (k : Nat) : xs h K W (k + 1) = xn (K k) (W k) (xs h K W k) := by rw [xs, xn]
theorem xs_zero (h K W : Nat → Nat) : xs h K W 0 = h := by rw [xs]
theorem rn_xs (h W : Nat → Nat) (k : Nat) : rn h W k = st8 (xs h kT W k) := by
  induction k with
  | zero => rw [rn_zero, xs_zero]
  | succ k ih => rw [xs_succ, rn_succ, ih, stp_xn]
theorem hv_get (h x : Nat → Nat) : ∀ k j, hv h x k j = if j < k then ad (h j) (x j) else h j
  | 0, j => by rw [if_neg (by omega)]; rfl
  | k + 1, j => by
    show up (hv h x k) k (ad (hv h x k k) (x k)) j = _
    unfold up
    rw [hv_get h x k k, hv_get h x k j, if_neg (Nat.lt_irrefl k)]
    by_cases e : j = k
    · subst e
      rw [if_pos rfl, if_pos (by omega)]
    · rw [if_neg e]
      by_cases l : j < k
      · rw [if_pos l, if_pos (by omega)]
      · rw [if_neg l, if_neg (by omega)]
theorem lt8 {p : Nat → Prop} (h : p 0 ∧ p 1 ∧ p 2 ∧ p 3 ∧ p 4 ∧ p 5 ∧ p 6 ∧ p 7) (j : Nat) (hj : j < 8) : p j := by
  obtain ⟨h0, h1, h2, h3, h4, h5, h6, h7⟩ := h
  rcases (by omega : j = 0 ∨ j = 1 ∨ j = 2 ∨ j = 3 ∨ j = 4 ∨ j = 5 ∨ j = 6 ∨ j = 7) with rfl | rfl | rfl | rfl | rfl | rfl | rfl | rfl <;> assumption
theorem mw_get (s W : Nat → Nat) (j : Nat) (hj : j < 8) : mw s W j = ad (s j) (xs s kT W 64 j) := by
  unfold mw
  rw [rn_xs]
  generalize xs s kT W 64 = g
  simp only [st8]
  exact lt8 (p := fun j => ei (ad (s 0) (g 0)) (ad (s 1) (g 1)) (ad (s 2) (g 2)) (ad (s 3) (g 3)) (ad (s 4) (g 4)) (ad (s 5) (g 5)) (ad (s 6) (g 6)) (ad (s 7) (g 7)) j = ad (s j) (g j)) ⟨ei_0 .., ei_1 .., ei_2 .., ei_3 .., ei_4 .., ei_5 .., ei_6 .., ei_7 ..⟩ j hj
theorem db_mx (s P : Nat → Nat) (ap : Nat) (hP : ∀ j, P j < 256) (j : Nat) (hj : j < 8) : db s kT P ap j = mx s (fun j => P (ap + j)) j := by
  unfold db mx
  rw [hv_get, if_pos hj, mw_get _ _ _ hj, ← dw_ws P ap hP 48]
theorem rn_congr {s s' : Nat → Nat} (W : Nat → Nat) (h : ∀ j, j < 8 → s j = s' j) (k : Nat) : rn s W k = rn s' W k := by
  induction k with
  | zero =>
    rw [rn_zero, rn_zero]
    unfold st8
    rw [h 0 (by decide), h 1 (by decide), h 2 (by decide), h 3 (by decide), h 4 (by decide), h 5 (by decide), h 6 (by decide), h 7 (by decide)]
  | succ k ih => rw [rn_succ, rn_succ, ih]
theorem w0_congr {x x' : Nat → Nat} (h : ∀ j, j < 64 → x j = x' j) : ∀ k, k ≤ 16 → w0 x k = w0 x' k
  | 0, _ => rfl
  | k + 1, hk => by
    show up (w0 x k) k (wd x k) = up (w0 x' k) k (wd x' k)
    rw [w0_congr h k (by omega)]
    unfold wd
    rw [h (4 * k) (by omega), h (4 * k + 1) (by omega), h (4 * k + 2) (by omega), h (4 * k + 3) (by omega)]
theorem mx_congr {s s' x x' : Nat → Nat} (h : ∀ j, j < 8 → s j = s' j) (hx : ∀ j, j < 64 → x j = x' j) : mx s x = mx s' x' := by
  unfold mx
  rw [w0_congr hx 16 (Nat.le_refl _)]
  unfold mw
  rw [rn_congr _ h, h 0 (by decide), h 1 (by decide), h 2 (by decide), h 3 (by decide), h 4 (by decide), h 5 (by decide), h 6 (by decide), h 7 (by decide)]
/-! Block by block. -/
def ch (f : Nat → Nat) : Nat → Nat → Nat
  | 0 => fT
  | k + 1 => mx (ch f k) (fun j => f (64 * k + j))
theorem hby_ch (f : Nat → Nat) : ∀ n, (hby f ⟨fT, fun _ => 0, 0⟩ n).s = ch f (n / 64) ∧ ∀ j, j < n % 64 → (hby f ⟨fT, fun _ => 0, 0⟩ n).r j = f (64 * (n / 64) + j)
  | 0 => ⟨rfl, fun j hj => by omega⟩
  | n + 1 => by
    obtain ⟨h1, h2⟩ := hby_ch f n
    have hc : (hby f ⟨fT, fun _ => 0, 0⟩ n).c = n := by rw [hby_c]; exact Nat.zero_add n
    have hr : ∀ j, j ≤ n % 64 → up (hby f ⟨fT, fun _ => 0, 0⟩ n).r (n % 64) (f n) j = f (64 * (n / 64) + j) := fun j hj => by
      unfold up
      by_cases e : j = n % 64
      · rw [if_pos e, e]; congr 1; omega
      · rw [if_neg e, h2 j (by omega)]
    have e1 : (hby f ⟨fT, fun _ => 0, 0⟩ (n + 1)).s = if (n + 1) % 64 = 0 then mx (hby f ⟨fT, fun _ => 0, 0⟩ n).s (up (hby f ⟨fT, fun _ => 0, 0⟩ n).r (n % 64) (f n)) else (hby f ⟨fT, fun _ => 0, 0⟩ n).s := by
      show (if ((hby f ⟨fT, fun _ => 0, 0⟩ n).c + 1) % 64 = 0 then mx (hby f ⟨fT, fun _ => 0, 0⟩ n).s (up (hby f ⟨fT, fun _ => 0, 0⟩ n).r ((hby f ⟨fT, fun _ => 0, 0⟩ n).c % 64) (f n)) else _) = _
      rw [hc]
    have e2 : (hby f ⟨fT, fun _ => 0, 0⟩ (n + 1)).r = up (hby f ⟨fT, fun _ => 0, 0⟩ n).r (n % 64) (f n) := by
      show up (hby f ⟨fT, fun _ => 0, 0⟩ n).r ((hby f ⟨fT, fun _ => 0, 0⟩ n).c % 64) (f n) = _
      rw [hc]
    rw [e1, e2]
    by_cases hz : (n + 1) % 64 = 0
    · rw [if_pos hz]
      refine ⟨?_, fun j hj => by omega⟩
      rw [show (n + 1) / 64 = n / 64 + 1 by omega]
      show _ = mx (ch f (n / 64)) (fun j => f (64 * (n / 64) + j))
      exact mx_congr (fun j _ => by rw [h1]) (fun j hj => hr j (by omega))
    · rw [if_neg hz, show (n + 1) / 64 = n / 64 by omega]
      exact ⟨h1, fun j hj => hr j (by omega)⟩
theorem hd_step (P : Nat → Nat) (hP : ∀ j, P j < 256) (k : Nat) {s x : Nat → Nat} (hs : ∀ j, j < 8 → hd P k j = s j) (hx : ∀ j, j < 64 → P (64 * k + j) = x j) (j : Nat) (hj : j < 8) : hd P (k + 1) j = mx s x j := by
  show db (hd P k) kT P (64 * k) j = _
  rw [db_mx _ _ _ hP j hj]
  exact congrFun (mx_congr hs hx) j
theorem hd_ch (f P : Nat → Nat) (hP : ∀ j, P j < 256) (n : Nat) (hf : ∀ j, j < n → P j = f j) : ∀ k, 64 * k ≤ n → ∀ j, j < 8 → hd P k j = ch f k j
  | 0, _, _, _ => rfl
  | k + 1, hk, j, hj => hd_step P hP k (hd_ch f P hP n hf k (by omega)) (fun i hi => hf _ (by omega)) j hj
/-! The bytes of the eight numbers. -/
theorem bo_get (s : Nat → Nat) : ∀ n i t, t < 4 → bo s n (4 * i + t) = if i < n then sr (s i) (24 - 8 * t) % 256 else 0
  | 0, i, t, _ => by rw [if_neg (by omega)]; rfl
  | n + 1, i, t, ht => by
    show up (up (up (up (bo s n) (4 * n) (sr (s n) 24 % 256)) (4 * n + 1) (sr (s n) 16 % 256)) (4 * n + 2) (sr (s n) 8 % 256)) (4 * n + 3) (s n % 256) (4 * i + t) = _
    have ih := bo_get s n i t ht
    unfold up
    by_cases e : i = n
    · subst e
      rw [if_pos (Nat.lt_succ_self i)]
      rcases (by omega : t = 0 ∨ t = 1 ∨ t = 2 ∨ t = 3) with rfl | rfl | rfl | rfl
      · rw [if_neg (by omega), if_neg (by omega), if_neg (by omega), if_pos (by omega)]
      · rw [if_neg (by omega), if_neg (by omega), if_pos (by omega)]
      · rw [if_neg (by omega), if_pos (by omega)]
      · rw [if_pos (by omega)]
        unfold sr
        rw [show 24 - 8 * 3 = 0 from rfl, Nat.pow_zero, Nat.div_one]
    · rw [if_neg (by omega), if_neg (by omega), if_neg (by omega), if_neg (by omega), ih]
      by_cases l : i < n
      · rw [if_pos l, if_pos (by omega)]
      · rw [if_neg l, if_neg (by omega)]
theorem ob_get (h : Nat → Nat) : ∀ n j, ob h n j = if j < n then sr (h (j / 4)) (24 - 8 * (j % 4)) % 256 else 0
  | 0, j => by rw [if_neg (by omega)]; rfl
  | n + 1, j => by
    show up (ob h n) n (sr (h (n / 4)) (24 - (8 * (n % 4))) % 256) j = _
    unfold up
    by_cases e : j = n
    · subst e; rw [if_pos rfl, if_pos (by omega)]
    · rw [if_neg e, ob_get h n j]
      by_cases l : j < n
      · rw [if_pos l, if_pos (by omega)]
      · rw [if_neg l, if_neg (by omega)]
theorem ob_bo {h s : Nat → Nat} (e : ∀ j, j < 8 → h j = s j) (j : Nat) (hj : j < 32) : ob h 32 j = bo s 8 j := by
  rw [ob_get, if_pos hj]
  have := bo_get s 8 (j / 4) (j % 4) (by omega)
  rw [show 4 * (j / 4) + j % 4 = j by omega, if_pos (by omega)] at this
  rw [this, e _ (by omega)]
theorem e8_get (x : Nat) : ∀ n j, e8 x n j = if j < n then b8 x j else 0
  | 0, j => by rw [if_neg (by omega)]; rfl
  | n + 1, j => by
    show up (e8 x n) n (sr x (56 - 8 * n) % 256) j = _
    unfold up
    by_cases e : j = n
    · subst e; rw [if_pos rfl, if_pos (by omega)]; rfl
    · rw [if_neg e, e8_get x n j]
      by_cases l : j < n
      · rw [if_pos l, if_pos (by omega)]
      · rw [if_neg l, if_neg (by omega)]
/-! The whole. -/
theorem pd_lt (f : Nat → Nat) (hf : ∀ j, f j < 256) (n j : Nat) : pd f n j < 256 := by
  unfold pd ct
  split
  · unfold pz
    split
    · exact hf j
    · split <;> omega
  · exact Nat.mod_lt _ (by decide)
theorem pd_f (f : Nat → Nat) (n j : Nat) (h : j < n) : pd f n j = f j := by
  unfold pd ct pz
  rw [if_pos (by omega), if_pos h]
theorem pd_n (f : Nat → Nat) (n : Nat) : pd f n n = 128 := by
  unfold pd ct pz
  rw [if_pos (by omega), if_neg (by omega), if_pos rfl]
theorem pd_z (f : Nat → Nat) (n j : Nat) (h : n < j) (h2 : j < n + 1 + zc n) : pd f n j = 0 := by
  unfold pd ct pz
  rw [if_pos h2, if_neg (by omega), if_neg (by omega)]
theorem pd_e (f : Nat → Nat) (n j : Nat) (hn : n ≤ 1048576) (h : n + 1 + zc n ≤ j) : pd f n j = b8 (c64 (8 * n)) (j - (n + 1 + zc n)) := by
  unfold pd ct
  rw [if_neg (by omega), show c64 n = n by unfold c64; omega]
theorem dg0_ds (f : Nat → Nat) (hf : ∀ j, f j < 256) (n : Nat) (hn : n ≤ 1048576) (j : Nat) (hj : j < 32) : dg0 f n j = ds f n j := by
  have hP := pd_lt f hf n
  obtain ⟨hs, hr⟩ := hby_ch f n
  have hc : (hby f ⟨fT, fun _ => 0, 0⟩ n).c = n := by rw [hby_c]; exact Nat.zero_add n
  have hz : zc n = (120 - (n + 1) % 64) % 64 := rfl
  have hb : nb n = (n + 1 + zc n + 8) / 64 := rfl
  have hch := hd_ch f (pd f n) hP n (fun i hi => pd_f f n i hi)
  unfold dg0 ds
  rw [hc, hs]
  generalize (hby f ⟨fT, fun _ => 0, 0⟩ n).r = r at hr
  obtain ⟨m, hm⟩ : ∃ m, m = n / 64 := ⟨_, rfl⟩
  obtain ⟨k, hk⟩ : ∃ k, k = n % 64 := ⟨_, rfl⟩
  rw [← hm] at hr ⊢
  have hnk : n = 64 * m + k := by omega
  have hk64 : k < 64 := by omega
  have h0 := hch m (by omega)
  unfold fz
  rw [← hk] at hr ⊢
  by_cases c1 : k < 56
  · rw [if_pos c1, show nb n = m + 1 by omega]
    refine (ob_bo (fun i hi => hd_step (pd f n) hP m h0 (fun i hi => ?_) i hi) j hj).symm
    unfold pr8 cl
    by_cases a1 : i < k
    · rw [if_neg (by omega), if_neg (by omega), pd_f f n _ (by omega)]
      unfold up
      rw [if_neg (by omega), hr i a1]
    · by_cases a2 : i = k
      · rw [if_neg (by omega), if_neg (by omega), show 64 * m + i = n by omega, pd_n]
        unfold up
        rw [if_pos a2]
      · by_cases a3 : i < 56
        · rw [if_neg (by omega), if_pos (by omega), pd_z f n _ (by omega) (by omega)]
        · rw [if_pos (by omega), e8_get, if_pos (by omega), pd_e f n _ hn (by omega), show 64 * m + i - (n + 1 + zc n) = i - 56 by omega]
  · rw [if_neg c1, show nb n = m + 1 + 1 by omega]
    have two : ∀ x, (∀ i, i < 64 → pd f n (64 * m + i) = x i) → ob (hd (pd f n) (m + 1 + 1)) 32 j = bo (mx (mx (ch f m) x) (pr8 (fun _ => 0) 56 8 (e8 (c64 (8 * n)) 8))) 8 j := fun x hx => by
      refine ob_bo (fun i hi => hd_step (pd f n) hP (m + 1) (fun i hi => hd_step (pd f n) hP m h0 hx i hi) (fun i hi => ?_) i hi) j hj
      unfold pr8
      by_cases a3 : i < 56
      · rw [if_neg (by omega), pd_z f n _ (by omega) (by omega)]
      · rw [if_pos (by omega), e8_get, if_pos (by omega), pd_e f n _ hn (by omega), show 64 * (m + 1) + i - (n + 1 + zc n) = i - 56 by omega]
    by_cases c2 : k < 63
    · rw [if_pos c2]
      refine (two _ (fun i hi => ?_)).symm
      unfold cl
      by_cases a1 : i < k
      · rw [if_neg (by omega), pd_f f n _ (by omega)]
        unfold up
        rw [if_neg (by omega), hr i a1]
      · by_cases a2 : i = k
        · rw [if_neg (by omega), show 64 * m + i = n by omega, pd_n]
          unfold up
          rw [if_pos a2]
        · rw [if_pos (by omega), pd_z f n _ (by omega) (by omega)]
    · rw [if_neg c2]
      refine (two _ (fun i hi => ?_)).symm
      by_cases a1 : i < k
      · rw [pd_f f n _ (by omega)]
        unfold up
        rw [if_neg (by omega), hr i a1]
      · rw [show 64 * m + i = n by omega, pd_n]
        unfold up
        rw [if_pos (by omega)]
end Rg
end Go.Proofs.YtolflfjfegngnaaDoor
end
section
namespace Go.Proofs.YtolflfjfegngnaaDoor
open Go.RowKit
namespace Rg
set_option maxRecDepth 100000
/-- The bytes of a list that is lent. -/
def lf (xs : List Int) (j : Nat) : Nat := (lent xs j).toNat
theorem lf_int {xs : List Int} (hx : ∀ x ∈ xs, 0 ≤ x ∧ x < 256) (j : Nat) : ((lf xs j : Nat) : Int) = lent xs j := Int.toNat_of_nonneg (lent_bd xs hx j).1
theorem lf_lt {xs : List Int} (hx : ∀ x ∈ xs, 0 ≤ x ∧ x < 256) (j : Nat) : lf xs j < 256 := by
  have := lent_bd xs hx j
  unfold lf
  omega
theorem lent_born (xs : List Int) (c : Nat) (v : Value) (hx : ∀ x ∈ xs, 0 ≤ x ∧ x < 256) (hn : xs.length ≤ 1048576) (w : World) (h : BSl w xs c v) :
    Calls Tryd.prog 13 #[v] w fun e w' => Below w.heap.size w w' ∧ ∃ g, e = .returned (.slice (some ⟨g, 0, none⟩) xs.length (xs.length + 3)) ∧ w.heap.size ≤ g ∧ g < w'.heap.size ∧ Blk w' g (ints .u8 (lf xs) (xs.length + 3)) := by
  refine Calls.mono (lent_any xs c v hn w h) ?_
  rintro e w' ⟨he, h1, h2, h3⟩
  refine ⟨h3, w.heap.size, he, Nat.le_refl _, h1, fun j u hj => ?_⟩
  have hjn : j < xs.length + 3 := by
    have := (List.getElem?_eq_some_iff.1 hj).1
    rwa [ints_len] at this
  rw [ints_get _ _ hjn, lf_int hx] at hj
  obtain rfl := Option.some.inj hj
  exact h2 j hjn
theorem Mm.row8 {w : World} {l : List (Nat × List Value)} {xs : List Int} {g : Nat} (hx : ∀ x ∈ xs, 0 ≤ x ∧ x < 256) (h : Mm w l) (k : Nat) (hk : l[k]? = some (g, ints .u8 (lf xs) (xs.length + 3))) : g < w.heap.size ∧ Row8 w g (xs.length + 3) (lent xs) := by
  have hb := h.blk _ (List.mem_of_getElem? hk)
  refine ⟨hb.1, fun j hj => ?_⟩
  have := hb.2 j _ (ints_get .u8 (lf xs) hj)
  rw [lf_int hx] at this
  exact this
theorem Mm.rs {w : World} {l : List (Nat × List Value)} {f : Nat → Nat} {g m n : Nat} (h : Mm w l) (k : Nat) (hk : l[k]? = some (g, ints .u8 f m)) (hn : n ≤ m) : Rs g 0 n f w := by
  have hb := h.blk _ (List.mem_of_getElem? hk)
  exact ⟨fun _ => hb.1, fun i hi => by rw [Nat.zero_add]; exact (hb.2 i _ (ints_get .u8 f (by omega))).1⟩
theorem Bv.start (gb o n cp : Nat) : Bv gb o n cp 0 (.slice (some ⟨gb, o, none⟩) n cp) := ⟨fun _ => rfl, fun h => ⟨some ⟨gb, o, none⟩, cp, by rw [← h]⟩⟩
theorem call13 : ∀ args w, (callFunc 13 args).run Tryd.prog w = .ok (.enter 13 args) w := by intro args w; go_simp
theorem call14 : ∀ args w, (callFunc 14 args).run Tryd.prog w = .ok (.enter 14 args) w := by intro args w; go_simp
theorem call15 : ∀ args w, (callFunc 15 args).run Tryd.prog w = .ok (.enter 15 args) w := by intro args w; go_simp
theorem call16 : ∀ args w, (callFunc 16 args).run Tryd.prog w = .ok (.enter 16 args) w := by intro args w; go_simp
end Rg
end Go.Proofs.YtolflfjfegngnaaDoor
end
section
namespace Go.Proofs.YtolflfjfegngnaaDoor
open Go.RowKit
namespace Rg
set_option maxRecDepth 100000
theorem Src.kp2 {g gb o n : Nat} {f : Nat → Nat} {w w' : World} (h : Src g gb o n f w) (k : Kp g w w') : Src g gb o n f w' :=
  ⟨fun hn => Nat.lt_of_lt_of_le (h.lt hn) k.size, h.ne, fun i hi => h.kp k i hi⟩
theorem Kp.join {g : Nat} {a b c : World} (h : Kp g a b) (k : Kp g b c) : Kp g a c :=
  ⟨k.os.trans h.os, k.tape.trans h.tape, k.output.trans h.output, Nat.le_trans h.size k.size, fun i hi hg => (k.block i (Nat.lt_of_lt_of_le hi h.size) hg).trans (h.block i hi hg)⟩
theorem Src.void (g gb o : Nat) (f : Nat → Nat) (w : World) : Src g gb o 0 f w := ⟨fun h => absurd h (by decide), fun h => absurd h (by decide), fun i hi => absurd hi (by omega)⟩
theorem Bv.void (gb o cp : Nat) (p : Option Addr) (c : Nat) : Bv gb o 0 cp 0 (.slice p 0 c) := ⟨fun h => absurd h (by decide), fun _ => ⟨p, c, rfl⟩⟩
theorem Mm.src {w : World} {l : List (Nat × List Value)} {f : Nat → Nat} {g gb m n : Nat} {cs : List Value} (h : Mm w l) (i j : Nat) (hg : l[i]? = some (g, cs)) (hk : l[j]? = some (gb, ints .u8 f m)) (hij : i ≠ j) (hn : n ≤ m) : Src g gb 0 n f w := by
  have h2 := h.two i j hg hk hij
  have hb := h2.blk (gb, ints .u8 f m) (by simp)
  refine ⟨fun _ => hb.1, fun _ e => ?_, fun i hi => by rw [Nat.zero_add]; exact (hb.2 i _ (ints_get .u8 f (by omega))).1⟩
  have := (List.pairwise_cons.1 h2.nd).1 (gb, ints .u8 f m) (by simp)
  exact this e.symm
set_option maxRecDepth 100000 in
theorem New_any  (w : World) (hm : Mm w [(0, ints .u32 fT 8)]) :
    Calls Tryd.prog 25 #[] w fun e w' => Below w.heap.size w w' ∧ ∃ g, e = .returned (PT g 0) ∧ w.heap.size ≤ g ∧ g < w'.heap.size ∧ Blk w' g (hs true fT (fun _ => 0) 0) := by
  have H0 : Hid (_ ∧ _) := ⟨hm, Below.refl w.heap.size w⟩
  clear hm
  go_enter Tryd.func25, Tryd.ntmps25
  refine wp_seq ?_
  refine walk_seqB 1 [.quiet (.pointer none)] H0 ?ho1 ?he1
  case ho1 => exact ak (fun _ => ⟨rfl, fun _ _ => rfl⟩) trivial
  intro _ w1 H1
  refine rest0 rfl (then_normal (wp_seq ?_))
  refine walk_seqA 3 [.call (.agg (hs true fT (fun _ => 0) 0).toArray), .made (hs false (fun _ => 0) (fun _ => 0) 0) 58, .laid 1 (hs false (fun _ => 0) (fun _ => 0) 0) (hs true fT (fun _ => 0) 0)] (sB H1) ?ho2 ?he2 (hL := ?hL2)
  case hL2 => exact ⟨⟨_, rfl⟩, trivial⟩
  case ho2 => exact ak (fun γ => ⟨rfl, fun w' h => ⟨44, #[], exec_call rfl call44 rfl (mpn rfl), begun_any w' (h.one 0 rfl)⟩⟩) (ak (fun γ => ⟨rfl, fun w' => ex_mk58 rfl⟩) (ak (fun γ => ⟨rfl, rfl, (hs_len _ _ _ _).trans (hs_len _ _ _ _).symm, fun w' h => ex_laidH h Tryd.sizeOf58 rfl rfl rfl⟩) trivial))
  intro γ w2 l hM hl
  have H2 : Hid (Mm w2 [(γ 1, hs true fT (fun _ => 0) 0), (0, ints .u32 fT 8)] ∧ _) := growB H1 hM (Nat.le_refl _) hl [1] rfl (by decide)
  have o2_1 := ownB H1 hM (Nat.le_refl _) hl (i := 1) rfl
  clear hM hl l H1
  generalize γ 1 = γ2_1 at H2 o2_1 ⊢
  clear γ
  refine rest0 rfl (then_normal (wp_seq ?_))
  refine walk_seqB 1 [.quiet (PT γ2_1 0)] H2 ?ho3 ?he3
  case ho3 => exact ak (fun _ => ⟨rfl, fun _ _ => rfl⟩) trivial
  intro _ w3 H3
  clear H2
  refine rest0 rfl (then_normal (wp_ret ?_))
  repeat (first | refine then_ret ?_ | refine block_ret ?_)
  refine bodyPost_ret (v := PT γ2_1 0) (by simp [results, Tryd.results25, go_sem, *]) rfl ?_
  exact ⟨H3.out.2, γ2_1, rfl, o2_1.out, (H3.out.1.one 0 rfl).blk _ (List.mem_singleton.2 rfl)⟩
set_option maxHeartbeats 1000000 in
set_option maxRecDepth 100000 in
theorem Write_ok (g gb o n cp : Nat) (q : Hq) (f : Nat → Nat) (v : Value) (hv : Bv gb o n cp 0 v) (hcp : n ≤ cp) (hb : q.c + n < 4611686018427387904) (w : World) (hm : Mm w [(g, hs true q.s q.r q.c), (1, ints .u32 kT 64)]) (hS : Src g gb o n f w) :
    Calls Tryd.prog 26 #[PT g 0, v] w fun e w' => e = .returned (.int .i64 0) ∧ Mm w' [(g, hs true (hby f q n).s (hby f q n).r (hby f q n).c)] ∧ Kp g w w' := by
  have H0 : Hid (_ ∧ _) := ⟨hm, Kp.refl g w⟩
  clear hm
  have S : Hid (Src g gb o n f w) := hS
  clear hS
  go_enter Tryd.func26, Tryd.ntmps26
  refine wp_seq ?_
  refine walk_seqA 1 [.quiet (.int .i64 0)] (sB H0) ?ho1 ?he1
  case ho1 => exact ak (fun _ => ⟨rfl, fun _ _ => rfl⟩) trivial
  intro γ w1 l hM hl
  have H1 := keepK H0 hM.below
  clear hM hl l γ
  refine rest0 rfl (then_normal (wp_seq (wp_seq ?_)))
  refine walk_seqA 3 [.quiet (PT g 0), .call (.bool true), .quiet (.bool false)] (sB H1) ?ho2 ?he2
  case ho2 => exact ak (fun _ => ⟨rfl, fun _ _ => rfl⟩) (ak (fun γ => ⟨rfl, fun w' h => ⟨54, #[PT g 0], exec_call rfl call54 rfl (mpn rfl), known_any _ _ _ _ _ w' (h.one 0 rfl)⟩⟩) (ak (by refine fun γ => ⟨rfl, fun w' h => ?_⟩; clear h; go_simp) trivial))
  intro γ w2 l hM hl
  have H2 := keepK H1 hM.below
  clear hM hl l H1 γ
  refine rest0 rfl (then_normal (wp_cond_false rfl ?_))
  refine wp_skip (then_normal (wp_seq ?_))
  refine walk_seqA 2 [.quiet (PT g 0), .quiet (v)] (sB H2) ?ho3 ?he3
  case ho3 => exact ak (fun _ => ⟨rfl, fun _ _ => rfl⟩) (ak (fun _ => ⟨rfl, fun _ _ => rfl⟩) trivial)
  intro γ w3 l hM hl
  have H3 := keepK H2 hM.below
  clear hM hl l H2 γ
  refine rest_at (l := [2]) rfl ?_
  refine rest_enter (d := 10) (R := fun vv w' => vv = .tuple #[] ∧ Mm w' [(g, hs true ((hby f q n).s) ((hby f q n).r) ((hby f q n).c))] ∧ Kp g w3 w') rfl rfl rfl (exec_call (args := #[PT g 0, v]) rfl call45 rfl (mpn rfl)) (Calls.mono (add_any g gb o n cp true q f v hv hcp hb w3 (H3.out.1.two 0 1 rfl rfl (by decide)) (S.out.kp2 H3.out.2)) (fun e w2 hh => ⟨_, hh.1, rfl, hh.2⟩)) ?_
  rintro _ w4 ⟨rfl, hn, hp⟩
  have H4 : Hid (Mm w4 [(g, hs true ((hby f q n).s) ((hby f q n).r) ((hby f q n).c)), (1, ints .u32 kT 64)] ∧ Kp g w w4) := ⟨H3.out.1.change 0 rfl hp hn, H3.out.2.join hp⟩
  clear hn hp H3
  simp only [Act.put, sa, sz, ss]
  refine rest_nil (then_normal (wp_seq ?_))
  refine walk_seqA 1 [.quiet (.int .i64 0)] (sB H4) ?ho4 ?he4
  case ho4 => exact ak (fun _ => ⟨rfl, fun _ _ => rfl⟩) trivial
  intro γ w5 l hM hl
  have H5 := keepK H4 hM.below
  clear hM hl l H4 γ
  refine rest0 rfl (then_normal (wp_ret ?_))
  repeat (first | refine then_ret ?_ | refine block_ret ?_)
  refine bodyPost_ret (v := .int .i64 0) (by simp [results, Tryd.results26, go_sem, *]) rfl ?_
  exact ⟨rfl, H5.out.1.one 0 rfl, H5.out.2⟩
set_option maxRecDepth 100000 in
theorem HSum_ok (g : Nat) (q : Hq) (w : World) (hm : Mm w [(g, hs true q.s q.r q.c), (1, ints .u32 kT 64)]) :
    Calls Tryd.prog 29 #[PT g 0] w fun e w' => e = .returned (.agg (ints .u8 (fz q.s q.r q.c) 32).toArray) ∧ Below w.heap.size w w' := by
  have H0 : Hid (_ ∧ _) := ⟨hm, Below.refl w.heap.size w⟩
  clear hm
  go_enter Tryd.func29, Tryd.ntmps29
  refine wp_seq ?_
  refine walk_seqA 1 [.made (ints .u8 (fun _ => 0) 32) 25] (sB H0) ?ho1 ?he1
  case ho1 => exact ak (fun γ => ⟨rfl, fun w' => ex_mk25 rfl⟩) trivial
  intro γ w1 l hM hl
  have H1 : Hid (Mm w1 [(γ 0, ints .u8 (fun _ => 0) 32), (g, hs true q.s q.r q.c), (1, ints .u32 kT 64)] ∧ _) := growB H0 hM (Nat.le_refl _) hl [0] rfl (by decide)
  have o1_0 := ownB H0 hM (Nat.le_refl _) hl (i := 0) rfl
  clear hM hl l
  generalize γ 0 = γ1_0 at H1 o1_0 ⊢
  clear γ
  refine rest0 rfl (then_normal (wp_seq (wp_seq ?_)))
  refine walk_seqB 3 [.quiet (PT g 0), .call (.bool true), .quiet (.bool false)] H1 ?ho2 ?he2
  case ho2 => exact ak (fun _ => ⟨rfl, fun _ _ => rfl⟩) (ak (fun γ => ⟨rfl, fun w' h => ⟨54, #[PT g 0], exec_call rfl call54 rfl (mpn rfl), known_any _ _ _ _ _ w' (h.one 1 rfl)⟩⟩) (ak (by refine fun γ => ⟨rfl, fun w' h => ?_⟩; clear h; go_simp) trivial))
  intro _ w2 H2
  clear H1
  refine rest0 rfl (then_normal (wp_cond_false rfl ?_))
  refine wp_skip (then_normal (wp_seq ?_))
  refine walk_seqB 4 [.quiet (PT g 0), .quiet (PT g 0), .quiet (.agg (hs true q.s q.r q.c).toArray), .call (.agg (ints .u8 (fz q.s q.r q.c) 32).toArray)] H2 ?ho3 ?he3
  case ho3 => exact ak (fun _ => ⟨rfl, fun _ _ => rfl⟩) (ak (by refine fun γ => ⟨rfl, fun w' h => ?_⟩; clear h; go_simp) (ak (fun γ => ⟨rfl, fun w' h => ex_loadT h 1 rfl rfl rfl Tryd.isAgg58 Tryd.sizeOf58 (hs_whole _ _ _ _) (hs_len _ _ _ _)⟩) (ak (fun γ => ⟨rfl, fun w' h => ⟨46, #[.agg (hs true q.s q.r q.c).toArray], exec_call rfl call46 rfl (mpn rfl), finish_any _ _ _ _ w' (h.one 2 rfl)⟩⟩) trivial)))
  intro _ w3 H3
  clear H2
  refine rest_at (l := [4]) rfl ?_
  refine rest_store rfl rfl rfl (ex_storeT (vs := ints .u8 (fz q.s q.r q.c) 32) H3.out.1 0 rfl rfl rfl rfl (by rw [ints_len]; exact Tryd.sizeOf25) (ints_all _ _ _) (by simp [ints_len])) ?_
  have H4 : Hid (Mm (w3.setCells γ1_0 0 (ints .u8 (fz q.s q.r q.c) 32)) [(γ1_0, ints .u8 (fz q.s q.r q.c) 32), (g, hs true q.s q.r q.c), (1, ints .u32 kT 64)] ∧ Below w.heap.size w (w3.setCells γ1_0 0 (ints .u8 (fz q.s q.r q.c) 32))) := ⟨by
    have h := H3.out.1.put 0 (off := 0) (vs := ints .u8 (fz q.s q.r q.c) 32) rfl (by simp [ints_len])
    rw [ints_patch0 _ _ _ _] at h
    exact h, below_setCells _ o1_0.out _ _ _ H3.out.2⟩
  clear H3
  generalize hgw : World.setCells _ _ _ _ = w4 at H4 ⊢
  clear hgw
  refine rest_nil (then_normal (wp_ret ?_))
  repeat (first | refine then_ret ?_ | refine block_ret ?_)
  have hf0 := var_T H4.out.1 0 rfl Tryd.isAgg25 Tryd.sizeOf25 (ints_len _ _ _)
  refine bodyPost_ret (v := .agg (ints .u8 (fz q.s q.r q.c) 32).toArray) (by simp [results, Tryd.results29, asAddr, hf0]) rfl ?_
  exact ⟨rfl, H4.out.2⟩
end Rg
end Go.Proofs.YtolflfjfegngnaaDoor
end
section
namespace Go.Proofs.YtolflfjfegngnaaDoor
open Go.RowKit
namespace Rg
set_option maxRecDepth 100000
theorem Mm.three {w : World} {l : List (Nat × List Value)} (h : Mm w l) (i j k : Nat) {p q r : Nat × List Value} (hi : l[i]? = some p) (hj : l[j]? = some q) (hk : l[k]? = some r) (hij : i ≠ j) (hik : i ≠ k) (hjk : j ≠ k) : Mm w [p, q, r] := by
  have a := (List.pairwise_cons.1 (h.two i j hi hj hij).nd).1 q (by simp)
  have b := (List.pairwise_cons.1 (h.two i k hi hk hik).nd).1 r (by simp)
  have c := (List.pairwise_cons.1 (h.two j k hj hk hjk).nd).1 r (by simp)
  refine ⟨fun x hx => ?_, by simp [a, b, c]⟩
  rcases List.mem_cons.1 hx with rfl | hx
  · exact h.blk _ (List.mem_of_getElem? hi)
  · rcases List.mem_cons.1 hx with rfl | hx
    · exact h.blk _ (List.mem_of_getElem? hj)
    · rw [List.mem_singleton.1 hx]; exact h.blk _ (List.mem_of_getElem? hk)
theorem Mm.over {u w : World} {l : List (Nat × List Value)} {g : Nat} {cs : List Value} (h0 : Mm u l) (hge : u.heap.size ≤ g) (h1 : Mm w l) (hb : Blk w g cs) (hlt : g < w.heap.size) : Mm w ((g, cs) :: l) :=
  h1.cons hb hlt (fun p hp => by have := (h0.blk p hp).1; omega)
theorem Rs.void (g o : Nat) (f : Nat → Nat) (w : World) : Rs g o 0 f w := ⟨fun h => absurd h (by decide), fun i hi => absurd hi (by omega)⟩
def n3 (j : Nat) : Nat := [51, 98, 48, 99, 52, 52, 50, 57, 56, 102, 99, 49, 99, 49, 52, 57, 97, 102, 98, 102, 52, 99, 56, 57, 57, 54, 102, 98, 57, 50, 52, 50, 55, 97, 101, 52, 49, 101, 52, 54, 52, 57, 98, 57, 51, 52, 99, 97, 52, 57, 53, 57, 57, 49, 98, 55, 56, 53, 50, 98, 56, 53, 53].getD j 0
def b3 : ByteArray := ⟨#[51, 98, 48, 99, 52, 52, 50, 57, 56, 102, 99, 49, 99, 49, 52, 57, 97, 102, 98, 102, 52, 99, 56, 57, 57, 54, 102, 98, 57, 50, 52, 50, 55, 97, 101, 52, 49, 101, 52, 54, 52, 57, 98, 57, 51, 52, 99, 97, 52, 57, 53, 57, 57, 49, 98, 55, 56, 53, 50, 98, 56, 53, 53]⟩
theorem bo_lt (s : Nat → Nat) (n j : Nat) : bo s n j < 256 := by
  have h := bo_get s n (j / 4) (j % 4) (by omega)
  rw [show 4 * (j / 4) + j % 4 = j by omega] at h
  rw [h]
  split
  · exact Nat.mod_lt _ (by decide)
  · decide
theorem fz_lt (s r : Nat → Nat) (c j : Nat) : fz s r c j < 256 := by
  unfold fz
  split
  · exact bo_lt _ _ _
  · split <;> exact bo_lt _ _ _
section
variable {ρ : Operand → Value} {o : Oper} {x y : Operand} {g : Nat} {w : World}
end
theorem call25 : ∀ args w, (callFunc 25 args).run Tryd.prog w = .ok (.enter 25 args) w := by intro args w; go_simp
end Rg
end Go.Proofs.YtolflfjfegngnaaDoor
end
section
namespace Go.Proofs.YtolflfjfegngnaaDoor
open Go.RowKit
namespace Rg
end Rg
end Go.Proofs.YtolflfjfegngnaaDoor
end
section
namespace Go.Proofs.YtolflfjfegngnaaDoor
open Go.RowKit
namespace Rg
set_option maxRecDepth 100000
/-- The numbers of a list that is handed in. -/
def Cz (p : Option Addr) (zs : List Int) (w : World) : Prop := ∀ g o, p = some ⟨g, o, none⟩ → ∀ i, i < zs.length → g < w.heap.size ∧ w.cell? ⟨g, o + i, none⟩ = some (.int .i64 (zs.getD i 0))
theorem Cz.below {p : Option Addr} {zs : List Int} {w w' : World} (h : Cz p zs w) (hb : Below w.heap.size w w') : Cz p zs w' := fun g o e i hi => by
  obtain ⟨h1, h2⟩ := h g o e i hi
  exact ⟨Nat.lt_of_lt_of_le h1 hb.size, by rw [hb.cell (p := ⟨g, o + i, none⟩) h1]; exact h2⟩
theorem Bv.len {gb o n cp i : Nat} {v : Value} (h : Bv gb o n cp i v) (hi : i ≤ n) : ∃ p c, v = .slice p (n - i) c := by
  by_cases e : i < n
  · exact ⟨_, _, h.1 e⟩
  · obtain ⟨p, c, e2⟩ := h.2 (by omega)
    exact ⟨p, c, by rw [e2, show n - i = 0 by omega]⟩
theorem Src.sub {g gb o n : Nat} {f : Nat → Nat} {w : World} (h : Src g gb o n f w) (i m : Nat) (him : i + m ≤ n) : Src g gb (o + i) m (fun j => f (i + j)) w :=
  ⟨fun hm => h.lt (by omega), fun hm => h.ne (by omega), fun j hj => by rw [Nat.add_assoc]; exact h.at_ (i + j) (by omega)⟩
section
variable {ρ : Operand → Value} {o : Oper} {x y : Operand} {g off m c j : Nat} {w : World}
theorem ex_slH22 {l : Nat} (ho : o.op = .slice 22 x none (some y) none) (hx : ρ x = .slice (some ⟨g, off, none⟩) m c) (hy : ρ y = .int .i64 ((l : Nat) : Int)) (hh : l ≤ c) : (execOp ρ o).run Tryd.prog w = .ok (.value (.slice (some ⟨g, off, none⟩) l c)) w := by
  simp only [execOp, ho, hx, hy, Option.map_some, Option.map_none]
  clear ho hx hy
  go_simp
theorem ex_slH0 {p : Option Addr} (ho : o.op = .slice 22 x none (some y) none) (hx : ρ x = .slice p 0 c) (hy : ρ y = .int .i64 0) : (execOp ρ o).run Tryd.prog w = .ok (.value (.slice p 0 c)) w := by
  simp only [execOp, ho, hx, hy, Option.map_some, Option.map_none]
  clear ho hx hy
  cases p <;> go_simp
end
end Rg
end Go.Proofs.YtolflfjfegngnaaDoor
end
section
namespace Go.Proofs.YtolflfjfegngnaaDoor
open Go.RowKit
namespace Rg
set_option maxRecDepth 100000
/-- A part handed in: its slice, and where its bytes lie. -/
structure Pt8 where
  gb : Nat
  o : Nat
  n : Nat
  cp : Nat
  p : Option Addr
  f : Nat → Nat
/-- m parts lie in the list that pl begins. -/
def Ls (pl : Option Addr) (P : Nat → Pt8) (m : Nat) (w : World) : Prop := ∀ g o, pl = some ⟨g, o, none⟩ → ∀ i, i < m → g < w.heap.size ∧ w.cell? ⟨g, o + i, none⟩ = some (.slice (P i).p (P i).n (P i).cp) ∧ Rs (P i).gb (P i).o (P i).n (P i).f w
theorem Ls.below {pl : Option Addr} {P : Nat → Pt8} {m : Nat} {w w' : World} (h : Ls pl P m w) (hb : Below w.heap.size w w') : Ls pl P m w' := fun g o e i hi => by
  obtain ⟨h1, h2, h3⟩ := h g o e i hi
  exact ⟨Nat.lt_of_lt_of_le h1 hb.size, by rw [hb.cell h1]; exact h2, h3.below hb⟩
section
variable {ρ : Operand → Value} {o : Oper} {x y : Operand} {g off m c j : Nat} {w : World}
theorem ex_ixP29 {p : Option Addr} (he : p = some ⟨g, off, none⟩) (ho : o.op = .indexAddr 29 x y) (hx : ρ x = .slice p m c) (hy : ρ y = .int .i64 ((j : Nat) : Int)) (h : j < m) : (execOp ρ o).run Tryd.prog w = .ok (.value (PT g (off + j))) w := by
  subst he
  simp only [execOp, ho, hx, hy]
  clear ho hx hy
  go_simp
theorem ex_ldP {p : Option Addr} {P : Nat → Pt8} (h : Ls p P m w) (he : p = some ⟨g, off, none⟩) (hk : j < m) (ho : o.op = .load 22 x) (hx : ρ x = PT g (off + j)) : (execOp ρ o).run Tryd.prog w = .ok (.value (.slice (P j).p (P j).n (P j).cp)) w := by
  have c0 := (h g off he j hk).2.1
  have ha : ∀ w, (isAgg 22).run Tryd.prog w = .ok false w := Tryd.isAgg22
  clear h
  simp only [execOp, ho, hx]
  go_simp
end
end Rg
end Go.Proofs.YtolflfjfegngnaaDoor
end
section
namespace Go.Proofs.YtolflfjfegngnaaDoor
open Go.RowKit
namespace Rg
set_option maxRecDepth 100000
theorem call27 : ∀ args w, (callFunc 27 args).run Tryd.prog w = .ok (.enter 27 args) w := by intro args w; go_simp
theorem call28 : ∀ args w, (callFunc 28 args).run Tryd.prog w = .ok (.enter 28 args) w := by intro args w; go_simp
theorem call32 : ∀ args w, (callFunc 32 args).run Tryd.prog w = .ok (.enter 32 args) w := by intro args w; go_simp
theorem call33 : ∀ args w, (callFunc 33 args).run Tryd.prog w = .ok (.enter 33 args) w := by intro args w; go_simp
theorem call34 : ∀ args w, (callFunc 34 args).run Tryd.prog w = .ok (.enter 34 args) w := by intro args w; go_simp
theorem call36 : ∀ args w, (callFunc 36 args).run Tryd.prog w = .ok (.enter 36 args) w := by intro args w; go_simp
theorem call37 : ∀ args w, (callFunc 37 args).run Tryd.prog w = .ok (.enter 37 args) w := by intro args w; go_simp
theorem call38 : ∀ args w, (callFunc 38 args).run Tryd.prog w = .ok (.enter 38 args) w := by intro args w; go_simp
theorem call39 : ∀ args w, (callFunc 39 args).run Tryd.prog w = .ok (.enter 39 args) w := by intro args w; go_simp
theorem call40 : ∀ args w, (callFunc 40 args).run Tryd.prog w = .ok (.enter 40 args) w := by intro args w; go_simp
theorem call41 : ∀ args w, (callFunc 41 args).run Tryd.prog w = .ok (.enter 41 args) w := by intro args w; go_simp
theorem call55 : ∀ args w, (callFunc 55 args).run Tryd.prog w = .ok (.enter 55 args) w := by intro args w; go_simp
theorem call56 : ∀ args w, (callFunc 56 args).run Tryd.prog w = .ok (.enter 56 args) w := by intro args w; go_simp
theorem call61 : ∀ args w, (callFunc 61 args).run Tryd.prog w = .ok (.enter 61 args) w := by intro args w; go_simp
theorem call62 : ∀ args w, (callFunc 62 args).run Tryd.prog w = .ok (.enter 62 args) w := by intro args w; go_simp
section
variable {ρ : Operand → Value} {o : Oper} {x y : Operand} {g off j n a b c : Nat} {w : World}
theorem ex_mk86 (ho : o.op = .alloc 86) : (execOp ρ o).run Tryd.prog w = .ok (.value (.pointer (some ⟨w.heap.size, 0, none⟩))) (w.alloc (.cells (ints .u8 (fun _ => 0) 64).toArray 86)) := by
  simp only [execOp, ho]
  go_simp
  rfl
theorem ex_ix_86 (ho : o.op = .indexAddr 86 x y) (hx : ρ x = PT g off) (hy : ρ y = .int .i64 ((j : Nat) : Int)) (hj : j < 64) : (execOp ρ o).run Tryd.prog w = .ok (.value (PT g (off + j))) w := by
  have h1 : (j : Int) < 64 := by omega
  simp only [execOp, ho, hx, hy]
  clear ho hx hy
  go_simp
theorem ex_ix0_86 (ho : o.op = .indexAddr 86 x y) (hx : ρ x = PT g 0) (hy : ρ y = .int .i64 ((j : Nat) : Int)) (hj : j < 64) : (execOp ρ o).run Tryd.prog w = .ok (.value (PT g j)) w := by
  have h := ex_ix_86 (w := w) ho hx hy hj
  rw [Nat.zero_add] at h
  exact h
theorem ex_sl86 (ho : o.op = .slice 86 x none none none) (hx : ρ x = PT g 0) : (execOp ρ o).run Tryd.prog w = .ok (.value (.slice (some ⟨g, 0, none⟩) 64 64)) w := by
  simp only [execOp, ho, hx, Option.map_none]
  clear ho hx
  go_simp
theorem ex_sl25 (ho : o.op = .slice 25 x none none none) (hx : ρ x = PT g 0) : (execOp ρ o).run Tryd.prog w = .ok (.value (.slice (some ⟨g, 0, none⟩) 32 32)) w := by
  simp only [execOp, ho, hx, Option.map_none]
  clear ho hx
  go_simp
/-- Bytes, bit by bit: unlike. -/
def x8 (a b : Nat) : Nat := (a ^^^ b) % 256
theorem bits8x (a b : Nat) : bits .xor .u8 (a : Int) (b : Int) = ((x8 a b : Nat) : Int) := by
  have h1 : ∀ k : Nat, (BitVec.ofInt 8 (k : Int)).toNat = k % 256 := fun k => by rw [BitVec.ofInt_natCast, BitVec.toNat_ofNat]
  show IntKind.u8.wrap ((BitVec.ofInt 8 (a : Int) ^^^ BitVec.ofInt 8 (b : Int)).toNat : Int) = _
  rw [BitVec.toNat_xor, h1, h1, ← Nat.xor_mod_two_pow (n := 8)]
  unfold x8
  simp [IntKind.wrap, IntKind.bits, IntKind.signed]
theorem ex_xor8 (ho : o.op = .binOp .xor 5 x y 5) (hx : ρ x = Z8 a) (hy : ρ y = Z8 b) : (execOp ρ o).run Tryd.prog w = .ok (.value (Z8 (x8 a b))) w := by
  have e := bits8x a b
  simp only [execOp, ho, hx, hy]
  clear ho hx hy
  go_simp
  first | done | exact e
/-- copy into a row of bytes. -/
theorem ex_copyR {gb so sn sc dn dc kk mm N : Nat} {F r : Nat → Nat} {l : List (Nat × List Value)} (h : Mm w l) (q : Nat) (hk : l[q]? = some (g, ints .u8 r N)) (hf : ∀ j, j < mm → w.cell? ⟨gb, so + j, none⟩ = some (Z8 (F j))) (hm : mm = Nat.min sn dn) (hd : kk + mm ≤ N)
    (ho : o.op = .call { callee := .builtin .copy, args := #[x, y], argTypes := #[22, 22] }) (hx : ρ x = .slice (some ⟨g, kk, none⟩) dn dc) (hy : ρ y = .slice (some ⟨gb, so, none⟩) sn sc) : (execOp ρ o).run Tryd.prog w = .ok (.value (.int .i64 ((mm : Nat) : Int))) (w.setCells g kk (ints .u8 F mm)) := by
  have hmem := List.mem_of_getElem? hk
  have hcell : ∀ j, j < mm → ∃ u, (ints .u8 r N)[kk + j]? = some u := fun j hj => ⟨_, List.getElem?_eq_getElem (by rw [ints_len]; omega)⟩
  have hr : (Builtin.copy_ #[22, 22] o.type #[.slice (some ⟨g, kk, none⟩) dn dc, .slice (some ⟨gb, so, none⟩) sn sc]).run Tryd.prog w = .ok (goInt (ints .u8 F mm).length) (w.setCells g kk (ints .u8 F mm)) :=
    run_copy_cells (P := Tryd.prog) w 22 22 o.type 5 g kk dn dc ⟨gb, so, none⟩ sn sc (ints .u8 F mm) (by kernel_rfl) (by kernel_rfl) (by rw [ints_len, hm])
      (fun j v hv => by
        have hj : j < mm := by
          have := (List.getElem?_eq_some_iff.1 hv).1
          rwa [ints_len] at this
        rw [ints_get _ _ hj] at hv
        rw [show (⟨gb, so, none⟩ : Addr).add j = ⟨gb, so + j, none⟩ from by unfold Addr.add; split <;> simp_all, hf j hj]
        exact hv)
      (fun j hj => by
        rw [ints_len] at hj
        obtain ⟨u, hu⟩ := hcell j hj
        rw [h.cell hmem hu]; rfl)
      (fun j hj => by
        rw [ints_len] at hj
        obtain ⟨u, hu⟩ := hcell j hj
        exact h.free hmem hu)
      (List.all_eq_true.1 (ints_all _ _ _))
  rw [ints_len] at hr
  clear h hk hf hm hcell hmem
  unfold execOp
  simp only [ho, resolve, invoke, builtin, Sem.run_bind, Sem.run_pure, Result.andThen_ok, List.map_toArray, List.map_cons, List.map_nil, hx, hy, hr]
  rfl
theorem ex_copy0 {p : Option Addr} {dn dc sc : Nat} (ho : o.op = .call { callee := .builtin .copy, args := #[x, y], argTypes := #[22, 22] }) (hx : ρ x = .slice (some ⟨g, off, none⟩) dn dc) (hy : ρ y = .slice p 0 sc) : (execOp ρ o).run Tryd.prog w = .ok (.value (.int .i64 0)) w := by
  have hr : (Builtin.copy_ #[22, 22] o.type #[.slice (some ⟨g, off, none⟩) dn dc, .slice p 0 sc]).run Tryd.prog w = .ok (.int .i64 0) w := by
    exact run_copy_none (P := Tryd.prog) w 22 22 o.type 5 _ p dn dc 0 sc (by kernel_rfl) (by kernel_rfl) (Nat.zero_min _)
  unfold execOp
  simp only [ho, resolve, invoke, builtin, Sem.run_bind, Sem.run_pure, Result.andThen_ok, List.map_toArray, List.map_cons, List.map_nil, hx, hy, hr]
end
theorem ints_pr8 (r F : Nat → Nat) (N k m : Nat) (h : k + m ≤ N) : patch (ints .u8 r N) k (ints .u8 F m) = ints .u8 (pr8 r k m F) N := by
  apply List.ext_getElem?
  intro j
  rw [patch_get _ _ _ (by rw [ints_len, ints_len]; exact h), ints_len]
  by_cases hj : j < N
  · rw [ints_get _ _ hj, ints_get _ _ hj]
    unfold pr8
    by_cases hc : k ≤ j ∧ j < k + m
    · rw [if_pos hc, if_pos hc, ints_get _ _ (by omega)]
    · rw [if_neg hc, if_neg hc]
  · rw [if_neg (by omega), ints_none _ _ (by omega), ints_none _ _ (by omega)]
end Rg
end Go.Proofs.YtolflfjfegngnaaDoor
end
section
namespace Go.Proofs.YtolflfjfegngnaaDoor
open Go.RowKit
namespace Rg
set_option maxRecDepth 100000
/-- A block with its first i bytes xor x. -/
def mr (K : Nat → Nat) (x : Nat) : Nat → Nat → Nat
  | 0 => K
  | i + 1 => up (mr K x i) i (x8 (mr K x i i) x)
theorem mr_ge (K : Nat → Nat) (x : Nat) : ∀ i j, i ≤ j → mr K x i j = K j
  | 0, _, _ => rfl
  | i + 1, j, h => by
    show up (mr K x i) i _ j = _
    unfold up
    rw [if_neg (by omega), mr_ge K x i j (by omega)]
theorem mr_lt (K : Nat → Nat) (x : Nat) : ∀ i j, j < i → mr K x i j = x8 (K j) x
  | 0, _, h => absurd h (by omega)
  | i + 1, j, h => by
    show up (mr K x i) i _ j = _
    unfold up
    by_cases e : j = i
    · rw [if_pos e, mr_ge K x i i (Nat.le_refl _), e]
    · rw [if_neg e, mr_lt K x i j (by omega)]
/-- A block, each byte xor x. -/
def mk8 (K : Nat → Nat) (x : Nat) : Nat → Nat := fun j => x8 (K j) x
theorem ints_mr (K : Nat → Nat) (x : Nat) : ints .u8 (mr K x 64) 64 = ints .u8 (mk8 K x) 64 := ints_congr fun j hj => mr_lt K x 64 j hj
set_option maxHeartbeats 1000000 in
set_option maxRecDepth 100000 in
theorem masked_any (K : Nat → Nat) (x : Nat) (w : World) :
    Calls Tryd.prog 62 #[.agg (ints .u8 K 64).toArray, Z8 x] w fun e w' => e = .returned (.agg (ints .u8 (mk8 K x) 64).toArray) ∧ Below w.heap.size w w' := by
  have H0 : Hid (_ ∧ _) := ⟨Mm.nil w, Below.refl w.heap.size w⟩
  go_enter Tryd.func62, Tryd.ntmps62
  refine wp_seq ?_
  refine walk_seqA 2 [.made (ints .u8 K 64) 86, .made (ints .u8 (fun _ => 0) 64) 86] (sB H0) ?ho1 ?he1
  case ho1 => exact ak (fun γ => ⟨rfl, fun w' => ex_boxT rfl rfl⟩) (ak (fun γ => ⟨rfl, fun w' => ex_mk86 rfl⟩) trivial)
  intro γ w1 l hM hl
  have H1 : Hid (Mm w1 [(γ 0, ints .u8 K 64), (γ 1, ints .u8 (fun _ => 0) 64)] ∧ _) := growB H0 hM (Nat.le_refl _) hl [0, 1] rfl (by decide)
  have o1_0 := ownB H0 hM (Nat.le_refl _) hl (i := 0) rfl
  have o1_1 := ownB H0 hM (Nat.le_refl _) hl (i := 1) rfl
  clear hM hl l
  generalize γ 0 = γ1_0 at H1 o1_0 ⊢
  generalize γ 1 = γ1_1 at H1 o1_1 ⊢
  clear γ
  refine rest0 rfl (then_normal (wp_seq (wp_seq ?_)))
  refine walk_seqB 1 [.quiet (.int .i64 0)] H1 ?ho2 ?he2
  case ho2 => exact ak (fun _ => ⟨rfl, fun _ _ => rfl⟩) trivial
  intro _ w2 H2
  clear H1
  refine rest0 rfl (then_normal (wp_block ?_))
  refine loop_ghost (α := Nat) (fun i a' w' => ∃ s0 : Nat → Value, a' = ⟨#[.agg (ints .u8 K 64).toArray, Z8 x, PT γ1_0 0, undef, PT γ1_1 0, s0 5, .int .i64 ((i : Nat) : Int), s0 7, s0 8, s0 9, s0 10, s0 11, s0 12, s0 13, s0 14, s0 15, undef], []⟩ ∧ (Mm w' [(γ1_0, ints .u8 (mr K x i) 64), (γ1_1, ints .u8 (fun _ => 0) 64)] ∧ Below w.heap.size w w') ∧ i ≤ 64) (fun i => 64 - i) 0 ?st0 ?rd0
  case st0 => exact ⟨(slotfn [undef, undef, undef, undef, undef, undef, undef, undef, undef, undef, undef, undef, undef, undef, undef, undef]), rfl, ⟨H2.out.1, H2.out.2⟩, by omega⟩
  intro i a' w3 hI
  obtain ⟨s0, rfl, hMB, hk0⟩ := hI
  have H3 : Hid (_ ∧ _) := hMB
  clear hMB H2
  by_cases hlti : i < 64
  · have hrd : True := trivial
    clear hrd
    refine wp_seq ?_
    refine walk_seqB 1 [.quiet (.bool true)] H3 ?ho3 ?he3
    case ho3 => exact ak (by refine fun γ => ⟨rfl, fun w' h => ?_⟩; clear h; go_simp <;> omega) trivial
    intro _ w4 H4
    clear H3
    refine rest0 rfl (then_normal (wp_seq ?_))
    refine wp_cond_true rfl (wp_skip ?_)
    refine then_normal (wp_seq ?_)
    refine wp_block (wp_seq ?_)
    refine walk_seqB 2 [.quiet (.int .i64 ((i : Nat) : Int)), .quiet (.int .i64 ((i : Nat) : Int))] H4 ?ho4 ?he4
    case ho4 => exact ak (fun _ => ⟨rfl, fun _ _ => rfl⟩) (ak (fun _ => ⟨rfl, fun _ _ => rfl⟩) trivial)
    intro _ w5 H5
    clear H4
    refine rest0 rfl (then_normal ?_)
    refine walk_seqB 6 [.quiet (.int .i64 ((i : Nat) : Int)), .quiet (PT γ1_0 i), .quiet (Z8 ((mr K x i) i)), .quiet (Z8 x), .quiet (Z8 (x8 ((mr K x i) i) x)), .quiet (PT γ1_0 i)] H5 ?ho5 ?he5
    case ho5 => exact ak (fun _ => ⟨rfl, fun _ _ => rfl⟩) (ak (fun γ => ⟨rfl, fun w' _ => ex_ix0_86 (j := i) rfl rfl rfl (by omega)⟩) (ak (fun γ => ⟨rfl, fun w' h => ex_loadC h 0 rfl rfl rfl Tryd.isAgg5 (ints_get _ _ (by omega))⟩) (ak (fun _ => ⟨rfl, fun _ _ => rfl⟩) (ak (fun γ => ⟨rfl, fun w' _ => ex_xor8 rfl rfl rfl⟩) (ak (fun γ => ⟨rfl, fun w' _ => ex_ix0_86 (j := i) rfl rfl rfl (by omega)⟩) trivial)))))
    intro _ w6 H6
    clear H5
    refine rest_at (l := [6]) rfl ?_
    refine rest_store rfl rfl rfl (ex_storeI H6.out.1 0 rfl rfl Tryd.sizeOf5 rfl rfl (by rw [ints_len]; omega)) ?_
    have H7 : Hid (Mm (w6.setCells γ1_0 i ([Z8 (x8 ((mr K x i) i) x)])) [(γ1_0, ints .u8 (up (mr K x i) i (x8 ((mr K x i) i) x)) 64), (γ1_1, ints .u8 (fun _ => 0) 64)] ∧ Below w.heap.size w (w6.setCells γ1_0 i ([Z8 (x8 ((mr K x i) i) x)]))) := ⟨by
      have h := H6.out.1.put 0 (off := i) (vs := [Z8 (x8 ((mr K x i) i) x)]) rfl (by rw [ints_len]; simp only [List.length_cons, List.length_nil]; omega)
      rw [ints_patch _ _ _ _ (by omega)] at h
      exact h, below_setCells _ o1_0.out _ _ _ H6.out.2⟩
    clear H6
    generalize hgw : World.setCells _ _ _ _ = w7 at H7 ⊢
    clear hgw
    refine rest_nil (block_normal (then_normal ?_))
    refine walk_seqB 1 [.quiet (.int .i64 ((i + 1 : Nat) : Int))] H7 ?ho6 ?he6
    case ho6 => exact ak (by refine fun γ => ⟨rfl, fun w' h => ?_⟩; clear h; go_simp; rw [IntKind.wrap_i64]; omega) trivial
    intro _ w8 H8
    clear H7
    refine rest_at (l := [1]) rfl ?_
    refine rest_set (d := 6) rfl rfl rfl rfl ?_
    simp only [Act.put, sa, sz, ss]
    refine rest_nil (then_normal ?_)
    exact ⟨i + 1, ⟨(slotfn [undef, undef, undef, undef, undef, .int .i64 ((i : Nat) : Int), undef, .bool true, .int .i64 ((i : Nat) : Int), .int .i64 ((i : Nat) : Int), PT γ1_0 i, Z8 ((mr K x i) i), Z8 x, Z8 (x8 ((mr K x i) i) x), PT γ1_0 i, .int .i64 ((i + 1 : Nat) : Int)]), rfl, ⟨H8.out.1, H8.out.2⟩, by omega⟩, by omega⟩
  have hiN : i = 64 := by omega
  subst hiN
  refine wp_seq ?_
  refine walk_seqB 1 [.quiet (.bool false)] H3 ?ho7 ?he7
  case ho7 => exact ak (by refine fun γ => ⟨rfl, fun w' h => ?_⟩; clear h; go_simp <;> omega) trivial
  intro _ w9 H9
  clear H3
  refine rest0 rfl (then_normal (wp_seq (wp_cond_false rfl ?_)))
  refine wp_exit ?_
  repeat refine then_exit ?_
  refine block_exit ?_
  refine then_normal (wp_seq ?_)
  refine walk_seqB 1 [.quiet (.agg (ints .u8 (mr K x 64) 64).toArray)] H9 ?ho8 ?he8
  case ho8 => exact ak (fun γ => ⟨rfl, fun w' h => ex_loadT h 0 rfl rfl rfl Tryd.isAgg86 Tryd.sizeOf86 (ints_whole _ _ _) (ints_len _ _ _)⟩) trivial
  intro _ w10 H10
  clear H9
  refine rest_at (l := [1]) rfl ?_
  refine rest_store rfl rfl rfl (ex_storeT (vs := ints .u8 (mr K x 64) 64) H10.out.1 1 rfl rfl rfl rfl (by rw [ints_len]; exact Tryd.sizeOf86) (ints_all _ _ _) (by simp [ints_len])) ?_
  have H11 : Hid (Mm (w10.setCells γ1_1 0 (ints .u8 (mr K x 64) 64)) [(γ1_0, ints .u8 (mr K x 64) 64), (γ1_1, ints .u8 (mr K x 64) 64)] ∧ Below w.heap.size w (w10.setCells γ1_1 0 (ints .u8 (mr K x 64) 64))) := ⟨by
    have h := H10.out.1.put 1 (off := 0) (vs := ints .u8 (mr K x 64) 64) rfl (by simp [ints_len])
    rw [ints_patch0 _ _ _ _] at h
    exact h, below_setCells _ o1_1.out _ _ _ H10.out.2⟩
  clear H10
  generalize hgw : World.setCells _ _ _ _ = w11 at H11 ⊢
  clear hgw
  refine rest_nil (then_normal (wp_ret ?_))
  repeat (first | refine then_ret ?_ | refine block_ret ?_)
  have hf0 := var_T H11.out.1 1 rfl Tryd.isAgg86 Tryd.sizeOf86 (ints_len _ _ _)
  refine bodyPost_ret (v := .agg (ints .u8 (mr K x 64) 64).toArray) (by simp [results, Tryd.results62, asAddr, hf0]) rfl ?_
  exact ⟨by rw [ints_mr], H11.out.2⟩
/-- A key's block, as the program fills it. -/
def kf (f : Nat → Nat) (n : Nat) : Nat → Nat := if 64 < n then pr8 (fun _ => 0) 0 32 (dg0 f n) else pr8 (fun _ => 0) 0 n f
set_option maxHeartbeats 1000000 in
set_option maxRecDepth 100000 in
theorem filled_long (gb o n cp : Nat) (p : Option Addr) (f : Nat → Nat) (hv0 : Bv gb o n cp 0 (.slice p n cp)) (hcp : n ≤ cp) (hb : n < 4611686018427387904) (h64 : 64 < n) (w : World) (hm : Mm w [(0, ints .u32 fT 8), (1, ints .u32 kT 64)]) (hR : Rs gb o n f w) :
    Calls Tryd.prog 56 #[.slice p n cp] w fun e w' => e = .returned (.agg (ints .u8 (kf f n) 64).toArray) ∧ Below w.heap.size w w' := by
  have H0 : Hid (_ ∧ _) := ⟨hm, Below.refl w.heap.size w⟩
  clear hm
  have R0 : Hid (Rs gb o n f w) := hR
  have hv : Hid _ := hv0
  clear hR hv0
  go_enter Tryd.func56, Tryd.ntmps56
  refine wp_seq ?_
  refine walk_seqA 1 [.made (ints .u8 (fun _ => 0) 64) 86] (sB H0) ?ho1 ?he1
  case ho1 => exact ak (fun γ => ⟨rfl, fun w' => ex_mk86 rfl⟩) trivial
  intro γ w1 l hM hl
  have H1 : Hid (Mm w1 [(γ 0, ints .u8 (fun _ => 0) 64), (0, ints .u32 fT 8), (1, ints .u32 kT 64)] ∧ _) := growB H0 hM (Nat.le_refl _) hl [0] rfl (by decide)
  have o1_0 := ownB H0 hM (Nat.le_refl _) hl (i := 0) rfl
  clear hM hl l
  generalize γ 0 = γ1_0 at H1 o1_0 ⊢
  clear γ
  refine rest0 rfl (then_normal (wp_seq ?_))
  refine walk_seqA 1 [.made (ints .u8 (fun _ => 0) 64) 86] (sB H1) ?ho2 ?he2
  case ho2 => exact ak (fun γ => ⟨rfl, fun w' => ex_mk86 rfl⟩) trivial
  intro γ w2 l hM hl
  have H2 : Hid (Mm w2 [(γ 0, ints .u8 (fun _ => 0) 64), (γ1_0, ints .u8 (fun _ => 0) 64), (0, ints .u32 fT 8), (1, ints .u32 kT 64)] ∧ _) := growB H1 hM (Nat.le_refl _) hl [0] rfl (by decide)
  have o2_0 := ownB H1 hM (Nat.le_refl _) hl (i := 0) rfl
  clear hM hl l H1
  generalize γ 0 = γ2_0 at H2 o2_0 ⊢
  clear γ
  refine rest0 rfl (then_normal (wp_seq (wp_seq ?_)))
  refine walk_seqB 3 [.quiet (.slice p n cp), .quiet (.int .i64 ((n : Nat) : Int)), .quiet (.bool true)] H2 ?ho3 ?he3
  case ho3 => exact ak (fun _ => ⟨rfl, fun _ _ => rfl⟩) (ak (by refine fun γ => ⟨rfl, fun w' h => ?_⟩; clear h; go_simp) (ak (by refine fun γ => ⟨rfl, fun w' h => ?_⟩; clear h; go_simp <;> omega) trivial))
  intro _ w3 H3
  clear H2
  refine rest0 rfl (then_normal (wp_cond_true rfl (wp_seq ?_)))
  refine (walk_seq) 4 [.quiet (.slice p n cp), .call (.agg (ints .u8 (dg0 f n) 32).toArray), .made (ints .u8 (fun _ => 0) 32) 25, .laid 2 (ints .u8 (fun _ => 0) 32) (ints .u8 (dg0 f n) 32)] (fun u' => Mm u' [(γ2_0, ints .u8 (fun _ => 0) 64), (γ1_0, ints .u8 (fun _ => 0) 64), (0, ints .u32 fT 8), (1, ints .u32 kT 64)] ∧ (Rs gb o n f u')) ?pre4 ?F4 ?hpre4 (fun γ => ?hF4) (by kernel_rfl) ?hL4 ?hS4 ?ho4 ?he4
  case hpre4 => simp only [tk, tz]; rfl
  case hF4 => simp only [fill, Kind.val, Act.put, sa, sz, ss]; rfl
  case hL4 => exact ⟨⟨_, rfl⟩, trivial⟩
  case hS4 => exact fun w' hb => ⟨H3.out.1.below hb, R0.out.below (H3.out.2.trans (hb.mono H3.out.2.size))⟩
  case ho4 =>
    refine ak (fun _ => ⟨rfl, fun _ _ => rfl⟩) ?_
    refine ak (fun γ => ⟨rfl, fun w' hX => have h := hX.1; ⟨14, #[.slice p n cp], exec_call rfl call14 rfl (mpn rfl), Sum_any gb o n cp f _ hv.out hcp (by omega) w' (h.two 2 3 rfl rfl (by decide)) hX.2⟩⟩) ?_
    refine ak (fun γ => ⟨rfl, fun w' => ex_mk25 rfl⟩) ?_
    refine ak (fun γ => ⟨rfl, rfl, (ints_len _ _ _).trans (ints_len _ _ _).symm, fun w' h => ex_laidI h Tryd.sizeOf25 rfl rfl rfl⟩) ?_
    exact trivial
  intro γ w4 l hM hl
  have H4 : Hid (Mm w4 [(γ 2, ints .u8 (dg0 f n) 32), (γ2_0, ints .u8 (fun _ => 0) 64), (γ1_0, ints .u8 (fun _ => 0) 64), (0, ints .u32 fT 8), (1, ints .u32 kT 64)] ∧ _) := growB H3 hM (Nat.le_refl _) hl [2] rfl (by decide)
  have o4_2 := ownB H3 hM (Nat.le_refl _) hl (i := 2) rfl
  clear hM hl l H3
  generalize γ 2 = γ4_2 at H4 o4_2 ⊢
  clear γ
  refine rest0 rfl (then_normal ?_)
  refine walk_anyB 2 [.quiet (.slice (some ⟨γ2_0, 0, none⟩) 64 64), .quiet (.slice (some ⟨γ4_2, 0, none⟩) 32 32)] H4 ?ho5 ?he5
  case ho5 => exact ak (fun γ => ⟨rfl, fun w' _ => ex_sl86 rfl rfl⟩) (ak (fun γ => ⟨rfl, fun w' _ => ex_sl25 rfl rfl⟩) trivial)
  intro _ w5 H5
  clear H4
  refine rest_at (l := [2]) rfl ?_
  refine rest_set (d := 12) (v := .int .i64 ((32 : Nat) : Int)) (w' := (w5.setCells γ2_0 0 (ints .u8 (dg0 f n) 32))) rfl rfl rfl (ex_copyR (sn := 32) H5.out.1 1 rfl (fun j hj => by have := (H5.out.1.rs 0 rfl (Nat.le_refl _)).at_ j hj; exact this) (by decide) (by omega) rfl rfl rfl) ?_
  simp only [Act.put, sa, sz, ss]
  have H6 : Hid (Mm (w5.setCells γ2_0 0 (ints .u8 (dg0 f n) 32)) [(γ4_2, ints .u8 (dg0 f n) 32), (γ2_0, ints .u8 (pr8 (fun _ => 0) 0 32 (dg0 f n)) 64), (γ1_0, ints .u8 (fun _ => 0) 64), (0, ints .u32 fT 8), (1, ints .u32 kT 64)] ∧ Below w.heap.size w (w5.setCells γ2_0 0 (ints .u8 (dg0 f n) 32))) := ⟨by
    have h := H5.out.1.put 1 (off := 0) (vs := ints .u8 (dg0 f n) 32) rfl (by rw [ints_len, ints_len]; omega)
    rw [ints_pr8 _ _ _ _ _ (by omega)] at h
    exact h, below_setCells _ o2_0.out _ _ _ H5.out.2⟩
  clear H5
  generalize hgw : World.setCells _ _ _ _ = w6 at H6 ⊢
  clear hgw
  refine rest_nil (then_normal (wp_seq ?_))
  refine walk_seqB 1 [.quiet (.agg (ints .u8 (pr8 (fun _ => 0) 0 32 (dg0 f n)) 64).toArray)] H6 ?ho6 ?he6
  case ho6 => exact ak (fun γ => ⟨rfl, fun w' h => ex_loadT h 1 rfl rfl rfl Tryd.isAgg86 Tryd.sizeOf86 (ints_whole _ _ _) (ints_len _ _ _)⟩) trivial
  intro _ w7 H7
  clear H6
  refine rest_at (l := [1]) rfl ?_
  refine rest_store rfl rfl rfl (ex_storeT (vs := ints .u8 (pr8 (fun _ => 0) 0 32 (dg0 f n)) 64) H7.out.1 2 rfl rfl rfl rfl (by rw [ints_len]; exact Tryd.sizeOf86) (ints_all _ _ _) (by simp [ints_len])) ?_
  have H8 : Hid (Mm (w7.setCells γ1_0 0 (ints .u8 (pr8 (fun _ => 0) 0 32 (dg0 f n)) 64)) [(γ4_2, ints .u8 (dg0 f n) 32), (γ2_0, ints .u8 (pr8 (fun _ => 0) 0 32 (dg0 f n)) 64), (γ1_0, ints .u8 (pr8 (fun _ => 0) 0 32 (dg0 f n)) 64), (0, ints .u32 fT 8), (1, ints .u32 kT 64)] ∧ Below w.heap.size w (w7.setCells γ1_0 0 (ints .u8 (pr8 (fun _ => 0) 0 32 (dg0 f n)) 64))) := ⟨by
    have h := H7.out.1.put 2 (off := 0) (vs := ints .u8 (pr8 (fun _ => 0) 0 32 (dg0 f n)) 64) rfl (by simp [ints_len])
    rw [ints_patch0 _ _ _ _] at h
    exact h, below_setCells _ o1_0.out _ _ _ H7.out.2⟩
  clear H7
  generalize hgw : World.setCells _ _ _ _ = w8 at H8 ⊢
  clear hgw
  refine rest_nil (then_normal (wp_ret ?_))
  repeat (first | refine then_ret ?_ | refine block_ret ?_)
  have hf0 := var_T H8.out.1 2 rfl Tryd.isAgg86 Tryd.sizeOf86 (ints_len _ _ _)
  refine bodyPost_ret (v := .agg (ints .u8 (pr8 (fun _ => 0) 0 32 (dg0 f n)) 64).toArray) (by simp [results, Tryd.results56, asAddr, hf0]) rfl ?_
  exact ⟨by rw [kf, if_pos h64], H8.out.2⟩
set_option maxHeartbeats 1000000 in
set_option maxRecDepth 100000 in
theorem filled_short (gb o n cp : Nat) (f : Nat → Nat) (h64 : n ≤ 64) (w : World) (hR : Rs gb o n f w) :
    Calls Tryd.prog 56 #[.slice (some ⟨gb, o, none⟩) n cp] w fun e w' => e = .returned (.agg (ints .u8 (kf f n) 64).toArray) ∧ Below w.heap.size w w' := by
  have H0 : Hid (_ ∧ _) := ⟨Mm.nil w, Below.refl w.heap.size w⟩
  have R0 : Hid (Rs gb o n f w) := hR
  clear hR
  go_enter Tryd.func56, Tryd.ntmps56
  refine wp_seq ?_
  refine walk_seqA 1 [.made (ints .u8 (fun _ => 0) 64) 86] (sB H0) ?ho1 ?he1
  case ho1 => exact ak (fun γ => ⟨rfl, fun w' => ex_mk86 rfl⟩) trivial
  intro γ w1 l hM hl
  have H1 : Hid (Mm w1 [(γ 0, ints .u8 (fun _ => 0) 64)] ∧ _) := growB H0 hM (Nat.le_refl _) hl [0] rfl (by decide)
  have o1_0 := ownB H0 hM (Nat.le_refl _) hl (i := 0) rfl
  clear hM hl l
  generalize γ 0 = γ1_0 at H1 o1_0 ⊢
  clear γ
  refine rest0 rfl (then_normal (wp_seq ?_))
  refine walk_seqA 1 [.made (ints .u8 (fun _ => 0) 64) 86] (sB H1) ?ho2 ?he2
  case ho2 => exact ak (fun γ => ⟨rfl, fun w' => ex_mk86 rfl⟩) trivial
  intro γ w2 l hM hl
  have H2 : Hid (Mm w2 [(γ 0, ints .u8 (fun _ => 0) 64), (γ1_0, ints .u8 (fun _ => 0) 64)] ∧ _) := growB H1 hM (Nat.le_refl _) hl [0] rfl (by decide)
  have o2_0 := ownB H1 hM (Nat.le_refl _) hl (i := 0) rfl
  clear hM hl l H1
  generalize γ 0 = γ2_0 at H2 o2_0 ⊢
  clear γ
  refine rest0 rfl (then_normal (wp_seq (wp_seq ?_)))
  refine walk_seqB 3 [.quiet (.slice (some ⟨gb, o, none⟩) n cp), .quiet (.int .i64 ((n : Nat) : Int)), .quiet (.bool false)] H2 ?ho3 ?he3
  case ho3 => exact ak (fun _ => ⟨rfl, fun _ _ => rfl⟩) (ak (by refine fun γ => ⟨rfl, fun w' h => ?_⟩; clear h; go_simp) (ak (by refine fun γ => ⟨rfl, fun w' h => ?_⟩; clear h; go_simp <;> omega) trivial))
  intro _ w3 H3
  clear H2
  refine rest0 rfl (then_normal (wp_cond_false rfl ?_))
  refine walk_seqB 2 [.quiet (.slice (some ⟨γ2_0, 0, none⟩) 64 64), .quiet (.slice (some ⟨gb, o, none⟩) n cp)] H3 ?ho4 ?he4
  case ho4 => exact ak (fun γ => ⟨rfl, fun w' _ => ex_sl86 rfl rfl⟩) (ak (fun _ => ⟨rfl, fun _ _ => rfl⟩) trivial)
  intro _ w4 H4
  clear H3
  refine rest_at (l := [2]) rfl ?_
  refine rest_set (d := 15) (v := .int .i64 ((n : Nat) : Int)) (w' := (w4.setCells γ2_0 0 (ints .u8 f n))) rfl rfl rfl (ex_copyR (sn := n) H4.out.1 0 rfl (fun j hj => (R0.out.below H4.out.2).at_ j hj) ((Nat.min_eq_left h64).symm) (by omega) rfl rfl rfl) ?_
  simp only [Act.put, sa, sz, ss]
  have H5 : Hid (Mm (w4.setCells γ2_0 0 (ints .u8 f n)) [(γ2_0, ints .u8 (pr8 (fun _ => 0) 0 n f) 64), (γ1_0, ints .u8 (fun _ => 0) 64)] ∧ Below w.heap.size w (w4.setCells γ2_0 0 (ints .u8 f n))) := ⟨by
    have h := H4.out.1.put 0 (off := 0) (vs := ints .u8 f n) rfl (by rw [ints_len, ints_len]; omega)
    rw [ints_pr8 _ _ _ _ _ (by omega)] at h
    exact h, below_setCells _ o2_0.out _ _ _ H4.out.2⟩
  clear H4
  generalize hgw : World.setCells _ _ _ _ = w5 at H5 ⊢
  clear hgw
  refine rest_nil (then_normal (wp_seq ?_))
  refine walk_seqB 1 [.quiet (.agg (ints .u8 (pr8 (fun _ => 0) 0 n f) 64).toArray)] H5 ?ho5 ?he5
  case ho5 => exact ak (fun γ => ⟨rfl, fun w' h => ex_loadT h 0 rfl rfl rfl Tryd.isAgg86 Tryd.sizeOf86 (ints_whole _ _ _) (ints_len _ _ _)⟩) trivial
  intro _ w6 H6
  clear H5
  refine rest_at (l := [1]) rfl ?_
  refine rest_store rfl rfl rfl (ex_storeT (vs := ints .u8 (pr8 (fun _ => 0) 0 n f) 64) H6.out.1 1 rfl rfl rfl rfl (by rw [ints_len]; exact Tryd.sizeOf86) (ints_all _ _ _) (by simp [ints_len])) ?_
  have H7 : Hid (Mm (w6.setCells γ1_0 0 (ints .u8 (pr8 (fun _ => 0) 0 n f) 64)) [(γ2_0, ints .u8 (pr8 (fun _ => 0) 0 n f) 64), (γ1_0, ints .u8 (pr8 (fun _ => 0) 0 n f) 64)] ∧ Below w.heap.size w (w6.setCells γ1_0 0 (ints .u8 (pr8 (fun _ => 0) 0 n f) 64))) := ⟨by
    have h := H6.out.1.put 1 (off := 0) (vs := ints .u8 (pr8 (fun _ => 0) 0 n f) 64) rfl (by simp [ints_len])
    rw [ints_patch0 _ _ _ _] at h
    exact h, below_setCells _ o1_0.out _ _ _ H6.out.2⟩
  clear H6
  generalize hgw : World.setCells _ _ _ _ = w7 at H7 ⊢
  clear hgw
  refine rest_nil (then_normal (wp_ret ?_))
  repeat (first | refine then_ret ?_ | refine block_ret ?_)
  have hf0 := var_T H7.out.1 1 rfl Tryd.isAgg86 Tryd.sizeOf86 (ints_len _ _ _)
  refine bodyPost_ret (v := .agg (ints .u8 (pr8 (fun _ => 0) 0 n f) 64).toArray) (by simp [results, Tryd.results56, asAddr, hf0]) rfl ?_
  exact ⟨by rw [kf, if_neg (by omega)], H7.out.2⟩
set_option maxHeartbeats 1000000 in
set_option maxRecDepth 100000 in
theorem filled_void (p : Option Addr) (cp : Nat) (f : Nat → Nat) (w : World) :
    Calls Tryd.prog 56 #[.slice p 0 cp] w fun e w' => e = .returned (.agg (ints .u8 (kf f 0) 64).toArray) ∧ Below w.heap.size w w' := by
  have H0 : Hid (_ ∧ _) := ⟨Mm.nil w, Below.refl w.heap.size w⟩
  go_enter Tryd.func56, Tryd.ntmps56
  refine wp_seq ?_
  refine walk_seqA 1 [.made (ints .u8 (fun _ => 0) 64) 86] (sB H0) ?ho1 ?he1
  case ho1 => exact ak (fun γ => ⟨rfl, fun w' => ex_mk86 rfl⟩) trivial
  intro γ w1 l hM hl
  have H1 : Hid (Mm w1 [(γ 0, ints .u8 (fun _ => 0) 64)] ∧ _) := growB H0 hM (Nat.le_refl _) hl [0] rfl (by decide)
  have o1_0 := ownB H0 hM (Nat.le_refl _) hl (i := 0) rfl
  clear hM hl l
  generalize γ 0 = γ1_0 at H1 o1_0 ⊢
  clear γ
  refine rest0 rfl (then_normal (wp_seq ?_))
  refine walk_seqA 1 [.made (ints .u8 (fun _ => 0) 64) 86] (sB H1) ?ho2 ?he2
  case ho2 => exact ak (fun γ => ⟨rfl, fun w' => ex_mk86 rfl⟩) trivial
  intro γ w2 l hM hl
  have H2 : Hid (Mm w2 [(γ 0, ints .u8 (fun _ => 0) 64), (γ1_0, ints .u8 (fun _ => 0) 64)] ∧ _) := growB H1 hM (Nat.le_refl _) hl [0] rfl (by decide)
  have o2_0 := ownB H1 hM (Nat.le_refl _) hl (i := 0) rfl
  clear hM hl l H1
  generalize γ 0 = γ2_0 at H2 o2_0 ⊢
  clear γ
  refine rest0 rfl (then_normal (wp_seq (wp_seq ?_)))
  refine walk_seqB 3 [.quiet (.slice p 0 cp), .quiet (.int .i64 0), .quiet (.bool false)] H2 ?ho3 ?he3
  case ho3 => exact ak (fun _ => ⟨rfl, fun _ _ => rfl⟩) (ak (by refine fun γ => ⟨rfl, fun w' h => ?_⟩; clear h; go_simp) (ak (by refine fun γ => ⟨rfl, fun w' h => ?_⟩; clear h; go_simp <;> omega) trivial))
  intro _ w3 H3
  clear H2
  refine rest0 rfl (then_normal (wp_cond_false rfl ?_))
  refine walk_seqB 2 [.quiet (.slice (some ⟨γ2_0, 0, none⟩) 64 64), .quiet (.slice p 0 cp)] H3 ?ho4 ?he4
  case ho4 => exact ak (fun γ => ⟨rfl, fun w' _ => ex_sl86 rfl rfl⟩) (ak (fun _ => ⟨rfl, fun _ _ => rfl⟩) trivial)
  intro _ w4 H4
  clear H3
  refine rest_at (l := [2]) rfl ?_
  refine rest_set (d := 15) (v := .int .i64 0) (w' := w4) rfl rfl rfl (ex_copy0 rfl rfl rfl) ?_
  simp only [Act.put, sa, sz, ss]
  refine rest_nil (then_normal (wp_seq ?_))
  refine walk_seqB 1 [.quiet (.agg (ints .u8 (fun _ => 0) 64).toArray)] H4 ?ho5 ?he5
  case ho5 => exact ak (fun γ => ⟨rfl, fun w' h => ex_loadT h 0 rfl rfl rfl Tryd.isAgg86 Tryd.sizeOf86 (ints_whole _ _ _) (ints_len _ _ _)⟩) trivial
  intro _ w6 H6
  clear H4
  refine rest_at (l := [1]) rfl ?_
  refine rest_store rfl rfl rfl (ex_storeT (vs := ints .u8 (fun _ => 0) 64) H6.out.1 1 rfl rfl rfl rfl (by rw [ints_len]; exact Tryd.sizeOf86) (ints_all _ _ _) (by simp [ints_len])) ?_
  have H7 : Hid (Mm (w6.setCells γ1_0 0 (ints .u8 (fun _ => 0) 64)) [(γ2_0, ints .u8 (fun _ => 0) 64), (γ1_0, ints .u8 (fun _ => 0) 64)] ∧ Below w.heap.size w (w6.setCells γ1_0 0 (ints .u8 (fun _ => 0) 64))) := ⟨by
    have h := H6.out.1.put 1 (off := 0) (vs := ints .u8 (fun _ => 0) 64) rfl (by simp [ints_len])
    rw [ints_patch0 _ _ _ _] at h
    exact h, below_setCells _ o1_0.out _ _ _ H6.out.2⟩
  clear H6
  generalize hgw : World.setCells _ _ _ _ = w7 at H7 ⊢
  clear hgw
  refine rest_nil (then_normal (wp_ret ?_))
  repeat (first | refine then_ret ?_ | refine block_ret ?_)
  have hf0 := var_T H7.out.1 1 rfl Tryd.isAgg86 Tryd.sizeOf86 (ints_len _ _ _)
  refine bodyPost_ret (v := .agg (ints .u8 (fun _ => 0) 64).toArray) (by simp [results, Tryd.results56, asAddr, hf0]) rfl ?_
  exact ⟨by rw [kf, if_neg (by decide), pr8_zero], H7.out.2⟩
/-- A key's block. -/
theorem kfilled_any (gb o n cp : Nat) (p : Option Addr) (f : Nat → Nat) (hv : Bv gb o n cp 0 (.slice p n cp)) (hcp : n ≤ cp) (hb : n < 4611686018427387904) (w : World) (hm : Mm w [(0, ints .u32 fT 8), (1, ints .u32 kT 64)]) (hR : Rs gb o n f w) : Calls Tryd.prog 56 #[.slice p n cp] w fun e w' => e = .returned (.agg (ints .u8 (kf f n) 64).toArray) ∧ Below w.heap.size w w' := by
  by_cases h64 : 64 < n
  · exact filled_long gb o n cp p f hv hcp hb h64 w hm hR
  · rcases Nat.eq_zero_or_pos n with h0 | h0
    · subst h0
      exact filled_void p cp f w
    · have e := hv.1 h0
      rw [Nat.add_zero, Nat.sub_zero, Nat.sub_zero] at e
      rw [e]
      exact filled_short gb o n cp f (by omega) w hR
end Rg
end Go.Proofs.YtolflfjfegngnaaDoor
end
section
namespace Go.Proofs.YtolflfjfegngnaaDoor
open Go.RowKit
namespace Rg
set_option maxRecDepth 100000
/-- The hash's state behind a block and k parts. -/
def sq (K : Nat → Nat) (P : Nat → Pt8) : Nat → Hq
  | 0 => hby K ⟨fT, fun _ => 0, 0⟩ 64
  | k + 1 => hby (P k).f (sq K P k) (P k).n
/-- The digest of a block and m parts. -/
def sd (K : Nat → Nat) (P : Nat → Pt8) (m : Nat) : Nat → Nat := fz (sq K P m).s (sq K P m).r (sq K P m).c
/-- The code of m parts under a block. -/
def cd (K : Nat → Nat) (P : Nat → Pt8) (m : Nat) : Nat → Nat :=
  fz (hby (sd (mk8 K 54) P m) (hby (mk8 K 92) ⟨fT, fun _ => 0, 0⟩ 64) 32).s (hby (sd (mk8 K 54) P m) (hby (mk8 K 92) ⟨fT, fun _ => 0, 0⟩ 64) 32).r (hby (sd (mk8 K 54) P m) (hby (mk8 K 92) ⟨fT, fun _ => 0, 0⟩ 64) 32).c
/-- How many bytes k parts have. -/
def tn (P : Nat → Pt8) : Nat → Nat
  | 0 => 0
  | k + 1 => tn P k + (P k).n
theorem sq_c (K : Nat → Nat) (P : Nat → Pt8) : ∀ k, (sq K P k).c = 64 + tn P k
  | 0 => by show (hby K _ 64).c = _; rw [hby_c]; rfl
  | k + 1 => by show (hby (P k).f (sq K P k) (P k).n).c = 64 + (tn P k + (P k).n); rw [hby_c, sq_c K P k, Nat.add_assoc]
/-- What a list of parts wants: where it lies, and each part's slice. -/
structure Lw (pl : Option Addr) (P : Nat → Pt8) (m : Nat) : Prop where
  p2 : 0 < m → ∃ g o, pl = some ⟨g, o, none⟩
  bv : ∀ i, i < m → Bv (P i).gb (P i).o (P i).n (P i).cp 0 (.slice (P i).p (P i).n (P i).cp) ∧ (P i).n ≤ (P i).cp
  tl : ∀ i, i < m → 64 + tn P i + (P i).n < 4611686018427387904
  ml : m ≤ 1048576
theorem Ls.mk {w : World} {l : List (Nat × List Value)} {gs : Nat} {vs : List Value} {P : Nat → Pt8} {m : Nat} (h : Mm w l) (k : Nat) (hk : l[k]? = some (gs, vs)) (hv : ∀ i, i < m → vs[i]? = some (.slice (P i).p (P i).n (P i).cp)) (hr : ∀ i, i < m → Rs (P i).gb (P i).o (P i).n (P i).f w) : Ls (some ⟨gs, 0, none⟩) P m w := fun g o e i hi => by
  injection e with e
  injection e with e1 e2
  subst e1 e2
  have hb := h.blk _ (List.mem_of_getElem? hk)
  exact ⟨hb.1, by rw [Nat.zero_add]; exact (hb.2 i _ (hv i hi)).1, hr i hi⟩
theorem Ls.one {w : World} {l : List (Nat × List Value)} {gs : Nat} {q : Pt8} (h : Mm w l) (k : Nat) (hk : l[k]? = some (gs, [.slice q.p q.n q.cp])) (hr : Rs q.gb q.o q.n q.f w) : Ls (some ⟨gs, 0, none⟩) (fun _ => q) 1 w :=
  Ls.mk h k hk (fun i hi => by
    obtain rfl : i = 0 := by omega
    rfl) (fun _ _ => hr)
/-- A part that is a whole row. -/
def pw (g n : Nat) (f : Nat → Nat) : Pt8 := ⟨g, 0, n, n, some ⟨g, 0, none⟩, f⟩
theorem pw_bv (g n : Nat) (f : Nat → Nat) : Bv (pw g n f).gb (pw g n f).o (pw g n f).n (pw g n f).cp 0 (.slice (pw g n f).p (pw g n f).n (pw g n f).cp) ∧ (pw g n f).n ≤ (pw g n f).cp := ⟨Bv.start _ _ _ _, Nat.le_refl _⟩
theorem Lw.one (gs g n : Nat) (f : Nat → Nat) (hn : n ≤ 1048576) : Lw (some ⟨gs, 0, none⟩) (fun _ => pw g n f) 1 :=
  ⟨fun _ => ⟨gs, 0, rfl⟩, fun _ _ => pw_bv g n f, fun i hi => by
    obtain rfl : i = 0 := by omega
    show 64 + 0 + n < _
    omega, by decide⟩
section
variable {ρ : Operand → Value} {o : Oper} {x : Operand} {w : World}
theorem ex_bsL {p : Option Addr} {n c : Nat} (ho : o.op = .buildSlice 29 1 #[(0, x)]) (hx : ρ x = .slice p n c) : (execOp ρ o).run Tryd.prog w = .ok (.value (.slice (some ⟨w.heap.size, 0, none⟩) 1 1)) (w.alloc (.cells ([.slice p n c] : List Value).toArray 22)) := by
  simp only [execOp, ho, List.map_toArray, List.map_cons, List.map_nil, hx]
  kernel_rfl
end
set_option maxHeartbeats 4000000 in
set_option maxRecDepth 100000 in
theorem sum_any (K : Nat → Nat) (pl : Option Addr) (P : Nat → Pt8) (m c2 : Nat) (hw0 : Lw pl P m) (w : World) (hm : Mm w [(0, ints .u32 fT 8), (1, ints .u32 kT 64)]) (hL : Ls pl P m w) :
    Calls Tryd.prog 61 #[.agg (ints .u8 K 64).toArray, .slice pl m c2] w fun e w' => e = .returned (.agg (ints .u8 (sd K P m) 32).toArray) ∧ Below w.heap.size w w' := by
  have H0 : Hid (_ ∧ _) := ⟨hm, Below.refl w.heap.size w⟩
  clear hm
  have hw : Hid _ := hw0
  have LS : Hid (Ls pl P m w) := hL
  have hml := hw0.ml
  clear hw0 hL
  go_enter Tryd.func61, Tryd.ntmps61
  refine wp_seq ?_
  refine walk_seqA 2 [.made (ints .u8 K 64) 86, .made (ints .u8 (fun _ => 0) 32) 25] (sB H0) ?ho1 ?he1
  case ho1 => exact ak (fun γ => ⟨rfl, fun w' => ex_boxT rfl rfl⟩) (ak (fun γ => ⟨rfl, fun w' => ex_mk25 rfl⟩) trivial)
  intro γ w1 l hM hl
  have H1 : Hid (Mm w1 [(γ 0, ints .u8 K 64), (γ 1, ints .u8 (fun _ => 0) 32), (0, ints .u32 fT 8), (1, ints .u32 kT 64)] ∧ _) := growB H0 hM (Nat.le_refl _) hl [0, 1] rfl (by decide)
  have o1_0 := ownB H0 hM (Nat.le_refl _) hl (i := 0) rfl
  have o1_1 := ownB H0 hM (Nat.le_refl _) hl (i := 1) rfl
  clear hM hl l
  generalize γ 0 = γ1_0 at H1 o1_0 ⊢
  generalize γ 1 = γ1_1 at H1 o1_1 ⊢
  clear γ
  refine rest0 rfl (then_normal (wp_seq ?_))
  refine walk_seqA 1 [.born (fun g => PT g 0) (hs true fT (fun _ => 0) 0)] (sB H1) ?ho2 ?he2
  case ho2 => exact ak (fun γ => ⟨rfl, fun w' h => ⟨25, #[], exec_call rfl call25 rfl (mpn rfl), New_any w' (h.one 2 rfl)⟩⟩) trivial
  intro γ w2 l hM hl
  have H2 : Hid (Mm w2 [(γ 0, hs true fT (fun _ => 0) 0), (γ1_0, ints .u8 K 64), (γ1_1, ints .u8 (fun _ => 0) 32), (0, ints .u32 fT 8), (1, ints .u32 kT 64)] ∧ _) := growB H1 hM (Nat.le_refl _) hl [0] rfl (by decide)
  have o2_0 := ownB H1 hM (Nat.le_refl _) hl (i := 0) rfl
  clear hM hl l H1
  generalize γ 0 = γ2_0 at H2 o2_0 ⊢
  clear γ
  refine rest_at (l := [1]) rfl ?_
  refine rest_set (d := 5) rfl rfl rfl rfl ?_
  simp only [Act.put, sa, sz, ss]
  refine rest_nil (then_normal (wp_seq ?_))
  refine walk_seqB 2 [.quiet (PT γ2_0 0), .quiet (.slice (some ⟨γ1_0, 0, none⟩) 64 64)] H2 ?ho3 ?he3
  case ho3 => exact ak (fun _ => ⟨rfl, fun _ _ => rfl⟩) (ak (fun γ => ⟨rfl, fun w' _ => ex_sl86 rfl rfl⟩) trivial)
  intro _ w3 H3
  clear H2
  refine rest_at (l := [2]) rfl ?_
  refine rest_enter (d := 11) (R := fun vv w' => vv = .int .i64 0 ∧ Mm w' [(γ2_0, hs true ((hby K (⟨fT, fun _ => 0, 0⟩ : Hq) 64).s) ((hby K (⟨fT, fun _ => 0, 0⟩ : Hq) 64).r) ((hby K (⟨fT, fun _ => 0, 0⟩ : Hq) 64).c))] ∧ Kp γ2_0 w3 w') rfl rfl rfl (exec_call (args := #[PT γ2_0 0, .slice (some ⟨γ1_0, 0, none⟩) 64 64]) rfl call26 rfl (mpn rfl)) (Calls.mono (Write_ok γ2_0 γ1_0 0 64 64 (⟨fT, fun _ => 0, 0⟩ : Hq) K _ (Bv.start _ _ _ _) (by decide) (by decide) w3 (H3.out.1.two 0 4 rfl rfl (by decide)) (H3.out.1.src 0 1 rfl rfl (by decide) (by decide))) (fun e w2 hh => ⟨_, hh.1, rfl, hh.2⟩)) ?_
  rintro _ w4 ⟨rfl, hn, hp⟩
  have H4 : Hid (Mm w4 [(γ2_0, hs true ((hby K (⟨fT, fun _ => 0, 0⟩ : Hq) 64).s) ((hby K (⟨fT, fun _ => 0, 0⟩ : Hq) 64).r) ((hby K (⟨fT, fun _ => 0, 0⟩ : Hq) 64).c)), (γ1_0, ints .u8 K 64), (γ1_1, ints .u8 (fun _ => 0) 32), (0, ints .u32 fT 8), (1, ints .u32 kT 64)] ∧ Below w.heap.size w w4) := ⟨H3.out.1.change 0 rfl hp hn, Below.kp H3.out.2 hp o2_0.out H3.out.2.size⟩
  clear hn hp H3
  simp only [Act.put, sa, sz, ss]
  refine rest_nil (then_normal ?_)
  refine wp_seq (wp_seq ?_)
  refine walk_seqB 3 [.quiet (.slice pl m c2), .quiet (.int .i64 ((m : Nat) : Int)), .quiet (.int .i64 0)] H4 ?ho4 ?he4
  case ho4 => exact ak (fun _ => ⟨rfl, fun _ _ => rfl⟩) (ak (by refine fun γ => ⟨rfl, fun w' h => ?_⟩; clear h; go_simp) (ak (fun _ => ⟨rfl, fun _ _ => rfl⟩) trivial))
  intro _ w5 H5
  clear H4
  refine rest0 rfl (then_normal (wp_block ?_))
  refine loop_ghost (α := Nat) (fun k a' w' => ∃ s0 : Nat → Value, a' = ⟨#[.agg (ints .u8 K 64).toArray, .slice pl m c2, PT γ1_0 0, undef, PT γ1_1 0, PT γ2_0 0, undef, s0 7, PT γ2_0 0, PT γ2_0 0, .slice (some ⟨γ1_0, 0, none⟩) 64 64, .int .i64 0, .slice pl m c2, .int .i64 ((m : Nat) : Int), .int .i64 ((k : Nat) : Int), s0 15, s0 16, s0 17, s0 18, s0 19, s0 20, s0 21, undef, undef], []⟩ ∧ (Mm w' [(γ2_0, hs true ((sq K P k).s) ((sq K P k).r) ((sq K P k).c)), (γ1_0, ints .u8 K 64), (γ1_1, ints .u8 (fun _ => 0) 32), (0, ints .u32 fT 8), (1, ints .u32 kT 64)] ∧ Below w.heap.size w w') ∧ k ≤ m) (fun k => m - k) 0 ?st0 ?rd0
  case st0 => exact ⟨(slotfn [undef, undef, undef, undef, undef, undef, undef, undef, undef, undef, undef, undef, undef, undef, undef, undef, undef, undef, undef, undef, undef, undef]), rfl, ⟨H5.out.1, H5.out.2⟩, by omega⟩
  intro k a' w6 hI
  obtain ⟨s0, rfl, hMB, hk0⟩ := hI
  have H6 : Hid (_ ∧ _) := hMB
  clear hMB H5
  by_cases hlt : k < m
  · have hrd : True := trivial
    clear hrd
    obtain ⟨g2, o2, e2⟩ := hw.out.p2 (by omega)
    have E2 : Hid (pl = some ⟨g2, o2, none⟩) := e2
    clear e2
    refine wp_seq ?_
    refine walk_seqB 1 [.quiet (.bool true)] H6 ?ho5 ?he5
    case ho5 => exact ak (by refine fun γ => ⟨rfl, fun w' h => ?_⟩; clear h; go_simp <;> omega) trivial
    intro _ w7 H7
    clear H6
    refine rest0 rfl (then_normal (wp_seq ?_))
    refine wp_cond_true rfl (wp_skip ?_)
    refine then_normal (wp_seq ?_)
    refine wp_block (wp_seq ?_)
    refine (walk_seq) 3 [.quiet (PT g2 (o2 + k)), .quiet (.slice (P k).p (P k).n (P k).cp), .quiet (.slice (P k).p (P k).n (P k).cp)] (fun u' => Mm u' [(γ2_0, hs true ((sq K P k).s) ((sq K P k).r) ((sq K P k).c)), (γ1_0, ints .u8 K 64), (γ1_1, ints .u8 (fun _ => 0) 32), (0, ints .u32 fT 8), (1, ints .u32 kT 64)] ∧ (Ls pl P m u')) ?pre6 ?F6 ?hpre6 (fun γ => ?hF6) (by kernel_rfl) ?hL6 ?hS6 ?ho6 ?he6
    case hpre6 => simp only [tk, tz]; rfl
    case hF6 => simp only [fill, Kind.val, Act.put, sa, sz, ss]; rfl
    case hL6 => exact trivial
    case hS6 => exact fun w' hb => ⟨H7.out.1.below hb, LS.out.below (H7.out.2.trans (hb.mono H7.out.2.size))⟩
    case ho6 =>
      refine ak (fun γ => ⟨rfl, fun w' _ => ex_ixP29 (j := k) E2.out rfl rfl rfl (by omega)⟩) ?_
      refine ak (fun γ => ⟨rfl, fun w' hX => ex_ldP (j := k) hX.2 E2.out (by omega) rfl rfl⟩) ?_
      refine ak (fun _ => ⟨rfl, fun _ _ => rfl⟩) ?_
      exact trivial
    intro γ w8 l hM hl
    have H8 := keepB H7 hM.below
    clear hM hl l H7 γ
    refine rest0 rfl (then_normal ?_)
    refine walk_seqB 2 [.quiet (PT γ2_0 0), .quiet (.slice (P k).p (P k).n (P k).cp)] H8 ?ho7 ?he7
    case ho7 => exact ak (fun _ => ⟨rfl, fun _ _ => rfl⟩) (ak (fun _ => ⟨rfl, fun _ _ => rfl⟩) trivial)
    intro _ w9 H9
    clear H8
    refine rest_at (l := [2]) rfl ?_
    refine rest_enter (d := 20) (R := fun vv w' => vv = .int .i64 0 ∧ Mm w' [(γ2_0, hs true ((sq K P (k + 1)).s) ((sq K P (k + 1)).r) ((sq K P (k + 1)).c))] ∧ Kp γ2_0 w9 w') rfl rfl rfl (exec_call (args := #[PT γ2_0 0, .slice (P k).p (P k).n (P k).cp]) rfl call26 rfl (mpn rfl)) (Calls.mono (Write_ok γ2_0 (P k).gb (P k).o (P k).n (P k).cp (sq K P k) (P k).f _ (hw.out.bv k hlt).1 (hw.out.bv k hlt).2 (by rw [sq_c]; exact hw.out.tl k hlt) w9 (H9.out.1.two 0 4 rfl rfl (by decide)) ((LS.out g2 o2 E2.out k hlt).2.2.src H9.out.2 o2_0.out)) (fun e w2 hh => ⟨_, hh.1, rfl, hh.2⟩)) ?_
    rintro _ w10 ⟨rfl, hn, hp⟩
    have H10 : Hid (Mm w10 [(γ2_0, hs true ((sq K P (k + 1)).s) ((sq K P (k + 1)).r) ((sq K P (k + 1)).c)), (γ1_0, ints .u8 K 64), (γ1_1, ints .u8 (fun _ => 0) 32), (0, ints .u32 fT 8), (1, ints .u32 kT 64)] ∧ Below w.heap.size w w10) := ⟨H9.out.1.change 0 rfl hp hn, Below.kp H9.out.2 hp o2_0.out H9.out.2.size⟩
    clear hn hp H9
    simp only [Act.put, sa, sz, ss]
    refine rest_nil (block_normal (then_normal ?_))
    refine walk_seqB 1 [.quiet (.int .i64 ((k + 1 : Nat) : Int))] H10 ?ho8 ?he8
    case ho8 => exact ak (by refine fun γ => ⟨rfl, fun w' h => ?_⟩; clear h; go_simp; rw [IntKind.wrap_i64]; omega) trivial
    intro _ w11 H11
    clear H10
    refine rest_at (l := [1]) rfl ?_
    refine rest_set (d := 14) rfl rfl rfl rfl ?_
    simp only [Act.put, sa, sz, ss]
    refine rest_nil (then_normal ?_)
    exact ⟨k + 1, ⟨(slotfn [undef, undef, undef, undef, undef, undef, undef, .slice (P k).p (P k).n (P k).cp, undef, undef, undef, undef, undef, undef, undef, .bool true, PT g2 (o2 + k), .slice (P k).p (P k).n (P k).cp, PT γ2_0 0, .slice (P k).p (P k).n (P k).cp, .int .i64 0, .int .i64 ((k + 1 : Nat) : Int)]), rfl, ⟨H11.out.1, H11.out.2⟩, by omega⟩, by omega⟩
  have hkm : m = k := by omega
  subst hkm
  refine wp_seq ?_
  refine walk_seqB 1 [.quiet (.bool false)] H6 ?ho9 ?he9
  case ho9 => exact ak (by refine fun γ => ⟨rfl, fun w' h => ?_⟩; clear h; go_simp <;> omega) trivial
  intro _ w12 H12
  clear H6
  refine rest0 rfl (then_normal (wp_seq (wp_cond_false rfl ?_)))
  refine wp_exit ?_
  repeat refine then_exit ?_
  refine block_exit ?_
  refine then_normal (wp_seq ?_)
  refine walk_seqB 2 [.quiet (PT γ2_0 0), .call (.agg (ints .u8 (sd K P m) 32).toArray)] H12 ?ho10 ?he10
  case ho10 => exact ak (fun _ => ⟨rfl, fun _ _ => rfl⟩) (ak (fun γ => ⟨rfl, fun w' h => ⟨29, #[PT γ2_0 0], exec_call rfl call29 rfl (mpn rfl), HSum_ok _ (sq K P m) w' (h.two 0 4 rfl rfl (by decide))⟩⟩) trivial)
  intro _ w13 H13
  clear H12
  refine rest_at (l := [2]) rfl ?_
  refine rest_store rfl rfl rfl (ex_storeT (vs := ints .u8 (sd K P m) 32) H13.out.1 2 rfl rfl rfl rfl (by rw [ints_len]; exact Tryd.sizeOf25) (ints_all _ _ _) (by simp [ints_len])) ?_
  have H14 : Hid (Mm (w13.setCells γ1_1 0 (ints .u8 (sd K P m) 32)) [(γ2_0, hs true ((sq K P m).s) ((sq K P m).r) ((sq K P m).c)), (γ1_0, ints .u8 K 64), (γ1_1, ints .u8 (sd K P m) 32), (0, ints .u32 fT 8), (1, ints .u32 kT 64)] ∧ Below w.heap.size w (w13.setCells γ1_1 0 (ints .u8 (sd K P m) 32))) := ⟨by
    have h := H13.out.1.put 2 (off := 0) (vs := ints .u8 (sd K P m) 32) rfl (by simp [ints_len])
    rw [ints_patch0 _ _ _ _] at h
    exact h, below_setCells _ o1_1.out _ _ _ H13.out.2⟩
  clear H13
  generalize hgw : World.setCells _ _ _ _ = w14 at H14 ⊢
  clear hgw
  refine rest_nil (then_normal (wp_ret ?_))
  repeat (first | refine then_ret ?_ | refine block_ret ?_)
  have hf0 := var_T H14.out.1 2 rfl Tryd.isAgg25 Tryd.sizeOf25 (ints_len _ _ _)
  refine bodyPost_ret (v := .agg (ints .u8 (sd K P m) 32).toArray) (by simp [results, Tryd.results61, asAddr, hf0]) rfl ?_
  exact ⟨rfl, H14.out.2⟩
set_option maxHeartbeats 4000000 in
set_option maxRecDepth 100000 in
theorem code_any (K : Nat → Nat) (pl : Option Addr) (P : Nat → Pt8) (m c2 : Nat) (hw0 : Lw pl P m) (w : World) (hm : Mm w [(0, ints .u32 fT 8), (1, ints .u32 kT 64)]) (hL : Ls pl P m w) :
    Calls Tryd.prog 55 #[.agg (ints .u8 K 64).toArray, .slice pl m c2] w fun e w' => e = .returned (.agg (ints .u8 (cd K P m) 32).toArray) ∧ Below w.heap.size w w' := by
  have H0 : Hid (_ ∧ _) := ⟨hm, Below.refl w.heap.size w⟩
  clear hm
  have hw : Hid _ := hw0
  have LS : Hid (Ls pl P m w) := hL
  clear hw0 hL
  go_enter Tryd.func55, Tryd.ntmps55
  refine wp_seq ?_
  refine walk_seqA 2 [.made (ints .u8 K 64) 86, .made (ints .u8 (fun _ => 0) 32) 25] (sB H0) ?ho1 ?he1
  case ho1 => exact ak (fun γ => ⟨rfl, fun w' => ex_boxT rfl rfl⟩) (ak (fun γ => ⟨rfl, fun w' => ex_mk25 rfl⟩) trivial)
  intro γ w1 l hM hl
  have H1 : Hid (Mm w1 [(γ 0, ints .u8 K 64), (γ 1, ints .u8 (fun _ => 0) 32), (0, ints .u32 fT 8), (1, ints .u32 kT 64)] ∧ _) := growB H0 hM (Nat.le_refl _) hl [0, 1] rfl (by decide)
  have o1_0 := ownB H0 hM (Nat.le_refl _) hl (i := 0) rfl
  have o1_1 := ownB H0 hM (Nat.le_refl _) hl (i := 1) rfl
  clear hM hl l
  generalize γ 0 = γ1_0 at H1 o1_0 ⊢
  generalize γ 1 = γ1_1 at H1 o1_1 ⊢
  clear γ
  refine rest0 rfl (then_normal (wp_seq ?_))
  refine (walk_seq) 6 [.quiet (.agg (ints .u8 K 64).toArray), .call (.agg (ints .u8 (mk8 K 54) 64).toArray), .quiet (.slice pl m c2), .call (.agg (ints .u8 (sd (mk8 K 54) P m) 32).toArray), .made (ints .u8 (fun _ => 0) 32) 25, .laid 4 (ints .u8 (fun _ => 0) 32) (ints .u8 (sd (mk8 K 54) P m) 32)] (fun u' => Mm u' [(γ1_0, ints .u8 K 64), (γ1_1, ints .u8 (fun _ => 0) 32), (0, ints .u32 fT 8), (1, ints .u32 kT 64)] ∧ (Ls pl P m u')) ?pre2 ?F2 ?hpre2 (fun γ => ?hF2) (by kernel_rfl) ?hL2 ?hS2 ?ho2 ?he2
  case hpre2 => simp only [tk, tz]; rfl
  case hF2 => simp only [fill, Kind.val, Act.put, sa, sz, ss]; rfl
  case hL2 => exact ⟨⟨_, rfl⟩, trivial⟩
  case hS2 => exact fun w' hb => ⟨H1.out.1.below hb, LS.out.below (H1.out.2.trans (hb.mono H1.out.2.size))⟩
  case ho2 =>
    refine ak (fun γ => ⟨rfl, fun w' hX => have h := hX.1; ex_loadT h 0 rfl rfl rfl Tryd.isAgg86 Tryd.sizeOf86 (ints_whole _ _ _) (ints_len _ _ _)⟩) ?_
    refine ak (fun γ => ⟨rfl, fun w' hX => ⟨62, #[.agg (ints .u8 K 64).toArray, .int .u8 54], exec_call rfl call62 rfl (mpn rfl), masked_any K 54 w'⟩⟩) ?_
    refine ak (fun _ => ⟨rfl, fun _ _ => rfl⟩) ?_
    refine ak (fun γ => ⟨rfl, fun w' hX => have h := hX.1; ⟨61, #[.agg (ints .u8 (mk8 K 54) 64).toArray, .slice pl m c2], exec_call rfl call61 rfl (mpn rfl), sum_any (mk8 K 54) pl P m c2 hw.out w' (h.two 2 3 rfl rfl (by decide)) hX.2⟩⟩) ?_
    refine ak (fun γ => ⟨rfl, fun w' => ex_mk25 rfl⟩) ?_
    refine ak (fun γ => ⟨rfl, rfl, (ints_len _ _ _).trans (ints_len _ _ _).symm, fun w' h => ex_laidI h Tryd.sizeOf25 rfl rfl rfl⟩) ?_
    exact trivial
  intro γ w2 l hM hl
  have H2 : Hid (Mm w2 [(γ 4, ints .u8 (sd (mk8 K 54) P m) 32), (γ1_0, ints .u8 K 64), (γ1_1, ints .u8 (fun _ => 0) 32), (0, ints .u32 fT 8), (1, ints .u32 kT 64)] ∧ _) := growB H1 hM (Nat.le_refl _) hl [4] rfl (by decide)
  have o2_4 := ownB H1 hM (Nat.le_refl _) hl (i := 4) rfl
  clear hM hl l H1
  generalize γ 4 = γ2_4 at H2 o2_4 ⊢
  clear γ
  refine rest0 rfl (then_normal (wp_seq ?_))
  refine walk_anyA 5 [.quiet (.agg (ints .u8 K 64).toArray), .call (.agg (ints .u8 (mk8 K 92) 64).toArray), .quiet (.slice (some ⟨γ2_4, 0, none⟩) 32 32), .row (fun g => .slice (some ⟨g, 0, none⟩) 1 1) ([Value.slice (some ⟨γ2_4, 0, none⟩) 32 32]) 22, .over (.agg (ints .u8 (cd K P m) 32).toArray) 3 ([Value.slice (some ⟨γ2_4, 0, none⟩) 32 32])] (sB H2) ?ho3 ?he3 (hL := ?hL3)
  case hL3 => exact ⟨⟨_, rfl⟩, trivial⟩
  case ho3 => exact ak (fun γ => ⟨rfl, fun w' h => ex_loadT h 1 rfl rfl rfl Tryd.isAgg86 Tryd.sizeOf86 (ints_whole _ _ _) (ints_len _ _ _)⟩) (ak (fun γ => ⟨rfl, fun w' h => ⟨62, #[.agg (ints .u8 K 64).toArray, .int .u8 92], exec_call rfl call62 rfl (mpn rfl), masked_any K 92 w'⟩⟩) (ak (fun γ => ⟨rfl, fun w' _ => ex_sl25 rfl rfl⟩) (ak (fun γ => ⟨rfl, fun w' => ex_bsL rfl rfl⟩) (ak (fun γ => ⟨rfl, fun u w' h0 hge h1 hb hlt => by have h := Mm.over h0 hge h1 hb hlt; exact ⟨61, #[.agg (ints .u8 (mk8 K 92) 64).toArray, .slice (some ⟨(γ 3), 0, none⟩) 1 1], exec_call rfl call61 rfl (mpn rfl), sum_any (mk8 K 92) _ (fun _ => (pw γ2_4 32 (sd (mk8 K 54) P m))) 1 1 (Lw.one _ γ2_4 32 _ (by decide)) w' (h.two 4 5 rfl rfl (by decide)) (Ls.one h 0 rfl (h.rs 1 rfl (Nat.le_refl _)))⟩⟩) trivial))))
  intro γ w3 l hM hl
  have H3 : Hid (Mm w3 [(γ 3, [Value.slice (some ⟨γ2_4, 0, none⟩) 32 32]), (γ2_4, ints .u8 (sd (mk8 K 54) P m) 32), (γ1_0, ints .u8 K 64), (γ1_1, ints .u8 (fun _ => 0) 32), (0, ints .u32 fT 8), (1, ints .u32 kT 64)] ∧ _) := growB H2 hM (Nat.le_refl _) hl [3] rfl (by decide)
  have o3_3 := ownB H2 hM (Nat.le_refl _) hl (i := 3) rfl
  clear hM hl l H2
  generalize γ 3 = γ3_3 at H3 o3_3 ⊢
  clear γ
  refine rest_at (l := [5]) rfl ?_
  refine rest_store rfl rfl rfl (ex_storeT (vs := ints .u8 (cd K P m) 32) H3.out.1 3 rfl rfl rfl rfl (by rw [ints_len]; exact Tryd.sizeOf25) (ints_all _ _ _) (by simp [ints_len])) ?_
  have H4 : Hid (Mm (w3.setCells γ1_1 0 (ints .u8 (cd K P m) 32)) [(γ3_3, [Value.slice (some ⟨γ2_4, 0, none⟩) 32 32]), (γ2_4, ints .u8 (sd (mk8 K 54) P m) 32), (γ1_0, ints .u8 K 64), (γ1_1, ints .u8 (cd K P m) 32), (0, ints .u32 fT 8), (1, ints .u32 kT 64)] ∧ Below w.heap.size w (w3.setCells γ1_1 0 (ints .u8 (cd K P m) 32))) := ⟨by
    have h := H3.out.1.put 3 (off := 0) (vs := ints .u8 (cd K P m) 32) rfl (by simp [ints_len])
    rw [ints_patch0 _ _ _ _] at h
    exact h, below_setCells _ o1_1.out _ _ _ H3.out.2⟩
  clear H3
  generalize hgw : World.setCells _ _ _ _ = w4 at H4 ⊢
  clear hgw
  refine rest_nil (then_normal (wp_ret ?_))
  repeat (first | refine then_ret ?_ | refine block_ret ?_)
  have hf0 := var_T H4.out.1 3 rfl Tryd.isAgg25 Tryd.sizeOf25 (ints_len _ _ _)
  refine bodyPost_ret (v := .agg (ints .u8 (cd K P m) 32).toArray) (by simp [results, Tryd.results55, asAddr, hf0]) rfl ?_
  exact ⟨rfl, H4.out.2⟩
end Rg
end Go.Proofs.YtolflfjfegngnaaDoor
end
section
namespace Go.Proofs.YtolflfjfegngnaaDoor
open Go.RowKit
namespace Rg
set_option maxRecDepth 100000
/-- The code of a message under a block. -/
def hmi (K f : Nat → Nat) (n : Nat) : Nat → Nat := fz (hby f (hby (mk8 K 54) ⟨fT, fun _ => 0, 0⟩ 64) n).s (hby f (hby (mk8 K 54) ⟨fT, fun _ => 0, 0⟩ 64) n).r (hby f (hby (mk8 K 54) ⟨fT, fun _ => 0, 0⟩ 64) n).c
def hmc (K f : Nat → Nat) (n : Nat) : Nat → Nat := fz (hby (hmi K f n) (hby (mk8 K 92) ⟨fT, fun _ => 0, 0⟩ 64) 32).s (hby (hmi K f n) (hby (mk8 K 92) ⟨fT, fun _ => 0, 0⟩ 64) 32).r (hby (hmi K f n) (hby (mk8 K 92) ⟨fT, fun _ => 0, 0⟩ 64) 32).c
theorem hby_cg {f f' : Nat → Nat} (q : Hq) : ∀ n, (∀ j, j < n → f j = f' j) → hby f q n = hby f' q n
  | 0, _ => rfl
  | n + 1, h => by
    show hone (hby f q n) (f n) = hone (hby f' q n) (f' n)
    rw [hby_cg q n fun j hj => h j (by omega), h n (by omega)]
/-- The message that parts are, one behind the other. -/
def tf (P : Nat → Pt8) : Nat → Nat → Nat
  | 0 => fun _ => 0
  | k + 1 => ct (tf P k) (tn P k) (P k).f
theorem hby_ct (f g : Nat → Nat) (q : Hq) (n m : Nat) : hby (ct f n g) q (n + m) = hby g (hby f q n) m := by
  rw [hby_add]
  have e1 : hby (ct f n g) q n = hby f q n := hby_cg _ _ fun j hj => by unfold ct; rw [if_pos hj]
  rw [e1]
  exact hby_cg _ _ fun j hj => by unfold ct; rw [if_neg (by omega), Nat.add_sub_cancel_left]
theorem sq_tf (K : Nat → Nat) (P : Nat → Pt8) : ∀ m, sq K P m = hby (tf P m) (hby K ⟨fT, fun _ => 0, 0⟩ 64) (tn P m)
  | 0 => rfl
  | m + 1 => by
    show hby (P m).f (sq K P m) (P m).n = hby (ct (tf P m) (tn P m) (P m).f) (hby K ⟨fT, fun _ => 0, 0⟩ 64) (tn P m + (P m).n)
    rw [hby_ct, sq_tf K P m]
theorem hm_cg {K f f' : Nat → Nat} {n : Nat} (h : ∀ j, j < n → f j = f' j) : hmc K f n = hmc K f' n := by
  unfold hmc hmi
  rw [hby_cg _ n h]
theorem cd_hm (K : Nat → Nat) (P : Nat → Pt8) (m : Nat) : cd K P m = hmc K (tf P m) (tn P m) := by
  unfold cd hmc hmi sd
  rw [sq_tf]
/-- A part handed in is a slice. -/
structure Pok (q : Pt8) : Prop where
  bv : Bv q.gb q.o q.n q.cp 0 (.slice q.p q.n q.cp)
  le : q.n ≤ q.cp
abbrev Pt8.rs (q : Pt8) (w : World) : Prop := Rs q.gb q.o q.n q.f w
theorem Lw.of (gs : Nat) {q : Pt8} (h : Pok q) (hn : q.n ≤ 1048576) : Lw (some ⟨gs, 0, none⟩) (fun _ => q) 1 :=
  ⟨fun _ => ⟨gs, 0, rfl⟩, fun _ _ => ⟨h.bv, h.le⟩, fun i hi => by
    obtain rfl : i = 0 := by omega
    show 64 + 0 + q.n < _
    omega, by decide⟩
set_option maxHeartbeats 1000000 in
set_option maxRecDepth 100000 in
theorem Code_any (a b : Pt8) (ha : Pok a) (hb : Pok b) (hna : a.n < 4611686018427387904) (hnb : b.n ≤ 1048576) (w : World) (hm : Mm w [(0, ints .u32 fT 8), (1, ints .u32 kT 64)]) (hRa : a.rs w) (hRb : b.rs w) :
    Calls Tryd.prog 32 #[.slice a.p a.n a.cp, .slice b.p b.n b.cp] w fun e w' => e = .returned (.agg (ints .u8 (hmc (kf a.f a.n) b.f b.n) 32).toArray) ∧ Below w.heap.size w w' := by
  have H0 : Hid (_ ∧ _) := ⟨hm, Below.refl w.heap.size w⟩
  clear hm
  have RA : Hid (a.rs w) := hRa
  have RB : Hid (b.rs w) := hRb
  clear hRa hRb
  go_enter Tryd.func32, Tryd.ntmps32
  refine wp_seq ?_
  refine walk_seqA 1 [.made (ints .u8 (fun _ => 0) 32) 25] (sB H0) ?ho1 ?he1
  case ho1 => exact ak (fun γ => ⟨rfl, fun w' => ex_mk25 rfl⟩) trivial
  intro γ w1 l hM hl
  have H1 : Hid (Mm w1 [(γ 0, ints .u8 (fun _ => 0) 32), (0, ints .u32 fT 8), (1, ints .u32 kT 64)] ∧ _) := growB H0 hM (Nat.le_refl _) hl [0] rfl (by decide)
  have o1_0 := ownB H0 hM (Nat.le_refl _) hl (i := 0) rfl
  clear hM hl l
  generalize γ 0 = γ1_0 at H1 o1_0 ⊢
  clear γ
  refine rest0 rfl (then_normal (wp_seq ?_))
  refine (walk_seq) 3 [.quiet (.slice a.p a.n a.cp), .call (.agg (ints .u8 (kf a.f a.n) 64).toArray), .quiet (.slice b.p b.n b.cp)] (fun u' => Mm u' [(γ1_0, ints .u8 (fun _ => 0) 32), (0, ints .u32 fT 8), (1, ints .u32 kT 64)] ∧ (a.rs u' ∧ b.rs u')) ?pre2 ?F2 ?hpre2 (fun γ => ?hF2) (by kernel_rfl) ?hL2 ?hS2 ?ho2 ?he2
  case hpre2 => simp only [tk, tz]; rfl
  case hF2 => simp only [fill, Kind.val, Act.put, sa, sz, ss]; rfl
  case hL2 => exact trivial
  case hS2 => exact fun w' hb => ⟨H1.out.1.below hb, ⟨RA.out.below (H1.out.2.trans (hb.mono H1.out.2.size)), RB.out.below (H1.out.2.trans (hb.mono H1.out.2.size))⟩⟩
  case ho2 =>
    refine ak (fun _ => ⟨rfl, fun _ _ => rfl⟩) ?_
    refine ak (fun γ => ⟨rfl, fun w' hX => have h := hX.1; ⟨56, #[.slice a.p a.n a.cp], exec_call rfl call56 rfl (mpn rfl), kfilled_any a.gb a.o a.n a.cp a.p a.f ha.bv ha.le hna w' (h.two 1 2 rfl rfl (by decide)) hX.2.1⟩⟩) ?_
    refine ak (fun _ => ⟨rfl, fun _ _ => rfl⟩) ?_
    exact trivial
  intro γ w2 l hM hl
  have H2 := keepB H1 hM.below
  clear hM hl l H1 γ
  refine rest_at (l := [3, 4, 5]) rfl ?_
  refine rest_set (d := 8) (v := .slice (some ⟨w2.heap.size, 0, none⟩) 1 1) (w' := (w2.alloc (.cells ([Value.slice b.p b.n b.cp] : List Value).toArray 22))) rfl rfl rfl (ex_bsL rfl rfl) ?_
  simp only [Act.put, sa, sz, ss]
  have o_γs3 : Hid (w.heap.size ≤ w2.heap.size) := H2.out.2.size
  have H3 : Hid (Mm (w2.alloc (.cells ([Value.slice b.p b.n b.cp] : List Value).toArray 22)) ((w2.heap.size, [Value.slice b.p b.n b.cp]) :: [(γ1_0, ints .u8 (fun _ => 0) 32), (0, ints .u32 fT 8), (1, ints .u32 kT 64)]) ∧ Below w.heap.size w (w2.alloc (.cells ([Value.slice b.p b.n b.cp] : List Value).toArray 22))) := ⟨H2.out.1.alloc _ 22 rfl, H2.out.2.trans (((Below.refl _ _).alloc (Nat.le_refl _) _).mono H2.out.2.size)⟩
  clear H2
  generalize hgw : (w2.alloc (.cells ([Value.slice b.p b.n b.cp] : List Value).toArray 22)) = w3 at H3 ⊢
  clear hgw
  generalize w2.heap.size = γs3 at o_γs3 H3 ⊢
  refine rest_enter (d := 9) (R := fun vv w' => vv = .agg (ints .u8 (hmc (kf a.f a.n) b.f b.n) 32).toArray ∧ Below w3.heap.size w3 w') rfl rfl rfl (exec_call (args := #[.agg (ints .u8 (kf a.f a.n) 64).toArray, .slice (some ⟨γs3, 0, none⟩) 1 1]) rfl call55 rfl (mpn rfl)) (Calls.mono (code_any (kf a.f a.n) _ (fun _ => b) 1 1 (Lw.of _ hb hnb) w3 (H3.out.1.two 2 3 rfl rfl (by decide)) (Ls.one (H3.out.1.one 0 rfl) 0 rfl (RB.out.below H3.out.2))) (fun e w2 hh => ⟨_, hh.1, rfl, hh.2⟩)) ?_
  rintro _ w4 ⟨rfl, hb⟩
  have H4 : Hid (_ ∧ _) := ⟨H3.out.1.below hb, H3.out.2.trans (hb.mono H3.out.2.size)⟩
  clear hb H3
  simp only [Act.put, sa, sz, ss]
  refine rest_store rfl rfl rfl (ex_storeT (vs := ints .u8 (hmc (kf a.f a.n) b.f b.n) 32) H4.out.1 1 rfl rfl rfl rfl (by rw [ints_len]; exact Tryd.sizeOf25) (ints_all _ _ _) (by simp [ints_len])) ?_
  have H5 : Hid (Mm (w4.setCells γ1_0 0 (ints .u8 (hmc (kf a.f a.n) b.f b.n) 32)) [(γs3, [Value.slice b.p b.n b.cp]), (γ1_0, ints .u8 (hmc (kf a.f a.n) b.f b.n) 32), (0, ints .u32 fT 8), (1, ints .u32 kT 64)] ∧ Below w.heap.size w (w4.setCells γ1_0 0 (ints .u8 (hmc (kf a.f a.n) b.f b.n) 32))) := ⟨by
    have h := H4.out.1.put 1 (off := 0) (vs := ints .u8 (hmc (kf a.f a.n) b.f b.n) 32) rfl (by simp [ints_len])
    rw [ints_patch0 _ _ _ _] at h
    exact h, below_setCells _ o1_0.out _ _ _ H4.out.2⟩
  clear H4
  generalize hgw : World.setCells _ _ _ _ = w5 at H5 ⊢
  clear hgw
  refine rest_nil (then_normal (wp_ret ?_))
  repeat (first | refine then_ret ?_ | refine block_ret ?_)
  have hf0 := var_T H5.out.1 1 rfl Tryd.isAgg25 Tryd.sizeOf25 (ints_len _ _ _)
  refine bodyPost_ret (v := .agg (ints .u8 (hmc (kf a.f a.n) b.f b.n) 32).toArray) (by simp [results, Tryd.results32, asAddr, hf0]) rfl ?_
  exact ⟨rfl, H5.out.2⟩
set_option maxHeartbeats 1000000 in
set_option maxRecDepth 100000 in
theorem Extract_any (a b : Pt8) (ha : Pok a) (hb : Pok b) (hna : a.n < 4611686018427387904) (hnb : b.n ≤ 1048576) (w : World) (hm : Mm w [(0, ints .u32 fT 8), (1, ints .u32 kT 64)]) (hRa : a.rs w) (hRb : b.rs w) :
    Calls Tryd.prog 34 #[.slice a.p a.n a.cp, .slice b.p b.n b.cp] w fun e w' => e = .returned (.agg (ints .u8 (hmc (kf a.f a.n) b.f b.n) 32).toArray) ∧ Below w.heap.size w w' := by
  have H0 : Hid (_ ∧ _) := ⟨hm, Below.refl w.heap.size w⟩
  clear hm
  have RA : Hid (a.rs w) := hRa
  have RB : Hid (b.rs w) := hRb
  clear hRa hRb
  go_enter Tryd.func34, Tryd.ntmps34
  refine wp_seq ?_
  refine walk_seqA 1 [.made (ints .u8 (fun _ => 0) 32) 25] (sB H0) ?ho1 ?he1
  case ho1 => exact ak (fun γ => ⟨rfl, fun w' => ex_mk25 rfl⟩) trivial
  intro γ w1 l hM hl
  have H1 : Hid (Mm w1 [(γ 0, ints .u8 (fun _ => 0) 32), (0, ints .u32 fT 8), (1, ints .u32 kT 64)] ∧ _) := growB H0 hM (Nat.le_refl _) hl [0] rfl (by decide)
  have o1_0 := ownB H0 hM (Nat.le_refl _) hl (i := 0) rfl
  clear hM hl l
  generalize γ 0 = γ1_0 at H1 o1_0 ⊢
  clear γ
  refine rest0 rfl (then_normal (wp_seq ?_))
  refine (walk_seq) 3 [.quiet (.slice a.p a.n a.cp), .quiet (.slice b.p b.n b.cp), .call (.agg (ints .u8 (hmc (kf a.f a.n) b.f b.n) 32).toArray)] (fun u' => Mm u' [(γ1_0, ints .u8 (fun _ => 0) 32), (0, ints .u32 fT 8), (1, ints .u32 kT 64)] ∧ (a.rs u' ∧ b.rs u')) ?pre2 ?F2 ?hpre2 (fun γ => ?hF2) (by kernel_rfl) ?hL2 ?hS2 ?ho2 ?he2
  case hpre2 => simp only [tk, tz]; rfl
  case hF2 => simp only [fill, Kind.val, Act.put, sa, sz, ss]; rfl
  case hL2 => exact trivial
  case hS2 => exact fun w' hb => ⟨H1.out.1.below hb, ⟨RA.out.below (H1.out.2.trans (hb.mono H1.out.2.size)), RB.out.below (H1.out.2.trans (hb.mono H1.out.2.size))⟩⟩
  case ho2 =>
    refine ak (fun _ => ⟨rfl, fun _ _ => rfl⟩) ?_
    refine ak (fun _ => ⟨rfl, fun _ _ => rfl⟩) ?_
    refine ak (fun γ => ⟨rfl, fun w' hX => have h := hX.1; ⟨32, #[.slice a.p a.n a.cp, .slice b.p b.n b.cp], exec_call rfl call32 rfl (mpn rfl), Code_any a b ha hb hna hnb w' (h.two 1 2 rfl rfl (by decide)) hX.2.1 hX.2.2⟩⟩) ?_
    exact trivial
  intro γ w2 l hM hl
  have H2 := keepB H1 hM.below
  clear hM hl l H1 γ
  refine rest_at (l := [3]) rfl ?_
  refine rest_store rfl rfl rfl (ex_storeT (vs := ints .u8 (hmc (kf a.f a.n) b.f b.n) 32) H2.out.1 0 rfl rfl rfl rfl (by rw [ints_len]; exact Tryd.sizeOf25) (ints_all _ _ _) (by simp [ints_len])) ?_
  have H3 : Hid (Mm (w2.setCells γ1_0 0 (ints .u8 (hmc (kf a.f a.n) b.f b.n) 32)) [(γ1_0, ints .u8 (hmc (kf a.f a.n) b.f b.n) 32), (0, ints .u32 fT 8), (1, ints .u32 kT 64)] ∧ Below w.heap.size w (w2.setCells γ1_0 0 (ints .u8 (hmc (kf a.f a.n) b.f b.n) 32))) := ⟨by
    have h := H2.out.1.put 0 (off := 0) (vs := ints .u8 (hmc (kf a.f a.n) b.f b.n) 32) rfl (by simp [ints_len])
    rw [ints_patch0 _ _ _ _] at h
    exact h, below_setCells _ o1_0.out _ _ _ H2.out.2⟩
  clear H2
  generalize hgw : World.setCells _ _ _ _ = w3 at H3 ⊢
  clear hgw
  refine rest_nil (then_normal (wp_ret ?_))
  repeat (first | refine then_ret ?_ | refine block_ret ?_)
  have hf0 := var_T H3.out.1 0 rfl Tryd.isAgg25 Tryd.sizeOf25 (ints_len _ _ _)
  refine bodyPost_ret (v := .agg (ints .u8 (hmc (kf a.f a.n) b.f b.n) 32).toArray) (by simp [results, Tryd.results34, asAddr, hf0]) rfl ?_
  exact ⟨rfl, H3.out.2⟩
theorem Pok.at {q : Pt8} (h : Pok q) (hn : 0 < q.n) : q.p = some ⟨q.gb, q.o, none⟩ := by
  have e := h.bv.1 hn
  injection e
section
variable {ρ : Operand → Value} {o : Oper} {x y : Operand} {g off m c j a : Nat} {w : World}
end
end Rg
end Go.Proofs.YtolflfjfegngnaaDoor
end
