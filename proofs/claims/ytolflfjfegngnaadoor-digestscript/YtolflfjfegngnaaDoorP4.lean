/- Texts of the proof, joined. -/
import Derived.Test.YtolflfjfegngnaaDoorP3
import Derived.Laws.OwnMore
import Derived.Lib.Bytes
import Derived.Maps.AppendAt
section
namespace Go.Proofs.YtolflfjfegngnaaDoor
open Go.RowKit
namespace Rg
set_option maxRecDepth 100000
section
variable {ρ : Operand → Value} {o : Oper} {x y : Operand} {a b : Nat} {w : World}
theorem ex_quo3 (h : 0 < b) (ha : a < 4611686018427387904) (ho : o.op = .binOp .quo 3 x y 3) (hx : ρ x = .int .i64 ((a : Nat) : Int)) (hy : ρ y = .int .i64 ((b : Nat) : Int)) : (execOp ρ o).run Tryd.prog w = .ok (.value (.int .i64 ((a / b : Nat) : Int))) w := by
  have hle : a / b ≤ a := Nat.div_le_self _ _
  simp only [execOp, ho, hx, hy]
  clear ho hx hy
  have hw : IntKind.i64.wrap ((a : Int) / (b : Int)) = (a : Int) / (b : Int) := by
    rw [← Int.natCast_ediv]
    generalize a / b = k at hle ⊢
    rw [IntKind.wrap_i64]
    omega
  go_simp
  omega
theorem ex_rem3 (h : 0 < b) (ha : a < 4611686018427387904) (ho : o.op = .binOp .rem 3 x y 3) (hx : ρ x = .int .i64 ((a : Nat) : Int)) (hy : ρ y = .int .i64 ((b : Nat) : Int)) : (execOp ρ o).run Tryd.prog w = .ok (.value (.int .i64 ((a % b : Nat) : Int))) w := by
  have _ := ha
  simp only [execOp, ho, hx, hy]
  clear ho hx hy
  go_simp
  rw [if_neg (by omega), Int.tmod_eq_emod_of_nonneg (by omega)]
end
theorem Rs.add {g o n : Nat} {f : Nat → Nat} {w : World} (h : Rs g o n f w) (j : Nat) (hj : j < n) : w.cell? ((⟨g, o, none⟩ : Addr).add j) = some (Z8 (f j)) := by
  rw [show (⟨g, o, none⟩ : Addr).add j = ⟨g, o + j, none⟩ by unfold Addr.add; split <;> simp_all]
  exact h.at_ j hj
/-- Bytes at an address. -/
structure Ra (a : Addr) (n : Nat) (f : Nat → Nat) (w : World) : Prop where
  lt : 0 < n → a.block < w.heap.size
  at_ : ∀ j, j < n → w.cell? (a.add j) = some (Z8 (f j))
theorem add_block (a : Addr) (j : Nat) : (a.add j).block = a.block := by unfold Addr.add; split <;> rfl
theorem Ra.below {a : Addr} {n : Nat} {f : Nat → Nat} {w w' : World} (h : Ra a n f w) (hb : Below w.heap.size w w') : Ra a n f w' :=
  ⟨fun hn => Nat.lt_of_lt_of_le (h.lt hn) hb.size, fun j hj => by rw [hb.cell (p := a.add j) (by rw [add_block]; exact h.lt (by omega))]; exact h.at_ j hj⟩
theorem Rs.kp2 {g gb o n : Nat} {f : Nat → Nat} {w w' : World} (h : Rs gb o n f w) (k : Kp g w w') (ne : gb ≠ g) : Rs gb o n f w' := by
  have s : Src g gb o n f w := ⟨h.lt, fun _ => ne, h.at_⟩
  exact ⟨fun hn => Nat.lt_of_lt_of_le (h.lt hn) k.size, fun i hi => s.kp k i hi⟩
/-- The message with its ending, as the document has it. -/
def zc (n : Nat) : Nat := (120 - (n + 1) % 64) % 64
def pn (n : Nat) : Nat := n + 1 + zc n + 8
def nb (n : Nat) : Nat := pn n / 64
def pz (f : Nat → Nat) (n : Nat) : Nat → Nat := fun j => if j < n then f j else if j = n then 128 else 0
def pd (f : Nat → Nat) (n : Nat) : Nat → Nat := ct (pz f n) (n + 1 + zc n) (b8 (c64 (8 * c64 n)))
theorem pz_f (f : Nat → Nat) (n j : Nat) (h : j < n) : f j = pz f n j := by unfold pz; rw [if_pos h]
theorem pz_n (f : Nat → Nat) (n : Nat) : 128 = pz f n n := by unfold pz; rw [if_neg (by omega), if_pos rfl]
theorem pz_z (f : Nat → Nat) (n k : Nat) : 0 = pz f n (n + 1 + k) := by unfold pz; rw [if_neg (by omega), if_neg (by omega)]
theorem nb_pn (n : Nat) : 64 * nb n = pn n := by unfold nb pn zc; omega
def hd (P : Nat → Nat) : Nat → Nat → Nat
  | 0 => fT
  | k + 1 => db (hd P k) kT P (64 * k)
def ob (h : Nat → Nat) : Nat → Nat → Nat
  | 0 => fun _ => 0
  | i + 1 => up (ob h i) i (sr (h (i / 4)) (24 - (8 * (i % 4))) % 256)
/-- The digest of n bytes, as the document has it. -/
def ds (f : Nat → Nat) (n : Nat) : Nat → Nat := ob (hd (pd f n) (nb n)) 32
theorem call47 : ∀ args w, (callFunc 47 args).run Tryd.prog w = .ok (.enter 47 args) w := by intro args w; go_simp
theorem call48 : ∀ args w, (callFunc 48 args).run Tryd.prog w = .ok (.enter 48 args) w := by intro args w; go_simp
theorem call49 : ∀ args w, (callFunc 49 args).run Tryd.prog w = .ok (.enter 49 args) w := by intro args w; go_simp
theorem call50 : ∀ args w, (callFunc 50 args).run Tryd.prog w = .ok (.enter 50 args) w := by intro args w; go_simp
set_option maxHeartbeats 4000000 in
set_option maxRecDepth 100000 in
theorem dSum_some (f : Nat → Nat) (n : Nat) (hn : n ≤ 1048576) (a : Addr) (cp : Nat) (w : World) (hR : Ra a n f w) :
    Calls Tryd.prog 15 #[.slice (some a) n cp] w fun e w' => e = .returned (.agg (ints .u8 (ds f n) 32).toArray) ∧ Below w.heap.size w w' := by
  have H0 : Hid (_ ∧ _) := ⟨Mm.nil w, Below.refl w.heap.size w⟩
  have R0 : Hid (Ra a n f w) := hR
  clear hR
  have hz : zc n = (120 - (n + 1) % 64) % 64 := rfl
  have hN : pn n = n + 1 + zc n + 8 := rfl
  have hM := nb_pn n
  go_enter Tryd.func15, Tryd.ntmps15
  refine wp_seq ?_
  refine walk_seqA 1 [.made (ints .u8 (fun _ => 0) 32) 25] (sB H0) ?ho1 ?he1
  case ho1 => exact ak (fun γ => ⟨rfl, fun w' => ex_mk25 rfl⟩) trivial
  intro γ w1 l hM hl
  have H1 : Hid (Mm w1 [(γ 0, ints .u8 (fun _ => 0) 32)] ∧ _) := growB H0 hM (Nat.le_refl _) hl [0] rfl (by decide)
  have o1_0 := ownB H0 hM (Nat.le_refl _) hl (i := 0) rfl
  clear hM hl l
  generalize γ 0 = γ1_0 at H1 o1_0 ⊢
  clear γ
  refine rest0 rfl (then_normal (wp_seq ?_))
  refine walk_seqB 0 [] H1 ?ho2 ?he2
  case ho2 => exact trivial
  intro _ w2 H2
  clear H1
  refine rest_at (l := [0, 1, 2, 3]) rfl ?_
  refine rest_set (d := 9) (v := .slice (some ⟨w2.heap.size, 0, none⟩) 0 0) (w' := (w2.alloc (.cells #[] 5))) rfl rfl rfl (ex_bs0 rfl) ?_
  simp only [Act.put, sa, sz, ss]
  have H3 : Hid (Mm (w2.alloc (.cells #[] 5)) [] ∧ Zo w w2.heap.size [(γ1_0, ints .u8 (fun _ => 0) 32)] (.slice (some ⟨w2.heap.size, 0, none⟩) 0 0) 0 f (w2.alloc (.cells #[] 5))) := ⟨Mm.nil _, Zo.made f H2.out.1 H2.out.2⟩
  clear H2
  generalize hgw : (w2.alloc (.cells #[] 5)) = w3 at H3 ⊢
  clear hgw
  generalize w2.heap.size = γb at H3 ⊢
  refine rest_set (d := 10) (v := .slice (some a) n cp) (w' := w3) rfl rfl rfl rfl ?_
  simp only [Act.put, sa, sz, ss]
  obtain ⟨v4, w4, hr, hZ⟩ := H3.out.2.app (a := a) n cp f ((R0.out.below H3.out.2.b).at_) (by omega) 22
  refine rest_set (d := 11) (v := v4) (w' := w4) rfl rfl rfl (ex_app rfl rfl rfl hr) ?_
  simp only [Act.put, sa, sz, ss]
  have H4 : Hid (Mm w4 [] ∧ Zo w γb [(γ1_0, ints .u8 (fun _ => 0) 32)] v4 n f w4) := ⟨Mm.nil _, by rw [Nat.zero_add] at hZ; exact hZ.cg (fun j _ => by unfold ct; rw [if_neg (by omega), Nat.sub_zero])⟩
  clear hr hZ H3
  refine rest_set (d := 3) (v := v4) (w' := w4) rfl rfl rfl rfl ?_
  simp only [Act.put, sa, sz, ss]
  refine rest_nil (then_normal (wp_seq ?_))
  refine walk_seqA 1 [.quiet (v4)] (sB H4) ?ho3 ?he3
  case ho3 => exact ak (fun _ => ⟨rfl, fun _ _ => rfl⟩) trivial
  intro γ w5 l hM hl
  have M5 : Mm w5 [] := H4.out.1.grow hM (Nat.le_refl _) hl [] rfl (by decide)
  have B5 : Zo w γb [(γ1_0, ints .u8 (fun _ => 0) 32)] v4 n f w5 := Zo.step H4.out.2 (hM.below)
  clear hM hl l H4
  clear γ
  have H5 : Hid (_ ∧ _) := ⟨M5, B5⟩
  clear M5 B5
  refine rest_at (l := [1, 2, 3]) rfl ?_
  refine rest_set (d := 13) (v := .slice (some ⟨w5.heap.size, 0, none⟩) 1 1) (w' := (w5.alloc (.cells ([Z8 128] : List Value).toArray 5))) rfl rfl rfl (ex_bs1 (a := 128) rfl rfl) ?_
  simp only [Act.put, sa, sz, ss]
  have H6 : Hid (Mm (w5.alloc (.cells ([Z8 128] : List Value).toArray 5)) [] ∧ Zo w γb [(γ1_0, ints .u8 (fun _ => 0) 32)] v4 n f (w5.alloc (.cells ([Z8 128] : List Value).toArray 5))) := ⟨Mm.nil _, Zo.step H5.out.2 ((Below.refl _ _).alloc (Nat.le_refl _) _)⟩
  have c6 := cell_one w5 128
  have C6 : Hid _ := c6
  clear c6 H5
  generalize hgw : (w5.alloc (.cells ([Z8 128] : List Value).toArray 5)) = w6 at H6 C6 ⊢
  clear hgw
  generalize w5.heap.size = γs6 at C6 ⊢
  obtain ⟨v7, w7, hr, hZ⟩ := H6.out.2.app (a := ⟨γs6, 0, none⟩) 1 1 (fun _ => 128) (C6.out) (by omega) 22
  refine rest_set (d := 14) (v := v7) (w' := w7) rfl rfl rfl (ex_app rfl rfl rfl hr) ?_
  simp only [Act.put, sa, sz, ss]
  have H7 : Hid (Mm w7 [] ∧ Zo w γb [(γ1_0, ints .u8 (fun _ => 0) 32)] v7 (n + 1 + 0) (pz f n) w7) := ⟨Mm.nil _, hZ.cg (ct_snoc (pz_n f n) (pz_f f n))⟩
  clear hr hZ H6
  refine rest_set (d := 3) (v := v7) (w' := w7) rfl rfl rfl rfl ?_
  simp only [Act.put, sa, sz, ss]
  refine rest_nil (then_normal ?_)
  refine wp_seq (wp_block ?_)
  refine loop_ghost (α := Nat) (fun k a' w' => ∃ s0 : Nat → Value, a' = ⟨#[.slice (some a) n cp, undef, PT γ1_0 0, s0 3, undef, undef, undef, undef, undef, .slice (some ⟨γb, 0, none⟩) 0 0, .slice (some a) n cp, v4, v4, .slice (some ⟨γs6, 0, none⟩) 1 1, v7, s0 15, s0 16, s0 17, s0 18, s0 19, s0 20, s0 21, undef, undef, undef, undef, undef, undef, undef, undef, undef, undef, undef, undef, undef, undef, undef, undef, undef, undef, undef, undef, undef, undef, undef, undef, undef, undef, undef, undef, undef, undef, undef, undef, undef, undef, undef, undef, undef], []⟩ ∧ (Mm w' [] ∧ Zo w γb [(γ1_0, ints .u8 (fun _ => 0) 32)] (s0 3) (n + 1 + k) (pz f n) w') ∧ k ≤ zc n) (fun k => zc n - k) 0 ?st0 ?rd0
  case st0 => exact ⟨(slotfn [undef, undef, undef, v7, undef, undef, undef, undef, undef, undef, undef, undef, undef, undef, undef, undef, undef, undef, undef, undef, undef, undef]), rfl, ⟨H7.out.1, H7.out.2⟩, by omega⟩
  intro k a' w8 hI
  obtain ⟨s0, rfl, hMB, hk0⟩ := hI
  have H8 : Hid (_ ∧ _) := hMB
  clear hMB H7
  by_cases hlt : k < zc n
  · have hrd : True := trivial
    clear hrd
    obtain ⟨g3, cap3, e3⟩ := H8.out.2.form (by omega)
    rw [e3] at H8 ⊢
    clear e3
    refine wp_seq (wp_seq ?_)
    refine walk_seqA 4 [.quiet (.slice (some ⟨g3, 0, none⟩) (n + 1 + k) cap3), .quiet (.int .i64 (((n + 1 + k) : Nat) : Int)), .quiet (.int .i64 (((n + 1 + k) % 64 : Nat) : Int)), .quiet (.bool true)] (sB H8) ?ho4 ?he4
    case ho4 => exact ak (fun _ => ⟨rfl, fun _ _ => rfl⟩) (ak (by refine fun γ => ⟨rfl, fun w' h => ?_⟩; clear h; go_simp) (ak (fun γ => ⟨rfl, fun w' _ => ex_rem3 (a := (n + 1 + k)) (b := 64) (by omega) (by omega) rfl rfl rfl⟩) (ak (by refine fun γ => ⟨rfl, fun w' h => ?_⟩; clear h; go_simp <;> omega) trivial)))
    intro γ w9 l hM hl
    have M9 : Mm w9 [] := H8.out.1.grow hM (Nat.le_refl _) hl [] rfl (by decide)
    have B9 : Zo w γb [(γ1_0, ints .u8 (fun _ => 0) 32)] (.slice (some ⟨g3, 0, none⟩) (n + 1 + k) cap3) (n + 1 + k) (pz f n) w9 := Zo.step H8.out.2 (hM.below)
    clear hM hl l H8
    clear γ
    have H9 : Hid (_ ∧ _) := ⟨M9, B9⟩
    clear M9 B9
    refine rest0 rfl (then_normal (wp_cond_true rfl ?_))
    refine wp_skip (then_normal (wp_block ?_))
    refine walk_seqA 1 [.quiet (.slice (some ⟨g3, 0, none⟩) (n + 1 + k) cap3)] (sB H9) ?ho5 ?he5
    case ho5 => exact ak (fun _ => ⟨rfl, fun _ _ => rfl⟩) trivial
    intro γ w10 l hM hl
    have M10 : Mm w10 [] := H9.out.1.grow hM (Nat.le_refl _) hl [] rfl (by decide)
    have B10 : Zo w γb [(γ1_0, ints .u8 (fun _ => 0) 32)] (.slice (some ⟨g3, 0, none⟩) (n + 1 + k) cap3) (n + 1 + k) (pz f n) w10 := Zo.step H9.out.2 (hM.below)
    clear hM hl l H9
    clear γ
    have H10 : Hid (_ ∧ _) := ⟨M10, B10⟩
    clear M10 B10
    refine rest_at (l := [1, 2, 3]) rfl ?_
    refine rest_set (d := 20) (v := .slice (some ⟨w10.heap.size, 0, none⟩) 1 1) (w' := (w10.alloc (.cells ([Z8 0] : List Value).toArray 5))) rfl rfl rfl (ex_bs1 (a := 0) rfl rfl) ?_
    simp only [Act.put, sa, sz, ss]
    have H11 : Hid (Mm (w10.alloc (.cells ([Z8 0] : List Value).toArray 5)) [] ∧ Zo w γb [(γ1_0, ints .u8 (fun _ => 0) 32)] (.slice (some ⟨g3, 0, none⟩) (n + 1 + k) cap3) (n + 1 + k) (pz f n) (w10.alloc (.cells ([Z8 0] : List Value).toArray 5))) := ⟨Mm.nil _, Zo.step H10.out.2 ((Below.refl _ _).alloc (Nat.le_refl _) _)⟩
    have c11 := cell_one w10 0
    have C11 : Hid _ := c11
    clear c11 H10
    generalize hgw : (w10.alloc (.cells ([Z8 0] : List Value).toArray 5)) = w11 at H11 C11 ⊢
    clear hgw
    generalize w10.heap.size = γs11 at C11 ⊢
    obtain ⟨v12, w12, hr, hZ⟩ := H11.out.2.app (a := ⟨γs11, 0, none⟩) 1 1 (fun _ => 0) (C11.out) (by omega) 22
    refine rest_set (d := 21) (v := v12) (w' := w12) rfl rfl rfl (ex_app rfl rfl rfl hr) ?_
    simp only [Act.put, sa, sz, ss]
    have H12 : Hid (Mm w12 [] ∧ Zo w γb [(γ1_0, ints .u8 (fun _ => 0) 32)] v12 (n + 1 + (k + 1)) (pz f n) w12) := ⟨Mm.nil _, hZ.cg (ct_snoc (pz_z f n k))⟩
    clear hr hZ H11
    refine rest_set (d := 3) (v := v12) (w' := w12) rfl rfl rfl rfl ?_
    simp only [Act.put, sa, sz, ss]
    refine rest_nil (block_normal (then_normal ?_))
    exact ⟨k + 1, ⟨(slotfn [undef, undef, undef, v12, undef, undef, undef, undef, undef, undef, undef, undef, undef, undef, undef, .slice (some ⟨g3, 0, none⟩) (n + 1 + k) cap3, .int .i64 (((n + 1 + k) : Nat) : Int), .int .i64 (((n + 1 + k) % 64 : Nat) : Int), .bool true, .slice (some ⟨g3, 0, none⟩) (n + 1 + k) cap3, .slice (some ⟨γs11, 0, none⟩) 1 1, v12]), rfl, ⟨H12.out.1, H12.out.2⟩, by omega⟩, by omega⟩
  have hkN : k = zc n := by omega
  subst hkN
  obtain ⟨g3, cap3, e3⟩ := H8.out.2.form (by omega)
  rw [e3] at H8 ⊢
  clear e3
  refine wp_seq (wp_seq ?_)
  refine walk_seqA 4 [.quiet (.slice (some ⟨g3, 0, none⟩) (n + 1 + zc n) cap3), .quiet (.int .i64 (((n + 1 + zc n) : Nat) : Int)), .quiet (.int .i64 (((n + 1 + zc n) % 64 : Nat) : Int)), .quiet (.bool false)] (sB H8) ?ho6 ?he6
  case ho6 => exact ak (fun _ => ⟨rfl, fun _ _ => rfl⟩) (ak (by refine fun γ => ⟨rfl, fun w' h => ?_⟩; clear h; go_simp) (ak (fun γ => ⟨rfl, fun w' _ => ex_rem3 (a := (n + 1 + zc n)) (b := 64) (by omega) (by omega) rfl rfl rfl⟩) (ak (by refine fun γ => ⟨rfl, fun w' h => ?_⟩; clear h; go_simp <;> omega) trivial)))
  intro γ w13 l hM hl
  have M13 : Mm w13 [] := H8.out.1.grow hM (Nat.le_refl _) hl [] rfl (by decide)
  have B13 : Zo w γb [(γ1_0, ints .u8 (fun _ => 0) 32)] (.slice (some ⟨g3, 0, none⟩) (n + 1 + zc n) cap3) (n + 1 + zc n) (pz f n) w13 := Zo.step H8.out.2 (hM.below)
  clear hM hl l H8
  clear γ
  have H13 : Hid (_ ∧ _) := ⟨M13, B13⟩
  clear M13 B13
  refine rest0 rfl (then_normal (wp_cond_false rfl ?_))
  refine wp_exit ?_
  repeat refine then_exit ?_
  refine block_exit ?_
  refine then_normal (wp_seq ?_)
  refine walk_seqA 5 [.quiet (.slice (some ⟨g3, 0, none⟩) (n + 1 + zc n) cap3), .quiet (.slice (some a) n cp), .quiet (.int .i64 ((n : Nat) : Int)), .quiet (U (c64 n)), .quiet (U (c64 (8 * c64 n)))] (sB H13) ?ho7 ?he7
  case ho7 => exact ak (fun _ => ⟨rfl, fun _ _ => rfl⟩) (ak (fun _ => ⟨rfl, fun _ _ => rfl⟩) (ak (by refine fun γ => ⟨rfl, fun w' h => ?_⟩; clear h; go_simp) (ak (fun γ => ⟨rfl, fun w' _ => ex_cv3_56 (a := n) rfl rfl⟩) (ak (fun γ => ⟨rfl, fun w' _ => ex_mul64 rfl rfl rfl⟩) trivial))))
  intro γ w14 l hM hl
  have M14 : Mm w14 [] := H13.out.1.grow hM (Nat.le_refl _) hl [] rfl (by decide)
  have B14 : Zo w γb [(γ1_0, ints .u8 (fun _ => 0) 32)] (.slice (some ⟨g3, 0, none⟩) (n + 1 + zc n) cap3) (n + 1 + zc n) (pz f n) w14 := Zo.step H13.out.2 (hM.below)
  clear hM hl l H13
  clear γ
  have H14 : Hid (_ ∧ _) := ⟨M14, B14⟩
  clear M14 B14
  refine rest_at (l := [5, 6, 7]) rfl ?_
  refine rest_enter (d := 27) rfl rfl rfl (exec_call (args := #[U (c64 (8 * c64 n))]) rfl call47 rfl (mpn rfl)) ((Calls.mono (Eight_any (c64 (8 * (c64 n))) w14) (fun e w2 hh => by obtain ⟨hb, g, cap, he, hR⟩ := hh; exact ⟨_, he, hb, g, cap, rfl, hR⟩) : Calls Tryd.prog 47 #[U (c64 (8 * (c64 n)))] w14 (fun e w' => ∃ v, e = .returned v ∧ (Below w14.heap.size w14 w' ∧ ∃ g cap, v = .slice (some ⟨g, 0, none⟩) 8 cap ∧ Rs g 0 8 (b8 (c64 (8 * (c64 n)))) w')))) ?_
  rintro _ w15 ⟨hb, g8, cap8, rfl, hR8⟩
  have H15 : Hid (Mm w15 [] ∧ Zo w γb [(γ1_0, ints .u8 (fun _ => 0) 32)] (.slice (some ⟨g3, 0, none⟩) (n + 1 + zc n) cap3) (n + 1 + zc n) (pz f n) w15) := ⟨Mm.nil _, Zo.step H14.out.2 hb⟩
  have R8 : Hid _ := hR8
  clear hb hR8 H14
  simp only [Act.put, sa, sz, ss]
  obtain ⟨v16, w16, hr, hZ⟩ := H15.out.2.app (a := ⟨g8, 0, none⟩) 8 cap8 (b8 (c64 (8 * (c64 n)))) (R8.out.add) (by omega) 22
  refine rest_set (d := 28) (v := v16) (w' := w16) rfl rfl rfl (ex_app rfl rfl rfl hr) ?_
  simp only [Act.put, sa, sz, ss]
  have H16 : Hid (Mm w16 [] ∧ Zo w γb [(γ1_0, ints .u8 (fun _ => 0) 32)] v16 (pn n) (pd f n) w16) := ⟨Mm.nil _, hZ⟩
  clear hr hZ H15
  refine rest_set (d := 3) (v := v16) (w' := w16) rfl rfl rfl rfl ?_
  simp only [Act.put, sa, sz, ss]
  refine rest_nil ?_
  obtain ⟨g9, cap9, e9⟩ := H16.out.2.form (by omega)
  rw [e9] at H16 ⊢
  have HB : Hid _ := H16.out.2.b
  have HM := H16.out.2.m
  have HR : Hid (Rs g9 0 (pn n) (pd f n) w16) := H16.out.2.rs
  have HN : Hid (g9 ≠ γ1_0) := (by have a1 := (World.ownsRow.lt H16.out.2.own g9 rfl).1; have a2 := H16.out.2.lt _ (List.mem_singleton.2 rfl); intro e; have a3 : γ1_0 < γb := a2; omega : g9 ≠ γ1_0)
  clear H16 e9
  generalize w16 = w at HB HM HR ⊢
  have H17 : Hid (_ ∧ _) := ⟨HM, Kp.refl γ1_0 w⟩
  clear HM
  refine then_normal (wp_seq ?_)
  refine walk_seqA 3 [.call (.agg (ints .u32 fT 8).toArray), .made (ints .u32 (fun _ => 0) 8) 52, .laid 1 (ints .u32 (fun _ => 0) 8) (ints .u32 fT 8)] (sB H17) ?ho8 ?he8 (hL := ?hL8)
  case hL8 => exact ⟨⟨_, rfl⟩, trivial⟩
  case ho8 => exact ak (fun γ => ⟨rfl, fun w' h => ⟨48, #[], exec_call rfl call48 rfl (mpn rfl), begin_any w'⟩⟩) (ak (fun γ => ⟨rfl, fun w' => ex_mk52 rfl⟩) (ak (fun γ => ⟨rfl, rfl, (ints_len _ _ _).trans (ints_len _ _ _).symm, fun w' h => ex_laidI h Tryd.sizeOf52 rfl rfl rfl⟩) trivial))
  intro γ w18 l hM hl
  have H18 : Hid (Mm w18 [(γ 1, ints .u32 fT 8), (γ1_0, ints .u8 (fun _ => 0) 32)] ∧ _) := growK H17 hM (Nat.le_refl _) hl [1] rfl (by decide)
  have o8_1 := ownK H17 hM (Nat.le_refl _) hl (i := 1) rfl
  clear hM hl l H17
  generalize γ 1 = γ8_1 at H18 o8_1 ⊢
  clear γ
  refine rest0 rfl (then_normal (wp_seq ?_))
  refine walk_seqA 3 [.call (.agg (ints .u32 kT 64).toArray), .made (ints .u32 (fun _ => 0) 64) 78, .laid 1 (ints .u32 (fun _ => 0) 64) (ints .u32 kT 64)] (sB H18) ?ho9 ?he9 (hL := ?hL9)
  case hL9 => exact ⟨⟨_, rfl⟩, trivial⟩
  case ho9 => exact ak (fun γ => ⟨rfl, fun w' h => ⟨49, #[], exec_call rfl call49 rfl (mpn rfl), table_any w'⟩⟩) (ak (fun γ => ⟨rfl, fun w' => ex_mk78 rfl⟩) (ak (fun γ => ⟨rfl, rfl, (ints_len _ _ _).trans (ints_len _ _ _).symm, fun w' h => ex_laidI h Tryd.sizeOf78 rfl rfl rfl⟩) trivial))
  intro γ w19 l hM hl
  have H19 : Hid (Mm w19 [(γ 1, ints .u32 kT 64), (γ8_1, ints .u32 fT 8), (γ1_0, ints .u8 (fun _ => 0) 32)] ∧ _) := growK H18 hM (Nat.le_refl _) hl [1] rfl (by decide)
  have o9_1 := ownK H18 hM (Nat.le_refl _) hl (i := 1) rfl
  clear hM hl l H18
  generalize γ 1 = γ9_1 at H19 o9_1 ⊢
  clear γ
  refine rest0 rfl (then_normal (wp_seq (wp_seq ?_)))
  refine walk_seqA 1 [.quiet (.int .i64 0)] (sB H19) ?ho10 ?he10
  case ho10 => exact ak (fun _ => ⟨rfl, fun _ _ => rfl⟩) trivial
  intro γ w20 l hM hl
  have H20 := keepK H19 hM.below
  clear hM hl l H19 γ
  refine rest0 rfl (then_normal (wp_block ?_))
  refine loop_ghost (α := Nat) (fun k a' w' => ∃ s2 : Nat → Value, a' = ⟨#[.slice (some a) n cp, undef, PT γ1_0 0, .slice (some ⟨g9, 0, none⟩) (pn n) cap9, PT γ8_1 0, PT γ9_1 0, .int .i64 ((64 * k : Nat) : Int), undef, undef, .slice (some ⟨γb, 0, none⟩) 0 0, .slice (some a) n cp, v4, v4, .slice (some ⟨γs6, 0, none⟩) 1 1, v7, .slice (some ⟨g3, 0, none⟩) (n + 1 + zc n) cap3, .int .i64 (((n + 1 + zc n) : Nat) : Int), .int .i64 (((n + 1 + zc n) % 64 : Nat) : Int), .bool false, s0 19, s0 20, s0 21, .slice (some ⟨g3, 0, none⟩) (n + 1 + zc n) cap3, .slice (some a) n cp, .int .i64 ((n : Nat) : Int), U (c64 n), U (c64 (8 * c64 n)), .slice (some ⟨g8, 0, none⟩) 8 cap8, .slice (some ⟨g9, 0, none⟩) (pn n) cap9, .agg (ints .u32 fT 8).toArray, .agg (ints .u32 kT 64).toArray, s2 31, s2 32, s2 33, s2 34, s2 35, s2 36, s2 37, s2 38, s2 39, s2 40, s2 41, undef, undef, undef, undef, undef, undef, undef, undef, undef, undef, undef, undef, undef, undef, undef, undef, undef], []⟩ ∧ (Mm w' [(γ9_1, ints .u32 kT 64), (γ8_1, ints .u32 (hd (pd f n) k) 8), (γ1_0, ints .u8 (fun _ => 0) 32)] ∧ Kp γ1_0 w w') ∧ k ≤ nb n) (fun k => nb n - k) 0 ?st2 ?rd2
  case st2 => exact ⟨(slotfn [undef, undef, undef, undef, undef, undef, undef, undef, undef, undef, undef, undef, undef, undef, undef, undef, undef, undef, undef, undef, undef, undef, undef, undef, undef, undef, undef, undef, undef, undef, undef, undef, undef, undef, undef, undef, undef, undef, undef, undef, undef, undef]), rfl, ⟨H20.out.1, H20.out.2⟩, by omega⟩
  intro k a' w21 hI
  obtain ⟨s2, rfl, hMB, hk2⟩ := hI
  have H21 : Hid (_ ∧ _) := hMB
  clear hMB H20
  by_cases hltk : k < nb n
  · have hrd : True := trivial
    clear hrd
    refine wp_seq (wp_seq ?_)
    refine walk_seqA 4 [.quiet (.int .i64 ((64 * k : Nat) : Int)), .quiet (.slice (some ⟨g9, 0, none⟩) (pn n) cap9), .quiet (.int .i64 (((pn n) : Nat) : Int)), .quiet (.bool true)] (sB H21) ?ho11 ?he11
    case ho11 => exact ak (fun _ => ⟨rfl, fun _ _ => rfl⟩) (ak (fun _ => ⟨rfl, fun _ _ => rfl⟩) (ak (by refine fun γ => ⟨rfl, fun w' h => ?_⟩; clear h; go_simp) (ak (by refine fun γ => ⟨rfl, fun w' h => ?_⟩; clear h; go_simp <;> omega) trivial)))
    intro γ w22 l hM hl
    have H22 := keepK H21 hM.below
    clear hM hl l H21 γ
    refine rest0 rfl (then_normal (wp_cond_true rfl ?_))
    refine wp_skip (then_normal ?_)
    refine wp_seq (wp_block ?_)
    refine (walk_seq) 5 [.quiet (.agg (ints .u32 (hd (pd f n) k) 8).toArray), .quiet (.agg (ints .u32 kT 64).toArray), .quiet (.slice (some ⟨g9, 0, none⟩) (pn n) cap9), .quiet (.int .i64 ((64 * k : Nat) : Int)), .call (.agg (ints .u32 (db (hd (pd f n) k) kT (pd f n) (64 * k)) 8).toArray)] (fun u' => Mm u' [(γ9_1, ints .u32 kT 64), (γ8_1, ints .u32 (hd (pd f n) k) 8), (γ1_0, ints .u8 (fun _ => 0) 32)] ∧ Rs g9 0 (pn n) (pd f n) u') ?pre12 ?F12 ?hpre12 (fun γ => ?hF12) (by kernel_rfl) ?hL12 ?hS12 ?ho12 ?he12
    case hpre12 => simp only [tk, tz]; rfl
    case hF12 => simp only [fill, Kind.val, Act.put, sa, sz, ss]; rfl
    case hL12 => exact trivial
    case hS12 => exact fun w' hb => ⟨H22.out.1.below hb, HR.out.kp2 (H22.out.2.trans (hb)) HN.out⟩
    case ho12 =>
      refine ak (fun γ => ⟨rfl, fun w' hX => have h := hX.1; ex_loadT h 1 rfl rfl rfl Tryd.isAgg52 Tryd.sizeOf52 (ints_whole _ _ _) (ints_len _ _ _)⟩) ?_
      refine ak (fun γ => ⟨rfl, fun w' hX => have h := hX.1; ex_loadT h 0 rfl rfl rfl Tryd.isAgg78 Tryd.sizeOf78 (ints_whole _ _ _) (ints_len _ _ _)⟩) ?_
      refine ak (fun _ => ⟨rfl, fun _ _ => rfl⟩) ?_
      refine ak (fun _ => ⟨rfl, fun _ _ => rfl⟩) ?_
      refine ak (fun γ => ⟨rfl, fun w' hX => ⟨50, #[.agg (ints .u32 (hd (pd f n) k) 8).toArray, .agg (ints .u32 kT 64).toArray, .slice (some ⟨g9, 0, none⟩) (pn n) cap9, .int .i64 ((64 * k : Nat) : Int)], exec_call rfl call50 rfl (mpn rfl), block_any (hd (pd f n) k) kT (pd f n) g9 (pn n) cap9 (64 * k) (by omega) (by omega) w' hX.2⟩⟩) ?_
      exact trivial
    intro γ w23 l hM hl
    have H23 := keepK H22 hM.below
    clear hM hl l H22 γ
    refine rest_at (l := [5]) rfl ?_
    refine rest_store rfl rfl rfl (ex_storeT (vs := ints .u32 (db (hd (pd f n) k) kT (pd f n) (64 * k)) 8) H23.out.1 1 rfl rfl rfl rfl (by rw [ints_len]; exact Tryd.sizeOf52) (ints_all _ _ _) (by simp [ints_len])) ?_
    have H24 : Hid (Mm (w23.setCells γ8_1 0 (ints .u32 (db (hd (pd f n) k) kT (pd f n) (64 * k)) 8)) [(γ9_1, ints .u32 kT 64), (γ8_1, ints .u32 (db (hd (pd f n) k) kT (pd f n) (64 * k)) 8), (γ1_0, ints .u8 (fun _ => 0) 32)] ∧ Kp γ1_0 w (w23.setCells γ8_1 0 (ints .u32 (db (hd (pd f n) k) kT (pd f n) (64 * k)) 8))) := ⟨by
      have h := H23.out.1.put 1 (off := 0) (vs := ints .u32 (db (hd (pd f n) k) kT (pd f n) (64 * k)) 8) rfl (by simp [ints_len])
      rw [ints_patch0 _ _ _ _] at h
      exact h, H23.out.2.put (Or.inr o8_1.out)⟩
    clear H23
    generalize hgw : World.setCells _ _ _ _ = w24 at H24 ⊢
    clear hgw
    refine rest_nil (block_normal (then_normal ?_))
    refine walk_seqA 2 [.quiet (.int .i64 ((64 * k : Nat) : Int)), .quiet (.int .i64 (((64 * k) + 64 : Nat) : Int))] (sB H24) ?ho13 ?he13
    case ho13 => exact ak (fun _ => ⟨rfl, fun _ _ => rfl⟩) (ak (by refine fun γ => ⟨rfl, fun w' h => ?_⟩; clear h; go_simp; rw [IntKind.wrap_i64]; omega) trivial)
    intro γ w25 l hM hl
    have H25 := keepK H24 hM.below
    clear hM hl l H24 γ
    refine rest_at (l := [2]) rfl ?_
    refine rest_set (d := 6) (v := .int .i64 (((64 * k) + 64 : Nat) : Int)) (w' := w25) rfl rfl rfl rfl ?_
    simp only [Act.put, sa, sz, ss]
    refine rest_nil (then_normal ?_)
    exact ⟨k + 1, ⟨(slotfn [undef, undef, undef, undef, undef, undef, undef, undef, undef, undef, undef, undef, undef, undef, undef, undef, undef, undef, undef, undef, undef, undef, undef, undef, undef, undef, undef, undef, undef, undef, undef, .int .i64 ((64 * k : Nat) : Int), .slice (some ⟨g9, 0, none⟩) (pn n) cap9, .int .i64 (((pn n) : Nat) : Int), .bool true, .int .i64 ((64 * k : Nat) : Int), .int .i64 (((64 * k) + 64 : Nat) : Int), .agg (ints .u32 (hd (pd f n) k) 8).toArray, .agg (ints .u32 kT 64).toArray, .slice (some ⟨g9, 0, none⟩) (pn n) cap9, .int .i64 ((64 * k : Nat) : Int), .agg (ints .u32 (db (hd (pd f n) k) kT (pd f n) (64 * k)) 8).toArray]), rfl, ⟨H25.out.1, H25.out.2⟩, by omega⟩, by omega⟩
  have hkN : k = nb n := by omega
  subst hkN
  refine wp_seq (wp_seq ?_)
  refine walk_seqA 4 [.quiet (.int .i64 ((64 * (nb n) : Nat) : Int)), .quiet (.slice (some ⟨g9, 0, none⟩) (pn n) cap9), .quiet (.int .i64 (((pn n) : Nat) : Int)), .quiet (.bool false)] (sB H21) ?ho14 ?he14
  case ho14 => exact ak (fun _ => ⟨rfl, fun _ _ => rfl⟩) (ak (fun _ => ⟨rfl, fun _ _ => rfl⟩) (ak (by refine fun γ => ⟨rfl, fun w' h => ?_⟩; clear h; go_simp) (ak (by refine fun γ => ⟨rfl, fun w' h => ?_⟩; clear h; go_simp <;> omega) trivial)))
  intro γ w26 l hM hl
  have H26 := keepK H21 hM.below
  clear hM hl l H21 γ
  refine rest0 rfl (then_normal (wp_cond_false rfl ?_))
  refine wp_exit ?_
  repeat refine then_exit ?_
  refine block_exit ?_
  refine then_normal (wp_seq ?_)
  refine walk_seqA 1 [.made (ints .u8 (fun _ => 0) 32) 25] (sB H26) ?ho15 ?he15
  case ho15 => exact ak (fun γ => ⟨rfl, fun w' => ex_mk25 rfl⟩) trivial
  intro γ w27 l hM hl
  have H27 : Hid (Mm w27 [(γ 0, ints .u8 (fun _ => 0) 32), (γ9_1, ints .u32 kT 64), (γ8_1, ints .u32 (hd (pd f n) (nb n)) 8), (γ1_0, ints .u8 (fun _ => 0) 32)] ∧ _) := growK H26 hM (Nat.le_refl _) hl [0] rfl (by decide)
  have o15_0 := ownK H26 hM (Nat.le_refl _) hl (i := 0) rfl
  clear hM hl l H26
  generalize γ 0 = γ15_0 at H27 o15_0 ⊢
  clear γ
  refine rest0 rfl (then_normal (wp_seq (wp_seq ?_)))
  refine walk_seqA 1 [.quiet (.int .i64 0)] (sB H27) ?ho16 ?he16
  case ho16 => exact ak (fun _ => ⟨rfl, fun _ _ => rfl⟩) trivial
  intro γ w28 l hM hl
  have H28 := keepK H27 hM.below
  clear hM hl l H27 γ
  refine rest0 rfl (then_normal (wp_block ?_))
  refine loop_ghost (α := Nat) (fun i a' w' => ∃ s4 : Nat → Value, a' = ⟨#[.slice (some a) n cp, undef, PT γ1_0 0, .slice (some ⟨g9, 0, none⟩) (pn n) cap9, PT γ8_1 0, PT γ9_1 0, .int .i64 ((64 * (nb n) : Nat) : Int), PT γ15_0 0, .int .i64 ((i : Nat) : Int), .slice (some ⟨γb, 0, none⟩) 0 0, .slice (some a) n cp, v4, v4, .slice (some ⟨γs6, 0, none⟩) 1 1, v7, .slice (some ⟨g3, 0, none⟩) (n + 1 + zc n) cap3, .int .i64 (((n + 1 + zc n) : Nat) : Int), .int .i64 (((n + 1 + zc n) % 64 : Nat) : Int), .bool false, s0 19, s0 20, s0 21, .slice (some ⟨g3, 0, none⟩) (n + 1 + zc n) cap3, .slice (some a) n cp, .int .i64 ((n : Nat) : Int), U (c64 n), U (c64 (8 * c64 n)), .slice (some ⟨g8, 0, none⟩) 8 cap8, .slice (some ⟨g9, 0, none⟩) (pn n) cap9, .agg (ints .u32 fT 8).toArray, .agg (ints .u32 kT 64).toArray, .int .i64 ((64 * (nb n) : Nat) : Int), .slice (some ⟨g9, 0, none⟩) (pn n) cap9, .int .i64 (((pn n) : Nat) : Int), .bool false, s2 35, s2 36, s2 37, s2 38, s2 39, s2 40, s2 41, s4 42, s4 43, s4 44, s4 45, s4 46, s4 47, s4 48, s4 49, s4 50, s4 51, s4 52, s4 53, s4 54, s4 55, s4 56, s4 57, undef], []⟩ ∧ (Mm w' [(γ15_0, ints .u8 (ob (hd (pd f n) (nb n)) i) 32), (γ9_1, ints .u32 kT 64), (γ8_1, ints .u32 (hd (pd f n) (nb n)) 8), (γ1_0, ints .u8 (fun _ => 0) 32)] ∧ Kp γ1_0 w w') ∧ i ≤ 32) (fun i => 32 - i) 0 ?st4 ?rd4
  case st4 => exact ⟨(slotfn [undef, undef, undef, undef, undef, undef, undef, undef, undef, undef, undef, undef, undef, undef, undef, undef, undef, undef, undef, undef, undef, undef, undef, undef, undef, undef, undef, undef, undef, undef, undef, undef, undef, undef, undef, undef, undef, undef, undef, undef, undef, undef, undef, undef, undef, undef, undef, undef, undef, undef, undef, undef, undef, undef, undef, undef, undef, undef]), rfl, ⟨H28.out.1, H28.out.2⟩, by omega⟩
  intro i a' w29 hI
  obtain ⟨s4, rfl, hMB, hk4⟩ := hI
  have H29 : Hid (_ ∧ _) := hMB
  clear hMB H28
  by_cases hlti : i < 32
  · have hrd : True := trivial
    clear hrd
    refine wp_seq (wp_seq ?_)
    refine walk_seqA 2 [.quiet (.int .i64 ((i : Nat) : Int)), .quiet (.bool true)] (sB H29) ?ho17 ?he17
    case ho17 => exact ak (fun _ => ⟨rfl, fun _ _ => rfl⟩) (ak (by refine fun γ => ⟨rfl, fun w' h => ?_⟩; clear h; go_simp <;> omega) trivial)
    intro γ w30 l hM hl
    have H30 := keepK H29 hM.below
    clear hM hl l H29 γ
    refine rest0 rfl (then_normal (wp_cond_true rfl ?_))
    refine wp_skip (then_normal ?_)
    refine wp_seq (wp_block ?_)
    refine walk_seqA 12 [.quiet (.int .i64 ((i : Nat) : Int)), .quiet (.int .i64 ((i : Nat) : Int)), .quiet (.int .i64 ((i / 4 : Nat) : Int)), .quiet (PT γ8_1 (i / 4)), .quiet (W32 ((hd (pd f n) (nb n)) (i / 4))), .quiet (.int .i64 ((i : Nat) : Int)), .quiet (.int .i64 ((i % 4 : Nat) : Int)), .quiet (.int .i64 ((8 * (i % 4) : Nat) : Int)), .quiet (.int .i64 ((24 - (8 * (i % 4)) : Nat) : Int)), .quiet (W32 (sr ((hd (pd f n) (nb n)) (i / 4)) (24 - (8 * (i % 4))))), .quiet (Z8 ((sr ((hd (pd f n) (nb n)) (i / 4)) (24 - (8 * (i % 4)))) % 256)), .quiet (PT γ15_0 i)] (sB H30) ?ho18 ?he18
    case ho18 => exact ak (fun _ => ⟨rfl, fun _ _ => rfl⟩) (ak (fun _ => ⟨rfl, fun _ _ => rfl⟩) (ak (fun γ => ⟨rfl, fun w' _ => ex_quo3 (a := i) (b := 4) (by omega) (by omega) rfl rfl rfl⟩) (ak (fun γ => ⟨rfl, fun w' _ => ex_ix0_52 (j := i / 4) rfl rfl rfl (by omega)⟩) (ak (fun γ => ⟨rfl, fun w' h => ex_loadC h 2 rfl rfl rfl Tryd.isAgg51 (ints_get _ _ (by omega))⟩) (ak (fun _ => ⟨rfl, fun _ _ => rfl⟩) (ak (fun γ => ⟨rfl, fun w' _ => ex_rem3 (a := i) (b := 4) (by omega) (by omega) rfl rfl rfl⟩) (ak (by refine fun γ => ⟨rfl, fun w' h => ?_⟩; clear h; go_simp; rw [IntKind.wrap_i64]; omega) (ak (by refine fun γ => ⟨rfl, fun w' h => ?_⟩; clear h; go_simp; rw [IntKind.wrap_i64]; omega) (ak (fun γ => ⟨rfl, fun w' _ => ex_shr32 (k := 24 - (8 * (i % 4))) (by omega) rfl rfl rfl⟩) (ak (fun γ => ⟨rfl, fun w' _ => ex_cv51_5 rfl rfl⟩) (ak (fun γ => ⟨rfl, fun w' _ => ex_ix0_25 (j := i) rfl rfl rfl (by omega)⟩) trivial)))))))))))
    intro γ w31 l hM hl
    have H31 := keepK H30 hM.below
    clear hM hl l H30 γ
    refine rest_at (l := [12]) rfl ?_
    refine rest_store rfl rfl rfl (ex_storeI H31.out.1 0 rfl rfl Tryd.sizeOf5 rfl rfl (by rw [ints_len]; omega)) ?_
    have H32 : Hid (Mm (w31.setCells γ15_0 i ([Z8 ((sr ((hd (pd f n) (nb n)) (i / 4)) (24 - (8 * (i % 4)))) % 256)])) [(γ15_0, ints .u8 (up (ob (hd (pd f n) (nb n)) i) i ((sr ((hd (pd f n) (nb n)) (i / 4)) (24 - (8 * (i % 4)))) % 256)) 32), (γ9_1, ints .u32 kT 64), (γ8_1, ints .u32 (hd (pd f n) (nb n)) 8), (γ1_0, ints .u8 (fun _ => 0) 32)] ∧ Kp γ1_0 w (w31.setCells γ15_0 i ([Z8 ((sr ((hd (pd f n) (nb n)) (i / 4)) (24 - (8 * (i % 4)))) % 256)]))) := ⟨by
      have h := H31.out.1.put 0 (off := i) (vs := [Z8 ((sr ((hd (pd f n) (nb n)) (i / 4)) (24 - (8 * (i % 4)))) % 256)]) rfl (by rw [ints_len]; simp only [List.length_cons, List.length_nil]; omega)
      rw [ints_patch _ _ _ _ (by omega)] at h
      exact h, H31.out.2.put (Or.inr o15_0.out)⟩
    clear H31
    generalize hgw : World.setCells _ _ _ _ = w32 at H32 ⊢
    clear hgw
    refine rest_nil (block_normal (then_normal ?_))
    refine walk_seqA 2 [.quiet (.int .i64 ((i : Nat) : Int)), .quiet (.int .i64 ((i + 1 : Nat) : Int))] (sB H32) ?ho19 ?he19
    case ho19 => exact ak (fun _ => ⟨rfl, fun _ _ => rfl⟩) (ak (by refine fun γ => ⟨rfl, fun w' h => ?_⟩; clear h; go_simp; rw [IntKind.wrap_i64]; omega) trivial)
    intro γ w33 l hM hl
    have H33 := keepK H32 hM.below
    clear hM hl l H32 γ
    refine rest_at (l := [2]) rfl ?_
    refine rest_set (d := 8) (v := .int .i64 ((i + 1 : Nat) : Int)) (w' := w33) rfl rfl rfl rfl ?_
    simp only [Act.put, sa, sz, ss]
    refine rest_nil (then_normal ?_)
    exact ⟨i + 1, ⟨(slotfn [undef, undef, undef, undef, undef, undef, undef, undef, undef, undef, undef, undef, undef, undef, undef, undef, undef, undef, undef, undef, undef, undef, undef, undef, undef, undef, undef, undef, undef, undef, undef, undef, undef, undef, undef, undef, undef, undef, undef, undef, undef, undef, .int .i64 ((i : Nat) : Int), .bool true, .int .i64 ((i : Nat) : Int), .int .i64 ((i + 1 : Nat) : Int), .int .i64 ((i : Nat) : Int), .int .i64 ((i : Nat) : Int), .int .i64 ((i / 4 : Nat) : Int), PT γ8_1 (i / 4), W32 ((hd (pd f n) (nb n)) (i / 4)), .int .i64 ((i : Nat) : Int), .int .i64 ((i % 4 : Nat) : Int), .int .i64 ((8 * (i % 4) : Nat) : Int), .int .i64 ((24 - (8 * (i % 4)) : Nat) : Int), W32 (sr ((hd (pd f n) (nb n)) (i / 4)) (24 - (8 * (i % 4)))), Z8 ((sr ((hd (pd f n) (nb n)) (i / 4)) (24 - (8 * (i % 4)))) % 256), PT γ15_0 i]), rfl, ⟨H33.out.1, H33.out.2⟩, by omega⟩, by omega⟩
  have hiN : i = 32 := by omega
  subst hiN
  refine wp_seq (wp_seq ?_)
  refine walk_seqA 2 [.quiet (.int .i64 ((32 : Nat) : Int)), .quiet (.bool false)] (sB H29) ?ho20 ?he20
  case ho20 => exact ak (fun _ => ⟨rfl, fun _ _ => rfl⟩) (ak (by refine fun γ => ⟨rfl, fun w' h => ?_⟩; clear h; go_simp <;> omega) trivial)
  intro γ w34 l hM hl
  have H34 := keepK H29 hM.below
  clear hM hl l H29 γ
  refine rest0 rfl (then_normal (wp_cond_false rfl ?_))
  refine wp_exit ?_
  repeat refine then_exit ?_
  refine block_exit ?_
  refine then_normal (wp_seq ?_)
  refine walk_seqA 1 [.quiet (.agg (ints .u8 (ob (hd (pd f n) (nb n)) 32) 32).toArray)] (sB H34) ?ho21 ?he21
  case ho21 => exact ak (fun γ => ⟨rfl, fun w' h => ex_loadT h 0 rfl rfl rfl Tryd.isAgg25 Tryd.sizeOf25 (ints_whole _ _ _) (ints_len _ _ _)⟩) trivial
  intro γ w35 l hM hl
  have H35 := keepK H34 hM.below
  clear hM hl l H34 γ
  refine rest_at (l := [1]) rfl ?_
  refine rest_store rfl rfl rfl (ex_storeT (vs := ints .u8 (ob (hd (pd f n) (nb n)) 32) 32) H35.out.1 3 rfl rfl rfl rfl (by rw [ints_len]; exact Tryd.sizeOf25) (ints_all _ _ _) (by simp [ints_len])) ?_
  have H36 : Hid (Mm (w35.setCells γ1_0 0 (ints .u8 (ob (hd (pd f n) (nb n)) 32) 32)) [(γ15_0, ints .u8 (ob (hd (pd f n) (nb n)) 32) 32), (γ9_1, ints .u32 kT 64), (γ8_1, ints .u32 (hd (pd f n) (nb n)) 8), (γ1_0, ints .u8 (ob (hd (pd f n) (nb n)) 32) 32)] ∧ Kp γ1_0 w (w35.setCells γ1_0 0 (ints .u8 (ob (hd (pd f n) (nb n)) 32) 32))) := ⟨by
    have h := H35.out.1.put 3 (off := 0) (vs := ints .u8 (ob (hd (pd f n) (nb n)) 32) 32) rfl (by simp [ints_len])
    rw [ints_patch0 _ _ _ _] at h
    exact h, H35.out.2.put (Or.inl rfl)⟩
  clear H35
  generalize hgw : World.setCells _ _ _ _ = w36 at H36 ⊢
  clear hgw
  refine rest_nil (then_normal (wp_ret ?_))
  repeat (first | refine then_ret ?_ | refine block_ret ?_)
  have hf0 := var_T H36.out.1 3 rfl Tryd.isAgg25 Tryd.sizeOf25 (ints_len _ _ _)
  refine bodyPost_ret (v := .agg (ints .u8 (ob (hd (pd f n) (nb n)) 32) 32).toArray) (by simp [results, Tryd.results15, asAddr, hf0]) rfl ?_
  exact ⟨rfl, Below.kp HB.out H36.out.2 o1_0.out HB.out.size⟩
set_option maxHeartbeats 4000000 in
set_option maxRecDepth 100000 in
theorem dSum_none (f : Nat → Nat) (n : Nat) (hn : n ≤ 1048576) (h0 : n = 0) (w : World) :
    Calls Tryd.prog 15 #[.slice none 0 0] w fun e w' => e = .returned (.agg (ints .u8 (ds f n) 32).toArray) ∧ Below w.heap.size w w' := by
  have H0 : Hid (_ ∧ _) := ⟨Mm.nil w, Below.refl w.heap.size w⟩
  have hn0 : Hid (n = 0) := h0
  clear h0
  have hz : zc n = (120 - (n + 1) % 64) % 64 := rfl
  have hN : pn n = n + 1 + zc n + 8 := rfl
  have hM := nb_pn n
  go_enter Tryd.func15, Tryd.ntmps15
  refine wp_seq ?_
  refine walk_seqA 1 [.made (ints .u8 (fun _ => 0) 32) 25] (sB H0) ?ho1 ?he1
  case ho1 => exact ak (fun γ => ⟨rfl, fun w' => ex_mk25 rfl⟩) trivial
  intro γ w1 l hM hl
  have H1 : Hid (Mm w1 [(γ 0, ints .u8 (fun _ => 0) 32)] ∧ _) := growB H0 hM (Nat.le_refl _) hl [0] rfl (by decide)
  have o1_0 := ownB H0 hM (Nat.le_refl _) hl (i := 0) rfl
  clear hM hl l
  generalize γ 0 = γ1_0 at H1 o1_0 ⊢
  clear γ
  refine rest0 rfl (then_normal (wp_seq ?_))
  refine walk_seqB 0 [] H1 ?ho2 ?he2
  case ho2 => exact trivial
  intro _ w2 H2
  clear H1
  refine rest_at (l := [0, 1, 2, 3]) rfl ?_
  refine rest_set (d := 9) (v := .slice (some ⟨w2.heap.size, 0, none⟩) 0 0) (w' := (w2.alloc (.cells #[] 5))) rfl rfl rfl (ex_bs0 rfl) ?_
  simp only [Act.put, sa, sz, ss]
  have H3 : Hid (Mm (w2.alloc (.cells #[] 5)) [] ∧ Zo w w2.heap.size [(γ1_0, ints .u8 (fun _ => 0) 32)] (.slice (some ⟨w2.heap.size, 0, none⟩) 0 0) 0 f (w2.alloc (.cells #[] 5))) := ⟨Mm.nil _, Zo.made f H2.out.1 H2.out.2⟩
  clear H2
  generalize hgw : (w2.alloc (.cells #[] 5)) = w3 at H3 ⊢
  clear hgw
  generalize w2.heap.size = γb at H3 ⊢
  refine rest_set (d := 10) (v := .slice none 0 0) (w' := w3) rfl rfl rfl rfl ?_
  simp only [Act.put, sa, sz, ss]
  refine rest_set (d := 11) (v := .slice (some ⟨γb, 0, none⟩) 0 0) (w' := w3) rfl rfl rfl (ex_app rfl rfl rfl (H3.out.2.app0 22)) ?_
  simp only [Act.put, sa, sz, ss]
  have H4 : Hid (Mm w3 [] ∧ Zo w γb [(γ1_0, ints .u8 (fun _ => 0) 32)] (.slice (some ⟨γb, 0, none⟩) 0 0) n f w3) := ⟨Mm.nil _, by rw [hn0.out]; exact H3.out.2⟩
  clear H3
  refine rest_set (d := 3) (v := .slice (some ⟨γb, 0, none⟩) 0 0) (w' := w3) rfl rfl rfl rfl ?_
  simp only [Act.put, sa, sz, ss]
  refine rest_nil (then_normal (wp_seq ?_))
  refine walk_seqA 1 [.quiet (.slice (some ⟨γb, 0, none⟩) 0 0)] (sB H4) ?ho3 ?he3
  case ho3 => exact ak (fun _ => ⟨rfl, fun _ _ => rfl⟩) trivial
  intro γ w5 l hM hl
  have M5 : Mm w5 [] := H4.out.1.grow hM (Nat.le_refl _) hl [] rfl (by decide)
  have B5 : Zo w γb [(γ1_0, ints .u8 (fun _ => 0) 32)] (.slice (some ⟨γb, 0, none⟩) 0 0) n f w5 := Zo.step H4.out.2 (hM.below)
  clear hM hl l H4
  clear γ
  have H5 : Hid (_ ∧ _) := ⟨M5, B5⟩
  clear M5 B5
  refine rest_at (l := [1, 2, 3]) rfl ?_
  refine rest_set (d := 13) (v := .slice (some ⟨w5.heap.size, 0, none⟩) 1 1) (w' := (w5.alloc (.cells ([Z8 128] : List Value).toArray 5))) rfl rfl rfl (ex_bs1 (a := 128) rfl rfl) ?_
  simp only [Act.put, sa, sz, ss]
  have H6 : Hid (Mm (w5.alloc (.cells ([Z8 128] : List Value).toArray 5)) [] ∧ Zo w γb [(γ1_0, ints .u8 (fun _ => 0) 32)] (.slice (some ⟨γb, 0, none⟩) 0 0) n f (w5.alloc (.cells ([Z8 128] : List Value).toArray 5))) := ⟨Mm.nil _, Zo.step H5.out.2 ((Below.refl _ _).alloc (Nat.le_refl _) _)⟩
  have c6 := cell_one w5 128
  have C6 : Hid _ := c6
  clear c6 H5
  generalize hgw : (w5.alloc (.cells ([Z8 128] : List Value).toArray 5)) = w6 at H6 C6 ⊢
  clear hgw
  generalize w5.heap.size = γs6 at C6 ⊢
  obtain ⟨v7, w7, hr, hZ⟩ := H6.out.2.app (a := ⟨γs6, 0, none⟩) 1 1 (fun _ => 128) (C6.out) (by omega) 22
  refine rest_set (d := 14) (v := v7) (w' := w7) rfl rfl rfl (ex_app rfl rfl rfl hr) ?_
  simp only [Act.put, sa, sz, ss]
  have H7 : Hid (Mm w7 [] ∧ Zo w γb [(γ1_0, ints .u8 (fun _ => 0) 32)] v7 (n + 1 + 0) (pz f n) w7) := ⟨Mm.nil _, hZ.cg (ct_snoc (pz_n f n) (pz_f f n))⟩
  clear hr hZ H6
  refine rest_set (d := 3) (v := v7) (w' := w7) rfl rfl rfl rfl ?_
  simp only [Act.put, sa, sz, ss]
  refine rest_nil (then_normal ?_)
  refine wp_seq (wp_block ?_)
  refine loop_ghost (α := Nat) (fun k a' w' => ∃ s0 : Nat → Value, a' = ⟨#[.slice none 0 0, undef, PT γ1_0 0, s0 3, undef, undef, undef, undef, undef, .slice (some ⟨γb, 0, none⟩) 0 0, .slice none 0 0, .slice (some ⟨γb, 0, none⟩) 0 0, .slice (some ⟨γb, 0, none⟩) 0 0, .slice (some ⟨γs6, 0, none⟩) 1 1, v7, s0 15, s0 16, s0 17, s0 18, s0 19, s0 20, s0 21, undef, undef, undef, undef, undef, undef, undef, undef, undef, undef, undef, undef, undef, undef, undef, undef, undef, undef, undef, undef, undef, undef, undef, undef, undef, undef, undef, undef, undef, undef, undef, undef, undef, undef, undef, undef, undef], []⟩ ∧ (Mm w' [] ∧ Zo w γb [(γ1_0, ints .u8 (fun _ => 0) 32)] (s0 3) (n + 1 + k) (pz f n) w') ∧ k ≤ zc n) (fun k => zc n - k) 0 ?st0 ?rd0
  case st0 => exact ⟨(slotfn [undef, undef, undef, v7, undef, undef, undef, undef, undef, undef, undef, undef, undef, undef, undef, undef, undef, undef, undef, undef, undef, undef]), rfl, ⟨H7.out.1, H7.out.2⟩, by omega⟩
  intro k a' w8 hI
  obtain ⟨s0, rfl, hMB, hk0⟩ := hI
  have H8 : Hid (_ ∧ _) := hMB
  clear hMB H7
  by_cases hlt : k < zc n
  · have hrd : True := trivial
    clear hrd
    obtain ⟨g3, cap3, e3⟩ := H8.out.2.form (by omega)
    rw [e3] at H8 ⊢
    clear e3
    refine wp_seq (wp_seq ?_)
    refine walk_seqA 4 [.quiet (.slice (some ⟨g3, 0, none⟩) (n + 1 + k) cap3), .quiet (.int .i64 (((n + 1 + k) : Nat) : Int)), .quiet (.int .i64 (((n + 1 + k) % 64 : Nat) : Int)), .quiet (.bool true)] (sB H8) ?ho4 ?he4
    case ho4 => exact ak (fun _ => ⟨rfl, fun _ _ => rfl⟩) (ak (by refine fun γ => ⟨rfl, fun w' h => ?_⟩; clear h; go_simp) (ak (fun γ => ⟨rfl, fun w' _ => ex_rem3 (a := (n + 1 + k)) (b := 64) (by omega) (by omega) rfl rfl rfl⟩) (ak (by refine fun γ => ⟨rfl, fun w' h => ?_⟩; clear h; go_simp <;> omega) trivial)))
    intro γ w9 l hM hl
    have M9 : Mm w9 [] := H8.out.1.grow hM (Nat.le_refl _) hl [] rfl (by decide)
    have B9 : Zo w γb [(γ1_0, ints .u8 (fun _ => 0) 32)] (.slice (some ⟨g3, 0, none⟩) (n + 1 + k) cap3) (n + 1 + k) (pz f n) w9 := Zo.step H8.out.2 (hM.below)
    clear hM hl l H8
    clear γ
    have H9 : Hid (_ ∧ _) := ⟨M9, B9⟩
    clear M9 B9
    refine rest0 rfl (then_normal (wp_cond_true rfl ?_))
    refine wp_skip (then_normal (wp_block ?_))
    refine walk_seqA 1 [.quiet (.slice (some ⟨g3, 0, none⟩) (n + 1 + k) cap3)] (sB H9) ?ho5 ?he5
    case ho5 => exact ak (fun _ => ⟨rfl, fun _ _ => rfl⟩) trivial
    intro γ w10 l hM hl
    have M10 : Mm w10 [] := H9.out.1.grow hM (Nat.le_refl _) hl [] rfl (by decide)
    have B10 : Zo w γb [(γ1_0, ints .u8 (fun _ => 0) 32)] (.slice (some ⟨g3, 0, none⟩) (n + 1 + k) cap3) (n + 1 + k) (pz f n) w10 := Zo.step H9.out.2 (hM.below)
    clear hM hl l H9
    clear γ
    have H10 : Hid (_ ∧ _) := ⟨M10, B10⟩
    clear M10 B10
    refine rest_at (l := [1, 2, 3]) rfl ?_
    refine rest_set (d := 20) (v := .slice (some ⟨w10.heap.size, 0, none⟩) 1 1) (w' := (w10.alloc (.cells ([Z8 0] : List Value).toArray 5))) rfl rfl rfl (ex_bs1 (a := 0) rfl rfl) ?_
    simp only [Act.put, sa, sz, ss]
    have H11 : Hid (Mm (w10.alloc (.cells ([Z8 0] : List Value).toArray 5)) [] ∧ Zo w γb [(γ1_0, ints .u8 (fun _ => 0) 32)] (.slice (some ⟨g3, 0, none⟩) (n + 1 + k) cap3) (n + 1 + k) (pz f n) (w10.alloc (.cells ([Z8 0] : List Value).toArray 5))) := ⟨Mm.nil _, Zo.step H10.out.2 ((Below.refl _ _).alloc (Nat.le_refl _) _)⟩
    have c11 := cell_one w10 0
    have C11 : Hid _ := c11
    clear c11 H10
    generalize hgw : (w10.alloc (.cells ([Z8 0] : List Value).toArray 5)) = w11 at H11 C11 ⊢
    clear hgw
    generalize w10.heap.size = γs11 at C11 ⊢
    obtain ⟨v12, w12, hr, hZ⟩ := H11.out.2.app (a := ⟨γs11, 0, none⟩) 1 1 (fun _ => 0) (C11.out) (by omega) 22
    refine rest_set (d := 21) (v := v12) (w' := w12) rfl rfl rfl (ex_app rfl rfl rfl hr) ?_
    simp only [Act.put, sa, sz, ss]
    have H12 : Hid (Mm w12 [] ∧ Zo w γb [(γ1_0, ints .u8 (fun _ => 0) 32)] v12 (n + 1 + (k + 1)) (pz f n) w12) := ⟨Mm.nil _, hZ.cg (ct_snoc (pz_z f n k))⟩
    clear hr hZ H11
    refine rest_set (d := 3) (v := v12) (w' := w12) rfl rfl rfl rfl ?_
    simp only [Act.put, sa, sz, ss]
    refine rest_nil (block_normal (then_normal ?_))
    exact ⟨k + 1, ⟨(slotfn [undef, undef, undef, v12, undef, undef, undef, undef, undef, undef, undef, undef, undef, undef, undef, .slice (some ⟨g3, 0, none⟩) (n + 1 + k) cap3, .int .i64 (((n + 1 + k) : Nat) : Int), .int .i64 (((n + 1 + k) % 64 : Nat) : Int), .bool true, .slice (some ⟨g3, 0, none⟩) (n + 1 + k) cap3, .slice (some ⟨γs11, 0, none⟩) 1 1, v12]), rfl, ⟨H12.out.1, H12.out.2⟩, by omega⟩, by omega⟩
  have hkN : k = zc n := by omega
  subst hkN
  obtain ⟨g3, cap3, e3⟩ := H8.out.2.form (by omega)
  rw [e3] at H8 ⊢
  clear e3
  refine wp_seq (wp_seq ?_)
  refine walk_seqA 4 [.quiet (.slice (some ⟨g3, 0, none⟩) (n + 1 + zc n) cap3), .quiet (.int .i64 (((n + 1 + zc n) : Nat) : Int)), .quiet (.int .i64 (((n + 1 + zc n) % 64 : Nat) : Int)), .quiet (.bool false)] (sB H8) ?ho6 ?he6
  case ho6 => exact ak (fun _ => ⟨rfl, fun _ _ => rfl⟩) (ak (by refine fun γ => ⟨rfl, fun w' h => ?_⟩; clear h; go_simp) (ak (fun γ => ⟨rfl, fun w' _ => ex_rem3 (a := (n + 1 + zc n)) (b := 64) (by omega) (by omega) rfl rfl rfl⟩) (ak (by refine fun γ => ⟨rfl, fun w' h => ?_⟩; clear h; go_simp <;> omega) trivial)))
  intro γ w13 l hM hl
  have M13 : Mm w13 [] := H8.out.1.grow hM (Nat.le_refl _) hl [] rfl (by decide)
  have B13 : Zo w γb [(γ1_0, ints .u8 (fun _ => 0) 32)] (.slice (some ⟨g3, 0, none⟩) (n + 1 + zc n) cap3) (n + 1 + zc n) (pz f n) w13 := Zo.step H8.out.2 (hM.below)
  clear hM hl l H8
  clear γ
  have H13 : Hid (_ ∧ _) := ⟨M13, B13⟩
  clear M13 B13
  refine rest0 rfl (then_normal (wp_cond_false rfl ?_))
  refine wp_exit ?_
  repeat refine then_exit ?_
  refine block_exit ?_
  refine then_normal (wp_seq ?_)
  refine walk_seqA 5 [.quiet (.slice (some ⟨g3, 0, none⟩) (n + 1 + zc n) cap3), .quiet (.slice none 0 0), .quiet (.int .i64 ((n : Nat) : Int)), .quiet (U (c64 n)), .quiet (U (c64 (8 * c64 n)))] (sB H13) ?ho7 ?he7
  case ho7 => exact ak (fun _ => ⟨rfl, fun _ _ => rfl⟩) (ak (fun _ => ⟨rfl, fun _ _ => rfl⟩) (ak (by refine fun γ => ⟨rfl, fun w' h => ?_⟩; clear h; rw [hn0.out]; go_simp) (ak (fun γ => ⟨rfl, fun w' _ => ex_cv3_56 (a := n) rfl rfl⟩) (ak (fun γ => ⟨rfl, fun w' _ => ex_mul64 rfl rfl rfl⟩) trivial))))
  intro γ w14 l hM hl
  have M14 : Mm w14 [] := H13.out.1.grow hM (Nat.le_refl _) hl [] rfl (by decide)
  have B14 : Zo w γb [(γ1_0, ints .u8 (fun _ => 0) 32)] (.slice (some ⟨g3, 0, none⟩) (n + 1 + zc n) cap3) (n + 1 + zc n) (pz f n) w14 := Zo.step H13.out.2 (hM.below)
  clear hM hl l H13
  clear γ
  have H14 : Hid (_ ∧ _) := ⟨M14, B14⟩
  clear M14 B14
  refine rest_at (l := [5, 6, 7]) rfl ?_
  refine rest_enter (d := 27) rfl rfl rfl (exec_call (args := #[U (c64 (8 * c64 n))]) rfl call47 rfl (mpn rfl)) ((Calls.mono (Eight_any (c64 (8 * (c64 n))) w14) (fun e w2 hh => by obtain ⟨hb, g, cap, he, hR⟩ := hh; exact ⟨_, he, hb, g, cap, rfl, hR⟩) : Calls Tryd.prog 47 #[U (c64 (8 * (c64 n)))] w14 (fun e w' => ∃ v, e = .returned v ∧ (Below w14.heap.size w14 w' ∧ ∃ g cap, v = .slice (some ⟨g, 0, none⟩) 8 cap ∧ Rs g 0 8 (b8 (c64 (8 * (c64 n)))) w')))) ?_
  rintro _ w15 ⟨hb, g8, cap8, rfl, hR8⟩
  have H15 : Hid (Mm w15 [] ∧ Zo w γb [(γ1_0, ints .u8 (fun _ => 0) 32)] (.slice (some ⟨g3, 0, none⟩) (n + 1 + zc n) cap3) (n + 1 + zc n) (pz f n) w15) := ⟨Mm.nil _, Zo.step H14.out.2 hb⟩
  have R8 : Hid _ := hR8
  clear hb hR8 H14
  simp only [Act.put, sa, sz, ss]
  obtain ⟨v16, w16, hr, hZ⟩ := H15.out.2.app (a := ⟨g8, 0, none⟩) 8 cap8 (b8 (c64 (8 * (c64 n)))) (R8.out.add) (by omega) 22
  refine rest_set (d := 28) (v := v16) (w' := w16) rfl rfl rfl (ex_app rfl rfl rfl hr) ?_
  simp only [Act.put, sa, sz, ss]
  have H16 : Hid (Mm w16 [] ∧ Zo w γb [(γ1_0, ints .u8 (fun _ => 0) 32)] v16 (pn n) (pd f n) w16) := ⟨Mm.nil _, hZ⟩
  clear hr hZ H15
  refine rest_set (d := 3) (v := v16) (w' := w16) rfl rfl rfl rfl ?_
  simp only [Act.put, sa, sz, ss]
  refine rest_nil ?_
  obtain ⟨g9, cap9, e9⟩ := H16.out.2.form (by omega)
  rw [e9] at H16 ⊢
  have HB : Hid _ := H16.out.2.b
  have HM := H16.out.2.m
  have HR : Hid (Rs g9 0 (pn n) (pd f n) w16) := H16.out.2.rs
  have HN : Hid (g9 ≠ γ1_0) := (by have a1 := (World.ownsRow.lt H16.out.2.own g9 rfl).1; have a2 := H16.out.2.lt _ (List.mem_singleton.2 rfl); intro e; have a3 : γ1_0 < γb := a2; omega : g9 ≠ γ1_0)
  clear H16 e9
  generalize w16 = w at HB HM HR ⊢
  have H17 : Hid (_ ∧ _) := ⟨HM, Kp.refl γ1_0 w⟩
  clear HM
  refine then_normal (wp_seq ?_)
  refine walk_seqA 3 [.call (.agg (ints .u32 fT 8).toArray), .made (ints .u32 (fun _ => 0) 8) 52, .laid 1 (ints .u32 (fun _ => 0) 8) (ints .u32 fT 8)] (sB H17) ?ho8 ?he8 (hL := ?hL8)
  case hL8 => exact ⟨⟨_, rfl⟩, trivial⟩
  case ho8 => exact ak (fun γ => ⟨rfl, fun w' h => ⟨48, #[], exec_call rfl call48 rfl (mpn rfl), begin_any w'⟩⟩) (ak (fun γ => ⟨rfl, fun w' => ex_mk52 rfl⟩) (ak (fun γ => ⟨rfl, rfl, (ints_len _ _ _).trans (ints_len _ _ _).symm, fun w' h => ex_laidI h Tryd.sizeOf52 rfl rfl rfl⟩) trivial))
  intro γ w18 l hM hl
  have H18 : Hid (Mm w18 [(γ 1, ints .u32 fT 8), (γ1_0, ints .u8 (fun _ => 0) 32)] ∧ _) := growK H17 hM (Nat.le_refl _) hl [1] rfl (by decide)
  have o8_1 := ownK H17 hM (Nat.le_refl _) hl (i := 1) rfl
  clear hM hl l H17
  generalize γ 1 = γ8_1 at H18 o8_1 ⊢
  clear γ
  refine rest0 rfl (then_normal (wp_seq ?_))
  refine walk_seqA 3 [.call (.agg (ints .u32 kT 64).toArray), .made (ints .u32 (fun _ => 0) 64) 78, .laid 1 (ints .u32 (fun _ => 0) 64) (ints .u32 kT 64)] (sB H18) ?ho9 ?he9 (hL := ?hL9)
  case hL9 => exact ⟨⟨_, rfl⟩, trivial⟩
  case ho9 => exact ak (fun γ => ⟨rfl, fun w' h => ⟨49, #[], exec_call rfl call49 rfl (mpn rfl), table_any w'⟩⟩) (ak (fun γ => ⟨rfl, fun w' => ex_mk78 rfl⟩) (ak (fun γ => ⟨rfl, rfl, (ints_len _ _ _).trans (ints_len _ _ _).symm, fun w' h => ex_laidI h Tryd.sizeOf78 rfl rfl rfl⟩) trivial))
  intro γ w19 l hM hl
  have H19 : Hid (Mm w19 [(γ 1, ints .u32 kT 64), (γ8_1, ints .u32 fT 8), (γ1_0, ints .u8 (fun _ => 0) 32)] ∧ _) := growK H18 hM (Nat.le_refl _) hl [1] rfl (by decide)
  have o9_1 := ownK H18 hM (Nat.le_refl _) hl (i := 1) rfl
  clear hM hl l H18
  generalize γ 1 = γ9_1 at H19 o9_1 ⊢
  clear γ
  refine rest0 rfl (then_normal (wp_seq (wp_seq ?_)))
  refine walk_seqA 1 [.quiet (.int .i64 0)] (sB H19) ?ho10 ?he10
  case ho10 => exact ak (fun _ => ⟨rfl, fun _ _ => rfl⟩) trivial
  intro γ w20 l hM hl
  have H20 := keepK H19 hM.below
  clear hM hl l H19 γ
  refine rest0 rfl (then_normal (wp_block ?_))
  refine loop_ghost (α := Nat) (fun k a' w' => ∃ s2 : Nat → Value, a' = ⟨#[.slice none 0 0, undef, PT γ1_0 0, .slice (some ⟨g9, 0, none⟩) (pn n) cap9, PT γ8_1 0, PT γ9_1 0, .int .i64 ((64 * k : Nat) : Int), undef, undef, .slice (some ⟨γb, 0, none⟩) 0 0, .slice none 0 0, .slice (some ⟨γb, 0, none⟩) 0 0, .slice (some ⟨γb, 0, none⟩) 0 0, .slice (some ⟨γs6, 0, none⟩) 1 1, v7, .slice (some ⟨g3, 0, none⟩) (n + 1 + zc n) cap3, .int .i64 (((n + 1 + zc n) : Nat) : Int), .int .i64 (((n + 1 + zc n) % 64 : Nat) : Int), .bool false, s0 19, s0 20, s0 21, .slice (some ⟨g3, 0, none⟩) (n + 1 + zc n) cap3, .slice none 0 0, .int .i64 ((n : Nat) : Int), U (c64 n), U (c64 (8 * c64 n)), .slice (some ⟨g8, 0, none⟩) 8 cap8, .slice (some ⟨g9, 0, none⟩) (pn n) cap9, .agg (ints .u32 fT 8).toArray, .agg (ints .u32 kT 64).toArray, s2 31, s2 32, s2 33, s2 34, s2 35, s2 36, s2 37, s2 38, s2 39, s2 40, s2 41, undef, undef, undef, undef, undef, undef, undef, undef, undef, undef, undef, undef, undef, undef, undef, undef, undef], []⟩ ∧ (Mm w' [(γ9_1, ints .u32 kT 64), (γ8_1, ints .u32 (hd (pd f n) k) 8), (γ1_0, ints .u8 (fun _ => 0) 32)] ∧ Kp γ1_0 w w') ∧ k ≤ nb n) (fun k => nb n - k) 0 ?st2 ?rd2
  case st2 => exact ⟨(slotfn [undef, undef, undef, undef, undef, undef, undef, undef, undef, undef, undef, undef, undef, undef, undef, undef, undef, undef, undef, undef, undef, undef, undef, undef, undef, undef, undef, undef, undef, undef, undef, undef, undef, undef, undef, undef, undef, undef, undef, undef, undef, undef]), rfl, ⟨H20.out.1, H20.out.2⟩, by omega⟩
  intro k a' w21 hI
  obtain ⟨s2, rfl, hMB, hk2⟩ := hI
  have H21 : Hid (_ ∧ _) := hMB
  clear hMB H20
  by_cases hltk : k < nb n
  · have hrd : True := trivial
    clear hrd
    refine wp_seq (wp_seq ?_)
    refine walk_seqA 4 [.quiet (.int .i64 ((64 * k : Nat) : Int)), .quiet (.slice (some ⟨g9, 0, none⟩) (pn n) cap9), .quiet (.int .i64 (((pn n) : Nat) : Int)), .quiet (.bool true)] (sB H21) ?ho11 ?he11
    case ho11 => exact ak (fun _ => ⟨rfl, fun _ _ => rfl⟩) (ak (fun _ => ⟨rfl, fun _ _ => rfl⟩) (ak (by refine fun γ => ⟨rfl, fun w' h => ?_⟩; clear h; go_simp) (ak (by refine fun γ => ⟨rfl, fun w' h => ?_⟩; clear h; go_simp <;> omega) trivial)))
    intro γ w22 l hM hl
    have H22 := keepK H21 hM.below
    clear hM hl l H21 γ
    refine rest0 rfl (then_normal (wp_cond_true rfl ?_))
    refine wp_skip (then_normal ?_)
    refine wp_seq (wp_block ?_)
    refine (walk_seq) 5 [.quiet (.agg (ints .u32 (hd (pd f n) k) 8).toArray), .quiet (.agg (ints .u32 kT 64).toArray), .quiet (.slice (some ⟨g9, 0, none⟩) (pn n) cap9), .quiet (.int .i64 ((64 * k : Nat) : Int)), .call (.agg (ints .u32 (db (hd (pd f n) k) kT (pd f n) (64 * k)) 8).toArray)] (fun u' => Mm u' [(γ9_1, ints .u32 kT 64), (γ8_1, ints .u32 (hd (pd f n) k) 8), (γ1_0, ints .u8 (fun _ => 0) 32)] ∧ Rs g9 0 (pn n) (pd f n) u') ?pre12 ?F12 ?hpre12 (fun γ => ?hF12) (by kernel_rfl) ?hL12 ?hS12 ?ho12 ?he12
    case hpre12 => simp only [tk, tz]; rfl
    case hF12 => simp only [fill, Kind.val, Act.put, sa, sz, ss]; rfl
    case hL12 => exact trivial
    case hS12 => exact fun w' hb => ⟨H22.out.1.below hb, HR.out.kp2 (H22.out.2.trans (hb)) HN.out⟩
    case ho12 =>
      refine ak (fun γ => ⟨rfl, fun w' hX => have h := hX.1; ex_loadT h 1 rfl rfl rfl Tryd.isAgg52 Tryd.sizeOf52 (ints_whole _ _ _) (ints_len _ _ _)⟩) ?_
      refine ak (fun γ => ⟨rfl, fun w' hX => have h := hX.1; ex_loadT h 0 rfl rfl rfl Tryd.isAgg78 Tryd.sizeOf78 (ints_whole _ _ _) (ints_len _ _ _)⟩) ?_
      refine ak (fun _ => ⟨rfl, fun _ _ => rfl⟩) ?_
      refine ak (fun _ => ⟨rfl, fun _ _ => rfl⟩) ?_
      refine ak (fun γ => ⟨rfl, fun w' hX => ⟨50, #[.agg (ints .u32 (hd (pd f n) k) 8).toArray, .agg (ints .u32 kT 64).toArray, .slice (some ⟨g9, 0, none⟩) (pn n) cap9, .int .i64 ((64 * k : Nat) : Int)], exec_call rfl call50 rfl (mpn rfl), block_any (hd (pd f n) k) kT (pd f n) g9 (pn n) cap9 (64 * k) (by omega) (by omega) w' hX.2⟩⟩) ?_
      exact trivial
    intro γ w23 l hM hl
    have H23 := keepK H22 hM.below
    clear hM hl l H22 γ
    refine rest_at (l := [5]) rfl ?_
    refine rest_store rfl rfl rfl (ex_storeT (vs := ints .u32 (db (hd (pd f n) k) kT (pd f n) (64 * k)) 8) H23.out.1 1 rfl rfl rfl rfl (by rw [ints_len]; exact Tryd.sizeOf52) (ints_all _ _ _) (by simp [ints_len])) ?_
    have H24 : Hid (Mm (w23.setCells γ8_1 0 (ints .u32 (db (hd (pd f n) k) kT (pd f n) (64 * k)) 8)) [(γ9_1, ints .u32 kT 64), (γ8_1, ints .u32 (db (hd (pd f n) k) kT (pd f n) (64 * k)) 8), (γ1_0, ints .u8 (fun _ => 0) 32)] ∧ Kp γ1_0 w (w23.setCells γ8_1 0 (ints .u32 (db (hd (pd f n) k) kT (pd f n) (64 * k)) 8))) := ⟨by
      have h := H23.out.1.put 1 (off := 0) (vs := ints .u32 (db (hd (pd f n) k) kT (pd f n) (64 * k)) 8) rfl (by simp [ints_len])
      rw [ints_patch0 _ _ _ _] at h
      exact h, H23.out.2.put (Or.inr o8_1.out)⟩
    clear H23
    generalize hgw : World.setCells _ _ _ _ = w24 at H24 ⊢
    clear hgw
    refine rest_nil (block_normal (then_normal ?_))
    refine walk_seqA 2 [.quiet (.int .i64 ((64 * k : Nat) : Int)), .quiet (.int .i64 (((64 * k) + 64 : Nat) : Int))] (sB H24) ?ho13 ?he13
    case ho13 => exact ak (fun _ => ⟨rfl, fun _ _ => rfl⟩) (ak (by refine fun γ => ⟨rfl, fun w' h => ?_⟩; clear h; go_simp; rw [IntKind.wrap_i64]; omega) trivial)
    intro γ w25 l hM hl
    have H25 := keepK H24 hM.below
    clear hM hl l H24 γ
    refine rest_at (l := [2]) rfl ?_
    refine rest_set (d := 6) (v := .int .i64 (((64 * k) + 64 : Nat) : Int)) (w' := w25) rfl rfl rfl rfl ?_
    simp only [Act.put, sa, sz, ss]
    refine rest_nil (then_normal ?_)
    exact ⟨k + 1, ⟨(slotfn [undef, undef, undef, undef, undef, undef, undef, undef, undef, undef, undef, undef, undef, undef, undef, undef, undef, undef, undef, undef, undef, undef, undef, undef, undef, undef, undef, undef, undef, undef, undef, .int .i64 ((64 * k : Nat) : Int), .slice (some ⟨g9, 0, none⟩) (pn n) cap9, .int .i64 (((pn n) : Nat) : Int), .bool true, .int .i64 ((64 * k : Nat) : Int), .int .i64 (((64 * k) + 64 : Nat) : Int), .agg (ints .u32 (hd (pd f n) k) 8).toArray, .agg (ints .u32 kT 64).toArray, .slice (some ⟨g9, 0, none⟩) (pn n) cap9, .int .i64 ((64 * k : Nat) : Int), .agg (ints .u32 (db (hd (pd f n) k) kT (pd f n) (64 * k)) 8).toArray]), rfl, ⟨H25.out.1, H25.out.2⟩, by omega⟩, by omega⟩
  have hkN : k = nb n := by omega
  subst hkN
  refine wp_seq (wp_seq ?_)
  refine walk_seqA 4 [.quiet (.int .i64 ((64 * (nb n) : Nat) : Int)), .quiet (.slice (some ⟨g9, 0, none⟩) (pn n) cap9), .quiet (.int .i64 (((pn n) : Nat) : Int)), .quiet (.bool false)] (sB H21) ?ho14 ?he14
  case ho14 => exact ak (fun _ => ⟨rfl, fun _ _ => rfl⟩) (ak (fun _ => ⟨rfl, fun _ _ => rfl⟩) (ak (by refine fun γ => ⟨rfl, fun w' h => ?_⟩; clear h; go_simp) (ak (by refine fun γ => ⟨rfl, fun w' h => ?_⟩; clear h; go_simp <;> omega) trivial)))
  intro γ w26 l hM hl
  have H26 := keepK H21 hM.below
  clear hM hl l H21 γ
  refine rest0 rfl (then_normal (wp_cond_false rfl ?_))
  refine wp_exit ?_
  repeat refine then_exit ?_
  refine block_exit ?_
  refine then_normal (wp_seq ?_)
  refine walk_seqA 1 [.made (ints .u8 (fun _ => 0) 32) 25] (sB H26) ?ho15 ?he15
  case ho15 => exact ak (fun γ => ⟨rfl, fun w' => ex_mk25 rfl⟩) trivial
  intro γ w27 l hM hl
  have H27 : Hid (Mm w27 [(γ 0, ints .u8 (fun _ => 0) 32), (γ9_1, ints .u32 kT 64), (γ8_1, ints .u32 (hd (pd f n) (nb n)) 8), (γ1_0, ints .u8 (fun _ => 0) 32)] ∧ _) := growK H26 hM (Nat.le_refl _) hl [0] rfl (by decide)
  have o15_0 := ownK H26 hM (Nat.le_refl _) hl (i := 0) rfl
  clear hM hl l H26
  generalize γ 0 = γ15_0 at H27 o15_0 ⊢
  clear γ
  refine rest0 rfl (then_normal (wp_seq (wp_seq ?_)))
  refine walk_seqA 1 [.quiet (.int .i64 0)] (sB H27) ?ho16 ?he16
  case ho16 => exact ak (fun _ => ⟨rfl, fun _ _ => rfl⟩) trivial
  intro γ w28 l hM hl
  have H28 := keepK H27 hM.below
  clear hM hl l H27 γ
  refine rest0 rfl (then_normal (wp_block ?_))
  refine loop_ghost (α := Nat) (fun i a' w' => ∃ s4 : Nat → Value, a' = ⟨#[.slice none 0 0, undef, PT γ1_0 0, .slice (some ⟨g9, 0, none⟩) (pn n) cap9, PT γ8_1 0, PT γ9_1 0, .int .i64 ((64 * (nb n) : Nat) : Int), PT γ15_0 0, .int .i64 ((i : Nat) : Int), .slice (some ⟨γb, 0, none⟩) 0 0, .slice none 0 0, .slice (some ⟨γb, 0, none⟩) 0 0, .slice (some ⟨γb, 0, none⟩) 0 0, .slice (some ⟨γs6, 0, none⟩) 1 1, v7, .slice (some ⟨g3, 0, none⟩) (n + 1 + zc n) cap3, .int .i64 (((n + 1 + zc n) : Nat) : Int), .int .i64 (((n + 1 + zc n) % 64 : Nat) : Int), .bool false, s0 19, s0 20, s0 21, .slice (some ⟨g3, 0, none⟩) (n + 1 + zc n) cap3, .slice none 0 0, .int .i64 ((n : Nat) : Int), U (c64 n), U (c64 (8 * c64 n)), .slice (some ⟨g8, 0, none⟩) 8 cap8, .slice (some ⟨g9, 0, none⟩) (pn n) cap9, .agg (ints .u32 fT 8).toArray, .agg (ints .u32 kT 64).toArray, .int .i64 ((64 * (nb n) : Nat) : Int), .slice (some ⟨g9, 0, none⟩) (pn n) cap9, .int .i64 (((pn n) : Nat) : Int), .bool false, s2 35, s2 36, s2 37, s2 38, s2 39, s2 40, s2 41, s4 42, s4 43, s4 44, s4 45, s4 46, s4 47, s4 48, s4 49, s4 50, s4 51, s4 52, s4 53, s4 54, s4 55, s4 56, s4 57, undef], []⟩ ∧ (Mm w' [(γ15_0, ints .u8 (ob (hd (pd f n) (nb n)) i) 32), (γ9_1, ints .u32 kT 64), (γ8_1, ints .u32 (hd (pd f n) (nb n)) 8), (γ1_0, ints .u8 (fun _ => 0) 32)] ∧ Kp γ1_0 w w') ∧ i ≤ 32) (fun i => 32 - i) 0 ?st4 ?rd4
  case st4 => exact ⟨(slotfn [undef, undef, undef, undef, undef, undef, undef, undef, undef, undef, undef, undef, undef, undef, undef, undef, undef, undef, undef, undef, undef, undef, undef, undef, undef, undef, undef, undef, undef, undef, undef, undef, undef, undef, undef, undef, undef, undef, undef, undef, undef, undef, undef, undef, undef, undef, undef, undef, undef, undef, undef, undef, undef, undef, undef, undef, undef, undef]), rfl, ⟨H28.out.1, H28.out.2⟩, by omega⟩
  intro i a' w29 hI
  obtain ⟨s4, rfl, hMB, hk4⟩ := hI
  have H29 : Hid (_ ∧ _) := hMB
  clear hMB H28
  by_cases hlti : i < 32
  · have hrd : True := trivial
    clear hrd
    refine wp_seq (wp_seq ?_)
    refine walk_seqA 2 [.quiet (.int .i64 ((i : Nat) : Int)), .quiet (.bool true)] (sB H29) ?ho17 ?he17
    case ho17 => exact ak (fun _ => ⟨rfl, fun _ _ => rfl⟩) (ak (by refine fun γ => ⟨rfl, fun w' h => ?_⟩; clear h; go_simp <;> omega) trivial)
    intro γ w30 l hM hl
    have H30 := keepK H29 hM.below
    clear hM hl l H29 γ
    refine rest0 rfl (then_normal (wp_cond_true rfl ?_))
    refine wp_skip (then_normal ?_)
    refine wp_seq (wp_block ?_)
    refine walk_seqA 12 [.quiet (.int .i64 ((i : Nat) : Int)), .quiet (.int .i64 ((i : Nat) : Int)), .quiet (.int .i64 ((i / 4 : Nat) : Int)), .quiet (PT γ8_1 (i / 4)), .quiet (W32 ((hd (pd f n) (nb n)) (i / 4))), .quiet (.int .i64 ((i : Nat) : Int)), .quiet (.int .i64 ((i % 4 : Nat) : Int)), .quiet (.int .i64 ((8 * (i % 4) : Nat) : Int)), .quiet (.int .i64 ((24 - (8 * (i % 4)) : Nat) : Int)), .quiet (W32 (sr ((hd (pd f n) (nb n)) (i / 4)) (24 - (8 * (i % 4))))), .quiet (Z8 ((sr ((hd (pd f n) (nb n)) (i / 4)) (24 - (8 * (i % 4)))) % 256)), .quiet (PT γ15_0 i)] (sB H30) ?ho18 ?he18
    case ho18 => exact ak (fun _ => ⟨rfl, fun _ _ => rfl⟩) (ak (fun _ => ⟨rfl, fun _ _ => rfl⟩) (ak (fun γ => ⟨rfl, fun w' _ => ex_quo3 (a := i) (b := 4) (by omega) (by omega) rfl rfl rfl⟩) (ak (fun γ => ⟨rfl, fun w' _ => ex_ix0_52 (j := i / 4) rfl rfl rfl (by omega)⟩) (ak (fun γ => ⟨rfl, fun w' h => ex_loadC h 2 rfl rfl rfl Tryd.isAgg51 (ints_get _ _ (by omega))⟩) (ak (fun _ => ⟨rfl, fun _ _ => rfl⟩) (ak (fun γ => ⟨rfl, fun w' _ => ex_rem3 (a := i) (b := 4) (by omega) (by omega) rfl rfl rfl⟩) (ak (by refine fun γ => ⟨rfl, fun w' h => ?_⟩; clear h; go_simp; rw [IntKind.wrap_i64]; omega) (ak (by refine fun γ => ⟨rfl, fun w' h => ?_⟩; clear h; go_simp; rw [IntKind.wrap_i64]; omega) (ak (fun γ => ⟨rfl, fun w' _ => ex_shr32 (k := 24 - (8 * (i % 4))) (by omega) rfl rfl rfl⟩) (ak (fun γ => ⟨rfl, fun w' _ => ex_cv51_5 rfl rfl⟩) (ak (fun γ => ⟨rfl, fun w' _ => ex_ix0_25 (j := i) rfl rfl rfl (by omega)⟩) trivial)))))))))))
    intro γ w31 l hM hl
    have H31 := keepK H30 hM.below
    clear hM hl l H30 γ
    refine rest_at (l := [12]) rfl ?_
    refine rest_store rfl rfl rfl (ex_storeI H31.out.1 0 rfl rfl Tryd.sizeOf5 rfl rfl (by rw [ints_len]; omega)) ?_
    have H32 : Hid (Mm (w31.setCells γ15_0 i ([Z8 ((sr ((hd (pd f n) (nb n)) (i / 4)) (24 - (8 * (i % 4)))) % 256)])) [(γ15_0, ints .u8 (up (ob (hd (pd f n) (nb n)) i) i ((sr ((hd (pd f n) (nb n)) (i / 4)) (24 - (8 * (i % 4)))) % 256)) 32), (γ9_1, ints .u32 kT 64), (γ8_1, ints .u32 (hd (pd f n) (nb n)) 8), (γ1_0, ints .u8 (fun _ => 0) 32)] ∧ Kp γ1_0 w (w31.setCells γ15_0 i ([Z8 ((sr ((hd (pd f n) (nb n)) (i / 4)) (24 - (8 * (i % 4)))) % 256)]))) := ⟨by
      have h := H31.out.1.put 0 (off := i) (vs := [Z8 ((sr ((hd (pd f n) (nb n)) (i / 4)) (24 - (8 * (i % 4)))) % 256)]) rfl (by rw [ints_len]; simp only [List.length_cons, List.length_nil]; omega)
      rw [ints_patch _ _ _ _ (by omega)] at h
      exact h, H31.out.2.put (Or.inr o15_0.out)⟩
    clear H31
    generalize hgw : World.setCells _ _ _ _ = w32 at H32 ⊢
    clear hgw
    refine rest_nil (block_normal (then_normal ?_))
    refine walk_seqA 2 [.quiet (.int .i64 ((i : Nat) : Int)), .quiet (.int .i64 ((i + 1 : Nat) : Int))] (sB H32) ?ho19 ?he19
    case ho19 => exact ak (fun _ => ⟨rfl, fun _ _ => rfl⟩) (ak (by refine fun γ => ⟨rfl, fun w' h => ?_⟩; clear h; go_simp; rw [IntKind.wrap_i64]; omega) trivial)
    intro γ w33 l hM hl
    have H33 := keepK H32 hM.below
    clear hM hl l H32 γ
    refine rest_at (l := [2]) rfl ?_
    refine rest_set (d := 8) (v := .int .i64 ((i + 1 : Nat) : Int)) (w' := w33) rfl rfl rfl rfl ?_
    simp only [Act.put, sa, sz, ss]
    refine rest_nil (then_normal ?_)
    exact ⟨i + 1, ⟨(slotfn [undef, undef, undef, undef, undef, undef, undef, undef, undef, undef, undef, undef, undef, undef, undef, undef, undef, undef, undef, undef, undef, undef, undef, undef, undef, undef, undef, undef, undef, undef, undef, undef, undef, undef, undef, undef, undef, undef, undef, undef, undef, undef, .int .i64 ((i : Nat) : Int), .bool true, .int .i64 ((i : Nat) : Int), .int .i64 ((i + 1 : Nat) : Int), .int .i64 ((i : Nat) : Int), .int .i64 ((i : Nat) : Int), .int .i64 ((i / 4 : Nat) : Int), PT γ8_1 (i / 4), W32 ((hd (pd f n) (nb n)) (i / 4)), .int .i64 ((i : Nat) : Int), .int .i64 ((i % 4 : Nat) : Int), .int .i64 ((8 * (i % 4) : Nat) : Int), .int .i64 ((24 - (8 * (i % 4)) : Nat) : Int), W32 (sr ((hd (pd f n) (nb n)) (i / 4)) (24 - (8 * (i % 4)))), Z8 ((sr ((hd (pd f n) (nb n)) (i / 4)) (24 - (8 * (i % 4)))) % 256), PT γ15_0 i]), rfl, ⟨H33.out.1, H33.out.2⟩, by omega⟩, by omega⟩
  have hiN : i = 32 := by omega
  subst hiN
  refine wp_seq (wp_seq ?_)
  refine walk_seqA 2 [.quiet (.int .i64 ((32 : Nat) : Int)), .quiet (.bool false)] (sB H29) ?ho20 ?he20
  case ho20 => exact ak (fun _ => ⟨rfl, fun _ _ => rfl⟩) (ak (by refine fun γ => ⟨rfl, fun w' h => ?_⟩; clear h; go_simp <;> omega) trivial)
  intro γ w34 l hM hl
  have H34 := keepK H29 hM.below
  clear hM hl l H29 γ
  refine rest0 rfl (then_normal (wp_cond_false rfl ?_))
  refine wp_exit ?_
  repeat refine then_exit ?_
  refine block_exit ?_
  refine then_normal (wp_seq ?_)
  refine walk_seqA 1 [.quiet (.agg (ints .u8 (ob (hd (pd f n) (nb n)) 32) 32).toArray)] (sB H34) ?ho21 ?he21
  case ho21 => exact ak (fun γ => ⟨rfl, fun w' h => ex_loadT h 0 rfl rfl rfl Tryd.isAgg25 Tryd.sizeOf25 (ints_whole _ _ _) (ints_len _ _ _)⟩) trivial
  intro γ w35 l hM hl
  have H35 := keepK H34 hM.below
  clear hM hl l H34 γ
  refine rest_at (l := [1]) rfl ?_
  refine rest_store rfl rfl rfl (ex_storeT (vs := ints .u8 (ob (hd (pd f n) (nb n)) 32) 32) H35.out.1 3 rfl rfl rfl rfl (by rw [ints_len]; exact Tryd.sizeOf25) (ints_all _ _ _) (by simp [ints_len])) ?_
  have H36 : Hid (Mm (w35.setCells γ1_0 0 (ints .u8 (ob (hd (pd f n) (nb n)) 32) 32)) [(γ15_0, ints .u8 (ob (hd (pd f n) (nb n)) 32) 32), (γ9_1, ints .u32 kT 64), (γ8_1, ints .u32 (hd (pd f n) (nb n)) 8), (γ1_0, ints .u8 (ob (hd (pd f n) (nb n)) 32) 32)] ∧ Kp γ1_0 w (w35.setCells γ1_0 0 (ints .u8 (ob (hd (pd f n) (nb n)) 32) 32))) := ⟨by
    have h := H35.out.1.put 3 (off := 0) (vs := ints .u8 (ob (hd (pd f n) (nb n)) 32) 32) rfl (by simp [ints_len])
    rw [ints_patch0 _ _ _ _] at h
    exact h, H35.out.2.put (Or.inl rfl)⟩
  clear H35
  generalize hgw : World.setCells _ _ _ _ = w36 at H36 ⊢
  clear hgw
  refine rest_nil (then_normal (wp_ret ?_))
  repeat (first | refine then_ret ?_ | refine block_ret ?_)
  have hf0 := var_T H36.out.1 3 rfl Tryd.isAgg25 Tryd.sizeOf25 (ints_len _ _ _)
  refine bodyPost_ret (v := .agg (ints .u8 (ob (hd (pd f n) (nb n)) 32) 32).toArray) (by simp [results, Tryd.results15, asAddr, hf0]) rfl ?_
  exact ⟨rfl, Below.kp HB.out H36.out.2 o1_0.out HB.out.size⟩
/-- The digest of bytes, as the document has it. -/
theorem dSum_any (f : Nat → Nat) (n : Nat) (hn : n ≤ 1048576) (v : Value) (w : World) (hv : (v = .slice none 0 0 ∧ n = 0) ∨ ∃ a cp, v = .slice (some a) n cp ∧ Ra a n f w) : Calls Tryd.prog 15 #[v] w fun e w' => e = .returned (.agg (ints .u8 (ds f n) 32).toArray) ∧ Below w.heap.size w w' := by
  rcases hv with ⟨rfl, h0⟩ | ⟨a, cp, rfl, hR⟩
  · exact dSum_none f n hn h0 w
  · exact dSum_some f n hn a cp w hR
end Rg
end Go.Proofs.YtolflfjfegngnaaDoor
end
section
namespace Go.Proofs.YtolflfjfegngnaaDoor
open Go.RowKit
namespace Rg
/-! The words. -/
theorem or_low (a b k : Nat) (h : b < 2 ^ k) : a * 2 ^ k ||| b = a * 2 ^ k + b := by
  have := Nat.two_pow_add_eq_or_of_lt (i := k) (b := b) h a
  rw [Nat.mul_comm a]
  exact this.symm
theorem wd_val {a b c d : Nat} (ha : a < 256) (hb : b < 256) (hc : c < 256) (hd : d < 256) : ou (ou (ou (sl (c32 a) 24) (sl (c32 b) 16)) (sl (c32 c) 8)) (c32 d) = ((a * 256 + b) * 256 + c) * 256 + d := by
  have e1 : sl (c32 a) 24 = a * 2 ^ 24 := by unfold sl c32; omega
  have e2 : sl (c32 b) 16 = b * 2 ^ 16 := by unfold sl c32; omega
  have e3 : sl (c32 c) 8 = c * 2 ^ 8 := by unfold sl c32; omega
  have e4 : c32 d = d := by unfold c32; omega
  have o1 : ou (a * 2 ^ 24) (b * 2 ^ 16) = (a * 256 + b) * 2 ^ 16 := by
    unfold ou
    rw [or_low a (b * 2 ^ 16) 24 (by omega)]
    omega
  have o2 : ou ((a * 256 + b) * 2 ^ 16) (c * 2 ^ 8) = ((a * 256 + b) * 256 + c) * 2 ^ 8 := by
    unfold ou
    rw [or_low (a * 256 + b) (c * 2 ^ 8) 16 (by omega)]
    omega
  have o3 : ou (((a * 256 + b) * 256 + c) * 2 ^ 8) d = ((a * 256 + b) * 256 + c) * 256 + d := by
    unfold ou
    rw [or_low ((a * 256 + b) * 256 + c) d 8 (by omega)]
    omega
  rw [e1, e2, e3, e4, o1, o2, o3]
theorem wd_one {a b : Nat} (ha : a < 16777216) (hb : b < 256) : ou (sl a 8) (c32 b) = a * 256 + b := by
  have e1 : sl a 8 = a * 2 ^ 8 := by unfold sl; omega
  have e2 : c32 b = b := by unfold c32; omega
  rw [e1, e2]
  unfold ou
  rw [or_low a b 8 (by omega)]
  omega
theorem up_up (f : Nat → Nat) (k a b : Nat) : up (up f k a) k b = up f k b := by
  funext j
  unfold up
  by_cases h : j = k
  · rw [if_pos h, if_pos h]
  · rw [if_neg h, if_neg h, if_neg h]
theorem up_same (f : Nat → Nat) (k a : Nat) : up f k a k = a := by unfold up; rw [if_pos rfl]
theorem iw_four (v : Nat → Nat) (t : Nat) (y : Nat → Nat) (h0 : v t = 0) (hy : ∀ i, y i < 256) : iw v t y 4 = up v t (((y 0 * 256 + y 1) * 256 + y 2) * 256 + y 3) := by
  have a0 := hy 0
  have a1 := hy 1
  have a2 := hy 2
  have a3 := hy 3
  have e1 : iw v t y 1 = up v t (y 0) := by
    show up v t (ou (sl (v t) 8) (c32 (y 0))) = _
    rw [h0, wd_one (by omega) a0, Nat.zero_mul, Nat.zero_add]
  have e2 : iw v t y 2 = up v t (y 0 * 256 + y 1) := by
    show up (iw v t y 1) t (ou (sl (iw v t y 1 t) 8) (c32 (y 1))) = _
    rw [e1, up_same, up_up, wd_one (by omega) a1]
  have e3 : iw v t y 3 = up v t ((y 0 * 256 + y 1) * 256 + y 2) := by
    show up (iw v t y 2) t (ou (sl (iw v t y 2 t) 8) (c32 (y 2))) = _
    rw [e2, up_same, up_up, wd_one (by omega) a2]
  show up (iw v t y 3) t (ou (sl (iw v t y 3 t) 8) (c32 (y 3))) = _
  rw [e3, up_same, up_up, wd_one (by omega) a3]
theorem w0_zero (x : Nat → Nat) : ∀ k j, k ≤ j → w0 x k j = 0
  | 0, _, _ => rfl
  | k + 1, j, h => by
    show up (w0 x k) k (wd x k) j = 0
    unfold up
    rw [if_neg (by omega), w0_zero x k j (by omega)]
theorem dw_w0 (P : Nat → Nat) (ap : Nat) (hP : ∀ j, P j < 256) : ∀ k, k ≤ 16 → dw P ap k = w0 (fun j => P (ap + j)) k
  | 0, _ => rfl
  | k + 1, h => by
    rw [dw_lo P ap (by omega), dw_w0 P ap hP k (by omega), iw_four _ _ _ (w0_zero _ k k (Nat.le_refl _)) (fun i => hP _)]
    show _ = up (w0 (fun j => P (ap + j)) k) k (wd (fun j => P (ap + j)) k)
    congr 1
    unfold wd
    rw [wd_val (hP _) (hP _) (hP _) (hP _), Nat.add_zero, Nat.add_assoc ap, Nat.add_assoc ap, Nat.add_assoc ap]
theorem dw_ws (P : Nat → Nat) (ap : Nat) (hP : ∀ j, P j < 256) : ∀ m, dw P ap (16 + m) = ws (w0 (fun j => P (ap + j)) 16) m
  | 0 => dw_w0 P ap hP 16 (Nat.le_refl _)
  | m + 1 => by
    show dw P ap (16 + m + 1) = _
    rw [dw_hi P ap (by omega), dw_ws P ap hP m]
    rfl
/-! The eight numbers. -/
def xn (K W : Nat) (x : Nat → Nat) : Nat → Nat := ei (ad (xp K W x) (xq x)) (x 0) (x 1) (x 2) (ad (x 3) (xp K W x)) (x 4) (x 5) (x 6)
def st8 (x : Nat → Nat) : St := ⟨x 0, x 1, x 2, x 3, x 4, x 5, x 6, x 7⟩
theorem ei_0 (a b c d e f g h : Nat) : ei a b c d e f g h 0 = a := rfl
theorem ei_1 (a b c d e f g h : Nat) : ei a b c d e f g h 1 = b := rfl
theorem ei_2 (a b c d e f g h : Nat) : ei a b c d e f g h 2 = c := rfl
theorem ei_3 (a b c d e f g h : Nat) : ei a b c d e f g h 3 = d := rfl
theorem ei_4 (a b c d e f g h : Nat) : ei a b c d e f g h 4 = e := rfl
theorem ei_5 (a b c d e f g h : Nat) : ei a b c d e f g h 5 = f := rfl
theorem ei_6 (a b c d e f g h : Nat) : ei a b c d e f g h 6 = g := rfl
theorem ei_7 (a b c d e f g h : Nat) : ei a b c d e f g h 7 = h := rfl
theorem pp_xp (K W : Nat) (x : Nat → Nat) : pp K W (st8 x) = xp K W x := by
  unfold pp xp
  unfold st8
  exact Eq.refl _
theorem qq_xq (x : Nat → Nat) : qq (st8 x) = xq x := by
  unfold qq xq
  unfold st8
  exact Eq.refl _
theorem stp_of (K W : Nat) (s : St) (p q : Nat) (hp : pp K W s = p) (hq : qq s = q) : stp K W s = ⟨ad p q, s.a, s.b, s.c, ad s.d p, s.e, s.f, s.g⟩ := by
  unfold stp
  rw [hp, hq]
theorem stp_xn (K W : Nat) (x : Nat → Nat) : stp K W (st8 x) = st8 (xn K W x) := by
  rw [stp_of K W (st8 x) _ _ (pp_xp K W x) (qq_xq x)]
  unfold xn
  generalize xp K W x = p
  generalize xq x = q
  unfold st8
  generalize ad p q = u
  generalize ad (x 3) p = v
  rw [ei_0, ei_1, ei_2, ei_3, ei_4, ei_5, ei_6, ei_7]
theorem rn_succ (s W : Nat → Nat) (t : Nat) : rn s W (t + 1) = stp (kT t) (W t) (rn s W t) := by rw [rn]
theorem rn_zero (s W : Nat → Nat) : rn s W 0 = st8 s := by rw [rn, st8]
theorem xs_succ (h K W : Nat → Nat) (k : Nat) : xs h K W (k + 1) = xn (K k) (W k) (xs h K W k) := by rw [xs, xn]
theorem xs_zero (h K W : Nat → Nat) : xs h K W 0 = h := by rw [xs]
theorem rn_xs (h W : Nat → Nat) (k : Nat) : rn h W k = st8 (xs h kT W k) := by
  induction k with
  | zero => rw [rn_zero, xs_zero]
  | succ k ih => rw [xs_succ, rn_succ, ih, stp_xn]
theorem hv_get (h x : Nat → Nat) : ∀ k j, hv h x k j = if j < k then ad (h j) (x j) else h j
  | 0, j => by rw [if_neg (by omega)]; rfl
  | k + 1, j => by
    show up (hv h x k) k (ad (hv h x k k) (x k)) j = _
    unfold up
    rw [hv_get h x k k, hv_get h x k j, if_neg (Nat.lt_irrefl k)]
    by_cases e : j = k
    · subst e
      rw [if_pos rfl, if_pos (by omega)]
    · rw [if_neg e]
      by_cases l : j < k
      · rw [if_pos l, if_pos (by omega)]
      · rw [if_neg l, if_neg (by omega)]
theorem lt8 {p : Nat → Prop} (h : p 0 ∧ p 1 ∧ p 2 ∧ p 3 ∧ p 4 ∧ p 5 ∧ p 6 ∧ p 7) (j : Nat) (hj : j < 8) : p j := by
  obtain ⟨h0, h1, h2, h3, h4, h5, h6, h7⟩ := h
  rcases (by omega : j = 0 ∨ j = 1 ∨ j = 2 ∨ j = 3 ∨ j = 4 ∨ j = 5 ∨ j = 6 ∨ j = 7) with rfl | rfl | rfl | rfl | rfl | rfl | rfl | rfl <;> assumption
theorem mw_get (s W : Nat → Nat) (j : Nat) (hj : j < 8) : mw s W j = ad (s j) (xs s kT W 64 j) := by
  unfold mw
  rw [rn_xs]
  generalize xs s kT W 64 = g
  simp only [st8]
  exact lt8 (p := fun j => ei (ad (s 0) (g 0)) (ad (s 1) (g 1)) (ad (s 2) (g 2)) (ad (s 3) (g 3)) (ad (s 4) (g 4)) (ad (s 5) (g 5)) (ad (s 6) (g 6)) (ad (s 7) (g 7)) j = ad (s j) (g j)) ⟨ei_0 .., ei_1 .., ei_2 .., ei_3 .., ei_4 .., ei_5 .., ei_6 .., ei_7 ..⟩ j hj
theorem db_mx (s P : Nat → Nat) (ap : Nat) (hP : ∀ j, P j < 256) (j : Nat) (hj : j < 8) : db s kT P ap j = mx s (fun j => P (ap + j)) j := by
  unfold db mx
  rw [hv_get, if_pos hj, mw_get _ _ _ hj, ← dw_ws P ap hP 48]
theorem rn_congr {s s' : Nat → Nat} (W : Nat → Nat) (h : ∀ j, j < 8 → s j = s' j) (k : Nat) : rn s W k = rn s' W k := by
  induction k with
  | zero =>
    rw [rn_zero, rn_zero]
    unfold st8
    rw [h 0 (by decide), h 1 (by decide), h 2 (by decide), h 3 (by decide), h 4 (by decide), h 5 (by decide), h 6 (by decide), h 7 (by decide)]
  | succ k ih => rw [rn_succ, rn_succ, ih]
theorem w0_congr {x x' : Nat → Nat} (h : ∀ j, j < 64 → x j = x' j) : ∀ k, k ≤ 16 → w0 x k = w0 x' k
  | 0, _ => rfl
  | k + 1, hk => by
    show up (w0 x k) k (wd x k) = up (w0 x' k) k (wd x' k)
    rw [w0_congr h k (by omega)]
    unfold wd
    rw [h (4 * k) (by omega), h (4 * k + 1) (by omega), h (4 * k + 2) (by omega), h (4 * k + 3) (by omega)]
theorem mx_congr {s s' x x' : Nat → Nat} (h : ∀ j, j < 8 → s j = s' j) (hx : ∀ j, j < 64 → x j = x' j) : mx s x = mx s' x' := by
  unfold mx
  rw [w0_congr hx 16 (Nat.le_refl _)]
  unfold mw
  rw [rn_congr _ h, h 0 (by decide), h 1 (by decide), h 2 (by decide), h 3 (by decide), h 4 (by decide), h 5 (by decide), h 6 (by decide), h 7 (by decide)]
/-! Block by block. -/
def ch (f : Nat → Nat) : Nat → Nat → Nat
  | 0 => fT
  | k + 1 => mx (ch f k) (fun j => f (64 * k + j))
theorem hby_ch (f : Nat → Nat) : ∀ n, (hby f ⟨fT, fun _ => 0, 0⟩ n).s = ch f (n / 64) ∧ ∀ j, j < n % 64 → (hby f ⟨fT, fun _ => 0, 0⟩ n).r j = f (64 * (n / 64) + j)
  | 0 => ⟨rfl, fun j hj => by omega⟩
  | n + 1 => by
    obtain ⟨h1, h2⟩ := hby_ch f n
    have hc : (hby f ⟨fT, fun _ => 0, 0⟩ n).c = n := by rw [hby_c]; exact Nat.zero_add n
    have hr : ∀ j, j ≤ n % 64 → up (hby f ⟨fT, fun _ => 0, 0⟩ n).r (n % 64) (f n) j = f (64 * (n / 64) + j) := fun j hj => by
      unfold up
      by_cases e : j = n % 64
      · rw [if_pos e, e]; congr 1; omega
      · rw [if_neg e, h2 j (by omega)]
    have e1 : (hby f ⟨fT, fun _ => 0, 0⟩ (n + 1)).s = if (n + 1) % 64 = 0 then mx (hby f ⟨fT, fun _ => 0, 0⟩ n).s (up (hby f ⟨fT, fun _ => 0, 0⟩ n).r (n % 64) (f n)) else (hby f ⟨fT, fun _ => 0, 0⟩ n).s := by
      show (if ((hby f ⟨fT, fun _ => 0, 0⟩ n).c + 1) % 64 = 0 then mx (hby f ⟨fT, fun _ => 0, 0⟩ n).s (up (hby f ⟨fT, fun _ => 0, 0⟩ n).r ((hby f ⟨fT, fun _ => 0, 0⟩ n).c % 64) (f n)) else _) = _
      rw [hc]
    have e2 : (hby f ⟨fT, fun _ => 0, 0⟩ (n + 1)).r = up (hby f ⟨fT, fun _ => 0, 0⟩ n).r (n % 64) (f n) := by
      show up (hby f ⟨fT, fun _ => 0, 0⟩ n).r ((hby f ⟨fT, fun _ => 0, 0⟩ n).c % 64) (f n) = _
      rw [hc]
    rw [e1, e2]
    by_cases hz : (n + 1) % 64 = 0
    · rw [if_pos hz]
      refine ⟨?_, fun j hj => by omega⟩
      rw [show (n + 1) / 64 = n / 64 + 1 by omega]
      show _ = mx (ch f (n / 64)) (fun j => f (64 * (n / 64) + j))
      exact mx_congr (fun j _ => by rw [h1]) (fun j hj => hr j (by omega))
    · rw [if_neg hz, show (n + 1) / 64 = n / 64 by omega]
      exact ⟨h1, fun j hj => hr j (by omega)⟩
theorem hd_step (P : Nat → Nat) (hP : ∀ j, P j < 256) (k : Nat) {s x : Nat → Nat} (hs : ∀ j, j < 8 → hd P k j = s j) (hx : ∀ j, j < 64 → P (64 * k + j) = x j) (j : Nat) (hj : j < 8) : hd P (k + 1) j = mx s x j := by
  show db (hd P k) kT P (64 * k) j = _
  rw [db_mx _ _ _ hP j hj]
  exact congrFun (mx_congr hs hx) j
theorem hd_ch (f P : Nat → Nat) (hP : ∀ j, P j < 256) (n : Nat) (hf : ∀ j, j < n → P j = f j) : ∀ k, 64 * k ≤ n → ∀ j, j < 8 → hd P k j = ch f k j
  | 0, _, _, _ => rfl
  | k + 1, hk, j, hj => hd_step P hP k (hd_ch f P hP n hf k (by omega)) (fun i hi => hf _ (by omega)) j hj
/-! The bytes of the eight numbers. -/
theorem bo_get (s : Nat → Nat) : ∀ n i t, t < 4 → bo s n (4 * i + t) = if i < n then sr (s i) (24 - 8 * t) % 256 else 0
  | 0, i, t, _ => by rw [if_neg (by omega)]; rfl
  | n + 1, i, t, ht => by
    show up (up (up (up (bo s n) (4 * n) (sr (s n) 24 % 256)) (4 * n + 1) (sr (s n) 16 % 256)) (4 * n + 2) (sr (s n) 8 % 256)) (4 * n + 3) (s n % 256) (4 * i + t) = _
    have ih := bo_get s n i t ht
    unfold up
    by_cases e : i = n
    · subst e
      rw [if_pos (Nat.lt_succ_self i)]
      rcases (by omega : t = 0 ∨ t = 1 ∨ t = 2 ∨ t = 3) with rfl | rfl | rfl | rfl
      · rw [if_neg (by omega), if_neg (by omega), if_neg (by omega), if_pos (by omega)]
      · rw [if_neg (by omega), if_neg (by omega), if_pos (by omega)]
      · rw [if_neg (by omega), if_pos (by omega)]
      · rw [if_pos (by omega)]
        unfold sr
        rw [show 24 - 8 * 3 = 0 from rfl, Nat.pow_zero, Nat.div_one]
    · rw [if_neg (by omega), if_neg (by omega), if_neg (by omega), if_neg (by omega), ih]
      by_cases l : i < n
      · rw [if_pos l, if_pos (by omega)]
      · rw [if_neg l, if_neg (by omega)]
theorem ob_get (h : Nat → Nat) : ∀ n j, ob h n j = if j < n then sr (h (j / 4)) (24 - 8 * (j % 4)) % 256 else 0
  | 0, j => by rw [if_neg (by omega)]; rfl
  | n + 1, j => by
    show up (ob h n) n (sr (h (n / 4)) (24 - (8 * (n % 4))) % 256) j = _
    unfold up
    by_cases e : j = n
    · subst e; rw [if_pos rfl, if_pos (by omega)]
    · rw [if_neg e, ob_get h n j]
      by_cases l : j < n
      · rw [if_pos l, if_pos (by omega)]
      · rw [if_neg l, if_neg (by omega)]
theorem ob_bo {h s : Nat → Nat} (e : ∀ j, j < 8 → h j = s j) (j : Nat) (hj : j < 32) : ob h 32 j = bo s 8 j := by
  rw [ob_get, if_pos hj]
  have := bo_get s 8 (j / 4) (j % 4) (by omega)
  rw [show 4 * (j / 4) + j % 4 = j by omega, if_pos (by omega)] at this
  rw [this, e _ (by omega)]
theorem e8_get (x : Nat) : ∀ n j, e8 x n j = if j < n then b8 x j else 0
  | 0, j => by rw [if_neg (by omega)]; rfl
  | n + 1, j => by
    show up (e8 x n) n (sr x (56 - 8 * n) % 256) j = _
    unfold up
    by_cases e : j = n
    · subst e; rw [if_pos rfl, if_pos (by omega)]; rfl
    · rw [if_neg e, e8_get x n j]
      by_cases l : j < n
      · rw [if_pos l, if_pos (by omega)]
      · rw [if_neg l, if_neg (by omega)]
/-! The whole. -/
theorem pd_lt (f : Nat → Nat) (hf : ∀ j, f j < 256) (n j : Nat) : pd f n j < 256 := by
  unfold pd ct
  split
  · unfold pz
    split
    · exact hf j
    · split <;> omega
  · exact Nat.mod_lt _ (by decide)
theorem pd_f (f : Nat → Nat) (n j : Nat) (h : j < n) : pd f n j = f j := by
  unfold pd ct pz
  rw [if_pos (by omega), if_pos h]
theorem pd_n (f : Nat → Nat) (n : Nat) : pd f n n = 128 := by
  unfold pd ct pz
  rw [if_pos (by omega), if_neg (by omega), if_pos rfl]
theorem pd_z (f : Nat → Nat) (n j : Nat) (h : n < j) (h2 : j < n + 1 + zc n) : pd f n j = 0 := by
  unfold pd ct pz
  rw [if_pos h2, if_neg (by omega), if_neg (by omega)]
theorem pd_e (f : Nat → Nat) (n j : Nat) (hn : n ≤ 1048576) (h : n + 1 + zc n ≤ j) : pd f n j = b8 (c64 (8 * n)) (j - (n + 1 + zc n)) := by
  unfold pd ct
  rw [if_neg (by omega), show c64 n = n by unfold c64; omega]
theorem dg0_ds (f : Nat → Nat) (hf : ∀ j, f j < 256) (n : Nat) (hn : n ≤ 1048576) (j : Nat) (hj : j < 32) : dg0 f n j = ds f n j := by
  have hP := pd_lt f hf n
  obtain ⟨hs, hr⟩ := hby_ch f n
  have hc : (hby f ⟨fT, fun _ => 0, 0⟩ n).c = n := by rw [hby_c]; exact Nat.zero_add n
  have hz : zc n = (120 - (n + 1) % 64) % 64 := rfl
  have hb : nb n = (n + 1 + zc n + 8) / 64 := rfl
  have hch := hd_ch f (pd f n) hP n (fun i hi => pd_f f n i hi)
  unfold dg0 ds
  rw [hc, hs]
  generalize (hby f ⟨fT, fun _ => 0, 0⟩ n).r = r at hr
  obtain ⟨m, hm⟩ : ∃ m, m = n / 64 := ⟨_, rfl⟩
  obtain ⟨k, hk⟩ : ∃ k, k = n % 64 := ⟨_, rfl⟩
  rw [← hm] at hr ⊢
  have hnk : n = 64 * m + k := by omega
  have hk64 : k < 64 := by omega
  have h0 := hch m (by omega)
  unfold fz
  rw [← hk] at hr ⊢
  by_cases c1 : k < 56
  · rw [if_pos c1, show nb n = m + 1 by omega]
    refine (ob_bo (fun i hi => hd_step (pd f n) hP m h0 (fun i hi => ?_) i hi) j hj).symm
    unfold pr8 cl
    by_cases a1 : i < k
    · rw [if_neg (by omega), if_neg (by omega), pd_f f n _ (by omega)]
      unfold up
      rw [if_neg (by omega), hr i a1]
    · by_cases a2 : i = k
      · rw [if_neg (by omega), if_neg (by omega), show 64 * m + i = n by omega, pd_n]
        unfold up
        rw [if_pos a2]
      · by_cases a3 : i < 56
        · rw [if_neg (by omega), if_pos (by omega), pd_z f n _ (by omega) (by omega)]
        · rw [if_pos (by omega), e8_get, if_pos (by omega), pd_e f n _ hn (by omega), show 64 * m + i - (n + 1 + zc n) = i - 56 by omega]
  · rw [if_neg c1, show nb n = m + 1 + 1 by omega]
    have two : ∀ x, (∀ i, i < 64 → pd f n (64 * m + i) = x i) → ob (hd (pd f n) (m + 1 + 1)) 32 j = bo (mx (mx (ch f m) x) (pr8 (fun _ => 0) 56 8 (e8 (c64 (8 * n)) 8))) 8 j := fun x hx => by
      refine ob_bo (fun i hi => hd_step (pd f n) hP (m + 1) (fun i hi => hd_step (pd f n) hP m h0 hx i hi) (fun i hi => ?_) i hi) j hj
      unfold pr8
      by_cases a3 : i < 56
      · rw [if_neg (by omega), pd_z f n _ (by omega) (by omega)]
      · rw [if_pos (by omega), e8_get, if_pos (by omega), pd_e f n _ hn (by omega), show 64 * (m + 1) + i - (n + 1 + zc n) = i - 56 by omega]
    by_cases c2 : k < 63
    · rw [if_pos c2]
      refine (two _ (fun i hi => ?_)).symm
      unfold cl
      by_cases a1 : i < k
      · rw [if_neg (by omega), pd_f f n _ (by omega)]
        unfold up
        rw [if_neg (by omega), hr i a1]
      · by_cases a2 : i = k
        · rw [if_neg (by omega), show 64 * m + i = n by omega, pd_n]
          unfold up
          rw [if_pos a2]
        · rw [if_pos (by omega), pd_z f n _ (by omega) (by omega)]
    · rw [if_neg c2]
      refine (two _ (fun i hi => ?_)).symm
      by_cases a1 : i < k
      · rw [pd_f f n _ (by omega)]
        unfold up
        rw [if_neg (by omega), hr i a1]
      · rw [show 64 * m + i = n by omega, pd_n]
        unfold up
        rw [if_pos (by omega)]
end Rg
end Go.Proofs.YtolflfjfegngnaaDoor
end
section
namespace Go.Proofs.YtolflfjfegngnaaDoor
open Go.RowKit
namespace Rg
set_option maxRecDepth 100000
/-- The bytes of a list that is lent. -/
def lf (xs : List Int) (j : Nat) : Nat := (lent xs j).toNat
theorem lf_int {xs : List Int} (hx : ∀ x ∈ xs, 0 ≤ x ∧ x < 256) (j : Nat) : ((lf xs j : Nat) : Int) = lent xs j := Int.toNat_of_nonneg (lent_bd xs hx j).1
theorem lf_lt {xs : List Int} (hx : ∀ x ∈ xs, 0 ≤ x ∧ x < 256) (j : Nat) : lf xs j < 256 := by
  have := lent_bd xs hx j
  unfold lf
  omega
theorem lent_born (xs : List Int) (c : Nat) (v : Value) (hx : ∀ x ∈ xs, 0 ≤ x ∧ x < 256) (hn : xs.length ≤ 1048576) (w : World) (h : BSl w xs c v) :
    Calls Tryd.prog 13 #[v] w fun e w' => Below w.heap.size w w' ∧ ∃ g, e = .returned (.slice (some ⟨g, 0, none⟩) xs.length (xs.length + 3)) ∧ w.heap.size ≤ g ∧ g < w'.heap.size ∧ Blk w' g (ints .u8 (lf xs) (xs.length + 3)) := by
  refine Calls.mono (lent_any xs c v hn w h) ?_
  rintro e w' ⟨he, h1, h2, h3⟩
  refine ⟨h3, w.heap.size, he, Nat.le_refl _, h1, fun j u hj => ?_⟩
  have hjn : j < xs.length + 3 := by
    have := (List.getElem?_eq_some_iff.1 hj).1
    rwa [ints_len] at this
  rw [ints_get _ _ hjn, lf_int hx] at hj
  obtain rfl := Option.some.inj hj
  exact h2 j hjn
theorem Mm.row8 {w : World} {l : List (Nat × List Value)} {xs : List Int} {g : Nat} (hx : ∀ x ∈ xs, 0 ≤ x ∧ x < 256) (h : Mm w l) (k : Nat) (hk : l[k]? = some (g, ints .u8 (lf xs) (xs.length + 3))) : g < w.heap.size ∧ Row8 w g (xs.length + 3) (lent xs) := by
  have hb := h.blk _ (List.mem_of_getElem? hk)
  refine ⟨hb.1, fun j hj => ?_⟩
  have := hb.2 j _ (ints_get .u8 (lf xs) hj)
  rw [lf_int hx] at this
  exact this
theorem Mm.rs {w : World} {l : List (Nat × List Value)} {f : Nat → Nat} {g m n : Nat} (h : Mm w l) (k : Nat) (hk : l[k]? = some (g, ints .u8 f m)) (hn : n ≤ m) : Rs g 0 n f w := by
  have hb := h.blk _ (List.mem_of_getElem? hk)
  exact ⟨fun _ => hb.1, fun i hi => by rw [Nat.zero_add]; exact (hb.2 i _ (ints_get .u8 f (by omega))).1⟩
theorem Bv.start (gb o n cp : Nat) : Bv gb o n cp 0 (.slice (some ⟨gb, o, none⟩) n cp) := ⟨fun _ => rfl, fun h => ⟨some ⟨gb, o, none⟩, cp, by rw [← h]⟩⟩
theorem all_of {f f' : Nat → Nat} {n : Nat} (h : ∀ j, j < n → f j = f' j) : ((List.range n).all fun j => decide (f j = f' j)) = true := by
  rw [List.all_eq_true]
  intro j hj
  exact decide_eq_true (h j (List.mem_range.1 hj))
theorem call13 : ∀ args w, (callFunc 13 args).run Tryd.prog w = .ok (.enter 13 args) w := by intro args w; go_simp
theorem call15 : ∀ args w, (callFunc 15 args).run Tryd.prog w = .ok (.enter 15 args) w := by intro args w; go_simp
theorem call16 : ∀ args w, (callFunc 16 args).run Tryd.prog w = .ok (.enter 16 args) w := by intro args w; go_simp
end Rg
end Go.Proofs.YtolflfjfegngnaaDoor
end
section
namespace Go.Proofs.YtolflfjfegngnaaDoor
open Go.RowKit
namespace Rg
set_option maxRecDepth 100000
theorem Src.kp2 {g gb o n : Nat} {f : Nat → Nat} {w w' : World} (h : Src g gb o n f w) (k : Kp g w w') : Src g gb o n f w' :=
  ⟨fun hn => Nat.lt_of_lt_of_le (h.lt hn) k.size, h.ne, fun i hi => h.kp k i hi⟩
theorem Kp.join {g : Nat} {a b c : World} (h : Kp g a b) (k : Kp g b c) : Kp g a c :=
  ⟨k.os.trans h.os, k.tape.trans h.tape, k.output.trans h.output, Nat.le_trans h.size k.size, fun i hi hg => (k.block i (Nat.lt_of_lt_of_le hi h.size) hg).trans (h.block i hi hg)⟩
theorem Src.void (g gb o : Nat) (f : Nat → Nat) (w : World) : Src g gb o 0 f w := ⟨fun h => absurd h (by decide), fun h => absurd h (by decide), fun i hi => absurd hi (by omega)⟩
theorem Bv.void (gb o cp : Nat) (p : Option Addr) (c : Nat) : Bv gb o 0 cp 0 (.slice p 0 c) := ⟨fun h => absurd h (by decide), fun _ => ⟨p, c, rfl⟩⟩
theorem Mm.src {w : World} {l : List (Nat × List Value)} {f : Nat → Nat} {g gb m n : Nat} {cs : List Value} (h : Mm w l) (i j : Nat) (hg : l[i]? = some (g, cs)) (hk : l[j]? = some (gb, ints .u8 f m)) (hij : i ≠ j) (hn : n ≤ m) : Src g gb 0 n f w := by
  have h2 := h.two i j hg hk hij
  have hb := h2.blk (gb, ints .u8 f m) (by simp)
  refine ⟨fun _ => hb.1, fun _ e => ?_, fun i hi => by rw [Nat.zero_add]; exact (hb.2 i _ (ints_get .u8 f (by omega))).1⟩
  have := (List.pairwise_cons.1 h2.nd).1 (gb, ints .u8 f m) (by simp)
  exact this e.symm
set_option maxRecDepth 100000 in
theorem New_any  (w : World) (hm : Mm w [(0, ints .u32 fT 8)]) :
    Calls Tryd.prog 25 #[] w fun e w' => Below w.heap.size w w' ∧ ∃ g, e = .returned (PT g 0) ∧ w.heap.size ≤ g ∧ g < w'.heap.size ∧ Blk w' g (hs true fT (fun _ => 0) 0) := by
  have H0 : Hid (_ ∧ _) := ⟨hm, Below.refl w.heap.size w⟩
  clear hm
  go_enter Tryd.func25, Tryd.ntmps25
  refine wp_seq ?_
  refine walk_seqB 1 [.quiet (.pointer none)] H0 ?ho1 ?he1
  case ho1 => exact ak (fun _ => ⟨rfl, fun _ _ => rfl⟩) trivial
  intro _ w1 H1
  refine rest0 rfl (then_normal (wp_seq ?_))
  refine walk_seqA 3 [.call (.agg (hs true fT (fun _ => 0) 0).toArray), .made (hs false (fun _ => 0) (fun _ => 0) 0) 58, .laid 1 (hs false (fun _ => 0) (fun _ => 0) 0) (hs true fT (fun _ => 0) 0)] (sB H1) ?ho2 ?he2 (hL := ?hL2)
  case hL2 => exact ⟨⟨_, rfl⟩, trivial⟩
  case ho2 => exact ak (fun γ => ⟨rfl, fun w' h => ⟨44, #[], exec_call rfl call44 rfl (mpn rfl), begun_any w' (h.one 0 rfl)⟩⟩) (ak (fun γ => ⟨rfl, fun w' => ex_mk58 rfl⟩) (ak (fun γ => ⟨rfl, rfl, (hs_len _ _ _ _).trans (hs_len _ _ _ _).symm, fun w' h => ex_laidH h Tryd.sizeOf58 rfl rfl rfl⟩) trivial))
  intro γ w2 l hM hl
  have H2 : Hid (Mm w2 [(γ 1, hs true fT (fun _ => 0) 0), (0, ints .u32 fT 8)] ∧ _) := growB H1 hM (Nat.le_refl _) hl [1] rfl (by decide)
  have o2_1 := ownB H1 hM (Nat.le_refl _) hl (i := 1) rfl
  clear hM hl l H1
  generalize γ 1 = γ2_1 at H2 o2_1 ⊢
  clear γ
  refine rest0 rfl (then_normal (wp_seq ?_))
  refine walk_seqB 1 [.quiet (PT γ2_1 0)] H2 ?ho3 ?he3
  case ho3 => exact ak (fun _ => ⟨rfl, fun _ _ => rfl⟩) trivial
  intro _ w3 H3
  clear H2
  refine rest0 rfl (then_normal (wp_ret ?_))
  repeat (first | refine then_ret ?_ | refine block_ret ?_)
  refine bodyPost_ret (v := PT γ2_1 0) (by simp [results, Tryd.results25, go_sem, *]) rfl ?_
  exact ⟨H3.out.2, γ2_1, rfl, o2_1.out, (H3.out.1.one 0 rfl).blk _ (List.mem_singleton.2 rfl)⟩
set_option maxHeartbeats 1000000 in
set_option maxRecDepth 100000 in
theorem Write_ok (g gb o n cp : Nat) (q : Hq) (f : Nat → Nat) (v : Value) (hv : Bv gb o n cp 0 v) (hcp : n ≤ cp) (hb : q.c + n < 4611686018427387904) (w : World) (hm : Mm w [(g, hs true q.s q.r q.c), (1, ints .u32 kT 64)]) (hS : Src g gb o n f w) :
    Calls Tryd.prog 26 #[PT g 0, v] w fun e w' => e = .returned (.int .i64 0) ∧ Mm w' [(g, hs true (hby f q n).s (hby f q n).r (hby f q n).c)] ∧ Kp g w w' := by
  have H0 : Hid (_ ∧ _) := ⟨hm, Kp.refl g w⟩
  clear hm
  have S : Hid (Src g gb o n f w) := hS
  clear hS
  go_enter Tryd.func26, Tryd.ntmps26
  refine wp_seq ?_
  refine walk_seqA 1 [.quiet (.int .i64 0)] (sB H0) ?ho1 ?he1
  case ho1 => exact ak (fun _ => ⟨rfl, fun _ _ => rfl⟩) trivial
  intro γ w1 l hM hl
  have H1 := keepK H0 hM.below
  clear hM hl l γ
  refine rest0 rfl (then_normal (wp_seq (wp_seq ?_)))
  refine walk_seqA 3 [.quiet (PT g 0), .call (.bool true), .quiet (.bool false)] (sB H1) ?ho2 ?he2
  case ho2 => exact ak (fun _ => ⟨rfl, fun _ _ => rfl⟩) (ak (fun γ => ⟨rfl, fun w' h => ⟨54, #[PT g 0], exec_call rfl call54 rfl (mpn rfl), known_any _ _ _ _ _ w' (h.one 0 rfl)⟩⟩) (ak (by refine fun γ => ⟨rfl, fun w' h => ?_⟩; clear h; go_simp) trivial))
  intro γ w2 l hM hl
  have H2 := keepK H1 hM.below
  clear hM hl l H1 γ
  refine rest0 rfl (then_normal (wp_cond_false rfl ?_))
  refine wp_skip (then_normal (wp_seq ?_))
  refine walk_seqA 2 [.quiet (PT g 0), .quiet (v)] (sB H2) ?ho3 ?he3
  case ho3 => exact ak (fun _ => ⟨rfl, fun _ _ => rfl⟩) (ak (fun _ => ⟨rfl, fun _ _ => rfl⟩) trivial)
  intro γ w3 l hM hl
  have H3 := keepK H2 hM.below
  clear hM hl l H2 γ
  refine rest_at (l := [2]) rfl ?_
  refine rest_enter (d := 10) (R := fun vv w' => vv = .tuple #[] ∧ Mm w' [(g, hs true ((hby f q n).s) ((hby f q n).r) ((hby f q n).c))] ∧ Kp g w3 w') rfl rfl rfl (exec_call (args := #[PT g 0, v]) rfl call45 rfl (mpn rfl)) (Calls.mono (add_any g gb o n cp true q f v hv hcp hb w3 (H3.out.1.two 0 1 rfl rfl (by decide)) (S.out.kp2 H3.out.2)) (fun e w2 hh => ⟨_, hh.1, rfl, hh.2⟩)) ?_
  rintro _ w4 ⟨rfl, hn, hp⟩
  have H4 : Hid (Mm w4 [(g, hs true ((hby f q n).s) ((hby f q n).r) ((hby f q n).c)), (1, ints .u32 kT 64)] ∧ Kp g w w4) := ⟨H3.out.1.change 0 rfl hp hn, H3.out.2.join hp⟩
  clear hn hp H3
  simp only [Act.put, sa, sz, ss]
  refine rest_nil (then_normal (wp_seq ?_))
  refine walk_seqA 1 [.quiet (.int .i64 0)] (sB H4) ?ho4 ?he4
  case ho4 => exact ak (fun _ => ⟨rfl, fun _ _ => rfl⟩) trivial
  intro γ w5 l hM hl
  have H5 := keepK H4 hM.below
  clear hM hl l H4 γ
  refine rest0 rfl (then_normal (wp_ret ?_))
  repeat (first | refine then_ret ?_ | refine block_ret ?_)
  refine bodyPost_ret (v := .int .i64 0) (by simp [results, Tryd.results26, go_sem, *]) rfl ?_
  exact ⟨rfl, H5.out.1.one 0 rfl, H5.out.2⟩
set_option maxRecDepth 100000 in
theorem HSum_ok (g : Nat) (q : Hq) (w : World) (hm : Mm w [(g, hs true q.s q.r q.c), (1, ints .u32 kT 64)]) :
    Calls Tryd.prog 29 #[PT g 0] w fun e w' => e = .returned (.agg (ints .u8 (fz q.s q.r q.c) 32).toArray) ∧ Below w.heap.size w w' := by
  have H0 : Hid (_ ∧ _) := ⟨hm, Below.refl w.heap.size w⟩
  clear hm
  go_enter Tryd.func29, Tryd.ntmps29
  refine wp_seq ?_
  refine walk_seqA 1 [.made (ints .u8 (fun _ => 0) 32) 25] (sB H0) ?ho1 ?he1
  case ho1 => exact ak (fun γ => ⟨rfl, fun w' => ex_mk25 rfl⟩) trivial
  intro γ w1 l hM hl
  have H1 : Hid (Mm w1 [(γ 0, ints .u8 (fun _ => 0) 32), (g, hs true q.s q.r q.c), (1, ints .u32 kT 64)] ∧ _) := growB H0 hM (Nat.le_refl _) hl [0] rfl (by decide)
  have o1_0 := ownB H0 hM (Nat.le_refl _) hl (i := 0) rfl
  clear hM hl l
  generalize γ 0 = γ1_0 at H1 o1_0 ⊢
  clear γ
  refine rest0 rfl (then_normal (wp_seq (wp_seq ?_)))
  refine walk_seqB 3 [.quiet (PT g 0), .call (.bool true), .quiet (.bool false)] H1 ?ho2 ?he2
  case ho2 => exact ak (fun _ => ⟨rfl, fun _ _ => rfl⟩) (ak (fun γ => ⟨rfl, fun w' h => ⟨54, #[PT g 0], exec_call rfl call54 rfl (mpn rfl), known_any _ _ _ _ _ w' (h.one 1 rfl)⟩⟩) (ak (by refine fun γ => ⟨rfl, fun w' h => ?_⟩; clear h; go_simp) trivial))
  intro _ w2 H2
  clear H1
  refine rest0 rfl (then_normal (wp_cond_false rfl ?_))
  refine wp_skip (then_normal (wp_seq ?_))
  refine walk_seqB 4 [.quiet (PT g 0), .quiet (PT g 0), .quiet (.agg (hs true q.s q.r q.c).toArray), .call (.agg (ints .u8 (fz q.s q.r q.c) 32).toArray)] H2 ?ho3 ?he3
  case ho3 => exact ak (fun _ => ⟨rfl, fun _ _ => rfl⟩) (ak (by refine fun γ => ⟨rfl, fun w' h => ?_⟩; clear h; go_simp) (ak (fun γ => ⟨rfl, fun w' h => ex_loadT h 1 rfl rfl rfl Tryd.isAgg58 Tryd.sizeOf58 (hs_whole _ _ _ _) (hs_len _ _ _ _)⟩) (ak (fun γ => ⟨rfl, fun w' h => ⟨46, #[.agg (hs true q.s q.r q.c).toArray], exec_call rfl call46 rfl (mpn rfl), finish_any _ _ _ _ w' (h.one 2 rfl)⟩⟩) trivial)))
  intro _ w3 H3
  clear H2
  refine rest_at (l := [4]) rfl ?_
  refine rest_store rfl rfl rfl (ex_storeT (vs := ints .u8 (fz q.s q.r q.c) 32) H3.out.1 0 rfl rfl rfl rfl (by rw [ints_len]; exact Tryd.sizeOf25) (ints_all _ _ _) (by simp [ints_len])) ?_
  have H4 : Hid (Mm (w3.setCells γ1_0 0 (ints .u8 (fz q.s q.r q.c) 32)) [(γ1_0, ints .u8 (fz q.s q.r q.c) 32), (g, hs true q.s q.r q.c), (1, ints .u32 kT 64)] ∧ Below w.heap.size w (w3.setCells γ1_0 0 (ints .u8 (fz q.s q.r q.c) 32))) := ⟨by
    have h := H3.out.1.put 0 (off := 0) (vs := ints .u8 (fz q.s q.r q.c) 32) rfl (by simp [ints_len])
    rw [ints_patch0 _ _ _ _] at h
    exact h, below_setCells _ o1_0.out _ _ _ H3.out.2⟩
  clear H3
  generalize hgw : World.setCells _ _ _ _ = w4 at H4 ⊢
  clear hgw
  refine rest_nil (then_normal (wp_ret ?_))
  repeat (first | refine then_ret ?_ | refine block_ret ?_)
  have hf0 := var_T H4.out.1 0 rfl Tryd.isAgg25 Tryd.sizeOf25 (ints_len _ _ _)
  refine bodyPost_ret (v := .agg (ints .u8 (fz q.s q.r q.c) 32).toArray) (by simp [results, Tryd.results29, asAddr, hf0]) rfl ?_
  exact ⟨rfl, H4.out.2⟩
set_option maxRecDepth 100000 in
theorem Len_ok (g : Nat) (q : Hq) (hc : q.c < 4611686018427387904) (w : World) (hm : Mm w [(g, hs true q.s q.r q.c)]) :
    Calls Tryd.prog 31 #[PT g 0] w fun e w' => e = .returned (.int .i64 ((q.c : Nat) : Int)) ∧ Below w.heap.size w w' := by
  have H0 : Hid (_ ∧ _) := ⟨hm, Below.refl w.heap.size w⟩
  clear hm
  go_enter Tryd.func31, Tryd.ntmps31
  refine wp_seq ?_
  refine walk_seqB 1 [.quiet (.int .i64 0)] H0 ?ho1 ?he1
  case ho1 => exact ak (fun _ => ⟨rfl, fun _ _ => rfl⟩) trivial
  intro _ w1 H1
  refine rest0 rfl (then_normal (wp_seq (wp_seq ?_)))
  refine walk_seqB 3 [.quiet (PT g 0), .call (.bool true), .quiet (.bool false)] H1 ?ho2 ?he2
  case ho2 => exact ak (fun _ => ⟨rfl, fun _ _ => rfl⟩) (ak (fun γ => ⟨rfl, fun w' h => ⟨54, #[PT g 0], exec_call rfl call54 rfl (mpn rfl), known_any _ _ _ _ _ w' (h.one 0 rfl)⟩⟩) (ak (by refine fun γ => ⟨rfl, fun w' h => ?_⟩; clear h; go_simp) trivial))
  intro _ w2 H2
  clear H1
  refine rest0 rfl (then_normal (wp_cond_false rfl ?_))
  refine wp_skip (then_normal (wp_seq ?_))
  refine walk_seqB 6 [.quiet (PT g 0), .quiet (PT g 0), .quiet (PT g 73), .quiet (U q.c), .quiet (.int .i64 ((q.c : Nat) : Int)), .quiet (.int .i64 ((q.c : Nat) : Int))] H2 ?ho3 ?he3
  case ho3 => exact ak (fun _ => ⟨rfl, fun _ _ => rfl⟩) (ak (by refine fun γ => ⟨rfl, fun w' h => ?_⟩; clear h; go_simp) (ak (by refine fun γ => ⟨rfl, fun w' h => ?_⟩; clear h; go_simp) (ak (fun γ => ⟨rfl, fun w' h => ex_loadC h 0 rfl rfl rfl Tryd.isAgg56 (hs_count _ _ _ _)⟩) (ak (fun γ => ⟨rfl, fun w' _ => ex_cv56_3 (by omega) rfl rfl⟩) (ak (fun _ => ⟨rfl, fun _ _ => rfl⟩) trivial)))))
  intro _ w3 H3
  clear H2
  refine rest0 rfl (then_normal (wp_ret ?_))
  repeat (first | refine then_ret ?_ | refine block_ret ?_)
  refine bodyPost_ret (v := .int .i64 ((q.c : Nat) : Int)) (by simp [results, Tryd.results31, go_sem, *]) rfl ?_
  exact ⟨rfl, H3.out.2⟩
end Rg
end Go.Proofs.YtolflfjfegngnaaDoor
end
section
namespace Go.Proofs.YtolflfjfegngnaaDoor
open Go.RowKit
namespace Rg
set_option maxRecDepth 100000
theorem Mm.over {u w : World} {l : List (Nat × List Value)} {g : Nat} {cs : List Value} (h0 : Mm u l) (hge : u.heap.size ≤ g) (h1 : Mm w l) (hb : Blk w g cs) (hlt : g < w.heap.size) : Mm w ((g, cs) :: l) :=
  h1.cons hb hlt (fun p hp => by have := (h0.blk p hp).1; omega)
theorem Rs.void (g o : Nat) (f : Nat → Nat) (w : World) : Rs g o 0 f w := ⟨fun h => absurd h (by decide), fun i hi => absurd hi (by omega)⟩
section
variable {ρ : Operand → Value} {o : Oper} {x y : Operand} {g : Nat} {w : World}
end
theorem call25 : ∀ args w, (callFunc 25 args).run Tryd.prog w = .ok (.enter 25 args) w := by intro args w; go_simp
end Rg
end Go.Proofs.YtolflfjfegngnaaDoor
end
section
namespace Go.Proofs.YtolflfjfegngnaaDoor
open Go.RowKit
namespace Rg
end Rg
end Go.Proofs.YtolflfjfegngnaaDoor
end
section
namespace Go.Proofs.YtolflfjfegngnaaDoor
open Go.RowKit
namespace Rg
set_option maxRecDepth 100000
/-- The numbers of a list that is handed in. -/
def Cz (p : Option Addr) (zs : List Int) (w : World) : Prop := ∀ g o, p = some ⟨g, o, none⟩ → ∀ i, i < zs.length → g < w.heap.size ∧ w.cell? ⟨g, o + i, none⟩ = some (.int .i64 (zs.getD i 0))
theorem Cz.below {p : Option Addr} {zs : List Int} {w w' : World} (h : Cz p zs w) (hb : Below w.heap.size w w') : Cz p zs w' := fun g o e i hi => by
  obtain ⟨h1, h2⟩ := h g o e i hi
  exact ⟨Nat.lt_of_lt_of_le h1 hb.size, by rw [hb.cell (p := ⟨g, o + i, none⟩) h1]; exact h2⟩
theorem Bv.len {gb o n cp i : Nat} {v : Value} (h : Bv gb o n cp i v) (hi : i ≤ n) : ∃ p c, v = .slice p (n - i) c := by
  by_cases e : i < n
  · exact ⟨_, _, h.1 e⟩
  · obtain ⟨p, c, e2⟩ := h.2 (by omega)
    exact ⟨p, c, by rw [e2, show n - i = 0 by omega]⟩
theorem Src.sub {g gb o n : Nat} {f : Nat → Nat} {w : World} (h : Src g gb o n f w) (i m : Nat) (him : i + m ≤ n) : Src g gb (o + i) m (fun j => f (i + j)) w :=
  ⟨fun hm => h.lt (by omega), fun hm => h.ne (by omega), fun j hj => by rw [Nat.add_assoc]; exact h.at_ (i + j) (by omega)⟩
section
variable {ρ : Operand → Value} {o : Oper} {x y : Operand} {g off m c j : Nat} {w : World}
theorem ex_slH22 {l : Nat} (ho : o.op = .slice 22 x none (some y) none) (hx : ρ x = .slice (some ⟨g, off, none⟩) m c) (hy : ρ y = .int .i64 ((l : Nat) : Int)) (hh : l ≤ c) : (execOp ρ o).run Tryd.prog w = .ok (.value (.slice (some ⟨g, off, none⟩) l c)) w := by
  simp only [execOp, ho, hx, hy, Option.map_some, Option.map_none]
  clear ho hx hy
  go_simp
end
end Rg
end Go.Proofs.YtolflfjfegngnaaDoor
end
section
namespace Go.Proofs.YtolflfjfegngnaaDoor
open Go.RowKit
namespace Rg
set_option maxRecDepth 100000
/-- A part handed in: its slice, and where its bytes lie. -/
structure Pt8 where
  gb : Nat
  o : Nat
  n : Nat
  cp : Nat
  p : Option Addr
  f : Nat → Nat
/-- m parts lie in the list that pl begins. -/
def Ls (pl : Option Addr) (P : Nat → Pt8) (m : Nat) (w : World) : Prop := ∀ g o, pl = some ⟨g, o, none⟩ → ∀ i, i < m → g < w.heap.size ∧ w.cell? ⟨g, o + i, none⟩ = some (.slice (P i).p (P i).n (P i).cp) ∧ Rs (P i).gb (P i).o (P i).n (P i).f w
theorem Ls.below {pl : Option Addr} {P : Nat → Pt8} {m : Nat} {w w' : World} (h : Ls pl P m w) (hb : Below w.heap.size w w') : Ls pl P m w' := fun g o e i hi => by
  obtain ⟨h1, h2, h3⟩ := h g o e i hi
  exact ⟨Nat.lt_of_lt_of_le h1 hb.size, by rw [hb.cell h1]; exact h2, h3.below hb⟩
section
variable {ρ : Operand → Value} {o : Oper} {x y : Operand} {g off m c j : Nat} {w : World}
theorem ex_ixP29 {p : Option Addr} (he : p = some ⟨g, off, none⟩) (ho : o.op = .indexAddr 29 x y) (hx : ρ x = .slice p m c) (hy : ρ y = .int .i64 ((j : Nat) : Int)) (h : j < m) : (execOp ρ o).run Tryd.prog w = .ok (.value (PT g (off + j))) w := by
  subst he
  simp only [execOp, ho, hx, hy]
  clear ho hx hy
  go_simp
end
end Rg
end Go.Proofs.YtolflfjfegngnaaDoor
end
section
namespace Go.Proofs.YtolflfjfegngnaaDoor
open Go.RowKit
namespace Rg
set_option maxRecDepth 100000
theorem call27 : ∀ args w, (callFunc 27 args).run Tryd.prog w = .ok (.enter 27 args) w := by intro args w; go_simp
theorem call28 : ∀ args w, (callFunc 28 args).run Tryd.prog w = .ok (.enter 28 args) w := by intro args w; go_simp
section
variable {ρ : Operand → Value} {o : Oper} {x y : Operand} {g off j n a b c : Nat} {w : World}
/-- Bytes, bit by bit: unlike. -/
def x8 (a b : Nat) : Nat := (a ^^^ b) % 256
theorem bits8x (a b : Nat) : bits .xor .u8 (a : Int) (b : Int) = ((x8 a b : Nat) : Int) := by
  have h1 : ∀ k : Nat, (BitVec.ofInt 8 (k : Int)).toNat = k % 256 := fun k => by rw [BitVec.ofInt_natCast, BitVec.toNat_ofNat]
  show IntKind.u8.wrap ((BitVec.ofInt 8 (a : Int) ^^^ BitVec.ofInt 8 (b : Int)).toNat : Int) = _
  rw [BitVec.toNat_xor, h1, h1, ← Nat.xor_mod_two_pow (n := 8)]
  unfold x8
  simp [IntKind.wrap, IntKind.bits, IntKind.signed]
theorem ex_xor8 (ho : o.op = .binOp .xor 5 x y 5) (hx : ρ x = Z8 a) (hy : ρ y = Z8 b) : (execOp ρ o).run Tryd.prog w = .ok (.value (Z8 (x8 a b))) w := by
  have e := bits8x a b
  simp only [execOp, ho, hx, hy]
  clear ho hx hy
  go_simp
  first | done | exact e
end
end Rg
end Go.Proofs.YtolflfjfegngnaaDoor
end
section
namespace Go.Proofs.YtolflfjfegngnaaDoor
open Go.RowKit
namespace Rg
set_option maxRecDepth 100000
/-- A block with its first i bytes xor x. -/
def mr (K : Nat → Nat) (x : Nat) : Nat → Nat → Nat
  | 0 => K
  | i + 1 => up (mr K x i) i (x8 (mr K x i i) x)
theorem mr_ge (K : Nat → Nat) (x : Nat) : ∀ i j, i ≤ j → mr K x i j = K j
  | 0, _, _ => rfl
  | i + 1, j, h => by
    show up (mr K x i) i _ j = _
    unfold up
    rw [if_neg (by omega), mr_ge K x i j (by omega)]
theorem mr_lt (K : Nat → Nat) (x : Nat) : ∀ i j, j < i → mr K x i j = x8 (K j) x
  | 0, _, h => absurd h (by omega)
  | i + 1, j, h => by
    show up (mr K x i) i _ j = _
    unfold up
    by_cases e : j = i
    · rw [if_pos e, mr_ge K x i i (Nat.le_refl _), e]
    · rw [if_neg e, mr_lt K x i j (by omega)]
/-- A block, each byte xor x. -/
def mk8 (K : Nat → Nat) (x : Nat) : Nat → Nat := fun j => x8 (K j) x
end Rg
end Go.Proofs.YtolflfjfegngnaaDoor
end
section
namespace Go.Proofs.YtolflfjfegngnaaDoor
open Go.RowKit
namespace Rg
set_option maxRecDepth 100000
/-- How many bytes k parts have. -/
def tn (P : Nat → Pt8) : Nat → Nat
  | 0 => 0
  | k + 1 => tn P k + (P k).n
/-- What a list of parts wants: where it lies, and each part's slice. -/
structure Lw (pl : Option Addr) (P : Nat → Pt8) (m : Nat) : Prop where
  p2 : 0 < m → ∃ g o, pl = some ⟨g, o, none⟩
  bv : ∀ i, i < m → Bv (P i).gb (P i).o (P i).n (P i).cp 0 (.slice (P i).p (P i).n (P i).cp) ∧ (P i).n ≤ (P i).cp
  tl : ∀ i, i < m → 64 + tn P i + (P i).n < 4611686018427387904
  ml : m ≤ 1048576
theorem Ls.mk {w : World} {l : List (Nat × List Value)} {gs : Nat} {vs : List Value} {P : Nat → Pt8} {m : Nat} (h : Mm w l) (k : Nat) (hk : l[k]? = some (gs, vs)) (hv : ∀ i, i < m → vs[i]? = some (.slice (P i).p (P i).n (P i).cp)) (hr : ∀ i, i < m → Rs (P i).gb (P i).o (P i).n (P i).f w) : Ls (some ⟨gs, 0, none⟩) P m w := fun g o e i hi => by
  injection e with e
  injection e with e1 e2
  subst e1 e2
  have hb := h.blk _ (List.mem_of_getElem? hk)
  exact ⟨hb.1, by rw [Nat.zero_add]; exact (hb.2 i _ (hv i hi)).1, hr i hi⟩
theorem Ls.one {w : World} {l : List (Nat × List Value)} {gs : Nat} {q : Pt8} (h : Mm w l) (k : Nat) (hk : l[k]? = some (gs, [.slice q.p q.n q.cp])) (hr : Rs q.gb q.o q.n q.f w) : Ls (some ⟨gs, 0, none⟩) (fun _ => q) 1 w :=
  Ls.mk h k hk (fun i hi => by
    obtain rfl : i = 0 := by omega
    rfl) (fun _ _ => hr)
/-- A part that is a whole row. -/
def pw (g n : Nat) (f : Nat → Nat) : Pt8 := ⟨g, 0, n, n, some ⟨g, 0, none⟩, f⟩
theorem pw_bv (g n : Nat) (f : Nat → Nat) : Bv (pw g n f).gb (pw g n f).o (pw g n f).n (pw g n f).cp 0 (.slice (pw g n f).p (pw g n f).n (pw g n f).cp) ∧ (pw g n f).n ≤ (pw g n f).cp := ⟨Bv.start _ _ _ _, Nat.le_refl _⟩
theorem Lw.one (gs g n : Nat) (f : Nat → Nat) (hn : n ≤ 1048576) : Lw (some ⟨gs, 0, none⟩) (fun _ => pw g n f) 1 :=
  ⟨fun _ => ⟨gs, 0, rfl⟩, fun _ _ => pw_bv g n f, fun i hi => by
    obtain rfl : i = 0 := by omega
    show 64 + 0 + n < _
    omega, by decide⟩
section
variable {ρ : Operand → Value} {o : Oper} {x : Operand} {w : World}
end
end Rg
end Go.Proofs.YtolflfjfegngnaaDoor
end
section
namespace Go.Proofs.YtolflfjfegngnaaDoor
open Go.RowKit
namespace Rg
set_option maxRecDepth 100000
/-- The code of a message under a block. -/
def hmi (K f : Nat → Nat) (n : Nat) : Nat → Nat := fz (hby f (hby (mk8 K 54) ⟨fT, fun _ => 0, 0⟩ 64) n).s (hby f (hby (mk8 K 54) ⟨fT, fun _ => 0, 0⟩ 64) n).r (hby f (hby (mk8 K 54) ⟨fT, fun _ => 0, 0⟩ 64) n).c
theorem hby_cg {f f' : Nat → Nat} (q : Hq) : ∀ n, (∀ j, j < n → f j = f' j) → hby f q n = hby f' q n
  | 0, _ => rfl
  | n + 1, h => by
    show hone (hby f q n) (f n) = hone (hby f' q n) (f' n)
    rw [hby_cg q n fun j hj => h j (by omega), h n (by omega)]
theorem hby_ct (f g : Nat → Nat) (q : Hq) (n m : Nat) : hby (ct f n g) q (n + m) = hby g (hby f q n) m := by
  rw [hby_add]
  have e1 : hby (ct f n g) q n = hby f q n := hby_cg _ _ fun j hj => by unfold ct; rw [if_pos hj]
  rw [e1]
  exact hby_cg _ _ fun j hj => by unfold ct; rw [if_neg (by omega), Nat.add_sub_cancel_left]
/-- A part handed in is a slice. -/
structure Pok (q : Pt8) : Prop where
  bv : Bv q.gb q.o q.n q.cp 0 (.slice q.p q.n q.cp)
  le : q.n ≤ q.cp
abbrev Pt8.rs (q : Pt8) (w : World) : Prop := Rs q.gb q.o q.n q.f w
theorem Lw.of (gs : Nat) {q : Pt8} (h : Pok q) (hn : q.n ≤ 1048576) : Lw (some ⟨gs, 0, none⟩) (fun _ => q) 1 :=
  ⟨fun _ => ⟨gs, 0, rfl⟩, fun _ _ => ⟨h.bv, h.le⟩, fun i hi => by
    obtain rfl : i = 0 := by omega
    show 64 + 0 + q.n < _
    omega, by decide⟩
theorem Pok.at {q : Pt8} (h : Pok q) (hn : 0 < q.n) : q.p = some ⟨q.gb, q.o, none⟩ := by
  have e := h.bv.1 hn
  injection e
section
variable {ρ : Operand → Value} {o : Oper} {x y : Operand} {g off m c j a : Nat} {w : World}
end
end Rg
end Go.Proofs.YtolflfjfegngnaaDoor
end
section
namespace Go.Proofs.YtolflfjfegngnaaDoor
open Go.RowKit
namespace Rg
set_option maxRecDepth 100000
/-- A part that can be read, while nothing old is changed. -/
structure Bq (q : Pt8) (w w' : World) : Prop where
  b : Below w.heap.size w w'
  r : q.rs w'
theorem Bq.grow {q : Pt8} {w w1 w2 : World} (h : Bq q w w1) (hb : Below w1.heap.size w1 w2) : Bq q w w2 := ⟨h.b.trans (hb.mono h.b.size), h.r.below hb⟩
theorem Bq.size {q : Pt8} {w w1 : World} (h : Bq q w w1) : w.heap.size ≤ w1.heap.size := h.b.size
theorem ct_zero (f g : Nat → Nat) : ct f 0 g = g := by
  funext j
  unfold ct
  rw [if_neg (by omega), Nat.sub_zero]
section
variable {ρ : Operand → Value} {o : Oper} {x y z : Operand} {a c : Nat} {w : World}
end
end Rg
end Go.Proofs.YtolflfjfegngnaaDoor
end
section
namespace Go.Proofs.YtolflfjfegngnaaDoor
open Go.RowKit
namespace Rg
set_option maxRecDepth 100000
theorem Zo.blk {w w1 : World} {B n g cap : Nat} {l : List (Nat × List Value)} {P : Nat → Nat} (h : Zo w B l (.slice (some ⟨g, 0, none⟩) n cap) n P w1) : B ≤ g ∧ g < w1.heap.size ∧ n ≤ cap ∧ Blk w1 g (ints .u8 P n) := by
  have hl := World.ownsRow.lt h.own g rfl
  refine ⟨hl.1, hl.2, ?_, fun j v hj => ?_⟩
  · rcases h.own.2 with ⟨h1, _⟩ | ⟨g', cap', cur, h1, _, _, h2, _⟩
    · cases h1
    · injection h1 with _ _ e
      rw [e]
      exact h2
  · have hjn : j < n := by
      have := (List.getElem?_eq_some_iff.1 hj).1
      rwa [ints_len] at this
    refine ⟨?_, World.ownsRow.frozenAt h.own j⟩
    rw [World.ownsRow.cellAt h.own j (by omega)]
    exact hj
section
variable {ρ : Operand → Value} {o : Oper} {x y : Operand} {z : Int} {w : World}
end
end Rg
namespace Rg
end Rg
end Go.Proofs.YtolflfjfegngnaaDoor
end
section
namespace Go.Proofs.YtolflfjfegngnaaDoor
open Go.RowKit
namespace Rg
set_option maxRecDepth 100000
/-- No part. -/
def pno : Pt8 := ⟨0, 0, 0, 0, none, fun _ => 0⟩
theorem pno_ok : Pok pno := ⟨Bv.void _ _ _ _ _, Nat.le_refl _⟩
theorem pno_rs (w : World) : pno.rs w := Rs.void _ _ _ _
section
variable {ρ : Operand → Value} {o : Oper} {x y : Operand} {a b : Nat} {w : World}
end
end Rg
end Go.Proofs.YtolflfjfegngnaaDoor
end
section
namespace Go.Proofs.YtolflfjfegngnaaDoor
open Go.RowKit
namespace Rg
set_option maxRecDepth 100000
theorem Zo.mm {w w1 : World} {B n g cap : Nat} {l : List (Nat × List Value)} {P : Nat → Nat} (h : Zo w B l (.slice (some ⟨g, 0, none⟩) n cap) n P w1) : Mm w1 ((g, ints .u8 P n) :: l) :=
  h.m.cons h.blk.2.2.2 h.blk.2.1 (fun p hp => by have h1 := h.lt p hp; have h2 := h.blk.1; omega)
/-- The part that a slice handed in is. -/
theorem bsl_part {w : World} {xs : List Int} {c : Nat} {v : Value} (hx : ∀ x ∈ xs, 0 ≤ x ∧ x < 256) (h : BSl w xs c v) (h0 : v = .slice none 0 0 ∨ ∃ a k c', v = .slice (some a) k c') :
    ∃ q : Pt8, v = .slice q.p q.n q.cp ∧ Pok q ∧ (q.p = none → q.cp = 0) ∧ q.rs w ∧ q.n = xs.length ∧ q.f = lf xs ∧ q.cp = c := by
  cases h using BSl.each with
  | full g o hg hc hcell =>
    refine ⟨⟨g, o, xs.length, c, some ⟨g, o, none⟩, lf xs⟩, rfl, ⟨Bv.start _ _ _ _, hc⟩, (fun e => by cases e), ⟨fun _ => hg, fun i hi => ?_⟩, rfl, rfl, rfl⟩
    rw [hcell i hi]
    have e := lf_int hx i
    show some (Value.int .u8 (xs.getD i 0)) = some (Value.int .u8 ((lf xs i : Nat) : Int))
    rw [e]
    unfold lent
    rw [if_pos hi]
  | void p hx' =>
    subst hx'
    refine ⟨⟨0, 0, 0, c, p, lf []⟩, rfl, ⟨Bv.void _ _ _ _ _, Nat.zero_le _⟩, fun e => ?_, Rs.void _ _ _ _, rfl, rfl, rfl⟩
    have e' : p = none := e
    subst e'
    rcases h0 with h0 | ⟨a, k, c', h0⟩
    · injection h0
    · injection h0 with h1
      cases h1
end Rg
end Go.Proofs.YtolflfjfegngnaaDoor
end
section
namespace Go.Proofs.YtolflfjfegngnaaDoor
open Go.RowKit
namespace Rg
set_option maxRecDepth 100000
section
variable {ρ : Operand → Value} {o : Oper} {x y : Operand} {a b : Nat} {w : World}
end
end Rg
end Go.Proofs.YtolflfjfegngnaaDoor
end
section
namespace Go.Proofs.YtolflfjfegngnaaDoor
open Go.RowKit
namespace Rg
set_option maxRecDepth 100000
def Dv (v : Value) (n : Nat) (f : Nat → Nat) (w : World) : Prop := (v = .slice none 0 0 ∧ n = 0) ∨ ∃ a cp, v = .slice (some a) n cp ∧ Ra a n f w
theorem Dv.below {v : Value} {n : Nat} {f : Nat → Nat} {w w' : World} (h : Dv v n f w) (hb : Below w.heap.size w w') : Dv v n f w' := by
  rcases h with h | ⟨a, cp, e, h⟩
  · exact .inl h
  · exact .inr ⟨a, cp, e, h.below hb⟩
end Rg
end Go.Proofs.YtolflfjfegngnaaDoor
end
section
namespace Go.Proofs.YtolflfjfegngnaaDoor
open Go.RowKit
namespace Rg
set_option maxRecDepth 100000
/-- Two slices of the call's own, beside blocks l. -/
structure Z2 (w : World) (B : Nat) (l : List (Nat × List Value)) (v1 : Value) (n1 : Nat) (P1 : Nat → Nat) (v2 : Value) (n2 : Nat) (P2 : Nat → Nat) (w' : World) : Prop where
  b : Below w.heap.size w w'
  lo : w.heap.size ≤ B
  hi : B ≤ w'.heap.size
  m : Mm w' l
  lt : ∀ p ∈ l, p.1 < B
  o1 : w'.ownsRow B 5 1 v1 n1 (ints .u8 P1 n1)
  o2 : w'.ownsRow B 5 1 v2 n2 (ints .u8 P2 n2)
  ne : v1.ownBlock = none ∨ v1.ownBlock ≠ v2.ownBlock
theorem own_step {w1 w2 : World} {B n : Nat} {vv : Value} {P : Nat → Nat} (h : w1.ownsRow B 5 1 vv n (ints .u8 P n)) (hb : Below w1.heap.size w1 w2) : w2.ownsRow B 5 1 vv n (ints .u8 P n) := by
  refine ⟨h.1, ?_⟩
  rcases h.2 with ⟨h1, h2⟩ | ⟨g, cap, cur, h1, h2, h3, h4⟩
  · exact .inl ⟨h1, h2⟩
  · refine .inr ⟨g, cap, cur, h1, h2, ?_, h4⟩
    rw [hb.block g (Array.getElem?_eq_some_iff.1 h3).1]
    exact h3
theorem own_cg {w1 : World} {B n : Nat} {vv : Value} {P P' : Nat → Nat} (h : w1.ownsRow B 5 1 vv n (ints .u8 P n)) (e : ∀ j, j < n → P j = P' j) : w1.ownsRow B 5 1 vv n (ints .u8 P' n) := by
  rw [ints_congr e] at h
  exact h
theorem own_app {w1 : World} {B n : Nat} {vv : Value} {P : Nat → Nat} (h : w1.ownsRow B 5 1 vv n (ints .u8 P n)) (hB : B ≤ w1.heap.size) {a : Addr} (m c : Nat) (Q : Nat → Nat) (hr : ∀ j, j < m → w1.cell? (a.add j) = some (Z8 (Q j))) (hb : n + m ≤ 2097152) (ty : TypeId) :
    ∃ v' w2, (Builtin.append_ #[22, 22] ty #[vv, .slice (some a) m c]).run Tryd.prog w1 = .ok v' w2 ∧ w2.ownsRow B 5 1 v' (n + m) (ints .u8 (ct P n Q) (n + m)) ∧ w1.grownBy w2 vv.ownBlock ∧ (v'.ownBlock = vv.ownBlock ∨ v'.ownBlock = some w1.heap.size) := by
  obtain ⟨i0, hi, hz0, hz1, hz2⟩ := info_byte
  obtain ⟨v', w2, h1, h2, h3, _, h5⟩ := run_append_own_at (P := Tryd.prog) w1 B 22 ty 5 i0 (.int .u8 0) 1 1 Tryd.underlying22 hi hz0 hz1 hz2 rfl (by decide) vv n _ h a m c (ints .u8 Q m) (by rw [ints_len]; omega)
    (fun j u hj => by
      have hjm : j < m := by
        have := (List.getElem?_eq_some_iff.1 hj).1
        rwa [ints_len] at this
      rw [ints_get _ _ hjm] at hj
      rw [hr j hjm]
      exact hj) (List.all_eq_true.1 (ints_all _ _ _)) (by unfold maxLen; omega) (by omega) hB
  rw [ints_cat] at h2
  exact ⟨v', w2, h1, h2, h3, h5⟩
section
variable {w w1 w2 : World} {B n1 n2 : Nat} {l : List (Nat × List Value)} {v1 v2 : Value} {P1 P2 P' : Nat → Nat}
theorem Z2.size (h : Z2 w B l v1 n1 P1 v2 n2 P2 w1) : w.heap.size ≤ w1.heap.size := h.b.size
theorem Z2.step (h : Z2 w B l v1 n1 P1 v2 n2 P2 w1) (hb : Below w1.heap.size w1 w2) : Z2 w B l v1 n1 P1 v2 n2 P2 w2 :=
  ⟨h.b.trans (hb.mono h.b.size), h.lo, Nat.le_trans h.hi hb.size, h.m.below hb, h.lt, own_step h.o1 hb, own_step h.o2 hb, h.ne⟩
theorem Z2.nil (hm : Mm w1 l) (hb : Below w.heap.size w w1) (P1 P2 : Nat → Nat) : Z2 w w1.heap.size l (.slice none 0 0) 0 P1 (.slice none 0 0) 0 P2 w1 :=
  ⟨hb, hb.size, Nat.le_refl _, hm, fun p hp => (hm.blk p hp).1, World.ownsRow_nil _ _ _ _, World.ownsRow_nil _ _ _ _, .inl rfl⟩
end
/-- A slice of the call's own, apart from the blocks L. -/
structure Ow (w : World) (L : List Nat) (vv : Value) (n : Nat) (P : Nat → Nat) (w' : World) : Prop where
  b : Below w.heap.size w w'
  own : w'.ownsRow w.heap.size 5 1 vv n (ints .u8 P n)
  ne : ∀ g ∈ L, some g ≠ vv.ownBlock
section
variable {w w1 w2 : World} {B n n2 : Nat} {L : List Nat} {l : List (Nat × List Value)} {vv v2 : Value} {P P' P2 : Nat → Nat}
theorem Ow.size (h : Ow w L vv n P w1) : w.heap.size ≤ w1.heap.size := h.b.size
theorem Ow.step (h : Ow w L vv n P w1) (hb : Below w1.heap.size w1 w2) : Ow w L vv n P w2 := ⟨h.b.trans (hb.mono h.b.size), own_step h.own hb, h.ne⟩
theorem Ow.cg (h : Ow w L vv n P w1) (e : ∀ j, j < n → P j = P' j) : Ow w L vv n P' w1 := ⟨h.b, own_cg h.own e, h.ne⟩
theorem Ow.alloc (h : Ow w L vv n P w1) (o : Obj) : Ow w (w1.heap.size :: L) vv n P (w1.alloc o) :=
  ⟨h.b.trans (((Below.refl _ _).alloc (Nat.le_refl _) _).mono h.b.size), own_step h.own ((Below.refl _ _).alloc (Nat.le_refl _) _), fun g hg e => by
    rcases List.mem_cons.1 hg with rfl | hg
    · have := (World.ownsRow.lt h.own _ e.symm).2
      omega
    · exact h.ne g hg e⟩
theorem Ow.put (h : Ow w L vv n P w1) {g off : Nat} {vs : List Value} (hg : g ∈ L) (ho : w.heap.size ≤ g) : Ow w L vv n P (w1.setCells g off vs) := by
  refine ⟨below_setCells _ ho _ _ _ h.b, ⟨h.own.1, ?_⟩, h.ne⟩
  rcases h.own.2 with h1 | ⟨k, cap, cur, h1, h2, h3, h4⟩
  · exact .inl h1
  · refine .inr ⟨k, cap, cur, h1, h2, ?_, h4⟩
    have hk : k ≠ g := fun e => h.ne g hg (by rw [h1, ← e]; rfl)
    rw [heap_setCells0 g k hk]
    exact h3
theorem Ow.app (h : Ow w L vv n P w1) (hm : Mm w1 l) (hl : l.map Prod.fst = L) {a : Addr} (m c : Nat) (Q : Nat → Nat) (hr : ∀ j, j < m → w1.cell? (a.add j) = some (Z8 (Q j))) (hb : n + m ≤ 2097152) (ty : TypeId) :
    ∃ v' w2, (Builtin.append_ #[22, 22] ty #[vv, .slice (some a) m c]).run Tryd.prog w1 = .ok v' w2 ∧ Ow w L v' (n + m) (ct P n Q) w2 ∧ Mm w2 l := by
  obtain ⟨v', w2, h1, h2, h3, h5⟩ := own_app h.own h.b.size m c Q hr hb ty
  have hb2 : Below w.heap.size w1 w2 := (Below.refl _ _).grown h3 h.b.size (fun k hk => (World.ownsRow.lt h.own k hk).1)
  have hne : ∀ p ∈ l, some p.1 ≠ vv.ownBlock := fun p hp => h.ne p.1 (by rw [← hl]; exact List.mem_map_of_mem hp)
  refine ⟨v', w2, h1, ⟨h.b.trans hb2, h2, fun g hg e => ?_⟩, ⟨fun p hp => ?_, hm.nd⟩⟩
  · rcases h5 with e5 | e5
    · exact h.ne g hg (e.trans e5)
    · rw [e5] at e
      rw [← hl] at hg
      obtain ⟨p, hp, e6⟩ := List.mem_map.1 hg
      have := (hm.blk p hp).1
      injection e with e
      omega
  · have hlt := (hm.blk p hp).1
    have hblk := h3.block p.1 hlt (hne p hp)
    refine ⟨Nat.lt_of_lt_of_le hlt hb2.size, fun j v hj => ?_⟩
    have := (hm.blk p hp).2 j v hj
    rw [World.cell?_of_block (a := ⟨p.1, j, none⟩) hblk, World.frozen?_of_block (a := ⟨p.1, j, none⟩) hblk]
    exact this
end
/-- A key's block, as the document fills it. -/
def kz (f : Nat → Nat) (n : Nat) : Nat → Nat := fun j => if j < n then f j else 0
end Rg
end Go.Proofs.YtolflfjfegngnaaDoor
end
section
namespace Go.Proofs.YtolflfjfegngnaaDoor
open Go.RowKit
namespace Rg
set_option maxRecDepth 100000
theorem ct_lt {f g : Nat → Nat} {n : Nat} (hf : ∀ j, f j < 256) (hg : ∀ j, g j < 256) (j : Nat) : ct f n g j < 256 := by
  unfold ct
  split
  · exact hf j
  · exact hg _
/-- A key's block, as the document has it. -/
def kd (f : Nat → Nat) (n : Nat) : Nat → Nat := if 64 < n then kz (ds f n) 32 else kz f n
end Rg
end Go.Proofs.YtolflfjfegngnaaDoor
end
section
namespace Go.Proofs.YtolflfjfegngnaaDoor
open Go.RowKit
namespace Rg
set_option maxRecDepth 100000
/-- A slice handed in: its bytes, its part. -/
structure Ar (xs : List Int) (a : Pt8) : Prop where
  ok : Pok a
  nn : a.p = none → a.cp = 0
  len : a.n = xs.length
  f : a.f = lf xs
  by_ : ∀ x ∈ xs, 0 ≤ x ∧ x < 256
abbrev Pt8.bs (a : Pt8) (xs : List Int) (w : World) : Prop := BSl w xs a.cp (.slice a.p a.n a.cp) ∧ a.rs w
theorem Pt8.bs.below {a : Pt8} {xs : List Int} {w w' : World} (h : a.bs xs w) (hb : Below w.heap.size w w') : a.bs xs w' := ⟨BSl.below h.1 hb, Rs.below h.2 hb⟩
theorem lent_part {xs : List Int} {a : Pt8} (h : Ar xs a) (hn : a.n ≤ 1048576) (w : World) (hB : a.bs xs w) :
    Calls Tryd.prog 13 #[.slice a.p a.n a.cp] w fun e w' => Below w.heap.size w w' ∧ ∃ g, e = .returned (.slice (some ⟨g, 0, none⟩) a.n (a.n + 3)) ∧ w.heap.size ≤ g ∧ g < w'.heap.size ∧ Blk w' g (ints .u8 (lf xs) (a.n + 3)) := by
  have hh := lent_born xs a.cp _ h.by_ (by rw [← h.len]; exact hn) w hB.1
  rw [← h.len] at hh
  exact hh
theorem kept_part {xs : List Int} {a : Pt8} (h : Ar xs a) (hn : a.n ≤ 1048576) {w : World} {l : List (Nat × List Value)} (hm : Mm w l) (k : Nat) {g : Nat} (hk : l[k]? = some (g, ints .u8 (lf xs) (a.n + 3))) (hB : a.bs xs w) : Calls Tryd.prog 16 #[.slice (some ⟨g, 0, none⟩) a.n (a.n + 3), .slice a.p a.n a.cp] w fun e w' => e = .returned (.bool true) ∧ Below w.heap.size w w' := by
  rw [h.len] at hk
  have hr := hm.row8 h.by_ k hk
  have hh := kept_any xs g a.cp _ (by rw [← h.len]; exact hn) w hr.1 hr.2 hB.1
  rw [← h.len] at hh
  exact hh
section
variable {ρ : Operand → Value} {o : Oper} {x y : Operand} {t : Bool} {w : World}
end
theorem bsl_ar {w : World} {xs : List Int} {c : Nat} {v : Value} (hx : ∀ x ∈ xs, 0 ≤ x ∧ x < 256) (h : BSl w xs c v) (h0 : v = .slice none 0 0 ∨ ∃ a k c', v = .slice (some a) k c') :
    ∃ q : Pt8, v = .slice q.p q.n q.cp ∧ Ar xs q ∧ q.bs xs w := by
  obtain ⟨q, e, h1, h2, h3, h4, h5, h6⟩ := bsl_part hx h h0
  subst e
  exact ⟨q, rfl, ⟨h1, h2, h4, h5, hx⟩, by rw [h6]; rw [h6] at h; exact h, h3⟩
end Rg
end Go.Proofs.YtolflfjfegngnaaDoor
end
section
namespace Go.Proofs.YtolflfjfegngnaaDoor
open Go.RowKit
namespace Rg
set_option maxRecDepth 100000
theorem Ow.nil (P : Nat → Nat) (w : World) : Ow w [] (.slice none 0 0) 0 P w := ⟨Below.refl _ _, World.ownsRow_nil _ _ _ _, fun g hg => by cases hg⟩
theorem Ow.form {w w1 : World} {L : List Nat} {n : Nat} {vv : Value} {P : Nat → Nat} (h : Ow w L vv n P w1) (hn : 0 < n) : ∃ g x, vv = .slice (some ⟨g, 0, none⟩) n (n + x) := by
  rcases h.own.2 with ⟨_, h2⟩ | ⟨g, cap, cur, h1, _, _, h4, _⟩
  · omega
  · exact ⟨g, cap - n, by rw [h1, show n + (cap - n) = cap by omega]⟩
theorem Ow.rs {w w1 : World} {L : List Nat} {n g c : Nat} {P : Nat → Nat} (h : Ow w L (.slice (some ⟨g, 0, none⟩) n c) n P w1) : Rs g 0 n P w1 := by
  refine ⟨fun _ => (World.ownsRow.lt h.own g rfl).2, fun i hi => ?_⟩
  have := World.ownsRow.cells h.own (g := g) rfl i _ (ints_get .u8 P hi)
  rw [show (⟨g, 0, none⟩ : Addr).add i = ⟨g, 0 + i, none⟩ by unfold Addr.add; split <;> simp_all] at this
  exact this
theorem Ow.less {w w1 : World} {L : List Nat} {n : Nat} {vv : Value} {P : Nat → Nat} (h : Ow w L vv n P w1) : Ow w [] vv n P w1 := ⟨h.b, h.own, fun g hg => by cases hg⟩
/-- The outer slice, and a part that can be read. -/
structure Oq (q : Pt8) (w : World) (vv : Value) (n : Nat) (P : Nat → Nat) (w' : World) : Prop where
  o : Ow w [] vv n P w'
  r : q.rs w'
theorem Oq.step {q : Pt8} {w w1 w2 : World} {vv : Value} {n : Nat} {P : Nat → Nat} (h : Oq q w vv n P w1) (hb : Below w1.heap.size w1 w2) : Oq q w vv n P w2 := ⟨h.o.step hb, h.r.below hb⟩
theorem Oq.size {q : Pt8} {w w1 : World} {vv : Value} {n : Nat} {P : Nat → Nat} (h : Oq q w vv n P w1) : w.heap.size ≤ w1.heap.size := h.o.b.size
section
variable {ρ : Operand → Value} {o : Oper} {x y : Operand} {a : Nat} {w : World}
end
end Rg
end Go.Proofs.YtolflfjfegngnaaDoor
end
section
namespace Go.Proofs.YtolflfjfegngnaaDoor
open Go.RowKit
namespace Rg
set_option maxRecDepth 100000
def setO (j : Nat) (v : Value) : Obj → Obj
  | .cells c elem frozen => .cells (c.setIfInBounds j v) elem frozen
  | o => o
theorem heap_set {w : World} {g j : Nat} {v : Value} {o : Obj} (h : w.heap[g]? = some o) : (w.setCells g j [v]).heap[g]? = some (setO j v o) := by
  show (World.setCell w ⟨g, j, none⟩ v).heap[g]? = _
  unfold World.setCell
  show (Array.modify _ _ _)[g]? = _
  rw [Array.getElem?_modify, if_pos rfl, h]
  cases o <;> rfl
/-- Two blocks alike but in their first c cells. -/
def Sm (c : Nat) (o o' : Obj) : Prop := o' = o ∨ ∃ cur cur' t fz, o = .cells cur t fz ∧ o' = .cells cur' t fz ∧ cur'.size = cur.size ∧ ∀ j, c ≤ j → cur'[j]? = cur[j]?
theorem Sm.trans {c : Nat} {a b d : Obj} (h : Sm c a b) (k : Sm c b d) : Sm c a d := by
  rcases h with rfl | ⟨x, y, t, fz, rfl, rfl, h1, h2⟩
  · exact k
  · rcases k with rfl | ⟨x2, y2, t2, fz2, e, rfl, h3, h4⟩
    · exact .inr ⟨x, y, t, fz, rfl, rfl, h1, h2⟩
    · injection e with e1 e2 e3
      subst e1 e2 e3
      exact .inr ⟨x, y2, _, _, rfl, rfl, h3.trans h1, fun j hj => (h4 j hj).trans (h2 j hj)⟩
/-- Block g may have changed, in its first c cells alone. -/
structure Ov (c g : Nat) (w w' : World) : Prop where
  k : Kp g w w'
  lt : g < w.heap.size
  ob : ∀ o, w.heap[g]? = some o → ∃ o', w'.heap[g]? = some o' ∧ Sm c o o'
theorem Ov.refl {c g : Nat} {w : World} (h : g < w.heap.size) : Ov c g w w := ⟨Kp.refl g w, h, fun o e => ⟨o, e, .inl rfl⟩⟩
theorem Ov.size {c g : Nat} {w w' : World} (h : Ov c g w w') : w.heap.size ≤ w'.heap.size := h.k.size
theorem Ov.grow {c g : Nat} {w w1 w2 : World} (h : Ov c g w w1) (hb : Below w1.heap.size w1 w2) : Ov c g w w2 :=
  ⟨h.k.trans hb, h.lt, fun o e => by
    obtain ⟨o', e', h1⟩ := h.ob o e
    exact ⟨o', by rw [hb.block g (Nat.lt_of_lt_of_le h.lt h.k.size)]; exact e', h1⟩⟩
theorem Ov.join {c g : Nat} {w w1 w2 : World} (h : Ov c g w w1) (k : Ov c g w1 w2) : Ov c g w w2 :=
  ⟨h.k.join k.k, h.lt, fun o e => by
    obtain ⟨o', e', h1⟩ := h.ob o e
    obtain ⟨o2, e2, h2⟩ := k.ob o' e'
    exact ⟨o2, e2, h1.trans h2⟩⟩
theorem Ov.put {c g j : Nat} {v : Value} {w w1 : World} (h : Ov c g w w1) (hj : j < c) : Ov c g w (w1.setCells g j [v]) :=
  ⟨h.k.put (Or.inl rfl), h.lt, fun o e => by
    obtain ⟨o', e', h1⟩ := h.ob o e
    refine ⟨_, heap_set e', h1.trans ?_⟩
    cases o' with
    | cells cur t fz => exact .inr ⟨cur, _, t, fz, rfl, rfl, by simp, fun i hi => by rw [Array.getElem?_setIfInBounds, if_neg (by omega)]⟩
    | _ => exact .inl rfl⟩
/-- Where the first c cells are what they were, nothing has changed. -/
theorem Ov.same {c g : Nat} {w w' : World} {vs : List Value} (h : Ov c g w w') (hm : Mm w [(g, vs)]) (hm' : Mm w' [(g, vs)]) (hl : vs.length = c) : Below w.heap.size w w' := by
  refine ⟨h.k.os, h.k.tape, h.k.output, h.k.size, fun k hk => ?_⟩
  by_cases e : k = g
  · subst e
    obtain ⟨o', e', h1⟩ := h.ob _ (Array.getElem?_eq_getElem hk)
    rw [e', Array.getElem?_eq_getElem hk]
    rcases h1 with rfl | ⟨cur, cur', t, fz, ho, rfl, h1, h2⟩
    · rfl
    · rw [ho]
      congr 2
      apply Array.ext_getElem?
      intro j
      by_cases hj : j < c
      · have b1 := (hm.blk _ (List.mem_singleton.2 rfl)).2 j _ (List.getElem?_eq_getElem (by rw [hl]; exact hj))
        have b2 := (hm'.blk _ (List.mem_singleton.2 rfl)).2 j _ (List.getElem?_eq_getElem (by rw [hl]; exact hj))
        have c1 := b1.1
        have c2 := b2.1
        unfold World.cell? at c1 c2
        simp [Array.getElem?_eq_getElem hk, ho] at c1
        simp [e'] at c2
        rw [c1, c2]
      · exact h2 j (by omega)
  · exact h.k.block k hk e
theorem mr_succ (K : Nat → Nat) (x i : Nat) : mr K x (i + 1) = up (mr K x i) i (x8 (mr K x i i) x) := rfl
section
variable {ρ : Operand → Value} {o : Oper} {x y : Operand} {n c : Nat} {w : World} {p : Option Addr}
theorem ex_cap22 (ho : o.op = .call { callee := .builtin .cap, args := #[x], argTypes := #[22] }) (hx : ρ x = .slice p n c) : (execOp ρ o).run Tryd.prog w = .ok (.value (.int .i64 ((c : Nat) : Int))) w := by
  have hr : (Builtin.cap_ #[22] o.type #[.slice p n c]).run Tryd.prog w = .ok (.int .i64 ((c : Nat) : Int)) w := by
    simp [Builtin.cap_, goInt]
  unfold execOp
  simp only [ho, resolve, invoke, builtin, Sem.run_bind, Sem.run_pure, Result.andThen_ok, List.map_toArray, List.map_cons, List.map_nil, hx, hr]
end
set_option maxHeartbeats 1000000 in
set_option maxRecDepth 100000 in
theorem Over_some (g n c : Nat) (f : Nat → Nat) (hc : c ≤ 1048576) (w : World) (hm : Mm w [(g, ints .u8 f c)]) :
    Calls Tryd.prog 27 #[.slice (some ⟨g, 0, none⟩) n c] w fun e w' => e = .returned (.tuple #[]) ∧ Mm w' [(g, ints .u8 (mk8 f 90) c)] ∧ Ov c g w w' := by
  have H0 : Hid (_ ∧ _) := ⟨hm, Ov.refl (c := c) (g := g) (hm.blk _ (List.mem_singleton.2 rfl)).1⟩
  clear hm
  go_enter Tryd.func27, Tryd.ntmps27
  refine wp_seq ?_
  refine walk_seqA 5 [.quiet (.slice (some ⟨g, 0, none⟩) n c), .quiet (.slice (some ⟨g, 0, none⟩) n c), .quiet (.int .i64 ((c : Nat) : Int)), .quiet (.slice (some ⟨g, 0, none⟩) c c), .quiet (.slice (some ⟨g, 0, none⟩) c c)] (sB H0) ?ho1 ?he1
  case ho1 => exact ak (fun _ => ⟨rfl, fun _ _ => rfl⟩) (ak (fun _ => ⟨rfl, fun _ _ => rfl⟩) (ak (fun γ => ⟨rfl, fun w' _ => ex_cap22 rfl rfl⟩) (ak (fun γ => ⟨rfl, fun w' _ => ex_slH22 (l := c) rfl rfl rfl (Nat.le_refl _)⟩) (ak (fun _ => ⟨rfl, fun _ _ => rfl⟩) trivial))))
  intro γ w1 l hM hl
  have M1 : Mm w1 [(g, ints .u8 f c)] := H0.out.1.grow hM (Nat.le_refl _) hl [] rfl (by decide)
  have B1 : Ov c g w w1 := H0.out.2.grow (hM.below)
  clear hM hl l
  clear γ
  have H1 : Hid (_ ∧ _) := ⟨M1, B1⟩
  clear M1 B1
  refine rest0 rfl (then_normal (wp_seq ?_))
  refine walk_seqA 1 [.quiet (.int .i64 0)] (sB H1) ?ho2 ?he2
  case ho2 => exact ak (fun _ => ⟨rfl, fun _ _ => rfl⟩) trivial
  intro γ w2 l hM hl
  have M2 : Mm w2 [(g, ints .u8 f c)] := H1.out.1.grow hM (Nat.le_refl _) hl [] rfl (by decide)
  have B2 : Ov c g w w2 := H1.out.2.grow (hM.below)
  clear hM hl l H1
  clear γ
  have H2 : Hid (_ ∧ _) := ⟨M2, B2⟩
  clear M2 B2
  refine rest0 rfl (then_normal (wp_block ?_))
  refine loop_ghost (α := Nat) (fun k a' w' => ∃ s0 : Nat → Value, a' = ⟨#[.slice (some ⟨g, 0, none⟩) n c, undef, .slice (some ⟨g, 0, none⟩) c c, .int .i64 ((k : Nat) : Int), .slice (some ⟨g, 0, none⟩) n c, .slice (some ⟨g, 0, none⟩) n c, .int .i64 ((c : Nat) : Int), .slice (some ⟨g, 0, none⟩) c c, s0 8, s0 9, s0 10, s0 11, s0 12, s0 13, s0 14, s0 15, s0 16, s0 17, s0 18, s0 19, s0 20, s0 21], []⟩ ∧ (Mm w' [(g, ints .u8 (mr f 90 k) c)] ∧ Ov c g w w') ∧ k ≤ c) (fun k => c - k) 0 ?st0 ?rd0
  case st0 => exact ⟨(slotfn [undef, undef, undef, undef, undef, undef, undef, undef, undef, undef, undef, undef, undef, undef, undef, undef, undef, undef, undef, undef, undef, undef]), rfl, ⟨H2.out.1, H2.out.2⟩, by omega⟩
  intro k a' w3 hI
  obtain ⟨s0, rfl, hMB, hk0⟩ := hI
  have H3 : Hid (_ ∧ _) := hMB
  clear hMB H2
  by_cases hltk : k < c
  · have hrd : True := trivial
    clear hrd
    refine wp_seq (wp_seq ?_)
    refine walk_seqA 4 [.quiet (.int .i64 ((k : Nat) : Int)), .quiet (.slice (some ⟨g, 0, none⟩) c c), .quiet (.int .i64 ((c : Nat) : Int)), .quiet (.bool true)] (sB H3) ?ho3 ?he3
    case ho3 => exact ak (fun _ => ⟨rfl, fun _ _ => rfl⟩) (ak (fun _ => ⟨rfl, fun _ _ => rfl⟩) (ak (by refine fun γ => ⟨rfl, fun w' h => ?_⟩; clear h; go_simp) (ak (by refine fun γ => ⟨rfl, fun w' h => ?_⟩; clear h; go_simp <;> omega) trivial)))
    intro γ w4 l hM hl
    have M4 : Mm w4 [(g, ints .u8 (mr f 90 k) c)] := H3.out.1.grow hM (Nat.le_refl _) hl [] rfl (by decide)
    have B4 : Ov c g w w4 := H3.out.2.grow (hM.below)
    clear hM hl l H3
    clear γ
    have H4 : Hid (_ ∧ _) := ⟨M4, B4⟩
    clear M4 B4
    refine rest0 rfl (then_normal (wp_cond_true rfl ?_))
    refine wp_skip (then_normal ?_)
    refine wp_seq (wp_block ?_)
    refine walk_seqA 8 [.quiet (.slice (some ⟨g, 0, none⟩) c c), .quiet (.int .i64 ((k : Nat) : Int)), .quiet (.slice (some ⟨g, 0, none⟩) c c), .quiet (.int .i64 ((k : Nat) : Int)), .quiet (PT g (0 + k)), .quiet (Z8 ((mr f 90 k) (0 + k))), .quiet (Z8 (x8 ((mr f 90 k) (0 + k)) 90)), .quiet (PT g (0 + k))] (sB H4) ?ho4 ?he4
    case ho4 => exact ak (fun _ => ⟨rfl, fun _ _ => rfl⟩) (ak (fun _ => ⟨rfl, fun _ _ => rfl⟩) (ak (fun _ => ⟨rfl, fun _ _ => rfl⟩) (ak (fun _ => ⟨rfl, fun _ _ => rfl⟩) (ak (fun γ => ⟨rfl, fun w' _ => ex_ixS22 (m := c) (j := k) rfl rfl rfl (by omega)⟩) (ak (fun γ => ⟨rfl, fun w' h => ex_loadC h 0 rfl rfl rfl Tryd.isAgg5 (ints_get _ _ (by omega))⟩) (ak (fun γ => ⟨rfl, fun w' _ => ex_xor8 rfl rfl rfl⟩) (ak (fun γ => ⟨rfl, fun w' _ => ex_ixS22 (m := c) (j := k) rfl rfl rfl (by omega)⟩) trivial)))))))
    intro γ w5 l hM hl
    have M5 : Mm w5 [(g, ints .u8 (mr f 90 k) c)] := H4.out.1.grow hM (Nat.le_refl _) hl [] rfl (by decide)
    have B5 : Ov c g w w5 := H4.out.2.grow (hM.below)
    clear hM hl l H4
    clear γ
    have H5 : Hid (_ ∧ _) := ⟨M5, B5⟩
    clear M5 B5
    refine rest_at (l := [8]) rfl ?_
    refine rest_store rfl rfl rfl (ex_storeI H5.out.1 0 rfl rfl Tryd.sizeOf5 rfl rfl (by rw [ints_len]; omega)) ?_
    have H6 : Hid (Mm (w5.setCells g (0 + k) ([Z8 (x8 ((mr f 90 k) (0 + k)) 90)])) [(g, ints .u8 (mr f 90 (k + 1)) c)] ∧ Ov c g w (w5.setCells g (0 + k) ([Z8 (x8 ((mr f 90 k) (0 + k)) 90)]))) := ⟨by
      have h := H5.out.1.put 0 (off := (0 + k)) (vs := [Z8 (x8 ((mr f 90 k) (0 + k)) 90)]) rfl (by rw [ints_len]; simp only [List.length_cons, List.length_nil]; omega)
      rw [ints_patch _ _ _ _ (by omega), show ints .u8 (up (mr f 90 k) (0 + k) (x8 ((mr f 90 k) (0 + k)) 90)) c = ints .u8 (mr f 90 (k + 1)) c by rw [Nat.zero_add, mr_succ]] at h
      exact h, H5.out.2.put (by omega)⟩
    clear H5
    generalize hgw : World.setCells _ _ _ _ = w6 at H6 ⊢
    clear hgw
    refine rest_nil (block_normal (then_normal ?_))
    refine walk_seqA 2 [.quiet (.int .i64 ((k : Nat) : Int)), .quiet (.int .i64 ((k + 1 : Nat) : Int))] (sB H6) ?ho5 ?he5
    case ho5 => exact ak (fun _ => ⟨rfl, fun _ _ => rfl⟩) (ak (by refine fun γ => ⟨rfl, fun w' h => ?_⟩; clear h; go_simp; rw [IntKind.wrap_i64]; omega) trivial)
    intro γ w7 l hM hl
    have M7 : Mm w7 [(g, ints .u8 (mr f 90 (k + 1)) c)] := H6.out.1.grow hM (Nat.le_refl _) hl [] rfl (by decide)
    have B7 : Ov c g w w7 := H6.out.2.grow (hM.below)
    clear hM hl l H6
    clear γ
    have H7 : Hid (_ ∧ _) := ⟨M7, B7⟩
    clear M7 B7
    refine rest_at (l := [2]) rfl ?_
    refine rest_set (d := 3) rfl rfl rfl rfl ?_
    simp only [Act.put, sa, sz, ss]
    refine rest_nil (then_normal ?_)
    exact ⟨k + 1, ⟨(slotfn [undef, undef, undef, undef, undef, undef, undef, undef, .int .i64 ((k : Nat) : Int), .slice (some ⟨g, 0, none⟩) c c, .int .i64 ((c : Nat) : Int), .bool true, .int .i64 ((k : Nat) : Int), .int .i64 ((k + 1 : Nat) : Int), .slice (some ⟨g, 0, none⟩) c c, .int .i64 ((k : Nat) : Int), .slice (some ⟨g, 0, none⟩) c c, .int .i64 ((k : Nat) : Int), PT g (0 + k), Z8 ((mr f 90 k) (0 + k)), Z8 (x8 ((mr f 90 k) (0 + k)) 90), PT g (0 + k)]), rfl, ⟨H7.out.1, H7.out.2⟩, by omega⟩, by omega⟩
  have hkN : c = k := by omega
  subst hkN
  refine wp_seq (wp_seq ?_)
  refine walk_seqA 4 [.quiet (.int .i64 ((c : Nat) : Int)), .quiet (.slice (some ⟨g, 0, none⟩) c c), .quiet (.int .i64 ((c : Nat) : Int)), .quiet (.bool false)] (sB H3) ?ho6 ?he6
  case ho6 => exact ak (fun _ => ⟨rfl, fun _ _ => rfl⟩) (ak (fun _ => ⟨rfl, fun _ _ => rfl⟩) (ak (by refine fun γ => ⟨rfl, fun w' h => ?_⟩; clear h; go_simp) (ak (by refine fun γ => ⟨rfl, fun w' h => ?_⟩; clear h; go_simp <;> omega) trivial)))
  intro γ w8 l hM hl
  have M8 : Mm w8 [(g, ints .u8 (mr f 90 c) c)] := H3.out.1.grow hM (Nat.le_refl _) hl [] rfl (by decide)
  have B8 : Ov c g w w8 := H3.out.2.grow (hM.below)
  clear hM hl l H3
  clear γ
  have H8 : Hid (_ ∧ _) := ⟨M8, B8⟩
  clear M8 B8
  refine rest0 rfl (then_normal (wp_cond_false rfl ?_))
  refine wp_exit ?_
  repeat refine then_exit ?_
  refine block_exit ?_
  refine bodyPost_end (v := .tuple #[]) (by simp [results, Tryd.results27, go_sem]) rfl ?_
  have hfin := H8.out.1
  rw [ints_congr (fun j hj => mr_lt f 90 c j hj)] at hfin
  exact ⟨rfl, hfin, H8.out.2⟩
end Rg
end Go.Proofs.YtolflfjfegngnaaDoor
end
section
namespace Go.Proofs.YtolflfjfegngnaaDoor
open Go.RowKit
namespace Rg
set_option maxRecDepth 100000
theorem Zo.appR {w w1 : World} {B n0 : Nat} {l : List (Nat × List Value)} {vv : Value} {P : Nat → Nat} (h : Zo w B l vv n0 P w1) {q : Pt8} (hq : Pok q) (hN : q.p = none → q.cp = 0) (hR : q.rs w1) (hb : n0 + q.n ≤ 2097152) (hv : vv ≠ .slice none 0 0) (ty : TypeId) :
    ∃ v' w2, (Builtin.append_ #[22, 22] ty #[vv, .slice q.p q.n q.cp]).run Tryd.prog w1 = .ok v' w2 ∧ Zo w B l v' (n0 + q.n) (ct P n0 q.f) w2 ∧ v' ≠ .slice none 0 0 := by
  obtain ⟨gb, o, n, cp, p, f⟩ := q
  obtain ⟨hB, hle⟩ := hq
  simp only [Pt8.rs] at hB hN hR hb hle ⊢
  cases p with
  | none =>
    have hn : n = 0 := by
      rcases Nat.eq_zero_or_pos n with e | e
      · exact e
      · have := hB.1 e
        simp at this
    have hc := hN rfl
    subst hn hc
    exact ⟨vv, w1, h.app0 ty, h.cg (fun j hj => by unfold ct; rw [if_pos hj]), hv⟩
  | some a =>
    have hr : ∀ j, j < n → w1.cell? (a.add j) = some (Z8 (f j)) := fun j hj => by
      have e := hB.1 (by omega)
      injection e with e1
      injection e1 with e1
      rw [e1]
      exact hR.add j hj
    obtain ⟨i0, hi, hz0, hz1, hz2⟩ := info_byte
    obtain ⟨v', w2, h1, h2, h3, h4⟩ := run_append_own (P := Tryd.prog) w1 B 22 ty 5 i0 (.int .u8 0) 1 1 Tryd.underlying22 hi hz0 hz1 hz2 rfl (by decide) vv n0 _ h.own a n cp (ints .u8 f n) (by rw [ints_len]; omega)
      (fun j u hj => by
        have hjm : j < n := by
          have := (List.getElem?_eq_some_iff.1 hj).1
          rwa [ints_len] at this
        rw [ints_get _ _ hjm] at hj
        rw [hr j hjm]
        exact hj) (List.all_eq_true.1 (ints_all _ _ _)) (by unfold maxLen; omega) (by omega) h.hi
    have hb2 : Below B w1 w2 := (Below.refl _ _).grown h3 h.hi (fun k hk => (World.ownsRow.lt h.own k hk).1)
    rw [ints_cat] at h2
    exact ⟨v', w2, h1, ⟨h.b.trans (hb2.mono h.lo), h.lo, Nat.le_trans h.hi hb2.size, ⟨fun p hp => ⟨Nat.lt_of_lt_of_le (h.m.blk p hp).1 hb2.size, (h.m.blk p hp).2.below hb2 (h.lt p hp)⟩, h.m.nd⟩, h.lt, h2⟩, fun e => hv (h4.1 e).1⟩
theorem Zo.form1 {w w1 : World} {B n : Nat} {l : List (Nat × List Value)} {vv : Value} {P : Nat → Nat} (h : Zo w B l vv n P w1) (hv : vv ≠ .slice none 0 0) : ∃ g cap, vv = .slice (some ⟨g, 0, none⟩) n cap := by
  rcases h.own.2 with ⟨h1, _⟩ | ⟨g, cap, cur, h1, _⟩
  · exact absurd h1 hv
  · exact ⟨g, cap, h1⟩
/-- A slice that may lie apart: where, how long, its room, the bytes of all its room. -/
structure Ap where
  p : Option Addr
  g : Nat
  n : Nat
  c : Nat
  f : Nat → Nat
def Ap.pt (q : Ap) : Pt8 := ⟨q.g, 0, q.c, q.c, q.p, q.f⟩
structure Ap.Ok (q : Ap) : Prop where
  at_ : q.p = some ⟨q.g, 0, none⟩ ∨ (q.p = none ∧ q.n = 0 ∧ q.c = 0)
  le : q.n ≤ q.c
  mx : q.c ≤ 1048576
  by_ : ∀ j, q.f j < 256
def Ap.row (q : Ap) (f : Nat → Nat) (w : World) : Prop := q.p = none ∨ Mm w [(q.g, ints .u8 f q.c)]
theorem Ap.Ok.nil {q : Ap} (h : q.Ok) : q.pt.p = none → q.pt.cp = 0 := fun e => by
  rcases h.at_ with e2 | ⟨_, _, e2⟩
  · exact absurd (e2.symm.trans e) (by simp)
  · exact e2
theorem Ap.row.rs {q : Ap} (h : q.Ok) {w : World} (hr : q.row q.f w) : q.pt.rs w := by
  rcases hr with e | hm
  · rcases h.at_ with e2 | ⟨_, _, e2⟩
    · exact absurd (e2.symm.trans e) (by simp)
    · show Rs q.g 0 q.c q.f w
      rw [e2]
      exact Rs.void _ _ _ _
  · exact hm.rs 0 rfl (Nat.le_refl _)
theorem Ap.row.below {q : Ap} {f : Nat → Nat} {w w' : World} (h : q.row f w) (hb : Below w.heap.size w w') : q.row f w' := by
  rcases h with h | h
  · exact .inl h
  · exact .inr (h.below hb)
/-- Slices in a list. -/
def apl (A : Nat → Ap) (m : Nat) : List Value := (List.range m).map fun i => .slice (A i).p (A i).n (A i).c
structure Al (gl : Nat) (A : Nat → Ap) (m : Nat) (w : World) : Prop where
  ls : Mm w [(gl, apl A m)]
  row : ∀ i, i < m → (A i).row (A i).f w
theorem Al.below {gl : Nat} {A : Nat → Ap} {m : Nat} {w w' : World} (h : Al gl A m w) (hb : Below w.heap.size w w') : Al gl A m w' := ⟨h.ls.below hb, fun i hi => (h.row i hi).below hb⟩
structure Aw (gl : Nat) (A : Nat → Ap) (m : Nat) : Prop where
  ok : ∀ i, i < m → (A i).Ok
  ne : ∀ i j, i < m → j < m → i ≠ j → (A i).p ≠ none → (A j).p ≠ none → (A i).g ≠ (A j).g
  nl : ∀ i, i < m → (A i).p ≠ none → (A i).g ≠ gl
  ml : m ≤ 1048576
theorem rmap_get {F : Nat → Value} {m k : Nat} (h : k < m) : ((List.range m).map F)[0 + k]? = some (F k) := by
  rw [Nat.zero_add, List.getElem?_map, List.getElem?_range h]
  rfl
/-- The copies, k of them. -/
def wl (A : Nat → Ap) (G : Nat → Nat × Nat) (k m : Nat) : List Value := (List.range m).map fun j => if j < k then .slice (some ⟨(G j).1, 0, none⟩) (A j).c ((A j).c + (G j).2) else .slice none 0 0
theorem wl_len (A : Nat → Ap) (G : Nat → Nat × Nat) (k m : Nat) : (wl A G k m).length = m := by simp [wl]
theorem wl_zero (A : Nat → Ap) (G : Nat → Nat × Nat) (m : Nat) : wl A G 0 m = List.replicate m (.slice none 0 0) := by
  apply List.ext_getElem?
  intro j
  unfold wl
  by_cases h : j < m
  · have e := rmap_get (F := fun j => if j < 0 then .slice (some ⟨(G j).1, 0, none⟩) (A j).c ((A j).c + (G j).2) else .slice none 0 0) h
    rw [Nat.zero_add] at e
    rw [e, List.getElem?_replicate, if_pos h, if_neg (Nat.not_lt_zero _)]
  · rw [List.getElem?_eq_none (by simp; omega), List.getElem?_replicate, if_neg h]
def uG (G : Nat → Nat × Nat) (k : Nat) (v : Nat × Nat) : Nat → Nat × Nat := fun j => if j = k then v else G j
theorem wl_put (A : Nat → Ap) (G : Nat → Nat × Nat) (k m g x : Nat) (h : k < m) : patch (wl A G k m) (0 + k) [.slice (some ⟨g, 0, none⟩) (A k).c ((A k).c + x)] = wl A (uG G k (g, x)) (k + 1) m := by
  apply List.ext_getElem?
  intro j
  rw [patch_get _ _ _ (by rw [wl_len]; simp; omega)]
  by_cases hj : j < m
  · have e1 : (wl A G k m)[j]? = some (if j < k then .slice (some ⟨(G j).1, 0, none⟩) (A j).c ((A j).c + (G j).2) else .slice none 0 0) := by
      have := rmap_get (F := fun j => if j < k then .slice (some ⟨(G j).1, 0, none⟩) (A j).c ((A j).c + (G j).2) else .slice none 0 0) hj
      rw [Nat.zero_add] at this
      exact this
    have e2 : (wl A (uG G k (g, x)) (k + 1) m)[j]? = some (if j < k + 1 then .slice (some ⟨(uG G k (g, x) j).1, 0, none⟩) (A j).c ((A j).c + (uG G k (g, x) j).2) else .slice none 0 0) := by
      have := rmap_get (F := fun j => if j < k + 1 then .slice (some ⟨(uG G k (g, x) j).1, 0, none⟩) (A j).c ((A j).c + (uG G k (g, x) j).2) else .slice none 0 0) hj
      rw [Nat.zero_add] at this
      exact this
    rw [e1, e2]
    unfold uG
    by_cases h1 : j = k
    · subst h1
      rw [if_pos (by simp), if_pos (by omega), if_pos rfl, show j - (0 + j) = 0 by omega]
      rfl
    · rw [if_neg (by simp; omega), if_neg h1]
      by_cases h2 : j < k
      · rw [if_pos h2, if_pos (by omega)]
      · rw [if_neg h2, if_neg (by omega)]
  · rw [if_neg (by simp; omega), List.getElem?_eq_none (by rw [wl_len]; omega), List.getElem?_eq_none (by rw [wl_len]; omega)]
structure Wq (w : World) (gw : Nat) (A : Nat → Ap) (m k : Nat) (G : Nat → Nat × Nat) (w' : World) : Prop where
  b : Below w.heap.size w w'
  lo : w.heap.size ≤ gw
  m_ : Mm w' [(gw, wl A G k m)]
  cp : ∀ j, j < k → gw < (G j).1 ∧ Mm w' [((G j).1, ints .u8 (A j).f (A j).c)]
def Wk (w : World) (gw : Nat) (A : Nat → Ap) (m k : Nat) (w' : World) : Prop := ∃ G, Wq w gw A m k G w'
section
variable {w w1 w2 : World} {gw gl m k i : Nat} {A : Nat → Ap} {G : Nat → Nat × Nat}
theorem Wq.step (h : Wq w gw A m k G w1) (hb : Below w1.heap.size w1 w2) : Wq w gw A m k G w2 := ⟨h.b.trans (hb.mono h.b.size), h.lo, h.m_.below hb, fun j hj => ⟨(h.cp j hj).1, (h.cp j hj).2.below hb⟩⟩
theorem Wq.size (h : Wq w gw A m k G w1) : w.heap.size ≤ w1.heap.size := h.b.size
theorem Wk.step (h : Wk w gw A m k w1) (hb : Below w1.heap.size w1 w2) : Wk w gw A m k w2 := let ⟨G, h⟩ := h; ⟨G, h.step hb⟩
theorem Wk.b (h : Wk w gw A m k w1) : Below w.heap.size w w1 := let ⟨_, h⟩ := h; h.b
theorem Wk.size (h : Wk w gw A m k w1) : w.heap.size ≤ w1.heap.size := h.b.size
theorem Wk.lt (h : Wk w gw A m k w1) : gw < w1.heap.size := let ⟨_, h⟩ := h; (h.m_.blk _ (List.mem_singleton.2 rfl)).1
theorem Wk.start (hb : Below w.heap.size w w1) (A : Nat → Ap) (m : Nat) (t : TypeId) : Wk w w1.heap.size A m 0 (w1.alloc (.cells (List.replicate m (.slice none 0 0) : List Value).toArray t)) :=
  ⟨fun _ => (0, 0), hb.alloc hb.size _, hb.size, by rw [wl_zero]; exact (Mm.nil w1).alloc _ t rfl, fun j hj => absurd hj (Nat.not_lt_zero _)⟩
theorem Mm.kp {w w' : World} {g k : Nat} {cs : List Value} (h : Mm w [(g, cs)]) (hk : Kp k w w') (hne : g ≠ k) : Mm w' [(g, cs)] := by
  refine ⟨fun p hp => ?_, List.pairwise_singleton _ _⟩
  rw [List.mem_singleton.1 hp]
  have hb := h.blk _ (List.mem_singleton.2 rfl)
  have hblk := hk.block g hb.1 hne
  refine ⟨Nat.lt_of_lt_of_le hb.1 hk.size, fun j v hj => ?_⟩
  rw [World.cell?_of_block (a := ⟨g, j, none⟩) hblk, World.frozen?_of_block (a := ⟨g, j, none⟩) hblk]
  exact hb.2 j v hj
theorem Mm.other {w : World} {g g' off : Nat} {cs vs : List Value} (h : Mm w [(g, cs)]) (hg : g ≠ g') : Mm (w.setCells g' off vs) [(g, cs)] := h.kp ((Kp.refl g' w).put (Or.inl rfl)) hg
theorem Wq.store (h : Wq w gw A m k G w1) (hk : k < m) {g x : Nat} (hg : gw < g) (hm : Mm w1 [(g, ints .u8 (A k).f (A k).c)]) : Wk w gw A m (k + 1) (w1.setCells gw (0 + k) [.slice (some ⟨g, 0, none⟩) (A k).c ((A k).c + x)]) := by
  refine ⟨uG G k (g, x), below_setCells _ h.lo _ _ _ h.b, h.lo, ?_, fun j hj => ?_⟩
  · have := h.m_.put 0 (off := 0 + k) (vs := [.slice (some ⟨g, 0, none⟩) (A k).c ((A k).c + x)]) rfl (by rw [wl_len]; simp; omega)
    rw [wl_put A G k m g x hk] at this
    exact this
  · unfold uG
    by_cases e : j = k
    · subst e
      rw [if_pos rfl]
      exact ⟨hg, hm.other (by omega)⟩
    · rw [if_neg e]
      have hc := h.cp j (by omega)
      exact ⟨hc.1, hc.2.other (by omega)⟩
/-- One of the slices is written over. -/
structure Wo (w : World) (gw : Nat) (A : Nat → Ap) (m i : Nat) (G : Nat → Nat × Nat) (w' : World) : Prop where
  lo : w.heap.size ≤ gw
  sz : w.heap.size ≤ w'.heap.size
  m_ : Mm w' [(gw, wl A G m m)]
  cp : ∀ j, j < m → gw < (G j).1 ∧ Mm w' [((G j).1, ints .u8 (A j).f (A j).c)]
  ov : ((A i).p = none ∧ Below w.heap.size w w') ∨ ((A i).p ≠ none ∧ Ov (A i).c (A i).g w w' ∧ Mm w' [((A i).g, ints .u8 (mk8 (A i).f 90) (A i).c)])
theorem Wo.step (h : Wo w gw A m i G w1) (hb : Below w1.heap.size w1 w2) : Wo w gw A m i G w2 :=
  ⟨h.lo, Nat.le_trans h.sz hb.size, h.m_.below hb, fun j hj => ⟨(h.cp j hj).1, (h.cp j hj).2.below hb⟩, by
    rcases h.ov with ⟨e, h1⟩ | ⟨e, h1, h2⟩
    · exact .inl ⟨e, h1.trans (hb.mono h.sz)⟩
    · exact .inr ⟨e, h1.grow hb, h2.below hb⟩⟩
theorem Wo.size (h : Wo w gw A m i G w1) : w.heap.size ≤ w1.heap.size := h.sz
theorem Wq.nil (h : Wq w gw A m m G w1) (hp : (A i).p = none) (hb : Below w1.heap.size w1 w2) : Wo w gw A m i G w2 :=
  let h' := h.step hb
  ⟨h'.lo, h'.b.size, h'.m_, h'.cp, .inl ⟨hp, h'.b⟩⟩
theorem Wq.over (h : Wq w gw A m m G w1) (hp : (A i).p ≠ none) (hlt : (A i).g < w.heap.size) (hm : Mm w2 [((A i).g, ints .u8 (mk8 (A i).f 90) (A i).c)]) (ho : Ov (A i).c (A i).g w1 w2) : Wo w gw A m i G w2 := by
  have hlo := h.lo
  refine ⟨h.lo, Nat.le_trans h.b.size ho.size, h.m_.kp ho.k (by omega), fun j hj => ⟨(h.cp j hj).1, (h.cp j hj).2.kp ho.k (by have := (h.cp j hj).1; omega)⟩, .inr ⟨hp, ((Ov.refl hlt).grow h.b).join ho, hm⟩⟩
/-- The list, and the other slices, meanwhile. -/
theorem Wo.ls (h : Wo w gw A m i G w1) (hA : Al gl A m w) (hW : Aw gl A m) (hi : i < m) : Mm w1 [(gl, apl A m)] := by
  rcases h.ov with ⟨_, h1⟩ | ⟨e, h1, _⟩
  · exact hA.ls.below h1
  · exact hA.ls.kp h1.k (Ne.symm (hW.nl i hi e))
theorem Wo.row (h : Wo w gw A m i G w1) (hA : Al gl A m w) (hW : Aw gl A m) (hi : i < m) (hk : k < m) (hne : k ≠ i) : (A k).row (A k).f w1 := by
  rcases h.ov with ⟨_, h1⟩ | ⟨e, h1, _⟩
  · exact (hA.row k hk).below h1
  · rcases hA.row k hk with e2 | hm
    · exact .inl e2
    · by_cases e3 : (A k).p = none
      · exact .inl e3
      · exact .inr (hm.kp h1.k (hW.ne k i hk hi hne e3 e))
/-- Written over twice, nothing has changed. -/
theorem Wo.nil (h : Wo w gw A m i G w1) (hp : (A i).p = none) (hb : Below w1.heap.size w1 w2) : Below w.heap.size w w2 := by
  rcases h.ov with ⟨_, h1⟩ | ⟨e, _⟩
  · exact h1.trans (hb.mono h.sz)
  · exact absurd hp e
end
section
variable {ρ : Operand → Value} {o : Oper} {x y : Operand} {g off n c m : Nat} {w : World} {p : Option Addr}
theorem ex_storeS {n c : Nat} {p : Option Addr} {cs : List Value} {l : List (Nat × List Value)} (h : Mm w l) (k : Nat) (hk : l[k]? = some (g, cs)) (ho : o.op = .store 22 x y) (hx : ρ x = PT g off) (hy : ρ y = .slice p n c) (hc : off < cs.length) :
    (execOp ρ o).run Tryd.prog w = .ok .skip (w.setCells g off [.slice p n c]) := by
  have hs : ∀ w, (sizeOf 22).run Tryd.prog w = .ok 1 w := Tryd.sizeOf22
  have hm := List.mem_of_getElem? hk
  have e : cs[off]? = some (cs[off]'hc) := List.getElem?_eq_getElem _
  have c0 := h.cell hm e
  have f0 := h.free hm e
  clear h hm hk
  simp only [execOp, ho, hx, hy]
  go_simp
  simp [World.setCells]
end
end Rg
end Go.Proofs.YtolflfjfegngnaaDoor
end
section
namespace Go.Proofs.YtolflfjfegngnaaDoor
open Go.RowKit
namespace Rg
set_option maxRecDepth 100000
end Rg
end Go.Proofs.YtolflfjfegngnaaDoor
end
section
namespace Go.Proofs.YtolflfjfegngnaaDoor
open Go.RowKit
namespace Rg
set_option maxRecDepth 100000
/-- What holds of a world, and stays, while nothing old is changed. -/
structure Bk (w : World) (F : World → Prop) (w' : World) : Prop where
  b : Below w.heap.size w w'
  st : ∀ {x y : World}, Below x.heap.size x y → F x → F y
  r : F w'
theorem Bk.step {w w1 w2 : World} {F : World → Prop} (h : Bk w F w1) (hb : Below w1.heap.size w1 w2) : Bk w F w2 := ⟨h.b.trans (hb.mono h.b.size), h.st, h.st hb h.r⟩
theorem Bk.size {w w1 : World} {F : World → Prop} (h : Bk w F w1) : w.heap.size ≤ w1.heap.size := h.b.size
theorem Bk.of {w w1 w2 : World} {xs : List Int} {c : Nat} {v : Value} (h : Below w.heap.size w w1) (hb : Below w1.heap.size w1 w2) (h2 : BSl w2 xs c v) : Bk w (fun u => BSl u xs c v) w2 := ⟨h.trans (hb.mono h.size), fun hb h => BSl.below h hb, h2⟩
theorem Bk.and {w w1 w2 : World} {F : World → Prop} {xs : List Int} {c : Nat} {v : Value} (h : Bk w F w1) (hb : Below w1.heap.size w1 w2) (h2 : BSl w2 xs c v) : Bk w (fun u => F u ∧ BSl u xs c v) w2 := ⟨h.b.trans (hb.mono h.b.size), fun hb h' => ⟨h.st hb h'.1, BSl.below h'.2 hb⟩, h.st hb h.r, h2⟩
theorem Mm.sel {w : World} {l l' : List (Nat × List Value)} (h : Mm w l) (is : List Nat) (hn : is.Nodup) (hl : is.map (fun i => l[i]?) = l'.map some) : Mm w l' := by
  have hlen : is.length = l'.length := by
    have := congrArg List.length hl
    simpa using this
  have hget : ∀ (j : Nat) (hj : j < l'.length), l[is[j]'(by omega)]? = some l'[j] := fun j hj => by
    have := congrArg (fun x => x[j]?) hl
    simp [hj, hlen] at this
    exact this
  refine ⟨fun p hp => ?_, List.pairwise_iff_getElem.2 fun i j hi hj hij => ?_⟩
  · obtain ⟨j, hj, rfl⟩ := List.getElem_of_mem hp
    exact h.blk _ (List.mem_of_getElem? (hget j hj))
  · have e1 := hget i hi
    have e2 := hget j hj
    have hne : is[i]'(by omega) ≠ is[j]'(by omega) := fun e => by
      have := (List.getElem_inj hn).1 e
      omega
    obtain ⟨q1, f1⟩ := List.getElem?_eq_some_iff.1 e1
    obtain ⟨q2, f2⟩ := List.getElem?_eq_some_iff.1 e2
    rw [← f1, ← f2]
    rcases Nat.lt_or_gt_of_ne hne with hlt | hlt
    · exact List.pairwise_iff_getElem.1 h.nd _ _ q1 q2 hlt
    · exact Ne.symm (List.pairwise_iff_getElem.1 h.nd _ _ q2 q1 hlt)
def ap (g n c : Nat) (f : Nat → Nat) : Ap := ⟨some ⟨g, 0, none⟩, g, n, c, f⟩
section
variable {ρ : Operand → Value} {o : Oper} {x0 x1 x2 x3 x4 : Operand} {w : World}
end
end Rg
end Go.Proofs.YtolflfjfegngnaaDoor
end
section
namespace Go.Proofs.YtolflfjfegngnaaDoor
open Go.RowKit
namespace Rg
section
variable {P : Program} {ops : Array Oper} {ks : List Kind} {a₀ : Act} {w₀ : World} {Q : Exit → Act → World → Prop}
theorem fill_off (γ : Nat → Nat) (d : Nat) : ∀ (os : List Oper) (ks : List Kind) (a : Act) (i : Nat), (∀ (j : Nat) (o : Oper), os[j]? = some o → o.dst ≠ some d) → (fill γ i os ks a).tmps[d]? = a.tmps[d]?
  | [], _, _, _, _ => rfl
  | _ :: _, [], _, _, _ => rfl
  | o :: os, k :: ks, a, i, h => by
    show (fill γ (i + 1) os ks (a.put o.dst (k.val γ i))).tmps[d]? = _
    rw [fill_off γ d os ks _ (i + 1) (fun j o' hj => h (j + 1) o' (by simpa using hj))]
    have h0 := h 0 o rfl
    cases hd : o.dst with
    | none => rfl
    | some t =>
      rw [hd] at h0
      simp only [Act.put, Array.getElem?_setIfInBounds]
      rw [if_neg (fun e => h0 (by rw [e]))]
theorem put_comm (a : Act) (d t : Nat) (v u : Value) (h : t ≠ d) : (a.put (some d) v).put (some t) u = (a.put (some t) u).put (some d) v := by
  simp only [Act.put, Act.mk.injEq, and_true]
  exact Array.setIfInBounds_comm _ _ (Ne.symm h)
theorem fill_put (γ : Nat → Nat) (d : Nat) (v : Value) : ∀ (os : List Oper) (ks : List Kind) (a : Act) (i : Nat), (∀ (j : Nat) (o : Oper), os[j]? = some o → o.dst ≠ some d) → fill γ i os ks (a.put (some d) v) = (fill γ i os ks a).put (some d) v
  | [], _, _, _, _ => rfl
  | _ :: _, [], _, _, _ => rfl
  | o :: os, k :: ks, a, i, h => by
    show fill γ (i + 1) os ks ((a.put (some d) v).put o.dst (k.val γ i)) = (fill γ (i + 1) os ks (a.put o.dst (k.val γ i))).put (some d) v
    have h0 := h 0 o rfl
    rw [← fill_put γ d v os ks _ (i + 1) (fun j o' hj => h (j + 1) o' (by simpa using hj))]
    cases hd : o.dst with
    | none => rfl
    | some t => rw [put_comm a d t v _ (fun e => by rw [hd, e] at h0; exact h0 rfl)]
theorem rest_anyU {full : Array Oper} (p : Nat) (hup : ∀ {i : Nat} {o : Oper}, full[i]? = some o → ∀ e ∈ o.after, Region.binds .any e = true → e.on < i)
    (hwt : ∀ {i : Nat} {o : Oper}, full[i]? = some o → p ≤ i → ∀ j, j < i → waitsT full 12 o j = true) : ∀ (m fuel q : Nat) (l : Array Bool) (a : Act) (w : World), q + m = full.size → p ≤ q → l.size = full.size → m ≤ fuel → Closed full l →
      (∀ i, i < q → l.getD i false = true) → (∀ i, q ≤ i → i < full.size → l.getD i true = false) → wpOps P full Q (List.range' q m) a w → wpAny P .any full Q fuel l a w := by
  intro m
  induction m with
  | zero =>
    intro fuel q l a w hq hpq hsz hfu hcl hl hu h
    have hr : Region.ready .any full l = [] := by
      refine List.eq_nil_iff_forall_not_mem.2 fun i hi => ?_
      obtain ⟨h1, o, ho, _⟩ := mem_ready.1 hi
      have h2 := hl i (by have := (Array.getElem?_eq_some_iff.1 ho).1; omega)
      rw [(getD_same h1).1] at h2
      cases h2
    have hQ : Q .normal a w := h
    cases fuel with
    | zero => exact ⟨hr, hQ⟩
    | succ f => exact ⟨fun _ => hQ, by rw [hr]; simp⟩
  | succ m ih =>
    intro fuel q l a w hq hpq hsz hfu hcl hl hu h
    cases fuel with
    | zero => omega
    | succ f =>
      have hqs : q < full.size := by omega
      have hqr : q ∈ Region.ready .any full l := mem_ready.2 ⟨hu q (Nat.le_refl _) hqs, full[q], Array.getElem?_eq_getElem hqs, fun e he hb => hl _ (hup (Array.getElem?_eq_getElem hqs) e he hb)⟩
      refine ⟨fun hr => absurd hqr (by rw [hr]; simp), fun i hi => ?_⟩
      obtain ⟨hun, o, ho, hedge⟩ := mem_ready.1 hi
      have hilt : i < full.size := (Array.getElem?_eq_some_iff.1 ho).1
      have hiq : i = q := by
        rcases Nat.lt_trichotomy i q with h' | h' | h'
        · have h2 := hl i h'
          rw [(getD_same hun).1] at h2
          cases h2
        · exact h'
        · have h2 := waitsT_spec hcl 12 o (hwt ho (by omega) q h') hedge
          rw [(getD_same (hu q (Nat.le_refl _) hqs)).1] at h2
          cases h2
      subst hiq
      rw [List.range'_succ, wpOps_cons] at h
      refine wpOp_mono (fun a' w' h' => ?_) h
      refine ih f (i + 1) _ a' w' (by omega) (by omega) (by simp [hsz]) (by omega) (hcl.step ho hedge) (fun j hj => ?_) (fun j hj hj2 => ?_) h'
      · rcases Nat.lt_or_ge j i with h2 | h2
        · exact getD_true (hl j h2)
        · have : j = i := by omega
          subst this
          exact (getD_same hun).2
      · rw [getD_set_ne true (by omega)]
        exact hu j (by omega) hj2
theorem after_putU {full : Array Oper} {n p : Nat} (hO : Orderly ops ks n) (hn : n = a₀.tmps.size) (hp : ops.size = p) (hpf : p + 1 ≤ full.size) (hfull : ∀ i, i < p → full[i]? = ops[i]?) (hgd : ∀ {i : Nat} {o : Oper} {g : Nat} {b : Bool}, ops[i]? = some o → o.guard = some (g, b) → g < p)
    (hup : ∀ {i : Nat} {o : Oper}, full[i]? = some o → ∀ e ∈ o.after, Region.binds .any e = true → e.on < i)
    (hwt : ∀ {i : Nat} {o : Oper}, full[i]? = some o → p + 1 ≤ i → ∀ j, j < i → waitsT full 12 o j = true)
    {late : List Nat} (hlate : LateOk P ops ks (fun γ => fill γ 0 ops.toList ks a₀) late) {γ : Nat → Nat} {w : World} (hQ : wpOps P full Q (List.range' (p + 1) (full.size - (p + 1))) (fill γ 0 ops.toList ks a₀) w) :
    ∀ (fuel : Nat) (l : Array Bool) (a : Act), l.size = full.size → l.toList.count false ≤ fuel → Closed full l → (∀ i, i ≤ p → l.getD i true = false → i ∈ late) → (∀ i, p + 1 ≤ i → i < full.size → l.getD i true = false) → Agree ops ks a₀ l γ a → wpAny P .any full Q fuel l a w := by
  intro fuel
  induction fuel with
  | zero =>
    intro l a hsz hc hcl hu ht hA
    have hall : ∀ i, i < full.size → l.getD i false = true := fun i hi => by
      cases hb : l.getD i true with
      | false => have := count_set hb; omega
      | true =>
        have hi' : i < l.size := by omega
        simpa [hi'] using hb
    rw [hA.whole (fun i hi => hall i (by omega))]
    have h0 := tail_count full.size (full.size - (p + 1)) l hsz (by omega) (fun i hi1 hi2 => ht i (by omega) hi2)
    exact rest_anyU (p + 1) hup hwt (full.size - (p + 1)) 0 (p + 1) l _ w (by omega) (Nat.le_refl _) hsz (by omega) hcl (fun i hi => hall i (by omega)) ht hQ
  | succ fuel ih =>
    intro l a hsz hc hcl hu ht hA
    by_cases hall : ∀ i, i < p + 1 → l.getD i false = true
    · rw [hA.whole (fun i hi => hall i (by omega))]
      have h0 := tail_count full.size (full.size - (p + 1)) l hsz (by omega) (fun i hi1 hi2 => ht i (by omega) hi2)
      exact rest_anyU (p + 1) hup hwt (full.size - (p + 1)) (fuel + 1) (p + 1) l _ w (by omega) (Nat.le_refl _) hsz (by omega) hcl hall ht hQ
    · have hex : ∃ x, x < p + 1 ∧ l.getD x false = false := by
        apply Classical.byContradiction
        intro hno
        apply hall
        intro i hi
        cases hb : l.getD i false with
        | true => rfl
        | false => exact absurd ⟨i, hi, hb⟩ hno
      obtain ⟨x, hx, hxf⟩ := hex
      refine ⟨fun hr => ?_, fun i hi => ?_⟩
      · have := ready_all hup hsz hr x (by omega)
        rw [hxf] at this
        cases this
      · obtain ⟨hun, o, ho, hedge⟩ := mem_ready.1 hi
        have hilt : i < full.size := (Array.getElem?_eq_some_iff.1 ho).1
        have hip1 : i < p + 1 := by
          rcases Nat.lt_or_ge i (p + 1) with h' | h'
          · exact h'
          · have := waitsT_spec hcl 12 o (hwt ho h' x (by omega)) hedge
            rw [hxf] at this
            cases this
        obtain ⟨o', v, ho', hk, hxq⟩ := hlate.at (hu i (by omega) hun)
        have hip : i < p := by rw [← hp]; exact (Array.getElem?_eq_some_iff.1 ho').1
        have hof := ho
        rw [hfull i hip, ho'] at ho
        injection ho with ho
        subst ho
        obtain ⟨he, hw0⟩ := hA.sees hO ho' hedge
        have hy : ∀ ts, Region.wanted o' (yielded full ts) = Region.wanted o' (yielded ops ts) := fun ts => by
          unfold Region.wanted
          cases hg : o'.guard with
          | none => rfl
          | some gw =>
            obtain ⟨g, want⟩ := gw
            have : yielded full ts g = yielded ops ts g := by unfold yielded; rw [hfull g (hgd ho' hg)]
            simp only [this]
        have hc' := count_set hun
        refine wpOp_step hof (fun K' hK => ?_)
        rw [hy, hw0, if_pos (hxq γ).1]
        unfold Oper.wp
        rw [he, (hxq γ).2 w]
        refine hK _ _ (ih _ _ (by simp [hsz]) (by omega) (hcl.step hof hedge) (fun j hj hj2 => ?_) (fun j hj hj2 => ?_) (hA.step hO hn ho' hk (fun _ _ _ _ => rfl)))
        · by_cases e : i = j
          · subst e
            have hi' : i < l.size := by omega
            simp [hi'] at hj2
          · rw [getD_set_ne true e] at hj2
            exact hu j hj hj2
        · rw [getD_set_ne true (by omega)]
          exact ht j hj hj2
/-- What is to be looked up of the whole region. -/
def enterly (full : Array Oper) (p d n : Nat) (late : List Nat) : Bool :=
  eachOp full (fun i o => o.after.all fun e => !Region.binds .any e || decide (e.on < i)) && decide (p + 1 ≤ full.size) && Region.noSelect full &&
  (match full[p]? with
   | none => false
   | some op => op.dst == some d && op.guard.isNone && ((List.range p).all fun j => waitsT full 12 op j || late.contains j) && (op.looksAt full).all fun d => eachOp full fun j oj => oj.dst != some d || waitsT full 12 op j || decide (p ≤ j)) &&
  eachOp full (fun i o => decide (i < p + 1) || (List.range i).all fun j => waitsT full 12 o j) && decide (d < n) && eachOp full (fun j oj => decide (p ≤ j) || oj.dst != some d)
end
end Rg
end Go.Proofs.YtolflfjfegngnaaDoor
end
