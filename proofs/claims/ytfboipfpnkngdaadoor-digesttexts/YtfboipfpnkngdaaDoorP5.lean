/- Texts of the proof, joined. -/
import Derived.Test.YtfboipfpnkngdaaDoorP4
section
namespace Go.Proofs.YtfboipfpnkngdaaDoor
open Go.RowKit
namespace Rg
set_option maxRecDepth 100000
section
variable {ρ : Operand → Value} {o : Oper} {x y : Operand} {a b : Nat} {w : World}
theorem ex_quo3 (h : 0 < b) (ha : a < 4611686018427387904) (ho : o.op = .binOp .quo 3 x y 3) (hx : ρ x = .int .i64 ((a : Nat) : Int)) (hy : ρ y = .int .i64 ((b : Nat) : Int)) : (execOp ρ o).run Tryd.prog w = .ok (.value (.int .i64 ((a / b : Nat) : Int))) w := by
  have hle : a / b ≤ a := Nat.div_le_self _ _
  simp only [execOp, ho, hx, hy]
  clear ho hx hy
  have hw : IntKind.i64.wrap ((a : Int) / (b : Int)) = (a : Int) / (b : Int) := by
    rw [← Int.natCast_ediv]
    generalize a / b = k at hle ⊢
    rw [IntKind.wrap_i64]
    omega
  go_simp
  omega
theorem ex_rem3 (h : 0 < b) (ha : a < 4611686018427387904) (ho : o.op = .binOp .rem 3 x y 3) (hx : ρ x = .int .i64 ((a : Nat) : Int)) (hy : ρ y = .int .i64 ((b : Nat) : Int)) : (execOp ρ o).run Tryd.prog w = .ok (.value (.int .i64 ((a % b : Nat) : Int))) w := by
  have _ := ha
  simp only [execOp, ho, hx, hy]
  clear ho hx hy
  go_simp
  rw [if_neg (by omega), Int.tmod_eq_emod_of_nonneg (by omega)]
end
theorem Rs.add {g o n : Nat} {f : Nat → Nat} {w : World} (h : Rs g o n f w) (j : Nat) (hj : j < n) : w.cell? ((⟨g, o, none⟩ : Addr).add j) = some (Z8 (f j)) := by
  rw [show (⟨g, o, none⟩ : Addr).add j = ⟨g, o + j, none⟩ by unfold Addr.add; split <;> simp_all]
  exact h.at_ j hj
/-- Bytes at an address. -/
structure Ra (a : Addr) (n : Nat) (f : Nat → Nat) (w : World) : Prop where
  lt : 0 < n → a.block < w.heap.size
  at_ : ∀ j, j < n → w.cell? (a.add j) = some (Z8 (f j))
theorem add_block (a : Addr) (j : Nat) : (a.add j).block = a.block := by unfold Addr.add; split <;> rfl
theorem Ra.below {a : Addr} {n : Nat} {f : Nat → Nat} {w w' : World} (h : Ra a n f w) (hb : Below w.heap.size w w') : Ra a n f w' :=
  ⟨fun hn => Nat.lt_of_lt_of_le (h.lt hn) hb.size, fun j hj => by rw [hb.cell (p := a.add j) (by rw [add_block]; exact h.lt (by omega))]; exact h.at_ j hj⟩
theorem Rs.kp2 {g gb o n : Nat} {f : Nat → Nat} {w w' : World} (h : Rs gb o n f w) (k : Kp g w w') (ne : gb ≠ g) : Rs gb o n f w' := by
  have s : Src g gb o n f w := ⟨h.lt, fun _ => ne, h.at_⟩
  exact ⟨fun hn => Nat.lt_of_lt_of_le (h.lt hn) k.size, fun i hi => s.kp k i hi⟩
/-- The message with its ending, as the document has it. -/
def zc (n : Nat) : Nat := (120 - (n + 1) % 64) % 64
def pn (n : Nat) : Nat := n + 1 + zc n + 8
def nb (n : Nat) : Nat := pn n / 64
def pz (f : Nat → Nat) (n : Nat) : Nat → Nat := fun j => if j < n then f j else if j = n then 128 else 0
def pd (f : Nat → Nat) (n : Nat) : Nat → Nat := ct (pz f n) (n + 1 + zc n) (b8 (c64 (8 * c64 n)))
theorem pz_f (f : Nat → Nat) (n j : Nat) (h : j < n) : f j = pz f n j := by unfold pz; rw [if_pos h]
theorem pz_n (f : Nat → Nat) (n : Nat) : 128 = pz f n n := by unfold pz; rw [if_neg (by omega), if_pos rfl]
theorem pz_z (f : Nat → Nat) (n k : Nat) : 0 = pz f n (n + 1 + k) := by unfold pz; rw [if_neg (by omega), if_neg (by omega)]
theorem nb_pn (n : Nat) : 64 * nb n = pn n := by unfold nb pn zc; omega
def hd (P : Nat → Nat) : Nat → Nat → Nat
  | 0 => fT
  | k + 1 => db (hd P k) kT P (64 * k)
def ob (h : Nat → Nat) : Nat → Nat → Nat
  | 0 => fun _ => 0
  | i + 1 => up (ob h i) i (sr (h (i / 4)) (24 - (8 * (i % 4))) % 256)
/-- The digest of n bytes, as the document has it. -/
def ds (f : Nat → Nat) (n : Nat) : Nat → Nat := ob (hd (pd f n) (nb n)) 32
theorem call31 : ∀ args w, (callFunc 31 args).run Tryd.prog w = .ok (.enter 31 args) w := by intro args w; go_simp
theorem call32 : ∀ args w, (callFunc 32 args).run Tryd.prog w = .ok (.enter 32 args) w := by intro args w; go_simp
theorem call33 : ∀ args w, (callFunc 33 args).run Tryd.prog w = .ok (.enter 33 args) w := by intro args w; go_simp
theorem call34 : ∀ args w, (callFunc 34 args).run Tryd.prog w = .ok (.enter 34 args) w := by intro args w; go_simp
set_option maxHeartbeats 4000000 in
set_option maxRecDepth 100000 in
theorem dSum_some (f : Nat → Nat) (n : Nat) (hn : n ≤ 1048576) (a : Addr) (cp : Nat) (w : World) (hR : Ra a n f w) :
    Calls Tryd.prog 11 #[.slice (some a) n cp] w fun e w' => e = .returned (.agg (ints .u8 (ds f n) 32).toArray) ∧ Below w.heap.size w w' := by
  have H0 : Hid (_ ∧ _) := ⟨Mm.nil w, Below.refl w.heap.size w⟩
  have R0 : Hid (Ra a n f w) := hR
  clear hR
  have hz : zc n = (120 - (n + 1) % 64) % 64 := rfl
  have hN : pn n = n + 1 + zc n + 8 := rfl
  have hM := nb_pn n
  go_enter Tryd.func11, Tryd.ntmps11
  refine wp_seq ?_
  refine walk_seqA 1 [.made (ints .u8 (fun _ => 0) 32) 25] (sB H0) ?ho1 ?he1
  case ho1 => exact ak (fun γ => ⟨rfl, fun w' => ex_mk25 rfl⟩) trivial
  intro γ w1 l hM hl
  have H1 : Hid (Mm w1 [(γ 0, ints .u8 (fun _ => 0) 32)] ∧ _) := growB H0 hM (Nat.le_refl _) hl [0] rfl (by decide)
  have o1_0 := ownB H0 hM (Nat.le_refl _) hl (i := 0) rfl
  clear hM hl l
  generalize γ 0 = γ1_0 at H1 o1_0 ⊢
  clear γ
  refine rest0 rfl (then_normal (wp_seq ?_))
  refine walk_seqB 0 [] H1 ?ho2 ?he2
  case ho2 => exact trivial
  intro _ w2 H2
  clear H1
  refine rest_at (l := [0, 1, 2, 3]) rfl ?_
  refine rest_set (d := 9) (v := .slice (some ⟨w2.heap.size, 0, none⟩) 0 0) (w' := (w2.alloc (.cells #[] 5))) rfl rfl rfl (ex_bs0 rfl) ?_
  simp only [Act.put, sa, sz, ss]
  have H3 : Hid (Mm (w2.alloc (.cells #[] 5)) [] ∧ Zo w w2.heap.size [(γ1_0, ints .u8 (fun _ => 0) 32)] (.slice (some ⟨w2.heap.size, 0, none⟩) 0 0) 0 f (w2.alloc (.cells #[] 5))) := ⟨Mm.nil _, Zo.made f H2.out.1 H2.out.2⟩
  clear H2
  generalize hgw : (w2.alloc (.cells #[] 5)) = w3 at H3 ⊢
  clear hgw
  generalize w2.heap.size = γb at H3 ⊢
  refine rest_set (d := 10) (v := .slice (some a) n cp) (w' := w3) rfl rfl rfl rfl ?_
  simp only [Act.put, sa, sz, ss]
  obtain ⟨v4, w4, hr, hZ⟩ := H3.out.2.app (a := a) n cp f ((R0.out.below H3.out.2.b).at_) (by omega) 22
  refine rest_set (d := 11) (v := v4) (w' := w4) rfl rfl rfl (ex_app rfl rfl rfl hr) ?_
  simp only [Act.put, sa, sz, ss]
  have H4 : Hid (Mm w4 [] ∧ Zo w γb [(γ1_0, ints .u8 (fun _ => 0) 32)] v4 n f w4) := ⟨Mm.nil _, by rw [Nat.zero_add] at hZ; exact hZ.cg (fun j _ => by unfold ct; rw [if_neg (by omega), Nat.sub_zero])⟩
  clear hr hZ H3
  refine rest_set (d := 3) (v := v4) (w' := w4) rfl rfl rfl rfl ?_
  simp only [Act.put, sa, sz, ss]
  refine rest_nil (then_normal (wp_seq ?_))
  refine walk_seqA 1 [.quiet (v4)] (sB H4) ?ho3 ?he3
  case ho3 => exact ak (fun _ => ⟨rfl, fun _ _ => rfl⟩) trivial
  intro γ w5 l hM hl
  have M5 : Mm w5 [] := H4.out.1.grow hM (Nat.le_refl _) hl [] rfl (by decide)
  have B5 : Zo w γb [(γ1_0, ints .u8 (fun _ => 0) 32)] v4 n f w5 := Zo.step H4.out.2 (hM.below)
  clear hM hl l H4
  clear γ
  have H5 : Hid (_ ∧ _) := ⟨M5, B5⟩
  clear M5 B5
  refine rest_at (l := [1, 2, 3]) rfl ?_
  refine rest_set (d := 13) (v := .slice (some ⟨w5.heap.size, 0, none⟩) 1 1) (w' := (w5.alloc (.cells ([Z8 128] : List Value).toArray 5))) rfl rfl rfl (ex_bs1 (a := 128) rfl rfl) ?_
  simp only [Act.put, sa, sz, ss]
  have H6 : Hid (Mm (w5.alloc (.cells ([Z8 128] : List Value).toArray 5)) [] ∧ Zo w γb [(γ1_0, ints .u8 (fun _ => 0) 32)] v4 n f (w5.alloc (.cells ([Z8 128] : List Value).toArray 5))) := ⟨Mm.nil _, Zo.step H5.out.2 ((Below.refl _ _).alloc (Nat.le_refl _) _)⟩
  have c6 := cell_one w5 128
  have C6 : Hid _ := c6
  clear c6 H5
  generalize hgw : (w5.alloc (.cells ([Z8 128] : List Value).toArray 5)) = w6 at H6 C6 ⊢
  clear hgw
  generalize w5.heap.size = γs6 at C6 ⊢
  obtain ⟨v7, w7, hr, hZ⟩ := H6.out.2.app (a := ⟨γs6, 0, none⟩) 1 1 (fun _ => 128) (C6.out) (by omega) 22
  refine rest_set (d := 14) (v := v7) (w' := w7) rfl rfl rfl (ex_app rfl rfl rfl hr) ?_
  simp only [Act.put, sa, sz, ss]
  have H7 : Hid (Mm w7 [] ∧ Zo w γb [(γ1_0, ints .u8 (fun _ => 0) 32)] v7 (n + 1 + 0) (pz f n) w7) := ⟨Mm.nil _, hZ.cg (ct_snoc (pz_n f n) (pz_f f n))⟩
  clear hr hZ H6
  refine rest_set (d := 3) (v := v7) (w' := w7) rfl rfl rfl rfl ?_
  simp only [Act.put, sa, sz, ss]
  refine rest_nil (then_normal ?_)
  refine wp_seq (wp_block ?_)
  refine loop_ghost (α := Nat) (fun k a' w' => ∃ s0 : Nat → Value, a' = ⟨#[.slice (some a) n cp, undef, PT γ1_0 0, s0 3, undef, undef, undef, undef, undef, .slice (some ⟨γb, 0, none⟩) 0 0, .slice (some a) n cp, v4, v4, .slice (some ⟨γs6, 0, none⟩) 1 1, v7, s0 15, s0 16, s0 17, s0 18, s0 19, s0 20, s0 21, undef, undef, undef, undef, undef, undef, undef, undef, undef, undef, undef, undef, undef, undef, undef, undef, undef, undef, undef, undef, undef, undef, undef, undef, undef, undef, undef, undef, undef, undef, undef, undef, undef, undef, undef, undef, undef], []⟩ ∧ (Mm w' [] ∧ Zo w γb [(γ1_0, ints .u8 (fun _ => 0) 32)] (s0 3) (n + 1 + k) (pz f n) w') ∧ k ≤ zc n) (fun k => zc n - k) 0 ?st0 ?rd0
  case st0 => exact ⟨(slotfn [undef, undef, undef, v7, undef, undef, undef, undef, undef, undef, undef, undef, undef, undef, undef, undef, undef, undef, undef, undef, undef, undef]), rfl, ⟨H7.out.1, H7.out.2⟩, by omega⟩
  intro k a' w8 hI
  obtain ⟨s0, rfl, hMB, hk0⟩ := hI
  have H8 : Hid (_ ∧ _) := hMB
  clear hMB H7
  by_cases hlt : k < zc n
  · have hrd : True := trivial
    clear hrd
    obtain ⟨g3, cap3, e3⟩ := H8.out.2.form (by omega)
    rw [e3] at H8 ⊢
    clear e3
    refine wp_seq (wp_seq ?_)
    refine walk_seqA 4 [.quiet (.slice (some ⟨g3, 0, none⟩) (n + 1 + k) cap3), .quiet (.int .i64 (((n + 1 + k) : Nat) : Int)), .quiet (.int .i64 (((n + 1 + k) % 64 : Nat) : Int)), .quiet (.bool true)] (sB H8) ?ho4 ?he4
    case ho4 => exact ak (fun _ => ⟨rfl, fun _ _ => rfl⟩) (ak (by refine fun γ => ⟨rfl, fun w' h => ?_⟩; clear h; go_simp) (ak (fun γ => ⟨rfl, fun w' _ => ex_rem3 (a := (n + 1 + k)) (b := 64) (by omega) (by omega) rfl rfl rfl⟩) (ak (by refine fun γ => ⟨rfl, fun w' h => ?_⟩; clear h; go_simp <;> omega) trivial)))
    intro γ w9 l hM hl
    have M9 : Mm w9 [] := H8.out.1.grow hM (Nat.le_refl _) hl [] rfl (by decide)
    have B9 : Zo w γb [(γ1_0, ints .u8 (fun _ => 0) 32)] (.slice (some ⟨g3, 0, none⟩) (n + 1 + k) cap3) (n + 1 + k) (pz f n) w9 := Zo.step H8.out.2 (hM.below)
    clear hM hl l H8
    clear γ
    have H9 : Hid (_ ∧ _) := ⟨M9, B9⟩
    clear M9 B9
    refine rest0 rfl (then_normal (wp_cond_true rfl ?_))
    refine wp_skip (then_normal (wp_block ?_))
    refine walk_seqA 1 [.quiet (.slice (some ⟨g3, 0, none⟩) (n + 1 + k) cap3)] (sB H9) ?ho5 ?he5
    case ho5 => exact ak (fun _ => ⟨rfl, fun _ _ => rfl⟩) trivial
    intro γ w10 l hM hl
    have M10 : Mm w10 [] := H9.out.1.grow hM (Nat.le_refl _) hl [] rfl (by decide)
    have B10 : Zo w γb [(γ1_0, ints .u8 (fun _ => 0) 32)] (.slice (some ⟨g3, 0, none⟩) (n + 1 + k) cap3) (n + 1 + k) (pz f n) w10 := Zo.step H9.out.2 (hM.below)
    clear hM hl l H9
    clear γ
    have H10 : Hid (_ ∧ _) := ⟨M10, B10⟩
    clear M10 B10
    refine rest_at (l := [1, 2, 3]) rfl ?_
    refine rest_set (d := 20) (v := .slice (some ⟨w10.heap.size, 0, none⟩) 1 1) (w' := (w10.alloc (.cells ([Z8 0] : List Value).toArray 5))) rfl rfl rfl (ex_bs1 (a := 0) rfl rfl) ?_
    simp only [Act.put, sa, sz, ss]
    have H11 : Hid (Mm (w10.alloc (.cells ([Z8 0] : List Value).toArray 5)) [] ∧ Zo w γb [(γ1_0, ints .u8 (fun _ => 0) 32)] (.slice (some ⟨g3, 0, none⟩) (n + 1 + k) cap3) (n + 1 + k) (pz f n) (w10.alloc (.cells ([Z8 0] : List Value).toArray 5))) := ⟨Mm.nil _, Zo.step H10.out.2 ((Below.refl _ _).alloc (Nat.le_refl _) _)⟩
    have c11 := cell_one w10 0
    have C11 : Hid _ := c11
    clear c11 H10
    generalize hgw : (w10.alloc (.cells ([Z8 0] : List Value).toArray 5)) = w11 at H11 C11 ⊢
    clear hgw
    generalize w10.heap.size = γs11 at C11 ⊢
    obtain ⟨v12, w12, hr, hZ⟩ := H11.out.2.app (a := ⟨γs11, 0, none⟩) 1 1 (fun _ => 0) (C11.out) (by omega) 22
    refine rest_set (d := 21) (v := v12) (w' := w12) rfl rfl rfl (ex_app rfl rfl rfl hr) ?_
    simp only [Act.put, sa, sz, ss]
    have H12 : Hid (Mm w12 [] ∧ Zo w γb [(γ1_0, ints .u8 (fun _ => 0) 32)] v12 (n + 1 + (k + 1)) (pz f n) w12) := ⟨Mm.nil _, hZ.cg (ct_snoc (pz_z f n k))⟩
    clear hr hZ H11
    refine rest_set (d := 3) (v := v12) (w' := w12) rfl rfl rfl rfl ?_
    simp only [Act.put, sa, sz, ss]
    refine rest_nil (block_normal (then_normal ?_))
    exact ⟨k + 1, ⟨(slotfn [undef, undef, undef, v12, undef, undef, undef, undef, undef, undef, undef, undef, undef, undef, undef, .slice (some ⟨g3, 0, none⟩) (n + 1 + k) cap3, .int .i64 (((n + 1 + k) : Nat) : Int), .int .i64 (((n + 1 + k) % 64 : Nat) : Int), .bool true, .slice (some ⟨g3, 0, none⟩) (n + 1 + k) cap3, .slice (some ⟨γs11, 0, none⟩) 1 1, v12]), rfl, ⟨H12.out.1, H12.out.2⟩, by omega⟩, by omega⟩
  have hkN : k = zc n := by omega
  subst hkN
  obtain ⟨g3, cap3, e3⟩ := H8.out.2.form (by omega)
  rw [e3] at H8 ⊢
  clear e3
  refine wp_seq (wp_seq ?_)
  refine walk_seqA 4 [.quiet (.slice (some ⟨g3, 0, none⟩) (n + 1 + zc n) cap3), .quiet (.int .i64 (((n + 1 + zc n) : Nat) : Int)), .quiet (.int .i64 (((n + 1 + zc n) % 64 : Nat) : Int)), .quiet (.bool false)] (sB H8) ?ho6 ?he6
  case ho6 => exact ak (fun _ => ⟨rfl, fun _ _ => rfl⟩) (ak (by refine fun γ => ⟨rfl, fun w' h => ?_⟩; clear h; go_simp) (ak (fun γ => ⟨rfl, fun w' _ => ex_rem3 (a := (n + 1 + zc n)) (b := 64) (by omega) (by omega) rfl rfl rfl⟩) (ak (by refine fun γ => ⟨rfl, fun w' h => ?_⟩; clear h; go_simp <;> omega) trivial)))
  intro γ w13 l hM hl
  have M13 : Mm w13 [] := H8.out.1.grow hM (Nat.le_refl _) hl [] rfl (by decide)
  have B13 : Zo w γb [(γ1_0, ints .u8 (fun _ => 0) 32)] (.slice (some ⟨g3, 0, none⟩) (n + 1 + zc n) cap3) (n + 1 + zc n) (pz f n) w13 := Zo.step H8.out.2 (hM.below)
  clear hM hl l H8
  clear γ
  have H13 : Hid (_ ∧ _) := ⟨M13, B13⟩
  clear M13 B13
  refine rest0 rfl (then_normal (wp_cond_false rfl ?_))
  refine wp_exit ?_
  repeat refine then_exit ?_
  refine block_exit ?_
  refine then_normal (wp_seq ?_)
  refine walk_seqA 5 [.quiet (.slice (some ⟨g3, 0, none⟩) (n + 1 + zc n) cap3), .quiet (.slice (some a) n cp), .quiet (.int .i64 ((n : Nat) : Int)), .quiet (U (c64 n)), .quiet (U (c64 (8 * c64 n)))] (sB H13) ?ho7 ?he7
  case ho7 => exact ak (fun _ => ⟨rfl, fun _ _ => rfl⟩) (ak (fun _ => ⟨rfl, fun _ _ => rfl⟩) (ak (by refine fun γ => ⟨rfl, fun w' h => ?_⟩; clear h; go_simp) (ak (fun γ => ⟨rfl, fun w' _ => ex_cv3_56 (a := n) rfl rfl⟩) (ak (fun γ => ⟨rfl, fun w' _ => ex_mul64 rfl rfl rfl⟩) trivial))))
  intro γ w14 l hM hl
  have M14 : Mm w14 [] := H13.out.1.grow hM (Nat.le_refl _) hl [] rfl (by decide)
  have B14 : Zo w γb [(γ1_0, ints .u8 (fun _ => 0) 32)] (.slice (some ⟨g3, 0, none⟩) (n + 1 + zc n) cap3) (n + 1 + zc n) (pz f n) w14 := Zo.step H13.out.2 (hM.below)
  clear hM hl l H13
  clear γ
  have H14 : Hid (_ ∧ _) := ⟨M14, B14⟩
  clear M14 B14
  refine rest_at (l := [5, 6, 7]) rfl ?_
  refine rest_enter (d := 27) rfl rfl rfl (exec_call (args := #[U (c64 (8 * c64 n))]) rfl call31 rfl (mpn rfl)) ((Calls.mono (Eight_any (c64 (8 * (c64 n))) w14) (fun e w2 hh => by obtain ⟨hb, g, cap, he, hR⟩ := hh; exact ⟨_, he, hb, g, cap, rfl, hR⟩) : Calls Tryd.prog 31 #[U (c64 (8 * (c64 n)))] w14 (fun e w' => ∃ v, e = .returned v ∧ (Below w14.heap.size w14 w' ∧ ∃ g cap, v = .slice (some ⟨g, 0, none⟩) 8 cap ∧ Rs g 0 8 (b8 (c64 (8 * (c64 n)))) w')))) ?_
  rintro _ w15 ⟨hb, g8, cap8, rfl, hR8⟩
  have H15 : Hid (Mm w15 [] ∧ Zo w γb [(γ1_0, ints .u8 (fun _ => 0) 32)] (.slice (some ⟨g3, 0, none⟩) (n + 1 + zc n) cap3) (n + 1 + zc n) (pz f n) w15) := ⟨Mm.nil _, Zo.step H14.out.2 hb⟩
  have R8 : Hid _ := hR8
  clear hb hR8 H14
  simp only [Act.put, sa, sz, ss]
  obtain ⟨v16, w16, hr, hZ⟩ := H15.out.2.app (a := ⟨g8, 0, none⟩) 8 cap8 (b8 (c64 (8 * (c64 n)))) (R8.out.add) (by omega) 22
  refine rest_set (d := 28) (v := v16) (w' := w16) rfl rfl rfl (ex_app rfl rfl rfl hr) ?_
  simp only [Act.put, sa, sz, ss]
  have H16 : Hid (Mm w16 [] ∧ Zo w γb [(γ1_0, ints .u8 (fun _ => 0) 32)] v16 (pn n) (pd f n) w16) := ⟨Mm.nil _, hZ⟩
  clear hr hZ H15
  refine rest_set (d := 3) (v := v16) (w' := w16) rfl rfl rfl rfl ?_
  simp only [Act.put, sa, sz, ss]
  refine rest_nil ?_
  obtain ⟨g9, cap9, e9⟩ := H16.out.2.form (by omega)
  rw [e9] at H16 ⊢
  have HB : Hid _ := H16.out.2.b
  have HM := H16.out.2.m
  have HR : Hid (Rs g9 0 (pn n) (pd f n) w16) := H16.out.2.rs
  have HN : Hid (g9 ≠ γ1_0) := (by have a1 := (World.ownsRow.lt H16.out.2.own g9 rfl).1; have a2 := H16.out.2.lt _ (List.mem_singleton.2 rfl); intro e; have a3 : γ1_0 < γb := a2; omega : g9 ≠ γ1_0)
  clear H16 e9
  generalize w16 = w at HB HM HR ⊢
  have H17 : Hid (_ ∧ _) := ⟨HM, Kp.refl γ1_0 w⟩
  clear HM
  refine then_normal (wp_seq ?_)
  refine walk_seqA 3 [.call (.agg (ints .u32 fT 8).toArray), .made (ints .u32 (fun _ => 0) 8) 52, .laid 1 (ints .u32 (fun _ => 0) 8) (ints .u32 fT 8)] (sB H17) ?ho8 ?he8 (hL := ?hL8)
  case hL8 => exact ⟨⟨_, rfl⟩, trivial⟩
  case ho8 => exact ak (fun γ => ⟨rfl, fun w' h => ⟨32, #[], exec_call rfl call32 rfl (mpn rfl), begin_any w'⟩⟩) (ak (fun γ => ⟨rfl, fun w' => ex_mk52 rfl⟩) (ak (fun γ => ⟨rfl, rfl, (ints_len _ _ _).trans (ints_len _ _ _).symm, fun w' h => ex_laidI h Tryd.sizeOf52 rfl rfl rfl⟩) trivial))
  intro γ w18 l hM hl
  have H18 : Hid (Mm w18 [(γ 1, ints .u32 fT 8), (γ1_0, ints .u8 (fun _ => 0) 32)] ∧ _) := growK H17 hM (Nat.le_refl _) hl [1] rfl (by decide)
  have o8_1 := ownK H17 hM (Nat.le_refl _) hl (i := 1) rfl
  clear hM hl l H17
  generalize γ 1 = γ8_1 at H18 o8_1 ⊢
  clear γ
  refine rest0 rfl (then_normal (wp_seq ?_))
  refine walk_seqA 3 [.call (.agg (ints .u32 kT 64).toArray), .made (ints .u32 (fun _ => 0) 64) 66, .laid 1 (ints .u32 (fun _ => 0) 64) (ints .u32 kT 64)] (sB H18) ?ho9 ?he9 (hL := ?hL9)
  case hL9 => exact ⟨⟨_, rfl⟩, trivial⟩
  case ho9 => exact ak (fun γ => ⟨rfl, fun w' h => ⟨33, #[], exec_call rfl call33 rfl (mpn rfl), table_any w'⟩⟩) (ak (fun γ => ⟨rfl, fun w' => ex_mk66 rfl⟩) (ak (fun γ => ⟨rfl, rfl, (ints_len _ _ _).trans (ints_len _ _ _).symm, fun w' h => ex_laidI h Tryd.sizeOf66 rfl rfl rfl⟩) trivial))
  intro γ w19 l hM hl
  have H19 : Hid (Mm w19 [(γ 1, ints .u32 kT 64), (γ8_1, ints .u32 fT 8), (γ1_0, ints .u8 (fun _ => 0) 32)] ∧ _) := growK H18 hM (Nat.le_refl _) hl [1] rfl (by decide)
  have o9_1 := ownK H18 hM (Nat.le_refl _) hl (i := 1) rfl
  clear hM hl l H18
  generalize γ 1 = γ9_1 at H19 o9_1 ⊢
  clear γ
  refine rest0 rfl (then_normal (wp_seq (wp_seq ?_)))
  refine walk_seqA 1 [.quiet (.int .i64 0)] (sB H19) ?ho10 ?he10
  case ho10 => exact ak (fun _ => ⟨rfl, fun _ _ => rfl⟩) trivial
  intro γ w20 l hM hl
  have H20 := keepK H19 hM.below
  clear hM hl l H19 γ
  refine rest0 rfl (then_normal (wp_block ?_))
  refine loop_ghost (α := Nat) (fun k a' w' => ∃ s2 : Nat → Value, a' = ⟨#[.slice (some a) n cp, undef, PT γ1_0 0, .slice (some ⟨g9, 0, none⟩) (pn n) cap9, PT γ8_1 0, PT γ9_1 0, .int .i64 ((64 * k : Nat) : Int), undef, undef, .slice (some ⟨γb, 0, none⟩) 0 0, .slice (some a) n cp, v4, v4, .slice (some ⟨γs6, 0, none⟩) 1 1, v7, .slice (some ⟨g3, 0, none⟩) (n + 1 + zc n) cap3, .int .i64 (((n + 1 + zc n) : Nat) : Int), .int .i64 (((n + 1 + zc n) % 64 : Nat) : Int), .bool false, s0 19, s0 20, s0 21, .slice (some ⟨g3, 0, none⟩) (n + 1 + zc n) cap3, .slice (some a) n cp, .int .i64 ((n : Nat) : Int), U (c64 n), U (c64 (8 * c64 n)), .slice (some ⟨g8, 0, none⟩) 8 cap8, .slice (some ⟨g9, 0, none⟩) (pn n) cap9, .agg (ints .u32 fT 8).toArray, .agg (ints .u32 kT 64).toArray, s2 31, s2 32, s2 33, s2 34, s2 35, s2 36, s2 37, s2 38, s2 39, s2 40, s2 41, undef, undef, undef, undef, undef, undef, undef, undef, undef, undef, undef, undef, undef, undef, undef, undef, undef], []⟩ ∧ (Mm w' [(γ9_1, ints .u32 kT 64), (γ8_1, ints .u32 (hd (pd f n) k) 8), (γ1_0, ints .u8 (fun _ => 0) 32)] ∧ Kp γ1_0 w w') ∧ k ≤ nb n) (fun k => nb n - k) 0 ?st2 ?rd2
  case st2 => exact ⟨(slotfn [undef, undef, undef, undef, undef, undef, undef, undef, undef, undef, undef, undef, undef, undef, undef, undef, undef, undef, undef, undef, undef, undef, undef, undef, undef, undef, undef, undef, undef, undef, undef, undef, undef, undef, undef, undef, undef, undef, undef, undef, undef, undef]), rfl, ⟨H20.out.1, H20.out.2⟩, by omega⟩
  intro k a' w21 hI
  obtain ⟨s2, rfl, hMB, hk2⟩ := hI
  have H21 : Hid (_ ∧ _) := hMB
  clear hMB H20
  by_cases hltk : k < nb n
  · have hrd : True := trivial
    clear hrd
    refine wp_seq (wp_seq ?_)
    refine walk_seqA 4 [.quiet (.int .i64 ((64 * k : Nat) : Int)), .quiet (.slice (some ⟨g9, 0, none⟩) (pn n) cap9), .quiet (.int .i64 (((pn n) : Nat) : Int)), .quiet (.bool true)] (sB H21) ?ho11 ?he11
    case ho11 => exact ak (fun _ => ⟨rfl, fun _ _ => rfl⟩) (ak (fun _ => ⟨rfl, fun _ _ => rfl⟩) (ak (by refine fun γ => ⟨rfl, fun w' h => ?_⟩; clear h; go_simp) (ak (by refine fun γ => ⟨rfl, fun w' h => ?_⟩; clear h; go_simp <;> omega) trivial)))
    intro γ w22 l hM hl
    have H22 := keepK H21 hM.below
    clear hM hl l H21 γ
    refine rest0 rfl (then_normal (wp_cond_true rfl ?_))
    refine wp_skip (then_normal ?_)
    refine wp_seq (wp_block ?_)
    refine (walk_seq) 5 [.quiet (.agg (ints .u32 (hd (pd f n) k) 8).toArray), .quiet (.agg (ints .u32 kT 64).toArray), .quiet (.slice (some ⟨g9, 0, none⟩) (pn n) cap9), .quiet (.int .i64 ((64 * k : Nat) : Int)), .call (.agg (ints .u32 (db (hd (pd f n) k) kT (pd f n) (64 * k)) 8).toArray)] (fun u' => Mm u' [(γ9_1, ints .u32 kT 64), (γ8_1, ints .u32 (hd (pd f n) k) 8), (γ1_0, ints .u8 (fun _ => 0) 32)] ∧ Rs g9 0 (pn n) (pd f n) u') ?pre12 ?F12 ?hpre12 (fun γ => ?hF12) (by kernel_rfl) ?hL12 ?hS12 ?ho12 ?he12
    case hpre12 => simp only [tk, tz]; rfl
    case hF12 => simp only [fill, Kind.val, Act.put, sa, sz, ss]; rfl
    case hL12 => exact trivial
    case hS12 => exact fun w' hb => ⟨H22.out.1.below hb, HR.out.kp2 (H22.out.2.trans (hb)) HN.out⟩
    case ho12 =>
      refine ak (fun γ => ⟨rfl, fun w' hX => have h := hX.1; ex_loadT h 1 rfl rfl rfl Tryd.isAgg52 Tryd.sizeOf52 (ints_whole _ _ _) (ints_len _ _ _)⟩) ?_
      refine ak (fun γ => ⟨rfl, fun w' hX => have h := hX.1; ex_loadT h 0 rfl rfl rfl Tryd.isAgg66 Tryd.sizeOf66 (ints_whole _ _ _) (ints_len _ _ _)⟩) ?_
      refine ak (fun _ => ⟨rfl, fun _ _ => rfl⟩) ?_
      refine ak (fun _ => ⟨rfl, fun _ _ => rfl⟩) ?_
      refine ak (fun γ => ⟨rfl, fun w' hX => ⟨34, #[.agg (ints .u32 (hd (pd f n) k) 8).toArray, .agg (ints .u32 kT 64).toArray, .slice (some ⟨g9, 0, none⟩) (pn n) cap9, .int .i64 ((64 * k : Nat) : Int)], exec_call rfl call34 rfl (mpn rfl), block_any (hd (pd f n) k) kT (pd f n) g9 (pn n) cap9 (64 * k) (by omega) (by omega) w' hX.2⟩⟩) ?_
      exact trivial
    intro γ w23 l hM hl
    have H23 := keepK H22 hM.below
    clear hM hl l H22 γ
    refine rest_at (l := [5]) rfl ?_
    refine rest_store rfl rfl rfl (ex_storeT (vs := ints .u32 (db (hd (pd f n) k) kT (pd f n) (64 * k)) 8) H23.out.1 1 rfl rfl rfl rfl (by rw [ints_len]; exact Tryd.sizeOf52) (ints_all _ _ _) (by simp [ints_len])) ?_
    have H24 : Hid (Mm (w23.setCells γ8_1 0 (ints .u32 (db (hd (pd f n) k) kT (pd f n) (64 * k)) 8)) [(γ9_1, ints .u32 kT 64), (γ8_1, ints .u32 (db (hd (pd f n) k) kT (pd f n) (64 * k)) 8), (γ1_0, ints .u8 (fun _ => 0) 32)] ∧ Kp γ1_0 w (w23.setCells γ8_1 0 (ints .u32 (db (hd (pd f n) k) kT (pd f n) (64 * k)) 8))) := ⟨by
      have h := H23.out.1.put 1 (off := 0) (vs := ints .u32 (db (hd (pd f n) k) kT (pd f n) (64 * k)) 8) rfl (by simp [ints_len])
      rw [ints_patch0 _ _ _ _] at h
      exact h, H23.out.2.put (Or.inr o8_1.out)⟩
    clear H23
    generalize hgw : World.setCells _ _ _ _ = w24 at H24 ⊢
    clear hgw
    refine rest_nil (block_normal (then_normal ?_))
    refine walk_seqA 2 [.quiet (.int .i64 ((64 * k : Nat) : Int)), .quiet (.int .i64 (((64 * k) + 64 : Nat) : Int))] (sB H24) ?ho13 ?he13
    case ho13 => exact ak (fun _ => ⟨rfl, fun _ _ => rfl⟩) (ak (by refine fun γ => ⟨rfl, fun w' h => ?_⟩; clear h; go_simp; rw [IntKind.wrap_i64]; omega) trivial)
    intro γ w25 l hM hl
    have H25 := keepK H24 hM.below
    clear hM hl l H24 γ
    refine rest_at (l := [2]) rfl ?_
    refine rest_set (d := 6) (v := .int .i64 (((64 * k) + 64 : Nat) : Int)) (w' := w25) rfl rfl rfl rfl ?_
    simp only [Act.put, sa, sz, ss]
    refine rest_nil (then_normal ?_)
    exact ⟨k + 1, ⟨(slotfn [undef, undef, undef, undef, undef, undef, undef, undef, undef, undef, undef, undef, undef, undef, undef, undef, undef, undef, undef, undef, undef, undef, undef, undef, undef, undef, undef, undef, undef, undef, undef, .int .i64 ((64 * k : Nat) : Int), .slice (some ⟨g9, 0, none⟩) (pn n) cap9, .int .i64 (((pn n) : Nat) : Int), .bool true, .int .i64 ((64 * k : Nat) : Int), .int .i64 (((64 * k) + 64 : Nat) : Int), .agg (ints .u32 (hd (pd f n) k) 8).toArray, .agg (ints .u32 kT 64).toArray, .slice (some ⟨g9, 0, none⟩) (pn n) cap9, .int .i64 ((64 * k : Nat) : Int), .agg (ints .u32 (db (hd (pd f n) k) kT (pd f n) (64 * k)) 8).toArray]), rfl, ⟨H25.out.1, H25.out.2⟩, by omega⟩, by omega⟩
  have hkN : k = nb n := by omega
  subst hkN
  refine wp_seq (wp_seq ?_)
  refine walk_seqA 4 [.quiet (.int .i64 ((64 * (nb n) : Nat) : Int)), .quiet (.slice (some ⟨g9, 0, none⟩) (pn n) cap9), .quiet (.int .i64 (((pn n) : Nat) : Int)), .quiet (.bool false)] (sB H21) ?ho14 ?he14
  case ho14 => exact ak (fun _ => ⟨rfl, fun _ _ => rfl⟩) (ak (fun _ => ⟨rfl, fun _ _ => rfl⟩) (ak (by refine fun γ => ⟨rfl, fun w' h => ?_⟩; clear h; go_simp) (ak (by refine fun γ => ⟨rfl, fun w' h => ?_⟩; clear h; go_simp <;> omega) trivial)))
  intro γ w26 l hM hl
  have H26 := keepK H21 hM.below
  clear hM hl l H21 γ
  refine rest0 rfl (then_normal (wp_cond_false rfl ?_))
  refine wp_exit ?_
  repeat refine then_exit ?_
  refine block_exit ?_
  refine then_normal (wp_seq ?_)
  refine walk_seqA 1 [.made (ints .u8 (fun _ => 0) 32) 25] (sB H26) ?ho15 ?he15
  case ho15 => exact ak (fun γ => ⟨rfl, fun w' => ex_mk25 rfl⟩) trivial
  intro γ w27 l hM hl
  have H27 : Hid (Mm w27 [(γ 0, ints .u8 (fun _ => 0) 32), (γ9_1, ints .u32 kT 64), (γ8_1, ints .u32 (hd (pd f n) (nb n)) 8), (γ1_0, ints .u8 (fun _ => 0) 32)] ∧ _) := growK H26 hM (Nat.le_refl _) hl [0] rfl (by decide)
  have o15_0 := ownK H26 hM (Nat.le_refl _) hl (i := 0) rfl
  clear hM hl l H26
  generalize γ 0 = γ15_0 at H27 o15_0 ⊢
  clear γ
  refine rest0 rfl (then_normal (wp_seq (wp_seq ?_)))
  refine walk_seqA 1 [.quiet (.int .i64 0)] (sB H27) ?ho16 ?he16
  case ho16 => exact ak (fun _ => ⟨rfl, fun _ _ => rfl⟩) trivial
  intro γ w28 l hM hl
  have H28 := keepK H27 hM.below
  clear hM hl l H27 γ
  refine rest0 rfl (then_normal (wp_block ?_))
  refine loop_ghost (α := Nat) (fun i a' w' => ∃ s4 : Nat → Value, a' = ⟨#[.slice (some a) n cp, undef, PT γ1_0 0, .slice (some ⟨g9, 0, none⟩) (pn n) cap9, PT γ8_1 0, PT γ9_1 0, .int .i64 ((64 * (nb n) : Nat) : Int), PT γ15_0 0, .int .i64 ((i : Nat) : Int), .slice (some ⟨γb, 0, none⟩) 0 0, .slice (some a) n cp, v4, v4, .slice (some ⟨γs6, 0, none⟩) 1 1, v7, .slice (some ⟨g3, 0, none⟩) (n + 1 + zc n) cap3, .int .i64 (((n + 1 + zc n) : Nat) : Int), .int .i64 (((n + 1 + zc n) % 64 : Nat) : Int), .bool false, s0 19, s0 20, s0 21, .slice (some ⟨g3, 0, none⟩) (n + 1 + zc n) cap3, .slice (some a) n cp, .int .i64 ((n : Nat) : Int), U (c64 n), U (c64 (8 * c64 n)), .slice (some ⟨g8, 0, none⟩) 8 cap8, .slice (some ⟨g9, 0, none⟩) (pn n) cap9, .agg (ints .u32 fT 8).toArray, .agg (ints .u32 kT 64).toArray, .int .i64 ((64 * (nb n) : Nat) : Int), .slice (some ⟨g9, 0, none⟩) (pn n) cap9, .int .i64 (((pn n) : Nat) : Int), .bool false, s2 35, s2 36, s2 37, s2 38, s2 39, s2 40, s2 41, s4 42, s4 43, s4 44, s4 45, s4 46, s4 47, s4 48, s4 49, s4 50, s4 51, s4 52, s4 53, s4 54, s4 55, s4 56, s4 57, undef], []⟩ ∧ (Mm w' [(γ15_0, ints .u8 (ob (hd (pd f n) (nb n)) i) 32), (γ9_1, ints .u32 kT 64), (γ8_1, ints .u32 (hd (pd f n) (nb n)) 8), (γ1_0, ints .u8 (fun _ => 0) 32)] ∧ Kp γ1_0 w w') ∧ i ≤ 32) (fun i => 32 - i) 0 ?st4 ?rd4
  case st4 => exact ⟨(slotfn [undef, undef, undef, undef, undef, undef, undef, undef, undef, undef, undef, undef, undef, undef, undef, undef, undef, undef, undef, undef, undef, undef, undef, undef, undef, undef, undef, undef, undef, undef, undef, undef, undef, undef, undef, undef, undef, undef, undef, undef, undef, undef, undef, undef, undef, undef, undef, undef, undef, undef, undef, undef, undef, undef, undef, undef, undef, undef]), rfl, ⟨H28.out.1, H28.out.2⟩, by omega⟩
  intro i a' w29 hI
  obtain ⟨s4, rfl, hMB, hk4⟩ := hI
  have H29 : Hid (_ ∧ _) := hMB
  clear hMB H28
  by_cases hlti : i < 32
  · have hrd : True := trivial
    clear hrd
    refine wp_seq (wp_seq ?_)
    refine walk_seqA 2 [.quiet (.int .i64 ((i : Nat) : Int)), .quiet (.bool true)] (sB H29) ?ho17 ?he17
    case ho17 => exact ak (fun _ => ⟨rfl, fun _ _ => rfl⟩) (ak (by refine fun γ => ⟨rfl, fun w' h => ?_⟩; clear h; go_simp <;> omega) trivial)
    intro γ w30 l hM hl
    have H30 := keepK H29 hM.below
    clear hM hl l H29 γ
    refine rest0 rfl (then_normal (wp_cond_true rfl ?_))
    refine wp_skip (then_normal ?_)
    refine wp_seq (wp_block ?_)
    refine walk_seqA 12 [.quiet (.int .i64 ((i : Nat) : Int)), .quiet (.int .i64 ((i : Nat) : Int)), .quiet (.int .i64 ((i / 4 : Nat) : Int)), .quiet (PT γ8_1 (i / 4)), .quiet (W32 ((hd (pd f n) (nb n)) (i / 4))), .quiet (.int .i64 ((i : Nat) : Int)), .quiet (.int .i64 ((i % 4 : Nat) : Int)), .quiet (.int .i64 ((8 * (i % 4) : Nat) : Int)), .quiet (.int .i64 ((24 - (8 * (i % 4)) : Nat) : Int)), .quiet (W32 (sr ((hd (pd f n) (nb n)) (i / 4)) (24 - (8 * (i % 4))))), .quiet (Z8 ((sr ((hd (pd f n) (nb n)) (i / 4)) (24 - (8 * (i % 4)))) % 256)), .quiet (PT γ15_0 i)] (sB H30) ?ho18 ?he18
    case ho18 => exact ak (fun _ => ⟨rfl, fun _ _ => rfl⟩) (ak (fun _ => ⟨rfl, fun _ _ => rfl⟩) (ak (fun γ => ⟨rfl, fun w' _ => ex_quo3 (a := i) (b := 4) (by omega) (by omega) rfl rfl rfl⟩) (ak (fun γ => ⟨rfl, fun w' _ => ex_ix0_52 (j := i / 4) rfl rfl rfl (by omega)⟩) (ak (fun γ => ⟨rfl, fun w' h => ex_loadC h 2 rfl rfl rfl Tryd.isAgg51 (ints_get _ _ (by omega))⟩) (ak (fun _ => ⟨rfl, fun _ _ => rfl⟩) (ak (fun γ => ⟨rfl, fun w' _ => ex_rem3 (a := i) (b := 4) (by omega) (by omega) rfl rfl rfl⟩) (ak (by refine fun γ => ⟨rfl, fun w' h => ?_⟩; clear h; go_simp; rw [IntKind.wrap_i64]; omega) (ak (by refine fun γ => ⟨rfl, fun w' h => ?_⟩; clear h; go_simp; rw [IntKind.wrap_i64]; omega) (ak (fun γ => ⟨rfl, fun w' _ => ex_shr32 (k := 24 - (8 * (i % 4))) (by omega) rfl rfl rfl⟩) (ak (fun γ => ⟨rfl, fun w' _ => ex_cv51_5 rfl rfl⟩) (ak (fun γ => ⟨rfl, fun w' _ => ex_ix0_25 (j := i) rfl rfl rfl (by omega)⟩) trivial)))))))))))
    intro γ w31 l hM hl
    have H31 := keepK H30 hM.below
    clear hM hl l H30 γ
    refine rest_at (l := [12]) rfl ?_
    refine rest_store rfl rfl rfl (ex_storeI H31.out.1 0 rfl rfl Tryd.sizeOf5 rfl rfl (by rw [ints_len]; omega)) ?_
    have H32 : Hid (Mm (w31.setCells γ15_0 i ([Z8 ((sr ((hd (pd f n) (nb n)) (i / 4)) (24 - (8 * (i % 4)))) % 256)])) [(γ15_0, ints .u8 (up (ob (hd (pd f n) (nb n)) i) i ((sr ((hd (pd f n) (nb n)) (i / 4)) (24 - (8 * (i % 4)))) % 256)) 32), (γ9_1, ints .u32 kT 64), (γ8_1, ints .u32 (hd (pd f n) (nb n)) 8), (γ1_0, ints .u8 (fun _ => 0) 32)] ∧ Kp γ1_0 w (w31.setCells γ15_0 i ([Z8 ((sr ((hd (pd f n) (nb n)) (i / 4)) (24 - (8 * (i % 4)))) % 256)]))) := ⟨by
      have h := H31.out.1.put 0 (off := i) (vs := [Z8 ((sr ((hd (pd f n) (nb n)) (i / 4)) (24 - (8 * (i % 4)))) % 256)]) rfl (by rw [ints_len]; simp only [List.length_cons, List.length_nil]; omega)
      rw [ints_patch _ _ _ _ (by omega)] at h
      exact h, H31.out.2.put (Or.inr o15_0.out)⟩
    clear H31
    generalize hgw : World.setCells _ _ _ _ = w32 at H32 ⊢
    clear hgw
    refine rest_nil (block_normal (then_normal ?_))
    refine walk_seqA 2 [.quiet (.int .i64 ((i : Nat) : Int)), .quiet (.int .i64 ((i + 1 : Nat) : Int))] (sB H32) ?ho19 ?he19
    case ho19 => exact ak (fun _ => ⟨rfl, fun _ _ => rfl⟩) (ak (by refine fun γ => ⟨rfl, fun w' h => ?_⟩; clear h; go_simp; rw [IntKind.wrap_i64]; omega) trivial)
    intro γ w33 l hM hl
    have H33 := keepK H32 hM.below
    clear hM hl l H32 γ
    refine rest_at (l := [2]) rfl ?_
    refine rest_set (d := 8) (v := .int .i64 ((i + 1 : Nat) : Int)) (w' := w33) rfl rfl rfl rfl ?_
    simp only [Act.put, sa, sz, ss]
    refine rest_nil (then_normal ?_)
    exact ⟨i + 1, ⟨(slotfn [undef, undef, undef, undef, undef, undef, undef, undef, undef, undef, undef, undef, undef, undef, undef, undef, undef, undef, undef, undef, undef, undef, undef, undef, undef, undef, undef, undef, undef, undef, undef, undef, undef, undef, undef, undef, undef, undef, undef, undef, undef, undef, .int .i64 ((i : Nat) : Int), .bool true, .int .i64 ((i : Nat) : Int), .int .i64 ((i + 1 : Nat) : Int), .int .i64 ((i : Nat) : Int), .int .i64 ((i : Nat) : Int), .int .i64 ((i / 4 : Nat) : Int), PT γ8_1 (i / 4), W32 ((hd (pd f n) (nb n)) (i / 4)), .int .i64 ((i : Nat) : Int), .int .i64 ((i % 4 : Nat) : Int), .int .i64 ((8 * (i % 4) : Nat) : Int), .int .i64 ((24 - (8 * (i % 4)) : Nat) : Int), W32 (sr ((hd (pd f n) (nb n)) (i / 4)) (24 - (8 * (i % 4)))), Z8 ((sr ((hd (pd f n) (nb n)) (i / 4)) (24 - (8 * (i % 4)))) % 256), PT γ15_0 i]), rfl, ⟨H33.out.1, H33.out.2⟩, by omega⟩, by omega⟩
  have hiN : i = 32 := by omega
  subst hiN
  refine wp_seq (wp_seq ?_)
  refine walk_seqA 2 [.quiet (.int .i64 ((32 : Nat) : Int)), .quiet (.bool false)] (sB H29) ?ho20 ?he20
  case ho20 => exact ak (fun _ => ⟨rfl, fun _ _ => rfl⟩) (ak (by refine fun γ => ⟨rfl, fun w' h => ?_⟩; clear h; go_simp <;> omega) trivial)
  intro γ w34 l hM hl
  have H34 := keepK H29 hM.below
  clear hM hl l H29 γ
  refine rest0 rfl (then_normal (wp_cond_false rfl ?_))
  refine wp_exit ?_
  repeat refine then_exit ?_
  refine block_exit ?_
  refine then_normal (wp_seq ?_)
  refine walk_seqA 1 [.quiet (.agg (ints .u8 (ob (hd (pd f n) (nb n)) 32) 32).toArray)] (sB H34) ?ho21 ?he21
  case ho21 => exact ak (fun γ => ⟨rfl, fun w' h => ex_loadT h 0 rfl rfl rfl Tryd.isAgg25 Tryd.sizeOf25 (ints_whole _ _ _) (ints_len _ _ _)⟩) trivial
  intro γ w35 l hM hl
  have H35 := keepK H34 hM.below
  clear hM hl l H34 γ
  refine rest_at (l := [1]) rfl ?_
  refine rest_store rfl rfl rfl (ex_storeT (vs := ints .u8 (ob (hd (pd f n) (nb n)) 32) 32) H35.out.1 3 rfl rfl rfl rfl (by rw [ints_len]; exact Tryd.sizeOf25) (ints_all _ _ _) (by simp [ints_len])) ?_
  have H36 : Hid (Mm (w35.setCells γ1_0 0 (ints .u8 (ob (hd (pd f n) (nb n)) 32) 32)) [(γ15_0, ints .u8 (ob (hd (pd f n) (nb n)) 32) 32), (γ9_1, ints .u32 kT 64), (γ8_1, ints .u32 (hd (pd f n) (nb n)) 8), (γ1_0, ints .u8 (ob (hd (pd f n) (nb n)) 32) 32)] ∧ Kp γ1_0 w (w35.setCells γ1_0 0 (ints .u8 (ob (hd (pd f n) (nb n)) 32) 32))) := ⟨by
    have h := H35.out.1.put 3 (off := 0) (vs := ints .u8 (ob (hd (pd f n) (nb n)) 32) 32) rfl (by simp [ints_len])
    rw [ints_patch0 _ _ _ _] at h
    exact h, H35.out.2.put (Or.inl rfl)⟩
  clear H35
  generalize hgw : World.setCells _ _ _ _ = w36 at H36 ⊢
  clear hgw
  refine rest_nil (then_normal (wp_ret ?_))
  repeat (first | refine then_ret ?_ | refine block_ret ?_)
  have hf0 := var_T H36.out.1 3 rfl Tryd.isAgg25 Tryd.sizeOf25 (ints_len _ _ _)
  refine bodyPost_ret (v := .agg (ints .u8 (ob (hd (pd f n) (nb n)) 32) 32).toArray) (by simp [results, Tryd.results11, asAddr, hf0]) rfl ?_
  exact ⟨rfl, Below.kp HB.out H36.out.2 o1_0.out HB.out.size⟩
set_option maxHeartbeats 4000000 in
set_option maxRecDepth 100000 in
theorem dSum_none (f : Nat → Nat) (n : Nat) (hn : n ≤ 1048576) (h0 : n = 0) (w : World) :
    Calls Tryd.prog 11 #[.slice none 0 0] w fun e w' => e = .returned (.agg (ints .u8 (ds f n) 32).toArray) ∧ Below w.heap.size w w' := by
  have H0 : Hid (_ ∧ _) := ⟨Mm.nil w, Below.refl w.heap.size w⟩
  have hn0 : Hid (n = 0) := h0
  clear h0
  have hz : zc n = (120 - (n + 1) % 64) % 64 := rfl
  have hN : pn n = n + 1 + zc n + 8 := rfl
  have hM := nb_pn n
  go_enter Tryd.func11, Tryd.ntmps11
  refine wp_seq ?_
  refine walk_seqA 1 [.made (ints .u8 (fun _ => 0) 32) 25] (sB H0) ?ho1 ?he1
  case ho1 => exact ak (fun γ => ⟨rfl, fun w' => ex_mk25 rfl⟩) trivial
  intro γ w1 l hM hl
  have H1 : Hid (Mm w1 [(γ 0, ints .u8 (fun _ => 0) 32)] ∧ _) := growB H0 hM (Nat.le_refl _) hl [0] rfl (by decide)
  have o1_0 := ownB H0 hM (Nat.le_refl _) hl (i := 0) rfl
  clear hM hl l
  generalize γ 0 = γ1_0 at H1 o1_0 ⊢
  clear γ
  refine rest0 rfl (then_normal (wp_seq ?_))
  refine walk_seqB 0 [] H1 ?ho2 ?he2
  case ho2 => exact trivial
  intro _ w2 H2
  clear H1
  refine rest_at (l := [0, 1, 2, 3]) rfl ?_
  refine rest_set (d := 9) (v := .slice (some ⟨w2.heap.size, 0, none⟩) 0 0) (w' := (w2.alloc (.cells #[] 5))) rfl rfl rfl (ex_bs0 rfl) ?_
  simp only [Act.put, sa, sz, ss]
  have H3 : Hid (Mm (w2.alloc (.cells #[] 5)) [] ∧ Zo w w2.heap.size [(γ1_0, ints .u8 (fun _ => 0) 32)] (.slice (some ⟨w2.heap.size, 0, none⟩) 0 0) 0 f (w2.alloc (.cells #[] 5))) := ⟨Mm.nil _, Zo.made f H2.out.1 H2.out.2⟩
  clear H2
  generalize hgw : (w2.alloc (.cells #[] 5)) = w3 at H3 ⊢
  clear hgw
  generalize w2.heap.size = γb at H3 ⊢
  refine rest_set (d := 10) (v := .slice none 0 0) (w' := w3) rfl rfl rfl rfl ?_
  simp only [Act.put, sa, sz, ss]
  refine rest_set (d := 11) (v := .slice (some ⟨γb, 0, none⟩) 0 0) (w' := w3) rfl rfl rfl (ex_app rfl rfl rfl (H3.out.2.app0 22)) ?_
  simp only [Act.put, sa, sz, ss]
  have H4 : Hid (Mm w3 [] ∧ Zo w γb [(γ1_0, ints .u8 (fun _ => 0) 32)] (.slice (some ⟨γb, 0, none⟩) 0 0) n f w3) := ⟨Mm.nil _, by rw [hn0.out]; exact H3.out.2⟩
  clear H3
  refine rest_set (d := 3) (v := .slice (some ⟨γb, 0, none⟩) 0 0) (w' := w3) rfl rfl rfl rfl ?_
  simp only [Act.put, sa, sz, ss]
  refine rest_nil (then_normal (wp_seq ?_))
  refine walk_seqA 1 [.quiet (.slice (some ⟨γb, 0, none⟩) 0 0)] (sB H4) ?ho3 ?he3
  case ho3 => exact ak (fun _ => ⟨rfl, fun _ _ => rfl⟩) trivial
  intro γ w5 l hM hl
  have M5 : Mm w5 [] := H4.out.1.grow hM (Nat.le_refl _) hl [] rfl (by decide)
  have B5 : Zo w γb [(γ1_0, ints .u8 (fun _ => 0) 32)] (.slice (some ⟨γb, 0, none⟩) 0 0) n f w5 := Zo.step H4.out.2 (hM.below)
  clear hM hl l H4
  clear γ
  have H5 : Hid (_ ∧ _) := ⟨M5, B5⟩
  clear M5 B5
  refine rest_at (l := [1, 2, 3]) rfl ?_
  refine rest_set (d := 13) (v := .slice (some ⟨w5.heap.size, 0, none⟩) 1 1) (w' := (w5.alloc (.cells ([Z8 128] : List Value).toArray 5))) rfl rfl rfl (ex_bs1 (a := 128) rfl rfl) ?_
  simp only [Act.put, sa, sz, ss]
  have H6 : Hid (Mm (w5.alloc (.cells ([Z8 128] : List Value).toArray 5)) [] ∧ Zo w γb [(γ1_0, ints .u8 (fun _ => 0) 32)] (.slice (some ⟨γb, 0, none⟩) 0 0) n f (w5.alloc (.cells ([Z8 128] : List Value).toArray 5))) := ⟨Mm.nil _, Zo.step H5.out.2 ((Below.refl _ _).alloc (Nat.le_refl _) _)⟩
  have c6 := cell_one w5 128
  have C6 : Hid _ := c6
  clear c6 H5
  generalize hgw : (w5.alloc (.cells ([Z8 128] : List Value).toArray 5)) = w6 at H6 C6 ⊢
  clear hgw
  generalize w5.heap.size = γs6 at C6 ⊢
  obtain ⟨v7, w7, hr, hZ⟩ := H6.out.2.app (a := ⟨γs6, 0, none⟩) 1 1 (fun _ => 128) (C6.out) (by omega) 22
  refine rest_set (d := 14) (v := v7) (w' := w7) rfl rfl rfl (ex_app rfl rfl rfl hr) ?_
  simp only [Act.put, sa, sz, ss]
  have H7 : Hid (Mm w7 [] ∧ Zo w γb [(γ1_0, ints .u8 (fun _ => 0) 32)] v7 (n + 1 + 0) (pz f n) w7) := ⟨Mm.nil _, hZ.cg (ct_snoc (pz_n f n) (pz_f f n))⟩
  clear hr hZ H6
  refine rest_set (d := 3) (v := v7) (w' := w7) rfl rfl rfl rfl ?_
  simp only [Act.put, sa, sz, ss]
  refine rest_nil (then_normal ?_)
  refine wp_seq (wp_block ?_)
  refine loop_ghost (α := Nat) (fun k a' w' => ∃ s0 : Nat → Value, a' = ⟨#[.slice none 0 0, undef, PT γ1_0 0, s0 3, undef, undef, undef, undef, undef, .slice (some ⟨γb, 0, none⟩) 0 0, .slice none 0 0, .slice (some ⟨γb, 0, none⟩) 0 0, .slice (some ⟨γb, 0, none⟩) 0 0, .slice (some ⟨γs6, 0, none⟩) 1 1, v7, s0 15, s0 16, s0 17, s0 18, s0 19, s0 20, s0 21, undef, undef, undef, undef, undef, undef, undef, undef, undef, undef, undef, undef, undef, undef, undef, undef, undef, undef, undef, undef, undef, undef, undef, undef, undef, undef, undef, undef, undef, undef, undef, undef, undef, undef, undef, undef, undef], []⟩ ∧ (Mm w' [] ∧ Zo w γb [(γ1_0, ints .u8 (fun _ => 0) 32)] (s0 3) (n + 1 + k) (pz f n) w') ∧ k ≤ zc n) (fun k => zc n - k) 0 ?st0 ?rd0
  case st0 => exact ⟨(slotfn [undef, undef, undef, v7, undef, undef, undef, undef, undef, undef, undef, undef, undef, undef, undef, undef, undef, undef, undef, undef, undef, undef]), rfl, ⟨H7.out.1, H7.out.2⟩, by omega⟩
  intro k a' w8 hI
  obtain ⟨s0, rfl, hMB, hk0⟩ := hI
  have H8 : Hid (_ ∧ _) := hMB
  clear hMB H7
  by_cases hlt : k < zc n
  · have hrd : True := trivial
    clear hrd
    obtain ⟨g3, cap3, e3⟩ := H8.out.2.form (by omega)
    rw [e3] at H8 ⊢
    clear e3
    refine wp_seq (wp_seq ?_)
    refine walk_seqA 4 [.quiet (.slice (some ⟨g3, 0, none⟩) (n + 1 + k) cap3), .quiet (.int .i64 (((n + 1 + k) : Nat) : Int)), .quiet (.int .i64 (((n + 1 + k) % 64 : Nat) : Int)), .quiet (.bool true)] (sB H8) ?ho4 ?he4
    case ho4 => exact ak (fun _ => ⟨rfl, fun _ _ => rfl⟩) (ak (by refine fun γ => ⟨rfl, fun w' h => ?_⟩; clear h; go_simp) (ak (fun γ => ⟨rfl, fun w' _ => ex_rem3 (a := (n + 1 + k)) (b := 64) (by omega) (by omega) rfl rfl rfl⟩) (ak (by refine fun γ => ⟨rfl, fun w' h => ?_⟩; clear h; go_simp <;> omega) trivial)))
    intro γ w9 l hM hl
    have M9 : Mm w9 [] := H8.out.1.grow hM (Nat.le_refl _) hl [] rfl (by decide)
    have B9 : Zo w γb [(γ1_0, ints .u8 (fun _ => 0) 32)] (.slice (some ⟨g3, 0, none⟩) (n + 1 + k) cap3) (n + 1 + k) (pz f n) w9 := Zo.step H8.out.2 (hM.below)
    clear hM hl l H8
    clear γ
    have H9 : Hid (_ ∧ _) := ⟨M9, B9⟩
    clear M9 B9
    refine rest0 rfl (then_normal (wp_cond_true rfl ?_))
    refine wp_skip (then_normal (wp_block ?_))
    refine walk_seqA 1 [.quiet (.slice (some ⟨g3, 0, none⟩) (n + 1 + k) cap3)] (sB H9) ?ho5 ?he5
    case ho5 => exact ak (fun _ => ⟨rfl, fun _ _ => rfl⟩) trivial
    intro γ w10 l hM hl
    have M10 : Mm w10 [] := H9.out.1.grow hM (Nat.le_refl _) hl [] rfl (by decide)
    have B10 : Zo w γb [(γ1_0, ints .u8 (fun _ => 0) 32)] (.slice (some ⟨g3, 0, none⟩) (n + 1 + k) cap3) (n + 1 + k) (pz f n) w10 := Zo.step H9.out.2 (hM.below)
    clear hM hl l H9
    clear γ
    have H10 : Hid (_ ∧ _) := ⟨M10, B10⟩
    clear M10 B10
    refine rest_at (l := [1, 2, 3]) rfl ?_
    refine rest_set (d := 20) (v := .slice (some ⟨w10.heap.size, 0, none⟩) 1 1) (w' := (w10.alloc (.cells ([Z8 0] : List Value).toArray 5))) rfl rfl rfl (ex_bs1 (a := 0) rfl rfl) ?_
    simp only [Act.put, sa, sz, ss]
    have H11 : Hid (Mm (w10.alloc (.cells ([Z8 0] : List Value).toArray 5)) [] ∧ Zo w γb [(γ1_0, ints .u8 (fun _ => 0) 32)] (.slice (some ⟨g3, 0, none⟩) (n + 1 + k) cap3) (n + 1 + k) (pz f n) (w10.alloc (.cells ([Z8 0] : List Value).toArray 5))) := ⟨Mm.nil _, Zo.step H10.out.2 ((Below.refl _ _).alloc (Nat.le_refl _) _)⟩
    have c11 := cell_one w10 0
    have C11 : Hid _ := c11
    clear c11 H10
    generalize hgw : (w10.alloc (.cells ([Z8 0] : List Value).toArray 5)) = w11 at H11 C11 ⊢
    clear hgw
    generalize w10.heap.size = γs11 at C11 ⊢
    obtain ⟨v12, w12, hr, hZ⟩ := H11.out.2.app (a := ⟨γs11, 0, none⟩) 1 1 (fun _ => 0) (C11.out) (by omega) 22
    refine rest_set (d := 21) (v := v12) (w' := w12) rfl rfl rfl (ex_app rfl rfl rfl hr) ?_
    simp only [Act.put, sa, sz, ss]
    have H12 : Hid (Mm w12 [] ∧ Zo w γb [(γ1_0, ints .u8 (fun _ => 0) 32)] v12 (n + 1 + (k + 1)) (pz f n) w12) := ⟨Mm.nil _, hZ.cg (ct_snoc (pz_z f n k))⟩
    clear hr hZ H11
    refine rest_set (d := 3) (v := v12) (w' := w12) rfl rfl rfl rfl ?_
    simp only [Act.put, sa, sz, ss]
    refine rest_nil (block_normal (then_normal ?_))
    exact ⟨k + 1, ⟨(slotfn [undef, undef, undef, v12, undef, undef, undef, undef, undef, undef, undef, undef, undef, undef, undef, .slice (some ⟨g3, 0, none⟩) (n + 1 + k) cap3, .int .i64 (((n + 1 + k) : Nat) : Int), .int .i64 (((n + 1 + k) % 64 : Nat) : Int), .bool true, .slice (some ⟨g3, 0, none⟩) (n + 1 + k) cap3, .slice (some ⟨γs11, 0, none⟩) 1 1, v12]), rfl, ⟨H12.out.1, H12.out.2⟩, by omega⟩, by omega⟩
  have hkN : k = zc n := by omega
  subst hkN
  obtain ⟨g3, cap3, e3⟩ := H8.out.2.form (by omega)
  rw [e3] at H8 ⊢
  clear e3
  refine wp_seq (wp_seq ?_)
  refine walk_seqA 4 [.quiet (.slice (some ⟨g3, 0, none⟩) (n + 1 + zc n) cap3), .quiet (.int .i64 (((n + 1 + zc n) : Nat) : Int)), .quiet (.int .i64 (((n + 1 + zc n) % 64 : Nat) : Int)), .quiet (.bool false)] (sB H8) ?ho6 ?he6
  case ho6 => exact ak (fun _ => ⟨rfl, fun _ _ => rfl⟩) (ak (by refine fun γ => ⟨rfl, fun w' h => ?_⟩; clear h; go_simp) (ak (fun γ => ⟨rfl, fun w' _ => ex_rem3 (a := (n + 1 + zc n)) (b := 64) (by omega) (by omega) rfl rfl rfl⟩) (ak (by refine fun γ => ⟨rfl, fun w' h => ?_⟩; clear h; go_simp <;> omega) trivial)))
  intro γ w13 l hM hl
  have M13 : Mm w13 [] := H8.out.1.grow hM (Nat.le_refl _) hl [] rfl (by decide)
  have B13 : Zo w γb [(γ1_0, ints .u8 (fun _ => 0) 32)] (.slice (some ⟨g3, 0, none⟩) (n + 1 + zc n) cap3) (n + 1 + zc n) (pz f n) w13 := Zo.step H8.out.2 (hM.below)
  clear hM hl l H8
  clear γ
  have H13 : Hid (_ ∧ _) := ⟨M13, B13⟩
  clear M13 B13
  refine rest0 rfl (then_normal (wp_cond_false rfl ?_))
  refine wp_exit ?_
  repeat refine then_exit ?_
  refine block_exit ?_
  refine then_normal (wp_seq ?_)
  refine walk_seqA 5 [.quiet (.slice (some ⟨g3, 0, none⟩) (n + 1 + zc n) cap3), .quiet (.slice none 0 0), .quiet (.int .i64 ((n : Nat) : Int)), .quiet (U (c64 n)), .quiet (U (c64 (8 * c64 n)))] (sB H13) ?ho7 ?he7
  case ho7 => exact ak (fun _ => ⟨rfl, fun _ _ => rfl⟩) (ak (fun _ => ⟨rfl, fun _ _ => rfl⟩) (ak (by refine fun γ => ⟨rfl, fun w' h => ?_⟩; clear h; rw [hn0.out]; go_simp) (ak (fun γ => ⟨rfl, fun w' _ => ex_cv3_56 (a := n) rfl rfl⟩) (ak (fun γ => ⟨rfl, fun w' _ => ex_mul64 rfl rfl rfl⟩) trivial))))
  intro γ w14 l hM hl
  have M14 : Mm w14 [] := H13.out.1.grow hM (Nat.le_refl _) hl [] rfl (by decide)
  have B14 : Zo w γb [(γ1_0, ints .u8 (fun _ => 0) 32)] (.slice (some ⟨g3, 0, none⟩) (n + 1 + zc n) cap3) (n + 1 + zc n) (pz f n) w14 := Zo.step H13.out.2 (hM.below)
  clear hM hl l H13
  clear γ
  have H14 : Hid (_ ∧ _) := ⟨M14, B14⟩
  clear M14 B14
  refine rest_at (l := [5, 6, 7]) rfl ?_
  refine rest_enter (d := 27) rfl rfl rfl (exec_call (args := #[U (c64 (8 * c64 n))]) rfl call31 rfl (mpn rfl)) ((Calls.mono (Eight_any (c64 (8 * (c64 n))) w14) (fun e w2 hh => by obtain ⟨hb, g, cap, he, hR⟩ := hh; exact ⟨_, he, hb, g, cap, rfl, hR⟩) : Calls Tryd.prog 31 #[U (c64 (8 * (c64 n)))] w14 (fun e w' => ∃ v, e = .returned v ∧ (Below w14.heap.size w14 w' ∧ ∃ g cap, v = .slice (some ⟨g, 0, none⟩) 8 cap ∧ Rs g 0 8 (b8 (c64 (8 * (c64 n)))) w')))) ?_
  rintro _ w15 ⟨hb, g8, cap8, rfl, hR8⟩
  have H15 : Hid (Mm w15 [] ∧ Zo w γb [(γ1_0, ints .u8 (fun _ => 0) 32)] (.slice (some ⟨g3, 0, none⟩) (n + 1 + zc n) cap3) (n + 1 + zc n) (pz f n) w15) := ⟨Mm.nil _, Zo.step H14.out.2 hb⟩
  have R8 : Hid _ := hR8
  clear hb hR8 H14
  simp only [Act.put, sa, sz, ss]
  obtain ⟨v16, w16, hr, hZ⟩ := H15.out.2.app (a := ⟨g8, 0, none⟩) 8 cap8 (b8 (c64 (8 * (c64 n)))) (R8.out.add) (by omega) 22
  refine rest_set (d := 28) (v := v16) (w' := w16) rfl rfl rfl (ex_app rfl rfl rfl hr) ?_
  simp only [Act.put, sa, sz, ss]
  have H16 : Hid (Mm w16 [] ∧ Zo w γb [(γ1_0, ints .u8 (fun _ => 0) 32)] v16 (pn n) (pd f n) w16) := ⟨Mm.nil _, hZ⟩
  clear hr hZ H15
  refine rest_set (d := 3) (v := v16) (w' := w16) rfl rfl rfl rfl ?_
  simp only [Act.put, sa, sz, ss]
  refine rest_nil ?_
  obtain ⟨g9, cap9, e9⟩ := H16.out.2.form (by omega)
  rw [e9] at H16 ⊢
  have HB : Hid _ := H16.out.2.b
  have HM := H16.out.2.m
  have HR : Hid (Rs g9 0 (pn n) (pd f n) w16) := H16.out.2.rs
  have HN : Hid (g9 ≠ γ1_0) := (by have a1 := (World.ownsRow.lt H16.out.2.own g9 rfl).1; have a2 := H16.out.2.lt _ (List.mem_singleton.2 rfl); intro e; have a3 : γ1_0 < γb := a2; omega : g9 ≠ γ1_0)
  clear H16 e9
  generalize w16 = w at HB HM HR ⊢
  have H17 : Hid (_ ∧ _) := ⟨HM, Kp.refl γ1_0 w⟩
  clear HM
  refine then_normal (wp_seq ?_)
  refine walk_seqA 3 [.call (.agg (ints .u32 fT 8).toArray), .made (ints .u32 (fun _ => 0) 8) 52, .laid 1 (ints .u32 (fun _ => 0) 8) (ints .u32 fT 8)] (sB H17) ?ho8 ?he8 (hL := ?hL8)
  case hL8 => exact ⟨⟨_, rfl⟩, trivial⟩
  case ho8 => exact ak (fun γ => ⟨rfl, fun w' h => ⟨32, #[], exec_call rfl call32 rfl (mpn rfl), begin_any w'⟩⟩) (ak (fun γ => ⟨rfl, fun w' => ex_mk52 rfl⟩) (ak (fun γ => ⟨rfl, rfl, (ints_len _ _ _).trans (ints_len _ _ _).symm, fun w' h => ex_laidI h Tryd.sizeOf52 rfl rfl rfl⟩) trivial))
  intro γ w18 l hM hl
  have H18 : Hid (Mm w18 [(γ 1, ints .u32 fT 8), (γ1_0, ints .u8 (fun _ => 0) 32)] ∧ _) := growK H17 hM (Nat.le_refl _) hl [1] rfl (by decide)
  have o8_1 := ownK H17 hM (Nat.le_refl _) hl (i := 1) rfl
  clear hM hl l H17
  generalize γ 1 = γ8_1 at H18 o8_1 ⊢
  clear γ
  refine rest0 rfl (then_normal (wp_seq ?_))
  refine walk_seqA 3 [.call (.agg (ints .u32 kT 64).toArray), .made (ints .u32 (fun _ => 0) 64) 66, .laid 1 (ints .u32 (fun _ => 0) 64) (ints .u32 kT 64)] (sB H18) ?ho9 ?he9 (hL := ?hL9)
  case hL9 => exact ⟨⟨_, rfl⟩, trivial⟩
  case ho9 => exact ak (fun γ => ⟨rfl, fun w' h => ⟨33, #[], exec_call rfl call33 rfl (mpn rfl), table_any w'⟩⟩) (ak (fun γ => ⟨rfl, fun w' => ex_mk66 rfl⟩) (ak (fun γ => ⟨rfl, rfl, (ints_len _ _ _).trans (ints_len _ _ _).symm, fun w' h => ex_laidI h Tryd.sizeOf66 rfl rfl rfl⟩) trivial))
  intro γ w19 l hM hl
  have H19 : Hid (Mm w19 [(γ 1, ints .u32 kT 64), (γ8_1, ints .u32 fT 8), (γ1_0, ints .u8 (fun _ => 0) 32)] ∧ _) := growK H18 hM (Nat.le_refl _) hl [1] rfl (by decide)
  have o9_1 := ownK H18 hM (Nat.le_refl _) hl (i := 1) rfl
  clear hM hl l H18
  generalize γ 1 = γ9_1 at H19 o9_1 ⊢
  clear γ
  refine rest0 rfl (then_normal (wp_seq (wp_seq ?_)))
  refine walk_seqA 1 [.quiet (.int .i64 0)] (sB H19) ?ho10 ?he10
  case ho10 => exact ak (fun _ => ⟨rfl, fun _ _ => rfl⟩) trivial
  intro γ w20 l hM hl
  have H20 := keepK H19 hM.below
  clear hM hl l H19 γ
  refine rest0 rfl (then_normal (wp_block ?_))
  refine loop_ghost (α := Nat) (fun k a' w' => ∃ s2 : Nat → Value, a' = ⟨#[.slice none 0 0, undef, PT γ1_0 0, .slice (some ⟨g9, 0, none⟩) (pn n) cap9, PT γ8_1 0, PT γ9_1 0, .int .i64 ((64 * k : Nat) : Int), undef, undef, .slice (some ⟨γb, 0, none⟩) 0 0, .slice none 0 0, .slice (some ⟨γb, 0, none⟩) 0 0, .slice (some ⟨γb, 0, none⟩) 0 0, .slice (some ⟨γs6, 0, none⟩) 1 1, v7, .slice (some ⟨g3, 0, none⟩) (n + 1 + zc n) cap3, .int .i64 (((n + 1 + zc n) : Nat) : Int), .int .i64 (((n + 1 + zc n) % 64 : Nat) : Int), .bool false, s0 19, s0 20, s0 21, .slice (some ⟨g3, 0, none⟩) (n + 1 + zc n) cap3, .slice none 0 0, .int .i64 ((n : Nat) : Int), U (c64 n), U (c64 (8 * c64 n)), .slice (some ⟨g8, 0, none⟩) 8 cap8, .slice (some ⟨g9, 0, none⟩) (pn n) cap9, .agg (ints .u32 fT 8).toArray, .agg (ints .u32 kT 64).toArray, s2 31, s2 32, s2 33, s2 34, s2 35, s2 36, s2 37, s2 38, s2 39, s2 40, s2 41, undef, undef, undef, undef, undef, undef, undef, undef, undef, undef, undef, undef, undef, undef, undef, undef, undef], []⟩ ∧ (Mm w' [(γ9_1, ints .u32 kT 64), (γ8_1, ints .u32 (hd (pd f n) k) 8), (γ1_0, ints .u8 (fun _ => 0) 32)] ∧ Kp γ1_0 w w') ∧ k ≤ nb n) (fun k => nb n - k) 0 ?st2 ?rd2
  case st2 => exact ⟨(slotfn [undef, undef, undef, undef, undef, undef, undef, undef, undef, undef, undef, undef, undef, undef, undef, undef, undef, undef, undef, undef, undef, undef, undef, undef, undef, undef, undef, undef, undef, undef, undef, undef, undef, undef, undef, undef, undef, undef, undef, undef, undef, undef]), rfl, ⟨H20.out.1, H20.out.2⟩, by omega⟩
  intro k a' w21 hI
  obtain ⟨s2, rfl, hMB, hk2⟩ := hI
  have H21 : Hid (_ ∧ _) := hMB
  clear hMB H20
  by_cases hltk : k < nb n
  · have hrd : True := trivial
    clear hrd
    refine wp_seq (wp_seq ?_)
    refine walk_seqA 4 [.quiet (.int .i64 ((64 * k : Nat) : Int)), .quiet (.slice (some ⟨g9, 0, none⟩) (pn n) cap9), .quiet (.int .i64 (((pn n) : Nat) : Int)), .quiet (.bool true)] (sB H21) ?ho11 ?he11
    case ho11 => exact ak (fun _ => ⟨rfl, fun _ _ => rfl⟩) (ak (fun _ => ⟨rfl, fun _ _ => rfl⟩) (ak (by refine fun γ => ⟨rfl, fun w' h => ?_⟩; clear h; go_simp) (ak (by refine fun γ => ⟨rfl, fun w' h => ?_⟩; clear h; go_simp <;> omega) trivial)))
    intro γ w22 l hM hl
    have H22 := keepK H21 hM.below
    clear hM hl l H21 γ
    refine rest0 rfl (then_normal (wp_cond_true rfl ?_))
    refine wp_skip (then_normal ?_)
    refine wp_seq (wp_block ?_)
    refine (walk_seq) 5 [.quiet (.agg (ints .u32 (hd (pd f n) k) 8).toArray), .quiet (.agg (ints .u32 kT 64).toArray), .quiet (.slice (some ⟨g9, 0, none⟩) (pn n) cap9), .quiet (.int .i64 ((64 * k : Nat) : Int)), .call (.agg (ints .u32 (db (hd (pd f n) k) kT (pd f n) (64 * k)) 8).toArray)] (fun u' => Mm u' [(γ9_1, ints .u32 kT 64), (γ8_1, ints .u32 (hd (pd f n) k) 8), (γ1_0, ints .u8 (fun _ => 0) 32)] ∧ Rs g9 0 (pn n) (pd f n) u') ?pre12 ?F12 ?hpre12 (fun γ => ?hF12) (by kernel_rfl) ?hL12 ?hS12 ?ho12 ?he12
    case hpre12 => simp only [tk, tz]; rfl
    case hF12 => simp only [fill, Kind.val, Act.put, sa, sz, ss]; rfl
    case hL12 => exact trivial
    case hS12 => exact fun w' hb => ⟨H22.out.1.below hb, HR.out.kp2 (H22.out.2.trans (hb)) HN.out⟩
    case ho12 =>
      refine ak (fun γ => ⟨rfl, fun w' hX => have h := hX.1; ex_loadT h 1 rfl rfl rfl Tryd.isAgg52 Tryd.sizeOf52 (ints_whole _ _ _) (ints_len _ _ _)⟩) ?_
      refine ak (fun γ => ⟨rfl, fun w' hX => have h := hX.1; ex_loadT h 0 rfl rfl rfl Tryd.isAgg66 Tryd.sizeOf66 (ints_whole _ _ _) (ints_len _ _ _)⟩) ?_
      refine ak (fun _ => ⟨rfl, fun _ _ => rfl⟩) ?_
      refine ak (fun _ => ⟨rfl, fun _ _ => rfl⟩) ?_
      refine ak (fun γ => ⟨rfl, fun w' hX => ⟨34, #[.agg (ints .u32 (hd (pd f n) k) 8).toArray, .agg (ints .u32 kT 64).toArray, .slice (some ⟨g9, 0, none⟩) (pn n) cap9, .int .i64 ((64 * k : Nat) : Int)], exec_call rfl call34 rfl (mpn rfl), block_any (hd (pd f n) k) kT (pd f n) g9 (pn n) cap9 (64 * k) (by omega) (by omega) w' hX.2⟩⟩) ?_
      exact trivial
    intro γ w23 l hM hl
    have H23 := keepK H22 hM.below
    clear hM hl l H22 γ
    refine rest_at (l := [5]) rfl ?_
    refine rest_store rfl rfl rfl (ex_storeT (vs := ints .u32 (db (hd (pd f n) k) kT (pd f n) (64 * k)) 8) H23.out.1 1 rfl rfl rfl rfl (by rw [ints_len]; exact Tryd.sizeOf52) (ints_all _ _ _) (by simp [ints_len])) ?_
    have H24 : Hid (Mm (w23.setCells γ8_1 0 (ints .u32 (db (hd (pd f n) k) kT (pd f n) (64 * k)) 8)) [(γ9_1, ints .u32 kT 64), (γ8_1, ints .u32 (db (hd (pd f n) k) kT (pd f n) (64 * k)) 8), (γ1_0, ints .u8 (fun _ => 0) 32)] ∧ Kp γ1_0 w (w23.setCells γ8_1 0 (ints .u32 (db (hd (pd f n) k) kT (pd f n) (64 * k)) 8))) := ⟨by
      have h := H23.out.1.put 1 (off := 0) (vs := ints .u32 (db (hd (pd f n) k) kT (pd f n) (64 * k)) 8) rfl (by simp [ints_len])
      rw [ints_patch0 _ _ _ _] at h
      exact h, H23.out.2.put (Or.inr o8_1.out)⟩
    clear H23
    generalize hgw : World.setCells _ _ _ _ = w24 at H24 ⊢
    clear hgw
    refine rest_nil (block_normal (then_normal ?_))
    refine walk_seqA 2 [.quiet (.int .i64 ((64 * k : Nat) : Int)), .quiet (.int .i64 (((64 * k) + 64 : Nat) : Int))] (sB H24) ?ho13 ?he13
    case ho13 => exact ak (fun _ => ⟨rfl, fun _ _ => rfl⟩) (ak (by refine fun γ => ⟨rfl, fun w' h => ?_⟩; clear h; go_simp; rw [IntKind.wrap_i64]; omega) trivial)
    intro γ w25 l hM hl
    have H25 := keepK H24 hM.below
    clear hM hl l H24 γ
    refine rest_at (l := [2]) rfl ?_
    refine rest_set (d := 6) (v := .int .i64 (((64 * k) + 64 : Nat) : Int)) (w' := w25) rfl rfl rfl rfl ?_
    simp only [Act.put, sa, sz, ss]
    refine rest_nil (then_normal ?_)
    exact ⟨k + 1, ⟨(slotfn [undef, undef, undef, undef, undef, undef, undef, undef, undef, undef, undef, undef, undef, undef, undef, undef, undef, undef, undef, undef, undef, undef, undef, undef, undef, undef, undef, undef, undef, undef, undef, .int .i64 ((64 * k : Nat) : Int), .slice (some ⟨g9, 0, none⟩) (pn n) cap9, .int .i64 (((pn n) : Nat) : Int), .bool true, .int .i64 ((64 * k : Nat) : Int), .int .i64 (((64 * k) + 64 : Nat) : Int), .agg (ints .u32 (hd (pd f n) k) 8).toArray, .agg (ints .u32 kT 64).toArray, .slice (some ⟨g9, 0, none⟩) (pn n) cap9, .int .i64 ((64 * k : Nat) : Int), .agg (ints .u32 (db (hd (pd f n) k) kT (pd f n) (64 * k)) 8).toArray]), rfl, ⟨H25.out.1, H25.out.2⟩, by omega⟩, by omega⟩
  have hkN : k = nb n := by omega
  subst hkN
  refine wp_seq (wp_seq ?_)
  refine walk_seqA 4 [.quiet (.int .i64 ((64 * (nb n) : Nat) : Int)), .quiet (.slice (some ⟨g9, 0, none⟩) (pn n) cap9), .quiet (.int .i64 (((pn n) : Nat) : Int)), .quiet (.bool false)] (sB H21) ?ho14 ?he14
  case ho14 => exact ak (fun _ => ⟨rfl, fun _ _ => rfl⟩) (ak (fun _ => ⟨rfl, fun _ _ => rfl⟩) (ak (by refine fun γ => ⟨rfl, fun w' h => ?_⟩; clear h; go_simp) (ak (by refine fun γ => ⟨rfl, fun w' h => ?_⟩; clear h; go_simp <;> omega) trivial)))
  intro γ w26 l hM hl
  have H26 := keepK H21 hM.below
  clear hM hl l H21 γ
  refine rest0 rfl (then_normal (wp_cond_false rfl ?_))
  refine wp_exit ?_
  repeat refine then_exit ?_
  refine block_exit ?_
  refine then_normal (wp_seq ?_)
  refine walk_seqA 1 [.made (ints .u8 (fun _ => 0) 32) 25] (sB H26) ?ho15 ?he15
  case ho15 => exact ak (fun γ => ⟨rfl, fun w' => ex_mk25 rfl⟩) trivial
  intro γ w27 l hM hl
  have H27 : Hid (Mm w27 [(γ 0, ints .u8 (fun _ => 0) 32), (γ9_1, ints .u32 kT 64), (γ8_1, ints .u32 (hd (pd f n) (nb n)) 8), (γ1_0, ints .u8 (fun _ => 0) 32)] ∧ _) := growK H26 hM (Nat.le_refl _) hl [0] rfl (by decide)
  have o15_0 := ownK H26 hM (Nat.le_refl _) hl (i := 0) rfl
  clear hM hl l H26
  generalize γ 0 = γ15_0 at H27 o15_0 ⊢
  clear γ
  refine rest0 rfl (then_normal (wp_seq (wp_seq ?_)))
  refine walk_seqA 1 [.quiet (.int .i64 0)] (sB H27) ?ho16 ?he16
  case ho16 => exact ak (fun _ => ⟨rfl, fun _ _ => rfl⟩) trivial
  intro γ w28 l hM hl
  have H28 := keepK H27 hM.below
  clear hM hl l H27 γ
  refine rest0 rfl (then_normal (wp_block ?_))
  refine loop_ghost (α := Nat) (fun i a' w' => ∃ s4 : Nat → Value, a' = ⟨#[.slice none 0 0, undef, PT γ1_0 0, .slice (some ⟨g9, 0, none⟩) (pn n) cap9, PT γ8_1 0, PT γ9_1 0, .int .i64 ((64 * (nb n) : Nat) : Int), PT γ15_0 0, .int .i64 ((i : Nat) : Int), .slice (some ⟨γb, 0, none⟩) 0 0, .slice none 0 0, .slice (some ⟨γb, 0, none⟩) 0 0, .slice (some ⟨γb, 0, none⟩) 0 0, .slice (some ⟨γs6, 0, none⟩) 1 1, v7, .slice (some ⟨g3, 0, none⟩) (n + 1 + zc n) cap3, .int .i64 (((n + 1 + zc n) : Nat) : Int), .int .i64 (((n + 1 + zc n) % 64 : Nat) : Int), .bool false, s0 19, s0 20, s0 21, .slice (some ⟨g3, 0, none⟩) (n + 1 + zc n) cap3, .slice none 0 0, .int .i64 ((n : Nat) : Int), U (c64 n), U (c64 (8 * c64 n)), .slice (some ⟨g8, 0, none⟩) 8 cap8, .slice (some ⟨g9, 0, none⟩) (pn n) cap9, .agg (ints .u32 fT 8).toArray, .agg (ints .u32 kT 64).toArray, .int .i64 ((64 * (nb n) : Nat) : Int), .slice (some ⟨g9, 0, none⟩) (pn n) cap9, .int .i64 (((pn n) : Nat) : Int), .bool false, s2 35, s2 36, s2 37, s2 38, s2 39, s2 40, s2 41, s4 42, s4 43, s4 44, s4 45, s4 46, s4 47, s4 48, s4 49, s4 50, s4 51, s4 52, s4 53, s4 54, s4 55, s4 56, s4 57, undef], []⟩ ∧ (Mm w' [(γ15_0, ints .u8 (ob (hd (pd f n) (nb n)) i) 32), (γ9_1, ints .u32 kT 64), (γ8_1, ints .u32 (hd (pd f n) (nb n)) 8), (γ1_0, ints .u8 (fun _ => 0) 32)] ∧ Kp γ1_0 w w') ∧ i ≤ 32) (fun i => 32 - i) 0 ?st4 ?rd4
  case st4 => exact ⟨(slotfn [undef, undef, undef, undef, undef, undef, undef, undef, undef, undef, undef, undef, undef, undef, undef, undef, undef, undef, undef, undef, undef, undef, undef, undef, undef, undef, undef, undef, undef, undef, undef, undef, undef, undef, undef, undef, undef, undef, undef, undef, undef, undef, undef, undef, undef, undef, undef, undef, undef, undef, undef, undef, undef, undef, undef, undef, undef, undef]), rfl, ⟨H28.out.1, H28.out.2⟩, by omega⟩
  intro i a' w29 hI
  obtain ⟨s4, rfl, hMB, hk4⟩ := hI
  have H29 : Hid (_ ∧ _) := hMB
  clear hMB H28
  by_cases hlti : i < 32
  · have hrd : True := trivial
    clear hrd
    refine wp_seq (wp_seq ?_)
    refine walk_seqA 2 [.quiet (.int .i64 ((i : Nat) : Int)), .quiet (.bool true)] (sB H29) ?ho17 ?he17
    case ho17 => exact ak (fun _ => ⟨rfl, fun _ _ => rfl⟩) (ak (by refine fun γ => ⟨rfl, fun w' h => ?_⟩; clear h; go_simp <;> omega) trivial)
    intro γ w30 l hM hl
    have H30 := keepK H29 hM.below
    clear hM hl l H29 γ
    refine rest0 rfl (then_normal (wp_cond_true rfl ?_))
    refine wp_skip (then_normal ?_)
    refine wp_seq (wp_block ?_)
    refine walk_seqA 12 [.quiet (.int .i64 ((i : Nat) : Int)), .quiet (.int .i64 ((i : Nat) : Int)), .quiet (.int .i64 ((i / 4 : Nat) : Int)), .quiet (PT γ8_1 (i / 4)), .quiet (W32 ((hd (pd f n) (nb n)) (i / 4))), .quiet (.int .i64 ((i : Nat) : Int)), .quiet (.int .i64 ((i % 4 : Nat) : Int)), .quiet (.int .i64 ((8 * (i % 4) : Nat) : Int)), .quiet (.int .i64 ((24 - (8 * (i % 4)) : Nat) : Int)), .quiet (W32 (sr ((hd (pd f n) (nb n)) (i / 4)) (24 - (8 * (i % 4))))), .quiet (Z8 ((sr ((hd (pd f n) (nb n)) (i / 4)) (24 - (8 * (i % 4)))) % 256)), .quiet (PT γ15_0 i)] (sB H30) ?ho18 ?he18
    case ho18 => exact ak (fun _ => ⟨rfl, fun _ _ => rfl⟩) (ak (fun _ => ⟨rfl, fun _ _ => rfl⟩) (ak (fun γ => ⟨rfl, fun w' _ => ex_quo3 (a := i) (b := 4) (by omega) (by omega) rfl rfl rfl⟩) (ak (fun γ => ⟨rfl, fun w' _ => ex_ix0_52 (j := i / 4) rfl rfl rfl (by omega)⟩) (ak (fun γ => ⟨rfl, fun w' h => ex_loadC h 2 rfl rfl rfl Tryd.isAgg51 (ints_get _ _ (by omega))⟩) (ak (fun _ => ⟨rfl, fun _ _ => rfl⟩) (ak (fun γ => ⟨rfl, fun w' _ => ex_rem3 (a := i) (b := 4) (by omega) (by omega) rfl rfl rfl⟩) (ak (by refine fun γ => ⟨rfl, fun w' h => ?_⟩; clear h; go_simp; rw [IntKind.wrap_i64]; omega) (ak (by refine fun γ => ⟨rfl, fun w' h => ?_⟩; clear h; go_simp; rw [IntKind.wrap_i64]; omega) (ak (fun γ => ⟨rfl, fun w' _ => ex_shr32 (k := 24 - (8 * (i % 4))) (by omega) rfl rfl rfl⟩) (ak (fun γ => ⟨rfl, fun w' _ => ex_cv51_5 rfl rfl⟩) (ak (fun γ => ⟨rfl, fun w' _ => ex_ix0_25 (j := i) rfl rfl rfl (by omega)⟩) trivial)))))))))))
    intro γ w31 l hM hl
    have H31 := keepK H30 hM.below
    clear hM hl l H30 γ
    refine rest_at (l := [12]) rfl ?_
    refine rest_store rfl rfl rfl (ex_storeI H31.out.1 0 rfl rfl Tryd.sizeOf5 rfl rfl (by rw [ints_len]; omega)) ?_
    have H32 : Hid (Mm (w31.setCells γ15_0 i ([Z8 ((sr ((hd (pd f n) (nb n)) (i / 4)) (24 - (8 * (i % 4)))) % 256)])) [(γ15_0, ints .u8 (up (ob (hd (pd f n) (nb n)) i) i ((sr ((hd (pd f n) (nb n)) (i / 4)) (24 - (8 * (i % 4)))) % 256)) 32), (γ9_1, ints .u32 kT 64), (γ8_1, ints .u32 (hd (pd f n) (nb n)) 8), (γ1_0, ints .u8 (fun _ => 0) 32)] ∧ Kp γ1_0 w (w31.setCells γ15_0 i ([Z8 ((sr ((hd (pd f n) (nb n)) (i / 4)) (24 - (8 * (i % 4)))) % 256)]))) := ⟨by
      have h := H31.out.1.put 0 (off := i) (vs := [Z8 ((sr ((hd (pd f n) (nb n)) (i / 4)) (24 - (8 * (i % 4)))) % 256)]) rfl (by rw [ints_len]; simp only [List.length_cons, List.length_nil]; omega)
      rw [ints_patch _ _ _ _ (by omega)] at h
      exact h, H31.out.2.put (Or.inr o15_0.out)⟩
    clear H31
    generalize hgw : World.setCells _ _ _ _ = w32 at H32 ⊢
    clear hgw
    refine rest_nil (block_normal (then_normal ?_))
    refine walk_seqA 2 [.quiet (.int .i64 ((i : Nat) : Int)), .quiet (.int .i64 ((i + 1 : Nat) : Int))] (sB H32) ?ho19 ?he19
    case ho19 => exact ak (fun _ => ⟨rfl, fun _ _ => rfl⟩) (ak (by refine fun γ => ⟨rfl, fun w' h => ?_⟩; clear h; go_simp; rw [IntKind.wrap_i64]; omega) trivial)
    intro γ w33 l hM hl
    have H33 := keepK H32 hM.below
    clear hM hl l H32 γ
    refine rest_at (l := [2]) rfl ?_
    refine rest_set (d := 8) (v := .int .i64 ((i + 1 : Nat) : Int)) (w' := w33) rfl rfl rfl rfl ?_
    simp only [Act.put, sa, sz, ss]
    refine rest_nil (then_normal ?_)
    exact ⟨i + 1, ⟨(slotfn [undef, undef, undef, undef, undef, undef, undef, undef, undef, undef, undef, undef, undef, undef, undef, undef, undef, undef, undef, undef, undef, undef, undef, undef, undef, undef, undef, undef, undef, undef, undef, undef, undef, undef, undef, undef, undef, undef, undef, undef, undef, undef, .int .i64 ((i : Nat) : Int), .bool true, .int .i64 ((i : Nat) : Int), .int .i64 ((i + 1 : Nat) : Int), .int .i64 ((i : Nat) : Int), .int .i64 ((i : Nat) : Int), .int .i64 ((i / 4 : Nat) : Int), PT γ8_1 (i / 4), W32 ((hd (pd f n) (nb n)) (i / 4)), .int .i64 ((i : Nat) : Int), .int .i64 ((i % 4 : Nat) : Int), .int .i64 ((8 * (i % 4) : Nat) : Int), .int .i64 ((24 - (8 * (i % 4)) : Nat) : Int), W32 (sr ((hd (pd f n) (nb n)) (i / 4)) (24 - (8 * (i % 4)))), Z8 ((sr ((hd (pd f n) (nb n)) (i / 4)) (24 - (8 * (i % 4)))) % 256), PT γ15_0 i]), rfl, ⟨H33.out.1, H33.out.2⟩, by omega⟩, by omega⟩
  have hiN : i = 32 := by omega
  subst hiN
  refine wp_seq (wp_seq ?_)
  refine walk_seqA 2 [.quiet (.int .i64 ((32 : Nat) : Int)), .quiet (.bool false)] (sB H29) ?ho20 ?he20
  case ho20 => exact ak (fun _ => ⟨rfl, fun _ _ => rfl⟩) (ak (by refine fun γ => ⟨rfl, fun w' h => ?_⟩; clear h; go_simp <;> omega) trivial)
  intro γ w34 l hM hl
  have H34 := keepK H29 hM.below
  clear hM hl l H29 γ
  refine rest0 rfl (then_normal (wp_cond_false rfl ?_))
  refine wp_exit ?_
  repeat refine then_exit ?_
  refine block_exit ?_
  refine then_normal (wp_seq ?_)
  refine walk_seqA 1 [.quiet (.agg (ints .u8 (ob (hd (pd f n) (nb n)) 32) 32).toArray)] (sB H34) ?ho21 ?he21
  case ho21 => exact ak (fun γ => ⟨rfl, fun w' h => ex_loadT h 0 rfl rfl rfl Tryd.isAgg25 Tryd.sizeOf25 (ints_whole _ _ _) (ints_len _ _ _)⟩) trivial
  intro γ w35 l hM hl
  have H35 := keepK H34 hM.below
  clear hM hl l H34 γ
  refine rest_at (l := [1]) rfl ?_
  refine rest_store rfl rfl rfl (ex_storeT (vs := ints .u8 (ob (hd (pd f n) (nb n)) 32) 32) H35.out.1 3 rfl rfl rfl rfl (by rw [ints_len]; exact Tryd.sizeOf25) (ints_all _ _ _) (by simp [ints_len])) ?_
  have H36 : Hid (Mm (w35.setCells γ1_0 0 (ints .u8 (ob (hd (pd f n) (nb n)) 32) 32)) [(γ15_0, ints .u8 (ob (hd (pd f n) (nb n)) 32) 32), (γ9_1, ints .u32 kT 64), (γ8_1, ints .u32 (hd (pd f n) (nb n)) 8), (γ1_0, ints .u8 (ob (hd (pd f n) (nb n)) 32) 32)] ∧ Kp γ1_0 w (w35.setCells γ1_0 0 (ints .u8 (ob (hd (pd f n) (nb n)) 32) 32))) := ⟨by
    have h := H35.out.1.put 3 (off := 0) (vs := ints .u8 (ob (hd (pd f n) (nb n)) 32) 32) rfl (by simp [ints_len])
    rw [ints_patch0 _ _ _ _] at h
    exact h, H35.out.2.put (Or.inl rfl)⟩
  clear H35
  generalize hgw : World.setCells _ _ _ _ = w36 at H36 ⊢
  clear hgw
  refine rest_nil (then_normal (wp_ret ?_))
  repeat (first | refine then_ret ?_ | refine block_ret ?_)
  have hf0 := var_T H36.out.1 3 rfl Tryd.isAgg25 Tryd.sizeOf25 (ints_len _ _ _)
  refine bodyPost_ret (v := .agg (ints .u8 (ob (hd (pd f n) (nb n)) 32) 32).toArray) (by simp [results, Tryd.results11, asAddr, hf0]) rfl ?_
  exact ⟨rfl, Below.kp HB.out H36.out.2 o1_0.out HB.out.size⟩
/-- The digest of bytes, as the document has it. -/
theorem dSum_any (f : Nat → Nat) (n : Nat) (hn : n ≤ 1048576) (v : Value) (w : World) (hv : (v = .slice none 0 0 ∧ n = 0) ∨ ∃ a cp, v = .slice (some a) n cp ∧ Ra a n f w) : Calls Tryd.prog 11 #[v] w fun e w' => e = .returned (.agg (ints .u8 (ds f n) 32).toArray) ∧ Below w.heap.size w w' := by
  rcases hv with ⟨rfl, h0⟩ | ⟨a, cp, rfl, hR⟩
  · exact dSum_none f n hn h0 w
  · exact dSum_some f n hn a cp w hR
end Rg
end Go.Proofs.YtfboipfpnkngdaaDoor
end
section
namespace Go.Proofs.YtfboipfpnkngdaaDoor
open Go.RowKit
namespace Rg
/-! The words. -/
theorem or_low (a b k : Nat) (h : b < 2 ^ k) : a * 2 ^ k ||| b = a * 2 ^ k + b := by
  have := Nat.two_pow_add_eq_or_of_lt (i := k) (b := b) h a
  rw [Nat.mul_comm a]
  exact this.symm
theorem wd_val {a b c d : Nat} (ha : a < 256) (hb : b < 256) (hc : c < 256) (hd : d < 256) : ou (ou (ou (sl (c32 a) 24) (sl (c32 b) 16)) (sl (c32 c) 8)) (c32 d) = ((a * 256 + b) * 256 + c) * 256 + d := by
  have e1 : sl (c32 a) 24 = a * 2 ^ 24 := by unfold sl c32; omega
  have e2 : sl (c32 b) 16 = b * 2 ^ 16 := by unfold sl c32; omega
  have e3 : sl (c32 c) 8 = c * 2 ^ 8 := by unfold sl c32; omega
  have e4 : c32 d = d := by unfold c32; omega
  have o1 : ou (a * 2 ^ 24) (b * 2 ^ 16) = (a * 256 + b) * 2 ^ 16 := by
    unfold ou
    rw [or_low a (b * 2 ^ 16) 24 (by omega)]
    omega
  have o2 : ou ((a * 256 + b) * 2 ^ 16) (c * 2 ^ 8) = ((a * 256 + b) * 256 + c) * 2 ^ 8 := by
    unfold ou
    rw [or_low (a * 256 + b) (c * 2 ^ 8) 16 (by omega)]
    omega
  have o3 : ou (((a * 256 + b) * 256 + c) * 2 ^ 8) d = ((a * 256 + b) * 256 + c) * 256 + d := by
    unfold ou
    rw [or_low ((a * 256 + b) * 256 + c) d 8 (by omega)]
    omega
  rw [e1, e2, e3, e4, o1, o2, o3]
theorem wd_one {a b : Nat} (ha : a < 16777216) (hb : b < 256) : ou (sl a 8) (c32 b) = a * 256 + b := by
  have e1 : sl a 8 = a * 2 ^ 8 := by unfold sl; omega
  have e2 : c32 b = b := by unfold c32; omega
  rw [e1, e2]
  unfold ou
  rw [or_low a b 8 (by omega)]
  omega
theorem up_up (f : Nat → Nat) (k a b : Nat) : up (up f k a) k b = up f k b := by
  funext j
  unfold up
  by_cases h : j = k
  · rw [if_pos h, if_pos h]
  · rw [if_neg h, if_neg h, if_neg h]
theorem up_same (f : Nat → Nat) (k a : Nat) : up f k a k = a := by unfold up; rw [if_pos rfl]
theorem iw_four (v : Nat → Nat) (t : Nat) (y : Nat → Nat) (h0 : v t = 0) (hy : ∀ i, y i < 256) : iw v t y 4 = up v t (((y 0 * 256 + y 1) * 256 + y 2) * 256 + y 3) := by
  have a0 := hy 0
  have a1 := hy 1
  have a2 := hy 2
  have a3 := hy 3
  have e1 : iw v t y 1 = up v t (y 0) := by
    show up v t (ou (sl (v t) 8) (c32 (y 0))) = _
    rw [h0, wd_one (by omega) a0, Nat.zero_mul, Nat.zero_add]
  have e2 : iw v t y 2 = up v t (y 0 * 256 + y 1) := by
    show up (iw v t y 1) t (ou (sl (iw v t y 1 t) 8) (c32 (y 1))) = _
    rw [e1, up_same, up_up, wd_one (by omega) a1]
  have e3 : iw v t y 3 = up v t ((y 0 * 256 + y 1) * 256 + y 2) := by
    show up (iw v t y 2) t (ou (sl (iw v t y 2 t) 8) (c32 (y 2))) = _
    rw [e2, up_same, up_up, wd_one (by omega) a2]
  show up (iw v t y 3) t (ou (sl (iw v t y 3 t) 8) (c32 (y 3))) = _
  rw [e3, up_same, up_up, wd_one (by omega) a3]
theorem w0_zero (x : Nat → Nat) : ∀ k j, k ≤ j → w0 x k j = 0
  | 0, _, _ => rfl
  | k + 1, j, h => by
    show up (w0 x k) k (wd x k) j = 0
    unfold up
    rw [if_neg (by omega), w0_zero x k j (by omega)]
theorem dw_w0 (P : Nat → Nat) (ap : Nat) (hP : ∀ j, P j < 256) : ∀ k, k ≤ 16 → dw P ap k = w0 (fun j => P (ap + j)) k
  | 0, _ => rfl
  | k + 1, h => by
    rw [dw_lo P ap (by omega), dw_w0 P ap hP k (by omega), iw_four _ _ _ (w0_zero _ k k (Nat.le_refl _)) (fun i => hP _)]
    show _ = up (w0 (fun j => P (ap + j)) k) k (wd (fun j => P (ap + j)) k)
    congr 1
    unfold wd
    rw [wd_val (hP _) (hP _) (hP _) (hP _), Nat.add_zero, Nat.add_assoc ap, Nat.add_assoc ap, Nat.add_assoc ap]
theorem dw_ws (P : Nat → Nat) (ap : Nat) (hP : ∀ j, P j < 256) : ∀ m, dw P ap (16 + m) = ws (w0 (fun j => P (ap + j)) 16) m
  | 0 => dw_w0 P ap hP 16 (Nat.le_refl _)
  | m + 1 => by
    show dw P ap (16 + m + 1) = _
    rw [dw_hi P ap (by omega), dw_ws P ap hP m]
    rfl
/-! The eight numbers. -/
def xn (K W : Nat) (x : Nat → Nat) : Nat → Nat := ei (ad (xp K W x) (xq x)) (x 0) (x 1) (x 2) (ad (x 3) (xp K W x)) (x 4) (x 5) (x 6)
def st8 (x : Nat → Nat) : St := ⟨x 0, x 1, x 2, x 3, x 4, x 5, x 6, x 7⟩
theorem ei_0 (a b c d e f g h : Nat) : ei a b c d e f g h 0 = a := rfl
theorem ei_1 (a b c d e f g h : Nat) : ei a b c d e f g h 1 = b := rfl
theorem ei_2 (a b c d e f g h : Nat) : ei a b c d e f g h 2 = c := rfl
theorem ei_3 (a b c d e f g h : Nat) : ei a b c d e f g h 3 = d := rfl
theorem ei_4 (a b c d e f g h : Nat) : ei a b c d e f g h 4 = e := rfl
theorem ei_5 (a b c d e f g h : Nat) : ei a b c d e f g h 5 = f := rfl
theorem ei_6 (a b c d e f g h : Nat) : ei a b c d e f g h 6 = g := rfl
theorem ei_7 (a b c d e f g h : Nat) : ei a b c d e f g h 7 = h := rfl
theorem pp_xp (K W : Nat) (x : Nat → Nat) : pp K W (st8 x) = xp K W x := by
  unfold pp xp
  unfold st8
  exact Eq.refl _
theorem qq_xq (x : Nat → Nat) : qq (st8 x) = xq x := by
  unfold qq xq
  unfold st8
  exact Eq.refl _
theorem stp_of (K W : Nat) (s : St) (p q : Nat) (hp : pp K W s = p) (hq : qq s = q) : stp K W s = ⟨ad p q, s.a, s.b, s.c, ad s.d p, s.e, s.f, s.g⟩ := by
  unfold stp
  rw [hp, hq]
theorem stp_xn (K W : Nat) (x : Nat → Nat) : stp K W (st8 x) = st8 (xn K W x) := by
  rw [stp_of K W (st8 x) _ _ (pp_xp K W x) (qq_xq x)]
  unfold xn
  generalize xp K W x = p
  generalize xq x = q
  unfold st8
  generalize ad p q = u
  generalize ad (x 3) p = v
  rw [ei_0, ei_1, ei_2, ei_3, ei_4, ei_5, ei_6, ei_7]
theorem rn_succ (s W : Nat → Nat) (t : Nat) : rn s W (t + 1) = stp (kT t) (W t) (rn s W t) := by rw [rn]
theorem rn_zero (s W : Nat → Nat) : rn s W 0 = st8 s := by rw [rn, st8]
theorem xs_succ (h K W : Nat → Nat) (k : Nat) : xs h K W (k + 1) = xn (K k) (W k) (xs h K W k) := by rw [xs, xn]
theorem xs_zero (h K W : Nat → Nat) : xs h K W 0 = h := by rw [xs]
theorem rn_xs (h W : Nat → Nat) (k : Nat) : rn h W k = st8 (xs h kT W k) := by
  induction k with
  | zero => rw [rn_zero, xs_zero]
  | succ k ih => rw [xs_succ, rn_succ, ih, stp_xn]
theorem hv_get (h x : Nat → Nat) : ∀ k j, hv h x k j = if j < k then ad (h j) (x j) else h j
  | 0, j => by rw [if_neg (by omega)]; rfl
  | k + 1, j => by
    show up (hv h x k) k (ad (hv h x k k) (x k)) j = _
    unfold up
    rw [hv_get h x k k, hv_get h x k j, if_neg (Nat.lt_irrefl k)]
    by_cases e : j = k
    · subst e
      rw [if_pos rfl, if_pos (by omega)]
    · rw [if_neg e]
      by_cases l : j < k
      · rw [if_pos l, if_pos (by omega)]
      · rw [if_neg l, if_neg (by omega)]
theorem lt8 {p : Nat → Prop} (h : p 0 ∧ p 1 ∧ p 2 ∧ p 3 ∧ p 4 ∧ p 5 ∧ p 6 ∧ p 7) (j : Nat) (hj : j < 8) : p j := by
  obtain ⟨h0, h1, h2, h3, h4, h5, h6, h7⟩ := h
  rcases (by omega : j = 0 ∨ j = 1 ∨ j = 2 ∨ j = 3 ∨ j = 4 ∨ j = 5 ∨ j = 6 ∨ j = 7) with rfl | rfl | rfl | rfl | rfl | rfl | rfl | rfl <;> assumption
theorem mw_get (s W : Nat → Nat) (j : Nat) (hj : j < 8) : mw s W j = ad (s j) (xs s kT W 64 j) := by
  unfold mw
  rw [rn_xs]
  generalize xs s kT W 64 = g
  simp only [st8]
  exact lt8 (p := fun j => ei (ad (s 0) (g 0)) (ad (s 1) (g 1)) (ad (s 2) (g 2)) (ad (s 3) (g 3)) (ad (s 4) (g 4)) (ad (s 5) (g 5)) (ad (s 6) (g 6)) (ad (s 7) (g 7)) j = ad (s j) (g j)) ⟨ei_0 .., ei_1 .., ei_2 .., ei_3 .., ei_4 .., ei_5 .., ei_6 .., ei_7 ..⟩ j hj
theorem db_mx (s P : Nat → Nat) (ap : Nat) (hP : ∀ j, P j < 256) (j : Nat) (hj : j < 8) : db s kT P ap j = mx s (fun j => P (ap + j)) j := by
  unfold db mx
  rw [hv_get, if_pos hj, mw_get _ _ _ hj, ← dw_ws P ap hP 48]
theorem rn_congr {s s' : Nat → Nat} (W : Nat → Nat) (h : ∀ j, j < 8 → s j = s' j) (k : Nat) : rn s W k = rn s' W k := by
  induction k with
  | zero =>
    rw [rn_zero, rn_zero]
    unfold st8
    rw [h 0 (by decide), h 1 (by decide), h 2 (by decide), h 3 (by decide), h 4 (by decide), h 5 (by decide), h 6 (by decide), h 7 (by decide)]
  | succ k ih => rw [rn_succ, rn_succ, ih]
theorem w0_congr {x x' : Nat → Nat} (h : ∀ j, j < 64 → x j = x' j) : ∀ k, k ≤ 16 → w0 x k = w0 x' k
  | 0, _ => rfl
  | k + 1, hk => by
    show up (w0 x k) k (wd x k) = up (w0 x' k) k (wd x' k)
    rw [w0_congr h k (by omega)]
    unfold wd
    rw [h (4 * k) (by omega), h (4 * k + 1) (by omega), h (4 * k + 2) (by omega), h (4 * k + 3) (by omega)]
theorem mx_congr {s s' x x' : Nat → Nat} (h : ∀ j, j < 8 → s j = s' j) (hx : ∀ j, j < 64 → x j = x' j) : mx s x = mx s' x' := by
  unfold mx
  rw [w0_congr hx 16 (Nat.le_refl _)]
  unfold mw
  rw [rn_congr _ h, h 0 (by decide), h 1 (by decide), h 2 (by decide), h 3 (by decide), h 4 (by decide), h 5 (by decide), h 6 (by decide), h 7 (by decide)]
/-! Block by block. -/
def ch (f : Nat → Nat) : Nat → Nat → Nat
  | 0 => fT
  | k + 1 => mx (ch f k) (fun j => f (64 * k + j))
theorem hby_ch (f : Nat → Nat) : ∀ n, (hby f ⟨fT, fun _ => 0, 0⟩ n).s = ch f (n / 64) ∧ ∀ j, j < n % 64 → (hby f ⟨fT, fun _ => 0, 0⟩ n).r j = f (64 * (n / 64) + j)
  | 0 => ⟨rfl, fun j hj => by omega⟩
  | n + 1 => by
    obtain ⟨h1, h2⟩ := hby_ch f n
    have hc : (hby f ⟨fT, fun _ => 0, 0⟩ n).c = n := by rw [hby_c]; exact Nat.zero_add n
    have hr : ∀ j, j ≤ n % 64 → up (hby f ⟨fT, fun _ => 0, 0⟩ n).r (n % 64) (f n) j = f (64 * (n / 64) + j) := fun j hj => by
      unfold up
      by_cases e : j = n % 64
      · rw [if_pos e, e]; congr 1; omega
      · rw [if_neg e, h2 j (by omega)]
    have e1 : (hby f ⟨fT, fun _ => 0, 0⟩ (n + 1)).s = if (n + 1) % 64 = 0 then mx (hby f ⟨fT, fun _ => 0, 0⟩ n).s (up (hby f ⟨fT, fun _ => 0, 0⟩ n).r (n % 64) (f n)) else (hby f ⟨fT, fun _ => 0, 0⟩ n).s := by
      show (if ((hby f ⟨fT, fun _ => 0, 0⟩ n).c + 1) % 64 = 0 then mx (hby f ⟨fT, fun _ => 0, 0⟩ n).s (up (hby f ⟨fT, fun _ => 0, 0⟩ n).r ((hby f ⟨fT, fun _ => 0, 0⟩ n).c % 64) (f n)) else _) = _
      rw [hc]
    have e2 : (hby f ⟨fT, fun _ => 0, 0⟩ (n + 1)).r = up (hby f ⟨fT, fun _ => 0, 0⟩ n).r (n % 64) (f n) := by
      show up (hby f ⟨fT, fun _ => 0, 0⟩ n).r ((hby f ⟨fT, fun _ => 0, 0⟩ n).c % 64) (f n) = _
      rw [hc]
    rw [e1, e2]
    by_cases hz : (n + 1) % 64 = 0
    · rw [if_pos hz]
      refine ⟨?_, fun j hj => by omega⟩
      rw [show (n + 1) / 64 = n / 64 + 1 by omega]
      show _ = mx (ch f (n / 64)) (fun j => f (64 * (n / 64) + j))
      exact mx_congr (fun j _ => by rw [h1]) (fun j hj => hr j (by omega))
    · rw [if_neg hz, show (n + 1) / 64 = n / 64 by omega]
      exact ⟨h1, fun j hj => hr j (by omega)⟩
theorem hd_step (P : Nat → Nat) (hP : ∀ j, P j < 256) (k : Nat) {s x : Nat → Nat} (hs : ∀ j, j < 8 → hd P k j = s j) (hx : ∀ j, j < 64 → P (64 * k + j) = x j) (j : Nat) (hj : j < 8) : hd P (k + 1) j = mx s x j := by
  show db (hd P k) kT P (64 * k) j = _
  rw [db_mx _ _ _ hP j hj]
  exact congrFun (mx_congr hs hx) j
theorem hd_ch (f P : Nat → Nat) (hP : ∀ j, P j < 256) (n : Nat) (hf : ∀ j, j < n → P j = f j) : ∀ k, 64 * k ≤ n → ∀ j, j < 8 → hd P k j = ch f k j
  | 0, _, _, _ => rfl
  | k + 1, hk, j, hj => hd_step P hP k (hd_ch f P hP n hf k (by omega)) (fun i hi => hf _ (by omega)) j hj
/-! The bytes of the eight numbers. -/
theorem bo_get (s : Nat → Nat) : ∀ n i t, t < 4 → bo s n (4 * i + t) = if i < n then sr (s i) (24 - 8 * t) % 256 else 0
  | 0, i, t, _ => by rw [if_neg (by omega)]; rfl
  | n + 1, i, t, ht => by
    show up (up (up (up (bo s n) (4 * n) (sr (s n) 24 % 256)) (4 * n + 1) (sr (s n) 16 % 256)) (4 * n + 2) (sr (s n) 8 % 256)) (4 * n + 3) (s n % 256) (4 * i + t) = _
    have ih := bo_get s n i t ht
    unfold up
    by_cases e : i = n
    · subst e
      rw [if_pos (Nat.lt_succ_self i)]
      rcases (by omega : t = 0 ∨ t = 1 ∨ t = 2 ∨ t = 3) with rfl | rfl | rfl | rfl
      · rw [if_neg (by omega), if_neg (by omega), if_neg (by omega), if_pos (by omega)]
      · rw [if_neg (by omega), if_neg (by omega), if_pos (by omega)]
      · rw [if_neg (by omega), if_pos (by omega)]
      · rw [if_pos (by omega)]
        unfold sr
        rw [show 24 - 8 * 3 = 0 from rfl, Nat.pow_zero, Nat.div_one]
    · rw [if_neg (by omega), if_neg (by omega), if_neg (by omega), if_neg (by omega), ih]
      by_cases l : i < n
      · rw [if_pos l, if_pos (by omega)]
      · rw [if_neg l, if_neg (by omega)]
theorem ob_get (h : Nat → Nat) : ∀ n j, ob h n j = if j < n then sr (h (j / 4)) (24 - 8 * (j % 4)) % 256 else 0
  | 0, j => by rw [if_neg (by omega)]; rfl
  | n + 1, j => by
    show up (ob h n) n (sr (h (n / 4)) (24 - (8 * (n % 4))) % 256) j = _
    unfold up
    by_cases e : j = n
    · subst e; rw [if_pos rfl, if_pos (by omega)]
    · rw [if_neg e, ob_get h n j]
      by_cases l : j < n
      · rw [if_pos l, if_pos (by omega)]
      · rw [if_neg l, if_neg (by omega)]
theorem ob_bo {h s : Nat → Nat} (e : ∀ j, j < 8 → h j = s j) (j : Nat) (hj : j < 32) : ob h 32 j = bo s 8 j := by
  rw [ob_get, if_pos hj]
  have := bo_get s 8 (j / 4) (j % 4) (by omega)
  rw [show 4 * (j / 4) + j % 4 = j by omega, if_pos (by omega)] at this
  rw [this, e _ (by omega)]
theorem e8_get (x : Nat) : ∀ n j, e8 x n j = if j < n then b8 x j else 0
  | 0, j => by rw [if_neg (by omega)]; rfl
  | n + 1, j => by
    show up (e8 x n) n (sr x (56 - 8 * n) % 256) j = _
    unfold up
    by_cases e : j = n
    · subst e; rw [if_pos rfl, if_pos (by omega)]; rfl
    · rw [if_neg e, e8_get x n j]
      by_cases l : j < n
      · rw [if_pos l, if_pos (by omega)]
      · rw [if_neg l, if_neg (by omega)]
/-! The whole. -/
theorem pd_lt (f : Nat → Nat) (hf : ∀ j, f j < 256) (n j : Nat) : pd f n j < 256 := by
  unfold pd ct
  split
  · unfold pz
    split
    · exact hf j
    · split <;> omega
  · exact Nat.mod_lt _ (by decide)
theorem pd_f (f : Nat → Nat) (n j : Nat) (h : j < n) : pd f n j = f j := by
  unfold pd ct pz
  rw [if_pos (by omega), if_pos h]
theorem pd_n (f : Nat → Nat) (n : Nat) : pd f n n = 128 := by
  unfold pd ct pz
  rw [if_pos (by omega), if_neg (by omega), if_pos rfl]
theorem pd_z (f : Nat → Nat) (n j : Nat) (h : n < j) (h2 : j < n + 1 + zc n) : pd f n j = 0 := by
  unfold pd ct pz
  rw [if_pos h2, if_neg (by omega), if_neg (by omega)]
theorem pd_e (f : Nat → Nat) (n j : Nat) (hn : n ≤ 1048576) (h : n + 1 + zc n ≤ j) : pd f n j = b8 (c64 (8 * n)) (j - (n + 1 + zc n)) := by
  unfold pd ct
  rw [if_neg (by omega), show c64 n = n by unfold c64; omega]
theorem dg0_ds (f : Nat → Nat) (hf : ∀ j, f j < 256) (n : Nat) (hn : n ≤ 1048576) (j : Nat) (hj : j < 32) : dg0 f n j = ds f n j := by
  have hP := pd_lt f hf n
  obtain ⟨hs, hr⟩ := hby_ch f n
  have hc : (hby f ⟨fT, fun _ => 0, 0⟩ n).c = n := by rw [hby_c]; exact Nat.zero_add n
  have hz : zc n = (120 - (n + 1) % 64) % 64 := rfl
  have hb : nb n = (n + 1 + zc n + 8) / 64 := rfl
  have hch := hd_ch f (pd f n) hP n (fun i hi => pd_f f n i hi)
  unfold dg0 ds
  rw [hc, hs]
  generalize (hby f ⟨fT, fun _ => 0, 0⟩ n).r = r at hr
  obtain ⟨m, hm⟩ : ∃ m, m = n / 64 := ⟨_, rfl⟩
  obtain ⟨k, hk⟩ : ∃ k, k = n % 64 := ⟨_, rfl⟩
  rw [← hm] at hr ⊢
  have hnk : n = 64 * m + k := by omega
  have hk64 : k < 64 := by omega
  have h0 := hch m (by omega)
  unfold fz
  rw [← hk] at hr ⊢
  by_cases c1 : k < 56
  · rw [if_pos c1, show nb n = m + 1 by omega]
    refine (ob_bo (fun i hi => hd_step (pd f n) hP m h0 (fun i hi => ?_) i hi) j hj).symm
    unfold pr8 cl
    by_cases a1 : i < k
    · rw [if_neg (by omega), if_neg (by omega), pd_f f n _ (by omega)]
      unfold up
      rw [if_neg (by omega), hr i a1]
    · by_cases a2 : i = k
      · rw [if_neg (by omega), if_neg (by omega), show 64 * m + i = n by omega, pd_n]
        unfold up
        rw [if_pos a2]
      · by_cases a3 : i < 56
        · rw [if_neg (by omega), if_pos (by omega), pd_z f n _ (by omega) (by omega)]
        · rw [if_pos (by omega), e8_get, if_pos (by omega), pd_e f n _ hn (by omega), show 64 * m + i - (n + 1 + zc n) = i - 56 by omega]
  · rw [if_neg c1, show nb n = m + 1 + 1 by omega]
    have two : ∀ x, (∀ i, i < 64 → pd f n (64 * m + i) = x i) → ob (hd (pd f n) (m + 1 + 1)) 32 j = bo (mx (mx (ch f m) x) (pr8 (fun _ => 0) 56 8 (e8 (c64 (8 * n)) 8))) 8 j := fun x hx => by
      refine ob_bo (fun i hi => hd_step (pd f n) hP (m + 1) (fun i hi => hd_step (pd f n) hP m h0 hx i hi) (fun i hi => ?_) i hi) j hj
      unfold pr8
      by_cases a3 : i < 56
      · rw [if_neg (by omega), pd_z f n _ (by omega) (by omega)]
      · rw [if_pos (by omega), e8_get, if_pos (by omega), pd_e f n _ hn (by omega), show 64 * (m + 1) + i - (n + 1 + zc n) = i - 56 by omega]
    by_cases c2 : k < 63
    · rw [if_pos c2]
      refine (two _ (fun i hi => ?_)).symm
      unfold cl
      by_cases a1 : i < k
      · rw [if_neg (by omega), pd_f f n _ (by omega)]
        unfold up
        rw [if_neg (by omega), hr i a1]
      · by_cases a2 : i = k
        · rw [if_neg (by omega), show 64 * m + i = n by omega, pd_n]
          unfold up
          rw [if_pos a2]
        · rw [if_pos (by omega), pd_z f n _ (by omega) (by omega)]
    · rw [if_neg c2]
      refine (two _ (fun i hi => ?_)).symm
      by_cases a1 : i < k
      · rw [pd_f f n _ (by omega)]
        unfold up
        rw [if_neg (by omega), hr i a1]
      · rw [show 64 * m + i = n by omega, pd_n]
        unfold up
        rw [if_pos (by omega)]
end Rg
end Go.Proofs.YtfboipfpnkngdaaDoor
end
section
namespace Go.Proofs.YtfboipfpnkngdaaDoor
open Go.RowKit
namespace Rg
set_option maxRecDepth 100000
/-- The bytes of a list that is lent. -/
def lf (xs : List Int) (j : Nat) : Nat := (lent xs j).toNat
theorem lf_int {xs : List Int} (hx : ∀ x ∈ xs, 0 ≤ x ∧ x < 256) (j : Nat) : ((lf xs j : Nat) : Int) = lent xs j := Int.toNat_of_nonneg (lent_bd xs hx j).1
theorem lf_lt {xs : List Int} (hx : ∀ x ∈ xs, 0 ≤ x ∧ x < 256) (j : Nat) : lf xs j < 256 := by
  have := lent_bd xs hx j
  unfold lf
  omega
theorem Mm.rs {w : World} {l : List (Nat × List Value)} {f : Nat → Nat} {g m n : Nat} (h : Mm w l) (k : Nat) (hk : l[k]? = some (g, ints .u8 f m)) (hn : n ≤ m) : Rs g 0 n f w := by
  have hb := h.blk _ (List.mem_of_getElem? hk)
  exact ⟨fun _ => hb.1, fun i hi => by rw [Nat.zero_add]; exact (hb.2 i _ (ints_get .u8 f (by omega))).1⟩
theorem Bv.start (gb o n cp : Nat) : Bv gb o n cp 0 (.slice (some ⟨gb, o, none⟩) n cp) := ⟨fun _ => rfl, fun h => ⟨some ⟨gb, o, none⟩, cp, by rw [← h]⟩⟩
theorem all_of {f f' : Nat → Nat} {n : Nat} (h : ∀ j, j < n → f j = f' j) : ((List.range n).all fun j => decide (f j = f' j)) = true := by
  rw [List.all_eq_true]
  intro j hj
  exact decide_eq_true (h j (List.mem_range.1 hj))
theorem call9 : ∀ args w, (callFunc 9 args).run Tryd.prog w = .ok (.enter 9 args) w := by intro args w; go_simp
theorem call11 : ∀ args w, (callFunc 11 args).run Tryd.prog w = .ok (.enter 11 args) w := by intro args w; go_simp
theorem call12 : ∀ args w, (callFunc 12 args).run Tryd.prog w = .ok (.enter 12 args) w := by intro args w; go_simp
end Rg
end Go.Proofs.YtfboipfpnkngdaaDoor
end
section
namespace Go.Proofs.YtfboipfpnkngdaaDoor
open Go.RowKit
namespace Rg
set_option maxRecDepth 100000
theorem Src.kp2 {g gb o n : Nat} {f : Nat → Nat} {w w' : World} (h : Src g gb o n f w) (k : Kp g w w') : Src g gb o n f w' :=
  ⟨fun hn => Nat.lt_of_lt_of_le (h.lt hn) k.size, h.ne, fun i hi => h.kp k i hi⟩
theorem Src.void (g gb o : Nat) (f : Nat → Nat) (w : World) : Src g gb o 0 f w := ⟨fun h => absurd h (by decide), fun h => absurd h (by decide), fun i hi => absurd hi (by omega)⟩
theorem Bv.void (gb o cp : Nat) (p : Option Addr) (c : Nat) : Bv gb o 0 cp 0 (.slice p 0 c) := ⟨fun h => absurd h (by decide), fun _ => ⟨p, c, rfl⟩⟩
theorem Mm.src {w : World} {l : List (Nat × List Value)} {f : Nat → Nat} {g gb m n : Nat} {cs : List Value} (h : Mm w l) (i j : Nat) (hg : l[i]? = some (g, cs)) (hk : l[j]? = some (gb, ints .u8 f m)) (hij : i ≠ j) (hn : n ≤ m) : Src g gb 0 n f w := by
  have h2 := h.two i j hg hk hij
  have hb := h2.blk (gb, ints .u8 f m) (by simp)
  refine ⟨fun _ => hb.1, fun _ e => ?_, fun i hi => by rw [Nat.zero_add]; exact (hb.2 i _ (ints_get .u8 f (by omega))).1⟩
  have := (List.pairwise_cons.1 h2.nd).1 (gb, ints .u8 f m) (by simp)
  exact this e.symm
end Rg
end Go.Proofs.YtfboipfpnkngdaaDoor
end
section
namespace Go.Proofs.YtfboipfpnkngdaaDoor
open Go.RowKit
namespace Rg
set_option maxRecDepth 100000
theorem Mm.over {u w : World} {l : List (Nat × List Value)} {g : Nat} {cs : List Value} (h0 : Mm u l) (hge : u.heap.size ≤ g) (h1 : Mm w l) (hb : Blk w g cs) (hlt : g < w.heap.size) : Mm w ((g, cs) :: l) :=
  h1.cons hb hlt (fun p hp => by have := (h0.blk p hp).1; omega)
theorem Rs.void (g o : Nat) (f : Nat → Nat) (w : World) : Rs g o 0 f w := ⟨fun h => absurd h (by decide), fun i hi => absurd hi (by omega)⟩
section
variable {ρ : Operand → Value} {o : Oper} {x y : Operand} {g : Nat} {w : World}
theorem ex_eqS {a b : ByteArray} (h : a = b) (ho : o.op = .binOp .eql 9 x y 9) (hx : ρ x = .string a) (hy : ρ y = .string b) : (execOp ρ o).run Tryd.prog w = .ok (.value (.bool true)) w := by
  subst h
  simp only [execOp, ho, hx, hy]
  clear ho hx hy
  go_simp
end
theorem call14 : ∀ args w, (callFunc 14 args).run Tryd.prog w = .ok (.enter 14 args) w := by intro args w; go_simp
theorem call15 : ∀ args w, (callFunc 15 args).run Tryd.prog w = .ok (.enter 15 args) w := by intro args w; go_simp
theorem call19 : ∀ args w, (callFunc 19 args).run Tryd.prog w = .ok (.enter 19 args) w := by intro args w; go_simp
end Rg
end Go.Proofs.YtfboipfpnkngdaaDoor
end
section
namespace Go.Proofs.YtfboipfpnkngdaaDoor
open Go.RowKit
namespace Rg
theorem tx_even (d : Nat → Nat) : ∀ n i, i < n → tx d n (2 * i) = dgt (d i / 16)
  | 0, _, h => by omega
  | n + 1, i, h => by
    show up (up (tx d n) (2 * n) (dgt (d n / 16))) (2 * n + 1) (dgt (d n % 16)) (2 * i) = _
    unfold up
    rw [if_neg (by omega)]
    by_cases e : i = n
    · rw [if_pos (by omega), e]
    · rw [if_neg (by omega), tx_even d n i (by omega)]
theorem tx_odd (d : Nat → Nat) : ∀ n i, i < n → tx d n (2 * i + 1) = dgt (d i % 16)
  | 0, _, h => by omega
  | n + 1, i, h => by
    show up (up (tx d n) (2 * n) (dgt (d n / 16))) (2 * n + 1) (dgt (d n % 16)) (2 * i + 1) = _
    unfold up
    by_cases e : i = n
    · rw [if_pos (by omega), e]
    · rw [if_neg (by omega), if_neg (by omega), tx_odd d n i (by omega)]
end Rg
end Go.Proofs.YtfboipfpnkngdaaDoor
end
section
namespace Go.Proofs.YtfboipfpnkngdaaDoor
open Go.RowKit
namespace Rg
set_option maxRecDepth 100000
section
variable {ρ : Operand → Value} {o : Oper} {x y : Operand} {a b : Nat} {w : World}
theorem ex_lt8 {t : Bool} (ht : decide (a < b) = t) (ho : o.op = .binOp .lss 5 x y 5) (hx : ρ x = Z8 a) (hy : ρ y = Z8 b) : (execOp ρ o).run Tryd.prog w = .ok (.value (.bool t)) w := by
  subst ht
  simp only [execOp, ho, hx, hy]
  clear ho hx hy
  go_simp
theorem ex_quo16 (h : a < 256) (ho : o.op = .binOp .quo 5 x y 5) (hx : ρ x = Z8 a) (hy : ρ y = .int .u8 16) : (execOp ρ o).run Tryd.prog w = .ok (.value (Z8 (a / 16))) w := by
  have hw : IntKind.u8.wrap ((a : Int) / 16) = (a : Int) / 16 := by simp [IntKind.wrap, IntKind.bits, IntKind.signed]; omega
  simp only [execOp, ho, hx, hy]
  clear ho hx hy
  go_simp
theorem ex_rem16 (ho : o.op = .binOp .rem 5 x y 5) (hx : ρ x = Z8 a) (hy : ρ y = .int .u8 16) : (execOp ρ o).run Tryd.prog w = .ok (.value (Z8 (a % 16))) w := by
  simp only [execOp, ho, hx, hy]
  clear ho hx hy
  go_simp
  first | done | rw [Int.tmod_eq_emod_of_nonneg (by omega)]
theorem ex_bs2 (ho : o.op = .buildSlice 22 2 #[(0, x), (1, y)]) (hx : ρ x = Z8 a) (hy : ρ y = Z8 b) : (execOp ρ o).run Tryd.prog w = .ok (.value (.slice (some ⟨w.heap.size, 0, none⟩) 2 2)) (w.alloc (.cells (ints .u8 (fun j => [a, b].getD j 0) 2).toArray 5)) := by
  simp only [execOp, ho, List.map_toArray, List.map_cons, List.map_nil, hx, hy]
  kernel_rfl
end
theorem dgt_lo (k : Nat) (h : k < 10) : dgt k = 48 + k := by
  rcases (by omega : k = 0 ∨ k = 1 ∨ k = 2 ∨ k = 3 ∨ k = 4 ∨ k = 5 ∨ k = 6 ∨ k = 7 ∨ k = 8 ∨ k = 9) with rfl | rfl | rfl | rfl | rfl | rfl | rfl | rfl | rfl | rfl <;> rfl
theorem dgt_hi (k : Nat) (h : 10 ≤ k) (h2 : k < 16) : dgt k = 97 + k - 10 := by
  rcases (by omega : k = 10 ∨ k = 11 ∨ k = 12 ∨ k = 13 ∨ k = 14 ∨ k = 15) with rfl | rfl | rfl | rfl | rfl | rfl <;> rfl
set_option maxRecDepth 100000 in
theorem digit_lo (c : Nat) (h : c < 10) (w : World) :
    Calls Tryd.prog 38 #[Z8 c] w fun e w' => e = .returned (Z8 (48 + c)) ∧ Below w.heap.size w w' := by
  have H0 : Hid (_ ∧ _) := ⟨Mm.nil w, Below.refl w.heap.size w⟩
  go_enter Tryd.func38, Tryd.ntmps38
  refine wp_seq ?_
  refine walk_seqB 1 [.quiet (.int .u8 0)] H0 ?ho1 ?he1
  case ho1 => exact ak (fun _ => ⟨rfl, fun _ _ => rfl⟩) trivial
  intro _ w1 H1
  refine rest0 rfl (then_normal (wp_seq (wp_seq ?_)))
  refine walk_seqB 2 [.quiet (Z8 c), .quiet (.bool true)] H1 ?ho2 ?he2
  case ho2 => exact ak (fun _ => ⟨rfl, fun _ _ => rfl⟩) (ak (fun γ => ⟨rfl, fun w' _ => ex_lt8 (a := c) (b := 10) (decide_eq_true (by omega)) rfl rfl rfl⟩) trivial)
  intro _ w2 H2
  clear H1
  refine rest0 rfl (then_normal (wp_cond_true rfl (wp_seq ?_)))
  refine walk_seqB 3 [.quiet (Z8 c), .quiet (Z8 (48 + c)), .quiet (Z8 (48 + c))] H2 ?ho3 ?he3
  case ho3 => exact ak (fun _ => ⟨rfl, fun _ _ => rfl⟩) (ak (fun γ => ⟨rfl, fun w' _ => ex_add8 (a := 48) (b := c) (by omega) rfl rfl rfl⟩) (ak (fun _ => ⟨rfl, fun _ _ => rfl⟩) trivial))
  intro _ w3 H3
  clear H2
  refine rest0 rfl (then_normal (wp_ret ?_))
  repeat (first | refine then_ret ?_ | refine block_ret ?_)
  refine bodyPost_ret (v := Z8 (48 + c)) (by simp [results, Tryd.results38, go_sem, *]) rfl ?_
  exact ⟨rfl, H3.out.2⟩
set_option maxRecDepth 100000 in
theorem digit_hi (c : Nat) (h : 10 ≤ c) (h2 : c < 16) (w : World) :
    Calls Tryd.prog 38 #[Z8 c] w fun e w' => e = .returned (Z8 (97 + c - 10)) ∧ Below w.heap.size w w' := by
  have H0 : Hid (_ ∧ _) := ⟨Mm.nil w, Below.refl w.heap.size w⟩
  go_enter Tryd.func38, Tryd.ntmps38
  refine wp_seq ?_
  refine walk_seqB 1 [.quiet (.int .u8 0)] H0 ?ho1 ?he1
  case ho1 => exact ak (fun _ => ⟨rfl, fun _ _ => rfl⟩) trivial
  intro _ w1 H1
  refine rest0 rfl (then_normal (wp_seq (wp_seq ?_)))
  refine walk_seqB 2 [.quiet (Z8 c), .quiet (.bool false)] H1 ?ho2 ?he2
  case ho2 => exact ak (fun _ => ⟨rfl, fun _ _ => rfl⟩) (ak (fun γ => ⟨rfl, fun w' _ => ex_lt8 (a := c) (b := 10) (decide_eq_false (by omega)) rfl rfl rfl⟩) trivial)
  intro _ w2 H2
  clear H1
  refine rest0 rfl (then_normal (wp_cond_false rfl ?_))
  refine wp_skip (then_normal (wp_seq ?_))
  refine walk_seqB 4 [.quiet (Z8 c), .quiet (Z8 (97 + c)), .quiet (Z8 ((97 + c) - 10)), .quiet (Z8 ((97 + c) - 10))] H2 ?ho3 ?he3
  case ho3 => exact ak (fun _ => ⟨rfl, fun _ _ => rfl⟩) (ak (fun γ => ⟨rfl, fun w' _ => ex_add8 (a := 97) (b := c) (by omega) rfl rfl rfl⟩) (ak (fun γ => ⟨rfl, fun w' _ => ex_sub8 (a := 97 + c) (b := 10) (by omega) (by omega) rfl rfl rfl⟩) (ak (fun _ => ⟨rfl, fun _ _ => rfl⟩) trivial)))
  intro _ w3 H3
  clear H2
  refine rest0 rfl (then_normal (wp_ret ?_))
  repeat (first | refine then_ret ?_ | refine block_ret ?_)
  refine bodyPost_ret (v := Z8 ((97 + c) - 10)) (by simp [results, Tryd.results38, go_sem, *]) rfl ?_
  exact ⟨rfl, H3.out.2⟩
theorem digit_any (c : Nat) (h : c < 16) (w : World) : Calls Tryd.prog 38 #[Z8 c] w fun e w' => e = .returned (Z8 (dgt c)) ∧ Below w.heap.size w w' := by
  by_cases h1 : c < 10
  · rw [dgt_lo c h1]; exact digit_lo c h1 w
  · rw [dgt_hi c (by omega) h]; exact digit_hi c (by omega) h w
theorem ex_strR {ρ : Operand → Value} {o : Oper} {x : Operand} {f : Nat → Nat} {g n c : Nat} {w : World} (h : Rs g 0 n f w) (ho : o.op = .convert 22 9 x) (hx : ρ x = .slice (some ⟨g, 0, none⟩) n c) : (execOp ρ o).run Tryd.prog w = .ok (.value (.string (st f n))) w := by
  have hc := run_convert_bytes_arg (P := Tryd.prog) w 22 5 (by kernel_rfl) (by kernel_rfl) g 0 n c ((List.range n).map fun j => (f j : Int)) (by simp) (fun i hi => by
    rw [h.at_ i hi]
    simp [List.getD, hi]) 9 (by kernel_rfl)
  clear h
  simp only [execOp, ho, hx]
  simp [hc, Result.andThen, st]
theorem tx_two (d : Nat → Nat) (k : Nat) (hk : k < 32) (j : Nat) (hj : j < 2 * k + 2) : ct (tx d 32) (2 * k) (fun j => [dgt (d k / 16), dgt (d k % 16)].getD j 0) j = tx d 32 j := by
  unfold ct
  by_cases h : j < 2 * k
  · rw [if_pos h]
  · rw [if_neg h]
    rcases (by omega : j = 2 * k ∨ j = 2 * k + 1) with rfl | rfl
    · rw [Nat.sub_self, tx_even d 32 k hk]; rfl
    · rw [Nat.add_sub_cancel_left, tx_odd d 32 k hk]; rfl
end Rg
end Go.Proofs.YtfboipfpnkngdaaDoor
end
section
namespace Go.Proofs.YtfboipfpnkngdaaDoor
open Go.RowKit
namespace Rg
set_option maxRecDepth 100000
/-- The numbers of a list that is handed in. -/
def Cz (p : Option Addr) (zs : List Int) (w : World) : Prop := ∀ g o, p = some ⟨g, o, none⟩ → ∀ i, i < zs.length → g < w.heap.size ∧ w.cell? ⟨g, o + i, none⟩ = some (.int .i64 (zs.getD i 0))
theorem Cz.below {p : Option Addr} {zs : List Int} {w w' : World} (h : Cz p zs w) (hb : Below w.heap.size w w') : Cz p zs w' := fun g o e i hi => by
  obtain ⟨h1, h2⟩ := h g o e i hi
  exact ⟨Nat.lt_of_lt_of_le h1 hb.size, by rw [hb.cell (p := ⟨g, o + i, none⟩) h1]; exact h2⟩
theorem Bv.len {gb o n cp i : Nat} {v : Value} (h : Bv gb o n cp i v) (hi : i ≤ n) : ∃ p c, v = .slice p (n - i) c := by
  by_cases e : i < n
  · exact ⟨_, _, h.1 e⟩
  · obtain ⟨p, c, e2⟩ := h.2 (by omega)
    exact ⟨p, c, by rw [e2, show n - i = 0 by omega]⟩
theorem Src.sub {g gb o n : Nat} {f : Nat → Nat} {w : World} (h : Src g gb o n f w) (i m : Nat) (him : i + m ≤ n) : Src g gb (o + i) m (fun j => f (i + j)) w :=
  ⟨fun hm => h.lt (by omega), fun hm => h.ne (by omega), fun j hj => by rw [Nat.add_assoc]; exact h.at_ (i + j) (by omega)⟩
section
variable {ρ : Operand → Value} {o : Oper} {x y : Operand} {g off m c j : Nat} {w : World}
end
end Rg
end Go.Proofs.YtfboipfpnkngdaaDoor
end
section
namespace Go.Proofs.YtfboipfpnkngdaaDoor
open Go.RowKit
namespace Rg
set_option maxRecDepth 100000
/-- A part handed in: its slice, and where its bytes lie. -/
structure Pt8 where
  gb : Nat
  o : Nat
  n : Nat
  cp : Nat
  p : Option Addr
  f : Nat → Nat
/-- m parts lie in the list that pl begins. -/
def Ls (pl : Option Addr) (P : Nat → Pt8) (m : Nat) (w : World) : Prop := ∀ g o, pl = some ⟨g, o, none⟩ → ∀ i, i < m → g < w.heap.size ∧ w.cell? ⟨g, o + i, none⟩ = some (.slice (P i).p (P i).n (P i).cp) ∧ Rs (P i).gb (P i).o (P i).n (P i).f w
theorem Ls.below {pl : Option Addr} {P : Nat → Pt8} {m : Nat} {w w' : World} (h : Ls pl P m w) (hb : Below w.heap.size w w') : Ls pl P m w' := fun g o e i hi => by
  obtain ⟨h1, h2, h3⟩ := h g o e i hi
  exact ⟨Nat.lt_of_lt_of_le h1 hb.size, by rw [hb.cell h1]; exact h2, h3.below hb⟩
/-- The hash's state behind k parts. -/
def jq (P : Nat → Pt8) : Nat → Hq
  | 0 => ⟨fT, fun _ => 0, 0⟩
  | k + 1 => hby (P k).f (hby (e8 (c64 (P k).n) 8) (jq P k) 8) (P k).n
section
variable {ρ : Operand → Value} {o : Oper} {x y : Operand} {g off m c j : Nat} {w : World}
theorem ex_ixP29 {p : Option Addr} (he : p = some ⟨g, off, none⟩) (ho : o.op = .indexAddr 29 x y) (hx : ρ x = .slice p m c) (hy : ρ y = .int .i64 ((j : Nat) : Int)) (h : j < m) : (execOp ρ o).run Tryd.prog w = .ok (.value (PT g (off + j))) w := by
  subst he
  simp only [execOp, ho, hx, hy]
  clear ho hx hy
  go_simp
theorem ex_ldP {p : Option Addr} {P : Nat → Pt8} (h : Ls p P m w) (he : p = some ⟨g, off, none⟩) (hk : j < m) (ho : o.op = .load 22 x) (hx : ρ x = PT g (off + j)) : (execOp ρ o).run Tryd.prog w = .ok (.value (.slice (P j).p (P j).n (P j).cp)) w := by
  have c0 := (h g off he j hk).2.1
  have ha : ∀ w, (isAgg 22).run Tryd.prog w = .ok false w := Tryd.isAgg22
  clear h
  simp only [execOp, ho, hx]
  go_simp
end
set_option maxHeartbeats 4000000 in
set_option maxRecDepth 100000 in
theorem Join_any (pl : Option Addr) (P : Nat → Pt8) (m c2 : Nat) (hml : m ≤ 1048576) (hp20 : 0 < m → ∃ g o, pl = some ⟨g, o, none⟩) (hB0 : ∀ i, i < m → Bv (P i).gb (P i).o (P i).n (P i).cp 0 (.slice (P i).p (P i).n (P i).cp) ∧ (P i).n ≤ (P i).cp) (hc0 : ∀ i, i < m → (jq P i).c + 8 + (P i).n < 4611686018427387904) (w : World) (hm : Mm w [(0, ints .u32 fT 8), (1, ints .u32 kT 64)]) (hL : Ls pl P m w) :
    Calls Tryd.prog 14 #[.slice pl m c2] w fun e w' => e = .returned (.agg (ints .u8 (fz (jq P m).s (jq P m).r (jq P m).c) 32).toArray) ∧ Below w.heap.size w w' := by
  have H0 : Hid (_ ∧ _) := ⟨hm, Below.refl w.heap.size w⟩
  clear hm
  have hp2 : Hid _ := hp20
  have hB : Hid _ := hB0
  have hc : Hid _ := hc0
  have LS : Hid (Ls pl P m w) := hL
  clear hp20 hB0 hc0 hL
  go_enter Tryd.func14, Tryd.ntmps14
  refine wp_seq ?_
  refine walk_seqA 1 [.made (ints .u8 (fun _ => 0) 32) 25] (sB H0) ?ho1 ?he1
  case ho1 => exact ak (fun γ => ⟨rfl, fun w' => ex_mk25 rfl⟩) trivial
  intro γ w1 l hM hl
  have H1 : Hid (Mm w1 [(γ 0, ints .u8 (fun _ => 0) 32), (0, ints .u32 fT 8), (1, ints .u32 kT 64)] ∧ _) := growB H0 hM (Nat.le_refl _) hl [0] rfl (by decide)
  have o1_0 := ownB H0 hM (Nat.le_refl _) hl (i := 0) rfl
  clear hM hl l
  generalize γ 0 = γ1_0 at H1 o1_0 ⊢
  clear γ
  refine rest0 rfl (then_normal (wp_seq ?_))
  refine walk_seqA 3 [.call (.agg (hs true fT (fun _ => 0) 0).toArray), .made (hs false (fun _ => 0) (fun _ => 0) 0) 58, .laid 1 (hs false (fun _ => 0) (fun _ => 0) 0) (hs true fT (fun _ => 0) 0)] (sB H1) ?ho2 ?he2 (hL := ?hL2)
  case hL2 => exact ⟨⟨_, rfl⟩, trivial⟩
  case ho2 => exact ak (fun γ => ⟨rfl, fun w' h => ⟨28, #[], exec_call rfl call28 rfl (mpn rfl), begun_any w' (h.one 1 rfl)⟩⟩) (ak (fun γ => ⟨rfl, fun w' => ex_mk58 rfl⟩) (ak (fun γ => ⟨rfl, rfl, (hs_len _ _ _ _).trans (hs_len _ _ _ _).symm, fun w' h => ex_laidH h Tryd.sizeOf58 rfl rfl rfl⟩) trivial))
  intro γ w2 l hM hl
  have H2 : Hid (Mm w2 [(γ 1, hs true fT (fun _ => 0) 0), (γ1_0, ints .u8 (fun _ => 0) 32), (0, ints .u32 fT 8), (1, ints .u32 kT 64)] ∧ _) := growB H1 hM (Nat.le_refl _) hl [1] rfl (by decide)
  have o2_1 := ownB H1 hM (Nat.le_refl _) hl (i := 1) rfl
  clear hM hl l H1
  generalize γ 1 = γ2_1 at H2 o2_1 ⊢
  clear γ
  refine rest0 rfl (then_normal (wp_seq (wp_seq ?_)))
  refine walk_seqB 3 [.quiet (.slice pl m c2), .quiet (.int .i64 ((m : Nat) : Int)), .quiet (.int .i64 0)] H2 ?ho3 ?he3
  case ho3 => exact ak (fun _ => ⟨rfl, fun _ _ => rfl⟩) (ak (by refine fun γ => ⟨rfl, fun w' h => ?_⟩; clear h; go_simp) (ak (fun _ => ⟨rfl, fun _ _ => rfl⟩) trivial))
  intro _ w3 H3
  clear H2
  refine rest0 rfl (then_normal (wp_block ?_))
  refine loop_ghost (α := Nat) (fun k a' w' => ∃ s0 : Nat → Value, a' = ⟨#[.slice pl m c2, undef, PT γ1_0 0, PT γ2_1 0, undef, s0 5, s0 6, .agg (hs true fT (fun _ => 0) 0).toArray, .slice pl m c2, .int .i64 ((m : Nat) : Int), .int .i64 ((k : Nat) : Int), s0 11, s0 12, s0 13, s0 14, s0 15, s0 16, s0 17, s0 18, s0 19, s0 20, s0 21, s0 22, undef, undef], []⟩ ∧ (Mm w' [(γ2_1, hs true ((jq P k).s) ((jq P k).r) ((jq P k).c)), (γ1_0, ints .u8 (fun _ => 0) 32), (0, ints .u32 fT 8), (1, ints .u32 kT 64)] ∧ Below w.heap.size w w') ∧ k ≤ m) (fun k => m - k) 0 ?st0 ?rd0
  case st0 => exact ⟨(slotfn [undef, undef, undef, undef, undef, undef, undef, undef, undef, undef, undef, undef, undef, undef, undef, undef, undef, undef, undef, undef, undef, undef, undef]), rfl, ⟨H3.out.1, H3.out.2⟩, by omega⟩
  intro k a' w4 hI
  obtain ⟨s0, rfl, hMB, hk0⟩ := hI
  have H4 : Hid (_ ∧ _) := hMB
  clear hMB H3
  by_cases hlt : k < m
  · have hrd : True := trivial
    clear hrd
    obtain ⟨g2, o2, e2⟩ := hp2.out (by omega)
    have E2 : Hid (pl = some ⟨g2, o2, none⟩) := e2
    clear e2
    refine wp_seq ?_
    refine walk_seqB 1 [.quiet (.bool true)] H4 ?ho4 ?he4
    case ho4 => exact ak (by refine fun γ => ⟨rfl, fun w' h => ?_⟩; clear h; go_simp <;> omega) trivial
    intro _ w5 H5
    clear H4
    refine rest0 rfl (then_normal (wp_seq ?_))
    refine wp_cond_true rfl (wp_skip ?_)
    refine then_normal (wp_seq ?_)
    refine wp_block (wp_seq ?_)
    refine (walk_seq) 3 [.quiet (PT g2 (o2 + k)), .quiet (.slice (P k).p (P k).n (P k).cp), .quiet (.slice (P k).p (P k).n (P k).cp)] (fun u' => Mm u' [(γ2_1, hs true ((jq P k).s) ((jq P k).r) ((jq P k).c)), (γ1_0, ints .u8 (fun _ => 0) 32), (0, ints .u32 fT 8), (1, ints .u32 kT 64)] ∧ (Ls pl P m u')) ?pre5 ?F5 ?hpre5 (fun γ => ?hF5) (by kernel_rfl) ?hL5 ?hS5 ?ho5 ?he5
    case hpre5 => simp only [tk, tz]; rfl
    case hF5 => simp only [fill, Kind.val, Act.put, sa, sz, ss]; rfl
    case hL5 => exact trivial
    case hS5 => exact fun w' hb => ⟨H5.out.1.below hb, LS.out.below (H5.out.2.trans (hb.mono H5.out.2.size))⟩
    case ho5 =>
      refine ak (fun γ => ⟨rfl, fun w' _ => ex_ixP29 (j := k) E2.out rfl rfl rfl (by omega)⟩) ?_
      refine ak (fun γ => ⟨rfl, fun w' hX => ex_ldP (j := k) hX.2 E2.out (by omega) rfl rfl⟩) ?_
      refine ak (fun _ => ⟨rfl, fun _ _ => rfl⟩) ?_
      exact trivial
    intro γ w6 l hM hl
    have H6 := keepB H5 hM.below
    clear hM hl l H5 γ
    refine rest0 rfl (then_normal (wp_seq ?_))
    refine walk_seqA 6 [.quiet (.slice (P k).p (P k).n (P k).cp), .quiet (.int .i64 (((P k).n : Nat) : Int)), .quiet (U (c64 ((P k).n))), .call (.agg (ints .u8 (e8 (c64 ((P k).n)) 8) 8).toArray), .made (ints .u8 (fun _ => 0) 8) 69, .laid 4 (ints .u8 (fun _ => 0) 8) (ints .u8 (e8 (c64 ((P k).n)) 8) 8)] (sB H6) ?ho6 ?he6 (hL := ?hL6)
    case hL6 => exact ⟨⟨_, rfl⟩, trivial⟩
    case ho6 => exact ak (fun _ => ⟨rfl, fun _ _ => rfl⟩) (ak (by refine fun γ => ⟨rfl, fun w' h => ?_⟩; clear h; go_simp) (ak (fun γ => ⟨rfl, fun w' _ => ex_cv3_56 (a := (P k).n) rfl rfl⟩) (ak (fun γ => ⟨rfl, fun w' h => ⟨36, #[U (c64 ((P k).n))], exec_call rfl call36 rfl (mpn rfl), eight_any (c64 ((P k).n)) w'⟩⟩) (ak (fun γ => ⟨rfl, fun w' => ex_mk69 rfl⟩) (ak (fun γ => ⟨rfl, rfl, (ints_len _ _ _).trans (ints_len _ _ _).symm, fun w' h => ex_laidI h Tryd.sizeOf69 rfl rfl rfl⟩) trivial)))))
    intro γ w7 l hM hl
    have H7 : Hid (Mm w7 [(γ 4, ints .u8 (e8 (c64 ((P k).n)) 8) 8), (γ2_1, hs true ((jq P k).s) ((jq P k).r) ((jq P k).c)), (γ1_0, ints .u8 (fun _ => 0) 32), (0, ints .u32 fT 8), (1, ints .u32 kT 64)] ∧ _) := growB H6 hM (Nat.le_refl _) hl [4] rfl (by decide)
    have o6_4 := ownB H6 hM (Nat.le_refl _) hl (i := 4) rfl
    clear hM hl l H6
    generalize γ 4 = γ6_4 at H7 o6_4 ⊢
    clear γ
    refine rest0 rfl (then_normal (wp_seq ?_))
    refine walk_seqB 1 [.quiet (.slice (some ⟨γ6_4, 0, none⟩) 8 8)] H7 ?ho7 ?he7
    case ho7 => exact ak (fun γ => ⟨rfl, fun w' _ => ex_sl69 rfl rfl⟩) trivial
    intro _ w8 H8
    clear H7
    refine rest_at (l := [1]) rfl ?_
    refine rest_enter (d := 19) (R := fun vv w' => vv = .tuple #[] ∧ Mm w' [(γ2_1, hs true ((hby (e8 (c64 (P k).n) 8) (jq P k) 8).s) ((hby (e8 (c64 (P k).n) 8) (jq P k) 8).r) ((hby (e8 (c64 (P k).n) 8) (jq P k) 8).c))] ∧ Kp γ2_1 w8 w') rfl rfl rfl (exec_call (args := #[PT γ2_1 0, .slice (some ⟨γ6_4, 0, none⟩) 8 8]) rfl call29 rfl (mpn rfl)) (Calls.mono (add_any γ2_1 γ6_4 0 8 8 true (jq P k) (e8 (c64 (P k).n) 8) _ (Bv.start _ _ _ _) (by decide) (by have := hc.out k hlt; omega) w8 (H8.out.1.two 1 4 rfl rfl (by decide)) (H8.out.1.src 1 0 rfl rfl (by decide) (by decide))) (fun e w2 hh => ⟨_, hh.1, rfl, hh.2⟩)) ?_
    rintro _ w9 ⟨rfl, hn, hp⟩
    have H9 : Hid (Mm w9 [(γ6_4, ints .u8 (e8 (c64 ((P k).n)) 8) 8), (γ2_1, hs true ((hby (e8 (c64 (P k).n) 8) (jq P k) 8).s) ((hby (e8 (c64 (P k).n) 8) (jq P k) 8).r) ((hby (e8 (c64 (P k).n) 8) (jq P k) 8).c)), (γ1_0, ints .u8 (fun _ => 0) 32), (0, ints .u32 fT 8), (1, ints .u32 kT 64)] ∧ Below w.heap.size w w9) := ⟨H8.out.1.change 1 rfl hp hn, Below.kp H8.out.2 hp o2_1.out H8.out.2.size⟩
    clear hn hp H8
    simp only [Act.put, sa, sz, ss]
    refine rest_nil (then_normal ?_)
    refine walk_seqB 1 [.quiet (.slice (P k).p (P k).n (P k).cp)] H9 ?ho8 ?he8
    case ho8 => exact ak (fun _ => ⟨rfl, fun _ _ => rfl⟩) trivial
    intro _ w10 H10
    clear H9
    refine rest_at (l := [1]) rfl ?_
    refine rest_enter (d := 21) (R := fun vv w' => vv = .tuple #[] ∧ Mm w' [(γ2_1, hs true ((hby (P k).f (hby (e8 (c64 (P k).n) 8) (jq P k) 8) (P k).n).s) ((hby (P k).f (hby (e8 (c64 (P k).n) 8) (jq P k) 8) (P k).n).r) ((hby (P k).f (hby (e8 (c64 (P k).n) 8) (jq P k) 8) (P k).n).c))] ∧ Kp γ2_1 w10 w') rfl rfl rfl (exec_call (args := #[PT γ2_1 0, .slice (P k).p (P k).n (P k).cp]) rfl call29 rfl (mpn rfl)) (Calls.mono (add_any γ2_1 (P k).gb (P k).o (P k).n (P k).cp true (hby (e8 (c64 (P k).n) 8) (jq P k) 8) (P k).f _ (hB.out k hlt).1 (hB.out k hlt).2 (by have := hc.out k hlt; rw [hby_c]; omega) w10 (H10.out.1.two 1 4 rfl rfl (by decide)) ((LS.out g2 o2 E2.out k hlt).2.2.src H10.out.2 o2_1.out)) (fun e w2 hh => ⟨_, hh.1, rfl, hh.2⟩)) ?_
    rintro _ w11 ⟨rfl, hn, hp⟩
    have H11 : Hid (Mm w11 [(γ6_4, ints .u8 (e8 (c64 ((P k).n)) 8) 8), (γ2_1, hs true ((hby (P k).f (hby (e8 (c64 (P k).n) 8) (jq P k) 8) (P k).n).s) ((hby (P k).f (hby (e8 (c64 (P k).n) 8) (jq P k) 8) (P k).n).r) ((hby (P k).f (hby (e8 (c64 (P k).n) 8) (jq P k) 8) (P k).n).c)), (γ1_0, ints .u8 (fun _ => 0) 32), (0, ints .u32 fT 8), (1, ints .u32 kT 64)] ∧ Below w.heap.size w w11) := ⟨H10.out.1.change 1 rfl hp hn, Below.kp H10.out.2 hp o2_1.out H10.out.2.size⟩
    clear hn hp H10
    simp only [Act.put, sa, sz, ss]
    refine rest_nil (block_normal (then_normal ?_))
    refine walk_seqB 1 [.quiet (.int .i64 ((k + 1 : Nat) : Int))] H11 ?ho9 ?he9
    case ho9 => exact ak (by refine fun γ => ⟨rfl, fun w' h => ?_⟩; clear h; go_simp; rw [IntKind.wrap_i64]; omega) trivial
    intro _ w12 H12
    clear H11
    refine rest_at (l := [1]) rfl ?_
    refine rest_set (d := 10) rfl rfl rfl rfl ?_
    simp only [Act.put, sa, sz, ss]
    refine rest_nil (then_normal ?_)
    exact ⟨k + 1, ⟨(slotfn [undef, undef, undef, undef, undef, .slice (P k).p (P k).n (P k).cp, PT γ6_4 0, undef, undef, undef, undef, .bool true, PT g2 (o2 + k), .slice (P k).p (P k).n (P k).cp, .slice (P k).p (P k).n (P k).cp, .int .i64 (((P k).n : Nat) : Int), U (c64 ((P k).n)), .agg (ints .u8 (e8 (c64 ((P k).n)) 8) 8).toArray, .slice (some ⟨γ6_4, 0, none⟩) 8 8, .tuple #[], .slice (P k).p (P k).n (P k).cp, .tuple #[], .int .i64 ((k + 1 : Nat) : Int)]), rfl, ⟨H12.out.1.tail, H12.out.2⟩, by omega⟩, by omega⟩
  have hkm : k = m := by omega
  subst hkm
  refine wp_seq ?_
  refine walk_seqB 1 [.quiet (.bool false)] H4 ?ho10 ?he10
  case ho10 => exact ak (by refine fun γ => ⟨rfl, fun w' h => ?_⟩; clear h; go_simp <;> omega) trivial
  intro _ w13 H13
  clear H4
  refine rest0 rfl (then_normal (wp_seq (wp_cond_false rfl ?_)))
  refine wp_exit ?_
  repeat refine then_exit ?_
  refine block_exit ?_
  refine then_normal (wp_seq ?_)
  refine walk_seqB 2 [.quiet (.agg (hs true ((jq P k).s) ((jq P k).r) ((jq P k).c)).toArray), .call (.agg (ints .u8 (fz ((jq P k).s) ((jq P k).r) ((jq P k).c)) 32).toArray)] H13 ?ho11 ?he11
  case ho11 => exact ak (fun γ => ⟨rfl, fun w' h => ex_loadT h 0 rfl rfl rfl Tryd.isAgg58 Tryd.sizeOf58 (hs_whole _ _ _ _) (hs_len _ _ _ _)⟩) (ak (fun γ => ⟨rfl, fun w' h => ⟨30, #[.agg (hs true ((jq P k).s) ((jq P k).r) ((jq P k).c)).toArray], exec_call rfl call30 rfl (mpn rfl), finish_any _ _ _ _ w' (h.one 3 rfl)⟩⟩) trivial)
  intro _ w14 H14
  clear H13
  refine rest_at (l := [2]) rfl ?_
  refine rest_store rfl rfl rfl (ex_storeT (vs := ints .u8 (fz ((jq P k).s) ((jq P k).r) ((jq P k).c)) 32) H14.out.1 1 rfl rfl rfl rfl (by rw [ints_len]; exact Tryd.sizeOf25) (ints_all _ _ _) (by simp [ints_len])) ?_
  have H15 : Hid (Mm (w14.setCells γ1_0 0 (ints .u8 (fz ((jq P k).s) ((jq P k).r) ((jq P k).c)) 32)) [(γ2_1, hs true ((jq P k).s) ((jq P k).r) ((jq P k).c)), (γ1_0, ints .u8 (fz ((jq P k).s) ((jq P k).r) ((jq P k).c)) 32), (0, ints .u32 fT 8), (1, ints .u32 kT 64)] ∧ Below w.heap.size w (w14.setCells γ1_0 0 (ints .u8 (fz ((jq P k).s) ((jq P k).r) ((jq P k).c)) 32))) := ⟨by
    have h := H14.out.1.put 1 (off := 0) (vs := ints .u8 (fz ((jq P k).s) ((jq P k).r) ((jq P k).c)) 32) rfl (by simp [ints_len])
    rw [ints_patch0 _ _ _ _] at h
    exact h, below_setCells _ o1_0.out _ _ _ H14.out.2⟩
  clear H14
  generalize hgw : World.setCells _ _ _ _ = w15 at H15 ⊢
  clear hgw
  refine rest_nil (then_normal (wp_ret ?_))
  repeat (first | refine then_ret ?_ | refine block_ret ?_)
  have hf0 := var_T H15.out.1 1 rfl Tryd.isAgg25 Tryd.sizeOf25 (ints_len _ _ _)
  refine bodyPost_ret (v := .agg (ints .u8 (fz ((jq P k).s) ((jq P k).r) ((jq P k).c)) 32).toArray) (by simp [results, Tryd.results14, asAddr, hf0]) rfl ?_
  exact ⟨rfl, H15.out.2⟩
end Rg
end Go.Proofs.YtfboipfpnkngdaaDoor
end
section
namespace Go.Proofs.YtfboipfpnkngdaaDoor
open Go.RowKit
namespace Rg
set_option maxRecDepth 100000
theorem Zo.nil3 {w w1 : World} {l : List (Nat × List Value)} (P : Nat → Nat) (hm : Mm w1 l) (hb : Below w.heap.size w w1) : Zo w w1.heap.size l (.slice none 0 0) 0 P w1 :=
  ⟨hb, hb.size, Nat.le_refl _, hm, fun p hp => (hm.blk p hp).1, World.ownsRow_nil _ _ _ _⟩
theorem Zo.appP {w w1 : World} {B n0 : Nat} {l : List (Nat × List Value)} {vv : Value} {P : Nat → Nat} (h : Zo w B l vv n0 P w1) {q : Pt8} (hB : Bv q.gb q.o q.n q.cp 0 (.slice q.p q.n q.cp)) (hN : q.p = none → q.cp = 0) (hR : Rs q.gb q.o q.n q.f w1) (hb : n0 + q.n ≤ 2097152) (ty : TypeId) :
    ∃ v' w2, (Builtin.append_ #[22, 22] ty #[vv, .slice q.p q.n q.cp]).run Tryd.prog w1 = .ok v' w2 ∧ Zo w B l v' (n0 + q.n) (ct P n0 q.f) w2 := by
  obtain ⟨gb, o, n, cp, p, f⟩ := q
  simp only at hB hN hR hb ⊢
  cases p with
  | none =>
    have hn : n = 0 := by
      rcases Nat.eq_zero_or_pos n with e | e
      · exact e
      · have := hB.1 e
        simp at this
    have hc := hN rfl
    subst hn hc
    exact ⟨vv, w1, h.app0 ty, h.cg (fun j hj => by unfold ct; rw [if_pos hj])⟩
  | some a =>
    refine h.app (a := a) n cp f (fun j hj => ?_) hb ty
    have e := hB.1 (by omega)
    injection e with e1
    injection e1 with e1
    rw [e1]
    exact hR.add j hj
/-- The message that k parts are joined to: how long it is, and its bytes. -/
def jn (P : Nat → Pt8) : Nat → Nat
  | 0 => 0
  | k + 1 => jn P k + 8 + (P k).n
def jf (P : Nat → Pt8) : Nat → Nat → Nat
  | 0 => fun _ => 0
  | k + 1 => ct (ct (jf P k) (jn P k) (b8 (c64 (P k).n))) (jn P k + 8) (P k).f
def Dv (v : Value) (n : Nat) (f : Nat → Nat) (w : World) : Prop := (v = .slice none 0 0 ∧ n = 0) ∨ ∃ a cp, v = .slice (some a) n cp ∧ Ra a n f w
theorem Dv.below {v : Value} {n : Nat} {f : Nat → Nat} {w w' : World} (h : Dv v n f w) (hb : Below w.heap.size w w') : Dv v n f w' := by
  rcases h with h | ⟨a, cp, e, h⟩
  · exact .inl h
  · exact .inr ⟨a, cp, e, h.below hb⟩
theorem Zo.doc {w w1 : World} {B n : Nat} {l : List (Nat × List Value)} {vv : Value} {P : Nat → Nat} (h : Zo w B l vv n P w1) : Dv vv n P w1 := by
  rcases h.own.2 with ⟨h1, h2⟩ | ⟨g, cap, cur, h1, h2⟩
  · exact .inl ⟨h1, h2⟩
  · refine .inr ⟨⟨g, 0, none⟩, cap, h1, ?_⟩
    rw [h1] at h
    exact ⟨fun hn => h.rs.lt hn, fun j hj => h.rs.add j hj⟩
set_option maxHeartbeats 4000000 in
set_option maxRecDepth 100000 in
theorem dJoin_any (pl : Option Addr) (P : Nat → Pt8) (m c2 : Nat) (hml : m ≤ 1048576) (hp20 : 0 < m → ∃ g o, pl = some ⟨g, o, none⟩) (hB0 : ∀ i, i < m → Bv (P i).gb (P i).o (P i).n (P i).cp 0 (.slice (P i).p (P i).n (P i).cp) ∧ (P i).n ≤ (P i).cp) (hN0 : ∀ i, i < m → (P i).p = none → (P i).cp = 0) (hj0 : ∀ i, i < m → jn P i + 8 + (P i).n ≤ 2097152) (hjm0 : jn P m ≤ 1048576) (w : World) (hL : Ls pl P m w) :
    Calls Tryd.prog 17 #[.slice pl m c2] w fun e w' => e = .returned (.agg (ints .u8 (ds (jf P m) (jn P m)) 32).toArray) ∧ Below w.heap.size w w' := by
  have H0 : Hid (_ ∧ _) := ⟨Mm.nil w, Below.refl w.heap.size w⟩
  have hp2 : Hid _ := hp20
  have hB : Hid _ := hB0
  have hN : Hid _ := hN0
  have hj : Hid _ := hj0
  have hjm : Hid _ := hjm0
  have LS : Hid (Ls pl P m w) := hL
  clear hp20 hB0 hN0 hj0 hjm0 hL
  go_enter Tryd.func17, Tryd.ntmps17
  refine wp_seq ?_
  refine walk_seqA 1 [.made (ints .u8 (fun _ => 0) 32) 25] (sB H0) ?ho1 ?he1
  case ho1 => exact ak (fun γ => ⟨rfl, fun w' => ex_mk25 rfl⟩) trivial
  intro γ w1 l hM hl
  have H1 : Hid (Mm w1 [(γ 0, ints .u8 (fun _ => 0) 32)] ∧ _) := growB H0 hM (Nat.le_refl _) hl [0] rfl (by decide)
  have o1_0 := ownB H0 hM (Nat.le_refl _) hl (i := 0) rfl
  clear hM hl l
  generalize γ 0 = γ1_0 at H1 o1_0 ⊢
  clear γ
  refine rest0 rfl (then_normal (wp_seq ?_))
  refine walk_seqB 1 [.quiet (.slice none 0 0)] H1 ?ho2 ?he2
  case ho2 => exact ak (fun _ => ⟨rfl, fun _ _ => rfl⟩) trivial
  intro _ w2 H2
  clear H1
  refine rest0 rfl ?_
  have H3 : Hid (Mm w2 [(γ1_0, ints .u8 (fun _ => 0) 32)] ∧ Zo w w2.heap.size [(γ1_0, ints .u8 (fun _ => 0) 32)] (.slice none 0 0) 0 (fun _ => 0) w2) := ⟨H2.out.1, Zo.nil3 _ H2.out.1 H2.out.2⟩
  clear H2
  generalize w2.heap.size = γb at H3
  refine then_normal (wp_seq (wp_seq ?_))
  refine walk_seqA 1 [.quiet (.int .i64 0)] (sB H3) ?ho3 ?he3
  case ho3 => exact ak (fun _ => ⟨rfl, fun _ _ => rfl⟩) trivial
  intro γ w4 l hM hl
  have M4 : Mm w4 [(γ1_0, ints .u8 (fun _ => 0) 32)] := H3.out.1.grow hM (Nat.le_refl _) hl [] rfl (by decide)
  have B4 : Zo w γb [(γ1_0, ints .u8 (fun _ => 0) 32)] (.slice none 0 0) 0 (fun _ => 0) w4 := Zo.step H3.out.2 (hM.below)
  clear hM hl l H3
  clear γ
  have H4 : Hid (_ ∧ _) := ⟨M4, B4⟩
  clear M4 B4
  refine rest0 rfl (then_normal (wp_block ?_))
  refine loop_ghost (α := Nat) (fun k a' w' => ∃ s0 : Nat → Value, a' = ⟨#[.slice pl m c2, undef, PT γ1_0 0, s0 3, .int .i64 ((k : Nat) : Int), s0 5, s0 6, s0 7, s0 8, s0 9, s0 10, s0 11, s0 12, s0 13, s0 14, s0 15, s0 16, s0 17, s0 18, s0 19, s0 20, s0 21, s0 22, s0 23, s0 24, s0 25, undef, undef], []⟩ ∧ (Mm w' [(γ1_0, ints .u8 (fun _ => 0) 32)] ∧ Zo w γb [(γ1_0, ints .u8 (fun _ => 0) 32)] (s0 3) (jn P k) (jf P k) w') ∧ k ≤ m) (fun k => m - k) 0 ?st0 ?rd0
  case st0 => exact ⟨(slotfn [undef, undef, undef, .slice none 0 0, undef, undef, undef, undef, undef, undef, undef, undef, undef, undef, undef, undef, undef, undef, undef, undef, undef, undef, undef, undef, undef, undef]), rfl, ⟨H4.out.1, H4.out.2⟩, by omega⟩
  intro k a' w5 hI
  obtain ⟨s0, rfl, hMB, hk0⟩ := hI
  have H5 : Hid (_ ∧ _) := hMB
  clear hMB H4
  by_cases hlt : k < m
  · have hrd : True := trivial
    clear hrd
    obtain ⟨g2, o2, e2⟩ := hp2.out (by omega)
    have E2 : Hid (pl = some ⟨g2, o2, none⟩) := e2
    clear e2
    refine wp_seq (wp_seq ?_)
    refine walk_seqA 4 [.quiet (.int .i64 ((k : Nat) : Int)), .quiet (.slice pl m c2), .quiet (.int .i64 ((m : Nat) : Int)), .quiet (.bool true)] (sB H5) ?ho4 ?he4
    case ho4 => exact ak (fun _ => ⟨rfl, fun _ _ => rfl⟩) (ak (fun _ => ⟨rfl, fun _ _ => rfl⟩) (ak (by refine fun γ => ⟨rfl, fun w' h => ?_⟩; clear h; go_simp) (ak (by refine fun γ => ⟨rfl, fun w' h => ?_⟩; clear h; go_simp <;> omega) trivial)))
    intro γ w6 l hM hl
    have M6 : Mm w6 [(γ1_0, ints .u8 (fun _ => 0) 32)] := H5.out.1.grow hM (Nat.le_refl _) hl [] rfl (by decide)
    have B6 : Zo w γb [(γ1_0, ints .u8 (fun _ => 0) 32)] (s0 3) (jn P k) (jf P k) w6 := Zo.step H5.out.2 (hM.below)
    clear hM hl l H5
    clear γ
    have H6 : Hid (_ ∧ _) := ⟨M6, B6⟩
    clear M6 B6
    refine rest0 rfl (then_normal (wp_cond_true rfl ?_))
    refine wp_skip (then_normal ?_)
    refine wp_seq (wp_block (wp_seq ?_))
    refine (walk_seq) 7 [.quiet (s0 3), .quiet (.slice pl m c2), .quiet (.int .i64 ((k : Nat) : Int)), .quiet (PT g2 (o2 + k)), .quiet (.slice (P k).p (P k).n (P k).cp), .quiet (.int .i64 (((P k).n : Nat) : Int)), .quiet (U (c64 ((P k).n)))] (fun u' => Mm u' [(γ1_0, ints .u8 (fun _ => 0) 32)] ∧ (Ls pl P m u')) ?pre5 ?F5 ?hpre5 (fun γ => ?hF5) (by kernel_rfl) ?hL5 ?hS5 ?ho5 ?he5
    case hpre5 => simp only [tk, tz]; rfl
    case hF5 => simp only [fill, Kind.val, Act.put, sa, sz, ss]; rfl
    case hL5 => exact trivial
    case hS5 => exact fun w' hb => ⟨H6.out.1.below hb, LS.out.below (Zo.step H6.out.2 (hb)).b⟩
    case ho5 =>
      refine ak (fun _ => ⟨rfl, fun _ _ => rfl⟩) ?_
      refine ak (fun _ => ⟨rfl, fun _ _ => rfl⟩) ?_
      refine ak (fun _ => ⟨rfl, fun _ _ => rfl⟩) ?_
      refine ak (fun γ => ⟨rfl, fun w' _ => ex_ixP29 (j := k) E2.out rfl rfl rfl (by omega)⟩) ?_
      refine ak (fun γ => ⟨rfl, fun w' hX => ex_ldP (j := k) hX.2 E2.out (by omega) rfl rfl⟩) ?_
      refine ak (by refine fun γ => ⟨rfl, fun w' h => ?_⟩; clear h; go_simp) ?_
      refine ak (fun γ => ⟨rfl, fun w' _ => ex_cv3_56 (a := (P k).n) rfl rfl⟩) ?_
      exact trivial
    intro γ w7 l hM hl
    have M7 : Mm w7 [(γ1_0, ints .u8 (fun _ => 0) 32)] := H6.out.1.grow hM (Nat.le_refl _) hl [] rfl (by decide)
    have B7 : Zo w γb [(γ1_0, ints .u8 (fun _ => 0) 32)] (s0 3) (jn P k) (jf P k) w7 := Zo.step H6.out.2 (hM.below)
    clear hM hl l H6
    clear γ
    have H7 : Hid (_ ∧ _) := ⟨M7, B7⟩
    clear M7 B7
    refine rest_at (l := [7, 8, 9]) rfl ?_
    refine rest_enter (d := 18) rfl rfl rfl (exec_call (args := #[U (c64 ((P k).n))]) rfl call31 rfl (mpn rfl)) ((Calls.mono (Eight_any (c64 (P k).n) w7) (fun e w2 hh => by obtain ⟨hb, g, cap, he, hR⟩ := hh; exact ⟨_, he, hb, g, cap, rfl, hR⟩) : Calls Tryd.prog 31 #[U (c64 (P k).n)] w7 (fun e w' => ∃ v, e = .returned v ∧ (Below w7.heap.size w7 w' ∧ ∃ g cap, v = .slice (some ⟨g, 0, none⟩) 8 cap ∧ Rs g 0 8 (b8 (c64 (P k).n)) w')))) ?_
    rintro _ w8 ⟨hb, g8, cap8, rfl, hR8⟩
    have H8 : Hid (Mm w8 [(γ1_0, ints .u8 (fun _ => 0) 32)] ∧ Zo w γb [(γ1_0, ints .u8 (fun _ => 0) 32)] (s0 3) (jn P k) (jf P k) w8) := ⟨(Zo.step H7.out.2 hb).m, Zo.step H7.out.2 hb⟩
    have R8 : Hid _ := hR8
    clear hb hR8 H7
    simp only [Act.put, sa, sz, ss]
    obtain ⟨v9, w9, hr, hZ⟩ := H8.out.2.app (a := ⟨g8, 0, none⟩) 8 cap8 (b8 (c64 (P k).n)) R8.out.add (by have := hj.out k hlt; omega) 22
    refine rest_set (d := 19) (v := v9) (w' := w9) rfl rfl rfl (ex_app rfl rfl rfl hr) ?_
    simp only [Act.put, sa, sz, ss]
    have H9 : Hid (Mm w9 [(γ1_0, ints .u8 (fun _ => 0) 32)] ∧ Zo w γb [(γ1_0, ints .u8 (fun _ => 0) 32)] v9 (jn P k + 8) (ct (jf P k) (jn P k) (b8 (c64 (P k).n))) w9) := ⟨hZ.m, hZ⟩
    clear hr hZ H8
    refine rest_set (d := 3) (v := v9) (w' := w9) rfl rfl rfl rfl ?_
    simp only [Act.put, sa, sz, ss]
    refine rest_nil (then_normal ?_)
    refine (walk_seq) 5 [.quiet (v9), .quiet (.slice pl m c2), .quiet (.int .i64 ((k : Nat) : Int)), .quiet (PT g2 (o2 + k)), .quiet (.slice (P k).p (P k).n (P k).cp)] (fun u' => Mm u' [(γ1_0, ints .u8 (fun _ => 0) 32)] ∧ (Ls pl P m u')) ?pre6 ?F6 ?hpre6 (fun γ => ?hF6) (by kernel_rfl) ?hL6 ?hS6 ?ho6 ?he6
    case hpre6 => simp only [tk, tz]; rfl
    case hF6 => simp only [fill, Kind.val, Act.put, sa, sz, ss]; rfl
    case hL6 => exact trivial
    case hS6 => exact fun w' hb => ⟨H9.out.1.below hb, LS.out.below (Zo.step H9.out.2 (hb)).b⟩
    case ho6 =>
      refine ak (fun _ => ⟨rfl, fun _ _ => rfl⟩) ?_
      refine ak (fun _ => ⟨rfl, fun _ _ => rfl⟩) ?_
      refine ak (fun _ => ⟨rfl, fun _ _ => rfl⟩) ?_
      refine ak (fun γ => ⟨rfl, fun w' _ => ex_ixP29 (j := k) E2.out rfl rfl rfl (by omega)⟩) ?_
      refine ak (fun γ => ⟨rfl, fun w' hX => ex_ldP (j := k) hX.2 E2.out (by omega) rfl rfl⟩) ?_
      exact trivial
    intro γ w10 l hM hl
    have M10 : Mm w10 [(γ1_0, ints .u8 (fun _ => 0) 32)] := H9.out.1.grow hM (Nat.le_refl _) hl [] rfl (by decide)
    have B10 : Zo w γb [(γ1_0, ints .u8 (fun _ => 0) 32)] v9 (jn P k + 8) (ct (jf P k) (jn P k) (b8 (c64 (P k).n))) w10 := Zo.step H9.out.2 (hM.below)
    clear hM hl l H9
    clear γ
    have H10 : Hid (_ ∧ _) := ⟨M10, B10⟩
    clear M10 B10
    refine rest_at (l := [5, 6]) rfl ?_
    obtain ⟨v11, w11, hr, hZ⟩ := H10.out.2.appP (q := P k) (hB.out k hlt).1 (hN.out k hlt) ((LS.out g2 o2 E2.out k hlt).2.2.below H10.out.2.b) (by have := hj.out k hlt; omega) 22
    refine rest_set (d := 25) (v := v11) (w' := w11) rfl rfl rfl (ex_app rfl rfl rfl hr) ?_
    simp only [Act.put, sa, sz, ss]
    have H11 : Hid (Mm w11 [(γ1_0, ints .u8 (fun _ => 0) 32)] ∧ Zo w γb [(γ1_0, ints .u8 (fun _ => 0) 32)] v11 (jn P k + 8 + (P k).n) (ct (ct (jf P k) (jn P k) (b8 (c64 (P k).n))) (jn P k + 8) (P k).f) w11) := ⟨hZ.m, hZ⟩
    clear hr hZ H10
    refine rest_set (d := 3) (v := v11) (w' := w11) rfl rfl rfl rfl ?_
    simp only [Act.put, sa, sz, ss]
    refine rest_nil (block_normal (then_normal ?_))
    refine walk_seqA 2 [.quiet (.int .i64 ((k : Nat) : Int)), .quiet (.int .i64 ((k + 1 : Nat) : Int))] (sB H11) ?ho7 ?he7
    case ho7 => exact ak (fun _ => ⟨rfl, fun _ _ => rfl⟩) (ak (by refine fun γ => ⟨rfl, fun w' h => ?_⟩; clear h; go_simp; rw [IntKind.wrap_i64]; omega) trivial)
    intro γ w12 l hM hl
    have M12 : Mm w12 [(γ1_0, ints .u8 (fun _ => 0) 32)] := H11.out.1.grow hM (Nat.le_refl _) hl [] rfl (by decide)
    have B12 : Zo w γb [(γ1_0, ints .u8 (fun _ => 0) 32)] v11 (jn P k + 8 + (P k).n) (ct (ct (jf P k) (jn P k) (b8 (c64 (P k).n))) (jn P k + 8) (P k).f) w12 := Zo.step H11.out.2 (hM.below)
    clear hM hl l H11
    clear γ
    have H12 : Hid (_ ∧ _) := ⟨M12, B12⟩
    clear M12 B12
    refine rest_at (l := [2]) rfl ?_
    refine rest_set (d := 4) (v := .int .i64 ((k + 1 : Nat) : Int)) (w' := w12) rfl rfl rfl rfl ?_
    simp only [Act.put, sa, sz, ss]
    refine rest_nil (then_normal ?_)
    exact ⟨k + 1, ⟨(slotfn [undef, undef, undef, v11, undef, .int .i64 ((k : Nat) : Int), .slice pl m c2, .int .i64 ((m : Nat) : Int), .bool true, .int .i64 ((k : Nat) : Int), .int .i64 ((k + 1 : Nat) : Int), s0 3, .slice pl m c2, .int .i64 ((k : Nat) : Int), PT g2 (o2 + k), .slice (P k).p (P k).n (P k).cp, .int .i64 (((P k).n : Nat) : Int), U (c64 ((P k).n)), .slice (some ⟨g8, 0, none⟩) 8 cap8, v9, v9, .slice pl m c2, .int .i64 ((k : Nat) : Int), PT g2 (o2 + k), .slice (P k).p (P k).n (P k).cp, v11]), rfl, ⟨H12.out.1, H12.out.2⟩, by omega⟩, by omega⟩
  have hkm : m = k := by omega
  subst hkm
  refine wp_seq (wp_seq ?_)
  refine walk_seqA 4 [.quiet (.int .i64 ((m : Nat) : Int)), .quiet (.slice pl m c2), .quiet (.int .i64 ((m : Nat) : Int)), .quiet (.bool false)] (sB H5) ?ho8 ?he8
  case ho8 => exact ak (fun _ => ⟨rfl, fun _ _ => rfl⟩) (ak (fun _ => ⟨rfl, fun _ _ => rfl⟩) (ak (by refine fun γ => ⟨rfl, fun w' h => ?_⟩; clear h; go_simp) (ak (by refine fun γ => ⟨rfl, fun w' h => ?_⟩; clear h; go_simp <;> omega) trivial)))
  intro γ w13 l hM hl
  have M13 : Mm w13 [(γ1_0, ints .u8 (fun _ => 0) 32)] := H5.out.1.grow hM (Nat.le_refl _) hl [] rfl (by decide)
  have B13 : Zo w γb [(γ1_0, ints .u8 (fun _ => 0) 32)] (s0 3) (jn P m) (jf P m) w13 := Zo.step H5.out.2 (hM.below)
  clear hM hl l H5
  clear γ
  have H13 : Hid (_ ∧ _) := ⟨M13, B13⟩
  clear M13 B13
  refine rest0 rfl (then_normal (wp_cond_false rfl ?_))
  refine wp_exit ?_
  repeat refine then_exit ?_
  refine block_exit ?_
  refine then_normal (wp_seq ?_)
  have HD : Hid (Dv (s0 3) (jn P m) (jf P m) w13) := H13.out.2.doc
  have H14 : Hid (Mm w13 [(γ1_0, ints .u8 (fun _ => 0) 32)] ∧ Below w.heap.size w w13) := ⟨H13.out.2.m, H13.out.2.b⟩
  clear H13
  refine (walk_seq) 2 [.quiet (s0 3), .call (.agg (ints .u8 (ds (jf P m) (jn P m)) 32).toArray)] (fun u' => Mm u' [(γ1_0, ints .u8 (fun _ => 0) 32)] ∧ (Dv (s0 3) (jn P m) (jf P m) u')) ?pre9 ?F9 ?hpre9 (fun γ => ?hF9) (by kernel_rfl) ?hL9 ?hS9 ?ho9 ?he9
  case hpre9 => simp only [tk, tz]; rfl
  case hF9 => simp only [fill, Kind.val, Act.put, sa, sz, ss]; rfl
  case hL9 => exact trivial
  case hS9 => exact fun w' hb => ⟨H14.out.1.below hb, HD.out.below hb⟩
  case ho9 =>
    refine ak (fun _ => ⟨rfl, fun _ _ => rfl⟩) ?_
    refine ak (fun γ => ⟨rfl, fun w' hX => ⟨11, #[s0 3], exec_call rfl call11 rfl (mpn rfl), dSum_any (jf P m) (jn P m) hjm.out (s0 3) w' hX.2⟩⟩) ?_
    exact trivial
  intro γ w15 l hM hl
  have H15 := keepB H14 hM.below
  clear hM hl l H14 γ
  refine rest_at (l := [2]) rfl ?_
  refine rest_store rfl rfl rfl (ex_storeT (vs := ints .u8 (ds (jf P m) (jn P m)) 32) H15.out.1 0 rfl rfl rfl rfl (by rw [ints_len]; exact Tryd.sizeOf25) (ints_all _ _ _) (by simp [ints_len])) ?_
  have H16 : Hid (Mm (w15.setCells γ1_0 0 (ints .u8 (ds (jf P m) (jn P m)) 32)) [(γ1_0, ints .u8 (ds (jf P m) (jn P m)) 32)] ∧ Below w.heap.size w (w15.setCells γ1_0 0 (ints .u8 (ds (jf P m) (jn P m)) 32))) := ⟨by
    have h := H15.out.1.put 0 (off := 0) (vs := ints .u8 (ds (jf P m) (jn P m)) 32) rfl (by simp [ints_len])
    rw [ints_patch0 _ _ _ _] at h
    exact h, below_setCells _ o1_0.out _ _ _ H15.out.2⟩
  clear H15
  generalize hgw : World.setCells _ _ _ _ = w16 at H16 ⊢
  clear hgw
  refine rest_nil (then_normal (wp_ret ?_))
  repeat (first | refine then_ret ?_ | refine block_ret ?_)
  have hf0 := var_T H16.out.1 0 rfl Tryd.isAgg25 Tryd.sizeOf25 (ints_len _ _ _)
  refine bodyPost_ret (v := .agg (ints .u8 (ds (jf P m) (jn P m)) 32).toArray) (by simp [results, Tryd.results17, asAddr, hf0]) rfl ?_
  exact ⟨rfl, H16.out.2⟩
end Rg
end Go.Proofs.YtfboipfpnkngdaaDoor
end
section
namespace Go.Proofs.YtfboipfpnkngdaaDoor
open Go.RowKit
namespace Rg
theorem hby_congr {f f' : Nat → Nat} (q : Hq) : ∀ n, (∀ j, j < n → f j = f' j) → hby f q n = hby f' q n
  | 0, _ => rfl
  | n + 1, h => by
    show hone (hby f q n) (f n) = hone (hby f' q n) (f' n)
    rw [hby_congr q n fun j hj => h j (by omega), h n (by omega)]
theorem jq_jf (P : Nat → Pt8) : ∀ k, jq P k = hby (jf P k) ⟨fT, fun _ => 0, 0⟩ (jn P k)
  | 0 => rfl
  | k + 1 => by
    show hby (P k).f (hby (e8 (c64 (P k).n) 8) (jq P k) 8) (P k).n = hby (ct (ct (jf P k) (jn P k) (b8 (c64 (P k).n))) (jn P k + 8) (P k).f) ⟨fT, fun _ => 0, 0⟩ (jn P k + 8 + (P k).n)
    rw [hby_add _ _ (jn P k + 8), hby_add _ _ (jn P k) 8, jq_jf P k]
    have e1 : hby (ct (ct (jf P k) (jn P k) (b8 (c64 (P k).n))) (jn P k + 8) (P k).f) ⟨fT, fun _ => 0, 0⟩ (jn P k) = hby (jf P k) ⟨fT, fun _ => 0, 0⟩ (jn P k) :=
      hby_congr _ _ fun j hj => by unfold ct; rw [if_pos (by omega), if_pos hj]
    rw [e1]
    generalize hby (jf P k) ⟨fT, fun _ => 0, 0⟩ (jn P k) = q
    have e2 : hby (fun j => ct (ct (jf P k) (jn P k) (b8 (c64 (P k).n))) (jn P k + 8) (P k).f (jn P k + j)) q 8 = hby (e8 (c64 (P k).n) 8) q 8 :=
      hby_congr _ _ fun j hj => by unfold ct; rw [if_pos (by omega), if_neg (by omega), e8_get, if_pos hj, show jn P k + j - jn P k = j by omega]
    rw [e2]
    exact (hby_congr _ _ fun j hj => by unfold ct; rw [if_neg (by omega), show jn P k + 8 + j - (jn P k + 8) = j by omega]).symm
theorem jf_lt (P : Nat → Pt8) (h : ∀ i j, (P i).f j < 256) : ∀ k j, jf P k j < 256
  | 0, _ => by show (0 : Nat) < 256; decide
  | k + 1, j => by
    show ct (ct (jf P k) (jn P k) (b8 (c64 (P k).n))) (jn P k + 8) (P k).f j < 256
    unfold ct
    split
    · split
      · exact jf_lt P h k j
      · exact Nat.mod_lt _ (by decide)
    · exact h k _
theorem jq_congr {P P' : Nat → Pt8} : ∀ m, (∀ i, i < m → (P i).n = (P' i).n ∧ ∀ j, j < (P i).n → (P i).f j = (P' i).f j) → jq P m = jq P' m
  | 0, _ => rfl
  | m + 1, h => by
    show hby (P m).f (hby (e8 (c64 (P m).n) 8) (jq P m) 8) (P m).n = hby (P' m).f (hby (e8 (c64 (P' m).n) 8) (jq P' m) 8) (P' m).n
    have hm := h m (by omega)
    rw [jq_congr m fun i hi => h i (by omega), ← hm.1]
    exact hby_congr _ _ hm.2
theorem jq_c (P : Nat → Pt8) (k : Nat) : (jq P k).c = jn P k := by rw [jq_jf, hby_c]; exact Nat.zero_add _
/-- What the program joins parts to is the document's digest of them. -/
theorem join_eq {P P' : Nat → Pt8} (m : Nat) (h : ∀ i, i < m → (P i).n = (P' i).n ∧ ∀ j, j < (P i).n → (P i).f j = (P' i).f j) (hf : ∀ i j, (P' i).f j < 256) (hn : jn P' m ≤ 1048576) (j : Nat) (hj : j < 32) :
    fz (jq P m).s (jq P m).r (jq P m).c j = ds (jf P' m) (jn P' m) j := by
  rw [jq_congr m h, jq_jf P' m]
  exact dg0_ds (jf P' m) (jf_lt P' hf m) (jn P' m) hn j hj
end Rg
end Go.Proofs.YtfboipfpnkngdaaDoor
end
section
namespace Go.Proofs.YtfboipfpnkngdaaDoor
open Go.RowKit
namespace Rg
set_option maxRecDepth 100000
/-- A part as it was given: its bytes, its room, where it lies. -/
structure Px where
  xs : List Int
  c : Nat
  p : Option Addr
/-- The list that was given. -/
def Lx (pl : Option Addr) (X : Nat → Px) (m : Nat) (w : World) : Prop := ∀ g o, pl = some ⟨g, o, none⟩ → ∀ i, i < m → g < w.heap.size ∧ w.cell? ⟨g, o + i, none⟩ = some (.slice (X i).p (X i).xs.length (X i).c) ∧ BSl w (X i).xs (X i).c (.slice (X i).p (X i).xs.length (X i).c)
/-- The list that is lent: each part has its own block G i. -/
def Lk (pl : Option Addr) (G : Nat → Nat) (X : Nat → Px) (m : Nat) (w : World) : Prop := ∀ g o, pl = some ⟨g, o, none⟩ → ∀ i, i < m → g < w.heap.size ∧ w.cell? ⟨g, o + i, none⟩ = some (.slice (some ⟨G i, 0, none⟩) (X i).xs.length ((X i).xs.length + 3)) ∧ G i < w.heap.size ∧ Row8 w (G i) ((X i).xs.length + 3) (lent (X i).xs)
theorem Lx.below {pl : Option Addr} {X : Nat → Px} {m : Nat} {w w' : World} (h : Lx pl X m w) (hb : Below w.heap.size w w') : Lx pl X m w' := fun g o e i hi => by
  obtain ⟨h1, h2, h3⟩ := h g o e i hi
  exact ⟨Nat.lt_of_lt_of_le h1 hb.size, by rw [hb.cell h1]; exact h2, h3.below hb⟩
theorem Lk.below {pl : Option Addr} {G : Nat → Nat} {X : Nat → Px} {m : Nat} {w w' : World} (h : Lk pl G X m w) (hb : Below w.heap.size w w') : Lk pl G X m w' := fun g o e i hi => by
  obtain ⟨h1, h2, h3, h4⟩ := h g o e i hi
  exact ⟨Nat.lt_of_lt_of_le h1 hb.size, by rw [hb.cell h1]; exact h2, Nat.lt_of_lt_of_le h3 hb.size, h4.below hb h3⟩
section
variable {ρ : Operand → Value} {o : Oper} {x : Operand} {g off m j : Nat} {w : World} {p : Option Addr} {X : Nat → Px} {G : Nat → Nat}
theorem ex_ldX (h : Lx p X m w) (he : p = some ⟨g, off, none⟩) (hk : j < m) (ho : o.op = .load 22 x) (hx : ρ x = PT g (off + j)) : (execOp ρ o).run Tryd.prog w = .ok (.value (.slice (X j).p (X j).xs.length (X j).c)) w := by
  have c0 := (h g off he j hk).2.1
  have ha : ∀ w, (isAgg 22).run Tryd.prog w = .ok false w := Tryd.isAgg22
  clear h
  simp only [execOp, ho, hx]
  go_simp
theorem ex_ldK (h : Lk p G X m w) (he : p = some ⟨g, off, none⟩) (hk : j < m) (ho : o.op = .load 22 x) (hx : ρ x = PT g (off + j)) : (execOp ρ o).run Tryd.prog w = .ok (.value (.slice (some ⟨G j, 0, none⟩) (X j).xs.length ((X j).xs.length + 3))) w := by
  have c0 := (h g off he j hk).2.1
  have ha : ∀ w, (isAgg 22).run Tryd.prog w = .ok false w := Tryd.isAgg22
  clear h
  simp only [execOp, ho, hx]
  go_simp
end
set_option maxHeartbeats 4000000 in
set_option maxRecDepth 100000 in
theorem keptL_any (pl1 pl2 : Option Addr) (G : Nat → Nat) (X : Nat → Px) (m c1 c2 : Nat) (hml : m ≤ 1048576) (hp10 : 0 < m → ∃ g o, pl1 = some ⟨g, o, none⟩) (hp20 : 0 < m → ∃ g o, pl2 = some ⟨g, o, none⟩) (hl0 : ∀ i, i < m → (X i).xs.length ≤ 1048576) (w : World) (hK : Lk pl1 G X m w) (hL : Lx pl2 X m w) :
    Calls Tryd.prog 18 #[.slice pl1 m c1, .slice pl2 m c2] w fun e w' => e = .returned (.bool true) ∧ Below w.heap.size w w' := by
  have H0 : Hid (_ ∧ _) := ⟨Mm.nil w, Below.refl w.heap.size w⟩
  have hp1 : Hid _ := hp10
  have hp2 : Hid _ := hp20
  have hl : Hid _ := hl0
  have LK : Hid (Lk pl1 G X m w) := hK
  have LX : Hid (Lx pl2 X m w) := hL
  clear hp10 hp20 hl0 hK hL
  go_enter Tryd.func18, Tryd.ntmps18
  refine wp_seq ?_
  refine walk_seqB 1 [.quiet (.bool false)] H0 ?ho1 ?he1
  case ho1 => exact ak (fun _ => ⟨rfl, fun _ _ => rfl⟩) trivial
  intro _ w1 H1
  refine rest0 rfl (then_normal (wp_seq (wp_seq ?_)))
  refine walk_seqB 1 [.quiet (.int .i64 0)] H1 ?ho2 ?he2
  case ho2 => exact ak (fun _ => ⟨rfl, fun _ _ => rfl⟩) trivial
  intro _ w2 H2
  clear H1
  refine rest0 rfl (then_normal (wp_block ?_))
  refine loop_ghost (α := Nat) (fun k a' w' => ∃ s0 : Nat → Value, a' = ⟨#[.slice pl1 m c1, .slice pl2 m c2, undef, undef, s0 4, .int .i64 ((k : Nat) : Int), s0 6, s0 7, s0 8, s0 9, s0 10, s0 11, s0 12, s0 13, s0 14, s0 15, s0 16, s0 17, s0 18, s0 19, s0 20, s0 21, undef, undef, undef, undef, undef], []⟩ ∧ (Mm w' [] ∧ Below w.heap.size w w') ∧ k ≤ m) (fun k => m - k) 0 ?st0 ?rd0
  case st0 => exact ⟨(slotfn [undef, undef, undef, undef, .bool false, undef, undef, undef, undef, undef, undef, undef, undef, undef, undef, undef, undef, undef, undef, undef, undef, undef]), rfl, ⟨H2.out.1, H2.out.2⟩, by omega⟩
  intro k a' w3 hI
  obtain ⟨s0, rfl, hMB, hk0⟩ := hI
  have H3 : Hid (_ ∧ _) := hMB
  clear hMB H2
  by_cases hlt : k < m
  · have hrd : True := trivial
    clear hrd
    obtain ⟨g1, o1, e1⟩ := hp1.out (by omega)
    have E1 : Hid (pl1 = some ⟨g1, o1, none⟩) := e1
    clear e1
    obtain ⟨g2, o2, e2⟩ := hp2.out (by omega)
    have E2 : Hid (pl2 = some ⟨g2, o2, none⟩) := e2
    clear e2
    refine wp_seq (wp_seq ?_)
    refine walk_seqB 4 [.quiet (.int .i64 ((k : Nat) : Int)), .quiet (.slice pl2 m c2), .quiet (.int .i64 ((m : Nat) : Int)), .quiet (.bool true)] H3 ?ho3 ?he3
    case ho3 => exact ak (fun _ => ⟨rfl, fun _ _ => rfl⟩) (ak (fun _ => ⟨rfl, fun _ _ => rfl⟩) (ak (by refine fun γ => ⟨rfl, fun w' h => ?_⟩; clear h; go_simp) (ak (by refine fun γ => ⟨rfl, fun w' h => ?_⟩; clear h; go_simp <;> omega) trivial)))
    intro _ w4 H4
    clear H3
    refine rest0 rfl (then_normal (wp_cond_true rfl ?_))
    refine wp_skip (then_normal ?_)
    refine wp_seq (wp_block (wp_seq ?_))
    refine (walk_any) (by kernel_rfl) 10 [.quiet (.slice pl1 m c1), .quiet (.int .i64 ((k : Nat) : Int)), .quiet (PT g1 (o1 + k)), .quiet (.slice (some ⟨(G k), 0, none⟩) ((X k).xs.length) ((X k).xs.length + 3)), .quiet (.slice pl2 m c2), .quiet (.int .i64 ((k : Nat) : Int)), .quiet (PT g2 (o2 + k)), .quiet (.slice (X k).p (X k).xs.length (X k).c), .call (.bool true), .quiet (.bool false)] (fun u' => Mm u' [] ∧ (Lk pl1 G X m u' ∧ Lx pl2 X m u')) ?pre4 ?F4 ?hpre4 (fun γ => ?hF4) (by kernel_rfl) ?hL4 ?hS4 ?ho4 ?he4
    case hpre4 => simp only [tk, tz]; rfl
    case hF4 => simp only [fill, Kind.val, Act.put, sa, sz, ss]; rfl
    case hL4 => exact trivial
    case hS4 => exact fun w' hb => ⟨H4.out.1.below hb, ⟨LK.out.below (H4.out.2.trans (hb.mono H4.out.2.size)), LX.out.below (H4.out.2.trans (hb.mono H4.out.2.size))⟩⟩
    case ho4 =>
      refine ak (fun _ => ⟨rfl, fun _ _ => rfl⟩) ?_
      refine ak (fun _ => ⟨rfl, fun _ _ => rfl⟩) ?_
      refine ak (fun γ => ⟨rfl, fun w' _ => ex_ixP29 (j := k) E1.out rfl rfl rfl (by omega)⟩) ?_
      refine ak (fun γ => ⟨rfl, fun w' hX => ex_ldK (j := k) hX.2.1 E1.out (by omega) rfl rfl⟩) ?_
      refine ak (fun _ => ⟨rfl, fun _ _ => rfl⟩) ?_
      refine ak (fun _ => ⟨rfl, fun _ _ => rfl⟩) ?_
      refine ak (fun γ => ⟨rfl, fun w' _ => ex_ixP29 (j := k) E2.out rfl rfl rfl (by omega)⟩) ?_
      refine ak (fun γ => ⟨rfl, fun w' hX => ex_ldX (j := k) hX.2.2 E2.out (by omega) rfl rfl⟩) ?_
      refine ak (fun γ => ⟨rfl, fun w' hX => ⟨12, #[.slice (some ⟨(G k), 0, none⟩) ((X k).xs.length) ((X k).xs.length + 3), .slice (X k).p (X k).xs.length (X k).c], exec_call rfl call12 rfl (mpn rfl), kept_any (X k).xs (G k) (X k).c _ (hl.out k hlt) w' (hX.2.1 g1 o1 E1.out k hlt).2.2.1 (hX.2.1 g1 o1 E1.out k hlt).2.2.2 (hX.2.2 g2 o2 E2.out k hlt).2.2⟩⟩) ?_
      refine ak (by refine fun γ => ⟨rfl, fun w' h => ?_⟩; clear h; go_simp) ?_
      exact trivial
    intro γ w5 l hM hl
    have H5 := keepB H4 hM.below
    clear hM hl l H4 γ
    refine rest0 rfl (then_normal (wp_cond_false rfl ?_))
    refine wp_skip (block_normal (then_normal ?_))
    refine walk_seqB 2 [.quiet (.int .i64 ((k : Nat) : Int)), .quiet (.int .i64 ((k + 1 : Nat) : Int))] H5 ?ho5 ?he5
    case ho5 => exact ak (fun _ => ⟨rfl, fun _ _ => rfl⟩) (ak (by refine fun γ => ⟨rfl, fun w' h => ?_⟩; clear h; go_simp; rw [IntKind.wrap_i64]; omega) trivial)
    intro _ w6 H6
    clear H5
    refine rest_at (l := [2]) rfl ?_
    refine rest_set (d := 5) rfl rfl rfl rfl ?_
    simp only [Act.put, sa, sz, ss]
    refine rest_nil (then_normal ?_)
    exact ⟨k + 1, ⟨(slotfn [undef, undef, undef, undef, s0 4, undef, .int .i64 ((k : Nat) : Int), .slice pl2 m c2, .int .i64 ((m : Nat) : Int), .bool true, .int .i64 ((k : Nat) : Int), .int .i64 ((k + 1 : Nat) : Int), .slice pl1 m c1, .int .i64 ((k : Nat) : Int), PT g1 (o1 + k), .slice (some ⟨(G k), 0, none⟩) ((X k).xs.length) ((X k).xs.length + 3), .slice pl2 m c2, .int .i64 ((k : Nat) : Int), PT g2 (o2 + k), .slice (X k).p (X k).xs.length (X k).c, .bool true, .bool false]), rfl, ⟨H6.out.1, H6.out.2⟩, by omega⟩, by omega⟩
  have hkm : m = k := by omega
  subst hkm
  refine wp_seq (wp_seq ?_)
  refine walk_seqB 4 [.quiet (.int .i64 ((m : Nat) : Int)), .quiet (.slice pl2 m c2), .quiet (.int .i64 ((m : Nat) : Int)), .quiet (.bool false)] H3 ?ho6 ?he6
  case ho6 => exact ak (fun _ => ⟨rfl, fun _ _ => rfl⟩) (ak (fun _ => ⟨rfl, fun _ _ => rfl⟩) (ak (by refine fun γ => ⟨rfl, fun w' h => ?_⟩; clear h; go_simp) (ak (by refine fun γ => ⟨rfl, fun w' h => ?_⟩; clear h; go_simp <;> omega) trivial)))
  intro _ w7 H7
  clear H3
  refine rest0 rfl (then_normal (wp_cond_false rfl ?_))
  refine wp_exit ?_
  repeat refine then_exit ?_
  refine block_exit ?_
  refine then_normal (wp_seq ?_)
  refine walk_seqB 6 [.quiet (.slice pl1 m c1), .quiet (.int .i64 ((m : Nat) : Int)), .quiet (.slice pl2 m c2), .quiet (.int .i64 ((m : Nat) : Int)), .quiet (.bool true), .quiet (.bool true)] H7 ?ho7 ?he7
  case ho7 => exact ak (fun _ => ⟨rfl, fun _ _ => rfl⟩) (ak (by refine fun γ => ⟨rfl, fun w' h => ?_⟩; clear h; go_simp) (ak (fun _ => ⟨rfl, fun _ _ => rfl⟩) (ak (by refine fun γ => ⟨rfl, fun w' h => ?_⟩; clear h; go_simp) (ak (by refine fun γ => ⟨rfl, fun w' h => ?_⟩; clear h; go_simp <;> omega) (ak (fun _ => ⟨rfl, fun _ _ => rfl⟩) trivial)))))
  intro _ w8 H8
  clear H7
  refine rest0 rfl (then_normal (wp_ret ?_))
  repeat (first | refine then_ret ?_ | refine block_ret ?_)
  refine bodyPost_ret (v := .bool true) (by simp [results, Tryd.results18, go_sem, *]) rfl ?_
  exact ⟨rfl, H8.out.2⟩
end Rg
end Go.Proofs.YtfboipfpnkngdaaDoor
end
section
namespace Go.Proofs.YtfboipfpnkngdaaDoor
open Go.RowKit
namespace Rg
theorem info_part : ∃ i, Tryd.prog.info? 22 = some i ∧ i.zero = some (.slice none 0 0) ∧ i.size = 1 ∧ i.bytes = 24 := by
  have h : (Tryd.prog.info? 22).map (fun i => (i.zero, i.size, i.bytes)) = some (some (.slice none 0 0), 1, 24) := by kernel_rfl
  cases hi : Tryd.prog.info? 22 with
  | none => rw [hi] at h; simp at h
  | some i =>
    rw [hi] at h
    simp at h
    exact ⟨i, rfl, h.1, h.2.1, h.2.2⟩
theorem under29 : Tryd.prog.underlying 29 = some (.slice 22) := by kernel_rfl
/-- A part that is lent, as it lies in the list. -/
def pv (G : Nat → Nat) (X : Nat → Px) (i : Nat) : Value := .slice (some ⟨G i, 0, none⟩) (X i).xs.length ((X i).xs.length + 3)
/-- A list of the call's own: k parts that are lent. -/
structure Zl (w : World) (B : Nat) (X : Nat → Px) (vv : Value) (k : Nat) (G : Nat → Nat) (w' : World) : Prop where
  b : Below w.heap.size w w'
  lo : w.heap.size ≤ B
  hi : B ≤ w'.heap.size
  own : w'.ownsRow B 22 1 vv k ((List.range k).map (pv G X))
  at_ : ∀ i, i < k → G i < w'.heap.size ∧ Row8 w' (G i) ((X i).xs.length + 3) (lent (X i).xs)
  ne : ∀ i, i < k → some (G i) ≠ vv.ownBlock
theorem Zl.nil (X : Nat → Px) (G : Nat → Nat) (w : World) : Zl w w.heap.size X (.slice none 0 0) 0 G w :=
  ⟨Below.refl _ _, Nat.le_refl _, Nat.le_refl _, World.ownsRow_nil _ _ _ _, fun i hi => absurd hi (by omega), fun i hi => absurd hi (by omega)⟩
section
variable {w w1 w2 : World} {B k : Nat} {X : Nat → Px} {vv : Value} {G : Nat → Nat}
theorem Zl.step (h : Zl w B X vv k G w1) (hb : Below w1.heap.size w1 w2) : Zl w B X vv k G w2 := by
  refine ⟨h.b.trans (hb.mono h.b.size), h.lo, Nat.le_trans h.hi hb.size, ⟨h.own.1, ?_⟩, fun i hi => ⟨Nat.lt_of_lt_of_le (h.at_ i hi).1 hb.size, (h.at_ i hi).2.below hb (h.at_ i hi).1⟩, h.ne⟩
  rcases h.own.2 with ⟨h1, h2⟩ | ⟨g, cap, cur, h1, h2, h3, h4⟩
  · exact .inl ⟨h1, h2⟩
  · refine .inr ⟨g, cap, cur, h1, h2, ?_, h4⟩
    rw [hb.block g (Array.getElem?_eq_some_iff.1 h3).1]
    exact h3
def upG (G : Nat → Nat) (k g : Nat) : Nat → Nat := fun i => if i = k then g else G i
theorem Zl.app (h : Zl w B X vv k G w1) {gs g9 c : Nat} (hs : w1.cell? ⟨gs, 0, none⟩ = some (.slice (some ⟨g9, 0, none⟩) (X k).xs.length ((X k).xs.length + 3))) (hg : g9 < w1.heap.size) (hr : Row8 w1 g9 ((X k).xs.length + 3) (lent (X k).xs)) (hne : some g9 ≠ vv.ownBlock) (hb : k + 1 ≤ 2097152) (ty : TypeId) :
    ∃ v' w2, (Builtin.append_ #[29, 29] ty #[vv, .slice (some ⟨gs, 0, none⟩) 1 c]).run Tryd.prog w1 = .ok v' w2 ∧ Zl w B X v' (k + 1) (upG G k g9) w2 := by
  obtain ⟨i0, hi, hz0, hz1, hz2⟩ := info_part
  obtain ⟨v', w2, h1, h2, h3, _⟩ := run_append_own (P := Tryd.prog) w1 B 29 ty 22 i0 (.slice none 0 0) 1 24 under29 hi hz0 hz1 hz2 rfl (by decide) vv k _ h.own ⟨gs, 0, none⟩ 1 c [.slice (some ⟨g9, 0, none⟩) (X k).xs.length ((X k).xs.length + 3)] rfl
    (fun j u hj => by
      have hj0 : j = 0 := by
        have := (List.getElem?_eq_some_iff.1 hj).1
        simp at this
        exact this
      subst hj0
      rw [show (⟨gs, 0, none⟩ : Addr).add 0 = ⟨gs, 0, none⟩ by unfold Addr.add; split <;> simp_all, hs]
      exact hj) (fun u hu => by rw [List.mem_singleton.1 hu]; rfl) (by unfold maxLen; omega) (by omega) h.hi
  have hb2 : Below B w1 w2 := (Below.refl _ _).grown h3 h.hi (fun k hk => (World.ownsRow.lt h.own k hk).1)
  have hrow : (List.range k).map (pv G X) ++ [.slice (some ⟨g9, 0, none⟩) (X k).xs.length ((X k).xs.length + 3)] = (List.range (k + 1)).map (pv (upG G k g9) X) := by
    rw [List.range_succ, List.map_append, List.map_singleton]
    congr 1
    · refine List.map_congr_left fun i hi => ?_
      have : i < k := List.mem_range.1 hi
      unfold pv upG
      rw [if_neg (by omega)]
    · unfold pv upG
      rw [if_pos rfl]
  rw [hrow] at h2
  have hat : ∀ i, i < k + 1 → upG G k g9 i < w2.heap.size ∧ Row8 w2 (upG G k g9 i) ((X i).xs.length + 3) (lent (X i).xs) := by
    intro i hi
    unfold upG
    by_cases e : i = k
    · rw [if_pos e, e]
      have hblk := h3.block g9 hg hne
      exact ⟨Nat.lt_of_lt_of_le hg hb2.size, fun j hj => by rw [World.cell?_of_block (a := ⟨g9, j, none⟩) hblk, World.frozen?_of_block (a := ⟨g9, j, none⟩) hblk]; exact hr j hj⟩
    · rw [if_neg e]
      have hi' : i < k := by omega
      have hblk := h3.block (G i) (h.at_ i hi').1 (h.ne i hi')
      exact ⟨Nat.lt_of_lt_of_le (h.at_ i hi').1 hb2.size, fun j hj => by rw [World.cell?_of_block (a := ⟨G i, j, none⟩) hblk, World.frozen?_of_block (a := ⟨G i, j, none⟩) hblk]; exact (h.at_ i hi').2 j hj⟩
  refine ⟨v', w2, h1, h.b.trans (hb2.mono h.lo), h.lo, Nat.le_trans h.hi hb2.size, h2, hat, fun i hi e => ?_⟩
  have c0 := World.ownsRow.cells h2 e.symm 0 (pv (upG G k g9) X 0) (by rw [List.getElem?_map, List.getElem?_range (by omega)]; rfl)
  rw [show (⟨upG G k g9 i, 0, none⟩ : Addr).add 0 = ⟨upG G k g9 i, 0, none⟩ by unfold Addr.add; split <;> simp_all] at c0
  have c1 := ((hat i hi).2 0 (by omega)).1
  rw [c0] at c1
  unfold pv at c1
  simp at c1
/-- The list as it is told. -/
theorem Zl.lk (h : Zl w B X vv k G w1) : ∃ pl c, vv = .slice pl k c ∧ (0 < k → ∃ g o, pl = some ⟨g, o, none⟩) ∧ Lk pl G X k w1 := by
  rcases h.own.2 with ⟨h1, h2⟩ | ⟨g, cap, cur, h1, h2, h3, h4⟩
  · subst h2
    exact ⟨none, 0, h1, fun h => absurd h (by omega), fun g o e => by cases e⟩
  · refine ⟨some ⟨g, 0, none⟩, cap, h1, fun _ => ⟨g, 0, rfl⟩, fun g' o' e i hi => ?_⟩
    injection e with e
    injection e with e1 e2
    subst e1 e2
    have c0 := World.ownsRow.cells h.own (g := g) (by rw [h1]; rfl) i (pv G X i) (by rw [List.getElem?_map, List.getElem?_range hi]; rfl)
    rw [show (⟨g, 0, none⟩ : Addr).add i = ⟨g, 0 + i, none⟩ by unfold Addr.add; split <;> simp_all] at c0
    exact ⟨(Array.getElem?_eq_some_iff.1 h3).1, c0, (h.at_ i hi).1, (h.at_ i hi).2⟩
end
end Rg
end Go.Proofs.YtfboipfpnkngdaaDoor
end
section
namespace Go.Proofs.YtfboipfpnkngdaaDoor
open Go.RowKit
namespace Rg
set_option maxRecDepth 100000
def ZL (w : World) (B : Nat) (X : Nat → Px) (vv : Value) (k : Nat) (w' : World) : Prop := ∃ G, Zl w B X vv k G w'
section
variable {w w1 w2 : World} {B k : Nat} {X : Nat → Px} {vv : Value}
theorem ZL.nil (X : Nat → Px) (w : World) : ZL w w.heap.size X (.slice none 0 0) 0 w := ⟨fun _ => 0, Zl.nil X _ w⟩
theorem ZL.b (h : ZL w B X vv k w1) : Below w.heap.size w w1 := let ⟨_, h⟩ := h; h.b
theorem ZL.step (h : ZL w B X vv k w1) (hb : Below w1.heap.size w1 w2) : ZL w B X vv k w2 := let ⟨G, h⟩ := h; ⟨G, h.step hb⟩
theorem ZL.fresh (h : ZL w B X vv k w1) : some w1.heap.size ≠ vv.ownBlock := fun e => by
  obtain ⟨G, h⟩ := h
  have := (World.ownsRow.lt h.own _ e.symm).2
  omega
theorem ZL.app (h : ZL w B X vv k w1) {gs g9 c : Nat} (hs : w1.cell? ⟨gs, 0, none⟩ = some (.slice (some ⟨g9, 0, none⟩) (X k).xs.length ((X k).xs.length + 3))) (hg : g9 < w1.heap.size) (hr : Row8 w1 g9 ((X k).xs.length + 3) (lent (X k).xs)) (hne : some g9 ≠ vv.ownBlock) (hb : k + 1 ≤ 2097152) (ty : TypeId) :
    ∃ v' w2, (Builtin.append_ #[29, 29] ty #[vv, .slice (some ⟨gs, 0, none⟩) 1 c]).run Tryd.prog w1 = .ok v' w2 ∧ ZL w B X v' (k + 1) w2 := by
  obtain ⟨G, h⟩ := h
  obtain ⟨v', w2, h1, h2⟩ := h.app hs hg hr hne hb ty
  exact ⟨v', w2, h1, _, h2⟩
end
section
variable {ρ : Operand → Value} {o : Oper} {x y : Operand} {v' vv sv : Value} {w w2 : World}
theorem ex_bsP {p : Option Addr} {n c : Nat} (ho : o.op = .buildSlice 29 1 #[(0, x)]) (hx : ρ x = .slice p n c) : (execOp ρ o).run Tryd.prog w = .ok (.value (.slice (some ⟨w.heap.size, 0, none⟩) 1 1)) (w.alloc (.cells ([.slice p n c] : List Value).toArray 22)) := by
  simp only [execOp, ho, List.map_toArray, List.map_cons, List.map_nil, hx]
  kernel_rfl
theorem ex_appL (ho : o.op = .call { callee := .builtin .append, args := #[x, y], argTypes := #[29, 29] }) (hx : ρ x = vv) (hy : ρ y = sv) (hr : (Builtin.append_ #[29, 29] o.type #[vv, sv]).run Tryd.prog w = .ok v' w2) : (execOp ρ o).run Tryd.prog w = .ok (.value v') w2 := by
  unfold execOp
  simp only [ho, resolve, invoke, builtin, Sem.run_bind, Sem.run_pure, Result.andThen_ok, List.map_toArray, List.map_cons, List.map_nil, hx, hy, hr]
end
theorem cell_part (w : World) (v : Value) : (w.alloc (.cells ([v] : List Value).toArray 22)).cell? ⟨w.heap.size, 0, none⟩ = some v := by
  rw [World.cell?_alloc_at _ _ _ _ rfl]
  rfl
set_option maxHeartbeats 4000000 in
set_option maxRecDepth 100000 in
theorem lentL_any (pl2 : Option Addr) (X : Nat → Px) (m c2 : Nat) (hml : m ≤ 1048576) (hp20 : 0 < m → ∃ g o, pl2 = some ⟨g, o, none⟩) (hl0 : ∀ i, i < m → (X i).xs.length ≤ 1048576) (w : World) (hL : Lx pl2 X m w) :
    Calls Tryd.prog 13 #[.slice pl2 m c2] w fun e w' => ∃ v, e = .returned v ∧ ZL w w.heap.size X v m w' := by
  have H0 : Hid (_ ∧ _) := ⟨Mm.nil w, ZL.nil X w⟩
  have hp2 : Hid _ := hp20
  have hl : Hid _ := hl0
  have LX : Hid (Lx pl2 X m w) := hL
  clear hp20 hl0 hL
  go_enter Tryd.func13, Tryd.ntmps13
  refine wp_seq ?_
  refine walk_seqA 1 [.quiet (.slice none 0 0)] (sB H0) ?ho1 ?he1
  case ho1 => exact ak (fun _ => ⟨rfl, fun _ _ => rfl⟩) trivial
  intro γ w1 l hM hl
  have M1 : Mm w1 [] := H0.out.1.grow hM (Nat.le_refl _) hl [] rfl (by decide)
  have B1 : ZL w w.heap.size X (.slice none 0 0) 0 w1 := ZL.step H0.out.2 (hM.below)
  clear hM hl l
  clear γ
  have H1 : Hid (_ ∧ _) := ⟨M1, B1⟩
  clear M1 B1
  refine rest0 rfl (then_normal (wp_seq ?_))
  refine walk_seqA 1 [.quiet (.slice none 0 0)] (sB H1) ?ho2 ?he2
  case ho2 => exact ak (fun _ => ⟨rfl, fun _ _ => rfl⟩) trivial
  intro γ w2 l hM hl
  have M2 : Mm w2 [] := H1.out.1.grow hM (Nat.le_refl _) hl [] rfl (by decide)
  have B2 : ZL w w.heap.size X (.slice none 0 0) 0 w2 := ZL.step H1.out.2 (hM.below)
  clear hM hl l H1
  clear γ
  have H2 : Hid (_ ∧ _) := ⟨M2, B2⟩
  clear M2 B2
  refine rest0 rfl (then_normal (wp_seq (wp_seq ?_)))
  refine walk_seqA 1 [.quiet (.int .i64 0)] (sB H2) ?ho3 ?he3
  case ho3 => exact ak (fun _ => ⟨rfl, fun _ _ => rfl⟩) trivial
  intro γ w3 l hM hl
  have M3 : Mm w3 [] := H2.out.1.grow hM (Nat.le_refl _) hl [] rfl (by decide)
  have B3 : ZL w w.heap.size X (.slice none 0 0) 0 w3 := ZL.step H2.out.2 (hM.below)
  clear hM hl l H2
  clear γ
  have H3 : Hid (_ ∧ _) := ⟨M3, B3⟩
  clear M3 B3
  refine rest0 rfl (then_normal (wp_block ?_))
  refine loop_ghost (α := Nat) (fun k a' w' => ∃ s0 : Nat → Value, a' = ⟨#[.slice pl2 m c2, undef, .slice none 0 0, s0 3, .int .i64 ((k : Nat) : Int), s0 5, s0 6, s0 7, s0 8, s0 9, s0 10, s0 11, s0 12, s0 13, s0 14, s0 15, s0 16, s0 17, s0 18, undef], []⟩ ∧ (Mm w' [] ∧ ZL w w.heap.size X (s0 3) k w') ∧ k ≤ m) (fun k => m - k) 0 ?st0 ?rd0
  case st0 => exact ⟨(slotfn [undef, undef, undef, .slice none 0 0, undef, undef, undef, undef, undef, undef, undef, undef, undef, undef, undef, undef, undef, undef, undef]), rfl, ⟨H3.out.1, H3.out.2⟩, by omega⟩
  intro k a' w4 hI
  obtain ⟨s0, rfl, hMB, hk0⟩ := hI
  have H4 : Hid (_ ∧ _) := hMB
  clear hMB H3
  by_cases hlt : k < m
  · have hrd : True := trivial
    clear hrd
    obtain ⟨g2, o2, e2⟩ := hp2.out (by omega)
    have E2 : Hid (pl2 = some ⟨g2, o2, none⟩) := e2
    clear e2
    refine wp_seq (wp_seq ?_)
    refine walk_seqA 4 [.quiet (.int .i64 ((k : Nat) : Int)), .quiet (.slice pl2 m c2), .quiet (.int .i64 ((m : Nat) : Int)), .quiet (.bool true)] (sB H4) ?ho4 ?he4
    case ho4 => exact ak (fun _ => ⟨rfl, fun _ _ => rfl⟩) (ak (fun _ => ⟨rfl, fun _ _ => rfl⟩) (ak (by refine fun γ => ⟨rfl, fun w' h => ?_⟩; clear h; go_simp) (ak (by refine fun γ => ⟨rfl, fun w' h => ?_⟩; clear h; go_simp <;> omega) trivial)))
    intro γ w5 l hM hl
    have M5 : Mm w5 [] := H4.out.1.grow hM (Nat.le_refl _) hl [] rfl (by decide)
    have B5 : ZL w w.heap.size X (s0 3) k w5 := ZL.step H4.out.2 (hM.below)
    clear hM hl l H4
    clear γ
    have H5 : Hid (_ ∧ _) := ⟨M5, B5⟩
    clear M5 B5
    refine rest0 rfl (then_normal (wp_cond_true rfl ?_))
    refine wp_skip (then_normal ?_)
    refine wp_seq (wp_block ?_)
    refine (walk_seq) 5 [.quiet (s0 3), .quiet (.slice pl2 m c2), .quiet (.int .i64 ((k : Nat) : Int)), .quiet (PT g2 (o2 + k)), .quiet (.slice (X k).p (X k).xs.length (X k).c)] (fun u' => Mm u' [] ∧ (Lx pl2 X m u')) ?pre5 ?F5 ?hpre5 (fun γ => ?hF5) (by kernel_rfl) ?hL5 ?hS5 ?ho5 ?he5
    case hpre5 => simp only [tk, tz]; rfl
    case hF5 => simp only [fill, Kind.val, Act.put, sa, sz, ss]; rfl
    case hL5 => exact trivial
    case hS5 => exact fun w' hb => ⟨H5.out.1.below hb, LX.out.below (ZL.step H5.out.2 (hb)).b⟩
    case ho5 =>
      refine ak (fun _ => ⟨rfl, fun _ _ => rfl⟩) ?_
      refine ak (fun _ => ⟨rfl, fun _ _ => rfl⟩) ?_
      refine ak (fun _ => ⟨rfl, fun _ _ => rfl⟩) ?_
      refine ak (fun γ => ⟨rfl, fun w' _ => ex_ixP29 (j := k) E2.out rfl rfl rfl (by omega)⟩) ?_
      refine ak (fun γ => ⟨rfl, fun w' hX => ex_ldX (j := k) hX.2 E2.out (by omega) rfl rfl⟩) ?_
      exact trivial
    intro γ w6 l hM hl
    have M6 : Mm w6 [] := H5.out.1.grow hM (Nat.le_refl _) hl [] rfl (by decide)
    have B6 : ZL w w.heap.size X (s0 3) k w6 := ZL.step H5.out.2 (hM.below)
    clear hM hl l H5
    clear γ
    have H6 : Hid (_ ∧ _) := ⟨M6, B6⟩
    clear M6 B6
    refine rest_at (l := [5, 6, 7, 8]) rfl ?_
    refine rest_enter (d := 16) rfl rfl rfl (exec_call (args := #[.slice (X k).p (X k).xs.length (X k).c]) rfl call9 rfl (mpn rfl)) ((Calls.mono (lent_any (X k).xs (X k).c _ (hl.out k hlt) w6 ((LX.out.below H6.out.2.b) g2 o2 E2.out k hlt).2.2) (fun e w2 hh => ⟨_, hh.1, rfl, hh.2⟩) : Calls Tryd.prog 9 #[.slice (X k).p (X k).xs.length (X k).c] w6 (fun e w' => ∃ v, e = .returned v ∧ (v = .slice (some ⟨w6.heap.size, 0, none⟩) (X k).xs.length ((X k).xs.length + 3) ∧ w6.heap.size < w'.heap.size ∧ Row8 w' w6.heap.size ((X k).xs.length + 3) (lent (X k).xs) ∧ Below w6.heap.size w6 w')))) ?_
    rintro _ w7 ⟨rfl, hl9, hR9, hb⟩
    have N9 : Hid _ := ZL.fresh H6.out.2
    have H7 : Hid (Mm w7 [] ∧ ZL w w.heap.size X (s0 3) k w7) := ⟨Mm.nil _, ZL.step H6.out.2 hb⟩
    have R9 : Hid (_ ∧ _) := ⟨hl9, hR9⟩
    clear hb hR9 hl9 H6
    generalize w6.heap.size = g9 at N9 R9 ⊢
    simp only [Act.put, sa, sz, ss]
    refine rest_set (d := 17) (v := .slice (some ⟨w7.heap.size, 0, none⟩) 1 1) (w' := (w7.alloc (.cells ([.slice (some ⟨g9, 0, none⟩) (X k).xs.length ((X k).xs.length + 3)] : List Value).toArray 22))) rfl rfl rfl (ex_bsP rfl rfl) ?_
    simp only [Act.put, sa, sz, ss]
    have H8 : Hid (Mm (w7.alloc (.cells ([.slice (some ⟨g9, 0, none⟩) (X k).xs.length ((X k).xs.length + 3)] : List Value).toArray 22)) [] ∧ ZL w w.heap.size X (s0 3) k (w7.alloc (.cells ([.slice (some ⟨g9, 0, none⟩) (X k).xs.length ((X k).xs.length + 3)] : List Value).toArray 22))) := ⟨Mm.nil _, ZL.step H7.out.2 ((Below.refl _ _).alloc (Nat.le_refl _) _)⟩
    have C9 : Hid (_ ∧ _ ∧ _) := ⟨cell_part w7 (.slice (some ⟨g9, 0, none⟩) (X k).xs.length ((X k).xs.length + 3)), Nat.lt_of_lt_of_le R9.out.1 ((Below.refl w7.heap.size w7).alloc (Nat.le_refl _) (.cells ([.slice (some ⟨g9, 0, none⟩) (X k).xs.length ((X k).xs.length + 3)] : List Value).toArray 22)).size, R9.out.2.alloc R9.out.1 (.cells ([.slice (some ⟨g9, 0, none⟩) (X k).xs.length ((X k).xs.length + 3)] : List Value).toArray 22)⟩
    clear R9 H7
    generalize hgw : (w7.alloc (.cells ([.slice (some ⟨g9, 0, none⟩) (X k).xs.length ((X k).xs.length + 3)] : List Value).toArray 22)) = w8 at H8 C9 ⊢
    clear hgw
    generalize w7.heap.size = γs at C9 ⊢
    obtain ⟨v9, w9, hr, hZ⟩ := H8.out.2.app (c := 1) C9.out.1 C9.out.2.1 C9.out.2.2 N9.out (by omega) 29
    refine rest_set (d := 18) (v := v9) (w' := w9) rfl rfl rfl (ex_appL rfl rfl rfl hr) ?_
    simp only [Act.put, sa, sz, ss]
    have H9 : Hid (Mm w9 [] ∧ ZL w w.heap.size X v9 (k + 1) w9) := ⟨Mm.nil _, hZ⟩
    clear hr hZ C9 N9 H8
    refine rest_set (d := 3) (v := v9) (w' := w9) rfl rfl rfl rfl ?_
    simp only [Act.put, sa, sz, ss]
    refine rest_nil (block_normal (then_normal ?_))
    refine walk_seqA 2 [.quiet (.int .i64 ((k : Nat) : Int)), .quiet (.int .i64 ((k + 1 : Nat) : Int))] (sB H9) ?ho6 ?he6
    case ho6 => exact ak (fun _ => ⟨rfl, fun _ _ => rfl⟩) (ak (by refine fun γ => ⟨rfl, fun w' h => ?_⟩; clear h; go_simp; rw [IntKind.wrap_i64]; omega) trivial)
    intro γ w10 l hM hl
    have M10 : Mm w10 [] := H9.out.1.grow hM (Nat.le_refl _) hl [] rfl (by decide)
    have B10 : ZL w w.heap.size X v9 (k + 1) w10 := ZL.step H9.out.2 (hM.below)
    clear hM hl l H9
    clear γ
    have H10 : Hid (_ ∧ _) := ⟨M10, B10⟩
    clear M10 B10
    refine rest_at (l := [2]) rfl ?_
    refine rest_set (d := 4) (v := .int .i64 ((k + 1 : Nat) : Int)) (w' := w10) rfl rfl rfl rfl ?_
    simp only [Act.put, sa, sz, ss]
    refine rest_nil (then_normal ?_)
    exact ⟨k + 1, ⟨(slotfn [undef, undef, undef, v9, undef, .int .i64 ((k : Nat) : Int), .slice pl2 m c2, .int .i64 ((m : Nat) : Int), .bool true, .int .i64 ((k : Nat) : Int), .int .i64 ((k + 1 : Nat) : Int), s0 3, .slice pl2 m c2, .int .i64 ((k : Nat) : Int), PT g2 (o2 + k), .slice (X k).p (X k).xs.length (X k).c, .slice (some ⟨g9, 0, none⟩) ((X k).xs.length) ((X k).xs.length + 3), .slice (some ⟨γs, 0, none⟩) 1 1, v9]), rfl, ⟨H10.out.1, H10.out.2⟩, by omega⟩, by omega⟩
  have hkm : m = k := by omega
  subst hkm
  refine wp_seq (wp_seq ?_)
  refine walk_seqA 4 [.quiet (.int .i64 ((m : Nat) : Int)), .quiet (.slice pl2 m c2), .quiet (.int .i64 ((m : Nat) : Int)), .quiet (.bool false)] (sB H4) ?ho7 ?he7
  case ho7 => exact ak (fun _ => ⟨rfl, fun _ _ => rfl⟩) (ak (fun _ => ⟨rfl, fun _ _ => rfl⟩) (ak (by refine fun γ => ⟨rfl, fun w' h => ?_⟩; clear h; go_simp) (ak (by refine fun γ => ⟨rfl, fun w' h => ?_⟩; clear h; go_simp <;> omega) trivial)))
  intro γ w11 l hM hl
  have M11 : Mm w11 [] := H4.out.1.grow hM (Nat.le_refl _) hl [] rfl (by decide)
  have B11 : ZL w w.heap.size X (s0 3) m w11 := ZL.step H4.out.2 (hM.below)
  clear hM hl l H4
  clear γ
  have H11 : Hid (_ ∧ _) := ⟨M11, B11⟩
  clear M11 B11
  refine rest0 rfl (then_normal (wp_cond_false rfl ?_))
  refine wp_exit ?_
  repeat refine then_exit ?_
  refine block_exit ?_
  refine then_normal (wp_seq ?_)
  refine walk_seqA 2 [.quiet (s0 3), .quiet (s0 3)] (sB H11) ?ho8 ?he8
  case ho8 => exact ak (fun _ => ⟨rfl, fun _ _ => rfl⟩) (ak (fun _ => ⟨rfl, fun _ _ => rfl⟩) trivial)
  intro γ w12 l hM hl
  have M12 : Mm w12 [] := H11.out.1.grow hM (Nat.le_refl _) hl [] rfl (by decide)
  have B12 : ZL w w.heap.size X (s0 3) m w12 := ZL.step H11.out.2 (hM.below)
  clear hM hl l H11
  clear γ
  have H12 : Hid (_ ∧ _) := ⟨M12, B12⟩
  clear M12 B12
  refine rest0 rfl (then_normal (wp_ret ?_))
  repeat (first | refine then_ret ?_ | refine block_ret ?_)
  refine bodyPost_ret (v := s0 3) (by simp [results, Tryd.results13, go_sem, *]) rfl ?_
  exact ⟨_, rfl, H12.out.2⟩
end Rg
end Go.Proofs.YtfboipfpnkngdaaDoor
end
