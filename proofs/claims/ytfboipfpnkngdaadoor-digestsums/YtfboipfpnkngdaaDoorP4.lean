/- Texts of the proof, joined. -/
import Derived.Test.YtfboipfpnkngdaaDoorP3
import Derived.LaidMore
import Derived.Stop.Joined
import Derived.Lib.LaidTab
import Derived.ProofKit
import Derived.OpenShut
import Derived.ChangeSlices
import Derived.Test.YtfboipfpnkngdaaDoorRows
import Derived.Test.YtfboipfpnkngdaaDoorTie
section
namespace Go.Proofs.YtfboipfpnkngdaaDoor
open Go.RowKit
namespace Rg
set_option maxRecDepth 100000
section
variable {ρ : Operand → Value} {o : Oper} {x y : Operand} {a b : Nat} {w : World}
theorem ex_quo3 (h : 0 < b) (ha : a < 4611686018427387904) (ho : o.op = .binOp .quo 3 x y 3) (hx : ρ x = .int .i64 ((a : Nat) : Int)) (hy : ρ y = .int .i64 ((b : Nat) : Int)) : (execOp ρ o).run Tryd.prog w = .ok (.value (.int .i64 ((a / b : Nat) : Int))) w := by
  have hle : a / b ≤ a := Nat.div_le_self _ _
  simp only [execOp, ho, hx, hy]
  clear ho hx hy
  have hw : IntKind.i64.wrap ((a : Int) / (b : Int)) = (a : Int) / (b : Int) := by
    rw [← Int.natCast_ediv]
    generalize a / b = k at hle ⊢
    rw [IntKind.wrap_i64]
    omega
  go_simp
  omega
theorem ex_rem3 (h : 0 < b) (ha : a < 4611686018427387904) (ho : o.op = .binOp .rem 3 x y 3) (hx : ρ x = .int .i64 ((a : Nat) : Int)) (hy : ρ y = .int .i64 ((b : Nat) : Int)) : (execOp ρ o).run Tryd.prog w = .ok (.value (.int .i64 ((a % b : Nat) : Int))) w := by
  have _ := ha
  simp only [execOp, ho, hx, hy]
  clear ho hx hy
  go_simp
  rw [if_neg (by omega), Int.tmod_eq_emod_of_nonneg (by omega)]
end
theorem Rs.add {g o n : Nat} {f : Nat → Nat} {w : World} (h : Rs g o n f w) (j : Nat) (hj : j < n) : w.cell? ((⟨g, o, none⟩ : Addr).add j) = some (Z8 (f j)) := by
  rw [show (⟨g, o, none⟩ : Addr).add j = ⟨g, o + j, none⟩ by unfold Addr.add; split <;> simp_all]
  exact h.at_ j hj
/-- Bytes at an address. -/
structure Ra (a : Addr) (n : Nat) (f : Nat → Nat) (w : World) : Prop where
  lt : 0 < n → a.block < w.heap.size
  at_ : ∀ j, j < n → w.cell? (a.add j) = some (Z8 (f j))
theorem add_block (a : Addr) (j : Nat) : (a.add j).block = a.block := by unfold Addr.add; split <;> rfl
theorem Ra.below {a : Addr} {n : Nat} {f : Nat → Nat} {w w' : World} (h : Ra a n f w) (hb : Below w.heap.size w w') : Ra a n f w' :=
  ⟨fun hn => Nat.lt_of_lt_of_le (h.lt hn) hb.size, fun j hj => by rw [hb.cell (p := a.add j) (by rw [add_block]; exact h.lt (by omega))]; exact h.at_ j hj⟩
theorem Rs.kp2 {g gb o n : Nat} {f : Nat → Nat} {w w' : World} (h : Rs gb o n f w) (k : Kp g w w') (ne : gb ≠ g) : Rs gb o n f w' := by
  have s : Src g gb o n f w := ⟨h.lt, fun _ => ne, h.at_⟩
  exact ⟨fun hn => Nat.lt_of_lt_of_le (h.lt hn) k.size, fun i hi => s.kp k i hi⟩
/-- The message with its ending, as the document has it. -/
def zc (n : Nat) : Nat := (120 - (n + 1) % 64) % 64
def pn (n : Nat) : Nat := n + 1 + zc n + 8
def nb (n : Nat) : Nat := pn n / 64
def pz (f : Nat → Nat) (n : Nat) : Nat → Nat := fun j => if j < n then f j else if j = n then 128 else 0
def pd (f : Nat → Nat) (n : Nat) : Nat → Nat := ct (pz f n) (n + 1 + zc n) (b8 (c64 (8 * c64 n)))
theorem pz_f (f : Nat → Nat) (n j : Nat) (h : j < n) : f j = pz f n j := by unfold pz; rw [if_pos h]
theorem pz_n (f : Nat → Nat) (n : Nat) : 128 = pz f n n := by unfold pz; rw [if_neg (by omega), if_pos rfl]
theorem pz_z (f : Nat → Nat) (n k : Nat) : 0 = pz f n (n + 1 + k) := by unfold pz; rw [if_neg (by omega), if_neg (by omega)]
theorem nb_pn (n : Nat) : 64 * nb n = pn n := by unfold nb pn zc; omega
def hd (P : Nat → Nat) : Nat → Nat → Nat
  | 0 => fT
  | k + 1 => db (hd P k) kT P (64 * k)
def ob (h : Nat → Nat) : Nat → Nat → Nat
  | 0 => fun _ => 0
  | i + 1 => up (ob h i) i (sr (h (i / 4)) (24 - (8 * (i % 4))) % 256)
/-- The digest of n bytes, as the document has it. -/
def ds (f : Nat → Nat) (n : Nat) : Nat → Nat := ob (hd (pd f n) (nb n)) 32
theorem call31 : ∀ args w, (callFunc 31 args).run Tryd.prog w = .ok (.enter 31 args) w := by intro args w; go_simp
theorem call32 : ∀ args w, (callFunc 32 args).run Tryd.prog w = .ok (.enter 32 args) w := by intro args w; go_simp
theorem call33 : ∀ args w, (callFunc 33 args).run Tryd.prog w = .ok (.enter 33 args) w := by intro args w; go_simp
theorem call34 : ∀ args w, (callFunc 34 args).run Tryd.prog w = .ok (.enter 34 args) w := by intro args w; go_simp
set_option maxHeartbeats 4000000 in
set_option maxRecDepth 100000 in
theorem dSum_some (f : Nat → Nat) (n : Nat) (hn : n ≤ 1048576) (a : Addr) (cp : Nat) (w : World) (hR : Ra a n f w) :
    Calls Tryd.prog 11 #[.slice (some a) n cp] w fun e w' => e = .returned (.agg (ints .u8 (ds f n) 32).toArray) ∧ Below w.heap.size w w' := by
  have H0 : Hid (_ ∧ _) := ⟨Mm.nil w, Below.refl w.heap.size w⟩
  have R0 : Hid (Ra a n f w) := hR
  clear hR
  have hz : zc n = (120 - (n + 1) % 64) % 64 := rfl
  have hN : pn n = n + 1 + zc n + 8 := rfl
  have hM := nb_pn n
  go_enter Tryd.func11, Tryd.ntmps11
  refine wp_seq ?_
  refine walk_seqA 1 [.made (ints .u8 (fun _ => 0) 32) 25] (sB H0) ?ho1 ?he1
  case ho1 => exact ak (fun γ => ⟨rfl, fun w' => ex_mk25 rfl⟩) trivial
  intro γ w1 l hM hl
  have H1 : Hid (Mm w1 [(γ 0, ints .u8 (fun _ => 0) 32)] ∧ _) := growB H0 hM (Nat.le_refl _) hl [0] rfl (by decide)
  have o1_0 := ownB H0 hM (Nat.le_refl _) hl (i := 0) rfl
  clear hM hl l
  generalize γ 0 = γ1_0 at H1 o1_0 ⊢
  clear γ
  refine rest0 rfl (then_normal (wp_seq ?_))
  refine walk_seqB 0 [] H1 ?ho2 ?he2
  case ho2 => exact trivial
  intro _ w2 H2
  clear H1
  refine rest_at (l := [0, 1, 2, 3]) rfl ?_
  refine rest_set (d := 9) (v := .slice (some ⟨w2.heap.size, 0, none⟩) 0 0) (w' := (w2.alloc (.cells #[] 5))) rfl rfl rfl (ex_bs0 rfl) ?_
  simp only [Act.put, sa, sz, ss]
  have H3 : Hid (Mm (w2.alloc (.cells #[] 5)) [] ∧ Zo w w2.heap.size [(γ1_0, ints .u8 (fun _ => 0) 32)] (.slice (some ⟨w2.heap.size, 0, none⟩) 0 0) 0 f (w2.alloc (.cells #[] 5))) := ⟨Mm.nil _, Zo.made f H2.out.1 H2.out.2⟩
  clear H2
  generalize hgw : (w2.alloc (.cells #[] 5)) = w3 at H3 ⊢
  clear hgw
  generalize w2.heap.size = γb at H3 ⊢
  refine rest_set (d := 10) (v := .slice (some a) n cp) (w' := w3) rfl rfl rfl rfl ?_
  simp only [Act.put, sa, sz, ss]
  obtain ⟨v4, w4, hr, hZ⟩ := H3.out.2.app (a := a) n cp f ((R0.out.below H3.out.2.b).at_) (by omega) 22
  refine rest_set (d := 11) (v := v4) (w' := w4) rfl rfl rfl (ex_app rfl rfl rfl hr) ?_
  simp only [Act.put, sa, sz, ss]
  have H4 : Hid (Mm w4 [] ∧ Zo w γb [(γ1_0, ints .u8 (fun _ => 0) 32)] v4 n f w4) := ⟨Mm.nil _, by rw [Nat.zero_add] at hZ; exact hZ.cg (fun j _ => by unfold ct; rw [if_neg (by omega), Nat.sub_zero])⟩
  clear hr hZ H3
  refine rest_set (d := 3) (v := v4) (w' := w4) rfl rfl rfl rfl ?_
  simp only [Act.put, sa, sz, ss]
  refine rest_nil (then_normal (wp_seq ?_))
  refine walk_seqA 1 [.quiet (v4)] (sB H4) ?ho3 ?he3
  case ho3 => exact ak (fun _ => ⟨rfl, fun _ _ => rfl⟩) trivial
  intro γ w5 l hM hl
  have M5 : Mm w5 [] := H4.out.1.grow hM (Nat.le_refl _) hl [] rfl (by decide)
  have B5 : Zo w γb [(γ1_0, ints .u8 (fun _ => 0) 32)] v4 n f w5 := Zo.step H4.out.2 (hM.below)
  clear hM hl l H4
  clear γ
  have H5 : Hid (_ ∧ _) := ⟨M5, B5⟩
  clear M5 B5
  refine rest_at (l := [1, 2, 3]) rfl ?_
  refine rest_set (d := 13) (v := .slice (some ⟨w5.heap.size, 0, none⟩) 1 1) (w' := (w5.alloc (.cells ([Z8 128] : List Value).toArray 5))) rfl rfl rfl (ex_bs1 (a := 128) rfl rfl) ?_
  simp only [Act.put, sa, sz, ss]
  have H6 : Hid (Mm (w5.alloc (.cells ([Z8 128] : List Value).toArray 5)) [] ∧ Zo w γb [(γ1_0, ints .u8 (fun _ => 0) 32)] v4 n f (w5.alloc (.cells ([Z8 128] : List Value).toArray 5))) := ⟨Mm.nil _, Zo.step H5.out.2 ((Below.refl _ _).alloc (Nat.le_refl _) _)⟩
  have c6 := cell_one w5 128
  have C6 : Hid _ := c6
  clear c6 H5
  generalize hgw : (w5.alloc (.cells ([Z8 128] : List Value).toArray 5)) = w6 at H6 C6 ⊢
  clear hgw
  generalize w5.heap.size = γs6 at C6 ⊢
  obtain ⟨v7, w7, hr, hZ⟩ := H6.out.2.app (a := ⟨γs6, 0, none⟩) 1 1 (fun _ => 128) (C6.out) (by omega) 22
  refine rest_set (d := 14) (v := v7) (w' := w7) rfl rfl rfl (ex_app rfl rfl rfl hr) ?_
  simp only [Act.put, sa, sz, ss]
  have H7 : Hid (Mm w7 [] ∧ Zo w γb [(γ1_0, ints .u8 (fun _ => 0) 32)] v7 (n + 1 + 0) (pz f n) w7) := ⟨Mm.nil _, hZ.cg (ct_snoc (pz_n f n) (pz_f f n))⟩
  clear hr hZ H6
  refine rest_set (d := 3) (v := v7) (w' := w7) rfl rfl rfl rfl ?_
  simp only [Act.put, sa, sz, ss]
  refine rest_nil (then_normal ?_)
  refine wp_seq (wp_block ?_)
  refine loop_ghost (α := Nat) (fun k a' w' => ∃ s0 : Nat → Value, a' = ⟨#[.slice (some a) n cp, undef, PT γ1_0 0, s0 3, undef, undef, undef, undef, undef, .slice (some ⟨γb, 0, none⟩) 0 0, .slice (some a) n cp, v4, v4, .slice (some ⟨γs6, 0, none⟩) 1 1, v7, s0 15, s0 16, s0 17, s0 18, s0 19, s0 20, s0 21, undef, undef, undef, undef, undef, undef, undef, undef, undef, undef, undef, undef, undef, undef, undef, undef, undef, undef, undef, undef, undef, undef, undef, undef, undef, undef, undef, undef, undef, undef, undef, undef, undef, undef, undef, undef, undef], []⟩ ∧ (Mm w' [] ∧ Zo w γb [(γ1_0, ints .u8 (fun _ => 0) 32)] (s0 3) (n + 1 + k) (pz f n) w') ∧ k ≤ zc n) (fun k => zc n - k) 0 ?st0 ?rd0
  case st0 => exact ⟨(slotfn [undef, undef, undef, v7, undef, undef, undef, undef, undef, undef, undef, undef, undef, undef, undef, undef, undef, undef, undef, undef, undef, undef]), rfl, ⟨H7.out.1, H7.out.2⟩, by omega⟩
  intro k a' w8 hI
  obtain ⟨s0, rfl, hMB, hk0⟩ := hI
  have H8 : Hid (_ ∧ _) := hMB
  clear hMB H7
  by_cases hlt : k < zc n
  · have hrd : True := trivial
    clear hrd
    obtain ⟨g3, cap3, e3⟩ := H8.out.2.form (by omega)
    rw [e3] at H8 ⊢
    clear e3
    refine wp_seq (wp_seq ?_)
    refine walk_seqA 4 [.quiet (.slice (some ⟨g3, 0, none⟩) (n + 1 + k) cap3), .quiet (.int .i64 (((n + 1 + k) : Nat) : Int)), .quiet (.int .i64 (((n + 1 + k) % 64 : Nat) : Int)), .quiet (.bool true)] (sB H8) ?ho4 ?he4
    case ho4 => exact ak (fun _ => ⟨rfl, fun _ _ => rfl⟩) (ak (by refine fun γ => ⟨rfl, fun w' h => ?_⟩; clear h; go_simp) (ak (fun γ => ⟨rfl, fun w' _ => ex_rem3 (a := (n + 1 + k)) (b := 64) (by omega) (by omega) rfl rfl rfl⟩) (ak (by refine fun γ => ⟨rfl, fun w' h => ?_⟩; clear h; go_simp <;> omega) trivial)))
    intro γ w9 l hM hl
    have M9 : Mm w9 [] := H8.out.1.grow hM (Nat.le_refl _) hl [] rfl (by decide)
    have B9 : Zo w γb [(γ1_0, ints .u8 (fun _ => 0) 32)] (.slice (some ⟨g3, 0, none⟩) (n + 1 + k) cap3) (n + 1 + k) (pz f n) w9 := Zo.step H8.out.2 (hM.below)
    clear hM hl l H8
    clear γ
    have H9 : Hid (_ ∧ _) := ⟨M9, B9⟩
    clear M9 B9
    refine rest0 rfl (then_normal (wp_cond_true rfl ?_))
    refine wp_skip (then_normal (wp_block ?_))
    refine walk_seqA 1 [.quiet (.slice (some ⟨g3, 0, none⟩) (n + 1 + k) cap3)] (sB H9) ?ho5 ?he5
    case ho5 => exact ak (fun _ => ⟨rfl, fun _ _ => rfl⟩) trivial
    intro γ w10 l hM hl
    have M10 : Mm w10 [] := H9.out.1.grow hM (Nat.le_refl _) hl [] rfl (by decide)
    have B10 : Zo w γb [(γ1_0, ints .u8 (fun _ => 0) 32)] (.slice (some ⟨g3, 0, none⟩) (n + 1 + k) cap3) (n + 1 + k) (pz f n) w10 := Zo.step H9.out.2 (hM.below)
    clear hM hl l H9
    clear γ
    have H10 : Hid (_ ∧ _) := ⟨M10, B10⟩
    clear M10 B10
    refine rest_at (l := [1, 2, 3]) rfl ?_
    refine rest_set (d := 20) (v := .slice (some ⟨w10.heap.size, 0, none⟩) 1 1) (w' := (w10.alloc (.cells ([Z8 0] : List Value).toArray 5))) rfl rfl rfl (ex_bs1 (a := 0) rfl rfl) ?_
    simp only [Act.put, sa, sz, ss]
    have H11 : Hid (Mm (w10.alloc (.cells ([Z8 0] : List Value).toArray 5)) [] ∧ Zo w γb [(γ1_0, ints .u8 (fun _ => 0) 32)] (.slice (some ⟨g3, 0, none⟩) (n + 1 + k) cap3) (n + 1 + k) (pz f n) (w10.alloc (.cells ([Z8 0] : List Value).toArray 5))) := ⟨Mm.nil _, Zo.step H10.out.2 ((Below.refl _ _).alloc (Nat.le_refl _) _)⟩
    have c11 := cell_one w10 0
    have C11 : Hid _ := c11
    clear c11 H10
    generalize hgw : (w10.alloc (.cells ([Z8 0] : List Value).toArray 5)) = w11 at H11 C11 ⊢
    clear hgw
    generalize w10.heap.size = γs11 at C11 ⊢
    obtain ⟨v12, w12, hr, hZ⟩ := H11.out.2.app (a := ⟨γs11, 0, none⟩) 1 1 (fun _ => 0) (C11.out) (by omega) 22
    refine rest_set (d := 21) (v := v12) (w' := w12) rfl rfl rfl (ex_app rfl rfl rfl hr) ?_
    simp only [Act.put, sa, sz, ss]
    have H12 : Hid (Mm w12 [] ∧ Zo w γb [(γ1_0, ints .u8 (fun _ => 0) 32)] v12 (n + 1 + (k + 1)) (pz f n) w12) := ⟨Mm.nil _, hZ.cg (ct_snoc (pz_z f n k))⟩
    clear hr hZ H11
    refine rest_set (d := 3) (v := v12) (w' := w12) rfl rfl rfl rfl ?_
    simp only [Act.put, sa, sz, ss]
    refine rest_nil (block_normal (then_normal ?_))
    exact ⟨k + 1, ⟨(slotfn [undef, undef, undef, v12, undef, undef, undef, undef, undef, undef, undef, undef, undef, undef, undef, .slice (some ⟨g3, 0, none⟩) (n + 1 + k) cap3, .int .i64 (((n + 1 + k) : Nat) : Int), .int .i64 (((n + 1 + k) % 64 : Nat) : Int), .bool true, .slice (some ⟨g3, 0, none⟩) (n + 1 + k) cap3, .slice (some ⟨γs11, 0, none⟩) 1 1, v12]), rfl, ⟨H12.out.1, H12.out.2⟩, by omega⟩, by omega⟩
  have hkN : k = zc n := by omega
  subst hkN
  obtain ⟨g3, cap3, e3⟩ := H8.out.2.form (by omega)
  rw [e3] at H8 ⊢
  clear e3
  refine wp_seq (wp_seq ?_)
  refine walk_seqA 4 [.quiet (.slice (some ⟨g3, 0, none⟩) (n + 1 + zc n) cap3), .quiet (.int .i64 (((n + 1 + zc n) : Nat) : Int)), .quiet (.int .i64 (((n + 1 + zc n) % 64 : Nat) : Int)), .quiet (.bool false)] (sB H8) ?ho6 ?he6
  case ho6 => exact ak (fun _ => ⟨rfl, fun _ _ => rfl⟩) (ak (by refine fun γ => ⟨rfl, fun w' h => ?_⟩; clear h; go_simp) (ak (fun γ => ⟨rfl, fun w' _ => ex_rem3 (a := (n + 1 + zc n)) (b := 64) (by omega) (by omega) rfl rfl rfl⟩) (ak (by refine fun γ => ⟨rfl, fun w' h => ?_⟩; clear h; go_simp <;> omega) trivial)))
  intro γ w13 l hM hl
  have M13 : Mm w13 [] := H8.out.1.grow hM (Nat.le_refl _) hl [] rfl (by decide)
  have B13 : Zo w γb [(γ1_0, ints .u8 (fun _ => 0) 32)] (.slice (some ⟨g3, 0, none⟩) (n + 1 + zc n) cap3) (n + 1 + zc n) (pz f n) w13 := Zo.step H8.out.2 (hM.below)
  clear hM hl l H8
  clear γ
  have H13 : Hid (_ ∧ _) := ⟨M13, B13⟩
  clear M13 B13
  refine rest0 rfl (then_normal (wp_cond_false rfl ?_))
  refine wp_exit ?_
  repeat refine then_exit ?_
  refine block_exit ?_
  refine then_normal (wp_seq ?_)
  refine walk_seqA 5 [.quiet (.slice (some ⟨g3, 0, none⟩) (n + 1 + zc n) cap3), .quiet (.slice (some a) n cp), .quiet (.int .i64 ((n : Nat) : Int)), .quiet (U (c64 n)), .quiet (U (c64 (8 * c64 n)))] (sB H13) ?ho7 ?he7
  case ho7 => exact ak (fun _ => ⟨rfl, fun _ _ => rfl⟩) (ak (fun _ => ⟨rfl, fun _ _ => rfl⟩) (ak (by refine fun γ => ⟨rfl, fun w' h => ?_⟩; clear h; go_simp) (ak (fun γ => ⟨rfl, fun w' _ => ex_cv3_56 (a := n) rfl rfl⟩) (ak (fun γ => ⟨rfl, fun w' _ => ex_mul64 rfl rfl rfl⟩) trivial))))
  intro γ w14 l hM hl
  have M14 : Mm w14 [] := H13.out.1.grow hM (Nat.le_refl _) hl [] rfl (by decide)
  have B14 : Zo w γb [(γ1_0, ints .u8 (fun _ => 0) 32)] (.slice (some ⟨g3, 0, none⟩) (n + 1 + zc n) cap3) (n + 1 + zc n) (pz f n) w14 := Zo.step H13.out.2 (hM.below)
  clear hM hl l H13
  clear γ
  have H14 : Hid (_ ∧ _) := ⟨M14, B14⟩
  clear M14 B14
  refine rest_at (l := [5, 6, 7]) rfl ?_
  refine rest_enter (d := 27) rfl rfl rfl (exec_call (args := #[U (c64 (8 * c64 n))]) rfl call31 rfl (mpn rfl)) ((Calls.mono (Eight_any (c64 (8 * (c64 n))) w14) (fun e w2 hh => by obtain ⟨hb, g, cap, he, hR⟩ := hh; exact ⟨_, he, hb, g, cap, rfl, hR⟩) : Calls Tryd.prog 31 #[U (c64 (8 * (c64 n)))] w14 (fun e w' => ∃ v, e = .returned v ∧ (Below w14.heap.size w14 w' ∧ ∃ g cap, v = .slice (some ⟨g, 0, none⟩) 8 cap ∧ Rs g 0 8 (b8 (c64 (8 * (c64 n)))) w')))) ?_
  rintro _ w15 ⟨hb, g8, cap8, rfl, hR8⟩
  have H15 : Hid (Mm w15 [] ∧ Zo w γb [(γ1_0, ints .u8 (fun _ => 0) 32)] (.slice (some ⟨g3, 0, none⟩) (n + 1 + zc n) cap3) (n + 1 + zc n) (pz f n) w15) := ⟨Mm.nil _, Zo.step H14.out.2 hb⟩
  have R8 : Hid _ := hR8
  clear hb hR8 H14
  simp only [Act.put, sa, sz, ss]
  obtain ⟨v16, w16, hr, hZ⟩ := H15.out.2.app (a := ⟨g8, 0, none⟩) 8 cap8 (b8 (c64 (8 * (c64 n)))) (R8.out.add) (by omega) 22
  refine rest_set (d := 28) (v := v16) (w' := w16) rfl rfl rfl (ex_app rfl rfl rfl hr) ?_
  simp only [Act.put, sa, sz, ss]
  have H16 : Hid (Mm w16 [] ∧ Zo w γb [(γ1_0, ints .u8 (fun _ => 0) 32)] v16 (pn n) (pd f n) w16) := ⟨Mm.nil _, hZ⟩
  clear hr hZ H15
  refine rest_set (d := 3) (v := v16) (w' := w16) rfl rfl rfl rfl ?_
  simp only [Act.put, sa, sz, ss]
  refine rest_nil ?_
  obtain ⟨g9, cap9, e9⟩ := H16.out.2.form (by omega)
  rw [e9] at H16 ⊢
  have HB : Hid _ := H16.out.2.b
  have HM := H16.out.2.m
  have HR : Hid (Rs g9 0 (pn n) (pd f n) w16) := H16.out.2.rs
  have HN : Hid (g9 ≠ γ1_0) := (by have a1 := (World.ownsRow.lt H16.out.2.own g9 rfl).1; have a2 := H16.out.2.lt _ (List.mem_singleton.2 rfl); intro e; have a3 : γ1_0 < γb := a2; omega : g9 ≠ γ1_0)
  clear H16 e9
  generalize w16 = w at HB HM HR ⊢
  have H17 : Hid (_ ∧ _) := ⟨HM, Kp.refl γ1_0 w⟩
  clear HM
  refine then_normal (wp_seq ?_)
  refine walk_seqA 3 [.call (.agg (ints .u32 fT 8).toArray), .made (ints .u32 (fun _ => 0) 8) 52, .laid 1 (ints .u32 (fun _ => 0) 8) (ints .u32 fT 8)] (sB H17) ?ho8 ?he8 (hL := ?hL8)
  case hL8 => exact ⟨⟨_, rfl⟩, trivial⟩
  case ho8 => exact ak (fun γ => ⟨rfl, fun w' h => ⟨32, #[], exec_call rfl call32 rfl (mpn rfl), begin_any w'⟩⟩) (ak (fun γ => ⟨rfl, fun w' => ex_mk52 rfl⟩) (ak (fun γ => ⟨rfl, rfl, (ints_len _ _ _).trans (ints_len _ _ _).symm, fun w' h => ex_laidI h Tryd.sizeOf52 rfl rfl rfl⟩) trivial))
  intro γ w18 l hM hl
  have H18 : Hid (Mm w18 [(γ 1, ints .u32 fT 8), (γ1_0, ints .u8 (fun _ => 0) 32)] ∧ _) := growK H17 hM (Nat.le_refl _) hl [1] rfl (by decide)
  have o8_1 := ownK H17 hM (Nat.le_refl _) hl (i := 1) rfl
  clear hM hl l H17
  generalize γ 1 = γ8_1 at H18 o8_1 ⊢
  clear γ
  refine rest0 rfl (then_normal (wp_seq ?_))
  refine walk_seqA 3 [.call (.agg (ints .u32 kT 64).toArray), .made (ints .u32 (fun _ => 0) 64) 66, .laid 1 (ints .u32 (fun _ => 0) 64) (ints .u32 kT 64)] (sB H18) ?ho9 ?he9 (hL := ?hL9)
  case hL9 => exact ⟨⟨_, rfl⟩, trivial⟩
  case ho9 => exact ak (fun γ => ⟨rfl, fun w' h => ⟨33, #[], exec_call rfl call33 rfl (mpn rfl), table_any w'⟩⟩) (ak (fun γ => ⟨rfl, fun w' => ex_mk66 rfl⟩) (ak (fun γ => ⟨rfl, rfl, (ints_len _ _ _).trans (ints_len _ _ _).symm, fun w' h => ex_laidI h Tryd.sizeOf66 rfl rfl rfl⟩) trivial))
  intro γ w19 l hM hl
  have H19 : Hid (Mm w19 [(γ 1, ints .u32 kT 64), (γ8_1, ints .u32 fT 8), (γ1_0, ints .u8 (fun _ => 0) 32)] ∧ _) := growK H18 hM (Nat.le_refl _) hl [1] rfl (by decide)
  have o9_1 := ownK H18 hM (Nat.le_refl _) hl (i := 1) rfl
  clear hM hl l H18
  generalize γ 1 = γ9_1 at H19 o9_1 ⊢
  clear γ
  refine rest0 rfl (then_normal (wp_seq (wp_seq ?_)))
  refine walk_seqA 1 [.quiet (.int .i64 0)] (sB H19) ?ho10 ?he10
  case ho10 => exact ak (fun _ => ⟨rfl, fun _ _ => rfl⟩) trivial
  intro γ w20 l hM hl
  have H20 := keepK H19 hM.below
  clear hM hl l H19 γ
  refine rest0 rfl (then_normal (wp_block ?_))
  refine loop_ghost (α := Nat) (fun k a' w' => ∃ s2 : Nat → Value, a' = ⟨#[.slice (some a) n cp, undef, PT γ1_0 0, .slice (some ⟨g9, 0, none⟩) (pn n) cap9, PT γ8_1 0, PT γ9_1 0, .int .i64 ((64 * k : Nat) : Int), undef, undef, .slice (some ⟨γb, 0, none⟩) 0 0, .slice (some a) n cp, v4, v4, .slice (some ⟨γs6, 0, none⟩) 1 1, v7, .slice (some ⟨g3, 0, none⟩) (n + 1 + zc n) cap3, .int .i64 (((n + 1 + zc n) : Nat) : Int), .int .i64 (((n + 1 + zc n) % 64 : Nat) : Int), .bool false, s0 19, s0 20, s0 21, .slice (some ⟨g3, 0, none⟩) (n + 1 + zc n) cap3, .slice (some a) n cp, .int .i64 ((n : Nat) : Int), U (c64 n), U (c64 (8 * c64 n)), .slice (some ⟨g8, 0, none⟩) 8 cap8, .slice (some ⟨g9, 0, none⟩) (pn n) cap9, .agg (ints .u32 fT 8).toArray, .agg (ints .u32 kT 64).toArray, s2 31, s2 32, s2 33, s2 34, s2 35, s2 36, s2 37, s2 38, s2 39, s2 40, s2 41, undef, undef, undef, undef, undef, undef, undef, undef, undef, undef, undef, undef, undef, undef, undef, undef, undef], []⟩ ∧ (Mm w' [(γ9_1, ints .u32 kT 64), (γ8_1, ints .u32 (hd (pd f n) k) 8), (γ1_0, ints .u8 (fun _ => 0) 32)] ∧ Kp γ1_0 w w') ∧ k ≤ nb n) (fun k => nb n - k) 0 ?st2 ?rd2
  case st2 => exact ⟨(slotfn [undef, undef, undef, undef, undef, undef, undef, undef, undef, undef, undef, undef, undef, undef, undef, undef, undef, undef, undef, undef, undef, undef, undef, undef, undef, undef, undef, undef, undef, undef, undef, undef, undef, undef, undef, undef, undef, undef, undef, undef, undef, undef]), rfl, ⟨H20.out.1, H20.out.2⟩, by omega⟩
  intro k a' w21 hI
  obtain ⟨s2, rfl, hMB, hk2⟩ := hI
  have H21 : Hid (_ ∧ _) := hMB
  clear hMB H20
  by_cases hltk : k < nb n
  · have hrd : True := trivial
    clear hrd
    refine wp_seq (wp_seq ?_)
    refine walk_seqA 4 [.quiet (.int .i64 ((64 * k : Nat) : Int)), .quiet (.slice (some ⟨g9, 0, none⟩) (pn n) cap9), .quiet (.int .i64 (((pn n) : Nat) : Int)), .quiet (.bool true)] (sB H21) ?ho11 ?he11
    case ho11 => exact ak (fun _ => ⟨rfl, fun _ _ => rfl⟩) (ak (fun _ => ⟨rfl, fun _ _ => rfl⟩) (ak (by refine fun γ => ⟨rfl, fun w' h => ?_⟩; clear h; go_simp) (ak (by refine fun γ => ⟨rfl, fun w' h => ?_⟩; clear h; go_simp <;> omega) trivial)))
    intro γ w22 l hM hl
    have H22 := keepK H21 hM.below
    clear hM hl l H21 γ
    refine rest0 rfl (then_normal (wp_cond_true rfl ?_))
    refine wp_skip (then_normal ?_)
    refine wp_seq (wp_block ?_)
    refine (walk_seq) 5 [.quiet (.agg (ints .u32 (hd (pd f n) k) 8).toArray), .quiet (.agg (ints .u32 kT 64).toArray), .quiet (.slice (some ⟨g9, 0, none⟩) (pn n) cap9), .quiet (.int .i64 ((64 * k : Nat) : Int)), .call (.agg (ints .u32 (db (hd (pd f n) k) kT (pd f n) (64 * k)) 8).toArray)] (fun u' => Mm u' [(γ9_1, ints .u32 kT 64), (γ8_1, ints .u32 (hd (pd f n) k) 8), (γ1_0, ints .u8 (fun _ => 0) 32)] ∧ Rs g9 0 (pn n) (pd f n) u') ?pre12 ?F12 ?hpre12 (fun γ => ?hF12) (by kernel_rfl) ?hL12 ?hS12 ?ho12 ?he12
    case hpre12 => simp only [tk, tz]; rfl
    case hF12 => simp only [fill, Kind.val, Act.put, sa, sz, ss]; rfl
    case hL12 => exact trivial
    case hS12 => exact fun w' hb => ⟨H22.out.1.below hb, HR.out.kp2 (H22.out.2.trans (hb)) HN.out⟩
    case ho12 =>
      refine ak (fun γ => ⟨rfl, fun w' hX => have h := hX.1; ex_loadT h 1 rfl rfl rfl Tryd.isAgg52 Tryd.sizeOf52 (ints_whole _ _ _) (ints_len _ _ _)⟩) ?_
      refine ak (fun γ => ⟨rfl, fun w' hX => have h := hX.1; ex_loadT h 0 rfl rfl rfl Tryd.isAgg66 Tryd.sizeOf66 (ints_whole _ _ _) (ints_len _ _ _)⟩) ?_
      refine ak (fun _ => ⟨rfl, fun _ _ => rfl⟩) ?_
      refine ak (fun _ => ⟨rfl, fun _ _ => rfl⟩) ?_
      refine ak (fun γ => ⟨rfl, fun w' hX => ⟨34, #[.agg (ints .u32 (hd (pd f n) k) 8).toArray, .agg (ints .u32 kT 64).toArray, .slice (some ⟨g9, 0, none⟩) (pn n) cap9, .int .i64 ((64 * k : Nat) : Int)], exec_call rfl call34 rfl (mpn rfl), block_any (hd (pd f n) k) kT (pd f n) g9 (pn n) cap9 (64 * k) (by omega) (by omega) w' hX.2⟩⟩) ?_
      exact trivial
    intro γ w23 l hM hl
    have H23 := keepK H22 hM.below
    clear hM hl l H22 γ
    refine rest_at (l := [5]) rfl ?_
    refine rest_store rfl rfl rfl (ex_storeT (vs := ints .u32 (db (hd (pd f n) k) kT (pd f n) (64 * k)) 8) H23.out.1 1 rfl rfl rfl rfl (by rw [ints_len]; exact Tryd.sizeOf52) (ints_all _ _ _) (by simp [ints_len])) ?_
    have H24 : Hid (Mm (w23.setCells γ8_1 0 (ints .u32 (db (hd (pd f n) k) kT (pd f n) (64 * k)) 8)) [(γ9_1, ints .u32 kT 64), (γ8_1, ints .u32 (db (hd (pd f n) k) kT (pd f n) (64 * k)) 8), (γ1_0, ints .u8 (fun _ => 0) 32)] ∧ Kp γ1_0 w (w23.setCells γ8_1 0 (ints .u32 (db (hd (pd f n) k) kT (pd f n) (64 * k)) 8))) := ⟨by
      have h := H23.out.1.put 1 (off := 0) (vs := ints .u32 (db (hd (pd f n) k) kT (pd f n) (64 * k)) 8) rfl (by simp [ints_len])
      rw [ints_patch0 _ _ _ _] at h
      exact h, H23.out.2.put (Or.inr o8_1.out)⟩
    clear H23
    generalize hgw : World.setCells _ _ _ _ = w24 at H24 ⊢
    clear hgw
    refine rest_nil (block_normal (then_normal ?_))
    refine walk_seqA 2 [.quiet (.int .i64 ((64 * k : Nat) : Int)), .quiet (.int .i64 (((64 * k) + 64 : Nat) : Int))] (sB H24) ?ho13 ?he13
    case ho13 => exact ak (fun _ => ⟨rfl, fun _ _ => rfl⟩) (ak (by refine fun γ => ⟨rfl, fun w' h => ?_⟩; clear h; go_simp; rw [IntKind.wrap_i64]; omega) trivial)
    intro γ w25 l hM hl
    have H25 := keepK H24 hM.below
    clear hM hl l H24 γ
    refine rest_at (l := [2]) rfl ?_
    refine rest_set (d := 6) (v := .int .i64 (((64 * k) + 64 : Nat) : Int)) (w' := w25) rfl rfl rfl rfl ?_
    simp only [Act.put, sa, sz, ss]
    refine rest_nil (then_normal ?_)
    exact ⟨k + 1, ⟨(slotfn [undef, undef, undef, undef, undef, undef, undef, undef, undef, undef, undef, undef, undef, undef, undef, undef, undef, undef, undef, undef, undef, undef, undef, undef, undef, undef, undef, undef, undef, undef, undef, .int .i64 ((64 * k : Nat) : Int), .slice (some ⟨g9, 0, none⟩) (pn n) cap9, .int .i64 (((pn n) : Nat) : Int), .bool true, .int .i64 ((64 * k : Nat) : Int), .int .i64 (((64 * k) + 64 : Nat) : Int), .agg (ints .u32 (hd (pd f n) k) 8).toArray, .agg (ints .u32 kT 64).toArray, .slice (some ⟨g9, 0, none⟩) (pn n) cap9, .int .i64 ((64 * k : Nat) : Int), .agg (ints .u32 (db (hd (pd f n) k) kT (pd f n) (64 * k)) 8).toArray]), rfl, ⟨H25.out.1, H25.out.2⟩, by omega⟩, by omega⟩
  have hkN : k = nb n := by omega
  subst hkN
  refine wp_seq (wp_seq ?_)
  refine walk_seqA 4 [.quiet (.int .i64 ((64 * (nb n) : Nat) : Int)), .quiet (.slice (some ⟨g9, 0, none⟩) (pn n) cap9), .quiet (.int .i64 (((pn n) : Nat) : Int)), .quiet (.bool false)] (sB H21) ?ho14 ?he14
  case ho14 => exact ak (fun _ => ⟨rfl, fun _ _ => rfl⟩) (ak (fun _ => ⟨rfl, fun _ _ => rfl⟩) (ak (by refine fun γ => ⟨rfl, fun w' h => ?_⟩; clear h; go_simp) (ak (by refine fun γ => ⟨rfl, fun w' h => ?_⟩; clear h; go_simp <;> omega) trivial)))
  intro γ w26 l hM hl
  have H26 := keepK H21 hM.below
  clear hM hl l H21 γ
  refine rest0 rfl (then_normal (wp_cond_false rfl ?_))
  refine wp_exit ?_
  repeat refine then_exit ?_
  refine block_exit ?_
  refine then_normal (wp_seq ?_)
  refine walk_seqA 1 [.made (ints .u8 (fun _ => 0) 32) 25] (sB H26) ?ho15 ?he15
  case ho15 => exact ak (fun γ => ⟨rfl, fun w' => ex_mk25 rfl⟩) trivial
  intro γ w27 l hM hl
  have H27 : Hid (Mm w27 [(γ 0, ints .u8 (fun _ => 0) 32), (γ9_1, ints .u32 kT 64), (γ8_1, ints .u32 (hd (pd f n) (nb n)) 8), (γ1_0, ints .u8 (fun _ => 0) 32)] ∧ _) := growK H26 hM (Nat.le_refl _) hl [0] rfl (by decide)
  have o15_0 := ownK H26 hM (Nat.le_refl _) hl (i := 0) rfl
  clear hM hl l H26
  generalize γ 0 = γ15_0 at H27 o15_0 ⊢
  clear γ
  refine rest0 rfl (then_normal (wp_seq (wp_seq ?_)))
  refine walk_seqA 1 [.quiet (.int .i64 0)] (sB H27) ?ho16 ?he16
  case ho16 => exact ak (fun _ => ⟨rfl, fun _ _ => rfl⟩) trivial
  intro γ w28 l hM hl
  have H28 := keepK H27 hM.below
  clear hM hl l H27 γ
  refine rest0 rfl (then_normal (wp_block ?_))
  refine loop_ghost (α := Nat) (fun i a' w' => ∃ s4 : Nat → Value, a' = ⟨#[.slice (some a) n cp, undef, PT γ1_0 0, .slice (some ⟨g9, 0, none⟩) (pn n) cap9, PT γ8_1 0, PT γ9_1 0, .int .i64 ((64 * (nb n) : Nat) : Int), PT γ15_0 0, .int .i64 ((i : Nat) : Int), .slice (some ⟨γb, 0, none⟩) 0 0, .slice (some a) n cp, v4, v4, .slice (some ⟨γs6, 0, none⟩) 1 1, v7, .slice (some ⟨g3, 0, none⟩) (n + 1 + zc n) cap3, .int .i64 (((n + 1 + zc n) : Nat) : Int), .int .i64 (((n + 1 + zc n) % 64 : Nat) : Int), .bool false, s0 19, s0 20, s0 21, .slice (some ⟨g3, 0, none⟩) (n + 1 + zc n) cap3, .slice (some a) n cp, .int .i64 ((n : Nat) : Int), U (c64 n), U (c64 (8 * c64 n)), .slice (some ⟨g8, 0, none⟩) 8 cap8, .slice (some ⟨g9, 0, none⟩) (pn n) cap9, .agg (ints .u32 fT 8).toArray, .agg (ints .u32 kT 64).toArray, .int .i64 ((64 * (nb n) : Nat) : Int), .slice (some ⟨g9, 0, none⟩) (pn n) cap9, .int .i64 (((pn n) : Nat) : Int), .bool false, s2 35, s2 36, s2 37, s2 38, s2 39, s2 40, s2 41, s4 42, s4 43, s4 44, s4 45, s4 46, s4 47, s4 48, s4 49, s4 50, s4 51, s4 52, s4 53, s4 54, s4 55, s4 56, s4 57, undef], []⟩ ∧ (Mm w' [(γ15_0, ints .u8 (ob (hd (pd f n) (nb n)) i) 32), (γ9_1, ints .u32 kT 64), (γ8_1, ints .u32 (hd (pd f n) (nb n)) 8), (γ1_0, ints .u8 (fun _ => 0) 32)] ∧ Kp γ1_0 w w') ∧ i ≤ 32) (fun i => 32 - i) 0 ?st4 ?rd4
  case st4 => exact ⟨(slotfn [undef, undef, undef, undef, undef, undef, undef, undef, undef, undef, undef, undef, undef, undef, undef, undef, undef, undef, undef, undef, undef, undef, undef, undef, undef, undef, undef, undef, undef, undef, undef, undef, undef, undef, undef, undef, undef, undef, undef, undef, undef, undef, undef, undef, undef, undef, undef, undef, undef, undef, undef, undef, undef, undef, undef, undef, undef, undef]), rfl, ⟨H28.out.1, H28.out.2⟩, by omega⟩
  intro i a' w29 hI
  obtain ⟨s4, rfl, hMB, hk4⟩ := hI
  have H29 : Hid (_ ∧ _) := hMB
  clear hMB H28
  by_cases hlti : i < 32
  · have hrd : True := trivial
    clear hrd
    refine wp_seq (wp_seq ?_)
    refine walk_seqA 2 [.quiet (.int .i64 ((i : Nat) : Int)), .quiet (.bool true)] (sB H29) ?ho17 ?he17
    case ho17 => exact ak (fun _ => ⟨rfl, fun _ _ => rfl⟩) (ak (by refine fun γ => ⟨rfl, fun w' h => ?_⟩; clear h; go_simp <;> omega) trivial)
    intro γ w30 l hM hl
    have H30 := keepK H29 hM.below
    clear hM hl l H29 γ
    refine rest0 rfl (then_normal (wp_cond_true rfl ?_))
    refine wp_skip (then_normal ?_)
    refine wp_seq (wp_block ?_)
    refine walk_seqA 12 [.quiet (.int .i64 ((i : Nat) : Int)), .quiet (.int .i64 ((i : Nat) : Int)), .quiet (.int .i64 ((i / 4 : Nat) : Int)), .quiet (PT γ8_1 (i / 4)), .quiet (W32 ((hd (pd f n) (nb n)) (i / 4))), .quiet (.int .i64 ((i : Nat) : Int)), .quiet (.int .i64 ((i % 4 : Nat) : Int)), .quiet (.int .i64 ((8 * (i % 4) : Nat) : Int)), .quiet (.int .i64 ((24 - (8 * (i % 4)) : Nat) : Int)), .quiet (W32 (sr ((hd (pd f n) (nb n)) (i / 4)) (24 - (8 * (i % 4))))), .quiet (Z8 ((sr ((hd (pd f n) (nb n)) (i / 4)) (24 - (8 * (i % 4)))) % 256)), .quiet (PT γ15_0 i)] (sB H30) ?ho18 ?he18
    case ho18 => exact ak (fun _ => ⟨rfl, fun _ _ => rfl⟩) (ak (fun _ => ⟨rfl, fun _ _ => rfl⟩) (ak (fun γ => ⟨rfl, fun w' _ => ex_quo3 (a := i) (b := 4) (by omega) (by omega) rfl rfl rfl⟩) (ak (fun γ => ⟨rfl, fun w' _ => ex_ix0_52 (j := i / 4) rfl rfl rfl (by omega)⟩) (ak (fun γ => ⟨rfl, fun w' h => ex_loadC h 2 rfl rfl rfl Tryd.isAgg51 (ints_get _ _ (by omega))⟩) (ak (fun _ => ⟨rfl, fun _ _ => rfl⟩) (ak (fun γ => ⟨rfl, fun w' _ => ex_rem3 (a := i) (b := 4) (by omega) (by omega) rfl rfl rfl⟩) (ak (by refine fun γ => ⟨rfl, fun w' h => ?_⟩; clear h; go_simp; rw [IntKind.wrap_i64]; omega) (ak (by refine fun γ => ⟨rfl, fun w' h => ?_⟩; clear h; go_simp; rw [IntKind.wrap_i64]; omega) (ak (fun γ => ⟨rfl, fun w' _ => ex_shr32 (k := 24 - (8 * (i % 4))) (by omega) rfl rfl rfl⟩) (ak (fun γ => ⟨rfl, fun w' _ => ex_cv51_5 rfl rfl⟩) (ak (fun γ => ⟨rfl, fun w' _ => ex_ix0_25 (j := i) rfl rfl rfl (by omega)⟩) trivial)))))))))))
    intro γ w31 l hM hl
    have H31 := keepK H30 hM.below
    clear hM hl l H30 γ
    refine rest_at (l := [12]) rfl ?_
    refine rest_store rfl rfl rfl (ex_storeI H31.out.1 0 rfl rfl Tryd.sizeOf5 rfl rfl (by rw [ints_len]; omega)) ?_
    have H32 : Hid (Mm (w31.setCells γ15_0 i ([Z8 ((sr ((hd (pd f n) (nb n)) (i / 4)) (24 - (8 * (i % 4)))) % 256)])) [(γ15_0, ints .u8 (up (ob (hd (pd f n) (nb n)) i) i ((sr ((hd (pd f n) (nb n)) (i / 4)) (24 - (8 * (i % 4)))) % 256)) 32), (γ9_1, ints .u32 kT 64), (γ8_1, ints .u32 (hd (pd f n) (nb n)) 8), (γ1_0, ints .u8 (fun _ => 0) 32)] ∧ Kp γ1_0 w (w31.setCells γ15_0 i ([Z8 ((sr ((hd (pd f n) (nb n)) (i / 4)) (24 - (8 * (i % 4)))) % 256)]))) := ⟨by
      have h := H31.out.1.put 0 (off := i) (vs := [Z8 ((sr ((hd (pd f n) (nb n)) (i / 4)) (24 - (8 * (i % 4)))) % 256)]) rfl (by rw [ints_len]; simp only [List.length_cons, List.length_nil]; omega)
      rw [ints_patch _ _ _ _ (by omega)] at h
      exact h, H31.out.2.put (Or.inr o15_0.out)⟩
    clear H31
    generalize hgw : World.setCells _ _ _ _ = w32 at H32 ⊢
    clear hgw
    refine rest_nil (block_normal (then_normal ?_))
    refine walk_seqA 2 [.quiet (.int .i64 ((i : Nat) : Int)), .quiet (.int .i64 ((i + 1 : Nat) : Int))] (sB H32) ?ho19 ?he19
    case ho19 => exact ak (fun _ => ⟨rfl, fun _ _ => rfl⟩) (ak (by refine fun γ => ⟨rfl, fun w' h => ?_⟩; clear h; go_simp; rw [IntKind.wrap_i64]; omega) trivial)
    intro γ w33 l hM hl
    have H33 := keepK H32 hM.below
    clear hM hl l H32 γ
    refine rest_at (l := [2]) rfl ?_
    refine rest_set (d := 8) (v := .int .i64 ((i + 1 : Nat) : Int)) (w' := w33) rfl rfl rfl rfl ?_
    simp only [Act.put, sa, sz, ss]
    refine rest_nil (then_normal ?_)
    exact ⟨i + 1, ⟨(slotfn [undef, undef, undef, undef, undef, undef, undef, undef, undef, undef, undef, undef, undef, undef, undef, undef, undef, undef, undef, undef, undef, undef, undef, undef, undef, undef, undef, undef, undef, undef, undef, undef, undef, undef, undef, undef, undef, undef, undef, undef, undef, undef, .int .i64 ((i : Nat) : Int), .bool true, .int .i64 ((i : Nat) : Int), .int .i64 ((i + 1 : Nat) : Int), .int .i64 ((i : Nat) : Int), .int .i64 ((i : Nat) : Int), .int .i64 ((i / 4 : Nat) : Int), PT γ8_1 (i / 4), W32 ((hd (pd f n) (nb n)) (i / 4)), .int .i64 ((i : Nat) : Int), .int .i64 ((i % 4 : Nat) : Int), .int .i64 ((8 * (i % 4) : Nat) : Int), .int .i64 ((24 - (8 * (i % 4)) : Nat) : Int), W32 (sr ((hd (pd f n) (nb n)) (i / 4)) (24 - (8 * (i % 4)))), Z8 ((sr ((hd (pd f n) (nb n)) (i / 4)) (24 - (8 * (i % 4)))) % 256), PT γ15_0 i]), rfl, ⟨H33.out.1, H33.out.2⟩, by omega⟩, by omega⟩
  have hiN : i = 32 := by omega
  subst hiN
  refine wp_seq (wp_seq ?_)
  refine walk_seqA 2 [.quiet (.int .i64 ((32 : Nat) : Int)), .quiet (.bool false)] (sB H29) ?ho20 ?he20
  case ho20 => exact ak (fun _ => ⟨rfl, fun _ _ => rfl⟩) (ak (by refine fun γ => ⟨rfl, fun w' h => ?_⟩; clear h; go_simp <;> omega) trivial)
  intro γ w34 l hM hl
  have H34 := keepK H29 hM.below
  clear hM hl l H29 γ
  refine rest0 rfl (then_normal (wp_cond_false rfl ?_))
  refine wp_exit ?_
  repeat refine then_exit ?_
  refine block_exit ?_
  refine then_normal (wp_seq ?_)
  refine walk_seqA 1 [.quiet (.agg (ints .u8 (ob (hd (pd f n) (nb n)) 32) 32).toArray)] (sB H34) ?ho21 ?he21
  case ho21 => exact ak (fun γ => ⟨rfl, fun w' h => ex_loadT h 0 rfl rfl rfl Tryd.isAgg25 Tryd.sizeOf25 (ints_whole _ _ _) (ints_len _ _ _)⟩) trivial
  intro γ w35 l hM hl
  have H35 := keepK H34 hM.below
  clear hM hl l H34 γ
  refine rest_at (l := [1]) rfl ?_
  refine rest_store rfl rfl rfl (ex_storeT (vs := ints .u8 (ob (hd (pd f n) (nb n)) 32) 32) H35.out.1 3 rfl rfl rfl rfl (by rw [ints_len]; exact Tryd.sizeOf25) (ints_all _ _ _) (by simp [ints_len])) ?_
  have H36 : Hid (Mm (w35.setCells γ1_0 0 (ints .u8 (ob (hd (pd f n) (nb n)) 32) 32)) [(γ15_0, ints .u8 (ob (hd (pd f n) (nb n)) 32) 32), (γ9_1, ints .u32 kT 64), (γ8_1, ints .u32 (hd (pd f n) (nb n)) 8), (γ1_0, ints .u8 (ob (hd (pd f n) (nb n)) 32) 32)] ∧ Kp γ1_0 w (w35.setCells γ1_0 0 (ints .u8 (ob (hd (pd f n) (nb n)) 32) 32))) := ⟨by
    have h := H35.out.1.put 3 (off := 0) (vs := ints .u8 (ob (hd (pd f n) (nb n)) 32) 32) rfl (by simp [ints_len])
    rw [ints_patch0 _ _ _ _] at h
    exact h, H35.out.2.put (Or.inl rfl)⟩
  clear H35
  generalize hgw : World.setCells _ _ _ _ = w36 at H36 ⊢
  clear hgw
  refine rest_nil (then_normal (wp_ret ?_))
  repeat (first | refine then_ret ?_ | refine block_ret ?_)
  have hf0 := var_T H36.out.1 3 rfl Tryd.isAgg25 Tryd.sizeOf25 (ints_len _ _ _)
  refine bodyPost_ret (v := .agg (ints .u8 (ob (hd (pd f n) (nb n)) 32) 32).toArray) (by simp [results, Tryd.results11, asAddr, hf0]) rfl ?_
  exact ⟨rfl, Below.kp HB.out H36.out.2 o1_0.out HB.out.size⟩
set_option maxHeartbeats 4000000 in
set_option maxRecDepth 100000 in
theorem dSum_none (f : Nat → Nat) (n : Nat) (hn : n ≤ 1048576) (h0 : n = 0) (w : World) :
    Calls Tryd.prog 11 #[.slice none 0 0] w fun e w' => e = .returned (.agg (ints .u8 (ds f n) 32).toArray) ∧ Below w.heap.size w w' := by
  have H0 : Hid (_ ∧ _) := ⟨Mm.nil w, Below.refl w.heap.size w⟩
  have hn0 : Hid (n = 0) := h0
  clear h0
  have hz : zc n = (120 - (n + 1) % 64) % 64 := rfl
  have hN : pn n = n + 1 + zc n + 8 := rfl
  have hM := nb_pn n
  go_enter Tryd.func11, Tryd.ntmps11
  refine wp_seq ?_
  refine walk_seqA 1 [.made (ints .u8 (fun _ => 0) 32) 25] (sB H0) ?ho1 ?he1
  case ho1 => exact ak (fun γ => ⟨rfl, fun w' => ex_mk25 rfl⟩) trivial
  intro γ w1 l hM hl
  have H1 : Hid (Mm w1 [(γ 0, ints .u8 (fun _ => 0) 32)] ∧ _) := growB H0 hM (Nat.le_refl _) hl [0] rfl (by decide)
  have o1_0 := ownB H0 hM (Nat.le_refl _) hl (i := 0) rfl
  clear hM hl l
  generalize γ 0 = γ1_0 at H1 o1_0 ⊢
  clear γ
  refine rest0 rfl (then_normal (wp_seq ?_))
  refine walk_seqB 0 [] H1 ?ho2 ?he2
  case ho2 => exact trivial
  intro _ w2 H2
  clear H1
  refine rest_at (l := [0, 1, 2, 3]) rfl ?_
  refine rest_set (d := 9) (v := .slice (some ⟨w2.heap.size, 0, none⟩) 0 0) (w' := (w2.alloc (.cells #[] 5))) rfl rfl rfl (ex_bs0 rfl) ?_
  simp only [Act.put, sa, sz, ss]
  have H3 : Hid (Mm (w2.alloc (.cells #[] 5)) [] ∧ Zo w w2.heap.size [(γ1_0, ints .u8 (fun _ => 0) 32)] (.slice (some ⟨w2.heap.size, 0, none⟩) 0 0) 0 f (w2.alloc (.cells #[] 5))) := ⟨Mm.nil _, Zo.made f H2.out.1 H2.out.2⟩
  clear H2
  generalize hgw : (w2.alloc (.cells #[] 5)) = w3 at H3 ⊢
  clear hgw
  generalize w2.heap.size = γb at H3 ⊢
  refine rest_set (d := 10) (v := .slice none 0 0) (w' := w3) rfl rfl rfl rfl ?_
  simp only [Act.put, sa, sz, ss]
  refine rest_set (d := 11) (v := .slice (some ⟨γb, 0, none⟩) 0 0) (w' := w3) rfl rfl rfl (ex_app rfl rfl rfl (H3.out.2.app0 22)) ?_
  simp only [Act.put, sa, sz, ss]
  have H4 : Hid (Mm w3 [] ∧ Zo w γb [(γ1_0, ints .u8 (fun _ => 0) 32)] (.slice (some ⟨γb, 0, none⟩) 0 0) n f w3) := ⟨Mm.nil _, by rw [hn0.out]; exact H3.out.2⟩
  clear H3
  refine rest_set (d := 3) (v := .slice (some ⟨γb, 0, none⟩) 0 0) (w' := w3) rfl rfl rfl rfl ?_
  simp only [Act.put, sa, sz, ss]
  refine rest_nil (then_normal (wp_seq ?_))
  refine walk_seqA 1 [.quiet (.slice (some ⟨γb, 0, none⟩) 0 0)] (sB H4) ?ho3 ?he3
  case ho3 => exact ak (fun _ => ⟨rfl, fun _ _ => rfl⟩) trivial
  intro γ w5 l hM hl
  have M5 : Mm w5 [] := H4.out.1.grow hM (Nat.le_refl _) hl [] rfl (by decide)
  have B5 : Zo w γb [(γ1_0, ints .u8 (fun _ => 0) 32)] (.slice (some ⟨γb, 0, none⟩) 0 0) n f w5 := Zo.step H4.out.2 (hM.below)
  clear hM hl l H4
  clear γ
  have H5 : Hid (_ ∧ _) := ⟨M5, B5⟩
  clear M5 B5
  refine rest_at (l := [1, 2, 3]) rfl ?_
  refine rest_set (d := 13) (v := .slice (some ⟨w5.heap.size, 0, none⟩) 1 1) (w' := (w5.alloc (.cells ([Z8 128] : List Value).toArray 5))) rfl rfl rfl (ex_bs1 (a := 128) rfl rfl) ?_
  simp only [Act.put, sa, sz, ss]
  have H6 : Hid (Mm (w5.alloc (.cells ([Z8 128] : List Value).toArray 5)) [] ∧ Zo w γb [(γ1_0, ints .u8 (fun _ => 0) 32)] (.slice (some ⟨γb, 0, none⟩) 0 0) n f (w5.alloc (.cells ([Z8 128] : List Value).toArray 5))) := ⟨Mm.nil _, Zo.step H5.out.2 ((Below.refl _ _).alloc (Nat.le_refl _) _)⟩
  have c6 := cell_one w5 128
  have C6 : Hid _ := c6
  clear c6 H5
  generalize hgw : (w5.alloc (.cells ([Z8 128] : List Value).toArray 5)) = w6 at H6 C6 ⊢
  clear hgw
  generalize w5.heap.size = γs6 at C6 ⊢
  obtain ⟨v7, w7, hr, hZ⟩ := H6.out.2.app (a := ⟨γs6, 0, none⟩) 1 1 (fun _ => 128) (C6.out) (by omega) 22
  refine rest_set (d := 14) (v := v7) (w' := w7) rfl rfl rfl (ex_app rfl rfl rfl hr) ?_
  simp only [Act.put, sa, sz, ss]
  have H7 : Hid (Mm w7 [] ∧ Zo w γb [(γ1_0, ints .u8 (fun _ => 0) 32)] v7 (n + 1 + 0) (pz f n) w7) := ⟨Mm.nil _, hZ.cg (ct_snoc (pz_n f n) (pz_f f n))⟩
  clear hr hZ H6
  refine rest_set (d := 3) (v := v7) (w' := w7) rfl rfl rfl rfl ?_
  simp only [Act.put, sa, sz, ss]
  refine rest_nil (then_normal ?_)
  refine wp_seq (wp_block ?_)
  refine loop_ghost (α := Nat) (fun k a' w' => ∃ s0 : Nat → Value, a' = ⟨#[.slice none 0 0, undef, PT γ1_0 0, s0 3, undef, undef, undef, undef, undef, .slice (some ⟨γb, 0, none⟩) 0 0, .slice none 0 0, .slice (some ⟨γb, 0, none⟩) 0 0, .slice (some ⟨γb, 0, none⟩) 0 0, .slice (some ⟨γs6, 0, none⟩) 1 1, v7, s0 15, s0 16, s0 17, s0 18, s0 19, s0 20, s0 21, undef, undef, undef, undef, undef, undef, undef, undef, undef, undef, undef, undef, undef, undef, undef, undef, undef, undef, undef, undef, undef, undef, undef, undef, undef, undef, undef, undef, undef, undef, undef, undef, undef, undef, undef, undef, undef], []⟩ ∧ (Mm w' [] ∧ Zo w γb [(γ1_0, ints .u8 (fun _ => 0) 32)] (s0 3) (n + 1 + k) (pz f n) w') ∧ k ≤ zc n) (fun k => zc n - k) 0 ?st0 ?rd0
  case st0 => exact ⟨(slotfn [undef, undef, undef, v7, undef, undef, undef, undef, undef, undef, undef, undef, undef, undef, undef, undef, undef, undef, undef, undef, undef, undef]), rfl, ⟨H7.out.1, H7.out.2⟩, by omega⟩
  intro k a' w8 hI
  obtain ⟨s0, rfl, hMB, hk0⟩ := hI
  have H8 : Hid (_ ∧ _) := hMB
  clear hMB H7
  by_cases hlt : k < zc n
  · have hrd : True := trivial
    clear hrd
    obtain ⟨g3, cap3, e3⟩ := H8.out.2.form (by omega)
    rw [e3] at H8 ⊢
    clear e3
    refine wp_seq (wp_seq ?_)
    refine walk_seqA 4 [.quiet (.slice (some ⟨g3, 0, none⟩) (n + 1 + k) cap3), .quiet (.int .i64 (((n + 1 + k) : Nat) : Int)), .quiet (.int .i64 (((n + 1 + k) % 64 : Nat) : Int)), .quiet (.bool true)] (sB H8) ?ho4 ?he4
    case ho4 => exact ak (fun _ => ⟨rfl, fun _ _ => rfl⟩) (ak (by refine fun γ => ⟨rfl, fun w' h => ?_⟩; clear h; go_simp) (ak (fun γ => ⟨rfl, fun w' _ => ex_rem3 (a := (n + 1 + k)) (b := 64) (by omega) (by omega) rfl rfl rfl⟩) (ak (by refine fun γ => ⟨rfl, fun w' h => ?_⟩; clear h; go_simp <;> omega) trivial)))
    intro γ w9 l hM hl
    have M9 : Mm w9 [] := H8.out.1.grow hM (Nat.le_refl _) hl [] rfl (by decide)
    have B9 : Zo w γb [(γ1_0, ints .u8 (fun _ => 0) 32)] (.slice (some ⟨g3, 0, none⟩) (n + 1 + k) cap3) (n + 1 + k) (pz f n) w9 := Zo.step H8.out.2 (hM.below)
    clear hM hl l H8
    clear γ
    have H9 : Hid (_ ∧ _) := ⟨M9, B9⟩
    clear M9 B9
    refine rest0 rfl (then_normal (wp_cond_true rfl ?_))
    refine wp_skip (then_normal (wp_block ?_))
    refine walk_seqA 1 [.quiet (.slice (some ⟨g3, 0, none⟩) (n + 1 + k) cap3)] (sB H9) ?ho5 ?he5
    case ho5 => exact ak (fun _ => ⟨rfl, fun _ _ => rfl⟩) trivial
    intro γ w10 l hM hl
    have M10 : Mm w10 [] := H9.out.1.grow hM (Nat.le_refl _) hl [] rfl (by decide)
    have B10 : Zo w γb [(γ1_0, ints .u8 (fun _ => 0) 32)] (.slice (some ⟨g3, 0, none⟩) (n + 1 + k) cap3) (n + 1 + k) (pz f n) w10 := Zo.step H9.out.2 (hM.below)
    clear hM hl l H9
    clear γ
    have H10 : Hid (_ ∧ _) := ⟨M10, B10⟩
    clear M10 B10
    refine rest_at (l := [1, 2, 3]) rfl ?_
    refine rest_set (d := 20) (v := .slice (some ⟨w10.heap.size, 0, none⟩) 1 1) (w' := (w10.alloc (.cells ([Z8 0] : List Value).toArray 5))) rfl rfl rfl (ex_bs1 (a := 0) rfl rfl) ?_
    simp only [Act.put, sa, sz, ss]
    have H11 : Hid (Mm (w10.alloc (.cells ([Z8 0] : List Value).toArray 5)) [] ∧ Zo w γb [(γ1_0, ints .u8 (fun _ => 0) 32)] (.slice (some ⟨g3, 0, none⟩) (n + 1 + k) cap3) (n + 1 + k) (pz f n) (w10.alloc (.cells ([Z8 0] : List Value).toArray 5))) := ⟨Mm.nil _, Zo.step H10.out.2 ((Below.refl _ _).alloc (Nat.le_refl _) _)⟩
    have c11 := cell_one w10 0
    have C11 : Hid _ := c11
    clear c11 H10
    generalize hgw : (w10.alloc (.cells ([Z8 0] : List Value).toArray 5)) = w11 at H11 C11 ⊢
    clear hgw
    generalize w10.heap.size = γs11 at C11 ⊢
    obtain ⟨v12, w12, hr, hZ⟩ := H11.out.2.app (a := ⟨γs11, 0, none⟩) 1 1 (fun _ => 0) (C11.out) (by omega) 22
    refine rest_set (d := 21) (v := v12) (w' := w12) rfl rfl rfl (ex_app rfl rfl rfl hr) ?_
    simp only [Act.put, sa, sz, ss]
    have H12 : Hid (Mm w12 [] ∧ Zo w γb [(γ1_0, ints .u8 (fun _ => 0) 32)] v12 (n + 1 + (k + 1)) (pz f n) w12) := ⟨Mm.nil _, hZ.cg (ct_snoc (pz_z f n k))⟩
    clear hr hZ H11
    refine rest_set (d := 3) (v := v12) (w' := w12) rfl rfl rfl rfl ?_
    simp only [Act.put, sa, sz, ss]
    refine rest_nil (block_normal (then_normal ?_))
    exact ⟨k + 1, ⟨(slotfn [undef, undef, undef, v12, undef, undef, undef, undef, undef, undef, undef, undef, undef, undef, undef, .slice (some ⟨g3, 0, none⟩) (n + 1 + k) cap3, .int .i64 (((n + 1 + k) : Nat) : Int), .int .i64 (((n + 1 + k) % 64 : Nat) : Int), .bool true, .slice (some ⟨g3, 0, none⟩) (n + 1 + k) cap3, .slice (some ⟨γs11, 0, none⟩) 1 1, v12]), rfl, ⟨H12.out.1, H12.out.2⟩, by omega⟩, by omega⟩
  have hkN : k = zc n := by omega
  subst hkN
  obtain ⟨g3, cap3, e3⟩ := H8.out.2.form (by omega)
  rw [e3] at H8 ⊢
  clear e3
  refine wp_seq (wp_seq ?_)
  refine walk_seqA 4 [.quiet (.slice (some ⟨g3, 0, none⟩) (n + 1 + zc n) cap3), .quiet (.int .i64 (((n + 1 + zc n) : Nat) : Int)), .quiet (.int .i64 (((n + 1 + zc n) % 64 : Nat) : Int)), .quiet (.bool false)] (sB H8) ?ho6 ?he6
  case ho6 => exact ak (fun _ => ⟨rfl, fun _ _ => rfl⟩) (ak (by refine fun γ => ⟨rfl, fun w' h => ?_⟩; clear h; go_simp) (ak (fun γ => ⟨rfl, fun w' _ => ex_rem3 (a := (n + 1 + zc n)) (b := 64) (by omega) (by omega) rfl rfl rfl⟩) (ak (by refine fun γ => ⟨rfl, fun w' h => ?_⟩; clear h; go_simp <;> omega) trivial)))
  intro γ w13 l hM hl
  have M13 : Mm w13 [] := H8.out.1.grow hM (Nat.le_refl _) hl [] rfl (by decide)
  have B13 : Zo w γb [(γ1_0, ints .u8 (fun _ => 0) 32)] (.slice (some ⟨g3, 0, none⟩) (n + 1 + zc n) cap3) (n + 1 + zc n) (pz f n) w13 := Zo.step H8.out.2 (hM.below)
  clear hM hl l H8
  clear γ
  have H13 : Hid (_ ∧ _) := ⟨M13, B13⟩
  clear M13 B13
  refine rest0 rfl (then_normal (wp_cond_false rfl ?_))
  refine wp_exit ?_
  repeat refine then_exit ?_
  refine block_exit ?_
  refine then_normal (wp_seq ?_)
  refine walk_seqA 5 [.quiet (.slice (some ⟨g3, 0, none⟩) (n + 1 + zc n) cap3), .quiet (.slice none 0 0), .quiet (.int .i64 ((n : Nat) : Int)), .quiet (U (c64 n)), .quiet (U (c64 (8 * c64 n)))] (sB H13) ?ho7 ?he7
  case ho7 => exact ak (fun _ => ⟨rfl, fun _ _ => rfl⟩) (ak (fun _ => ⟨rfl, fun _ _ => rfl⟩) (ak (by refine fun γ => ⟨rfl, fun w' h => ?_⟩; clear h; rw [hn0.out]; go_simp) (ak (fun γ => ⟨rfl, fun w' _ => ex_cv3_56 (a := n) rfl rfl⟩) (ak (fun γ => ⟨rfl, fun w' _ => ex_mul64 rfl rfl rfl⟩) trivial))))
  intro γ w14 l hM hl
  have M14 : Mm w14 [] := H13.out.1.grow hM (Nat.le_refl _) hl [] rfl (by decide)
  have B14 : Zo w γb [(γ1_0, ints .u8 (fun _ => 0) 32)] (.slice (some ⟨g3, 0, none⟩) (n + 1 + zc n) cap3) (n + 1 + zc n) (pz f n) w14 := Zo.step H13.out.2 (hM.below)
  clear hM hl l H13
  clear γ
  have H14 : Hid (_ ∧ _) := ⟨M14, B14⟩
  clear M14 B14
  refine rest_at (l := [5, 6, 7]) rfl ?_
  refine rest_enter (d := 27) rfl rfl rfl (exec_call (args := #[U (c64 (8 * c64 n))]) rfl call31 rfl (mpn rfl)) ((Calls.mono (Eight_any (c64 (8 * (c64 n))) w14) (fun e w2 hh => by obtain ⟨hb, g, cap, he, hR⟩ := hh; exact ⟨_, he, hb, g, cap, rfl, hR⟩) : Calls Tryd.prog 31 #[U (c64 (8 * (c64 n)))] w14 (fun e w' => ∃ v, e = .returned v ∧ (Below w14.heap.size w14 w' ∧ ∃ g cap, v = .slice (some ⟨g, 0, none⟩) 8 cap ∧ Rs g 0 8 (b8 (c64 (8 * (c64 n)))) w')))) ?_
  rintro _ w15 ⟨hb, g8, cap8, rfl, hR8⟩
  have H15 : Hid (Mm w15 [] ∧ Zo w γb [(γ1_0, ints .u8 (fun _ => 0) 32)] (.slice (some ⟨g3, 0, none⟩) (n + 1 + zc n) cap3) (n + 1 + zc n) (pz f n) w15) := ⟨Mm.nil _, Zo.step H14.out.2 hb⟩
  have R8 : Hid _ := hR8
  clear hb hR8 H14
  simp only [Act.put, sa, sz, ss]
  obtain ⟨v16, w16, hr, hZ⟩ := H15.out.2.app (a := ⟨g8, 0, none⟩) 8 cap8 (b8 (c64 (8 * (c64 n)))) (R8.out.add) (by omega) 22
  refine rest_set (d := 28) (v := v16) (w' := w16) rfl rfl rfl (ex_app rfl rfl rfl hr) ?_
  simp only [Act.put, sa, sz, ss]
  have H16 : Hid (Mm w16 [] ∧ Zo w γb [(γ1_0, ints .u8 (fun _ => 0) 32)] v16 (pn n) (pd f n) w16) := ⟨Mm.nil _, hZ⟩
  clear hr hZ H15
  refine rest_set (d := 3) (v := v16) (w' := w16) rfl rfl rfl rfl ?_
  simp only [Act.put, sa, sz, ss]
  refine rest_nil ?_
  obtain ⟨g9, cap9, e9⟩ := H16.out.2.form (by omega)
  rw [e9] at H16 ⊢
  have HB : Hid _ := H16.out.2.b
  have HM := H16.out.2.m
  have HR : Hid (Rs g9 0 (pn n) (pd f n) w16) := H16.out.2.rs
  have HN : Hid (g9 ≠ γ1_0) := (by have a1 := (World.ownsRow.lt H16.out.2.own g9 rfl).1; have a2 := H16.out.2.lt _ (List.mem_singleton.2 rfl); intro e; have a3 : γ1_0 < γb := a2; omega : g9 ≠ γ1_0)
  clear H16 e9
  generalize w16 = w at HB HM HR ⊢
  have H17 : Hid (_ ∧ _) := ⟨HM, Kp.refl γ1_0 w⟩
  clear HM
  refine then_normal (wp_seq ?_)
  refine walk_seqA 3 [.call (.agg (ints .u32 fT 8).toArray), .made (ints .u32 (fun _ => 0) 8) 52, .laid 1 (ints .u32 (fun _ => 0) 8) (ints .u32 fT 8)] (sB H17) ?ho8 ?he8 (hL := ?hL8)
  case hL8 => exact ⟨⟨_, rfl⟩, trivial⟩
  case ho8 => exact ak (fun γ => ⟨rfl, fun w' h => ⟨32, #[], exec_call rfl call32 rfl (mpn rfl), begin_any w'⟩⟩) (ak (fun γ => ⟨rfl, fun w' => ex_mk52 rfl⟩) (ak (fun γ => ⟨rfl, rfl, (ints_len _ _ _).trans (ints_len _ _ _).symm, fun w' h => ex_laidI h Tryd.sizeOf52 rfl rfl rfl⟩) trivial))
  intro γ w18 l hM hl
  have H18 : Hid (Mm w18 [(γ 1, ints .u32 fT 8), (γ1_0, ints .u8 (fun _ => 0) 32)] ∧ _) := growK H17 hM (Nat.le_refl _) hl [1] rfl (by decide)
  have o8_1 := ownK H17 hM (Nat.le_refl _) hl (i := 1) rfl
  clear hM hl l H17
  generalize γ 1 = γ8_1 at H18 o8_1 ⊢
  clear γ
  refine rest0 rfl (then_normal (wp_seq ?_))
  refine walk_seqA 3 [.call (.agg (ints .u32 kT 64).toArray), .made (ints .u32 (fun _ => 0) 64) 66, .laid 1 (ints .u32 (fun _ => 0) 64) (ints .u32 kT 64)] (sB H18) ?ho9 ?he9 (hL := ?hL9)
  case hL9 => exact ⟨⟨_, rfl⟩, trivial⟩
  case ho9 => exact ak (fun γ => ⟨rfl, fun w' h => ⟨33, #[], exec_call rfl call33 rfl (mpn rfl), table_any w'⟩⟩) (ak (fun γ => ⟨rfl, fun w' => ex_mk66 rfl⟩) (ak (fun γ => ⟨rfl, rfl, (ints_len _ _ _).trans (ints_len _ _ _).symm, fun w' h => ex_laidI h Tryd.sizeOf66 rfl rfl rfl⟩) trivial))
  intro γ w19 l hM hl
  have H19 : Hid (Mm w19 [(γ 1, ints .u32 kT 64), (γ8_1, ints .u32 fT 8), (γ1_0, ints .u8 (fun _ => 0) 32)] ∧ _) := growK H18 hM (Nat.le_refl _) hl [1] rfl (by decide)
  have o9_1 := ownK H18 hM (Nat.le_refl _) hl (i := 1) rfl
  clear hM hl l H18
  generalize γ 1 = γ9_1 at H19 o9_1 ⊢
  clear γ
  refine rest0 rfl (then_normal (wp_seq (wp_seq ?_)))
  refine walk_seqA 1 [.quiet (.int .i64 0)] (sB H19) ?ho10 ?he10
  case ho10 => exact ak (fun _ => ⟨rfl, fun _ _ => rfl⟩) trivial
  intro γ w20 l hM hl
  have H20 := keepK H19 hM.below
  clear hM hl l H19 γ
  refine rest0 rfl (then_normal (wp_block ?_))
  refine loop_ghost (α := Nat) (fun k a' w' => ∃ s2 : Nat → Value, a' = ⟨#[.slice none 0 0, undef, PT γ1_0 0, .slice (some ⟨g9, 0, none⟩) (pn n) cap9, PT γ8_1 0, PT γ9_1 0, .int .i64 ((64 * k : Nat) : Int), undef, undef, .slice (some ⟨γb, 0, none⟩) 0 0, .slice none 0 0, .slice (some ⟨γb, 0, none⟩) 0 0, .slice (some ⟨γb, 0, none⟩) 0 0, .slice (some ⟨γs6, 0, none⟩) 1 1, v7, .slice (some ⟨g3, 0, none⟩) (n + 1 + zc n) cap3, .int .i64 (((n + 1 + zc n) : Nat) : Int), .int .i64 (((n + 1 + zc n) % 64 : Nat) : Int), .bool false, s0 19, s0 20, s0 21, .slice (some ⟨g3, 0, none⟩) (n + 1 + zc n) cap3, .slice none 0 0, .int .i64 ((n : Nat) : Int), U (c64 n), U (c64 (8 * c64 n)), .slice (some ⟨g8, 0, none⟩) 8 cap8, .slice (some ⟨g9, 0, none⟩) (pn n) cap9, .agg (ints .u32 fT 8).toArray, .agg (ints .u32 kT 64).toArray, s2 31, s2 32, s2 33, s2 34, s2 35, s2 36, s2 37, s2 38, s2 39, s2 40, s2 41, undef, undef, undef, undef, undef, undef, undef, undef, undef, undef, undef, undef, undef, undef, undef, undef, undef], []⟩ ∧ (Mm w' [(γ9_1, ints .u32 kT 64), (γ8_1, ints .u32 (hd (pd f n) k) 8), (γ1_0, ints .u8 (fun _ => 0) 32)] ∧ Kp γ1_0 w w') ∧ k ≤ nb n) (fun k => nb n - k) 0 ?st2 ?rd2
  case st2 => exact ⟨(slotfn [undef, undef, undef, undef, undef, undef, undef, undef, undef, undef, undef, undef, undef, undef, undef, undef, undef, undef, undef, undef, undef, undef, undef, undef, undef, undef, undef, undef, undef, undef, undef, undef, undef, undef, undef, undef, undef, undef, undef, undef, undef, undef]), rfl, ⟨H20.out.1, H20.out.2⟩, by omega⟩
  intro k a' w21 hI
  obtain ⟨s2, rfl, hMB, hk2⟩ := hI
  have H21 : Hid (_ ∧ _) := hMB
  clear hMB H20
  by_cases hltk : k < nb n
  · have hrd : True := trivial
    clear hrd
    refine wp_seq (wp_seq ?_)
    refine walk_seqA 4 [.quiet (.int .i64 ((64 * k : Nat) : Int)), .quiet (.slice (some ⟨g9, 0, none⟩) (pn n) cap9), .quiet (.int .i64 (((pn n) : Nat) : Int)), .quiet (.bool true)] (sB H21) ?ho11 ?he11
    case ho11 => exact ak (fun _ => ⟨rfl, fun _ _ => rfl⟩) (ak (fun _ => ⟨rfl, fun _ _ => rfl⟩) (ak (by refine fun γ => ⟨rfl, fun w' h => ?_⟩; clear h; go_simp) (ak (by refine fun γ => ⟨rfl, fun w' h => ?_⟩; clear h; go_simp <;> omega) trivial)))
    intro γ w22 l hM hl
    have H22 := keepK H21 hM.below
    clear hM hl l H21 γ
    refine rest0 rfl (then_normal (wp_cond_true rfl ?_))
    refine wp_skip (then_normal ?_)
    refine wp_seq (wp_block ?_)
    refine (walk_seq) 5 [.quiet (.agg (ints .u32 (hd (pd f n) k) 8).toArray), .quiet (.agg (ints .u32 kT 64).toArray), .quiet (.slice (some ⟨g9, 0, none⟩) (pn n) cap9), .quiet (.int .i64 ((64 * k : Nat) : Int)), .call (.agg (ints .u32 (db (hd (pd f n) k) kT (pd f n) (64 * k)) 8).toArray)] (fun u' => Mm u' [(γ9_1, ints .u32 kT 64), (γ8_1, ints .u32 (hd (pd f n) k) 8), (γ1_0, ints .u8 (fun _ => 0) 32)] ∧ Rs g9 0 (pn n) (pd f n) u') ?pre12 ?F12 ?hpre12 (fun γ => ?hF12) (by kernel_rfl) ?hL12 ?hS12 ?ho12 ?he12
    case hpre12 => simp only [tk, tz]; rfl
    case hF12 => simp only [fill, Kind.val, Act.put, sa, sz, ss]; rfl
    case hL12 => exact trivial
    case hS12 => exact fun w' hb => ⟨H22.out.1.below hb, HR.out.kp2 (H22.out.2.trans (hb)) HN.out⟩
    case ho12 =>
      refine ak (fun γ => ⟨rfl, fun w' hX => have h := hX.1; ex_loadT h 1 rfl rfl rfl Tryd.isAgg52 Tryd.sizeOf52 (ints_whole _ _ _) (ints_len _ _ _)⟩) ?_
      refine ak (fun γ => ⟨rfl, fun w' hX => have h := hX.1; ex_loadT h 0 rfl rfl rfl Tryd.isAgg66 Tryd.sizeOf66 (ints_whole _ _ _) (ints_len _ _ _)⟩) ?_
      refine ak (fun _ => ⟨rfl, fun _ _ => rfl⟩) ?_
      refine ak (fun _ => ⟨rfl, fun _ _ => rfl⟩) ?_
      refine ak (fun γ => ⟨rfl, fun w' hX => ⟨34, #[.agg (ints .u32 (hd (pd f n) k) 8).toArray, .agg (ints .u32 kT 64).toArray, .slice (some ⟨g9, 0, none⟩) (pn n) cap9, .int .i64 ((64 * k : Nat) : Int)], exec_call rfl call34 rfl (mpn rfl), block_any (hd (pd f n) k) kT (pd f n) g9 (pn n) cap9 (64 * k) (by omega) (by omega) w' hX.2⟩⟩) ?_
      exact trivial
    intro γ w23 l hM hl
    have H23 := keepK H22 hM.below
    clear hM hl l H22 γ
    refine rest_at (l := [5]) rfl ?_
    refine rest_store rfl rfl rfl (ex_storeT (vs := ints .u32 (db (hd (pd f n) k) kT (pd f n) (64 * k)) 8) H23.out.1 1 rfl rfl rfl rfl (by rw [ints_len]; exact Tryd.sizeOf52) (ints_all _ _ _) (by simp [ints_len])) ?_
    have H24 : Hid (Mm (w23.setCells γ8_1 0 (ints .u32 (db (hd (pd f n) k) kT (pd f n) (64 * k)) 8)) [(γ9_1, ints .u32 kT 64), (γ8_1, ints .u32 (db (hd (pd f n) k) kT (pd f n) (64 * k)) 8), (γ1_0, ints .u8 (fun _ => 0) 32)] ∧ Kp γ1_0 w (w23.setCells γ8_1 0 (ints .u32 (db (hd (pd f n) k) kT (pd f n) (64 * k)) 8))) := ⟨by
      have h := H23.out.1.put 1 (off := 0) (vs := ints .u32 (db (hd (pd f n) k) kT (pd f n) (64 * k)) 8) rfl (by simp [ints_len])
      rw [ints_patch0 _ _ _ _] at h
      exact h, H23.out.2.put (Or.inr o8_1.out)⟩
    clear H23
    generalize hgw : World.setCells _ _ _ _ = w24 at H24 ⊢
    clear hgw
    refine rest_nil (block_normal (then_normal ?_))
    refine walk_seqA 2 [.quiet (.int .i64 ((64 * k : Nat) : Int)), .quiet (.int .i64 (((64 * k) + 64 : Nat) : Int))] (sB H24) ?ho13 ?he13
    case ho13 => exact ak (fun _ => ⟨rfl, fun _ _ => rfl⟩) (ak (by refine fun γ => ⟨rfl, fun w' h => ?_⟩; clear h; go_simp; rw [IntKind.wrap_i64]; omega) trivial)
    intro γ w25 l hM hl
    have H25 := keepK H24 hM.below
    clear hM hl l H24 γ
    refine rest_at (l := [2]) rfl ?_
    refine rest_set (d := 6) (v := .int .i64 (((64 * k) + 64 : Nat) : Int)) (w' := w25) rfl rfl rfl rfl ?_
    simp only [Act.put, sa, sz, ss]
    refine rest_nil (then_normal ?_)
    exact ⟨k + 1, ⟨(slotfn [undef, undef, undef, undef, undef, undef, undef, undef, undef, undef, undef, undef, undef, undef, undef, undef, undef, undef, undef, undef, undef, undef, undef, undef, undef, undef, undef, undef, undef, undef, undef, .int .i64 ((64 * k : Nat) : Int), .slice (some ⟨g9, 0, none⟩) (pn n) cap9, .int .i64 (((pn n) : Nat) : Int), .bool true, .int .i64 ((64 * k : Nat) : Int), .int .i64 (((64 * k) + 64 : Nat) : Int), .agg (ints .u32 (hd (pd f n) k) 8).toArray, .agg (ints .u32 kT 64).toArray, .slice (some ⟨g9, 0, none⟩) (pn n) cap9, .int .i64 ((64 * k : Nat) : Int), .agg (ints .u32 (db (hd (pd f n) k) kT (pd f n) (64 * k)) 8).toArray]), rfl, ⟨H25.out.1, H25.out.2⟩, by omega⟩, by omega⟩
  have hkN : k = nb n := by omega
  subst hkN
  refine wp_seq (wp_seq ?_)
  refine walk_seqA 4 [.quiet (.int .i64 ((64 * (nb n) : Nat) : Int)), .quiet (.slice (some ⟨g9, 0, none⟩) (pn n) cap9), .quiet (.int .i64 (((pn n) : Nat) : Int)), .quiet (.bool false)] (sB H21) ?ho14 ?he14
  case ho14 => exact ak (fun _ => ⟨rfl, fun _ _ => rfl⟩) (ak (fun _ => ⟨rfl, fun _ _ => rfl⟩) (ak (by refine fun γ => ⟨rfl, fun w' h => ?_⟩; clear h; go_simp) (ak (by refine fun γ => ⟨rfl, fun w' h => ?_⟩; clear h; go_simp <;> omega) trivial)))
  intro γ w26 l hM hl
  have H26 := keepK H21 hM.below
  clear hM hl l H21 γ
  refine rest0 rfl (then_normal (wp_cond_false rfl ?_))
  refine wp_exit ?_
  repeat refine then_exit ?_
  refine block_exit ?_
  refine then_normal (wp_seq ?_)
  refine walk_seqA 1 [.made (ints .u8 (fun _ => 0) 32) 25] (sB H26) ?ho15 ?he15
  case ho15 => exact ak (fun γ => ⟨rfl, fun w' => ex_mk25 rfl⟩) trivial
  intro γ w27 l hM hl
  have H27 : Hid (Mm w27 [(γ 0, ints .u8 (fun _ => 0) 32), (γ9_1, ints .u32 kT 64), (γ8_1, ints .u32 (hd (pd f n) (nb n)) 8), (γ1_0, ints .u8 (fun _ => 0) 32)] ∧ _) := growK H26 hM (Nat.le_refl _) hl [0] rfl (by decide)
  have o15_0 := ownK H26 hM (Nat.le_refl _) hl (i := 0) rfl
  clear hM hl l H26
  generalize γ 0 = γ15_0 at H27 o15_0 ⊢
  clear γ
  refine rest0 rfl (then_normal (wp_seq (wp_seq ?_)))
  refine walk_seqA 1 [.quiet (.int .i64 0)] (sB H27) ?ho16 ?he16
  case ho16 => exact ak (fun _ => ⟨rfl, fun _ _ => rfl⟩) trivial
  intro γ w28 l hM hl
  have H28 := keepK H27 hM.below
  clear hM hl l H27 γ
  refine rest0 rfl (then_normal (wp_block ?_))
  refine loop_ghost (α := Nat) (fun i a' w' => ∃ s4 : Nat → Value, a' = ⟨#[.slice none 0 0, undef, PT γ1_0 0, .slice (some ⟨g9, 0, none⟩) (pn n) cap9, PT γ8_1 0, PT γ9_1 0, .int .i64 ((64 * (nb n) : Nat) : Int), PT γ15_0 0, .int .i64 ((i : Nat) : Int), .slice (some ⟨γb, 0, none⟩) 0 0, .slice none 0 0, .slice (some ⟨γb, 0, none⟩) 0 0, .slice (some ⟨γb, 0, none⟩) 0 0, .slice (some ⟨γs6, 0, none⟩) 1 1, v7, .slice (some ⟨g3, 0, none⟩) (n + 1 + zc n) cap3, .int .i64 (((n + 1 + zc n) : Nat) : Int), .int .i64 (((n + 1 + zc n) % 64 : Nat) : Int), .bool false, s0 19, s0 20, s0 21, .slice (some ⟨g3, 0, none⟩) (n + 1 + zc n) cap3, .slice none 0 0, .int .i64 ((n : Nat) : Int), U (c64 n), U (c64 (8 * c64 n)), .slice (some ⟨g8, 0, none⟩) 8 cap8, .slice (some ⟨g9, 0, none⟩) (pn n) cap9, .agg (ints .u32 fT 8).toArray, .agg (ints .u32 kT 64).toArray, .int .i64 ((64 * (nb n) : Nat) : Int), .slice (some ⟨g9, 0, none⟩) (pn n) cap9, .int .i64 (((pn n) : Nat) : Int), .bool false, s2 35, s2 36, s2 37, s2 38, s2 39, s2 40, s2 41, s4 42, s4 43, s4 44, s4 45, s4 46, s4 47, s4 48, s4 49, s4 50, s4 51, s4 52, s4 53, s4 54, s4 55, s4 56, s4 57, undef], []⟩ ∧ (Mm w' [(γ15_0, ints .u8 (ob (hd (pd f n) (nb n)) i) 32), (γ9_1, ints .u32 kT 64), (γ8_1, ints .u32 (hd (pd f n) (nb n)) 8), (γ1_0, ints .u8 (fun _ => 0) 32)] ∧ Kp γ1_0 w w') ∧ i ≤ 32) (fun i => 32 - i) 0 ?st4 ?rd4
  case st4 => exact ⟨(slotfn [undef, undef, undef, undef, undef, undef, undef, undef, undef, undef, undef, undef, undef, undef, undef, undef, undef, undef, undef, undef, undef, undef, undef, undef, undef, undef, undef, undef, undef, undef, undef, undef, undef, undef, undef, undef, undef, undef, undef, undef, undef, undef, undef, undef, undef, undef, undef, undef, undef, undef, undef, undef, undef, undef, undef, undef, undef, undef]), rfl, ⟨H28.out.1, H28.out.2⟩, by omega⟩
  intro i a' w29 hI
  obtain ⟨s4, rfl, hMB, hk4⟩ := hI
  have H29 : Hid (_ ∧ _) := hMB
  clear hMB H28
  by_cases hlti : i < 32
  · have hrd : True := trivial
    clear hrd
    refine wp_seq (wp_seq ?_)
    refine walk_seqA 2 [.quiet (.int .i64 ((i : Nat) : Int)), .quiet (.bool true)] (sB H29) ?ho17 ?he17
    case ho17 => exact ak (fun _ => ⟨rfl, fun _ _ => rfl⟩) (ak (by refine fun γ => ⟨rfl, fun w' h => ?_⟩; clear h; go_simp <;> omega) trivial)
    intro γ w30 l hM hl
    have H30 := keepK H29 hM.below
    clear hM hl l H29 γ
    refine rest0 rfl (then_normal (wp_cond_true rfl ?_))
    refine wp_skip (then_normal ?_)
    refine wp_seq (wp_block ?_)
    refine walk_seqA 12 [.quiet (.int .i64 ((i : Nat) : Int)), .quiet (.int .i64 ((i : Nat) : Int)), .quiet (.int .i64 ((i / 4 : Nat) : Int)), .quiet (PT γ8_1 (i / 4)), .quiet (W32 ((hd (pd f n) (nb n)) (i / 4))), .quiet (.int .i64 ((i : Nat) : Int)), .quiet (.int .i64 ((i % 4 : Nat) : Int)), .quiet (.int .i64 ((8 * (i % 4) : Nat) : Int)), .quiet (.int .i64 ((24 - (8 * (i % 4)) : Nat) : Int)), .quiet (W32 (sr ((hd (pd f n) (nb n)) (i / 4)) (24 - (8 * (i % 4))))), .quiet (Z8 ((sr ((hd (pd f n) (nb n)) (i / 4)) (24 - (8 * (i % 4)))) % 256)), .quiet (PT γ15_0 i)] (sB H30) ?ho18 ?he18
    case ho18 => exact ak (fun _ => ⟨rfl, fun _ _ => rfl⟩) (ak (fun _ => ⟨rfl, fun _ _ => rfl⟩) (ak (fun γ => ⟨rfl, fun w' _ => ex_quo3 (a := i) (b := 4) (by omega) (by omega) rfl rfl rfl⟩) (ak (fun γ => ⟨rfl, fun w' _ => ex_ix0_52 (j := i / 4) rfl rfl rfl (by omega)⟩) (ak (fun γ => ⟨rfl, fun w' h => ex_loadC h 2 rfl rfl rfl Tryd.isAgg51 (ints_get _ _ (by omega))⟩) (ak (fun _ => ⟨rfl, fun _ _ => rfl⟩) (ak (fun γ => ⟨rfl, fun w' _ => ex_rem3 (a := i) (b := 4) (by omega) (by omega) rfl rfl rfl⟩) (ak (by refine fun γ => ⟨rfl, fun w' h => ?_⟩; clear h; go_simp; rw [IntKind.wrap_i64]; omega) (ak (by refine fun γ => ⟨rfl, fun w' h => ?_⟩; clear h; go_simp; rw [IntKind.wrap_i64]; omega) (ak (fun γ => ⟨rfl, fun w' _ => ex_shr32 (k := 24 - (8 * (i % 4))) (by omega) rfl rfl rfl⟩) (ak (fun γ => ⟨rfl, fun w' _ => ex_cv51_5 rfl rfl⟩) (ak (fun γ => ⟨rfl, fun w' _ => ex_ix0_25 (j := i) rfl rfl rfl (by omega)⟩) trivial)))))))))))
    intro γ w31 l hM hl
    have H31 := keepK H30 hM.below
    clear hM hl l H30 γ
    refine rest_at (l := [12]) rfl ?_
    refine rest_store rfl rfl rfl (ex_storeI H31.out.1 0 rfl rfl Tryd.sizeOf5 rfl rfl (by rw [ints_len]; omega)) ?_
    have H32 : Hid (Mm (w31.setCells γ15_0 i ([Z8 ((sr ((hd (pd f n) (nb n)) (i / 4)) (24 - (8 * (i % 4)))) % 256)])) [(γ15_0, ints .u8 (up (ob (hd (pd f n) (nb n)) i) i ((sr ((hd (pd f n) (nb n)) (i / 4)) (24 - (8 * (i % 4)))) % 256)) 32), (γ9_1, ints .u32 kT 64), (γ8_1, ints .u32 (hd (pd f n) (nb n)) 8), (γ1_0, ints .u8 (fun _ => 0) 32)] ∧ Kp γ1_0 w (w31.setCells γ15_0 i ([Z8 ((sr ((hd (pd f n) (nb n)) (i / 4)) (24 - (8 * (i % 4)))) % 256)]))) := ⟨by
      have h := H31.out.1.put 0 (off := i) (vs := [Z8 ((sr ((hd (pd f n) (nb n)) (i / 4)) (24 - (8 * (i % 4)))) % 256)]) rfl (by rw [ints_len]; simp only [List.length_cons, List.length_nil]; omega)
      rw [ints_patch _ _ _ _ (by omega)] at h
      exact h, H31.out.2.put (Or.inr o15_0.out)⟩
    clear H31
    generalize hgw : World.setCells _ _ _ _ = w32 at H32 ⊢
    clear hgw
    refine rest_nil (block_normal (then_normal ?_))
    refine walk_seqA 2 [.quiet (.int .i64 ((i : Nat) : Int)), .quiet (.int .i64 ((i + 1 : Nat) : Int))] (sB H32) ?ho19 ?he19
    case ho19 => exact ak (fun _ => ⟨rfl, fun _ _ => rfl⟩) (ak (by refine fun γ => ⟨rfl, fun w' h => ?_⟩; clear h; go_simp; rw [IntKind.wrap_i64]; omega) trivial)
    intro γ w33 l hM hl
    have H33 := keepK H32 hM.below
    clear hM hl l H32 γ
    refine rest_at (l := [2]) rfl ?_
    refine rest_set (d := 8) (v := .int .i64 ((i + 1 : Nat) : Int)) (w' := w33) rfl rfl rfl rfl ?_
    simp only [Act.put, sa, sz, ss]
    refine rest_nil (then_normal ?_)
    exact ⟨i + 1, ⟨(slotfn [undef, undef, undef, undef, undef, undef, undef, undef, undef, undef, undef, undef, undef, undef, undef, undef, undef, undef, undef, undef, undef, undef, undef, undef, undef, undef, undef, undef, undef, undef, undef, undef, undef, undef, undef, undef, undef, undef, undef, undef, undef, undef, .int .i64 ((i : Nat) : Int), .bool true, .int .i64 ((i : Nat) : Int), .int .i64 ((i + 1 : Nat) : Int), .int .i64 ((i : Nat) : Int), .int .i64 ((i : Nat) : Int), .int .i64 ((i / 4 : Nat) : Int), PT γ8_1 (i / 4), W32 ((hd (pd f n) (nb n)) (i / 4)), .int .i64 ((i : Nat) : Int), .int .i64 ((i % 4 : Nat) : Int), .int .i64 ((8 * (i % 4) : Nat) : Int), .int .i64 ((24 - (8 * (i % 4)) : Nat) : Int), W32 (sr ((hd (pd f n) (nb n)) (i / 4)) (24 - (8 * (i % 4)))), Z8 ((sr ((hd (pd f n) (nb n)) (i / 4)) (24 - (8 * (i % 4)))) % 256), PT γ15_0 i]), rfl, ⟨H33.out.1, H33.out.2⟩, by omega⟩, by omega⟩
  have hiN : i = 32 := by omega
  subst hiN
  refine wp_seq (wp_seq ?_)
  refine walk_seqA 2 [.quiet (.int .i64 ((32 : Nat) : Int)), .quiet (.bool false)] (sB H29) ?ho20 ?he20
  case ho20 => exact ak (fun _ => ⟨rfl, fun _ _ => rfl⟩) (ak (by refine fun γ => ⟨rfl, fun w' h => ?_⟩; clear h; go_simp <;> omega) trivial)
  intro γ w34 l hM hl
  have H34 := keepK H29 hM.below
  clear hM hl l H29 γ
  refine rest0 rfl (then_normal (wp_cond_false rfl ?_))
  refine wp_exit ?_
  repeat refine then_exit ?_
  refine block_exit ?_
  refine then_normal (wp_seq ?_)
  refine walk_seqA 1 [.quiet (.agg (ints .u8 (ob (hd (pd f n) (nb n)) 32) 32).toArray)] (sB H34) ?ho21 ?he21
  case ho21 => exact ak (fun γ => ⟨rfl, fun w' h => ex_loadT h 0 rfl rfl rfl Tryd.isAgg25 Tryd.sizeOf25 (ints_whole _ _ _) (ints_len _ _ _)⟩) trivial
  intro γ w35 l hM hl
  have H35 := keepK H34 hM.below
  clear hM hl l H34 γ
  refine rest_at (l := [1]) rfl ?_
  refine rest_store rfl rfl rfl (ex_storeT (vs := ints .u8 (ob (hd (pd f n) (nb n)) 32) 32) H35.out.1 3 rfl rfl rfl rfl (by rw [ints_len]; exact Tryd.sizeOf25) (ints_all _ _ _) (by simp [ints_len])) ?_
  have H36 : Hid (Mm (w35.setCells γ1_0 0 (ints .u8 (ob (hd (pd f n) (nb n)) 32) 32)) [(γ15_0, ints .u8 (ob (hd (pd f n) (nb n)) 32) 32), (γ9_1, ints .u32 kT 64), (γ8_1, ints .u32 (hd (pd f n) (nb n)) 8), (γ1_0, ints .u8 (ob (hd (pd f n) (nb n)) 32) 32)] ∧ Kp γ1_0 w (w35.setCells γ1_0 0 (ints .u8 (ob (hd (pd f n) (nb n)) 32) 32))) := ⟨by
    have h := H35.out.1.put 3 (off := 0) (vs := ints .u8 (ob (hd (pd f n) (nb n)) 32) 32) rfl (by simp [ints_len])
    rw [ints_patch0 _ _ _ _] at h
    exact h, H35.out.2.put (Or.inl rfl)⟩
  clear H35
  generalize hgw : World.setCells _ _ _ _ = w36 at H36 ⊢
  clear hgw
  refine rest_nil (then_normal (wp_ret ?_))
  repeat (first | refine then_ret ?_ | refine block_ret ?_)
  have hf0 := var_T H36.out.1 3 rfl Tryd.isAgg25 Tryd.sizeOf25 (ints_len _ _ _)
  refine bodyPost_ret (v := .agg (ints .u8 (ob (hd (pd f n) (nb n)) 32) 32).toArray) (by simp [results, Tryd.results11, asAddr, hf0]) rfl ?_
  exact ⟨rfl, Below.kp HB.out H36.out.2 o1_0.out HB.out.size⟩
/-- The digest of bytes, as the document has it. -/
theorem dSum_any (f : Nat → Nat) (n : Nat) (hn : n ≤ 1048576) (v : Value) (w : World) (hv : (v = .slice none 0 0 ∧ n = 0) ∨ ∃ a cp, v = .slice (some a) n cp ∧ Ra a n f w) : Calls Tryd.prog 11 #[v] w fun e w' => e = .returned (.agg (ints .u8 (ds f n) 32).toArray) ∧ Below w.heap.size w w' := by
  rcases hv with ⟨rfl, h0⟩ | ⟨a, cp, rfl, hR⟩
  · exact dSum_none f n hn h0 w
  · exact dSum_some f n hn a cp w hR
end Rg
end Go.Proofs.YtfboipfpnkngdaaDoor
end
section
namespace Go.Proofs.YtfboipfpnkngdaaDoor
open Go.RowKit
namespace Rg
/-! The words. -/
theorem or_low (a b k : Nat) (h : b < 2 ^ k) : a * 2 ^ k ||| b = a * 2 ^ k + b := by
  have := Nat.two_pow_add_eq_or_of_lt (i := k) (b := b) h a
  rw [Nat.mul_comm a]
  exact this.symm
theorem wd_val {a b c d : Nat} (ha : a < 256) (hb : b < 256) (hc : c < 256) (hd : d < 256) : ou (ou (ou (sl (c32 a) 24) (sl (c32 b) 16)) (sl (c32 c) 8)) (c32 d) = ((a * 256 + b) * 256 + c) * 256 + d := by
  have e1 : sl (c32 a) 24 = a * 2 ^ 24 := by unfold sl c32; omega
  have e2 : sl (c32 b) 16 = b * 2 ^ 16 := by unfold sl c32; omega
  have e3 : sl (c32 c) 8 = c * 2 ^ 8 := by unfold sl c32; omega
  have e4 : c32 d = d := by unfold c32; omega
  have o1 : ou (a * 2 ^ 24) (b * 2 ^ 16) = (a * 256 + b) * 2 ^ 16 := by
    unfold ou
    rw [or_low a (b * 2 ^ 16) 24 (by omega)]
    omega
  have o2 : ou ((a * 256 + b) * 2 ^ 16) (c * 2 ^ 8) = ((a * 256 + b) * 256 + c) * 2 ^ 8 := by
    unfold ou
    rw [or_low (a * 256 + b) (c * 2 ^ 8) 16 (by omega)]
    omega
  have o3 : ou (((a * 256 + b) * 256 + c) * 2 ^ 8) d = ((a * 256 + b) * 256 + c) * 256 + d := by
    unfold ou
    rw [or_low ((a * 256 + b) * 256 + c) d 8 (by omega)]
    omega
  rw [e1, e2, e3, e4, o1, o2, o3]
theorem wd_one {a b : Nat} (ha : a < 16777216) (hb : b < 256) : ou (sl a 8) (c32 b) = a * 256 + b := by
  have e1 : sl a 8 = a * 2 ^ 8 := by unfold sl; omega
  have e2 : c32 b = b := by unfold c32; omega
  rw [e1, e2]
  unfold ou
  rw [or_low a b 8 (by omega)]
  omega
theorem up_up (f : Nat → Nat) (k a b : Nat) : up (up f k a) k b = up f k b := by
  funext j
  unfold up
  by_cases h : j = k
  · rw [if_pos h, if_pos h]
  · rw [if_neg h, if_neg h, if_neg h]
theorem up_same (f : Nat → Nat) (k a : Nat) : up f k a k = a := by unfold up; rw [if_pos rfl]
theorem iw_four (v : Nat → Nat) (t : Nat) (y : Nat → Nat) (h0 : v t = 0) (hy : ∀ i, y i < 256) : iw v t y 4 = up v t (((y 0 * 256 + y 1) * 256 + y 2) * 256 + y 3) := by
  have a0 := hy 0
  have a1 := hy 1
  have a2 := hy 2
  have a3 := hy 3
  have e1 : iw v t y 1 = up v t (y 0) := by
    show up v t (ou (sl (v t) 8) (c32 (y 0))) = _
    rw [h0, wd_one (by omega) a0, Nat.zero_mul, Nat.zero_add]
  have e2 : iw v t y 2 = up v t (y 0 * 256 + y 1) := by
    show up (iw v t y 1) t (ou (sl (iw v t y 1 t) 8) (c32 (y 1))) = _
    rw [e1, up_same, up_up, wd_one (by omega) a1]
  have e3 : iw v t y 3 = up v t ((y 0 * 256 + y 1) * 256 + y 2) := by
    show up (iw v t y 2) t (ou (sl (iw v t y 2 t) 8) (c32 (y 2))) = _
    rw [e2, up_same, up_up, wd_one (by omega) a2]
  show up (iw v t y 3) t (ou (sl (iw v t y 3 t) 8) (c32 (y 3))) = _
  rw [e3, up_same, up_up, wd_one (by omega) a3]
theorem w0_zero (x : Nat → Nat) : ∀ k j, k ≤ j → w0 x k j = 0
  | 0, _, _ => rfl
  | k + 1, j, h => by
    show up (w0 x k) k (wd x k) j = 0
    unfold up
    rw [if_neg (by omega), w0_zero x k j (by omega)]
theorem dw_w0 (P : Nat → Nat) (ap : Nat) (hP : ∀ j, P j < 256) : ∀ k, k ≤ 16 → dw P ap k = w0 (fun j => P (ap + j)) k
  | 0, _ => rfl
  | k + 1, h => by
    rw [dw_lo P ap (by omega), dw_w0 P ap hP k (by omega), iw_four _ _ _ (w0_zero _ k k (Nat.le_refl _)) (fun i => hP _)]
    show _ = up (w0 (fun j => P (ap + j)) k) k (wd (fun j => P (ap + j)) k)
    congr 1
    unfold wd
    rw [wd_val (hP _) (hP _) (hP _) (hP _), Nat.add_zero, Nat.add_assoc ap, Nat.add_assoc ap, Nat.add_assoc ap]
theorem dw_ws (P : Nat → Nat) (ap : Nat) (hP : ∀ j, P j < 256) : ∀ m, dw P ap (16 + m) = ws (w0 (fun j => P (ap + j)) 16) m
  | 0 => dw_w0 P ap hP 16 (Nat.le_refl _)
  | m + 1 => by
    show dw P ap (16 + m + 1) = _
    rw [dw_hi P ap (by omega), dw_ws P ap hP m]
    rfl
/-! The eight numbers. -/
def xn (K W : Nat) (x : Nat → Nat) : Nat → Nat := ei (ad (xp K W x) (xq x)) (x 0) (x 1) (x 2) (ad (x 3) (xp K W x)) (x 4) (x 5) (x 6)
def st8 (x : Nat → Nat) : St := ⟨x 0, x 1, x 2, x 3, x 4, x 5, x 6, x 7⟩
theorem ei_0 (a b c d e f g h : Nat) : ei a b c d e f g h 0 = a := rfl
theorem ei_1 (a b c d e f g h : Nat) : ei a b c d e f g h 1 = b := rfl
theorem ei_2 (a b c d e f g h : Nat) : ei a b c d e f g h 2 = c := rfl
theorem ei_3 (a b c d e f g h : Nat) : ei a b c d e f g h 3 = d := rfl
theorem ei_4 (a b c d e f g h : Nat) : ei a b c d e f g h 4 = e := rfl
theorem ei_5 (a b c d e f g h : Nat) : ei a b c d e f g h 5 = f := rfl
theorem ei_6 (a b c d e f g h : Nat) : ei a b c d e f g h 6 = g := rfl
theorem ei_7 (a b c d e f g h : Nat) : ei a b c d e f g h 7 = h := rfl
theorem pp_xp (K W : Nat) (x : Nat → Nat) : pp K W (st8 x) = xp K W x := by
  unfold pp xp
  unfold st8
  exact Eq.refl _
theorem qq_xq (x : Nat → Nat) : qq (st8 x) = xq x := by
  unfold qq xq
  unfold st8
  exact Eq.refl _
theorem stp_of (K W : Nat) (s : St) (p q : Nat) (hp : pp K W s = p) (hq : qq s = q) : stp K W s = ⟨ad p q, s.a, s.b, s.c, ad s.d p, s.e, s.f, s.g⟩ := by
  unfold stp
  rw [hp, hq]
theorem stp_xn (K W : Nat) (x : Nat → Nat) : stp K W (st8 x) = st8 (xn K W x) := by
  rw [stp_of K W (st8 x) _ _ (pp_xp K W x) (qq_xq x)]
  unfold xn
  generalize xp K W x = p
  generalize xq x = q
  unfold st8
  generalize ad p q = u
  generalize ad (x 3) p = v
  rw [ei_0, ei_1, ei_2, ei_3, ei_4, ei_5, ei_6, ei_7]
theorem rn_succ (s W : Nat → Nat) (t : Nat) : rn s W (t + 1) = stp (kT t) (W t) (rn s W t) := by rw [rn]
theorem rn_zero (s W : Nat → Nat) : rn s W 0 = st8 s := by rw [rn, st8]
theorem xs_succ (h K W : Nat → Nat) (k : Nat) : xs h K W (k + 1) = xn (K k) (W k) (xs h K W k) := by rw [xs, xn]
theorem xs_zero (h K W : Nat → Nat) : xs h K W 0 = h := by rw [xs]
theorem rn_xs (h W : Nat → Nat) (k : Nat) : rn h W k = st8 (xs h kT W k) := by
  induction k with
  | zero => rw [rn_zero, xs_zero]
  | succ k ih => rw [xs_succ, rn_succ, ih, stp_xn]
theorem hv_get (h x : Nat → Nat) : ∀ k j, hv h x k j = if j < k then ad (h j) (x j) else h j
  | 0, j => by rw [if_neg (by omega)]; rfl
  | k + 1, j => by
    show up (hv h x k) k (ad (hv h x k k) (x k)) j = _
    unfold up
    rw [hv_get h x k k, hv_get h x k j, if_neg (Nat.lt_irrefl k)]
    by_cases e : j = k
    · subst e
      rw [if_pos rfl, if_pos (by omega)]
    · rw [if_neg e]
      by_cases l : j < k
      · rw [if_pos l, if_pos (by omega)]
      · rw [if_neg l, if_neg (by omega)]
theorem lt8 {p : Nat → Prop} (h : p 0 ∧ p 1 ∧ p 2 ∧ p 3 ∧ p 4 ∧ p 5 ∧ p 6 ∧ p 7) (j : Nat) (hj : j < 8) : p j := by
  obtain ⟨h0, h1, h2, h3, h4, h5, h6, h7⟩ := h
  rcases (by omega : j = 0 ∨ j = 1 ∨ j = 2 ∨ j = 3 ∨ j = 4 ∨ j = 5 ∨ j = 6 ∨ j = 7) with rfl | rfl | rfl | rfl | rfl | rfl | rfl | rfl <;> assumption
theorem mw_get (s W : Nat → Nat) (j : Nat) (hj : j < 8) : mw s W j = ad (s j) (xs s kT W 64 j) := by
  unfold mw
  rw [rn_xs]
  generalize xs s kT W 64 = g
  simp only [st8]
  exact lt8 (p := fun j => ei (ad (s 0) (g 0)) (ad (s 1) (g 1)) (ad (s 2) (g 2)) (ad (s 3) (g 3)) (ad (s 4) (g 4)) (ad (s 5) (g 5)) (ad (s 6) (g 6)) (ad (s 7) (g 7)) j = ad (s j) (g j)) ⟨ei_0 .., ei_1 .., ei_2 .., ei_3 .., ei_4 .., ei_5 .., ei_6 .., ei_7 ..⟩ j hj
theorem db_mx (s P : Nat → Nat) (ap : Nat) (hP : ∀ j, P j < 256) (j : Nat) (hj : j < 8) : db s kT P ap j = mx s (fun j => P (ap + j)) j := by
  unfold db mx
  rw [hv_get, if_pos hj, mw_get _ _ _ hj, ← dw_ws P ap hP 48]
theorem rn_congr {s s' : Nat → Nat} (W : Nat → Nat) (h : ∀ j, j < 8 → s j = s' j) (k : Nat) : rn s W k = rn s' W k := by
  induction k with
  | zero =>
    rw [rn_zero, rn_zero]
    unfold st8
    rw [h 0 (by decide), h 1 (by decide), h 2 (by decide), h 3 (by decide), h 4 (by decide), h 5 (by decide), h 6 (by decide), h 7 (by decide)]
  | succ k ih => rw [rn_succ, rn_succ, ih]
theorem w0_congr {x x' : Nat → Nat} (h : ∀ j, j < 64 → x j = x' j) : ∀ k, k ≤ 16 → w0 x k = w0 x' k
  | 0, _ => rfl
  | k + 1, hk => by
    show up (w0 x k) k (wd x k) = up (w0 x' k) k (wd x' k)
    rw [w0_congr h k (by omega)]
    unfold wd
    rw [h (4 * k) (by omega), h (4 * k + 1) (by omega), h (4 * k + 2) (by omega), h (4 * k + 3) (by omega)]
theorem mx_congr {s s' x x' : Nat → Nat} (h : ∀ j, j < 8 → s j = s' j) (hx : ∀ j, j < 64 → x j = x' j) : mx s x = mx s' x' := by
  unfold mx
  rw [w0_congr hx 16 (Nat.le_refl _)]
  unfold mw
  rw [rn_congr _ h, h 0 (by decide), h 1 (by decide), h 2 (by decide), h 3 (by decide), h 4 (by decide), h 5 (by decide), h 6 (by decide), h 7 (by decide)]
/-! Block by block. -/
def ch (f : Nat → Nat) : Nat → Nat → Nat
  | 0 => fT
  | k + 1 => mx (ch f k) (fun j => f (64 * k + j))
theorem hby_ch (f : Nat → Nat) : ∀ n, (hby f ⟨fT, fun _ => 0, 0⟩ n).s = ch f (n / 64) ∧ ∀ j, j < n % 64 → (hby f ⟨fT, fun _ => 0, 0⟩ n).r j = f (64 * (n / 64) + j)
  | 0 => ⟨rfl, fun j hj => by omega⟩
  | n + 1 => by
    obtain ⟨h1, h2⟩ := hby_ch f n
    have hc : (hby f ⟨fT, fun _ => 0, 0⟩ n).c = n := by rw [hby_c]; exact Nat.zero_add n
    have hr : ∀ j, j ≤ n % 64 → up (hby f ⟨fT, fun _ => 0, 0⟩ n).r (n % 64) (f n) j = f (64 * (n / 64) + j) := fun j hj => by
      unfold up
      by_cases e : j = n % 64
      · rw [if_pos e, e]; congr 1; omega
      · rw [if_neg e, h2 j (by omega)]
    have e1 : (hby f ⟨fT, fun _ => 0, 0⟩ (n + 1)).s = if (n + 1) % 64 = 0 then mx (hby f ⟨fT, fun _ => 0, 0⟩ n).s (up (hby f ⟨fT, fun _ => 0, 0⟩ n).r (n % 64) (f n)) else (hby f ⟨fT, fun _ => 0, 0⟩ n).s := by
      show (if ((hby f ⟨fT, fun _ => 0, 0⟩ n).c + 1) % 64 = 0 then mx (hby f ⟨fT, fun _ => 0, 0⟩ n).s (up (hby f ⟨fT, fun _ => 0, 0⟩ n).r ((hby f ⟨fT, fun _ => 0, 0⟩ n).c % 64) (f n)) else _) = _
      rw [hc]
    have e2 : (hby f ⟨fT, fun _ => 0, 0⟩ (n + 1)).r = up (hby f ⟨fT, fun _ => 0, 0⟩ n).r (n % 64) (f n) := by
      show up (hby f ⟨fT, fun _ => 0, 0⟩ n).r ((hby f ⟨fT, fun _ => 0, 0⟩ n).c % 64) (f n) = _
      rw [hc]
    rw [e1, e2]
    by_cases hz : (n + 1) % 64 = 0
    · rw [if_pos hz]
      refine ⟨?_, fun j hj => by omega⟩
      rw [show (n + 1) / 64 = n / 64 + 1 by omega]
      show _ = mx (ch f (n / 64)) (fun j => f (64 * (n / 64) + j))
      exact mx_congr (fun j _ => by rw [h1]) (fun j hj => hr j (by omega))
    · rw [if_neg hz, show (n + 1) / 64 = n / 64 by omega]
      exact ⟨h1, fun j hj => hr j (by omega)⟩
theorem hd_step (P : Nat → Nat) (hP : ∀ j, P j < 256) (k : Nat) {s x : Nat → Nat} (hs : ∀ j, j < 8 → hd P k j = s j) (hx : ∀ j, j < 64 → P (64 * k + j) = x j) (j : Nat) (hj : j < 8) : hd P (k + 1) j = mx s x j := by
  show db (hd P k) kT P (64 * k) j = _
  rw [db_mx _ _ _ hP j hj]
  exact congrFun (mx_congr hs hx) j
theorem hd_ch (f P : Nat → Nat) (hP : ∀ j, P j < 256) (n : Nat) (hf : ∀ j, j < n → P j = f j) : ∀ k, 64 * k ≤ n → ∀ j, j < 8 → hd P k j = ch f k j
  | 0, _, _, _ => rfl
  | k + 1, hk, j, hj => hd_step P hP k (hd_ch f P hP n hf k (by omega)) (fun i hi => hf _ (by omega)) j hj
/-! The bytes of the eight numbers. -/
theorem bo_get (s : Nat → Nat) : ∀ n i t, t < 4 → bo s n (4 * i + t) = if i < n then sr (s i) (24 - 8 * t) % 256 else 0
  | 0, i, t, _ => by rw [if_neg (by omega)]; rfl
  | n + 1, i, t, ht => by
    show up (up (up (up (bo s n) (4 * n) (sr (s n) 24 % 256)) (4 * n + 1) (sr (s n) 16 % 256)) (4 * n + 2) (sr (s n) 8 % 256)) (4 * n + 3) (s n % 256) (4 * i + t) = _
    have ih := bo_get s n i t ht
    unfold up
    by_cases e : i = n
    · subst e
      rw [if_pos (Nat.lt_succ_self i)]
      rcases (by omega : t = 0 ∨ t = 1 ∨ t = 2 ∨ t = 3) with rfl | rfl | rfl | rfl
      · rw [if_neg (by omega), if_neg (by omega), if_neg (by omega), if_pos (by omega)]
      · rw [if_neg (by omega), if_neg (by omega), if_pos (by omega)]
      · rw [if_neg (by omega), if_pos (by omega)]
      · rw [if_pos (by omega)]
        unfold sr
        rw [show 24 - 8 * 3 = 0 from rfl, Nat.pow_zero, Nat.div_one]
    · rw [if_neg (by omega), if_neg (by omega), if_neg (by omega), if_neg (by omega), ih]
      by_cases l : i < n
      · rw [if_pos l, if_pos (by omega)]
      · rw [if_neg l, if_neg (by omega)]
theorem ob_get (h : Nat → Nat) : ∀ n j, ob h n j = if j < n then sr (h (j / 4)) (24 - 8 * (j % 4)) % 256 else 0
  | 0, j => by rw [if_neg (by omega)]; rfl
  | n + 1, j => by
    show up (ob h n) n (sr (h (n / 4)) (24 - (8 * (n % 4))) % 256) j = _
    unfold up
    by_cases e : j = n
    · subst e; rw [if_pos rfl, if_pos (by omega)]
    · rw [if_neg e, ob_get h n j]
      by_cases l : j < n
      · rw [if_pos l, if_pos (by omega)]
      · rw [if_neg l, if_neg (by omega)]
theorem ob_bo {h s : Nat → Nat} (e : ∀ j, j < 8 → h j = s j) (j : Nat) (hj : j < 32) : ob h 32 j = bo s 8 j := by
  rw [ob_get, if_pos hj]
  have := bo_get s 8 (j / 4) (j % 4) (by omega)
  rw [show 4 * (j / 4) + j % 4 = j by omega, if_pos (by omega)] at this
  rw [this, e _ (by omega)]
theorem e8_get (x : Nat) : ∀ n j, e8 x n j = if j < n then b8 x j else 0
  | 0, j => by rw [if_neg (by omega)]; rfl
  | n + 1, j => by
    show up (e8 x n) n (sr x (56 - 8 * n) % 256) j = _
    unfold up
    by_cases e : j = n
    · subst e; rw [if_pos rfl, if_pos (by omega)]; rfl
    · rw [if_neg e, e8_get x n j]
      by_cases l : j < n
      · rw [if_pos l, if_pos (by omega)]
      · rw [if_neg l, if_neg (by omega)]
/-! The whole. -/
theorem pd_lt (f : Nat → Nat) (hf : ∀ j, f j < 256) (n j : Nat) : pd f n j < 256 := by
  unfold pd ct
  split
  · unfold pz
    split
    · exact hf j
    · split <;> omega
  · exact Nat.mod_lt _ (by decide)
theorem pd_f (f : Nat → Nat) (n j : Nat) (h : j < n) : pd f n j = f j := by
  unfold pd ct pz
  rw [if_pos (by omega), if_pos h]
theorem pd_n (f : Nat → Nat) (n : Nat) : pd f n n = 128 := by
  unfold pd ct pz
  rw [if_pos (by omega), if_neg (by omega), if_pos rfl]
theorem pd_z (f : Nat → Nat) (n j : Nat) (h : n < j) (h2 : j < n + 1 + zc n) : pd f n j = 0 := by
  unfold pd ct pz
  rw [if_pos h2, if_neg (by omega), if_neg (by omega)]
theorem pd_e (f : Nat → Nat) (n j : Nat) (hn : n ≤ 1048576) (h : n + 1 + zc n ≤ j) : pd f n j = b8 (c64 (8 * n)) (j - (n + 1 + zc n)) := by
  unfold pd ct
  rw [if_neg (by omega), show c64 n = n by unfold c64; omega]
theorem dg0_ds (f : Nat → Nat) (hf : ∀ j, f j < 256) (n : Nat) (hn : n ≤ 1048576) (j : Nat) (hj : j < 32) : dg0 f n j = ds f n j := by
  have hP := pd_lt f hf n
  obtain ⟨hs, hr⟩ := hby_ch f n
  have hc : (hby f ⟨fT, fun _ => 0, 0⟩ n).c = n := by rw [hby_c]; exact Nat.zero_add n
  have hz : zc n = (120 - (n + 1) % 64) % 64 := rfl
  have hb : nb n = (n + 1 + zc n + 8) / 64 := rfl
  have hch := hd_ch f (pd f n) hP n (fun i hi => pd_f f n i hi)
  unfold dg0 ds
  rw [hc, hs]
  generalize (hby f ⟨fT, fun _ => 0, 0⟩ n).r = r at hr
  obtain ⟨m, hm⟩ : ∃ m, m = n / 64 := ⟨_, rfl⟩
  obtain ⟨k, hk⟩ : ∃ k, k = n % 64 := ⟨_, rfl⟩
  rw [← hm] at hr ⊢
  have hnk : n = 64 * m + k := by omega
  have hk64 : k < 64 := by omega
  have h0 := hch m (by omega)
  unfold fz
  rw [← hk] at hr ⊢
  by_cases c1 : k < 56
  · rw [if_pos c1, show nb n = m + 1 by omega]
    refine (ob_bo (fun i hi => hd_step (pd f n) hP m h0 (fun i hi => ?_) i hi) j hj).symm
    unfold pr8 cl
    by_cases a1 : i < k
    · rw [if_neg (by omega), if_neg (by omega), pd_f f n _ (by omega)]
      unfold up
      rw [if_neg (by omega), hr i a1]
    · by_cases a2 : i = k
      · rw [if_neg (by omega), if_neg (by omega), show 64 * m + i = n by omega, pd_n]
        unfold up
        rw [if_pos a2]
      · by_cases a3 : i < 56
        · rw [if_neg (by omega), if_pos (by omega), pd_z f n _ (by omega) (by omega)]
        · rw [if_pos (by omega), e8_get, if_pos (by omega), pd_e f n _ hn (by omega), show 64 * m + i - (n + 1 + zc n) = i - 56 by omega]
  · rw [if_neg c1, show nb n = m + 1 + 1 by omega]
    have two : ∀ x, (∀ i, i < 64 → pd f n (64 * m + i) = x i) → ob (hd (pd f n) (m + 1 + 1)) 32 j = bo (mx (mx (ch f m) x) (pr8 (fun _ => 0) 56 8 (e8 (c64 (8 * n)) 8))) 8 j := fun x hx => by
      refine ob_bo (fun i hi => hd_step (pd f n) hP (m + 1) (fun i hi => hd_step (pd f n) hP m h0 hx i hi) (fun i hi => ?_) i hi) j hj
      unfold pr8
      by_cases a3 : i < 56
      · rw [if_neg (by omega), pd_z f n _ (by omega) (by omega)]
      · rw [if_pos (by omega), e8_get, if_pos (by omega), pd_e f n _ hn (by omega), show 64 * (m + 1) + i - (n + 1 + zc n) = i - 56 by omega]
    by_cases c2 : k < 63
    · rw [if_pos c2]
      refine (two _ (fun i hi => ?_)).symm
      unfold cl
      by_cases a1 : i < k
      · rw [if_neg (by omega), pd_f f n _ (by omega)]
        unfold up
        rw [if_neg (by omega), hr i a1]
      · by_cases a2 : i = k
        · rw [if_neg (by omega), show 64 * m + i = n by omega, pd_n]
          unfold up
          rw [if_pos a2]
        · rw [if_pos (by omega), pd_z f n _ (by omega) (by omega)]
    · rw [if_neg c2]
      refine (two _ (fun i hi => ?_)).symm
      by_cases a1 : i < k
      · rw [pd_f f n _ (by omega)]
        unfold up
        rw [if_neg (by omega), hr i a1]
      · rw [show 64 * m + i = n by omega, pd_n]
        unfold up
        rw [if_pos (by omega)]
end Rg
end Go.Proofs.YtfboipfpnkngdaaDoor
end
section
namespace Go.Proofs.YtfboipfpnkngdaaDoor
open Go.RowKit
namespace Rg
set_option maxRecDepth 100000
/-- The bytes of a list that is lent. -/
def lf (xs : List Int) (j : Nat) : Nat := (lent xs j).toNat
theorem lf_int {xs : List Int} (hx : ∀ x ∈ xs, 0 ≤ x ∧ x < 256) (j : Nat) : ((lf xs j : Nat) : Int) = lent xs j := Int.toNat_of_nonneg (lent_bd xs hx j).1
theorem lf_lt {xs : List Int} (hx : ∀ x ∈ xs, 0 ≤ x ∧ x < 256) (j : Nat) : lf xs j < 256 := by
  have := lent_bd xs hx j
  unfold lf
  omega
theorem lent_born (xs : List Int) (c : Nat) (v : Value) (hx : ∀ x ∈ xs, 0 ≤ x ∧ x < 256) (hn : xs.length ≤ 1048576) (w : World) (h : BSl w xs c v) :
    Calls Tryd.prog 9 #[v] w fun e w' => Below w.heap.size w w' ∧ ∃ g, e = .returned (.slice (some ⟨g, 0, none⟩) xs.length (xs.length + 3)) ∧ w.heap.size ≤ g ∧ g < w'.heap.size ∧ Blk w' g (ints .u8 (lf xs) (xs.length + 3)) := by
  refine Calls.mono (lent_any xs c v hn w h) ?_
  rintro e w' ⟨he, h1, h2, h3⟩
  refine ⟨h3, w.heap.size, he, Nat.le_refl _, h1, fun j u hj => ?_⟩
  have hjn : j < xs.length + 3 := by
    have := (List.getElem?_eq_some_iff.1 hj).1
    rwa [ints_len] at this
  rw [ints_get _ _ hjn, lf_int hx] at hj
  obtain rfl := Option.some.inj hj
  exact h2 j hjn
theorem Mm.row8 {w : World} {l : List (Nat × List Value)} {xs : List Int} {g : Nat} (hx : ∀ x ∈ xs, 0 ≤ x ∧ x < 256) (h : Mm w l) (k : Nat) (hk : l[k]? = some (g, ints .u8 (lf xs) (xs.length + 3))) : g < w.heap.size ∧ Row8 w g (xs.length + 3) (lent xs) := by
  have hb := h.blk _ (List.mem_of_getElem? hk)
  refine ⟨hb.1, fun j hj => ?_⟩
  have := hb.2 j _ (ints_get .u8 (lf xs) hj)
  rw [lf_int hx] at this
  exact this
theorem Mm.rs {w : World} {l : List (Nat × List Value)} {f : Nat → Nat} {g m n : Nat} (h : Mm w l) (k : Nat) (hk : l[k]? = some (g, ints .u8 f m)) (hn : n ≤ m) : Rs g 0 n f w := by
  have hb := h.blk _ (List.mem_of_getElem? hk)
  exact ⟨fun _ => hb.1, fun i hi => by rw [Nat.zero_add]; exact (hb.2 i _ (ints_get .u8 f (by omega))).1⟩
theorem Bv.start (gb o n cp : Nat) : Bv gb o n cp 0 (.slice (some ⟨gb, o, none⟩) n cp) := ⟨fun _ => rfl, fun h => ⟨some ⟨gb, o, none⟩, cp, by rw [← h]⟩⟩
theorem bsl_doc {w : World} {xs : List Int} {c : Nat} {v : Value} (hx : ∀ x ∈ xs, 0 ≤ x ∧ x < 256) (h : BSl w xs c v) (h0 : v = .slice none 0 0 ∨ ∃ a k c', v = .slice (some a) k c') : (v = .slice none 0 0 ∧ xs.length = 0) ∨ ∃ a cp, v = .slice (some a) xs.length cp ∧ Ra a xs.length (lf xs) w := by
  cases h using BSl.each with
  | full g o hg hc hcell =>
    refine .inr ⟨⟨g, o, none⟩, c, rfl, fun _ => hg, fun i hi => ?_⟩
    rw [show (⟨g, o, none⟩ : Addr).add i = ⟨g, o + i, none⟩ by unfold Addr.add; split <;> simp_all, hcell i hi]
    have e := lf_int hx i
    show some (Value.int .u8 (xs.getD i 0)) = some (Value.int .u8 ((lf xs i : Nat) : Int))
    rw [e]
    unfold lent
    rw [if_pos hi]
  | void p hx' =>
    subst hx'
    rcases h0 with h0 | ⟨a, k, c', h0⟩
    · exact .inl ⟨h0, rfl⟩
    · injection h0 with h1 h2 h3
      subst h1
      exact .inr ⟨a, c, rfl, fun h => absurd h (by decide), fun i hi => absurd hi (by simp)⟩
theorem all_of {f f' : Nat → Nat} {n : Nat} (h : ∀ j, j < n → f j = f' j) : ((List.range n).all fun j => decide (f j = f' j)) = true := by
  rw [List.all_eq_true]
  intro j hj
  exact decide_eq_true (h j (List.mem_range.1 hj))
theorem call9 : ∀ args w, (callFunc 9 args).run Tryd.prog w = .ok (.enter 9 args) w := by intro args w; go_simp
theorem call10 : ∀ args w, (callFunc 10 args).run Tryd.prog w = .ok (.enter 10 args) w := by intro args w; go_simp
theorem call11 : ∀ args w, (callFunc 11 args).run Tryd.prog w = .ok (.enter 11 args) w := by intro args w; go_simp
theorem call12 : ∀ args w, (callFunc 12 args).run Tryd.prog w = .ok (.enter 12 args) w := by intro args w; go_simp
set_option maxHeartbeats 1000000 in
set_option maxRecDepth 100000 in
theorem sums_short (xs : List Int) (c : Nat) (p : Option Addr) (hx0 : ∀ x ∈ xs, 0 ≤ x ∧ x < 256) (hl : xs.length ≤ 100000) (w : World) (hm : Mm w [(0, ints .u32 fT 8), (1, ints .u32 kT 64)]) (hB0 : BSl w xs c (.slice p xs.length c)) (h00 : Value.slice p xs.length c = .slice none 0 0 ∨ ∃ a k c', Value.slice p xs.length c = .slice (some a) k c') :
    Calls Tryd.prog 3 #[.slice p xs.length c] w fun e w' => e = .returned (.bool true) ∧ Below w.heap.size w w' := by
  have H0 : Hid (_ ∧ _) := ⟨hm, Below.refl w.heap.size w⟩
  clear hm
  have hx : Hid _ := hx0
  have hB : Hid _ := hB0
  have h0 : Hid _ := h00
  clear hx0 hB0 h00
  go_enter Tryd.func3, Tryd.ntmps3
  refine wp_seq ?_
  refine walk_seqB 1 [.quiet (.bool false)] H0 ?ho1 ?he1
  case ho1 => exact ak (fun _ => ⟨rfl, fun _ _ => rfl⟩) trivial
  intro _ w1 H1
  refine rest0 rfl (then_normal (wp_seq (wp_seq ?_)))
  refine walk_seqB 3 [.quiet (.slice p xs.length c), .quiet (.int .i64 ((xs.length : Nat) : Int)), .quiet (.bool false)] H1 ?ho2 ?he2
  case ho2 => exact ak (fun _ => ⟨rfl, fun _ _ => rfl⟩) (ak (by refine fun γ => ⟨rfl, fun w' h => ?_⟩; clear h; go_simp) (ak (by refine fun γ => ⟨rfl, fun w' h => ?_⟩; clear h; go_simp <;> omega) trivial))
  intro _ w2 H2
  clear H1
  refine rest0 rfl (then_normal (wp_cond_false rfl ?_))
  refine wp_skip (then_normal (wp_seq ?_))
  refine (walk_seq) 2 [.quiet (.slice p xs.length c), .born (fun g => .slice (some ⟨g, 0, none⟩) xs.length (xs.length + 3)) (ints .u8 (lf xs) (xs.length + 3))] (fun u' => Mm u' [(0, ints .u32 fT 8), (1, ints .u32 kT 64)] ∧ BSl u' xs c (Value.slice p xs.length c)) ?pre3 ?F3 ?hpre3 (fun γ => ?hF3) (by kernel_rfl) ?hL3 ?hS3 ?ho3 ?he3
  case hpre3 => simp only [tk, tz]; rfl
  case hF3 => simp only [fill, Kind.val, Act.put, sa, sz, ss]; rfl
  case hL3 => exact trivial
  case hS3 => exact fun w' hb => ⟨H2.out.1.below hb, hB.out.below (H2.out.2.trans (hb.mono H2.out.2.size))⟩
  case ho3 =>
    refine ak (fun _ => ⟨rfl, fun _ _ => rfl⟩) ?_
    refine ak (fun γ => ⟨rfl, fun w' hX => ⟨9, #[.slice p xs.length c], exec_call rfl call9 rfl (mpn rfl), lent_born xs c (.slice p xs.length c) hx.out (by omega) w' hX.2⟩⟩) ?_
    exact trivial
  intro γ w3 l hM hl
  have H3 : Hid (Mm w3 [(γ 1, ints .u8 (lf xs) (xs.length + 3)), (0, ints .u32 fT 8), (1, ints .u32 kT 64)] ∧ _) := growB H2 hM (Nat.le_refl _) hl [1] rfl (by decide)
  have o3_1 := ownB H2 hM (Nat.le_refl _) hl (i := 1) rfl
  clear hM hl l H2
  generalize γ 1 = γ3_1 at H3 o3_1 ⊢
  clear γ
  refine rest_at (l := [2]) rfl ?_
  refine rest_set (d := 3) rfl rfl rfl rfl ?_
  simp only [Act.put, sa, sz, ss]
  refine rest_nil (then_normal (wp_seq ?_))
  refine (walk_seq) 11 [.quiet (.slice (some ⟨γ3_1, 0, none⟩) xs.length (xs.length + 3)), .call (.agg (ints .u8 (dg0 (lf xs) xs.length) 32).toArray), .quiet (.slice p xs.length c), .call (.agg (ints .u8 (ds (lf xs) xs.length) 32).toArray), .quiet (.bool true), .quiet (.bool true), .quiet (.slice (some ⟨γ3_1, 0, none⟩) xs.length (xs.length + 3)), .quiet (.slice p xs.length c), .call (.bool true), .quiet (.bool true), .quiet (.bool true)] (fun u' => Mm u' [(γ3_1, ints .u8 (lf xs) (xs.length + 3)), (0, ints .u32 fT 8), (1, ints .u32 kT 64)] ∧ BSl u' xs c (Value.slice p xs.length c)) ?pre4 ?F4 ?hpre4 (fun γ => ?hF4) (by kernel_rfl) ?hL4 ?hS4 ?ho4 ?he4
  case hpre4 => simp only [tk, tz]; rfl
  case hF4 => simp only [fill, Kind.val, Act.put, sa, sz, ss]; rfl
  case hL4 => exact trivial
  case hS4 => exact fun w' hb => ⟨H3.out.1.below hb, hB.out.below (H3.out.2.trans (hb.mono H3.out.2.size))⟩
  case ho4 =>
    refine ak (fun _ => ⟨rfl, fun _ _ => rfl⟩) ?_
    refine ak (fun γ => ⟨rfl, fun w' hX => have h := hX.1; ⟨10, #[.slice (some ⟨γ3_1, 0, none⟩) xs.length (xs.length + 3)], exec_call rfl call10 rfl (mpn rfl), Sum_any γ3_1 0 xs.length (xs.length + 3) (lf xs) _ (Bv.start _ _ _ _) (by omega) (by omega) w' (h.two 1 2 rfl rfl (by decide)) (h.rs 0 rfl (by omega))⟩⟩) ?_
    refine ak (fun _ => ⟨rfl, fun _ _ => rfl⟩) ?_
    refine ak (fun γ => ⟨rfl, fun w' hX => ⟨11, #[.slice p xs.length c], exec_call rfl call11 rfl (mpn rfl), dSum_any (lf xs) xs.length (by omega) (.slice p xs.length c) w' (bsl_doc hx.out hX.2 h0.out)⟩⟩) ?_
    refine ak (fun γ => ⟨rfl, fun w' _ => ex_eq25 (all_of (dg0_ds (lf xs) (lf_lt hx.out) xs.length (by omega))) rfl rfl rfl⟩) ?_
    refine ak (fun _ => ⟨rfl, fun _ _ => rfl⟩) ?_
    refine ak (fun _ => ⟨rfl, fun _ _ => rfl⟩) ?_
    refine ak (fun _ => ⟨rfl, fun _ _ => rfl⟩) ?_
    refine ak (fun γ => ⟨rfl, fun w' hX => have h := hX.1; ⟨12, #[.slice (some ⟨γ3_1, 0, none⟩) xs.length (xs.length + 3), .slice p xs.length c], exec_call rfl call12 rfl (mpn rfl), kept_any xs γ3_1 c (.slice p xs.length c) (by omega) w' (h.row8 hx.out 0 rfl).1 (h.row8 hx.out 0 rfl).2 hX.2⟩⟩) ?_
    refine ak (by refine fun γ => ⟨rfl, fun w' h => ?_⟩; clear h; go_simp) ?_
    refine ak (fun _ => ⟨rfl, fun _ _ => rfl⟩) ?_
    exact trivial
  intro γ w4 l hM hl
  have H4 := keepB H3 hM.below
  clear hM hl l H3 γ
  refine rest0 rfl (then_normal (wp_ret ?_))
  repeat (first | refine then_ret ?_ | refine block_ret ?_)
  refine bodyPost_ret (v := .bool true) (by simp [results, Tryd.results3, go_sem, *]) rfl ?_
  exact ⟨rfl, H4.out.2⟩
set_option maxHeartbeats 1000000 in
set_option maxRecDepth 100000 in
theorem sums_long (xs : List Int) (c : Nat) (p : Option Addr) (hx0 : ∀ x ∈ xs, 0 ≤ x ∧ x < 256) (hl : 100000 < xs.length) (w : World) (hm : Mm w [(0, ints .u32 fT 8), (1, ints .u32 kT 64)]) (hB0 : BSl w xs c (.slice p xs.length c)) (h00 : Value.slice p xs.length c = .slice none 0 0 ∨ ∃ a k c', Value.slice p xs.length c = .slice (some a) k c') :
    Calls Tryd.prog 3 #[.slice p xs.length c] w fun e w' => e = .returned (.bool true) ∧ Below w.heap.size w w' := by
  have H0 : Hid (_ ∧ _) := ⟨hm, Below.refl w.heap.size w⟩
  clear hm
  have hx : Hid _ := hx0
  have hB : Hid _ := hB0
  have h0 : Hid _ := h00
  clear hx0 hB0 h00
  go_enter Tryd.func3, Tryd.ntmps3
  refine wp_seq ?_
  refine walk_seqB 1 [.quiet (.bool false)] H0 ?ho1 ?he1
  case ho1 => exact ak (fun _ => ⟨rfl, fun _ _ => rfl⟩) trivial
  intro _ w1 H1
  refine rest0 rfl (then_normal (wp_seq (wp_seq ?_)))
  refine walk_seqB 3 [.quiet (.slice p xs.length c), .quiet (.int .i64 ((xs.length : Nat) : Int)), .quiet (.bool true)] H1 ?ho2 ?he2
  case ho2 => exact ak (fun _ => ⟨rfl, fun _ _ => rfl⟩) (ak (by refine fun γ => ⟨rfl, fun w' h => ?_⟩; clear h; go_simp) (ak (by refine fun γ => ⟨rfl, fun w' h => ?_⟩; clear h; go_simp <;> omega) trivial))
  intro _ w2 H2
  clear H1
  refine rest0 rfl (then_normal (wp_cond_true rfl (wp_seq ?_)))
  refine walk_seqB 1 [.quiet (.bool true)] H2 ?ho3 ?he3
  case ho3 => exact ak (fun _ => ⟨rfl, fun _ _ => rfl⟩) trivial
  intro _ w3 H3
  clear H2
  refine rest0 rfl (then_normal (wp_ret ?_))
  repeat (first | refine then_ret ?_ | refine block_ret ?_)
  refine bodyPost_ret (v := .bool true) (by simp [results, Tryd.results3, go_sem, *]) rfl ?_
  exact ⟨rfl, H3.out.2⟩
theorem sums_any (xs : List Int) (c : Nat) (v : Value) (hx : ∀ x ∈ xs, 0 ≤ x ∧ x < 256) (w : World) (hm : Mm w [(0, ints .u32 fT 8), (1, ints .u32 kT 64)]) (h : BSl w xs c v) (h0 : v = .slice none 0 0 ∨ ∃ a k c', v = .slice (some a) k c') : Calls Tryd.prog 3 #[v] w fun e w' => e = .returned (.bool true) ∧ Below w.heap.size w w' := by
  obtain ⟨p, rfl⟩ : ∃ p, v = .slice p xs.length c := by
    cases h using BSl.each with
    | full g o hg hc hcell => exact ⟨_, rfl⟩
    | void p hx' => subst hx'; exact ⟨p, rfl⟩
  by_cases hl : xs.length ≤ 100000
  · exact sums_short xs c p hx hl w hm h h0
  · exact sums_long xs c p hx (by omega) w hm h h0
end Rg
end Go.Proofs.YtfboipfpnkngdaaDoor
end
section
namespace Go.Proofs.YtfboipfpnkngdaaDoor
open Go.ChangeShapes Go.WideShapes Go.ChangeAt Go.RowKit
theorem Tryd.own : ownKnob Tryd.prog.godebug = none := by kernel_rfl
theorem Tryd.laidOut : laidOutB Tryd.prog = true := by kernel_rfl
theorem Tryd.cells5 : Tryd.prog.cellsOf 5 = 1 := by kernel_rfl
set_option maxRecDepth 100000 in
theorem open_bytes {H : Type} {enc : TypeId × Value → H} {w : World} {base : Nat} {sp : Nat → Bool} {held : Bool} {r : Reach} {b0 : Nat} {v : Value} {d : DataW H} {ps : List MemPlace}
    (hval : Value.okWide Tryd.prog w r b0 22 v) (hd : DataW.Trod enc Tryd.prog w base sp held 22 v d ps) :
    ∃ xs c, BSl w xs c v ∧ (∀ x ∈ xs, 0 ≤ x ∧ x < 256) ∧ (v = .slice none 0 0 ∨ ∃ a k c', v = .slice (some a) k c') ∧ ∀ x ∈ ps, x.block < w.heap.size := by
  obtain ⟨a0, len, cap, rfl⟩ := okWide_slice Tryd.underlying22 hval
  obtain ⟨fuel, hf⟩ := hd
  rcases open_ints Tryd.underlying22 Tryd.underlying5 Tryd.cells5 hf with ⟨hcs, hx⟩ | ⟨a, len', cap', zs, hcs, _, hl, hm, hz, hx, hcell, hwz⟩
  · simp [Value.cells] at hcs
    obtain ⟨rfl, rfl, rfl⟩ := hcs
    simp only [Prod.mk.injEq] at hx
    obtain ⟨_, rfl⟩ := hx
    exact ⟨[], 0, .void none rfl, by simp, .inl rfl, by simp⟩
  · simp [Value.cells] at hcs
    obtain ⟨rfl, rfl, rfl⟩ := hcs
    simp only [Prod.mk.injEq] at hx
    obtain ⟨_, rfl⟩ := hx
    have hlz : len ≤ zs.length := by rw [hz]; split <;> omega
    have hps : ∀ x ∈ MemPlace.row a zs.length, x.block < w.heap.size := fun x hx => by
      obtain ⟨i, hi, rfl⟩ := MemPlace.mem_row.1 hx
      have := World.block_lt_of_cell? w _ (hcell i hi)
      obtain ⟨b, off, rfl, _⟩ := ints_at hcell (by omega)
      exact World.block_lt_of_cell? w _ (hcell 0 (by omega))
    have hb : ∀ x ∈ zs, 0 ≤ x ∧ x < 256 := fun x hx => by
      have := bounds_u8 (hwz x hx)
      omega
    by_cases h0 : len = 0
    · subst h0
      exact ⟨[], cap, .void (some a) rfl, by simp, .inr ⟨_, _, _, rfl⟩, hps⟩
    · obtain ⟨b, off, rfl, hc⟩ := ints_at hcell (by omega)
      refine ⟨zs.take len, cap, ?_, fun x hx => hb x (List.mem_of_mem_take hx), .inr ⟨_, _, _, rfl⟩, hps⟩
      have hlen : (zs.take len).length = len := by simp; omega
      have hf : BSl w (zs.take len) cap (.slice (some ⟨b, off, none⟩) (zs.take len).length cap) := .full b off (World.block_lt_of_cell? w _ (hc 0 (by omega))) (by rw [hlen]; exact hl) (fun i hi => by
        rw [hlen] at hi
        rw [hc i (by omega)]
        simp [hi])
      rw [hlen] at hf
      exact hf
namespace Rg
abbrev laidL : List (String × DataW Unit) := Rows.digestSumsRow.laid
abbrev laidN : List (String × DataW Unit) := Rows.digestNilRow.laid
abbrev nmA : String := match laidL with
  | (n, _) :: _ => n
  | [] => Tryd.f3.name
abbrev nmB : String := match laidN with
  | (n, _) :: _ => n
  | [] => Tryd.f3.name
theorem gA' : Tryd.prog.globalNamed nmA = some 0 := by kernel_rfl
theorem gB' : Tryd.prog.globalNamed nmB = some 1 := by kernel_rfl
theorem tA : (Tryd.prog.globals[0]?).map (·.type) = some 53 := by kernel_rfl
theorem tB : (Tryd.prog.globals[1]?).map (·.type) = some 66 := by kernel_rfl
theorem datA : (Rows.laid_reliquary_digest_first : DataW Unit) = Lib.tabData .u32 ((List.range 8).map fun j => (fT j : Int)) := by kernel_rfl
theorem datB : (Rows.laid_reliquary_digest_rounds : DataW Unit) = Lib.tabData .u32 ((List.range 64).map fun j => (kT j : Int)) := by kernel_rfl
theorem map_ints (f : Nat → Nat) (n : Nat) : (((List.range n).map fun j => (f j : Int)).map fun z => Value.int .u32 z) = ints .u32 f n := by
  unfold ints
  rw [List.map_map]
  rfl
theorem blk_of {W : World} {g n : Nat} {f : Nat → Nat} {nm : String} {cs : Array Value} (hg : Tryd.prog.globalNamed nm = some g) (hv : W.var? Tryd.prog nm = some cs) (hcs : cs.toList = ints .u32 f n) (hn : 0 < n) {ps : List MemPlace} (hpl : ∀ i, i < n → MemPlace.cell g i ∈ ps)
    (hc : ∀ b off, MemPlace.cell b off ∈ ps → (∃ c t, W.heap[b]? = some (.cells c t (0, 0))) ∧ ∀ u v, W.cell? ⟨b, off, Option.none⟩ = some (.iface u v) → Value.okWide Tryd.prog W .any 0 u v) : g < W.heap.size ∧ Blk W g (ints .u32 f n) := by
  obtain ⟨⟨c0, t0, hheap⟩, _⟩ := hc g 0 (hpl 0 hn)
  refine ⟨?_, fun j v hj => ⟨?_, ?_⟩⟩
  · rcases Nat.lt_or_ge g W.heap.size with h' | h'
    · exact h'
    · rw [Array.getElem?_eq_none (by omega)] at hheap; cases hheap
  · rw [World.var?_cell hg hv j]
    rw [← hcs] at hj
    simpa using hj
  · unfold World.frozen?
    rw [hheap]
    simp
set_option maxRecDepth 100000 in
theorem tabs_of_laid {W : World} (h : laidMetH Tryd.prog laidL W) : Mm W [(0, ints .u32 fT 8), (1, ints .u32 kT 64)] := by
  rw [MakeChecks.laidMetH_plain _ _ _ (by kernel_rfl)] at h
  obtain ⟨ps, ⟨g, t, cs, fuel, p, q, hg, ht, hv, hd, ⟨g2, t2, cs2, fuel2, p2, q2, hg2, ht2, hv2, hd2, hq2, hps2⟩, hps⟩, hnd, hc⟩ := h
  obtain rfl := Option.some.inj (gA'.symm.trans hg)
  obtain rfl := Option.some.inj (tA.symm.trans ht)
  obtain rfl := Option.some.inj (gB'.symm.trans hg2)
  obtain rfl := Option.some.inj (tB.symm.trans ht2)
  rw [datA] at hd
  rw [datB] at hd2
  have e1 := Lib.cells_of_tab (P := Tryd.prog) (t := 53) (e := 51) (n := 8) (k := .u32) (by kernel_rfl) (by kernel_rfl) (by kernel_rfl) (by kernel_rfl) hd
  have e2 := Lib.cells_of_tab (P := Tryd.prog) (t := 66) (e := 51) (n := 64) (k := .u32) (by kernel_rfl) (by kernel_rfl) (by kernel_rfl) (by kernel_rfl) hd2
  rw [map_ints] at e1 e2
  have s1 : cs.size = 8 := by rw [← Array.length_toList, e1, ints_len]
  have s2 : cs2.size = 64 := by rw [← Array.length_toList, e2, ints_len]
  have b1 := blk_of (f := fT) (n := 8) hg hv e1 (by decide) (ps := ps) (fun i hi => by
    rw [hps]
    refine List.mem_append_left _ (List.mem_append_left _ ?_)
    unfold MemPlace.row
    simp [s1]
    omega) hc
  have b2 := blk_of (f := kT) (n := 64) hg2 hv2 e2 (by decide) (ps := ps) (fun i hi => by
    rw [hps, hps2]
    refine List.mem_append_right _ (List.mem_append_left _ (List.mem_append_left _ ?_))
    unfold MemPlace.row
    simp [s2]
    omega) hc
  refine ⟨fun pq hpq => ?_, ?_⟩
  · rcases List.mem_cons.1 hpq with rfl | hpq
    · exact b1
    · rw [List.mem_singleton.1 hpq]; exact b2
  · simp
theorem door_met (os : Os) (args : Array Value) : laidMetH Tryd.prog laidL ((World.doorLaid Tryd.prog 400 os).forCall (fun _ _ => 0) ⟨#[], args, []⟩).memory :=
  laidMetH_of_parts3 (fuel := 8) (laidMet_of_run' 8 (by kernel_rfl) (by kernel_rfl)) (by kernel_rfl) (by kernel_rfl)
end Rg
end Go.Proofs.YtfboipfpnkngdaaDoor
end
