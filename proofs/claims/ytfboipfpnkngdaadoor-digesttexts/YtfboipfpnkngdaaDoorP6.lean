/- Texts of the proof, joined. -/
import Derived.Test.YtfboipfpnkngdaaDoorP5
import Derived.LaidMore
import Derived.Stop.Joined
import Derived.Lib.LaidTab
import Derived.ProofKit
import Derived.OpenShut
import Derived.ChangeSlices
import Derived.Test.YtfboipfpnkngdaaDoorRows
import Derived.Test.YtfboipfpnkngdaaDoorTie
import Derived.ChangeMaps5
section
namespace Go.Proofs.YtfboipfpnkngdaaDoor
open Go.RowKit
namespace Rg
set_option maxRecDepth 100000
theorem Zo.nil2 {w w1 : World} {l : List (Nat × List Value)} (P : Nat → Nat) (hm : Mm w1 l) (hb : Below w.heap.size w w1) : Zo w w1.heap.size l (.slice none 0 0) 0 P w1 :=
  ⟨hb, hb.size, Nat.le_refl _, hm, fun p hp => (hm.blk p hp).1, World.ownsRow_nil _ _ _ _⟩
theorem call38 : ∀ args w, (callFunc 38 args).run Tryd.prog w = .ok (.enter 38 args) w := by intro args w; go_simp
set_option maxHeartbeats 2000000 in
set_option maxRecDepth 100000 in
theorem dText_any (d : Nat → Nat) (hd0 : ∀ j, d j < 256) (w : World) :
    Calls Tryd.prog 20 #[.agg (ints .u8 d 32).toArray] w fun e w' => e = .returned (.string (st (tx d 32) 64)) ∧ Below w.heap.size w w' := by
  have H0 : Hid (_ ∧ _) := ⟨Mm.nil w, Below.refl w.heap.size w⟩
  have hd : Hid (∀ j, d j < 256) := hd0
  clear hd0
  go_enter Tryd.func20, Tryd.ntmps20
  refine wp_seq ?_
  refine walk_seqA 2 [.made (ints .u8 d 32) 25, .quiet (.string ⟨#[]⟩)] (sB H0) ?ho1 ?he1
  case ho1 => exact ak (fun γ => ⟨rfl, fun w' => ex_boxT rfl rfl⟩) (ak (fun _ => ⟨rfl, fun _ _ => rfl⟩) trivial)
  intro γ w1 l hM hl
  have H1 : Hid (Mm w1 [(γ 0, ints .u8 d 32)] ∧ _) := growB H0 hM (Nat.le_refl _) hl [0] rfl (by decide)
  have o1_0 := ownB H0 hM (Nat.le_refl _) hl (i := 0) rfl
  clear hM hl l
  generalize γ 0 = γ1_0 at H1 o1_0 ⊢
  clear γ
  refine rest0 rfl (then_normal (wp_seq ?_))
  refine walk_seqB 1 [.quiet (.slice none 0 0)] H1 ?ho2 ?he2
  case ho2 => exact ak (fun _ => ⟨rfl, fun _ _ => rfl⟩) trivial
  intro _ w2 H2
  clear H1
  refine rest0 rfl ?_
  have H3 : Hid (Mm w2 [(γ1_0, ints .u8 d 32)] ∧ Zo w w2.heap.size [(γ1_0, ints .u8 d 32)] (.slice none 0 0) 0 (tx d 32) w2) := ⟨H2.out.1, Zo.nil2 _ H2.out.1 H2.out.2⟩
  clear H2
  generalize w2.heap.size = γb at H3
  refine then_normal (wp_seq (wp_seq ?_))
  refine walk_seqA 1 [.quiet (.int .i64 0)] (sB H3) ?ho3 ?he3
  case ho3 => exact ak (fun _ => ⟨rfl, fun _ _ => rfl⟩) trivial
  intro γ w4 l hM hl
  have M4 : Mm w4 [(γ1_0, ints .u8 d 32)] := H3.out.1.grow hM (Nat.le_refl _) hl [] rfl (by decide)
  have B4 : Zo w γb [(γ1_0, ints .u8 d 32)] (.slice none 0 0) 0 (tx d 32) w4 := Zo.step H3.out.2 (hM.below)
  clear hM hl l H3
  clear γ
  have H4 : Hid (_ ∧ _) := ⟨M4, B4⟩
  clear M4 B4
  refine rest0 rfl (then_normal (wp_block ?_))
  refine loop_ghost (α := Nat) (fun k a' w' => ∃ s0 : Nat → Value, a' = ⟨#[.agg (ints .u8 d 32).toArray, PT γ1_0 0, .string ⟨#[]⟩, s0 3, .int .i64 ((k : Nat) : Int), s0 5, s0 6, s0 7, s0 8, s0 9, s0 10, s0 11, s0 12, s0 13, s0 14, s0 15, s0 16, s0 17, s0 18, s0 19, s0 20, s0 21, undef, undef], []⟩ ∧ (Mm w' [(γ1_0, ints .u8 d 32)] ∧ Zo w γb [(γ1_0, ints .u8 d 32)] (s0 3) (2 * k) (tx d 32) w') ∧ k ≤ 32) (fun k => 32 - k) 0 ?st0 ?rd0
  case st0 => exact ⟨(slotfn [undef, undef, undef, .slice none 0 0, undef, undef, undef, undef, undef, undef, undef, undef, undef, undef, undef, undef, undef, undef, undef, undef, undef, undef]), rfl, ⟨H4.out.1, H4.out.2⟩, by omega⟩
  intro k a' w5 hI
  obtain ⟨s0, rfl, hMB, hk0⟩ := hI
  have H5 : Hid (_ ∧ _) := hMB
  clear hMB H4
  by_cases hlt : k < 32
  · have hrd : True := trivial
    clear hrd
    have hdk := hd.out k
    refine wp_seq (wp_seq ?_)
    refine walk_seqA 2 [.quiet (.int .i64 ((k : Nat) : Int)), .quiet (.bool true)] (sB H5) ?ho4 ?he4
    case ho4 => exact ak (fun _ => ⟨rfl, fun _ _ => rfl⟩) (ak (by refine fun γ => ⟨rfl, fun w' h => ?_⟩; clear h; go_simp <;> omega) trivial)
    intro γ w6 l hM hl
    have M6 : Mm w6 [(γ1_0, ints .u8 d 32)] := H5.out.1.grow hM (Nat.le_refl _) hl [] rfl (by decide)
    have B6 : Zo w γb [(γ1_0, ints .u8 d 32)] (s0 3) (2 * k) (tx d 32) w6 := Zo.step H5.out.2 (hM.below)
    clear hM hl l H5
    clear γ
    have H6 : Hid (_ ∧ _) := ⟨M6, B6⟩
    clear M6 B6
    refine rest0 rfl (then_normal (wp_cond_true rfl ?_))
    refine wp_skip (then_normal ?_)
    refine wp_seq (wp_block ?_)
    refine walk_anyA 12 [.quiet (s0 3), .quiet (.int .i64 ((k : Nat) : Int)), .quiet (PT γ1_0 k), .quiet (Z8 (d k)), .quiet (Z8 ((d k) / 16)), .call (Z8 (dgt ((d k) / 16))), .quiet (.int .i64 ((k : Nat) : Int)), .quiet (PT γ1_0 k), .quiet (Z8 (d k)), .quiet (Z8 ((d k) % 16)), .call (Z8 (dgt ((d k) % 16))), .row (fun g => .slice (some ⟨g, 0, none⟩) 2 2) (ints .u8 (fun j => [dgt ((d k) / 16), dgt ((d k) % 16)].getD j 0) 2) 5] (sB H6) ?ho5 ?he5
    case ho5 => exact ak (fun _ => ⟨rfl, fun _ _ => rfl⟩) (ak (fun _ => ⟨rfl, fun _ _ => rfl⟩) (ak (fun γ => ⟨rfl, fun w' _ => ex_ix0_25 (j := k) rfl rfl rfl (by omega)⟩) (ak (fun γ => ⟨rfl, fun w' h => ex_loadC h 0 rfl rfl rfl Tryd.isAgg5 (ints_get _ _ (by omega))⟩) (ak (fun γ => ⟨rfl, fun w' _ => ex_quo16 (hd.out _) rfl rfl rfl⟩) (ak (fun γ => ⟨rfl, fun w' h => ⟨38, #[Z8 ((d k) / 16)], exec_call rfl call38 rfl (mpn rfl), digit_any ((d k) / 16) (by omega) w'⟩⟩) (ak (fun _ => ⟨rfl, fun _ _ => rfl⟩) (ak (fun γ => ⟨rfl, fun w' _ => ex_ix0_25 (j := k) rfl rfl rfl (by omega)⟩) (ak (fun γ => ⟨rfl, fun w' h => ex_loadC h 0 rfl rfl rfl Tryd.isAgg5 (ints_get _ _ (by omega))⟩) (ak (fun γ => ⟨rfl, fun w' _ => ex_rem16 rfl rfl rfl⟩) (ak (fun γ => ⟨rfl, fun w' h => ⟨38, #[Z8 ((d k) % 16)], exec_call rfl call38 rfl (mpn rfl), digit_any ((d k) % 16) (by omega) w'⟩⟩) (ak (fun γ => ⟨rfl, fun w' => ex_bs2 rfl rfl rfl⟩) trivial)))))))))))
    intro γ w7 l hM hl
    have M7 : Mm w7 [(γ 11, ints .u8 (fun j => [dgt ((d k) / 16), dgt ((d k) % 16)].getD j 0) 2), (γ1_0, ints .u8 d 32)] := H6.out.1.grow hM (Nat.le_refl _) hl [11] rfl (by decide)
    have B7 : Zo w γb [(γ1_0, ints .u8 d 32)] (s0 3) (2 * k) (tx d 32) w7 := Zo.step H6.out.2 (hM.below)
    have o5_11 : Hid (w.heap.size ≤ γ 11) := Nat.le_trans H6.out.2.size (hM.fin (Nat.le_refl _) hl (i := 11) rfl).2.1
    clear hM hl l H6
    generalize γ 11 = γ5_11 at M7 o5_11 ⊢
    clear γ
    have H7 : Hid (_ ∧ _) := ⟨M7, B7⟩
    clear M7 B7
    refine rest_at (l := [12, 13]) rfl ?_
    obtain ⟨v8, w8, hr, hZ⟩ := H7.out.2.app (a := ⟨γ5_11, 0, none⟩) 2 2 (fun j => [dgt ((d k) / 16), dgt ((d k) % 16)].getD j 0) ((H7.out.1.rs 0 rfl (Nat.le_refl 2)).add) (by omega) 22
    refine rest_set (d := 21) (v := v8) (w' := w8) rfl rfl rfl (ex_app rfl rfl rfl hr) ?_
    simp only [Act.put, sa, sz, ss]
    have H8 : Hid (Mm w8 [(γ1_0, ints .u8 d 32)] ∧ Zo w γb [(γ1_0, ints .u8 d 32)] v8 (2 * k + 2) (tx d 32) w8) := ⟨hZ.m, hZ.cg (tx_two d k hlt)⟩
    clear hr hZ H7
    refine rest_set (d := 3) (v := v8) (w' := w8) rfl rfl rfl rfl ?_
    simp only [Act.put, sa, sz, ss]
    refine rest_nil (block_normal (then_normal ?_))
    refine walk_seqA 2 [.quiet (.int .i64 ((k : Nat) : Int)), .quiet (.int .i64 ((k + 1 : Nat) : Int))] (sB H8) ?ho6 ?he6
    case ho6 => exact ak (fun _ => ⟨rfl, fun _ _ => rfl⟩) (ak (by refine fun γ => ⟨rfl, fun w' h => ?_⟩; clear h; go_simp; rw [IntKind.wrap_i64]; omega) trivial)
    intro γ w9 l hM hl
    have M9 : Mm w9 [(γ1_0, ints .u8 d 32)] := H8.out.1.grow hM (Nat.le_refl _) hl [] rfl (by decide)
    have B9 : Zo w γb [(γ1_0, ints .u8 d 32)] v8 (2 * k + 2) (tx d 32) w9 := Zo.step H8.out.2 (hM.below)
    clear hM hl l H8
    clear γ
    have H9 : Hid (_ ∧ _) := ⟨M9, B9⟩
    clear M9 B9
    refine rest_at (l := [2]) rfl ?_
    refine rest_set (d := 4) (v := .int .i64 ((k + 1 : Nat) : Int)) (w' := w9) rfl rfl rfl rfl ?_
    simp only [Act.put, sa, sz, ss]
    refine rest_nil (then_normal ?_)
    exact ⟨k + 1, ⟨(slotfn [undef, undef, undef, v8, undef, .int .i64 ((k : Nat) : Int), .bool true, .int .i64 ((k : Nat) : Int), .int .i64 ((k + 1 : Nat) : Int), s0 3, .int .i64 ((k : Nat) : Int), PT γ1_0 k, Z8 (d k), Z8 ((d k) / 16), Z8 (dgt ((d k) / 16)), .int .i64 ((k : Nat) : Int), PT γ1_0 k, Z8 (d k), Z8 ((d k) % 16), Z8 (dgt ((d k) % 16)), .slice (some ⟨γ5_11, 0, none⟩) 2 2, v8]), rfl, ⟨H9.out.1, H9.out.2⟩, by omega⟩, by omega⟩
  have hkN : k = 32 := by omega
  subst hkN
  obtain ⟨g3, cap3, e3⟩ := H5.out.2.form (by decide)
  rw [e3] at H5 ⊢
  clear e3
  refine wp_seq (wp_seq ?_)
  refine walk_seqA 2 [.quiet (.int .i64 ((32 : Nat) : Int)), .quiet (.bool false)] (sB H5) ?ho7 ?he7
  case ho7 => exact ak (fun _ => ⟨rfl, fun _ _ => rfl⟩) (ak (by refine fun γ => ⟨rfl, fun w' h => ?_⟩; clear h; go_simp <;> omega) trivial)
  intro γ w10 l hM hl
  have M10 : Mm w10 [(γ1_0, ints .u8 d 32)] := H5.out.1.grow hM (Nat.le_refl _) hl [] rfl (by decide)
  have B10 : Zo w γb [(γ1_0, ints .u8 d 32)] (.slice (some ⟨g3, 0, none⟩) (2 * 32) cap3) (2 * 32) (tx d 32) w10 := Zo.step H5.out.2 (hM.below)
  clear hM hl l H5
  clear γ
  have H10 : Hid (_ ∧ _) := ⟨M10, B10⟩
  clear M10 B10
  refine rest0 rfl (then_normal (wp_cond_false rfl ?_))
  refine wp_exit ?_
  repeat refine then_exit ?_
  refine block_exit ?_
  refine then_normal (wp_seq ?_)
  have HRS : Hid (Rs g3 0 64 (tx d 32) w10) := H10.out.2.rs
  refine (walk_seq) 3 [.quiet (.slice (some ⟨g3, 0, none⟩) (2 * 32) cap3), .quiet (.string (st (tx d 32) 64)), .quiet (.string (st (tx d 32) 64))] (fun u' => Mm u' [(γ1_0, ints .u8 d 32)] ∧ Rs g3 0 64 (tx d 32) u') ?pre8 ?F8 ?hpre8 (fun γ => ?hF8) (by kernel_rfl) ?hL8 ?hS8 ?ho8 ?he8
  case hpre8 => simp only [tk, tz]; rfl
  case hF8 => simp only [fill, Kind.val, Act.put, sa, sz, ss]; rfl
  case hL8 => exact trivial
  case hS8 => exact fun w' hb => ⟨H10.out.1.below hb, HRS.out.below hb⟩
  case ho8 =>
    refine ak (fun _ => ⟨rfl, fun _ _ => rfl⟩) ?_
    refine ak (fun γ => ⟨rfl, fun w' hX => ex_strR hX.2 rfl rfl⟩) ?_
    refine ak (fun _ => ⟨rfl, fun _ _ => rfl⟩) ?_
    exact trivial
  intro γ w11 l hM hl
  have M11 : Mm w11 [(γ1_0, ints .u8 d 32)] := H10.out.1.grow hM (Nat.le_refl _) hl [] rfl (by decide)
  have B11 : Zo w γb [(γ1_0, ints .u8 d 32)] (.slice (some ⟨g3, 0, none⟩) (2 * 32) cap3) (2 * 32) (tx d 32) w11 := Zo.step H10.out.2 (hM.below)
  clear hM hl l H10
  clear γ
  have H11 : Hid (_ ∧ _) := ⟨M11, B11⟩
  clear M11 B11
  refine rest0 rfl (then_normal (wp_ret ?_))
  repeat (first | refine then_ret ?_ | refine block_ret ?_)
  refine bodyPost_ret (v := .string (st (tx d 32) 64)) (by simp [results, Tryd.results20, go_sem, *]) rfl ?_
  exact ⟨rfl, H11.out.2.b⟩
end Rg
end Go.Proofs.YtfboipfpnkngdaaDoor
end
section
namespace Go.Proofs.YtfboipfpnkngdaaDoor
open Go.RowKit
namespace Rg
set_option maxRecDepth 100000
/-- The digit that a letter is, looked for among the first k. -/
def dN (c : Nat) : Nat → Int
  | 0 => -1
  | k + 1 => if c = dgt k then (k : Int) else dN c k
theorem dN_hit {c k : Nat} (h : c = dgt k) : dN c (k + 1) = (k : Int) := by rw [dN, if_pos h]
theorem dN_miss {c k : Nat} (h : ¬ c = dgt k) : dN c (k + 1) = dN c k := by rw [dN, if_neg h]
theorem dN_all (c : Nat) (hc : c < 256) : dN c 16 = if vl c = 16 then -1 else (vl c : Int) := by
  have : ∀ c : Fin 256, dN c.val 16 = if vl c.val = 16 then -1 else (vl c.val : Int) := by decide +kernel
  exact this ⟨c, hc⟩
theorem vl_le (c : Nat) : vl c ≤ 16 := by
  unfold vl
  split
  · omega
  · split <;> omega
def p2 (f : Nat → Nat) : Nat → Nat → Nat
  | 0 => fun _ => 0
  | i + 1 => up (p2 f i) (i / 2) ((p2 f i (i / 2) * 16 % 256 + vl (f i)) % 256)
section
variable {ρ : Operand → Value} {o : Oper} {x y : Operand} {a b : Nat} {w : World}
theorem ex_cv3_5 (h : a < 256) (ho : o.op = .convert 3 5 x) (hx : ρ x = .int .i64 ((a : Nat) : Int)) : (execOp ρ o).run Tryd.prog w = .ok (.value (Z8 a)) w := by
  simp only [execOp, ho, hx]
  clear ho hx
  go_simp
  simp [IntKind.wrap, IntKind.bits, IntKind.signed]
  omega
theorem ex_eq8 {t : Bool} (ht : decide (a = b) = t) (ho : o.op = .binOp .eql 5 x y 5) (hx : ρ x = Z8 a) (hy : ρ y = Z8 b) : (execOp ρ o).run Tryd.prog w = .ok (.value (.bool t)) w := by
  subst ht
  simp only [execOp, ho, hx, hy]
  clear ho hx hy
  go_simp
  by_cases h : a = b <;> simp [h] <;> omega
theorem ex_mul16 (ho : o.op = .binOp .mul 5 x y 5) (hx : ρ x = Z8 a) (hy : ρ y = .int .u8 16) : (execOp ρ o).run Tryd.prog w = .ok (.value (Z8 (a * 16 % 256))) w := by
  simp only [execOp, ho, hx, hy]
  clear ho hx hy
  go_simp
  simp [IntKind.wrap, IntKind.bits, IntKind.signed]
theorem ex_addw8 (ho : o.op = .binOp .add 5 x y 5) (hx : ρ x = Z8 a) (hy : ρ y = Z8 b) : (execOp ρ o).run Tryd.prog w = .ok (.value (Z8 ((a + b) % 256))) w := by
  simp only [execOp, ho, hx, hy]
  clear ho hx hy
  go_simp
  simp [IntKind.wrap, IntKind.bits, IntKind.signed]
end
set_option maxHeartbeats 4000000 in
set_option maxRecDepth 100000 in
theorem dParse_len (f : Nat → Nat) (n : Nat) (hf0 : ∀ j, f j < 256) (hn : n ≠ 64) (w : World) :
    Calls Tryd.prog 16 #[.string (st f n)] w fun e w' => e = .returned (.tuple #[.agg (ints .u8 (fun _ => 0) 32).toArray, .int .i64 4]) ∧ Below w.heap.size w w' := by
  have H0 : Hid (_ ∧ _) := ⟨Mm.nil w, Below.refl w.heap.size w⟩
  have hf : Hid (∀ j, f j < 256) := hf0
  clear hf0
  go_enter Tryd.func16, Tryd.ntmps16
  refine wp_seq ?_
  refine walk_seqA 2 [.made (ints .u8 (fun _ => 0) 32) 25, .quiet (.int .i64 0)] (sB H0) ?ho1 ?he1
  case ho1 => exact ak (fun γ => ⟨rfl, fun w' => ex_mk25 rfl⟩) (ak (fun _ => ⟨rfl, fun _ _ => rfl⟩) trivial)
  intro γ w1 l hM hl
  have H1 : Hid (Mm w1 [(γ 0, ints .u8 (fun _ => 0) 32)] ∧ _) := growB H0 hM (Nat.le_refl _) hl [0] rfl (by decide)
  have o1_0 := ownB H0 hM (Nat.le_refl _) hl (i := 0) rfl
  clear hM hl l
  generalize γ 0 = γ1_0 at H1 o1_0 ⊢
  clear γ
  refine rest0 rfl (then_normal (wp_seq ?_))
  refine walk_seqA 1 [.made (ints .u8 (fun _ => 0) 32) 25] (sB H1) ?ho2 ?he2
  case ho2 => exact ak (fun γ => ⟨rfl, fun w' => ex_mk25 rfl⟩) trivial
  intro γ w2 l hM hl
  have H2 : Hid (Mm w2 [(γ 0, ints .u8 (fun _ => 0) 32), (γ1_0, ints .u8 (fun _ => 0) 32)] ∧ _) := growB H1 hM (Nat.le_refl _) hl [0] rfl (by decide)
  have o2_0 := ownB H1 hM (Nat.le_refl _) hl (i := 0) rfl
  clear hM hl l H1
  generalize γ 0 = γ2_0 at H2 o2_0 ⊢
  clear γ
  refine rest0 rfl (then_normal (wp_seq (wp_seq ?_)))
  refine walk_seqB 3 [.quiet (.string (st f n)), .quiet (.int .i64 ((n : Nat) : Int)), .quiet (.bool true)] H2 ?ho3 ?he3
  case ho3 => exact ak (fun _ => ⟨rfl, fun _ _ => rfl⟩) (ak (fun γ => ⟨rfl, fun w' _ => ex_lenS rfl rfl⟩) (ak (by refine fun γ => ⟨rfl, fun w' h => ?_⟩; clear h; go_simp <;> omega) trivial))
  intro _ w3 H3
  clear H2
  refine rest0 rfl (then_normal (wp_cond_true rfl (wp_seq ?_)))
  refine walk_seqB 1 [.quiet (.agg (ints .u8 (fun _ => 0) 32).toArray)] H3 ?ho4 ?he4
  case ho4 => exact ak (fun γ => ⟨rfl, fun w' h => ex_loadT h 0 rfl rfl rfl Tryd.isAgg25 Tryd.sizeOf25 (ints_whole _ _ _) (ints_len _ _ _)⟩) trivial
  intro _ w4 H4
  clear H3
  refine rest_at (l := [1, 2]) rfl ?_
  refine rest_store rfl rfl rfl (ex_storeT (vs := ints .u8 (fun _ => 0) 32) H4.out.1 1 rfl rfl rfl rfl (by rw [ints_len]; exact Tryd.sizeOf25) (ints_all _ _ _) (by simp [ints_len])) ?_
  have H5 : Hid (Mm (w4.setCells γ1_0 0 (ints .u8 (fun _ => 0) 32)) [(γ2_0, ints .u8 (fun _ => 0) 32), (γ1_0, ints .u8 (fun _ => 0) 32)] ∧ Below w.heap.size w (w4.setCells γ1_0 0 (ints .u8 (fun _ => 0) 32))) := ⟨by
    have h := H4.out.1.put 1 (off := 0) (vs := ints .u8 (fun _ => 0) 32) rfl (by simp [ints_len])
    rw [ints_patch0 _ _ _ _] at h
    exact h, below_setCells _ o1_0.out _ _ _ H4.out.2⟩
  clear H4
  generalize hgw : World.setCells _ _ _ _ = w5 at H5 ⊢
  clear hgw
  refine rest_set (d := 3) rfl rfl rfl rfl ?_
  simp only [Act.put, sa, sz, ss]
  refine rest_nil (then_normal (wp_ret ?_))
  repeat (first | refine then_ret ?_ | refine block_ret ?_)
  have hf0 := var_T H5.out.1 1 rfl Tryd.isAgg25 Tryd.sizeOf25 (ints_len _ _ _)
  refine bodyPost_ret (v := .tuple #[.agg (ints .u8 (fun _ => 0) 32).toArray, .int .i64 4]) (by simp [results, Tryd.results16, asAddr, Act.eval, hf0]) rfl ?_
  exact ⟨rfl, H5.out.2⟩
set_option maxHeartbeats 4000000 in
set_option maxRecDepth 100000 in
theorem dParse_bad (f : Nat → Nat) (hf0 : ∀ j, f j < 256) (ib : Nat) (hib : ib < 64) (hb0 : vl (f ib) = 16) (w : World) :
    Calls Tryd.prog 16 #[.string (st f 64)] w fun e w' => e = .returned (.tuple #[.agg (ints .u8 (fun _ => 0) 32).toArray, .int .i64 4]) ∧ Below w.heap.size w w' := by
  have H0 : Hid (_ ∧ _) := ⟨Mm.nil w, Below.refl w.heap.size w⟩
  have hf : Hid (∀ j, f j < 256) := hf0
  clear hf0
  have hbad : Hid (vl (f ib) = 16) := hb0
  clear hb0
  go_enter Tryd.func16, Tryd.ntmps16
  refine wp_seq ?_
  refine walk_seqA 2 [.made (ints .u8 (fun _ => 0) 32) 25, .quiet (.int .i64 0)] (sB H0) ?ho1 ?he1
  case ho1 => exact ak (fun γ => ⟨rfl, fun w' => ex_mk25 rfl⟩) (ak (fun _ => ⟨rfl, fun _ _ => rfl⟩) trivial)
  intro γ w1 l hM hl
  have H1 : Hid (Mm w1 [(γ 0, ints .u8 (fun _ => 0) 32)] ∧ _) := growB H0 hM (Nat.le_refl _) hl [0] rfl (by decide)
  have o1_0 := ownB H0 hM (Nat.le_refl _) hl (i := 0) rfl
  clear hM hl l
  generalize γ 0 = γ1_0 at H1 o1_0 ⊢
  clear γ
  refine rest0 rfl (then_normal (wp_seq ?_))
  refine walk_seqA 1 [.made (ints .u8 (fun _ => 0) 32) 25] (sB H1) ?ho2 ?he2
  case ho2 => exact ak (fun γ => ⟨rfl, fun w' => ex_mk25 rfl⟩) trivial
  intro γ w2 l hM hl
  have H2 : Hid (Mm w2 [(γ 0, ints .u8 (fun _ => 0) 32), (γ1_0, ints .u8 (fun _ => 0) 32)] ∧ _) := growB H1 hM (Nat.le_refl _) hl [0] rfl (by decide)
  have o2_0 := ownB H1 hM (Nat.le_refl _) hl (i := 0) rfl
  clear hM hl l H1
  generalize γ 0 = γ2_0 at H2 o2_0 ⊢
  clear γ
  refine rest0 rfl (then_normal (wp_seq (wp_seq ?_)))
  refine walk_seqB 3 [.quiet (.string (st f 64)), .quiet (.int .i64 ((64 : Nat) : Int)), .quiet (.bool false)] H2 ?ho3 ?he3
  case ho3 => exact ak (fun _ => ⟨rfl, fun _ _ => rfl⟩) (ak (fun γ => ⟨rfl, fun w' _ => ex_lenS rfl rfl⟩) (ak (by refine fun γ => ⟨rfl, fun w' h => ?_⟩; clear h; go_simp <;> omega) trivial))
  intro _ w3 H3
  clear H2
  refine rest0 rfl (then_normal (wp_cond_false rfl ?_))
  refine wp_skip (then_normal ?_)
  refine wp_seq (wp_seq ?_)
  refine walk_seqB 1 [.quiet (.int .i64 0)] H3 ?ho4 ?he4
  case ho4 => exact ak (fun _ => ⟨rfl, fun _ _ => rfl⟩) trivial
  intro _ w4 H4
  clear H3
  refine rest0 rfl (then_normal (wp_block ?_))
  refine loop_ghost (α := Nat) (fun k a' w' => ∃ s0 : Nat → Value, a' = ⟨#[.string (st f 64), undef, PT γ1_0 0, s0 3, PT γ2_0 0, .int .i64 ((k : Nat) : Int), s0 6, s0 7, .string (st f 64), .int .i64 ((64 : Nat) : Int), .bool false, undef, s0 12, s0 13, s0 14, s0 15, s0 16, s0 17, s0 18, s0 19, s0 20, s0 21, s0 22, s0 23, s0 24, s0 25, s0 26, s0 27, s0 28, s0 29, s0 30, s0 31, s0 32, s0 33, s0 34, s0 35, s0 36, s0 37, s0 38, s0 39, s0 40, s0 41, undef], []⟩ ∧ (Mm w' [(γ2_0, ints .u8 (p2 f k) 32), (γ1_0, ints .u8 (fun _ => 0) 32)] ∧ Below w.heap.size w w') ∧ k ≤ ib) (fun k => 64 - k) 0 ?st0 ?rd0
  case st0 => exact ⟨(slotfn [undef, undef, undef, .int .i64 0, undef, undef, undef, undef, undef, undef, undef, undef, undef, undef, undef, undef, undef, undef, undef, undef, undef, undef, undef, undef, undef, undef, undef, undef, undef, undef, undef, undef, undef, undef, undef, undef, undef, undef, undef, undef, undef, undef]), rfl, ⟨H4.out.1, H4.out.2⟩, Nat.zero_le _⟩
  intro k a' w5 hI
  obtain ⟨s0, rfl, hMB, hk0⟩ := hI
  have H5 : Hid (_ ∧ _) := hMB
  clear hMB H4
  have hlt : k < 64 := by omega
  by_cases hv16 : vl (f k) = 16
  · have hrd : True := trivial
    clear hrd
    refine wp_seq (wp_seq ?_)
    refine walk_seqB 2 [.quiet (.int .i64 ((k : Nat) : Int)), .quiet (.bool true)] H5 ?ho5b ?he5b
    case ho5b => exact ak (fun _ => ⟨rfl, fun _ _ => rfl⟩) (ak (by refine fun γ => ⟨rfl, fun w' h => ?_⟩; clear h; go_simp <;> omega) trivial)
    intro _ w6 H6
    clear H5
    refine rest0 rfl (then_normal (wp_cond_true rfl ?_))
    refine wp_skip (then_normal ?_)
    refine wp_seq (wp_block (wp_seq ?_))
    refine walk_seqB 1 [.quiet (.int .i64 (-1))] H6 ?ho6b ?he6b
    case ho6b => exact ak (fun _ => ⟨rfl, fun _ _ => rfl⟩) trivial
    intro _ w7 H7
    clear H6
    refine rest0 rfl (then_normal (wp_seq (wp_seq ?_)))
    refine walk_seqB 1 [.quiet (.int .i64 0)] H7 ?ho7b ?he7b
    case ho7b => exact ak (fun _ => ⟨rfl, fun _ _ => rfl⟩) trivial
    intro _ w8 H8
    clear H7
    refine rest0 rfl (then_normal (wp_block ?_))
    refine loop_ghost (α := Nat) (fun t a' w' => ∃ s2 : Nat → Value, a' = ⟨#[.string (st f 64), undef, PT γ1_0 0, s0 3, PT γ2_0 0, .int .i64 ((k : Nat) : Int), s2 6, .int .i64 ((t : Nat) : Int), .string (st f 64), .int .i64 ((64 : Nat) : Int), .bool false, undef, .int .i64 ((k : Nat) : Int), .bool true, s0 14, s0 15, s2 16, s2 17, s2 18, s2 19, s2 20, s2 21, s2 22, s2 23, s2 24, s2 25, s2 26, s2 27, s0 28, s0 29, s0 30, s0 31, s0 32, s0 33, s0 34, s0 35, s0 36, s0 37, s0 38, s0 39, s0 40, s0 41, undef], []⟩ ∧ (Mm w' [(γ2_0, ints .u8 (p2 f k) 32), (γ1_0, ints .u8 (fun _ => 0) 32)] ∧ Below w.heap.size w w') ∧ t ≤ 16 ∧ s2 6 = Value.int .i64 (dN (f k) t)) (fun t => 16 - t) 0 ?st2b ?rd2b
    case st2b => exact ⟨(slotfn [undef, undef, undef, undef, undef, undef, .int .i64 (-1), undef, undef, undef, undef, undef, undef, undef, undef, undef, s0 16, s0 17, s0 18, s0 19, s0 20, s0 21, s0 22, s0 23, s0 24, s0 25, s0 26, s0 27]), rfl, ⟨H8.out.1, H8.out.2⟩, ⟨by omega, rfl⟩⟩
    intro t a' w9 hI
    obtain ⟨s2, rfl, hMB, hk2⟩ := hI
    have H9 : Hid (_ ∧ _) := hMB
    clear hMB H8
    by_cases hlt2 : t < 16
    · have hrd : True := trivial
      clear hrd
      by_cases he : f k = dgt t
      · have hrd : True := trivial
        clear hrd
        refine wp_seq (wp_seq ?_)
        refine walk_seqB 2 [.quiet (.int .i64 ((t : Nat) : Int)), .quiet (.bool true)] H9 ?ho8by ?he8by
        case ho8by => exact ak (fun _ => ⟨rfl, fun _ _ => rfl⟩) (ak (by refine fun γ => ⟨rfl, fun w' h => ?_⟩; clear h; go_simp <;> omega) trivial)
        intro _ w10 H10
        clear H9
        refine rest0 rfl (then_normal (wp_cond_true rfl ?_))
        refine wp_skip (then_normal ?_)
        refine wp_seq (wp_block (wp_seq ?_))
        refine walk_anyB 7 [.quiet (.string (st f 64)), .quiet (.int .i64 ((k : Nat) : Int)), .quiet (Z8 (f k)), .quiet (.int .i64 ((t : Nat) : Int)), .quiet (Z8 t), .call (Z8 (dgt t)), .quiet (.bool true)] H10 ?ho9by ?he9by
        case ho9by => exact ak (fun _ => ⟨rfl, fun _ _ => rfl⟩) (ak (fun _ => ⟨rfl, fun _ _ => rfl⟩) (ak (fun γ => ⟨rfl, fun w' _ => ex_atS (j := k) (n := 64) hf.out rfl rfl rfl (by omega)⟩) (ak (fun _ => ⟨rfl, fun _ _ => rfl⟩) (ak (fun γ => ⟨rfl, fun w' _ => ex_cv3_5 (a := t) (by omega) rfl rfl⟩) (ak (fun γ => ⟨rfl, fun w' h => ⟨38, #[Z8 t], exec_call rfl call38 rfl (mpn rfl), digit_any t (by omega) w'⟩⟩) (ak (fun γ => ⟨rfl, fun w' _ => ex_eq8 (decide_eq_true he) rfl rfl rfl⟩) trivial))))))
        intro _ w11 H11
        clear H10
        refine rest0 rfl (then_normal (wp_cond_true rfl ?_))
        refine walk_seqB 2 [.quiet (.int .i64 ((t : Nat) : Int)), .quiet (.int .i64 ((t : Nat) : Int))] H11 ?ho10by ?he10by
        case ho10by => exact ak (fun _ => ⟨rfl, fun _ _ => rfl⟩) (ak (fun _ => ⟨rfl, fun _ _ => rfl⟩) trivial)
        intro _ w12 H12
        clear H11
        refine rest0 rfl ?_
        refine block_normal (then_normal ?_)
        refine walk_seqB 2 [.quiet (.int .i64 ((t : Nat) : Int)), .quiet (.int .i64 ((t + 1 : Nat) : Int))] H12 ?ho11by ?he11by
        case ho11by => exact ak (fun _ => ⟨rfl, fun _ _ => rfl⟩) (ak (by refine fun γ => ⟨rfl, fun w' h => ?_⟩; clear h; go_simp; rw [IntKind.wrap_i64]; omega) trivial)
        intro _ w13 H13
        clear H12
        refine rest_at (l := [2]) rfl ?_
        refine rest_set (d := 7) rfl rfl rfl rfl ?_
        simp only [Act.put, sa, sz, ss]
        refine rest_nil (then_normal ?_)
        exact ⟨t + 1, ⟨(slotfn [undef, undef, undef, undef, undef, undef, .int .i64 ((t : Nat) : Int), undef, undef, undef, undef, undef, undef, undef, undef, undef, .int .i64 ((t : Nat) : Int), .bool true, .int .i64 ((t : Nat) : Int), .int .i64 ((t + 1 : Nat) : Int), .string (st f 64), .int .i64 ((k : Nat) : Int), Z8 (f k), .int .i64 ((t : Nat) : Int), Z8 t, Z8 (dgt t), .bool true, .int .i64 ((t : Nat) : Int)]), rfl, ⟨H13.out.1, H13.out.2⟩, ⟨by omega, by first | exact congrArg (Value.int .i64) (dN_hit he).symm | exact hk2.2.trans (congrArg (Value.int .i64) (dN_miss he).symm)⟩⟩, by omega⟩
      · have hrd : True := trivial
        clear hrd
        refine wp_seq (wp_seq ?_)
        refine walk_seqB 2 [.quiet (.int .i64 ((t : Nat) : Int)), .quiet (.bool true)] H9 ?ho12bn ?he12bn
        case ho12bn => exact ak (fun _ => ⟨rfl, fun _ _ => rfl⟩) (ak (by refine fun γ => ⟨rfl, fun w' h => ?_⟩; clear h; go_simp <;> omega) trivial)
        intro _ w14 H14
        clear H9
        refine rest0 rfl (then_normal (wp_cond_true rfl ?_))
        refine wp_skip (then_normal ?_)
        refine wp_seq (wp_block (wp_seq ?_))
        refine walk_anyB 7 [.quiet (.string (st f 64)), .quiet (.int .i64 ((k : Nat) : Int)), .quiet (Z8 (f k)), .quiet (.int .i64 ((t : Nat) : Int)), .quiet (Z8 t), .call (Z8 (dgt t)), .quiet (.bool false)] H14 ?ho13bn ?he13bn
        case ho13bn => exact ak (fun _ => ⟨rfl, fun _ _ => rfl⟩) (ak (fun _ => ⟨rfl, fun _ _ => rfl⟩) (ak (fun γ => ⟨rfl, fun w' _ => ex_atS (j := k) (n := 64) hf.out rfl rfl rfl (by omega)⟩) (ak (fun _ => ⟨rfl, fun _ _ => rfl⟩) (ak (fun γ => ⟨rfl, fun w' _ => ex_cv3_5 (a := t) (by omega) rfl rfl⟩) (ak (fun γ => ⟨rfl, fun w' h => ⟨38, #[Z8 t], exec_call rfl call38 rfl (mpn rfl), digit_any t (by omega) w'⟩⟩) (ak (fun γ => ⟨rfl, fun w' _ => ex_eq8 (decide_eq_false he) rfl rfl rfl⟩) trivial))))))
        intro _ w15 H15
        clear H14
        refine rest0 rfl (then_normal (wp_cond_false rfl ?_))
        refine wp_skip (block_normal (then_normal ?_))
        refine walk_seqB 2 [.quiet (.int .i64 ((t : Nat) : Int)), .quiet (.int .i64 ((t + 1 : Nat) : Int))] H15 ?ho14bn ?he14bn
        case ho14bn => exact ak (fun _ => ⟨rfl, fun _ _ => rfl⟩) (ak (by refine fun γ => ⟨rfl, fun w' h => ?_⟩; clear h; go_simp; rw [IntKind.wrap_i64]; omega) trivial)
        intro _ w16 H16
        clear H15
        refine rest_at (l := [2]) rfl ?_
        refine rest_set (d := 7) rfl rfl rfl rfl ?_
        simp only [Act.put, sa, sz, ss]
        refine rest_nil (then_normal ?_)
        exact ⟨t + 1, ⟨(slotfn [undef, undef, undef, undef, undef, undef, s2 6, undef, undef, undef, undef, undef, undef, undef, undef, undef, .int .i64 ((t : Nat) : Int), .bool true, .int .i64 ((t : Nat) : Int), .int .i64 ((t + 1 : Nat) : Int), .string (st f 64), .int .i64 ((k : Nat) : Int), Z8 (f k), .int .i64 ((t : Nat) : Int), Z8 t, Z8 (dgt t), .bool false, s2 27]), rfl, ⟨H16.out.1, H16.out.2⟩, ⟨by omega, by first | exact congrArg (Value.int .i64) (dN_hit he).symm | exact hk2.2.trans (congrArg (Value.int .i64) (dN_miss he).symm)⟩⟩, by omega⟩
    have htN : t = 16 := by omega
    subst htN
    have e6 := hk2.2
    rw [dN_all _ (hf.out k), if_pos hv16] at e6
    rw [e6]
    clear e6
    refine wp_seq (wp_seq ?_)
    refine walk_seqB 2 [.quiet (.int .i64 ((16 : Nat) : Int)), .quiet (.bool false)] H9 ?ho15bo ?he15bo
    case ho15bo => exact ak (fun _ => ⟨rfl, fun _ _ => rfl⟩) (ak (by refine fun γ => ⟨rfl, fun w' h => ?_⟩; clear h; go_simp <;> omega) trivial)
    intro _ w17 H17
    clear H9
    refine rest0 rfl (then_normal (wp_cond_false rfl ?_))
    refine wp_exit ?_
    repeat refine then_exit ?_
    refine block_exit ?_
    refine then_normal (wp_seq (wp_seq ?_))
    refine walk_seqB 2 [.quiet (.int .i64 (-1)), .quiet (.bool true)] H17 ?ho16bp ?he16bp
    case ho16bp => exact ak (fun _ => ⟨rfl, fun _ _ => rfl⟩) (ak (by refine fun γ => ⟨rfl, fun w' h => ?_⟩; clear h; go_simp <;> omega) trivial)
    intro _ w18 H18
    clear H17
    refine rest0 rfl (then_normal (wp_cond_true rfl (wp_seq ?_)))
    refine walk_seqB 1 [.quiet (.agg (ints .u8 (fun _ => 0) 32).toArray)] H18 ?ho17bp ?he17bp
    case ho17bp => exact ak (fun γ => ⟨rfl, fun w' _ => ex_bz25 rfl⟩) trivial
    intro _ w19 H19
    clear H18
    refine rest_at (l := [1, 2]) rfl ?_
    refine rest_store rfl rfl rfl (ex_storeT (vs := ints .u8 (fun _ => 0) 32) H19.out.1 1 rfl rfl rfl rfl (by rw [ints_len]; exact Tryd.sizeOf25) (ints_all _ _ _) (by simp [ints_len])) ?_
    have H20 : Hid (Mm (w19.setCells γ1_0 0 (ints .u8 (fun _ => 0) 32)) [(γ2_0, ints .u8 (p2 f k) 32), (γ1_0, ints .u8 (fun _ => 0) 32)] ∧ Below w.heap.size w (w19.setCells γ1_0 0 (ints .u8 (fun _ => 0) 32))) := ⟨by
      have h := H19.out.1.put 1 (off := 0) (vs := ints .u8 (fun _ => 0) 32) rfl (by simp [ints_len])
      rw [ints_patch0 _ _ _ _] at h
      exact h, below_setCells _ o1_0.out _ _ _ H19.out.2⟩
    clear H19
    generalize hgw : World.setCells _ _ _ _ = w20 at H20 ⊢
    clear hgw
    refine rest_set (d := 3) rfl rfl rfl rfl ?_
    simp only [Act.put, sa, sz, ss]
    refine rest_nil (then_normal (wp_ret ?_))
    repeat (first | refine then_ret ?_ | refine block_ret ?_)
    have hf0 := var_T H20.out.1 1 rfl Tryd.isAgg25 Tryd.sizeOf25 (ints_len _ _ _)
    refine bodyPost_ret (v := .tuple #[.agg (ints .u8 (fun _ => 0) 32).toArray, .int .i64 4]) (by simp [results, Tryd.results16, asAddr, Act.eval, hf0]) rfl ?_
    exact ⟨rfl, H20.out.2⟩
  · have hrd : True := trivial
    clear hrd
    refine wp_seq (wp_seq ?_)
    refine walk_seqB 2 [.quiet (.int .i64 ((k : Nat) : Int)), .quiet (.bool true)] H5 ?ho18g ?he18g
    case ho18g => exact ak (fun _ => ⟨rfl, fun _ _ => rfl⟩) (ak (by refine fun γ => ⟨rfl, fun w' h => ?_⟩; clear h; go_simp <;> omega) trivial)
    intro _ w21 H21
    clear H5
    refine rest0 rfl (then_normal (wp_cond_true rfl ?_))
    refine wp_skip (then_normal ?_)
    refine wp_seq (wp_block (wp_seq ?_))
    refine walk_seqB 1 [.quiet (.int .i64 (-1))] H21 ?ho19g ?he19g
    case ho19g => exact ak (fun _ => ⟨rfl, fun _ _ => rfl⟩) trivial
    intro _ w22 H22
    clear H21
    refine rest0 rfl (then_normal (wp_seq (wp_seq ?_)))
    refine walk_seqB 1 [.quiet (.int .i64 0)] H22 ?ho20g ?he20g
    case ho20g => exact ak (fun _ => ⟨rfl, fun _ _ => rfl⟩) trivial
    intro _ w23 H23
    clear H22
    refine rest0 rfl (then_normal (wp_block ?_))
    refine loop_ghost (α := Nat) (fun t a' w' => ∃ s2 : Nat → Value, a' = ⟨#[.string (st f 64), undef, PT γ1_0 0, s0 3, PT γ2_0 0, .int .i64 ((k : Nat) : Int), s2 6, .int .i64 ((t : Nat) : Int), .string (st f 64), .int .i64 ((64 : Nat) : Int), .bool false, undef, .int .i64 ((k : Nat) : Int), .bool true, s0 14, s0 15, s2 16, s2 17, s2 18, s2 19, s2 20, s2 21, s2 22, s2 23, s2 24, s2 25, s2 26, s2 27, s0 28, s0 29, s0 30, s0 31, s0 32, s0 33, s0 34, s0 35, s0 36, s0 37, s0 38, s0 39, s0 40, s0 41, undef], []⟩ ∧ (Mm w' [(γ2_0, ints .u8 (p2 f k) 32), (γ1_0, ints .u8 (fun _ => 0) 32)] ∧ Below w.heap.size w w') ∧ t ≤ 16 ∧ s2 6 = Value.int .i64 (dN (f k) t)) (fun t => 16 - t) 0 ?st2g ?rd2g
    case st2g => exact ⟨(slotfn [undef, undef, undef, undef, undef, undef, .int .i64 (-1), undef, undef, undef, undef, undef, undef, undef, undef, undef, s0 16, s0 17, s0 18, s0 19, s0 20, s0 21, s0 22, s0 23, s0 24, s0 25, s0 26, s0 27]), rfl, ⟨H23.out.1, H23.out.2⟩, ⟨by omega, rfl⟩⟩
    intro t a' w24 hI
    obtain ⟨s2, rfl, hMB, hk2⟩ := hI
    have H24 : Hid (_ ∧ _) := hMB
    clear hMB H23
    by_cases hlt2 : t < 16
    · have hrd : True := trivial
      clear hrd
      by_cases he : f k = dgt t
      · have hrd : True := trivial
        clear hrd
        refine wp_seq (wp_seq ?_)
        refine walk_seqB 2 [.quiet (.int .i64 ((t : Nat) : Int)), .quiet (.bool true)] H24 ?ho21gy ?he21gy
        case ho21gy => exact ak (fun _ => ⟨rfl, fun _ _ => rfl⟩) (ak (by refine fun γ => ⟨rfl, fun w' h => ?_⟩; clear h; go_simp <;> omega) trivial)
        intro _ w25 H25
        clear H24
        refine rest0 rfl (then_normal (wp_cond_true rfl ?_))
        refine wp_skip (then_normal ?_)
        refine wp_seq (wp_block (wp_seq ?_))
        refine walk_anyB 7 [.quiet (.string (st f 64)), .quiet (.int .i64 ((k : Nat) : Int)), .quiet (Z8 (f k)), .quiet (.int .i64 ((t : Nat) : Int)), .quiet (Z8 t), .call (Z8 (dgt t)), .quiet (.bool true)] H25 ?ho22gy ?he22gy
        case ho22gy => exact ak (fun _ => ⟨rfl, fun _ _ => rfl⟩) (ak (fun _ => ⟨rfl, fun _ _ => rfl⟩) (ak (fun γ => ⟨rfl, fun w' _ => ex_atS (j := k) (n := 64) hf.out rfl rfl rfl (by omega)⟩) (ak (fun _ => ⟨rfl, fun _ _ => rfl⟩) (ak (fun γ => ⟨rfl, fun w' _ => ex_cv3_5 (a := t) (by omega) rfl rfl⟩) (ak (fun γ => ⟨rfl, fun w' h => ⟨38, #[Z8 t], exec_call rfl call38 rfl (mpn rfl), digit_any t (by omega) w'⟩⟩) (ak (fun γ => ⟨rfl, fun w' _ => ex_eq8 (decide_eq_true he) rfl rfl rfl⟩) trivial))))))
        intro _ w26 H26
        clear H25
        refine rest0 rfl (then_normal (wp_cond_true rfl ?_))
        refine walk_seqB 2 [.quiet (.int .i64 ((t : Nat) : Int)), .quiet (.int .i64 ((t : Nat) : Int))] H26 ?ho23gy ?he23gy
        case ho23gy => exact ak (fun _ => ⟨rfl, fun _ _ => rfl⟩) (ak (fun _ => ⟨rfl, fun _ _ => rfl⟩) trivial)
        intro _ w27 H27
        clear H26
        refine rest0 rfl ?_
        refine block_normal (then_normal ?_)
        refine walk_seqB 2 [.quiet (.int .i64 ((t : Nat) : Int)), .quiet (.int .i64 ((t + 1 : Nat) : Int))] H27 ?ho24gy ?he24gy
        case ho24gy => exact ak (fun _ => ⟨rfl, fun _ _ => rfl⟩) (ak (by refine fun γ => ⟨rfl, fun w' h => ?_⟩; clear h; go_simp; rw [IntKind.wrap_i64]; omega) trivial)
        intro _ w28 H28
        clear H27
        refine rest_at (l := [2]) rfl ?_
        refine rest_set (d := 7) rfl rfl rfl rfl ?_
        simp only [Act.put, sa, sz, ss]
        refine rest_nil (then_normal ?_)
        exact ⟨t + 1, ⟨(slotfn [undef, undef, undef, undef, undef, undef, .int .i64 ((t : Nat) : Int), undef, undef, undef, undef, undef, undef, undef, undef, undef, .int .i64 ((t : Nat) : Int), .bool true, .int .i64 ((t : Nat) : Int), .int .i64 ((t + 1 : Nat) : Int), .string (st f 64), .int .i64 ((k : Nat) : Int), Z8 (f k), .int .i64 ((t : Nat) : Int), Z8 t, Z8 (dgt t), .bool true, .int .i64 ((t : Nat) : Int)]), rfl, ⟨H28.out.1, H28.out.2⟩, ⟨by omega, by first | exact congrArg (Value.int .i64) (dN_hit he).symm | exact hk2.2.trans (congrArg (Value.int .i64) (dN_miss he).symm)⟩⟩, by omega⟩
      · have hrd : True := trivial
        clear hrd
        refine wp_seq (wp_seq ?_)
        refine walk_seqB 2 [.quiet (.int .i64 ((t : Nat) : Int)), .quiet (.bool true)] H24 ?ho25gn ?he25gn
        case ho25gn => exact ak (fun _ => ⟨rfl, fun _ _ => rfl⟩) (ak (by refine fun γ => ⟨rfl, fun w' h => ?_⟩; clear h; go_simp <;> omega) trivial)
        intro _ w29 H29
        clear H24
        refine rest0 rfl (then_normal (wp_cond_true rfl ?_))
        refine wp_skip (then_normal ?_)
        refine wp_seq (wp_block (wp_seq ?_))
        refine walk_anyB 7 [.quiet (.string (st f 64)), .quiet (.int .i64 ((k : Nat) : Int)), .quiet (Z8 (f k)), .quiet (.int .i64 ((t : Nat) : Int)), .quiet (Z8 t), .call (Z8 (dgt t)), .quiet (.bool false)] H29 ?ho26gn ?he26gn
        case ho26gn => exact ak (fun _ => ⟨rfl, fun _ _ => rfl⟩) (ak (fun _ => ⟨rfl, fun _ _ => rfl⟩) (ak (fun γ => ⟨rfl, fun w' _ => ex_atS (j := k) (n := 64) hf.out rfl rfl rfl (by omega)⟩) (ak (fun _ => ⟨rfl, fun _ _ => rfl⟩) (ak (fun γ => ⟨rfl, fun w' _ => ex_cv3_5 (a := t) (by omega) rfl rfl⟩) (ak (fun γ => ⟨rfl, fun w' h => ⟨38, #[Z8 t], exec_call rfl call38 rfl (mpn rfl), digit_any t (by omega) w'⟩⟩) (ak (fun γ => ⟨rfl, fun w' _ => ex_eq8 (decide_eq_false he) rfl rfl rfl⟩) trivial))))))
        intro _ w30 H30
        clear H29
        refine rest0 rfl (then_normal (wp_cond_false rfl ?_))
        refine wp_skip (block_normal (then_normal ?_))
        refine walk_seqB 2 [.quiet (.int .i64 ((t : Nat) : Int)), .quiet (.int .i64 ((t + 1 : Nat) : Int))] H30 ?ho27gn ?he27gn
        case ho27gn => exact ak (fun _ => ⟨rfl, fun _ _ => rfl⟩) (ak (by refine fun γ => ⟨rfl, fun w' h => ?_⟩; clear h; go_simp; rw [IntKind.wrap_i64]; omega) trivial)
        intro _ w31 H31
        clear H30
        refine rest_at (l := [2]) rfl ?_
        refine rest_set (d := 7) rfl rfl rfl rfl ?_
        simp only [Act.put, sa, sz, ss]
        refine rest_nil (then_normal ?_)
        exact ⟨t + 1, ⟨(slotfn [undef, undef, undef, undef, undef, undef, s2 6, undef, undef, undef, undef, undef, undef, undef, undef, undef, .int .i64 ((t : Nat) : Int), .bool true, .int .i64 ((t : Nat) : Int), .int .i64 ((t + 1 : Nat) : Int), .string (st f 64), .int .i64 ((k : Nat) : Int), Z8 (f k), .int .i64 ((t : Nat) : Int), Z8 t, Z8 (dgt t), .bool false, s2 27]), rfl, ⟨H31.out.1, H31.out.2⟩, ⟨by omega, by first | exact congrArg (Value.int .i64) (dN_hit he).symm | exact hk2.2.trans (congrArg (Value.int .i64) (dN_miss he).symm)⟩⟩, by omega⟩
    have htN : t = 16 := by omega
    subst htN
    have e6 := hk2.2
    rw [dN_all _ (hf.out k), if_neg hv16] at e6
    rw [e6]
    clear e6
    refine wp_seq (wp_seq ?_)
    refine walk_seqB 2 [.quiet (.int .i64 ((16 : Nat) : Int)), .quiet (.bool false)] H24 ?ho28go ?he28go
    case ho28go => exact ak (fun _ => ⟨rfl, fun _ _ => rfl⟩) (ak (by refine fun γ => ⟨rfl, fun w' h => ?_⟩; clear h; go_simp <;> omega) trivial)
    intro _ w32 H32
    clear H24
    refine rest0 rfl (then_normal (wp_cond_false rfl ?_))
    refine wp_exit ?_
    repeat refine then_exit ?_
    refine block_exit ?_
    refine then_normal (wp_seq (wp_seq ?_))
    refine walk_seqB 2 [.quiet (.int .i64 ((vl (f k) : Nat) : Int)), .quiet (.bool false)] H32 ?ho29gp ?he29gp
    case ho29gp => exact ak (fun _ => ⟨rfl, fun _ _ => rfl⟩) (ak (by refine fun γ => ⟨rfl, fun w' h => ?_⟩; clear h; go_simp <;> omega) trivial)
    intro _ w33 H33
    clear H32
    refine rest0 rfl (then_normal (wp_cond_false rfl ?_))
    refine wp_skip (then_normal ?_)
    refine walk_seqB 11 [.quiet (.int .i64 ((k : Nat) : Int)), .quiet (.int .i64 ((k / 2 : Nat) : Int)), .quiet (.int .i64 ((k : Nat) : Int)), .quiet (.int .i64 ((k / 2 : Nat) : Int)), .quiet (PT γ2_0 (k / 2)), .quiet (Z8 ((p2 f k) (k / 2))), .quiet (Z8 (((p2 f k) (k / 2)) * 16 % 256)), .quiet (.int .i64 ((vl (f k) : Nat) : Int)), .quiet (Z8 (vl (f k))), .quiet (Z8 ((((p2 f k) (k / 2)) * 16 % 256 + vl (f k)) % 256)), .quiet (PT γ2_0 (k / 2))] H33 ?ho30gp ?he30gp
    case ho30gp => exact ak (fun _ => ⟨rfl, fun _ _ => rfl⟩) (ak (fun γ => ⟨rfl, fun w' _ => ex_quo3 (a := k) (b := 2) (by omega) (by omega) rfl rfl rfl⟩) (ak (fun _ => ⟨rfl, fun _ _ => rfl⟩) (ak (fun γ => ⟨rfl, fun w' _ => ex_quo3 (a := k) (b := 2) (by omega) (by omega) rfl rfl rfl⟩) (ak (fun γ => ⟨rfl, fun w' _ => ex_ix0_25 (j := k / 2) rfl rfl rfl (by omega)⟩) (ak (fun γ => ⟨rfl, fun w' h => ex_loadC h 0 rfl rfl rfl Tryd.isAgg5 (ints_get _ _ (by omega))⟩) (ak (fun γ => ⟨rfl, fun w' _ => ex_mul16 rfl rfl rfl⟩) (ak (fun _ => ⟨rfl, fun _ _ => rfl⟩) (ak (fun γ => ⟨rfl, fun w' _ => ex_cv3_5 (a := vl (f k)) (by have := vl_le (f k); omega) rfl rfl⟩) (ak (fun γ => ⟨rfl, fun w' _ => ex_addw8 rfl rfl rfl⟩) (ak (fun γ => ⟨rfl, fun w' _ => ex_ix0_25 (j := k / 2) rfl rfl rfl (by omega)⟩) trivial))))))))))
    intro _ w34 H34
    clear H33
    refine rest_at (l := [11]) rfl ?_
    refine rest_store rfl rfl rfl (ex_storeI H34.out.1 0 rfl rfl Tryd.sizeOf5 rfl rfl (by rw [ints_len]; omega)) ?_
    have H35 : Hid (Mm (w34.setCells γ2_0 (k / 2) ([Z8 ((((p2 f k) (k / 2)) * 16 % 256 + vl (f k)) % 256)])) [(γ2_0, ints .u8 (up (p2 f k) (k / 2) ((((p2 f k) (k / 2)) * 16 % 256 + vl (f k)) % 256)) 32), (γ1_0, ints .u8 (fun _ => 0) 32)] ∧ Below w.heap.size w (w34.setCells γ2_0 (k / 2) ([Z8 ((((p2 f k) (k / 2)) * 16 % 256 + vl (f k)) % 256)]))) := ⟨by
      have h := H34.out.1.put 0 (off := k / 2) (vs := [Z8 ((((p2 f k) (k / 2)) * 16 % 256 + vl (f k)) % 256)]) rfl (by rw [ints_len]; simp only [List.length_cons, List.length_nil]; omega)
      rw [ints_patch _ _ _ _ (by omega)] at h
      exact h, below_setCells _ o2_0.out _ _ _ H34.out.2⟩
    clear H34
    generalize hgw : World.setCells _ _ _ _ = w35 at H35 ⊢
    clear hgw
    refine rest_nil (block_normal (then_normal ?_))
    refine walk_seqB 2 [.quiet (.int .i64 ((k : Nat) : Int)), .quiet (.int .i64 ((k + 1 : Nat) : Int))] H35 ?ho31gp ?he31gp
    case ho31gp => exact ak (fun _ => ⟨rfl, fun _ _ => rfl⟩) (ak (by refine fun γ => ⟨rfl, fun w' h => ?_⟩; clear h; go_simp; rw [IntKind.wrap_i64]; omega) trivial)
    intro _ w36 H36
    clear H35
    refine rest_at (l := [2]) rfl ?_
    refine rest_set (d := 5) rfl rfl rfl rfl ?_
    simp only [Act.put, sa, sz, ss]
    refine rest_nil (then_normal ?_)
    exact ⟨k + 1, ⟨(slotfn [undef, undef, undef, s0 3, undef, undef, .int .i64 ((vl (f k) : Nat) : Int), .int .i64 ((16 : Nat) : Int), undef, undef, undef, undef, .int .i64 ((k : Nat) : Int), .bool true, .int .i64 ((k : Nat) : Int), .int .i64 ((k + 1 : Nat) : Int), .int .i64 ((16 : Nat) : Int), .bool false, s2 18, s2 19, s2 20, s2 21, s2 22, s2 23, s2 24, s2 25, s2 26, s2 27, .int .i64 ((vl (f k) : Nat) : Int), .bool false, s0 30, .int .i64 ((k : Nat) : Int), .int .i64 ((k / 2 : Nat) : Int), .int .i64 ((k : Nat) : Int), .int .i64 ((k / 2 : Nat) : Int), PT γ2_0 (k / 2), Z8 ((p2 f k) (k / 2)), Z8 (((p2 f k) (k / 2)) * 16 % 256), .int .i64 ((vl (f k) : Nat) : Int), Z8 (vl (f k)), Z8 ((((p2 f k) (k / 2)) * 16 % 256 + vl (f k)) % 256), PT γ2_0 (k / 2)]), rfl, ⟨H36.out.1, H36.out.2⟩, by have : k ≠ ib := fun e => hv16 (by rw [e]; exact hbad.out); omega⟩, by omega⟩
set_option maxHeartbeats 4000000 in
set_option maxRecDepth 100000 in
theorem dParse_ok (f : Nat → Nat) (hf0 : ∀ j, f j < 256) (hg0 : ∀ i, i < 64 → vl (f i) ≠ 16) (w : World) :
    Calls Tryd.prog 16 #[.string (st f 64)] w fun e w' => e = .returned (.tuple #[.agg (ints .u8 (p2 f 64) 32).toArray, .int .i64 0]) ∧ Below w.heap.size w w' := by
  have H0 : Hid (_ ∧ _) := ⟨Mm.nil w, Below.refl w.heap.size w⟩
  have hf : Hid (∀ j, f j < 256) := hf0
  clear hf0
  have hg : Hid (∀ i, i < 64 → vl (f i) ≠ 16) := hg0
  clear hg0
  go_enter Tryd.func16, Tryd.ntmps16
  refine wp_seq ?_
  refine walk_seqA 2 [.made (ints .u8 (fun _ => 0) 32) 25, .quiet (.int .i64 0)] (sB H0) ?ho1 ?he1
  case ho1 => exact ak (fun γ => ⟨rfl, fun w' => ex_mk25 rfl⟩) (ak (fun _ => ⟨rfl, fun _ _ => rfl⟩) trivial)
  intro γ w1 l hM hl
  have H1 : Hid (Mm w1 [(γ 0, ints .u8 (fun _ => 0) 32)] ∧ _) := growB H0 hM (Nat.le_refl _) hl [0] rfl (by decide)
  have o1_0 := ownB H0 hM (Nat.le_refl _) hl (i := 0) rfl
  clear hM hl l
  generalize γ 0 = γ1_0 at H1 o1_0 ⊢
  clear γ
  refine rest0 rfl (then_normal (wp_seq ?_))
  refine walk_seqA 1 [.made (ints .u8 (fun _ => 0) 32) 25] (sB H1) ?ho2 ?he2
  case ho2 => exact ak (fun γ => ⟨rfl, fun w' => ex_mk25 rfl⟩) trivial
  intro γ w2 l hM hl
  have H2 : Hid (Mm w2 [(γ 0, ints .u8 (fun _ => 0) 32), (γ1_0, ints .u8 (fun _ => 0) 32)] ∧ _) := growB H1 hM (Nat.le_refl _) hl [0] rfl (by decide)
  have o2_0 := ownB H1 hM (Nat.le_refl _) hl (i := 0) rfl
  clear hM hl l H1
  generalize γ 0 = γ2_0 at H2 o2_0 ⊢
  clear γ
  refine rest0 rfl (then_normal (wp_seq (wp_seq ?_)))
  refine walk_seqB 3 [.quiet (.string (st f 64)), .quiet (.int .i64 ((64 : Nat) : Int)), .quiet (.bool false)] H2 ?ho3 ?he3
  case ho3 => exact ak (fun _ => ⟨rfl, fun _ _ => rfl⟩) (ak (fun γ => ⟨rfl, fun w' _ => ex_lenS rfl rfl⟩) (ak (by refine fun γ => ⟨rfl, fun w' h => ?_⟩; clear h; go_simp <;> omega) trivial))
  intro _ w3 H3
  clear H2
  refine rest0 rfl (then_normal (wp_cond_false rfl ?_))
  refine wp_skip (then_normal ?_)
  refine wp_seq (wp_seq ?_)
  refine walk_seqB 1 [.quiet (.int .i64 0)] H3 ?ho4 ?he4
  case ho4 => exact ak (fun _ => ⟨rfl, fun _ _ => rfl⟩) trivial
  intro _ w4 H4
  clear H3
  refine rest0 rfl (then_normal (wp_block ?_))
  refine loop_ghost (α := Nat) (fun k a' w' => ∃ s0 : Nat → Value, a' = ⟨#[.string (st f 64), undef, PT γ1_0 0, s0 3, PT γ2_0 0, .int .i64 ((k : Nat) : Int), s0 6, s0 7, .string (st f 64), .int .i64 ((64 : Nat) : Int), .bool false, undef, s0 12, s0 13, s0 14, s0 15, s0 16, s0 17, s0 18, s0 19, s0 20, s0 21, s0 22, s0 23, s0 24, s0 25, s0 26, s0 27, s0 28, s0 29, s0 30, s0 31, s0 32, s0 33, s0 34, s0 35, s0 36, s0 37, s0 38, s0 39, s0 40, s0 41, undef], []⟩ ∧ (Mm w' [(γ2_0, ints .u8 (p2 f k) 32), (γ1_0, ints .u8 (fun _ => 0) 32)] ∧ Below w.heap.size w w') ∧ k ≤ 64) (fun k => 64 - k) 0 ?st0 ?rd0
  case st0 => exact ⟨(slotfn [undef, undef, undef, .int .i64 0, undef, undef, undef, undef, undef, undef, undef, undef, undef, undef, undef, undef, undef, undef, undef, undef, undef, undef, undef, undef, undef, undef, undef, undef, undef, undef, undef, undef, undef, undef, undef, undef, undef, undef, undef, undef, undef, undef]), rfl, ⟨H4.out.1, H4.out.2⟩, by omega⟩
  intro k a' w5 hI
  obtain ⟨s0, rfl, hMB, hk0⟩ := hI
  have H5 : Hid (_ ∧ _) := hMB
  clear hMB H4
  by_cases hlt : k < 64
  · have hrd : True := trivial
    clear hrd
    have hv16 := hg.out k hlt
    refine wp_seq (wp_seq ?_)
    refine walk_seqB 2 [.quiet (.int .i64 ((k : Nat) : Int)), .quiet (.bool true)] H5 ?ho5g ?he5g
    case ho5g => exact ak (fun _ => ⟨rfl, fun _ _ => rfl⟩) (ak (by refine fun γ => ⟨rfl, fun w' h => ?_⟩; clear h; go_simp <;> omega) trivial)
    intro _ w6 H6
    clear H5
    refine rest0 rfl (then_normal (wp_cond_true rfl ?_))
    refine wp_skip (then_normal ?_)
    refine wp_seq (wp_block (wp_seq ?_))
    refine walk_seqB 1 [.quiet (.int .i64 (-1))] H6 ?ho6g ?he6g
    case ho6g => exact ak (fun _ => ⟨rfl, fun _ _ => rfl⟩) trivial
    intro _ w7 H7
    clear H6
    refine rest0 rfl (then_normal (wp_seq (wp_seq ?_)))
    refine walk_seqB 1 [.quiet (.int .i64 0)] H7 ?ho7g ?he7g
    case ho7g => exact ak (fun _ => ⟨rfl, fun _ _ => rfl⟩) trivial
    intro _ w8 H8
    clear H7
    refine rest0 rfl (then_normal (wp_block ?_))
    refine loop_ghost (α := Nat) (fun t a' w' => ∃ s2 : Nat → Value, a' = ⟨#[.string (st f 64), undef, PT γ1_0 0, s0 3, PT γ2_0 0, .int .i64 ((k : Nat) : Int), s2 6, .int .i64 ((t : Nat) : Int), .string (st f 64), .int .i64 ((64 : Nat) : Int), .bool false, undef, .int .i64 ((k : Nat) : Int), .bool true, s0 14, s0 15, s2 16, s2 17, s2 18, s2 19, s2 20, s2 21, s2 22, s2 23, s2 24, s2 25, s2 26, s2 27, s0 28, s0 29, s0 30, s0 31, s0 32, s0 33, s0 34, s0 35, s0 36, s0 37, s0 38, s0 39, s0 40, s0 41, undef], []⟩ ∧ (Mm w' [(γ2_0, ints .u8 (p2 f k) 32), (γ1_0, ints .u8 (fun _ => 0) 32)] ∧ Below w.heap.size w w') ∧ t ≤ 16 ∧ s2 6 = Value.int .i64 (dN (f k) t)) (fun t => 16 - t) 0 ?st2g ?rd2g
    case st2g => exact ⟨(slotfn [undef, undef, undef, undef, undef, undef, .int .i64 (-1), undef, undef, undef, undef, undef, undef, undef, undef, undef, s0 16, s0 17, s0 18, s0 19, s0 20, s0 21, s0 22, s0 23, s0 24, s0 25, s0 26, s0 27]), rfl, ⟨H8.out.1, H8.out.2⟩, ⟨by omega, rfl⟩⟩
    intro t a' w9 hI
    obtain ⟨s2, rfl, hMB, hk2⟩ := hI
    have H9 : Hid (_ ∧ _) := hMB
    clear hMB H8
    by_cases hlt2 : t < 16
    · have hrd : True := trivial
      clear hrd
      by_cases he : f k = dgt t
      · have hrd : True := trivial
        clear hrd
        refine wp_seq (wp_seq ?_)
        refine walk_seqB 2 [.quiet (.int .i64 ((t : Nat) : Int)), .quiet (.bool true)] H9 ?ho8gy ?he8gy
        case ho8gy => exact ak (fun _ => ⟨rfl, fun _ _ => rfl⟩) (ak (by refine fun γ => ⟨rfl, fun w' h => ?_⟩; clear h; go_simp <;> omega) trivial)
        intro _ w10 H10
        clear H9
        refine rest0 rfl (then_normal (wp_cond_true rfl ?_))
        refine wp_skip (then_normal ?_)
        refine wp_seq (wp_block (wp_seq ?_))
        refine walk_anyB 7 [.quiet (.string (st f 64)), .quiet (.int .i64 ((k : Nat) : Int)), .quiet (Z8 (f k)), .quiet (.int .i64 ((t : Nat) : Int)), .quiet (Z8 t), .call (Z8 (dgt t)), .quiet (.bool true)] H10 ?ho9gy ?he9gy
        case ho9gy => exact ak (fun _ => ⟨rfl, fun _ _ => rfl⟩) (ak (fun _ => ⟨rfl, fun _ _ => rfl⟩) (ak (fun γ => ⟨rfl, fun w' _ => ex_atS (j := k) (n := 64) hf.out rfl rfl rfl (by omega)⟩) (ak (fun _ => ⟨rfl, fun _ _ => rfl⟩) (ak (fun γ => ⟨rfl, fun w' _ => ex_cv3_5 (a := t) (by omega) rfl rfl⟩) (ak (fun γ => ⟨rfl, fun w' h => ⟨38, #[Z8 t], exec_call rfl call38 rfl (mpn rfl), digit_any t (by omega) w'⟩⟩) (ak (fun γ => ⟨rfl, fun w' _ => ex_eq8 (decide_eq_true he) rfl rfl rfl⟩) trivial))))))
        intro _ w11 H11
        clear H10
        refine rest0 rfl (then_normal (wp_cond_true rfl ?_))
        refine walk_seqB 2 [.quiet (.int .i64 ((t : Nat) : Int)), .quiet (.int .i64 ((t : Nat) : Int))] H11 ?ho10gy ?he10gy
        case ho10gy => exact ak (fun _ => ⟨rfl, fun _ _ => rfl⟩) (ak (fun _ => ⟨rfl, fun _ _ => rfl⟩) trivial)
        intro _ w12 H12
        clear H11
        refine rest0 rfl ?_
        refine block_normal (then_normal ?_)
        refine walk_seqB 2 [.quiet (.int .i64 ((t : Nat) : Int)), .quiet (.int .i64 ((t + 1 : Nat) : Int))] H12 ?ho11gy ?he11gy
        case ho11gy => exact ak (fun _ => ⟨rfl, fun _ _ => rfl⟩) (ak (by refine fun γ => ⟨rfl, fun w' h => ?_⟩; clear h; go_simp; rw [IntKind.wrap_i64]; omega) trivial)
        intro _ w13 H13
        clear H12
        refine rest_at (l := [2]) rfl ?_
        refine rest_set (d := 7) rfl rfl rfl rfl ?_
        simp only [Act.put, sa, sz, ss]
        refine rest_nil (then_normal ?_)
        exact ⟨t + 1, ⟨(slotfn [undef, undef, undef, undef, undef, undef, .int .i64 ((t : Nat) : Int), undef, undef, undef, undef, undef, undef, undef, undef, undef, .int .i64 ((t : Nat) : Int), .bool true, .int .i64 ((t : Nat) : Int), .int .i64 ((t + 1 : Nat) : Int), .string (st f 64), .int .i64 ((k : Nat) : Int), Z8 (f k), .int .i64 ((t : Nat) : Int), Z8 t, Z8 (dgt t), .bool true, .int .i64 ((t : Nat) : Int)]), rfl, ⟨H13.out.1, H13.out.2⟩, ⟨by omega, by first | exact congrArg (Value.int .i64) (dN_hit he).symm | exact hk2.2.trans (congrArg (Value.int .i64) (dN_miss he).symm)⟩⟩, by omega⟩
      · have hrd : True := trivial
        clear hrd
        refine wp_seq (wp_seq ?_)
        refine walk_seqB 2 [.quiet (.int .i64 ((t : Nat) : Int)), .quiet (.bool true)] H9 ?ho12gn ?he12gn
        case ho12gn => exact ak (fun _ => ⟨rfl, fun _ _ => rfl⟩) (ak (by refine fun γ => ⟨rfl, fun w' h => ?_⟩; clear h; go_simp <;> omega) trivial)
        intro _ w14 H14
        clear H9
        refine rest0 rfl (then_normal (wp_cond_true rfl ?_))
        refine wp_skip (then_normal ?_)
        refine wp_seq (wp_block (wp_seq ?_))
        refine walk_anyB 7 [.quiet (.string (st f 64)), .quiet (.int .i64 ((k : Nat) : Int)), .quiet (Z8 (f k)), .quiet (.int .i64 ((t : Nat) : Int)), .quiet (Z8 t), .call (Z8 (dgt t)), .quiet (.bool false)] H14 ?ho13gn ?he13gn
        case ho13gn => exact ak (fun _ => ⟨rfl, fun _ _ => rfl⟩) (ak (fun _ => ⟨rfl, fun _ _ => rfl⟩) (ak (fun γ => ⟨rfl, fun w' _ => ex_atS (j := k) (n := 64) hf.out rfl rfl rfl (by omega)⟩) (ak (fun _ => ⟨rfl, fun _ _ => rfl⟩) (ak (fun γ => ⟨rfl, fun w' _ => ex_cv3_5 (a := t) (by omega) rfl rfl⟩) (ak (fun γ => ⟨rfl, fun w' h => ⟨38, #[Z8 t], exec_call rfl call38 rfl (mpn rfl), digit_any t (by omega) w'⟩⟩) (ak (fun γ => ⟨rfl, fun w' _ => ex_eq8 (decide_eq_false he) rfl rfl rfl⟩) trivial))))))
        intro _ w15 H15
        clear H14
        refine rest0 rfl (then_normal (wp_cond_false rfl ?_))
        refine wp_skip (block_normal (then_normal ?_))
        refine walk_seqB 2 [.quiet (.int .i64 ((t : Nat) : Int)), .quiet (.int .i64 ((t + 1 : Nat) : Int))] H15 ?ho14gn ?he14gn
        case ho14gn => exact ak (fun _ => ⟨rfl, fun _ _ => rfl⟩) (ak (by refine fun γ => ⟨rfl, fun w' h => ?_⟩; clear h; go_simp; rw [IntKind.wrap_i64]; omega) trivial)
        intro _ w16 H16
        clear H15
        refine rest_at (l := [2]) rfl ?_
        refine rest_set (d := 7) rfl rfl rfl rfl ?_
        simp only [Act.put, sa, sz, ss]
        refine rest_nil (then_normal ?_)
        exact ⟨t + 1, ⟨(slotfn [undef, undef, undef, undef, undef, undef, s2 6, undef, undef, undef, undef, undef, undef, undef, undef, undef, .int .i64 ((t : Nat) : Int), .bool true, .int .i64 ((t : Nat) : Int), .int .i64 ((t + 1 : Nat) : Int), .string (st f 64), .int .i64 ((k : Nat) : Int), Z8 (f k), .int .i64 ((t : Nat) : Int), Z8 t, Z8 (dgt t), .bool false, s2 27]), rfl, ⟨H16.out.1, H16.out.2⟩, ⟨by omega, by first | exact congrArg (Value.int .i64) (dN_hit he).symm | exact hk2.2.trans (congrArg (Value.int .i64) (dN_miss he).symm)⟩⟩, by omega⟩
    have htN : t = 16 := by omega
    subst htN
    have e6 := hk2.2
    rw [dN_all _ (hf.out k), if_neg hv16] at e6
    rw [e6]
    clear e6
    refine wp_seq (wp_seq ?_)
    refine walk_seqB 2 [.quiet (.int .i64 ((16 : Nat) : Int)), .quiet (.bool false)] H9 ?ho15go ?he15go
    case ho15go => exact ak (fun _ => ⟨rfl, fun _ _ => rfl⟩) (ak (by refine fun γ => ⟨rfl, fun w' h => ?_⟩; clear h; go_simp <;> omega) trivial)
    intro _ w17 H17
    clear H9
    refine rest0 rfl (then_normal (wp_cond_false rfl ?_))
    refine wp_exit ?_
    repeat refine then_exit ?_
    refine block_exit ?_
    refine then_normal (wp_seq (wp_seq ?_))
    refine walk_seqB 2 [.quiet (.int .i64 ((vl (f k) : Nat) : Int)), .quiet (.bool false)] H17 ?ho16gp ?he16gp
    case ho16gp => exact ak (fun _ => ⟨rfl, fun _ _ => rfl⟩) (ak (by refine fun γ => ⟨rfl, fun w' h => ?_⟩; clear h; go_simp <;> omega) trivial)
    intro _ w18 H18
    clear H17
    refine rest0 rfl (then_normal (wp_cond_false rfl ?_))
    refine wp_skip (then_normal ?_)
    refine walk_seqB 11 [.quiet (.int .i64 ((k : Nat) : Int)), .quiet (.int .i64 ((k / 2 : Nat) : Int)), .quiet (.int .i64 ((k : Nat) : Int)), .quiet (.int .i64 ((k / 2 : Nat) : Int)), .quiet (PT γ2_0 (k / 2)), .quiet (Z8 ((p2 f k) (k / 2))), .quiet (Z8 (((p2 f k) (k / 2)) * 16 % 256)), .quiet (.int .i64 ((vl (f k) : Nat) : Int)), .quiet (Z8 (vl (f k))), .quiet (Z8 ((((p2 f k) (k / 2)) * 16 % 256 + vl (f k)) % 256)), .quiet (PT γ2_0 (k / 2))] H18 ?ho17gp ?he17gp
    case ho17gp => exact ak (fun _ => ⟨rfl, fun _ _ => rfl⟩) (ak (fun γ => ⟨rfl, fun w' _ => ex_quo3 (a := k) (b := 2) (by omega) (by omega) rfl rfl rfl⟩) (ak (fun _ => ⟨rfl, fun _ _ => rfl⟩) (ak (fun γ => ⟨rfl, fun w' _ => ex_quo3 (a := k) (b := 2) (by omega) (by omega) rfl rfl rfl⟩) (ak (fun γ => ⟨rfl, fun w' _ => ex_ix0_25 (j := k / 2) rfl rfl rfl (by omega)⟩) (ak (fun γ => ⟨rfl, fun w' h => ex_loadC h 0 rfl rfl rfl Tryd.isAgg5 (ints_get _ _ (by omega))⟩) (ak (fun γ => ⟨rfl, fun w' _ => ex_mul16 rfl rfl rfl⟩) (ak (fun _ => ⟨rfl, fun _ _ => rfl⟩) (ak (fun γ => ⟨rfl, fun w' _ => ex_cv3_5 (a := vl (f k)) (by have := vl_le (f k); omega) rfl rfl⟩) (ak (fun γ => ⟨rfl, fun w' _ => ex_addw8 rfl rfl rfl⟩) (ak (fun γ => ⟨rfl, fun w' _ => ex_ix0_25 (j := k / 2) rfl rfl rfl (by omega)⟩) trivial))))))))))
    intro _ w19 H19
    clear H18
    refine rest_at (l := [11]) rfl ?_
    refine rest_store rfl rfl rfl (ex_storeI H19.out.1 0 rfl rfl Tryd.sizeOf5 rfl rfl (by rw [ints_len]; omega)) ?_
    have H20 : Hid (Mm (w19.setCells γ2_0 (k / 2) ([Z8 ((((p2 f k) (k / 2)) * 16 % 256 + vl (f k)) % 256)])) [(γ2_0, ints .u8 (up (p2 f k) (k / 2) ((((p2 f k) (k / 2)) * 16 % 256 + vl (f k)) % 256)) 32), (γ1_0, ints .u8 (fun _ => 0) 32)] ∧ Below w.heap.size w (w19.setCells γ2_0 (k / 2) ([Z8 ((((p2 f k) (k / 2)) * 16 % 256 + vl (f k)) % 256)]))) := ⟨by
      have h := H19.out.1.put 0 (off := k / 2) (vs := [Z8 ((((p2 f k) (k / 2)) * 16 % 256 + vl (f k)) % 256)]) rfl (by rw [ints_len]; simp only [List.length_cons, List.length_nil]; omega)
      rw [ints_patch _ _ _ _ (by omega)] at h
      exact h, below_setCells _ o2_0.out _ _ _ H19.out.2⟩
    clear H19
    generalize hgw : World.setCells _ _ _ _ = w20 at H20 ⊢
    clear hgw
    refine rest_nil (block_normal (then_normal ?_))
    refine walk_seqB 2 [.quiet (.int .i64 ((k : Nat) : Int)), .quiet (.int .i64 ((k + 1 : Nat) : Int))] H20 ?ho18gp ?he18gp
    case ho18gp => exact ak (fun _ => ⟨rfl, fun _ _ => rfl⟩) (ak (by refine fun γ => ⟨rfl, fun w' h => ?_⟩; clear h; go_simp; rw [IntKind.wrap_i64]; omega) trivial)
    intro _ w21 H21
    clear H20
    refine rest_at (l := [2]) rfl ?_
    refine rest_set (d := 5) rfl rfl rfl rfl ?_
    simp only [Act.put, sa, sz, ss]
    refine rest_nil (then_normal ?_)
    exact ⟨k + 1, ⟨(slotfn [undef, undef, undef, s0 3, undef, undef, .int .i64 ((vl (f k) : Nat) : Int), .int .i64 ((16 : Nat) : Int), undef, undef, undef, undef, .int .i64 ((k : Nat) : Int), .bool true, .int .i64 ((k : Nat) : Int), .int .i64 ((k + 1 : Nat) : Int), .int .i64 ((16 : Nat) : Int), .bool false, s2 18, s2 19, s2 20, s2 21, s2 22, s2 23, s2 24, s2 25, s2 26, s2 27, .int .i64 ((vl (f k) : Nat) : Int), .bool false, s0 30, .int .i64 ((k : Nat) : Int), .int .i64 ((k / 2 : Nat) : Int), .int .i64 ((k : Nat) : Int), .int .i64 ((k / 2 : Nat) : Int), PT γ2_0 (k / 2), Z8 ((p2 f k) (k / 2)), Z8 (((p2 f k) (k / 2)) * 16 % 256), .int .i64 ((vl (f k) : Nat) : Int), Z8 (vl (f k)), Z8 ((((p2 f k) (k / 2)) * 16 % 256 + vl (f k)) % 256), PT γ2_0 (k / 2)]), rfl, ⟨H21.out.1, H21.out.2⟩, by omega⟩, by omega⟩
  have hkN : k = 64 := by omega
  subst hkN
  refine wp_seq (wp_seq ?_)
  refine walk_seqB 2 [.quiet (.int .i64 ((64 : Nat) : Int)), .quiet (.bool false)] H5 ?ho19x ?he19x
  case ho19x => exact ak (fun _ => ⟨rfl, fun _ _ => rfl⟩) (ak (by refine fun γ => ⟨rfl, fun w' h => ?_⟩; clear h; go_simp <;> omega) trivial)
  intro _ w22 H22
  clear H5
  refine rest0 rfl (then_normal (wp_cond_false rfl ?_))
  refine wp_exit ?_
  repeat refine then_exit ?_
  refine block_exit ?_
  refine then_normal (wp_seq ?_)
  refine walk_seqB 1 [.quiet (.agg (ints .u8 (p2 f 64) 32).toArray)] H22 ?ho20x ?he20x
  case ho20x => exact ak (fun γ => ⟨rfl, fun w' h => ex_loadT h 0 rfl rfl rfl Tryd.isAgg25 Tryd.sizeOf25 (ints_whole _ _ _) (ints_len _ _ _)⟩) trivial
  intro _ w23 H23
  clear H22
  refine rest_at (l := [1, 2]) rfl ?_
  refine rest_store rfl rfl rfl (ex_storeT (vs := ints .u8 (p2 f 64) 32) H23.out.1 1 rfl rfl rfl rfl (by rw [ints_len]; exact Tryd.sizeOf25) (ints_all _ _ _) (by simp [ints_len])) ?_
  have H24 : Hid (Mm (w23.setCells γ1_0 0 (ints .u8 (p2 f 64) 32)) [(γ2_0, ints .u8 (p2 f 64) 32), (γ1_0, ints .u8 (p2 f 64) 32)] ∧ Below w.heap.size w (w23.setCells γ1_0 0 (ints .u8 (p2 f 64) 32))) := ⟨by
    have h := H23.out.1.put 1 (off := 0) (vs := ints .u8 (p2 f 64) 32) rfl (by simp [ints_len])
    rw [ints_patch0 _ _ _ _] at h
    exact h, below_setCells _ o1_0.out _ _ _ H23.out.2⟩
  clear H23
  generalize hgw : World.setCells _ _ _ _ = w24 at H24 ⊢
  clear hgw
  refine rest_set (d := 3) rfl rfl rfl rfl ?_
  simp only [Act.put, sa, sz, ss]
  refine rest_nil (then_normal (wp_ret ?_))
  repeat (first | refine then_ret ?_ | refine block_ret ?_)
  have hf0 := var_T H24.out.1 1 rfl Tryd.isAgg25 Tryd.sizeOf25 (ints_len _ _ _)
  refine bodyPost_ret (v := .tuple #[.agg (ints .u8 (p2 f 64) 32).toArray, .int .i64 0]) (by simp [results, Tryd.results16, asAddr, Act.eval, hf0]) rfl ?_
  exact ⟨rfl, H24.out.2⟩
end Rg
end Go.Proofs.YtfboipfpnkngdaaDoor
end
section
namespace Go.Proofs.YtfboipfpnkngdaaDoor
open Go.RowKit
namespace Rg
theorem o8_lt {a b k : Nat} (_hk : k ≤ 8) (ha : a < 2 ^ k) (hb : b < 2 ^ k) : o8 a b < 2 ^ k := by
  unfold o8
  exact Nat.lt_of_le_of_lt (Nat.mod_le _ _) (Nat.or_lt_two_pow ha hb)
theorem al_good (f : Nat → Nat) : ∀ n, (∀ i, i < 2 * n → vl (f i) ≠ 16) → al f n < 2 ^ 4
  | 0, _ => by show (0 : Nat) < 2 ^ 4; decide
  | n + 1, h => by
    have a := al_good f n fun i hi => h i (by omega)
    have h1 := h (2 * n) (by omega)
    have h2 := h (2 * n + 1) (by omega)
    have l1 := vl_le (f (2 * n))
    have l2 := vl_le (f (2 * n + 1))
    show o8 (al f n) (o8 (vl (f (2 * n))) (vl (f (2 * n + 1)))) < 2 ^ 4
    exact o8_lt (by omega) a (o8_lt (by omega) (by omega) (by omega))
theorem al_32 (f : Nat → Nat) : ∀ n, al f n < 2 ^ 5
  | 0 => by show (0 : Nat) < 2 ^ 5; decide
  | n + 1 => by
    have a := al_32 f n
    have l1 := vl_le (f (2 * n))
    have l2 := vl_le (f (2 * n + 1))
    show o8 (al f n) (o8 (vl (f (2 * n))) (vl (f (2 * n + 1)))) < 2 ^ 5
    exact o8_lt (by omega) a (o8_lt (by omega) (by omega) (by omega))
theorem o8_bit {a b : Nat} (ha : a < 2 ^ 5) (hb : b < 2 ^ 5) (h : a.testBit 4 = true ∨ b.testBit 4 = true) : (o8 a b).testBit 4 = true := by
  have hl : (a ||| b) < 2 ^ 5 := Nat.or_lt_two_pow ha hb
  unfold o8
  rw [Nat.mod_eq_of_lt (by omega), Nat.testBit_or]
  rcases h with h | h <;> rw [h] <;> simp
theorem al_hit (f : Nat → Nat) : ∀ n i, i < 2 * n → vl (f i) = 16 → (al f n).testBit 4 = true
  | 0, i, h, _ => by omega
  | n + 1, i, h, hv => by
    have a := al_32 f n
    have l1 := vl_le (f (2 * n))
    have l2 := vl_le (f (2 * n + 1))
    have lo : o8 (vl (f (2 * n))) (vl (f (2 * n + 1))) < 2 ^ 5 := o8_lt (by omega) (by omega) (by omega)
    show (o8 (al f n) (o8 (vl (f (2 * n))) (vl (f (2 * n + 1))))).testBit 4 = true
    by_cases hi : i < 2 * n
    · exact o8_bit a lo (Or.inl (al_hit f n i hi hv))
    · refine o8_bit a lo (Or.inr (o8_bit (by omega) (by omega) ?_))
      rcases (by omega : i = 2 * n ∨ i = 2 * n + 1) with e | e
      · left; rw [← e, hv]; decide
      · right; rw [← e, hv]; decide
theorem bit4 (a : Nat) (h : a < 2 ^ 5) : decide ((a &&& 16) % 256 ≠ 0) = a.testBit 4 := by
  have : ∀ x : Fin 32, decide ((x.val &&& 16) % 256 ≠ 0) = x.val.testBit 4 := by decide
  exact this ⟨a, h⟩
theorem bit4_lt (a : Nat) (h : a < 2 ^ 4) : a.testBit 4 = false := by
  have : ∀ x : Fin 16, x.val.testBit 4 = false := by decide
  exact this ⟨a, h⟩
theorem two_d (a b : Nat) (ha : a < 16) (hb : b < 16) : ((0 * 16 % 256 + a) % 256 * 16 % 256 + b) % 256 = o8 (a * 16 % 256) b := by
  have : ∀ x y : Fin 16, ((0 * 16 % 256 + x.val) % 256 * 16 % 256 + y.val) % 256 = o8 (x.val * 16 % 256) y.val := by decide
  exact this ⟨a, ha⟩ ⟨b, hb⟩
theorem pa_zero (f : Nat → Nat) : ∀ n j, n ≤ j → pa f n j = 0
  | 0, _, _ => rfl
  | n + 1, j, h => by
    show up (pa f n) n _ j = 0
    unfold up
    rw [if_neg (by omega)]
    exact pa_zero f n j (by omega)
theorem p2_pa (f : Nat → Nat) : ∀ n, (∀ i, i < 2 * n → vl (f i) ≠ 16) → ∀ j, p2 f (2 * n) j = pa f n j
  | 0, _, _ => rfl
  | n + 1, h, j => by
    have ih := p2_pa f n fun i hi => h i (by omega)
    have h1 := h (2 * n) (by omega)
    have h2 := h (2 * n + 1) (by omega)
    have l1 := vl_le (f (2 * n))
    have l2 := vl_le (f (2 * n + 1))
    have e1 : (2 * n + 1) / 2 = n := by omega
    have e2 : 2 * n / 2 = n := by omega
    show up (up (p2 f (2 * n)) (2 * n / 2) ((p2 f (2 * n) (2 * n / 2) * 16 % 256 + vl (f (2 * n))) % 256)) ((2 * n + 1) / 2) ((up (p2 f (2 * n)) (2 * n / 2) ((p2 f (2 * n) (2 * n / 2) * 16 % 256 + vl (f (2 * n))) % 256) ((2 * n + 1) / 2) * 16 % 256 + vl (f (2 * n + 1))) % 256) j = up (pa f n) n (o8 (vl (f (2 * n)) * 16 % 256) (vl (f (2 * n + 1)))) j
    rw [e1, e2, up_same, ih n, pa_zero f n n (Nat.le_refl _), two_d _ _ (by omega) (by omega)]
    unfold up
    by_cases hj : j = n
    · rw [if_pos hj, if_pos hj]
    · rw [if_neg hj, if_neg hj, if_neg hj]
      exact ih j
/-- Of any text both tell the same. -/
theorem parse_both (f : Nat → Nat) (n : Nat) (hf : ∀ j, f j < 256) : ∃ (d : Nat → Nat) (e : Int),
    (∀ w, Calls Tryd.prog 15 #[.string (st f n)] w fun r w' => r = .returned (.tuple #[.agg (ints .u8 d 32).toArray, .int .i64 e]) ∧ Below w.heap.size w w') ∧
    (∀ w, Calls Tryd.prog 16 #[.string (st f n)] w fun r w' => r = .returned (.tuple #[.agg (ints .u8 d 32).toArray, .int .i64 e]) ∧ Below w.heap.size w w') := by
  by_cases hn : n = 64
  · subst hn
    by_cases hb : ∃ i, i < 64 ∧ vl (f i) = 16
    · obtain ⟨i, hi, hv⟩ := hb
      exact ⟨_, _, Parse_bad f hf (by rw [bit4 _ (al_32 f 32)]; exact al_hit f 32 i hi hv), dParse_bad f hf i hi hv⟩
    · have hg : ∀ i, i < 64 → vl (f i) ≠ 16 := fun i hi e => hb ⟨i, hi, e⟩
      refine ⟨_, _, Parse_ok f hf (by rw [bit4 _ (al_32 f 32)]; exact bit4_lt _ (al_good f 32 hg)), ?_⟩
      rw [← ints_congr (ik := .u8) (fun j _ => p2_pa f 32 hg j)]
      exact dParse_ok f hf hg
  · exact ⟨_, _, Parse_len f n hf hn, dParse_len f n hf hn⟩
end Rg
end Go.Proofs.YtfboipfpnkngdaaDoor
end
section
namespace Go.Proofs.YtfboipfpnkngdaaDoor
open Go.RowKit
namespace Rg
/-- A lent part, as Join has it. -/
def kP (G : Nat → Nat) (X : Nat → Px) (i : Nat) : Pt8 := ⟨G i, 0, (X i).xs.length, (X i).xs.length + 3, some ⟨G i, 0, none⟩, lf (X i).xs⟩
def pb : Option Addr → Nat
  | some a => a.block
  | none => 0
def po : Option Addr → Nat
  | some a => a.off
  | none => 0
/-- A given part, as Join has it. -/
def xP (X : Nat → Px) (i : Nat) : Pt8 := ⟨pb (X i).p, po (X i).p, (X i).xs.length, (X i).c, (X i).p, lf (X i).xs⟩
def Ok8 (X : Nat → Px) : Prop := ∀ i, ∀ x ∈ (X i).xs, 0 ≤ x ∧ x < 256
theorem Lk.ls {pl : Option Addr} {G : Nat → Nat} {X : Nat → Px} {m : Nat} {w : World} (hx : Ok8 X) (h : Lk pl G X m w) : Ls pl (kP G X) m w := fun g o e i hi => by
  obtain ⟨h1, h2, h3, h4⟩ := h g o e i hi
  refine ⟨h1, h2, fun _ => h3, fun j hj => ?_⟩
  have c0 := (h4 j (Nat.lt_of_lt_of_le hj (Nat.le_add_right _ 3))).1
  show w.cell? ⟨G i, 0 + j, none⟩ = some (Z8 (lf (X i).xs j))
  rw [Nat.zero_add, c0]
  show some (Value.int .u8 (lent (X i).xs j)) = some (Value.int .u8 ((lf (X i).xs j : Nat) : Int))
  rw [lf_int (hx i)]
theorem bsl_at {w : World} {xs : List Int} {c : Nat} {p : Option Addr} (hx : ∀ x ∈ xs, 0 ≤ x ∧ x < 256) (h : BSl w xs c (.slice p xs.length c)) : Bv (pb p) (po p) xs.length c 0 (.slice p xs.length c) ∧ Rs (pb p) (po p) xs.length (lf xs) w := by
  generalize hv : Value.slice p xs.length c = v at h
  cases h using BSl.each with
  | full g o hg hc hcell =>
    injection hv with h1
    subst h1
    refine ⟨Bv.start _ _ _ _, fun _ => hg, fun i hi => ?_⟩
    show w.cell? ⟨g, o + i, none⟩ = some (Value.int .u8 ((lf xs i : Nat) : Int))
    rw [hcell i hi, lf_int hx]
    unfold lent
    rw [if_pos hi]
  | void q hx' =>
    subst hx'
    exact ⟨Bv.void _ _ _ _ _, fun h => absurd h (by decide), fun i hi => absurd hi (by simp)⟩
theorem Lx.ls {pl : Option Addr} {X : Nat → Px} {m : Nat} {w : World} (hx : Ok8 X) (h : Lx pl X m w) : Ls pl (xP X) m w := fun g o e i hi => by
  obtain ⟨h1, h2, h3⟩ := h g o e i hi
  exact ⟨h1, h2, (bsl_at (hx i) h3).2⟩
theorem kP_bv (G : Nat → Nat) (X : Nat → Px) (i : Nat) : Bv (kP G X i).gb (kP G X i).o (kP G X i).n (kP G X i).cp 0 (.slice (kP G X i).p (kP G X i).n (kP G X i).cp) ∧ (kP G X i).n ≤ (kP G X i).cp :=
  ⟨Bv.start _ _ _ _, Nat.le_add_right _ 3⟩
/-- How many bytes the first k parts have. -/
def sl8 (X : Nat → Px) : Nat → Nat
  | 0 => 0
  | k + 1 => sl8 X k + (X k).xs.length
theorem sl8_le (X : Nat → Px) {i : Nat} : ∀ {k}, i ≤ k → sl8 X i ≤ sl8 X k
  | 0, h => by rw [Nat.le_zero.1 h]; exact Nat.le_refl _
  | k + 1, h => by
    show sl8 X i ≤ sl8 X k + (X k).xs.length
    rcases Nat.lt_or_eq_of_le h with e | e
    · have := sl8_le X (Nat.le_of_lt_succ e)
      omega
    · rw [e]
      exact Nat.le_refl _
theorem jn_k (G : Nat → Nat) (X : Nat → Px) : ∀ k, jn (kP G X) k = 8 * k + sl8 X k
  | 0 => rfl
  | k + 1 => by
    show jn (kP G X) k + 8 + (X k).xs.length = 8 * (k + 1) + (sl8 X k + (X k).xs.length)
    rw [jn_k G X k]
    omega
theorem jn_x (X : Nat → Px) : ∀ k, jn (xP X) k = 8 * k + sl8 X k
  | 0 => rfl
  | k + 1 => by
    show jn (xP X) k + 8 + (X k).xs.length = 8 * (k + 1) + (sl8 X k + (X k).xs.length)
    rw [jn_x X k]
    omega
/-- Join of the lent list, and the document's of the given one. -/
theorem joinK {pl : Option Addr} {G : Nat → Nat} {X : Nat → Px} {m c : Nat} (hx : Ok8 X) (hm : m ≤ 100) (hs : sl8 X m ≤ 20000) (hp : 0 < m → ∃ g o, pl = some ⟨g, o, none⟩) (w : World) (hM : Mm w [(0, ints .u32 fT 8), (1, ints .u32 kT 64)]) (h : Lk pl G X m w) :
    Calls Tryd.prog 14 #[.slice pl m c] w fun e w' => e = .returned (.agg (ints .u8 (fz (jq (kP G X) m).s (jq (kP G X) m).r (jq (kP G X) m).c) 32).toArray) ∧ Below w.heap.size w w' :=
  Join_any pl (kP G X) m c (by omega) hp (fun i _ => kP_bv G X i) (fun i hi => by
    have h1 := sl8_le X (show i + 1 ≤ m from hi)
    have h2 : sl8 X (i + 1) = sl8 X i + (X i).xs.length := rfl
    have h3 : (kP G X i).n = (X i).xs.length := rfl
    rw [jq_c, jn_k, h3]
    omega) w hM (h.ls hx)
theorem joinX {pl : Option Addr} {X : Nat → Px} {m c : Nat} (hx : Ok8 X) (hm : m ≤ 100) (hs : sl8 X m ≤ 20000) (hp : 0 < m → ∃ g o, pl = some ⟨g, o, none⟩) (hc : ∀ i, i < m → (X i).xs.length ≤ (X i).c) (hN : ∀ i, i < m → (X i).p = none → (X i).c = 0) (w : World) (h : Lx pl X m w) :
    Calls Tryd.prog 17 #[.slice pl m c] w fun e w' => e = .returned (.agg (ints .u8 (ds (jf (xP X) m) (jn (xP X) m)) 32).toArray) ∧ Below w.heap.size w w' :=
  dJoin_any pl (xP X) m c (by omega) hp (fun i hi => by
    obtain ⟨g, o, e⟩ := hp (by omega)
    exact ⟨(bsl_at (hx i) (h g o e i hi).2.2).1, hc i hi⟩) hN (fun i hi => by
    have h1 := sl8_le X (show i + 1 ≤ m from hi)
    have h2 : sl8 X (i + 1) = sl8 X i + (X i).xs.length := rfl
    have h3 : (xP X i).n = (X i).xs.length := rfl
    rw [jn_x, h3]
    omega) (by rw [jn_x]; omega) w (h.ls hx)
theorem joinEq {G : Nat → Nat} {X : Nat → Px} {m : Nat} (hx : Ok8 X) (hm : m ≤ 100) (hs : sl8 X m ≤ 20000) (j : Nat) (hj : j < 32) :
    fz (jq (kP G X) m).s (jq (kP G X) m).r (jq (kP G X) m).c j = ds (jf (xP X) m) (jn (xP X) m) j :=
  join_eq (P := kP G X) (P' := xP X) m (fun _ _ => ⟨rfl, fun _ _ => rfl⟩) (fun i => lf_lt (hx i)) (by rw [jn_x]; omega) j hj
end Rg
end Go.Proofs.YtfboipfpnkngdaaDoor
end
section
namespace Go.Proofs.YtfboipfpnkngdaaDoor
open Go.RowKit
namespace Rg
set_option maxRecDepth 100000
theorem len_le {X : Nat → Px} {m i : Nat} (hs : sl8 X m ≤ 20000) (hi : i < m) : (X i).xs.length ≤ 1048576 := by
  have h1 := sl8_le X (show i + 1 ≤ m from hi)
  have h2 : sl8 X (i + 1) = sl8 X i + (X i).xs.length := rfl
  omega
theorem call13 : ∀ args w, (callFunc 13 args).run Tryd.prog w = .ok (.enter 13 args) w := by intro args w; go_simp
theorem call16 : ∀ args w, (callFunc 16 args).run Tryd.prog w = .ok (.enter 16 args) w := by intro args w; go_simp
theorem call17 : ∀ args w, (callFunc 17 args).run Tryd.prog w = .ok (.enter 17 args) w := by intro args w; go_simp
theorem call18 : ∀ args w, (callFunc 18 args).run Tryd.prog w = .ok (.enter 18 args) w := by intro args w; go_simp
theorem call20 : ∀ args w, (callFunc 20 args).run Tryd.prog w = .ok (.enter 20 args) w := by intro args w; go_simp
set_option maxHeartbeats 8000000 in
set_option maxRecDepth 100000 in
theorem texts_main (pl : Option Addr) (X : Nat → Px) (m c2 : Nat) (d f : Nat → Nat) (n : Nat) (hp0 : 0 < m → ∃ g o, pl = some ⟨g, o, none⟩) (hm100 : m ≤ 100) (hs : sl8 X m ≤ 20000) (hx0 : Ok8 X) (hc0 : ∀ i, i < m → (X i).xs.length ≤ (X i).c) (hN0 : ∀ i, i < m → (X i).p = none → (X i).c = 0) (hd0 : ∀ j, d j < 256) (q : Nat → Nat) (pe : Int) (C150 : ∀ w, Calls Tryd.prog 15 #[.string (st f n)] w fun r w' => r = .returned (.tuple #[.agg (ints .u8 q 32).toArray, .int .i64 pe]) ∧ Below w.heap.size w w') (C160 : ∀ w, Calls Tryd.prog 16 #[.string (st f n)] w fun r w' => r = .returned (.tuple #[.agg (ints .u8 q 32).toArray, .int .i64 pe]) ∧ Below w.heap.size w w') (w : World) (hm : Mm w [(0, ints .u32 fT 8), (1, ints .u32 kT 64)]) (hL : Lx pl X m w) :
    Calls Tryd.prog 4 #[.slice pl m c2, .agg (ints .u8 d 32).toArray, .string (st f n)] w fun e w' => e = .returned (.bool true) ∧ Below w.heap.size w w' := by
  have H0 : Hid (_ ∧ _) := ⟨hm, Below.refl w.heap.size w⟩
  clear hm
  have hp : Hid _ := hp0
  have hx : Hid _ := hx0
  have hc : Hid _ := hc0
  have hN : Hid _ := hN0
  have hd : Hid _ := hd0
  have C15 : Hid _ := C150
  have C16 : Hid _ := C160
  have LX : Hid (Lx pl X m w) := hL
  clear hL hp0 hx0 hc0 hN0 hd0 C150 C160
  go_enter Tryd.func4, Tryd.ntmps4
  refine wp_seq ?_
  refine walk_seqA 2 [.made (ints .u8 d 32) 25, .quiet (.bool false)] (sB H0) ?ho1 ?he1
  case ho1 => exact ak (fun γ => ⟨rfl, fun w' => ex_boxT rfl rfl⟩) (ak (fun _ => ⟨rfl, fun _ _ => rfl⟩) trivial)
  intro γ w1 l hM hl
  have H1 : Hid (Mm w1 [(γ 0, ints .u8 d 32), (0, ints .u32 fT 8), (1, ints .u32 kT 64)] ∧ _) := growB H0 hM (Nat.le_refl _) hl [0] rfl (by decide)
  have o1_0 := ownB H0 hM (Nat.le_refl _) hl (i := 0) rfl
  clear hM hl l
  generalize γ 0 = γ1_0 at H1 o1_0 ⊢
  clear γ
  refine rest0 rfl (then_normal (wp_seq ?_))
  refine walk_seqB 1 [.quiet (.int .i64 0)] H1 ?ho2 ?he2
  case ho2 => exact ak (fun _ => ⟨rfl, fun _ _ => rfl⟩) trivial
  intro _ w2 H2
  clear H1
  refine rest0 rfl (then_normal (wp_seq (wp_seq ?_)))
  refine walk_seqB 1 [.quiet (.int .i64 0)] H2 ?ho3 ?he3
  case ho3 => exact ak (fun _ => ⟨rfl, fun _ _ => rfl⟩) trivial
  intro _ w3 H3
  clear H2
  refine rest0 rfl (then_normal (wp_block ?_))
  refine loop_ghost (α := Nat) (fun k a' w' => ∃ s0 : Nat → Value, a' = ⟨#[.slice pl m c2, .agg (ints .u8 d 32).toArray, .string (st f n), undef, PT γ1_0 0, undef, s0 6, .int .i64 ((sl8 X k : Nat) : Int), .int .i64 ((k : Nat) : Int), undef, undef, undef, undef, undef, undef, s0 15, s0 16, s0 17, s0 18, s0 19, s0 20, s0 21, s0 22, s0 23, s0 24, s0 25, s0 26, s0 27, s0 28, s0 29, undef, undef, undef, undef, undef, undef, undef, undef, undef, undef, undef, undef, undef, undef, undef, undef, undef, undef, undef, undef, undef, undef, undef, undef, undef, undef, undef, undef, undef, undef, undef, undef, undef, undef, undef, undef, undef, undef, undef, undef, undef, undef, undef], []⟩ ∧ (Mm w' [(γ1_0, ints .u8 d 32), (0, ints .u32 fT 8), (1, ints .u32 kT 64)] ∧ Below w.heap.size w w') ∧ k ≤ m) (fun k => m - k) 0 ?st0 ?rd0
  case st0 => exact ⟨(slotfn [undef, undef, undef, undef, undef, undef, .bool false, undef, undef, undef, undef, undef, undef, undef, undef, undef, undef, undef, undef, undef, undef, undef, undef, undef, undef, undef, undef, undef, undef, undef]), rfl, ⟨H3.out.1, H3.out.2⟩, by omega⟩
  intro k a' w4 hI
  obtain ⟨s0, rfl, hMB, hk0⟩ := hI
  have H4 : Hid (_ ∧ _) := hMB
  clear hMB H3
  by_cases hlt : k < m
  · have hrd : True := trivial
    clear hrd
    obtain ⟨g2, o2, e2⟩ := hp.out (by omega)
    have E2 : Hid (pl = some ⟨g2, o2, none⟩) := e2
    clear e2
    have hs1 : sl8 X k + (X k).xs.length ≤ 20000 := Nat.le_trans (sl8_le X (show k + 1 ≤ m by omega)) hs
    refine wp_seq (wp_seq ?_)
    refine walk_seqB 4 [.quiet (.int .i64 ((k : Nat) : Int)), .quiet (.slice pl m c2), .quiet (.int .i64 ((m : Nat) : Int)), .quiet (.bool true)] H4 ?ho4 ?he4
    case ho4 => exact ak (fun _ => ⟨rfl, fun _ _ => rfl⟩) (ak (fun _ => ⟨rfl, fun _ _ => rfl⟩) (ak (by refine fun γ => ⟨rfl, fun w' h => ?_⟩; clear h; go_simp) (ak (by refine fun γ => ⟨rfl, fun w' h => ?_⟩; clear h; go_simp <;> omega) trivial)))
    intro _ w5 H5
    clear H4
    refine rest0 rfl (then_normal (wp_cond_true rfl ?_))
    refine wp_skip (then_normal ?_)
    refine wp_seq (wp_block (wp_seq ?_))
    refine (walk_seq) 7 [.quiet (.int .i64 ((sl8 X k : Nat) : Int)), .quiet (.slice pl m c2), .quiet (.int .i64 ((k : Nat) : Int)), .quiet (PT g2 (o2 + k)), .quiet (.slice (X k).p (X k).xs.length (X k).c), .quiet (.int .i64 (((X k).xs.length : Nat) : Int)), .quiet (.int .i64 (((sl8 X k) + ((X k).xs.length) : Nat) : Int))] (fun u' => Mm u' [(γ1_0, ints .u8 d 32), (0, ints .u32 fT 8), (1, ints .u32 kT 64)] ∧ (Lx pl X m u')) ?pre5 ?F5 ?hpre5 (fun γ => ?hF5) (by kernel_rfl) ?hL5 ?hS5 ?ho5 ?he5
    case hpre5 => simp only [tk, tz]; rfl
    case hF5 => simp only [fill, Kind.val, Act.put, sa, sz, ss]; rfl
    case hL5 => exact trivial
    case hS5 => exact fun w' hb => ⟨H5.out.1.below hb, LX.out.below (H5.out.2.trans (hb.mono H5.out.2.size))⟩
    case ho5 =>
      refine ak (fun _ => ⟨rfl, fun _ _ => rfl⟩) ?_
      refine ak (fun _ => ⟨rfl, fun _ _ => rfl⟩) ?_
      refine ak (fun _ => ⟨rfl, fun _ _ => rfl⟩) ?_
      refine ak (fun γ => ⟨rfl, fun w' _ => ex_ixP29 (j := k) E2.out rfl rfl rfl (by omega)⟩) ?_
      refine ak (fun γ => ⟨rfl, fun w' hX => ex_ldX (j := k) hX.2 E2.out (by omega) rfl rfl⟩) ?_
      refine ak (by refine fun γ => ⟨rfl, fun w' h => ?_⟩; clear h; go_simp) ?_
      refine ak (by refine fun γ => ⟨rfl, fun w' h => ?_⟩; clear h; go_simp; rw [IntKind.wrap_i64]; omega) ?_
      exact trivial
    intro γ w6 l hM hl
    have H6 := keepB H5 hM.below
    clear hM hl l H5 γ
    refine rest_at (l := [7]) rfl ?_
    refine rest_set (d := 7) rfl rfl rfl rfl ?_
    simp only [Act.put, sa, sz, ss]
    refine rest_nil (then_normal (wp_seq ?_))
    refine walk_seqB 2 [.quiet (.int .i64 (((sl8 X k) + ((X k).xs.length) : Nat) : Int)), .quiet (.bool false)] H6 ?ho6 ?he6
    case ho6 => exact ak (fun _ => ⟨rfl, fun _ _ => rfl⟩) (ak (by refine fun γ => ⟨rfl, fun w' h => ?_⟩; clear h; go_simp <;> omega) trivial)
    intro _ w7 H7
    clear H6
    refine rest0 rfl (then_normal (wp_cond_false rfl ?_))
    refine wp_skip (block_normal (then_normal ?_))
    refine walk_seqB 2 [.quiet (.int .i64 ((k : Nat) : Int)), .quiet (.int .i64 ((k + 1 : Nat) : Int))] H7 ?ho7 ?he7
    case ho7 => exact ak (fun _ => ⟨rfl, fun _ _ => rfl⟩) (ak (by refine fun γ => ⟨rfl, fun w' h => ?_⟩; clear h; go_simp; rw [IntKind.wrap_i64]; omega) trivial)
    intro _ w8 H8
    clear H7
    refine rest_at (l := [2]) rfl ?_
    refine rest_set (d := 8) rfl rfl rfl rfl ?_
    simp only [Act.put, sa, sz, ss]
    refine rest_nil (then_normal ?_)
    exact ⟨k + 1, ⟨(slotfn [undef, undef, undef, undef, undef, undef, s0 6, undef, undef, undef, undef, undef, undef, undef, undef, .int .i64 ((k : Nat) : Int), .slice pl m c2, .int .i64 ((m : Nat) : Int), .bool true, .int .i64 ((k : Nat) : Int), .int .i64 ((k + 1 : Nat) : Int), .int .i64 ((sl8 X k : Nat) : Int), .slice pl m c2, .int .i64 ((k : Nat) : Int), PT g2 (o2 + k), .slice (X k).p (X k).xs.length (X k).c, .int .i64 (((X k).xs.length : Nat) : Int), .int .i64 (((sl8 X k) + ((X k).xs.length) : Nat) : Int), .int .i64 (((sl8 X k) + ((X k).xs.length) : Nat) : Int), .bool false]), rfl, ⟨H8.out.1, H8.out.2⟩, by omega⟩, by omega⟩
  have hkm : m = k := by omega
  subst hkm
  refine wp_seq (wp_seq ?_)
  refine walk_seqB 4 [.quiet (.int .i64 ((m : Nat) : Int)), .quiet (.slice pl m c2), .quiet (.int .i64 ((m : Nat) : Int)), .quiet (.bool false)] H4 ?ho8 ?he8
  case ho8 => exact ak (fun _ => ⟨rfl, fun _ _ => rfl⟩) (ak (fun _ => ⟨rfl, fun _ _ => rfl⟩) (ak (by refine fun γ => ⟨rfl, fun w' h => ?_⟩; clear h; go_simp) (ak (by refine fun γ => ⟨rfl, fun w' h => ?_⟩; clear h; go_simp <;> omega) trivial)))
  intro _ w9 H9
  clear H4
  refine rest0 rfl (then_normal (wp_cond_false rfl ?_))
  refine wp_exit ?_
  repeat refine then_exit ?_
  refine block_exit ?_
  refine then_normal (wp_seq (wp_seq ?_))
  refine walk_seqB 3 [.quiet (.slice pl m c2), .quiet (.int .i64 ((m : Nat) : Int)), .quiet (.bool false)] H9 ?ho9 ?he9
  case ho9 => exact ak (fun _ => ⟨rfl, fun _ _ => rfl⟩) (ak (by refine fun γ => ⟨rfl, fun w' h => ?_⟩; clear h; go_simp) (ak (by refine fun γ => ⟨rfl, fun w' h => ?_⟩; clear h; go_simp <;> omega) trivial))
  intro _ w10 H10
  clear H9
  refine rest0 rfl (then_normal (wp_cond_false rfl ?_))
  refine wp_skip (then_normal (wp_seq ?_))
  refine walk_seqB 1 [.quiet (.slice pl m c2)] H10 ?ho10 ?he10
  case ho10 => exact ak (fun _ => ⟨rfl, fun _ _ => rfl⟩) trivial
  intro _ w11 H11
  clear H10
  refine rest_at (l := [1, 2]) rfl ?_
  refine rest_enter (d := 34) rfl rfl rfl (exec_call (args := #[.slice pl m c2]) rfl call13 rfl (mpn rfl)) ((lentL_any pl X m c2 (by omega) hp.out (fun i hi => len_le hs hi) w11 (LX.out.below H11.out.2) : Calls Tryd.prog 13 #[.slice pl m c2] w11 (fun e w' => ∃ v, e = .returned v ∧ ZL w11 w11.heap.size X v m w'))) ?_
  rintro _ w ⟨G, hZ⟩
  obtain ⟨pl1, c1, rfl, hp10, hK⟩ := hZ.lk
  have HB : Hid _ := H11.out.2.trans (hZ.b.mono H11.out.2.size)
  have LX1 : Hid (Lx pl X m w) := LX.out.below HB.out
  have LK1 : Hid (Lk pl1 G X m w) := hK
  have hp1 : Hid _ := hp10
  have H12 : Hid (Mm w [(γ1_0, ints .u8 d 32), (0, ints .u32 fT 8), (1, ints .u32 kT 64)] ∧ Below w.heap.size w w) := ⟨H11.out.1.below hZ.b, Below.refl _ _⟩
  clear hZ hK hp10 H11
  simp only [Act.put, sa, sz, ss]
  refine rest_set (d := 9) rfl rfl rfl rfl ?_
  simp only [Act.put, sa, sz, ss]
  refine rest_nil (then_normal (wp_seq ?_))
  refine (walk_seq) 4 [.quiet (.slice pl1 m c1), .call (.agg (ints .u8 (fz (jq (kP G X) m).s (jq (kP G X) m).r (jq (kP G X) m).c) 32).toArray), .made (ints .u8 (fun _ => 0) 32) 25, .laid 2 (ints .u8 (fun _ => 0) 32) (ints .u8 (fz (jq (kP G X) m).s (jq (kP G X) m).r (jq (kP G X) m).c) 32)] (fun u' => Mm u' [(γ1_0, ints .u8 d 32), (0, ints .u32 fT 8), (1, ints .u32 kT 64)] ∧ (Lk pl1 G X m u' ∧ Lx pl X m u')) ?pre11 ?F11 ?hpre11 (fun γ => ?hF11) (by kernel_rfl) ?hL11 ?hS11 ?ho11 ?he11
  case hpre11 => simp only [tk, tz]; rfl
  case hF11 => simp only [fill, Kind.val, Act.put, sa, sz, ss]; rfl
  case hL11 => exact ⟨⟨_, rfl⟩, trivial⟩
  case hS11 => exact fun w' hb => ⟨H12.out.1.below hb, ⟨LK1.out.below (H12.out.2.trans (hb.mono H12.out.2.size)), LX1.out.below (H12.out.2.trans (hb.mono H12.out.2.size))⟩⟩
  case ho11 =>
    refine ak (fun _ => ⟨rfl, fun _ _ => rfl⟩) ?_
    refine ak (fun γ => ⟨rfl, fun w' hX => have h := hX.1; ⟨14, #[.slice pl1 m c1], exec_call rfl call14 rfl (mpn rfl), joinK hx.out hm100 hs hp1.out w' (h.two 1 2 rfl rfl (by decide)) hX.2.1⟩⟩) ?_
    refine ak (fun γ => ⟨rfl, fun w' => ex_mk25 rfl⟩) ?_
    refine ak (fun γ => ⟨rfl, rfl, (ints_len _ _ _).trans (ints_len _ _ _).symm, fun w' h => ex_laidI h Tryd.sizeOf25 rfl rfl rfl⟩) ?_
    exact trivial
  intro γ w13 l hM hl
  have H13 : Hid (Mm w13 [(γ 2, ints .u8 (fz (jq (kP G X) m).s (jq (kP G X) m).r (jq (kP G X) m).c) 32), (γ1_0, ints .u8 d 32), (0, ints .u32 fT 8), (1, ints .u32 kT 64)] ∧ _) := growB H12 hM (Nat.le_refl _) hl [2] rfl (by decide)
  have o11_2 := ownB H12 hM (Nat.le_refl _) hl (i := 2) rfl
  clear hM hl l H12
  generalize γ 2 = γ11_2 at H13 o11_2 ⊢
  clear γ
  refine rest0 rfl (then_normal (wp_seq ?_))
  refine walk_seqA 8 [.quiet (.string (st f n)), .call (.tuple #[.agg (ints .u8 q 32).toArray, .int .i64 pe]), .quiet (.tuple #[.agg (ints .u8 q 32).toArray, .int .i64 pe]), .quiet (.agg (ints .u8 q 32).toArray), .quiet (.int .i64 pe), .made (ints .u8 (fun _ => 0) 32) 25, .laid 5 (ints .u8 (fun _ => 0) 32) (ints .u8 q 32), .quiet (.int .i64 pe)] (sB H13) ?ho12 ?he12 (hL := ?hL12)
  case hL12 => exact ⟨⟨_, rfl⟩, trivial⟩
  case ho12 => exact ak (fun _ => ⟨rfl, fun _ _ => rfl⟩) (ak (fun γ => ⟨rfl, fun w' h => ⟨15, #[.string (st f n)], exec_call rfl call15 rfl (mpn rfl), C15.out w'⟩⟩) (ak (fun _ => ⟨rfl, fun _ _ => rfl⟩) (ak (by refine fun γ => ⟨rfl, fun w' h => ?_⟩; clear h; go_simp) (ak (by refine fun γ => ⟨rfl, fun w' h => ?_⟩; clear h; go_simp) (ak (fun γ => ⟨rfl, fun w' => ex_mk25 rfl⟩) (ak (fun γ => ⟨rfl, rfl, (ints_len _ _ _).trans (ints_len _ _ _).symm, fun w' h => ex_laidI h Tryd.sizeOf25 rfl rfl rfl⟩) (ak (fun _ => ⟨rfl, fun _ _ => rfl⟩) trivial)))))))
  intro γ w14 l hM hl
  have H14 : Hid (Mm w14 [(γ 5, ints .u8 q 32), (γ11_2, ints .u8 (fz (jq (kP G X) m).s (jq (kP G X) m).r (jq (kP G X) m).c) 32), (γ1_0, ints .u8 d 32), (0, ints .u32 fT 8), (1, ints .u32 kT 64)] ∧ _) := growB H13 hM (Nat.le_refl _) hl [5] rfl (by decide)
  have o12_5 := ownB H13 hM (Nat.le_refl _) hl (i := 5) rfl
  clear hM hl l H13
  generalize γ 5 = γ12_5 at H14 o12_5 ⊢
  clear γ
  refine rest0 rfl (then_normal (wp_seq ?_))
  refine walk_seqA 8 [.quiet (.string (st f n)), .call (.tuple #[.agg (ints .u8 q 32).toArray, .int .i64 pe]), .quiet (.tuple #[.agg (ints .u8 q 32).toArray, .int .i64 pe]), .quiet (.agg (ints .u8 q 32).toArray), .quiet (.int .i64 pe), .made (ints .u8 (fun _ => 0) 32) 25, .laid 5 (ints .u8 (fun _ => 0) 32) (ints .u8 q 32), .quiet (.int .i64 pe)] (sB H14) ?ho13 ?he13 (hL := ?hL13)
  case hL13 => exact ⟨⟨_, rfl⟩, trivial⟩
  case ho13 => exact ak (fun _ => ⟨rfl, fun _ _ => rfl⟩) (ak (fun γ => ⟨rfl, fun w' h => ⟨16, #[.string (st f n)], exec_call rfl call16 rfl (mpn rfl), C16.out w'⟩⟩) (ak (fun _ => ⟨rfl, fun _ _ => rfl⟩) (ak (by refine fun γ => ⟨rfl, fun w' h => ?_⟩; clear h; go_simp) (ak (by refine fun γ => ⟨rfl, fun w' h => ?_⟩; clear h; go_simp) (ak (fun γ => ⟨rfl, fun w' => ex_mk25 rfl⟩) (ak (fun γ => ⟨rfl, rfl, (ints_len _ _ _).trans (ints_len _ _ _).symm, fun w' h => ex_laidI h Tryd.sizeOf25 rfl rfl rfl⟩) (ak (fun _ => ⟨rfl, fun _ _ => rfl⟩) trivial)))))))
  intro γ w15 l hM hl
  have H15 : Hid (Mm w15 [(γ 5, ints .u8 q 32), (γ12_5, ints .u8 q 32), (γ11_2, ints .u8 (fz (jq (kP G X) m).s (jq (kP G X) m).r (jq (kP G X) m).c) 32), (γ1_0, ints .u8 d 32), (0, ints .u32 fT 8), (1, ints .u32 kT 64)] ∧ _) := growB H14 hM (Nat.le_refl _) hl [5] rfl (by decide)
  have o13_5 := ownB H14 hM (Nat.le_refl _) hl (i := 5) rfl
  clear hM hl l H14
  generalize γ 5 = γ13_5 at H15 o13_5 ⊢
  clear γ
  refine rest0 rfl (then_normal (wp_seq ?_))
  refine (walk_any) (by kernel_rfl) 27 [.quiet (.agg (ints .u8 (fz (jq (kP G X) m).s (jq (kP G X) m).r (jq (kP G X) m).c) 32).toArray), .quiet (.slice pl m c2), .call (.agg (ints .u8 (ds (jf (xP X) m) (jn (xP X) m)) 32).toArray), .quiet (.bool true), .quiet (.bool true), .quiet (.slice pl1 m c1), .quiet (.slice pl m c2), .call (.bool true), .quiet (.bool true), .quiet (.bool true), .quiet (.agg (ints .u8 d 32).toArray), .call (.string (st (tx d 32) 64)), .quiet (.agg (ints .u8 d 32).toArray), .call (.string (st (tx d 32) 64)), .quiet (.bool true), .quiet (.bool true), .quiet (.bool true), .quiet (.agg (ints .u8 q 32).toArray), .quiet (.agg (ints .u8 q 32).toArray), .quiet (.bool true), .quiet (.bool true), .quiet (.bool true), .quiet (.int .i64 pe), .quiet (.int .i64 pe), .quiet (.bool true), .quiet (.bool true), .quiet (.bool true)] (fun u' => Mm u' [(γ13_5, ints .u8 q 32), (γ12_5, ints .u8 q 32), (γ11_2, ints .u8 (fz (jq (kP G X) m).s (jq (kP G X) m).r (jq (kP G X) m).c) 32), (γ1_0, ints .u8 d 32), (0, ints .u32 fT 8), (1, ints .u32 kT 64)] ∧ (Lk pl1 G X m u' ∧ Lx pl X m u')) ?pre14 ?F14 ?hpre14 (fun γ => ?hF14) (by kernel_rfl) ?hL14 ?hS14 ?ho14 ?he14
  case hpre14 => simp only [tk, tz]; rfl
  case hF14 => simp only [fill, Kind.val, Act.put, sa, sz, ss]; rfl
  case hL14 => exact trivial
  case hS14 => exact fun w' hb => ⟨H15.out.1.below hb, ⟨LK1.out.below (H15.out.2.trans (hb.mono H15.out.2.size)), LX1.out.below (H15.out.2.trans (hb.mono H15.out.2.size))⟩⟩
  case ho14 =>
    refine ak (fun γ => ⟨rfl, fun w' hX => have h := hX.1; ex_loadT h 2 rfl rfl rfl Tryd.isAgg25 Tryd.sizeOf25 (ints_whole _ _ _) (ints_len _ _ _)⟩) ?_
    refine ak (fun _ => ⟨rfl, fun _ _ => rfl⟩) ?_
    refine ak (fun γ => ⟨rfl, fun w' hX => ⟨17, #[.slice pl m c2], exec_call rfl call17 rfl (mpn rfl), joinX hx.out hm100 hs hp.out hc.out hN.out w' hX.2.2⟩⟩) ?_
    refine ak (fun γ => ⟨rfl, fun w' _ => ex_eq25 (all_of (fun j hj => joinEq hx.out hm100 hs j hj)) rfl rfl rfl⟩) ?_
    refine ak (fun _ => ⟨rfl, fun _ _ => rfl⟩) ?_
    refine ak (fun _ => ⟨rfl, fun _ _ => rfl⟩) ?_
    refine ak (fun _ => ⟨rfl, fun _ _ => rfl⟩) ?_
    refine ak (fun γ => ⟨rfl, fun w' hX => ⟨18, #[.slice pl1 m c1, .slice pl m c2], exec_call rfl call18 rfl (mpn rfl), keptL_any pl1 pl G X m c1 c2 (by omega) hp1.out hp.out (fun i hi => len_le hs hi) w' hX.2.1 hX.2.2⟩⟩) ?_
    refine ak (by refine fun γ => ⟨rfl, fun w' h => ?_⟩; clear h; go_simp) ?_
    refine ak (fun _ => ⟨rfl, fun _ _ => rfl⟩) ?_
    refine ak (fun γ => ⟨rfl, fun w' hX => have h := hX.1; ex_loadT h 3 rfl rfl rfl Tryd.isAgg25 Tryd.sizeOf25 (ints_whole _ _ _) (ints_len _ _ _)⟩) ?_
    refine ak (fun γ => ⟨rfl, fun w' hX => ⟨19, #[.agg (ints .u8 d 32).toArray], exec_call rfl call19 rfl (mpn rfl), Text_any d hd.out w'⟩⟩) ?_
    refine ak (fun γ => ⟨rfl, fun w' hX => have h := hX.1; ex_loadT h 3 rfl rfl rfl Tryd.isAgg25 Tryd.sizeOf25 (ints_whole _ _ _) (ints_len _ _ _)⟩) ?_
    refine ak (fun γ => ⟨rfl, fun w' hX => ⟨20, #[.agg (ints .u8 d 32).toArray], exec_call rfl call20 rfl (mpn rfl), dText_any d hd.out w'⟩⟩) ?_
    refine ak (fun γ => ⟨rfl, fun w' _ => ex_eqS rfl rfl rfl rfl⟩) ?_
    refine ak (by refine fun γ => ⟨rfl, fun w' h => ?_⟩; clear h; go_simp) ?_
    refine ak (fun _ => ⟨rfl, fun _ _ => rfl⟩) ?_
    refine ak (fun γ => ⟨rfl, fun w' hX => have h := hX.1; ex_loadT h 1 rfl rfl rfl Tryd.isAgg25 Tryd.sizeOf25 (ints_whole _ _ _) (ints_len _ _ _)⟩) ?_
    refine ak (fun γ => ⟨rfl, fun w' hX => have h := hX.1; ex_loadT h 0 rfl rfl rfl Tryd.isAgg25 Tryd.sizeOf25 (ints_whole _ _ _) (ints_len _ _ _)⟩) ?_
    refine ak (fun γ => ⟨rfl, fun w' _ => ex_eq25 (all_self _ _) rfl rfl rfl⟩) ?_
    refine ak (by refine fun γ => ⟨rfl, fun w' h => ?_⟩; clear h; go_simp) ?_
    refine ak (fun _ => ⟨rfl, fun _ _ => rfl⟩) ?_
    refine ak (fun _ => ⟨rfl, fun _ _ => rfl⟩) ?_
    refine ak (fun _ => ⟨rfl, fun _ _ => rfl⟩) ?_
    refine ak (by refine fun γ => ⟨rfl, fun w' h => ?_⟩; clear h; go_simp <;> omega) ?_
    refine ak (by refine fun γ => ⟨rfl, fun w' h => ?_⟩; clear h; go_simp) ?_
    refine ak (fun _ => ⟨rfl, fun _ _ => rfl⟩) ?_
    exact trivial
  intro γ w16 l hM hl
  have H16 := keepB H15 hM.below
  clear hM hl l H15 γ
  refine rest0 rfl (then_normal (wp_ret ?_))
  repeat (first | refine then_ret ?_ | refine block_ret ?_)
  refine bodyPost_ret (v := .bool true) (by simp [results, Tryd.results4, go_sem, *]) rfl ?_
  exact ⟨rfl, HB.out.trans (H16.out.2.mono HB.out.size)⟩
set_option maxHeartbeats 8000000 in
set_option maxRecDepth 100000 in
theorem texts_many (pl : Option Addr) (X : Nat → Px) (m c2 : Nat) (d f : Nat → Nat) (n : Nat) (hp0 : 0 < m → ∃ g o, pl = some ⟨g, o, none⟩) (hm100 : 100 < m) (hml : m ≤ 4611686018427387904) (hs : sl8 X m ≤ 20000) (w : World) (hm : Mm w [(0, ints .u32 fT 8), (1, ints .u32 kT 64)]) (hL : Lx pl X m w) :
    Calls Tryd.prog 4 #[.slice pl m c2, .agg (ints .u8 d 32).toArray, .string (st f n)] w fun e w' => e = .returned (.bool true) ∧ Below w.heap.size w w' := by
  have H0 : Hid (_ ∧ _) := ⟨hm, Below.refl w.heap.size w⟩
  clear hm
  have hp : Hid _ := hp0
  have LX : Hid (Lx pl X m w) := hL
  clear hL hp0
  go_enter Tryd.func4, Tryd.ntmps4
  refine wp_seq ?_
  refine walk_seqA 2 [.made (ints .u8 d 32) 25, .quiet (.bool false)] (sB H0) ?ho1 ?he1
  case ho1 => exact ak (fun γ => ⟨rfl, fun w' => ex_boxT rfl rfl⟩) (ak (fun _ => ⟨rfl, fun _ _ => rfl⟩) trivial)
  intro γ w1 l hM hl
  have H1 : Hid (Mm w1 [(γ 0, ints .u8 d 32), (0, ints .u32 fT 8), (1, ints .u32 kT 64)] ∧ _) := growB H0 hM (Nat.le_refl _) hl [0] rfl (by decide)
  have o1_0 := ownB H0 hM (Nat.le_refl _) hl (i := 0) rfl
  clear hM hl l
  generalize γ 0 = γ1_0 at H1 o1_0 ⊢
  clear γ
  refine rest0 rfl (then_normal (wp_seq ?_))
  refine walk_seqB 1 [.quiet (.int .i64 0)] H1 ?ho2 ?he2
  case ho2 => exact ak (fun _ => ⟨rfl, fun _ _ => rfl⟩) trivial
  intro _ w2 H2
  clear H1
  refine rest0 rfl (then_normal (wp_seq (wp_seq ?_)))
  refine walk_seqB 1 [.quiet (.int .i64 0)] H2 ?ho3 ?he3
  case ho3 => exact ak (fun _ => ⟨rfl, fun _ _ => rfl⟩) trivial
  intro _ w3 H3
  clear H2
  refine rest0 rfl (then_normal (wp_block ?_))
  refine loop_ghost (α := Nat) (fun k a' w' => ∃ s0 : Nat → Value, a' = ⟨#[.slice pl m c2, .agg (ints .u8 d 32).toArray, .string (st f n), undef, PT γ1_0 0, undef, s0 6, .int .i64 ((sl8 X k : Nat) : Int), .int .i64 ((k : Nat) : Int), undef, undef, undef, undef, undef, undef, s0 15, s0 16, s0 17, s0 18, s0 19, s0 20, s0 21, s0 22, s0 23, s0 24, s0 25, s0 26, s0 27, s0 28, s0 29, undef, undef, undef, undef, undef, undef, undef, undef, undef, undef, undef, undef, undef, undef, undef, undef, undef, undef, undef, undef, undef, undef, undef, undef, undef, undef, undef, undef, undef, undef, undef, undef, undef, undef, undef, undef, undef, undef, undef, undef, undef, undef, undef], []⟩ ∧ (Mm w' [(γ1_0, ints .u8 d 32), (0, ints .u32 fT 8), (1, ints .u32 kT 64)] ∧ Below w.heap.size w w') ∧ k ≤ m) (fun k => m - k) 0 ?st0 ?rd0
  case st0 => exact ⟨(slotfn [undef, undef, undef, undef, undef, undef, .bool false, undef, undef, undef, undef, undef, undef, undef, undef, undef, undef, undef, undef, undef, undef, undef, undef, undef, undef, undef, undef, undef, undef, undef]), rfl, ⟨H3.out.1, H3.out.2⟩, by omega⟩
  intro k a' w4 hI
  obtain ⟨s0, rfl, hMB, hk0⟩ := hI
  have H4 : Hid (_ ∧ _) := hMB
  clear hMB H3
  by_cases hlt : k < m
  · have hrd : True := trivial
    clear hrd
    obtain ⟨g2, o2, e2⟩ := hp.out (by omega)
    have E2 : Hid (pl = some ⟨g2, o2, none⟩) := e2
    clear e2
    have hs1 : sl8 X k + (X k).xs.length ≤ 20000 := Nat.le_trans (sl8_le X (show k + 1 ≤ m by omega)) hs
    refine wp_seq (wp_seq ?_)
    refine walk_seqB 4 [.quiet (.int .i64 ((k : Nat) : Int)), .quiet (.slice pl m c2), .quiet (.int .i64 ((m : Nat) : Int)), .quiet (.bool true)] H4 ?ho4 ?he4
    case ho4 => exact ak (fun _ => ⟨rfl, fun _ _ => rfl⟩) (ak (fun _ => ⟨rfl, fun _ _ => rfl⟩) (ak (by refine fun γ => ⟨rfl, fun w' h => ?_⟩; clear h; go_simp) (ak (by refine fun γ => ⟨rfl, fun w' h => ?_⟩; clear h; go_simp <;> omega) trivial)))
    intro _ w5 H5
    clear H4
    refine rest0 rfl (then_normal (wp_cond_true rfl ?_))
    refine wp_skip (then_normal ?_)
    refine wp_seq (wp_block (wp_seq ?_))
    refine (walk_seq) 7 [.quiet (.int .i64 ((sl8 X k : Nat) : Int)), .quiet (.slice pl m c2), .quiet (.int .i64 ((k : Nat) : Int)), .quiet (PT g2 (o2 + k)), .quiet (.slice (X k).p (X k).xs.length (X k).c), .quiet (.int .i64 (((X k).xs.length : Nat) : Int)), .quiet (.int .i64 (((sl8 X k) + ((X k).xs.length) : Nat) : Int))] (fun u' => Mm u' [(γ1_0, ints .u8 d 32), (0, ints .u32 fT 8), (1, ints .u32 kT 64)] ∧ (Lx pl X m u')) ?pre5 ?F5 ?hpre5 (fun γ => ?hF5) (by kernel_rfl) ?hL5 ?hS5 ?ho5 ?he5
    case hpre5 => simp only [tk, tz]; rfl
    case hF5 => simp only [fill, Kind.val, Act.put, sa, sz, ss]; rfl
    case hL5 => exact trivial
    case hS5 => exact fun w' hb => ⟨H5.out.1.below hb, LX.out.below (H5.out.2.trans (hb.mono H5.out.2.size))⟩
    case ho5 =>
      refine ak (fun _ => ⟨rfl, fun _ _ => rfl⟩) ?_
      refine ak (fun _ => ⟨rfl, fun _ _ => rfl⟩) ?_
      refine ak (fun _ => ⟨rfl, fun _ _ => rfl⟩) ?_
      refine ak (fun γ => ⟨rfl, fun w' _ => ex_ixP29 (j := k) E2.out rfl rfl rfl (by omega)⟩) ?_
      refine ak (fun γ => ⟨rfl, fun w' hX => ex_ldX (j := k) hX.2 E2.out (by omega) rfl rfl⟩) ?_
      refine ak (by refine fun γ => ⟨rfl, fun w' h => ?_⟩; clear h; go_simp) ?_
      refine ak (by refine fun γ => ⟨rfl, fun w' h => ?_⟩; clear h; go_simp; rw [IntKind.wrap_i64]; omega) ?_
      exact trivial
    intro γ w6 l hM hl
    have H6 := keepB H5 hM.below
    clear hM hl l H5 γ
    refine rest_at (l := [7]) rfl ?_
    refine rest_set (d := 7) rfl rfl rfl rfl ?_
    simp only [Act.put, sa, sz, ss]
    refine rest_nil (then_normal (wp_seq ?_))
    refine walk_seqB 2 [.quiet (.int .i64 (((sl8 X k) + ((X k).xs.length) : Nat) : Int)), .quiet (.bool false)] H6 ?ho6 ?he6
    case ho6 => exact ak (fun _ => ⟨rfl, fun _ _ => rfl⟩) (ak (by refine fun γ => ⟨rfl, fun w' h => ?_⟩; clear h; go_simp <;> omega) trivial)
    intro _ w7 H7
    clear H6
    refine rest0 rfl (then_normal (wp_cond_false rfl ?_))
    refine wp_skip (block_normal (then_normal ?_))
    refine walk_seqB 2 [.quiet (.int .i64 ((k : Nat) : Int)), .quiet (.int .i64 ((k + 1 : Nat) : Int))] H7 ?ho7 ?he7
    case ho7 => exact ak (fun _ => ⟨rfl, fun _ _ => rfl⟩) (ak (by refine fun γ => ⟨rfl, fun w' h => ?_⟩; clear h; go_simp; rw [IntKind.wrap_i64]; omega) trivial)
    intro _ w8 H8
    clear H7
    refine rest_at (l := [2]) rfl ?_
    refine rest_set (d := 8) rfl rfl rfl rfl ?_
    simp only [Act.put, sa, sz, ss]
    refine rest_nil (then_normal ?_)
    exact ⟨k + 1, ⟨(slotfn [undef, undef, undef, undef, undef, undef, s0 6, undef, undef, undef, undef, undef, undef, undef, undef, .int .i64 ((k : Nat) : Int), .slice pl m c2, .int .i64 ((m : Nat) : Int), .bool true, .int .i64 ((k : Nat) : Int), .int .i64 ((k + 1 : Nat) : Int), .int .i64 ((sl8 X k : Nat) : Int), .slice pl m c2, .int .i64 ((k : Nat) : Int), PT g2 (o2 + k), .slice (X k).p (X k).xs.length (X k).c, .int .i64 (((X k).xs.length : Nat) : Int), .int .i64 (((sl8 X k) + ((X k).xs.length) : Nat) : Int), .int .i64 (((sl8 X k) + ((X k).xs.length) : Nat) : Int), .bool false]), rfl, ⟨H8.out.1, H8.out.2⟩, by omega⟩, by omega⟩
  have hkm : m = k := by omega
  subst hkm
  refine wp_seq (wp_seq ?_)
  refine walk_seqB 4 [.quiet (.int .i64 ((m : Nat) : Int)), .quiet (.slice pl m c2), .quiet (.int .i64 ((m : Nat) : Int)), .quiet (.bool false)] H4 ?ho8 ?he8
  case ho8 => exact ak (fun _ => ⟨rfl, fun _ _ => rfl⟩) (ak (fun _ => ⟨rfl, fun _ _ => rfl⟩) (ak (by refine fun γ => ⟨rfl, fun w' h => ?_⟩; clear h; go_simp) (ak (by refine fun γ => ⟨rfl, fun w' h => ?_⟩; clear h; go_simp <;> omega) trivial)))
  intro _ w9 H9
  clear H4
  refine rest0 rfl (then_normal (wp_cond_false rfl ?_))
  refine wp_exit ?_
  repeat refine then_exit ?_
  refine block_exit ?_
  refine then_normal (wp_seq (wp_seq ?_))
  refine walk_seqB 3 [.quiet (.slice pl m c2), .quiet (.int .i64 ((m : Nat) : Int)), .quiet (.bool true)] H9 ?ho9 ?he9
  case ho9 => exact ak (fun _ => ⟨rfl, fun _ _ => rfl⟩) (ak (by refine fun γ => ⟨rfl, fun w' h => ?_⟩; clear h; go_simp) (ak (by refine fun γ => ⟨rfl, fun w' h => ?_⟩; clear h; go_simp <;> omega) trivial))
  intro _ w10 H10
  clear H9
  refine rest0 rfl (then_normal (wp_cond_true rfl (wp_seq ?_)))
  refine walk_seqB 1 [.quiet (.bool true)] H10 ?ho10 ?he10
  case ho10 => exact ak (fun _ => ⟨rfl, fun _ _ => rfl⟩) trivial
  intro _ w11 H11
  clear H10
  refine rest0 rfl (then_normal (wp_ret ?_))
  repeat (first | refine then_ret ?_ | refine block_ret ?_)
  refine bodyPost_ret (v := .bool true) (by simp [results, Tryd.results4, go_sem, *]) rfl ?_
  exact ⟨rfl, H11.out.2⟩
set_option maxHeartbeats 8000000 in
set_option maxRecDepth 100000 in
theorem texts_long (pl : Option Addr) (X : Nat → Px) (m c2 : Nat) (d f : Nat → Nat) (n : Nat) (hp0 : 0 < m → ∃ g o, pl = some ⟨g, o, none⟩) (hml : m ≤ 4611686018427387904) (hs : 20000 < sl8 X m) (hb0 : ∀ i, i < m → (X i).xs.length ≤ 4611686018427387904) (w : World) (hm : Mm w [(0, ints .u32 fT 8), (1, ints .u32 kT 64)]) (hL : Lx pl X m w) :
    Calls Tryd.prog 4 #[.slice pl m c2, .agg (ints .u8 d 32).toArray, .string (st f n)] w fun e w' => e = .returned (.bool true) ∧ Below w.heap.size w w' := by
  have H0 : Hid (_ ∧ _) := ⟨hm, Below.refl w.heap.size w⟩
  clear hm
  have hp : Hid _ := hp0
  have hb : Hid _ := hb0
  have LX : Hid (Lx pl X m w) := hL
  clear hL hp0 hb0
  go_enter Tryd.func4, Tryd.ntmps4
  refine wp_seq ?_
  refine walk_seqA 2 [.made (ints .u8 d 32) 25, .quiet (.bool false)] (sB H0) ?ho1 ?he1
  case ho1 => exact ak (fun γ => ⟨rfl, fun w' => ex_boxT rfl rfl⟩) (ak (fun _ => ⟨rfl, fun _ _ => rfl⟩) trivial)
  intro γ w1 l hM hl
  have H1 : Hid (Mm w1 [(γ 0, ints .u8 d 32), (0, ints .u32 fT 8), (1, ints .u32 kT 64)] ∧ _) := growB H0 hM (Nat.le_refl _) hl [0] rfl (by decide)
  have o1_0 := ownB H0 hM (Nat.le_refl _) hl (i := 0) rfl
  clear hM hl l
  generalize γ 0 = γ1_0 at H1 o1_0 ⊢
  clear γ
  refine rest0 rfl (then_normal (wp_seq ?_))
  refine walk_seqB 1 [.quiet (.int .i64 0)] H1 ?ho2 ?he2
  case ho2 => exact ak (fun _ => ⟨rfl, fun _ _ => rfl⟩) trivial
  intro _ w2 H2
  clear H1
  refine rest0 rfl (then_normal (wp_seq (wp_seq ?_)))
  refine walk_seqB 1 [.quiet (.int .i64 0)] H2 ?ho3 ?he3
  case ho3 => exact ak (fun _ => ⟨rfl, fun _ _ => rfl⟩) trivial
  intro _ w3 H3
  clear H2
  refine rest0 rfl (then_normal (wp_block ?_))
  refine loop_ghost (α := Nat) (fun k a' w' => ∃ s0 : Nat → Value, a' = ⟨#[.slice pl m c2, .agg (ints .u8 d 32).toArray, .string (st f n), undef, PT γ1_0 0, undef, s0 6, .int .i64 ((sl8 X k : Nat) : Int), .int .i64 ((k : Nat) : Int), undef, undef, undef, undef, undef, undef, s0 15, s0 16, s0 17, s0 18, s0 19, s0 20, s0 21, s0 22, s0 23, s0 24, s0 25, s0 26, s0 27, s0 28, s0 29, undef, undef, undef, undef, undef, undef, undef, undef, undef, undef, undef, undef, undef, undef, undef, undef, undef, undef, undef, undef, undef, undef, undef, undef, undef, undef, undef, undef, undef, undef, undef, undef, undef, undef, undef, undef, undef, undef, undef, undef, undef, undef, undef], []⟩ ∧ (Mm w' [(γ1_0, ints .u8 d 32), (0, ints .u32 fT 8), (1, ints .u32 kT 64)] ∧ Below w.heap.size w w') ∧ k ≤ m ∧ sl8 X k ≤ 20000) (fun k => m - k) 0 ?st0 ?rd0
  case st0 => exact ⟨(slotfn [undef, undef, undef, undef, undef, undef, .bool false, undef, undef, undef, undef, undef, undef, undef, undef, undef, undef, undef, undef, undef, undef, undef, undef, undef, undef, undef, undef, undef, undef, undef]), rfl, ⟨H3.out.1, H3.out.2⟩, ⟨Nat.zero_le _, Nat.zero_le _⟩⟩
  intro k a' w4 hI
  obtain ⟨s0, rfl, hMB, hk0⟩ := hI
  have H4 : Hid (_ ∧ _) := hMB
  clear hMB H3
  have hlt : k < m := by
    have h0 := hk0.2
    have h1 := hk0.1
    rcases Nat.lt_or_eq_of_le h1 with e | e
    · exact e
    · rw [e] at h0; omega
  obtain ⟨g2, o2, e2⟩ := hp.out (by omega)
  have E2 : Hid (pl = some ⟨g2, o2, none⟩) := e2
  clear e2
  have hs0 := hk0.2
  have hs2 := hb.out k hlt
  by_cases hbig : 20000 < sl8 X k + (X k).xs.length
  · have hrd : True := trivial
    clear hrd
    refine wp_seq (wp_seq ?_)
    refine walk_seqB 4 [.quiet (.int .i64 ((k : Nat) : Int)), .quiet (.slice pl m c2), .quiet (.int .i64 ((m : Nat) : Int)), .quiet (.bool true)] H4 ?ho4y ?he4y
    case ho4y => exact ak (fun _ => ⟨rfl, fun _ _ => rfl⟩) (ak (fun _ => ⟨rfl, fun _ _ => rfl⟩) (ak (by refine fun γ => ⟨rfl, fun w' h => ?_⟩; clear h; go_simp) (ak (by refine fun γ => ⟨rfl, fun w' h => ?_⟩; clear h; go_simp <;> omega) trivial)))
    intro _ w5 H5
    clear H4
    refine rest0 rfl (then_normal (wp_cond_true rfl ?_))
    refine wp_skip (then_normal ?_)
    refine wp_seq (wp_block (wp_seq ?_))
    refine (walk_seq) 7 [.quiet (.int .i64 ((sl8 X k : Nat) : Int)), .quiet (.slice pl m c2), .quiet (.int .i64 ((k : Nat) : Int)), .quiet (PT g2 (o2 + k)), .quiet (.slice (X k).p (X k).xs.length (X k).c), .quiet (.int .i64 (((X k).xs.length : Nat) : Int)), .quiet (.int .i64 (((sl8 X k) + ((X k).xs.length) : Nat) : Int))] (fun u' => Mm u' [(γ1_0, ints .u8 d 32), (0, ints .u32 fT 8), (1, ints .u32 kT 64)] ∧ (Lx pl X m u')) ?pre5y ?F5y ?hpre5y (fun γ => ?hF5y) (by kernel_rfl) ?hL5y ?hS5y ?ho5y ?he5y
    case hpre5y => simp only [tk, tz]; rfl
    case hF5y => simp only [fill, Kind.val, Act.put, sa, sz, ss]; rfl
    case hL5y => exact trivial
    case hS5y => exact fun w' hb => ⟨H5.out.1.below hb, LX.out.below (H5.out.2.trans (hb.mono H5.out.2.size))⟩
    case ho5y =>
      refine ak (fun _ => ⟨rfl, fun _ _ => rfl⟩) ?_
      refine ak (fun _ => ⟨rfl, fun _ _ => rfl⟩) ?_
      refine ak (fun _ => ⟨rfl, fun _ _ => rfl⟩) ?_
      refine ak (fun γ => ⟨rfl, fun w' _ => ex_ixP29 (j := k) E2.out rfl rfl rfl (by omega)⟩) ?_
      refine ak (fun γ => ⟨rfl, fun w' hX => ex_ldX (j := k) hX.2 E2.out (by omega) rfl rfl⟩) ?_
      refine ak (by refine fun γ => ⟨rfl, fun w' h => ?_⟩; clear h; go_simp) ?_
      refine ak (by refine fun γ => ⟨rfl, fun w' h => ?_⟩; clear h; go_simp; rw [IntKind.wrap_i64]; omega) ?_
      exact trivial
    intro γ w6 l hM hl
    have H6 := keepB H5 hM.below
    clear hM hl l H5 γ
    refine rest_at (l := [7]) rfl ?_
    refine rest_set (d := 7) rfl rfl rfl rfl ?_
    simp only [Act.put, sa, sz, ss]
    refine rest_nil (then_normal (wp_seq ?_))
    refine walk_seqB 2 [.quiet (.int .i64 (((sl8 X k) + ((X k).xs.length) : Nat) : Int)), .quiet (.bool true)] H6 ?ho6y ?he6y
    case ho6y => exact ak (fun _ => ⟨rfl, fun _ _ => rfl⟩) (ak (by refine fun γ => ⟨rfl, fun w' h => ?_⟩; clear h; go_simp <;> omega) trivial)
    intro _ w7 H7
    clear H6
    refine rest0 rfl (then_normal (wp_cond_true rfl (wp_seq ?_)))
    refine walk_seqB 1 [.quiet (.bool true)] H7 ?ho7y ?he7y
    case ho7y => exact ak (fun _ => ⟨rfl, fun _ _ => rfl⟩) trivial
    intro _ w8 H8
    clear H7
    refine rest0 rfl (then_normal (wp_ret ?_))
    repeat (first | refine then_ret ?_ | refine block_ret ?_)
    refine bodyPost_ret (v := .bool true) (by simp [results, Tryd.results4, go_sem, *]) rfl ?_
    exact ⟨rfl, H8.out.2⟩
  · have hrd : True := trivial
    clear hrd
    refine wp_seq (wp_seq ?_)
    refine walk_seqB 4 [.quiet (.int .i64 ((k : Nat) : Int)), .quiet (.slice pl m c2), .quiet (.int .i64 ((m : Nat) : Int)), .quiet (.bool true)] H4 ?ho8n ?he8n
    case ho8n => exact ak (fun _ => ⟨rfl, fun _ _ => rfl⟩) (ak (fun _ => ⟨rfl, fun _ _ => rfl⟩) (ak (by refine fun γ => ⟨rfl, fun w' h => ?_⟩; clear h; go_simp) (ak (by refine fun γ => ⟨rfl, fun w' h => ?_⟩; clear h; go_simp <;> omega) trivial)))
    intro _ w9 H9
    clear H4
    refine rest0 rfl (then_normal (wp_cond_true rfl ?_))
    refine wp_skip (then_normal ?_)
    refine wp_seq (wp_block (wp_seq ?_))
    refine (walk_seq) 7 [.quiet (.int .i64 ((sl8 X k : Nat) : Int)), .quiet (.slice pl m c2), .quiet (.int .i64 ((k : Nat) : Int)), .quiet (PT g2 (o2 + k)), .quiet (.slice (X k).p (X k).xs.length (X k).c), .quiet (.int .i64 (((X k).xs.length : Nat) : Int)), .quiet (.int .i64 (((sl8 X k) + ((X k).xs.length) : Nat) : Int))] (fun u' => Mm u' [(γ1_0, ints .u8 d 32), (0, ints .u32 fT 8), (1, ints .u32 kT 64)] ∧ (Lx pl X m u')) ?pre9n ?F9n ?hpre9n (fun γ => ?hF9n) (by kernel_rfl) ?hL9n ?hS9n ?ho9n ?he9n
    case hpre9n => simp only [tk, tz]; rfl
    case hF9n => simp only [fill, Kind.val, Act.put, sa, sz, ss]; rfl
    case hL9n => exact trivial
    case hS9n => exact fun w' hb => ⟨H9.out.1.below hb, LX.out.below (H9.out.2.trans (hb.mono H9.out.2.size))⟩
    case ho9n =>
      refine ak (fun _ => ⟨rfl, fun _ _ => rfl⟩) ?_
      refine ak (fun _ => ⟨rfl, fun _ _ => rfl⟩) ?_
      refine ak (fun _ => ⟨rfl, fun _ _ => rfl⟩) ?_
      refine ak (fun γ => ⟨rfl, fun w' _ => ex_ixP29 (j := k) E2.out rfl rfl rfl (by omega)⟩) ?_
      refine ak (fun γ => ⟨rfl, fun w' hX => ex_ldX (j := k) hX.2 E2.out (by omega) rfl rfl⟩) ?_
      refine ak (by refine fun γ => ⟨rfl, fun w' h => ?_⟩; clear h; go_simp) ?_
      refine ak (by refine fun γ => ⟨rfl, fun w' h => ?_⟩; clear h; go_simp; rw [IntKind.wrap_i64]; omega) ?_
      exact trivial
    intro γ w10 l hM hl
    have H10 := keepB H9 hM.below
    clear hM hl l H9 γ
    refine rest_at (l := [7]) rfl ?_
    refine rest_set (d := 7) rfl rfl rfl rfl ?_
    simp only [Act.put, sa, sz, ss]
    refine rest_nil (then_normal (wp_seq ?_))
    refine walk_seqB 2 [.quiet (.int .i64 (((sl8 X k) + ((X k).xs.length) : Nat) : Int)), .quiet (.bool false)] H10 ?ho10n ?he10n
    case ho10n => exact ak (fun _ => ⟨rfl, fun _ _ => rfl⟩) (ak (by refine fun γ => ⟨rfl, fun w' h => ?_⟩; clear h; go_simp <;> omega) trivial)
    intro _ w11 H11
    clear H10
    refine rest0 rfl (then_normal (wp_cond_false rfl ?_))
    refine wp_skip (block_normal (then_normal ?_))
    refine walk_seqB 2 [.quiet (.int .i64 ((k : Nat) : Int)), .quiet (.int .i64 ((k + 1 : Nat) : Int))] H11 ?ho11n ?he11n
    case ho11n => exact ak (fun _ => ⟨rfl, fun _ _ => rfl⟩) (ak (by refine fun γ => ⟨rfl, fun w' h => ?_⟩; clear h; go_simp; rw [IntKind.wrap_i64]; omega) trivial)
    intro _ w12 H12
    clear H11
    refine rest_at (l := [2]) rfl ?_
    refine rest_set (d := 8) rfl rfl rfl rfl ?_
    simp only [Act.put, sa, sz, ss]
    refine rest_nil (then_normal ?_)
    exact ⟨k + 1, ⟨(slotfn [undef, undef, undef, undef, undef, undef, s0 6, undef, undef, undef, undef, undef, undef, undef, undef, .int .i64 ((k : Nat) : Int), .slice pl m c2, .int .i64 ((m : Nat) : Int), .bool true, .int .i64 ((k : Nat) : Int), .int .i64 ((k + 1 : Nat) : Int), .int .i64 ((sl8 X k : Nat) : Int), .slice pl m c2, .int .i64 ((k : Nat) : Int), PT g2 (o2 + k), .slice (X k).p (X k).xs.length (X k).c, .int .i64 (((X k).xs.length : Nat) : Int), .int .i64 (((sl8 X k) + ((X k).xs.length) : Nat) : Int), .int .i64 (((sl8 X k) + ((X k).xs.length) : Nat) : Int), .bool false]), rfl, ⟨H12.out.1, H12.out.2⟩, ⟨by omega, by show sl8 X k + (X k).xs.length ≤ 20000; omega⟩⟩, by omega⟩
end Rg
end Go.Proofs.YtfboipfpnkngdaaDoor
end
section
namespace Go.Proofs.YtfboipfpnkngdaaDoor
open Go.RowKit
namespace Rg
theorem texts_any (pl : Option Addr) (X : Nat → Px) (m c2 : Nat) (d f : Nat → Nat) (n : Nat) (hp : 0 < m → ∃ g o, pl = some ⟨g, o, none⟩) (hml : m ≤ 4611686018427387904) (hb : ∀ i, i < m → (X i).xs.length ≤ 4611686018427387904) (hx : Ok8 X) (hc : ∀ i, i < m → (X i).xs.length ≤ (X i).c) (hN : ∀ i, i < m → (X i).p = none → (X i).c = 0) (hd : ∀ j, d j < 256) (hf : ∀ j, f j < 256) (w : World) (hm : Mm w [(0, ints .u32 fT 8), (1, ints .u32 kT 64)]) (hL : Lx pl X m w) :
    Calls Tryd.prog 4 #[.slice pl m c2, .agg (ints .u8 d 32).toArray, .string (st f n)] w fun e w' => e = .returned (.bool true) ∧ Below w.heap.size w w' := by
  by_cases hs : sl8 X m ≤ 20000
  · by_cases h1 : m ≤ 100
    · obtain ⟨q, pe, h15, h16⟩ := parse_both f n hf
      exact texts_main pl X m c2 d f n hp h1 hs hx hc hN hd q pe h15 h16 w hm hL
    · exact texts_many pl X m c2 d f n hp (by omega) hml hs w hm hL
  · exact texts_long pl X m c2 d f n hp hml (by omega) hb w hm hL
end Rg
end Go.Proofs.YtfboipfpnkngdaaDoor
end
section
namespace Go.Proofs.YtfboipfpnkngdaaDoor
open Go.ChangeShapes Go.WideShapes Go.ChangeAt Go.RowKit
theorem Tryd.own : ownKnob Tryd.prog.godebug = none := by kernel_rfl
theorem Tryd.laidOut : laidOutB Tryd.prog = true := by kernel_rfl
theorem Tryd.cells5 : Tryd.prog.cellsOf 5 = 1 := by kernel_rfl
namespace Rg
abbrev laidL : List (String × DataW Unit) := Rows.digestSumsRow.laid
abbrev laidN : List (String × DataW Unit) := Rows.digestNilRow.laid
abbrev nmA : String := match laidL with
  | (n, _) :: _ => n
  | [] => Tryd.f3.name
abbrev nmB : String := match laidN with
  | (n, _) :: _ => n
  | [] => Tryd.f3.name
theorem gA' : Tryd.prog.globalNamed nmA = some 0 := by kernel_rfl
theorem gB' : Tryd.prog.globalNamed nmB = some 1 := by kernel_rfl
theorem tA : (Tryd.prog.globals[0]?).map (·.type) = some 53 := by kernel_rfl
theorem tB : (Tryd.prog.globals[1]?).map (·.type) = some 66 := by kernel_rfl
theorem datA : (Rows.laid_reliquary_digest_first : DataW Unit) = Lib.tabData .u32 ((List.range 8).map fun j => (fT j : Int)) := by kernel_rfl
theorem datB : (Rows.laid_reliquary_digest_rounds : DataW Unit) = Lib.tabData .u32 ((List.range 64).map fun j => (kT j : Int)) := by kernel_rfl
theorem map_ints (f : Nat → Nat) (n : Nat) : (((List.range n).map fun j => (f j : Int)).map fun z => Value.int .u32 z) = ints .u32 f n := by
  unfold ints
  rw [List.map_map]
  rfl
theorem blk_of {W : World} {g n : Nat} {f : Nat → Nat} {nm : String} {cs : Array Value} (hg : Tryd.prog.globalNamed nm = some g) (hv : W.var? Tryd.prog nm = some cs) (hcs : cs.toList = ints .u32 f n) (hn : 0 < n) {ps : List MemPlace} (hpl : ∀ i, i < n → MemPlace.cell g i ∈ ps)
    (hc : ∀ b off, MemPlace.cell b off ∈ ps → (∃ c t, W.heap[b]? = some (.cells c t (0, 0))) ∧ ∀ u v, W.cell? ⟨b, off, Option.none⟩ = some (.iface u v) → Value.okWide Tryd.prog W .any 0 u v) : g < W.heap.size ∧ Blk W g (ints .u32 f n) := by
  obtain ⟨⟨c0, t0, hheap⟩, _⟩ := hc g 0 (hpl 0 hn)
  refine ⟨?_, fun j v hj => ⟨?_, ?_⟩⟩
  · rcases Nat.lt_or_ge g W.heap.size with h' | h'
    · exact h'
    · rw [Array.getElem?_eq_none (by omega)] at hheap; cases hheap
  · rw [World.var?_cell hg hv j]
    rw [← hcs] at hj
    simpa using hj
  · unfold World.frozen?
    rw [hheap]
    simp
set_option maxRecDepth 100000 in
theorem tabs_of_laid {W : World} (h : laidMetH Tryd.prog laidL W) : Mm W [(0, ints .u32 fT 8), (1, ints .u32 kT 64)] := by
  rw [MakeChecks.laidMetH_plain _ _ _ (by kernel_rfl)] at h
  obtain ⟨ps, ⟨g, t, cs, fuel, p, q, hg, ht, hv, hd, ⟨g2, t2, cs2, fuel2, p2, q2, hg2, ht2, hv2, hd2, hq2, hps2⟩, hps⟩, hnd, hc⟩ := h
  obtain rfl := Option.some.inj (gA'.symm.trans hg)
  obtain rfl := Option.some.inj (tA.symm.trans ht)
  obtain rfl := Option.some.inj (gB'.symm.trans hg2)
  obtain rfl := Option.some.inj (tB.symm.trans ht2)
  rw [datA] at hd
  rw [datB] at hd2
  have e1 := Lib.cells_of_tab (P := Tryd.prog) (t := 53) (e := 51) (n := 8) (k := .u32) (by kernel_rfl) (by kernel_rfl) (by kernel_rfl) (by kernel_rfl) hd
  have e2 := Lib.cells_of_tab (P := Tryd.prog) (t := 66) (e := 51) (n := 64) (k := .u32) (by kernel_rfl) (by kernel_rfl) (by kernel_rfl) (by kernel_rfl) hd2
  rw [map_ints] at e1 e2
  have s1 : cs.size = 8 := by rw [← Array.length_toList, e1, ints_len]
  have s2 : cs2.size = 64 := by rw [← Array.length_toList, e2, ints_len]
  have b1 := blk_of (f := fT) (n := 8) hg hv e1 (by decide) (ps := ps) (fun i hi => by
    rw [hps]
    refine List.mem_append_left _ (List.mem_append_left _ ?_)
    unfold MemPlace.row
    simp [s1]
    omega) hc
  have b2 := blk_of (f := kT) (n := 64) hg2 hv2 e2 (by decide) (ps := ps) (fun i hi => by
    rw [hps, hps2]
    refine List.mem_append_right _ (List.mem_append_left _ (List.mem_append_left _ ?_))
    unfold MemPlace.row
    simp [s2]
    omega) hc
  refine ⟨fun pq hpq => ?_, ?_⟩
  · rcases List.mem_cons.1 hpq with rfl | hpq
    · exact b1
    · rw [List.mem_singleton.1 hpq]; exact b2
  · simp
theorem door_met (os : Os) (args : Array Value) : laidMetH Tryd.prog laidL ((World.doorLaid Tryd.prog 400 os).forCall (fun _ _ => 0) ⟨#[], args, []⟩).memory :=
  laidMetH_of_parts3 (fuel := 8) (laidMet_of_run' 8 (by kernel_rfl) (by kernel_rfl)) (by kernel_rfl) (by kernel_rfl)
end Rg
end Go.Proofs.YtfboipfpnkngdaaDoor
end
section
namespace Go.Proofs.YtfboipfpnkngdaaDoor
open Go.ChangeMaps Go.ChangeShapes Go.WideShapes Go.ChangeAt Go.RowKit
theorem Tryd.bytes5 : Tryd.prog.bytesOf 5 = 1 := by kernel_rfl
theorem Tryd.bytes22 : Tryd.prog.bytesOf 22 = 24 := by kernel_rfl
theorem Tryd.cells22 : Tryd.prog.cellsOf 22 = 1 := by kernel_rfl
theorem open_part {H : Type} {enc : TypeId × Value → H} {w : World} {base : Nat} {sp : Nat → Bool} {held : Bool} {fuel : Nat} {cs : List Value} {y : DataW H × List MemPlace}
    (hf : DataW.trod enc Tryd.prog w base sp held fuel 22 cs = some y) :
    ∃ q : Rg.Px, cs = [.slice q.p q.xs.length q.c] ∧ BSl w q.xs q.c (.slice q.p q.xs.length q.c) ∧ (∀ x ∈ q.xs, 0 ≤ x ∧ x < 256) ∧ q.xs.length ≤ q.c ∧ (q.p = none → q.c = 0) ∧
      ((y.1.weights Tryd.prog 22).all (· ≤ reachBytes) = true → q.xs.length ≤ reachBytes) ∧ ∀ x ∈ y.2, x.block < w.heap.size := by
  rcases open_ints Tryd.underlying22 Tryd.underlying5 Tryd.cells5 hf with ⟨hcs, hx⟩ | ⟨a, len, cap, zs, hcs, _, hl, hm, hz, hx, hcell, hwz⟩
  · subst hcs hx
    exact ⟨⟨[], 0, none⟩, rfl, .void none rfl, by simp, Nat.le_refl _, fun _ => rfl, fun _ => Nat.zero_le _, by simp⟩
  · subst hcs hx
    have hlz : len ≤ zs.length := by rw [hz]; split <;> omega
    have hlen : (zs.take len).length = len := by simp; omega
    have hps : ∀ x ∈ MemPlace.row a zs.length, x.block < w.heap.size := fun x hx => by
      obtain ⟨i, hi, rfl⟩ := MemPlace.mem_row.1 hx
      have := World.block_lt_of_cell? w _ (hcell i hi)
      obtain ⟨b, off, rfl, _⟩ := ints_at hcell (by omega)
      exact World.block_lt_of_cell? w _ (hcell 0 (by omega))
    have hb : ∀ x ∈ zs, 0 ≤ x ∧ x < 256 := fun x hx => by
      have := bounds_u8 (hwz x hx)
      omega
    refine ⟨⟨zs.take len, cap, some a⟩, by rw [hlen], ?_, fun x hx => hb x (List.mem_of_mem_take hx), by rw [hlen]; exact hl, (fun e => by cases e), fun hw => ?_, hps⟩
    · by_cases h0 : len = 0
      · subst h0
        exact .void (some a) (by simp)
      · obtain ⟨b, off, rfl, hc⟩ := ints_at hcell (by omega)
        exact .full b off (World.block_lt_of_cell? w _ (hc 0 (by omega))) (by rw [hlen]; exact hl) (fun i hi => by
          rw [hlen] at hi
          rw [hc i (by omega)]
          simp [hi])
    · unfold DataW.weights at hw
      rw [Tryd.underlying22] at hw
      simp only [List.all_cons, Bool.and_eq_true, decide_eq_true_eq, Tryd.bytes5, Nat.mul_one] at hw
      have := hw.1
      simp only [lits, List.length_map] at this
      exact Nat.le_trans (Nat.le_add_right _ _) this
theorem weights_mem {H : Type} {e : TypeId} : ∀ {l : List (DataW H)} {d : DataW H}, d ∈ l → (DataW.weightsAll Tryd.prog e l).all (· ≤ reachBytes) = true → (d.weights Tryd.prog e).all (· ≤ reachBytes) = true
  | [], _, h, _ => by cases h
  | x :: r, d, h, ha => by
    unfold DataW.weightsAll at ha
    rw [List.all_append, Bool.and_eq_true] at ha
    rcases List.mem_cons.1 h with e | e
    · rw [e]
      exact ha.1
    · exact weights_mem e ha.2
theorem open_list {H : Type} {enc : TypeId × Value → H} {w : World} {base : Nat} {sp : Nat → Bool} {held : Bool} {r : Reach} {b0 : Nat} {v : Value} {d : DataW H} {ps : List MemPlace}
    (hval : Value.okWide Tryd.prog w r b0 29 v) (hd : DataW.Trod enc Tryd.prog w base sp held 29 v d ps) (hw : (d.weights Tryd.prog 29).all (· ≤ reachBytes) = true) :
    ∃ pl X m c, v = .slice pl m c ∧ (0 < m → ∃ g o, pl = some ⟨g, o, none⟩) ∧ m ≤ reachBytes ∧ (∀ i, i < m → (X i).xs.length ≤ reachBytes) ∧ Rg.Ok8 X ∧ (∀ i, i < m → (X i).xs.length ≤ (X i).c) ∧ (∀ i, i < m → (X i).p = none → (X i).c = 0) ∧ Rg.Lx pl X m w ∧ ∀ x ∈ ps, x.block < w.heap.size := by
  obtain ⟨a0, len0, cap0, rfl⟩ := okWide_slice Rg.under29 hval
  obtain ⟨fuel, hf⟩ := hd
  rcases DataW.trod_slice Rg.under29 hf with ⟨hcs, hx⟩ | ⟨a, len, cap, elems, rest, n, _, hcs, hx, hb, hl, hm, hlen, hel, hsp, hns⟩
  · simp [Value.cells] at hcs
    obtain ⟨rfl, rfl, rfl⟩ := hcs
    simp only [Prod.mk.injEq] at hx
    obtain ⟨_, rfl⟩ := hx
    exact ⟨none, fun _ => ⟨[], 0, none⟩, 0, 0, rfl, fun h => absurd h (by decide), Nat.zero_le _, fun i hi => absurd hi (by omega), fun i x hx => (by simp at hx), fun i hi => absurd hi (by omega), fun i hi => absurd hi (by omega), fun g o e => (by cases e), by simp⟩
  · simp [Value.cells] at hcs
    obtain ⟨rfl, rfl, rfl⟩ := hcs
    simp only [Prod.mk.injEq] at hx
    obtain ⟨rfl, rfl⟩ := hx
    rw [Tryd.cells22] at hel hsp
    simp only [Nat.mul_one] at hel hsp
    unfold DataW.weights at hw
    rw [Rg.under29] at hw
    simp only [List.all_cons, List.all_append, Bool.and_eq_true, decide_eq_true_eq, Tryd.bytes22, List.length_map] at hw
    have part : ∀ i, ∃ q : Rg.Px, (∀ x ∈ q.xs, 0 ≤ x ∧ x < 256) ∧ (i < len0 → w.cell? (a.add i) = some (.slice q.p q.xs.length q.c) ∧ BSl w q.xs q.c (.slice q.p q.xs.length q.c) ∧ q.xs.length ≤ q.c ∧ (q.p = none → q.c = 0) ∧ q.xs.length ≤ reachBytes) := fun i => by
      by_cases hi : i < len0
      · have h1 := hel i hi
        have hi2 : i < elems.length := by omega
        rw [List.getElem?_eq_getElem hi2, Option.bind_eq_some_iff] at h1
        obtain ⟨cs', hc', hy⟩ := h1
        obtain ⟨q, rfl, h2, h3, h4, h5, h6, _⟩ := open_part hy
        exact ⟨q, h3, fun _ => ⟨cell_of_cells?_one hc', h2, h4, h5, h6 (weights_mem (List.mem_map.2 ⟨_, List.getElem_mem hi2, rfl⟩) hw.2.1)⟩⟩
      · exact ⟨⟨[], 0, none⟩, by simp, fun h => absurd h hi⟩
    obtain ⟨X, hX⟩ := Classical.axiomOfChoice part
    have hall : ∀ i, i < elems.length + rest.length → ∃ c, w.cell? (a.add i) = some c := fun i hi => by
      by_cases h : i < len0
      · exact ⟨_, ((hX i).2 h).1⟩
      · cases hs : sp a.block with
        | false => rw [hns hs] at hi; simp at hi; omega
        | true =>
          obtain ⟨hrl, hr⟩ := hsp hs
          have h1 := hr (i - len0) (by omega)
          rw [List.getElem?_eq_getElem (by omega : i - len0 < rest.length), Option.bind_eq_some_iff, show len0 + (i - len0) = i by omega] at h1
          obtain ⟨cs', hc', hy⟩ := h1
          obtain ⟨q, rfl, _⟩ := open_part hy
          exact ⟨_, cell_of_cells?_one hc'⟩
    have hrest : ∀ y ∈ elems ++ rest, ∀ x ∈ y.2, x.block < w.heap.size := fun y hy => by
      rcases List.mem_append.1 hy with h | h
      · obtain ⟨i, hi, rfl⟩ := List.getElem_of_mem h
        have h1 := hel i (by omega)
        rw [List.getElem?_eq_getElem hi, Option.bind_eq_some_iff] at h1
        obtain ⟨cs', _, hy'⟩ := h1
        obtain ⟨q, _, _, _, _, _, _, h6⟩ := open_part hy'
        exact h6
      · cases hs : sp a.block with
        | false => rw [hns hs] at h; cases h
        | true =>
          obtain ⟨hrl, hr⟩ := hsp hs
          obtain ⟨i, hi, rfl⟩ := List.getElem_of_mem h
          have h1 := hr i (by omega)
          rw [List.getElem?_eq_getElem hi, Option.bind_eq_some_iff] at h1
          obtain ⟨cs', _, hy'⟩ := h1
          obtain ⟨q, _, _, _, _, _, _, h6⟩ := open_part hy'
          exact h6
    have hps : ∀ x ∈ MemPlace.row a ((elems.length + rest.length) * Tryd.prog.cellsOf 22) ++ (elems ++ rest).flatMap (·.2), x.block < w.heap.size := fun x hx => by
      rcases List.mem_append.1 hx with h | h
      · rw [Tryd.cells22, Nat.mul_one] at h
        obtain ⟨i, hi, rfl⟩ := MemPlace.mem_row.1 h
        obtain ⟨c, hc⟩ := hall i hi
        have := World.block_lt_of_cell? w _ hc
        rw [Rg.add_block] at this
        exact this
      · obtain ⟨y, hy, hxy⟩ := List.mem_flatMap.1 h
        exact hrest y hy x hxy
    by_cases h0 : len0 = 0
    · subst h0
      exact ⟨some a, X, 0, cap0, rfl, fun h => absurd h (by decide), Nat.zero_le _, fun i hi => absurd hi (by omega), fun i => (hX i).1, fun i hi => absurd hi (by omega), fun i hi => absurd hi (by omega), fun g o _ i hi => absurd hi (by omega), hps⟩
    · obtain ⟨b, off, spot⟩ := a
      have hspot : spot = none := by simpa [Addr.add] using World.cell?_spot ((hX 0).2 (by omega)).1
      subst hspot
      refine ⟨some ⟨b, off, none⟩, X, len0, cap0, rfl, fun _ => ⟨b, off, rfl⟩, by omega, fun i hi => ((hX i).2 hi).2.2.2.2, fun i => (hX i).1, fun i hi => ((hX i).2 hi).2.2.1, fun i hi => ((hX i).2 hi).2.2.2.1, fun g o e i hi => ?_, hps⟩
      injection e with e
      injection e with e1 e2
      subst e1 e2
      have h1 := ((hX i).2 hi).1
      rw [Go.WideShapes.add_plain] at h1
      exact ⟨World.block_lt_of_cell? w _ h1, h1, ((hX i).2 hi).2.1⟩
end Go.Proofs.YtfboipfpnkngdaaDoor
end
section
namespace Go.Proofs.YtfboipfpnkngdaaDoor
open Go.ChangeMaps Go.ChangeShapes Go.WideShapes Go.ChangeAt Go.RowKit
theorem Tryd.cells25 : Tryd.prog.cellsOf 25 = 32 := by kernel_rfl
theorem open_digest {H : Type} {enc : TypeId × Value → H} {w : World} {base : Nat} {sp : Nat → Bool} {held : Bool} {r : Reach} {b0 : Nat} {v : Value} {d : DataW H} {ps : List MemPlace}
    (hval : Value.okWide Tryd.prog w r b0 25 v) (hd : DataW.Trod enc Tryd.prog w base sp held 25 v d ps) :
    ∃ f : Nat → Nat, v = .agg (Rg.ints .u8 f 32).toArray ∧ (∀ j, f j < 256) ∧ ps = [] := by
  obtain ⟨cs, rfl, hsz⟩ : ∃ cs, v = .agg cs ∧ cs.size = Tryd.prog.cellsOf 25 := by
    simp only [Value.okWide, Tryd.underlying25] at hval
    obtain ⟨cs, h1, h2, _⟩ := hval
    exact ⟨cs, h1, h2⟩
  rw [Tryd.cells25] at hsz
  obtain ⟨fuel, hf⟩ := hd
  obtain ⟨xs, m, _, hx, _, hl, hel⟩ := DataW.trod_array Tryd.underlying25 hf
  rw [Tryd.cells5] at hel
  have part : ∀ i, ∃ z : Nat, z < 256 ∧ (i < 32 → cs[i]? = some (.int .u8 (z : Int)) ∧ ∀ y, xs[i]? = some y → y.2 = []) := fun i => by
    by_cases hi : i < 32
    · have h1 := hel i hi
      have hi2 : i < xs.length := by omega
      rw [List.getElem?_eq_getElem hi2] at h1
      obtain ⟨z, hz, hy, hwf⟩ := DataW.trod_int Tryd.underlying5 h1
      have hb := bounds_u8 hwf
      refine ⟨z.toNat, by omega, fun _ => ⟨?_, fun y e => ?_⟩⟩
      · have hz' : (cs.toList.drop i).take 1 = [.int .u8 z] := by simpa [Value.cells] using hz
        have hg : ((cs.toList.drop i).take 1)[0]? = some (.int .u8 z) := by rw [hz']; rfl
        rw [List.getElem?_take, if_pos (by decide), List.getElem?_drop, Nat.add_zero] at hg
        rw [← Array.getElem?_toList, hg, Int.toNat_of_nonneg hb.1]
      · rw [List.getElem?_eq_getElem hi2] at e
        injection e with e
        rw [← e, hy]
    · exact ⟨0, by decide, fun h => absurd h hi⟩
  obtain ⟨f, hF⟩ := Classical.axiomOfChoice part
  refine ⟨f, ?_, fun j => (hF j).1, ?_⟩
  · congr 1
    apply Array.ext_getElem?
    intro i
    by_cases hi : i < 32
    · rw [((hF i).2 hi).1, List.getElem?_toArray, Rg.ints_get .u8 f hi]
    · rw [Array.getElem?_eq_none (by omega), List.getElem?_toArray, Rg.ints_none .u8 f (by omega)]
  · simp only [Prod.mk.injEq] at hx
    rw [hx.2, List.flatMap_eq_nil_iff]
    intro y hy
    obtain ⟨i, hi, rfl⟩ := List.getElem_of_mem hy
    exact ((hF i).2 (by omega)).2 _ (List.getElem?_eq_getElem hi)
theorem text_st (s : ByteArray) : ∃ f n, s = Rg.st f n ∧ ∀ j, f j < 256 := by
  obtain ⟨⟨l⟩⟩ := s
  refine ⟨fun j => (l.getD j 0).toNat, l.length, ?_, fun j => UInt8.toNat_lt _⟩
  have h : (((List.range l.length).map fun j => (((l.getD j 0).toNat : Nat) : Int)).map fun n => UInt8.ofNat n.toNat) = l := by
    apply List.ext_getElem?
    intro i
    rw [List.getElem?_map, List.getElem?_map]
    by_cases hi : i < l.length
    · rw [List.getElem?_range hi, List.getElem?_eq_getElem hi]
      simp [List.getD, hi]
    · rw [List.getElem?_eq_none (l := l) (by omega), List.getElem?_eq_none (by rw [List.length_range]; omega)]
      rfl
  show (⟨⟨l⟩⟩ : ByteArray) = ⟨(((List.range l.length).map fun j => (((l.getD j 0).toNat : Nat) : Int)).map fun n => UInt8.ofNat n.toNat).toArray⟩
  rw [h]
end Go.Proofs.YtfboipfpnkngdaaDoor
end
