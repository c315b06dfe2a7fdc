/- Texts of the proof, joined. -/
import Derived.Test.YtjmbgchoioepjaaP7
import Derived.Laws.BytesArg
section
namespace Go.Proofs.Ytjmbgchoioepjaa
open Go.RowKit
namespace Rg
/-- Bytes that can be read: n of them, from o on, in block g. -/
structure Rd (g o n : Nat) (f : Nat → Nat) (w : World) : Prop where
  lt : g < w.heap.size
  at_ : ∀ i, i < n → w.cell? ⟨g, o + i, none⟩ = some (.int .u8 ((f i : Nat) : Int))
theorem Rd.below {g o n : Nat} {f : Nat → Nat} {w w' : World} (h : Rd g o n f w) (hb : Below w.heap.size w w') : Rd g o n f w' :=
  ⟨Nat.lt_of_lt_of_le h.lt hb.size, fun i hi => by rw [hb.cell (p := ⟨g, o + i, none⟩) h.lt]; exact h.at_ i hi⟩
theorem Rd.sub {g o n : Nat} {f : Nat → Nat} {w : World} (h : Rd g o n f w) (a m : Nat) (hm : a + m ≤ n) : Rd g (o + a) m (fun i => f (a + i)) w :=
  ⟨h.lt, fun i hi => by rw [Nat.add_assoc]; exact h.at_ (a + i) (by omega)⟩
section
variable {ρ : Operand → Value} {o : Oper} {x y : Operand} {g off n c k a b : Nat} {f : Nat → Nat} {w : World}
theorem ex_ld8 (h : Rd g off n f w) (hk : k < n) (ho : o.op = .load 5 x) (hx : ρ x = PT g (off + k)) : (execOp ρ o).run Try.prog w = .ok (.value (.int .u8 ((f k : Nat) : Int))) w := by
  have c0 := h.at_ k hk
  have ha : ∀ w, (isAgg 5).run Try.prog w = .ok false w := Try.isAgg5
  clear h
  simp only [execOp, ho, hx]
  go_simp
theorem ex_slH {m h : Nat} (ho : o.op = .slice 59 x none (some y) none) (hx : ρ x = .slice (some ⟨g, off, none⟩) m c) (hy : ρ y = .int .i64 (h : Int)) (hh : h ≤ c) : (execOp ρ o).run Try.prog w = .ok (.value (.slice (some ⟨g, off, none⟩) h c)) w := by
  simp only [execOp, ho, hx, hy, Option.map_some, Option.map_none]
  clear ho hx hy
  go_simp
theorem ex_slL {m l : Nat} (ho : o.op = .slice 59 x (some y) none none) (hx : ρ x = .slice (some ⟨g, off, none⟩) m c) (hy : ρ y = .int .i64 (l : Int)) (hh : l < m) (hc : m ≤ c) : (execOp ρ o).run Try.prog w = .ok (.value (.slice (some ⟨g, off + l, none⟩) (m - l) (c - l))) w := by
  simp only [execOp, ho, hx, hy, Option.map_some, Option.map_none]
  clear ho hx hy
  go_simp
  rw [if_pos (by omega), if_neg (by omega)]
theorem ex_cv64 (h : a < 256) (ho : o.op = .convert 5 23 x) (hx : ρ x = .int .u8 (a : Int)) : (execOp ρ o).run Try.prog w = .ok (.value (U a)) w := by
  simp only [execOp, ho, hx]
  clear ho hx
  go_simp
  first | (rw [IntKind.wrap_u64]; omega) | omega
theorem ex_shl8 (h : a * 256 < 18446744073709551616) (ho : o.op = .binOp .shl 23 x y 91) (hx : ρ x = U a) (hy : ρ y = U 8) : (execOp ρ o).run Try.prog w = .ok (.value (U (a * 256))) w := by
  simp only [execOp, ho, hx, hy]
  clear ho hx hy
  go_simp
  rw [IntKind.wrap_u64]
  omega
theorem ex_or8 (h : a * 256 < 18446744073709551616) (hb : b < 256) (ho : o.op = .binOp .or 23 x y 23) (hx : ρ x = U (a * 256)) (hy : ρ y = U b) : (execOp ρ o).run Try.prog w = .ok (.value (U (a * 256 + b))) w := by
  simp only [execOp, ho, hx, hy]
  clear ho hx hy
  have e := bits_or_u64_nat (a * 256) b h (by omega)
  have e2 : a * 256 ||| b = a * 256 + b := by
    have := Nat.two_pow_add_eq_or_of_lt (i := 8) (b := b) (by omega) a
    rw [Nat.mul_comm a 256]
    exact this.symm
  rw [e2] at e
  go_simp
  exact e
end
/-- A number of bytes. -/
def tkn (f : Nat → Nat) : Nat → Nat
  | 0 => 0
  | k + 1 => tkn f k * 256 + f k
theorem tkn_lt {f : Nat → Nat} (hf : ∀ i, f i < 256) : ∀ k, tkn f k < 2 ^ (8 * k)
  | 0 => Nat.zero_lt_one
  | k + 1 => by
    have h1 := tkn_lt hf k
    have h2 := hf k
    rw [tkn, show 8 * (k + 1) = 8 * k + 8 by omega, Nat.pow_add]
    generalize 2 ^ (8 * k) = q at *
    omega
theorem tkn_small {f : Nat → Nat} (hf : ∀ i, f i < 256) {k : Nat} (hk : k < 8) : tkn f k * 256 < 18446744073709551616 := by
  have h1 := tkn_lt hf k
  have h2 : 2 ^ (8 * k) ≤ 2 ^ 56 := Nat.pow_le_pow_right (by decide) (by omega)
  have h3 : (2 : Nat) ^ 56 = 72057594037927936 := by decide
  omega
set_option maxHeartbeats 1000000 in
set_option maxRecDepth 100000 in
theorem take_any (g off m cp : Nat) (f : Nat → Nat) (hf : ∀ i, f i < 256) (hm : 8 ≤ cp) (w : World) (hr : Rd g off 8 f w) :
    Calls Try.prog 68 #[.slice (some ⟨g, off, none⟩) m cp] w fun e w' => e = .returned (U (tkn f 8)) ∧ Below w.heap.size w w' := by
  have H0 : Hid (_ ∧ _) := ⟨Mm.nil w, Below.refl w.heap.size w⟩
  go_enter Try.func68, Try.ntmps68
  refine wp_seq ?_
  refine walk_seqB 1 [.quiet (U 0)] H0 ?ho1 ?he1
  case ho1 => exact ak (fun _ => ⟨rfl, fun _ _ => rfl⟩) trivial
  intro _ w1 H1
  refine rest0 rfl (then_normal (wp_seq ?_))
  refine walk_seqB 1 [.quiet (U 0)] H1 ?ho2 ?he2
  case ho2 => exact ak (fun _ => ⟨rfl, fun _ _ => rfl⟩) trivial
  intro _ w2 H2
  clear H1
  refine rest0 rfl (then_normal (wp_seq (wp_seq ?_)))
  refine walk_seqB 4 [.quiet (.slice (some ⟨g, off, none⟩) m cp), .quiet (.slice (some ⟨g, off, none⟩) 8 cp), .quiet (.int .i64 8), .quiet (.int .i64 0)] H2 ?ho3 ?he3
  case ho3 => exact ak (fun _ => ⟨rfl, fun _ _ => rfl⟩) (ak (fun γ => ⟨rfl, fun w' _ => ex_slH rfl rfl rfl (by omega)⟩) (ak (by refine fun γ => ⟨rfl, fun w' h => ?_⟩; clear h; go_simp) (ak (fun _ => ⟨rfl, fun _ _ => rfl⟩) trivial)))
  intro _ w3 H3
  clear H2
  refine rest0 rfl (then_normal (wp_block ?_))
  refine loop_ghost (α := Nat) (fun k a' w' => ∃ s0 : Nat → Value, a' = ⟨#[.slice (some ⟨g, off, none⟩) m cp, undef, U 0, U (tkn f k), undef, s0 5, .slice (some ⟨g, off, none⟩) m cp, .slice (some ⟨g, off, none⟩) 8 cp, .int .i64 8, .int .i64 ((k : Nat) : Int), s0 10, s0 11, s0 12, s0 13, s0 14, s0 15, s0 16, s0 17, s0 18, undef], []⟩ ∧ (Mm w' [] ∧ Below w.heap.size w w') ∧ k ≤ 8) (fun k => 8 - k) 0 ?st0 ?rd0
  case st0 => exact ⟨(slotfn [undef, undef, undef, undef, undef, undef, undef, undef, undef, undef, undef, undef, undef, undef, undef, undef, undef, undef, undef]), rfl, ⟨H3.out.1, H3.out.2⟩, by omega⟩
  intro k a' w4 hI
  obtain ⟨s0, rfl, hMB, hk0⟩ := hI
  have H4 : Hid (_ ∧ _) := hMB
  clear hMB H3
  by_cases hlt : k < 8
  · have hrd : True := trivial
    clear hrd
    refine wp_seq ?_
    refine walk_seqB 1 [.quiet (.bool true)] H4 ?ho4 ?he4
    case ho4 => exact ak (by refine fun γ => ⟨rfl, fun w' h => ?_⟩; clear h; go_simp <;> omega) trivial
    intro _ w5 H5
    clear H4
    refine rest0 rfl (then_normal (wp_seq ?_))
    refine wp_cond_true rfl (wp_skip ?_)
    refine then_normal (wp_seq ?_)
    refine wp_block (wp_seq ?_)
    refine (walk_seq) 3 [.quiet (PT g (off + k)), .quiet (.int .u8 ((f k : Nat) : Int)), .quiet (.int .u8 ((f k : Nat) : Int))] (fun u' => Mm u' [] ∧ Rd g off 8 f u') ?pre5 ?F5 ?hpre5 (fun γ => ?hF5) (by kernel_rfl) ?hL5 ?hS5 ?ho5 ?he5
    case hpre5 => simp only [tk, tz]; rfl
    case hF5 => simp only [fill, Kind.val, Act.put, sa, sz, ss]; rfl
    case hL5 => exact trivial
    case hS5 => exact fun w' hb => ⟨H5.out.1.below hb, hr.below (H5.out.2.trans (hb.mono H5.out.2.size))⟩
    case ho5 =>
      refine ak (fun γ => ⟨rfl, fun w' _ => ex_idxS rfl rfl rfl (by omega)⟩) ?_
      refine ak (fun γ => ⟨rfl, fun w' hX => ex_ld8 (k := k) hX.2 (by omega) rfl rfl⟩) ?_
      refine ak (fun _ => ⟨rfl, fun _ _ => rfl⟩) ?_
      exact trivial
    intro γ w6 l hM hl
    have H6 := keepB H5 hM.below
    clear hM hl l H5 γ
    refine rest0 rfl (then_normal ?_)
    refine walk_seqB 5 [.quiet (U (tkn f k)), .quiet (U (tkn f k * 256)), .quiet (.int .u8 ((f k : Nat) : Int)), .quiet (U (f k)), .quiet (U (tkn f (k + 1)))] H6 ?ho6 ?he6
    case ho6 => exact ak (fun _ => ⟨rfl, fun _ _ => rfl⟩) (ak (fun γ => ⟨rfl, fun w' _ => ex_shl8 (tkn_small hf hlt) rfl rfl rfl⟩) (ak (fun _ => ⟨rfl, fun _ _ => rfl⟩) (ak (fun γ => ⟨rfl, fun w' _ => ex_cv64 (hf _) rfl rfl⟩) (ak (fun γ => ⟨rfl, fun w' _ => ex_or8 (tkn_small hf hlt) (hf k) rfl rfl rfl⟩) trivial))))
    intro _ w7 H7
    clear H6
    refine rest_at (l := [5]) rfl ?_
    refine rest_set (d := 3) rfl rfl rfl rfl ?_
    simp only [Act.put, sa, sz, ss]
    refine rest_nil (block_normal (then_normal ?_))
    refine walk_seqB 1 [.quiet (.int .i64 ((k + 1 : Nat) : Int))] H7 ?ho7 ?he7
    case ho7 => exact ak (by refine fun γ => ⟨rfl, fun w' h => ?_⟩; clear h; go_simp; rw [IntKind.wrap_i64]; omega) trivial
    intro _ w8 H8
    clear H7
    refine rest_at (l := [1]) rfl ?_
    refine rest_set (d := 9) rfl rfl rfl rfl ?_
    simp only [Act.put, sa, sz, ss]
    refine rest_nil (then_normal ?_)
    exact ⟨k + 1, ⟨(slotfn [undef, undef, undef, undef, undef, .int .u8 ((f k : Nat) : Int), undef, undef, undef, undef, .bool true, PT g (off + k), .int .u8 ((f k : Nat) : Int), U (tkn f k), U (tkn f k * 256), .int .u8 ((f k : Nat) : Int), U (f k), U (tkn f (k + 1)), .int .i64 ((k + 1 : Nat) : Int)]), rfl, ⟨H8.out.1, H8.out.2⟩, by omega⟩, by omega⟩
  have hk8 : k = 8 := by omega
  subst hk8
  refine wp_seq ?_
  refine walk_seqB 1 [.quiet (.bool false)] H4 ?ho8 ?he8
  case ho8 => exact ak (by refine fun γ => ⟨rfl, fun w' h => ?_⟩; clear h; go_simp <;> omega) trivial
  intro _ w9 H9
  clear H4
  refine rest0 rfl (then_normal (wp_seq (wp_cond_false rfl ?_)))
  refine wp_exit ?_
  repeat refine then_exit ?_
  refine block_exit ?_
  refine then_normal (wp_seq ?_)
  refine walk_seqB 2 [.quiet (U (tkn f 8)), .quiet (U (tkn f 8))] H9 ?ho9 ?he9
  case ho9 => exact ak (fun _ => ⟨rfl, fun _ _ => rfl⟩) (ak (fun _ => ⟨rfl, fun _ _ => rfl⟩) trivial)
  intro _ w10 H10
  clear H9
  refine rest0 rfl (then_normal (wp_ret ?_))
  repeat (first | refine then_ret ?_ | refine block_ret ?_)
  refine bodyPost_ret (v := U (tkn f 8)) (by simp [results, Try.results68, go_sem, *]) rfl ?_
  exact ⟨rfl, H10.out.2⟩
theorem call68 : ∀ args w, (callFunc 68 args).run Try.prog w = .ok (.enter 68 args) w := by intro args w; go_simp
theorem ex_gt8 {ρ : Operand → Value} {o : Oper} {x y : Operand} {a : Nat} {w : World} {t : Bool} (ho : o.op = .binOp .gtr 5 x y 5) (hx : ρ x = .int .u8 (a : Int)) (hy : ρ y = .int .u8 1) (h : decide (1 < a) = t) : (execOp ρ o).run Try.prog w = .ok (.value (.bool t)) w := by
  subst h
  simp only [execOp, ho, hx, hy]
  clear ho hx hy
  go_simp
  by_cases h : 1 < a <;> simp [h] <;> omega
theorem ex_e8 {ρ : Operand → Value} {o : Oper} {x y : Operand} {a : Nat} {w : World} (ho : o.op = .binOp .eql 5 x y 5) (hx : ρ x = .int .u8 (a : Int)) (hy : ρ y = .int .u8 1) : (execOp ρ o).run Try.prog w = .ok (.value (.bool (decide (a = 1)))) w := by
  simp only [execOp, ho, hx, hy]
  clear ho hx hy
  go_simp
  by_cases h : a = 1 <;> simp [h] <;> omega
section
variable {s : Int} {p r c gx gy : Nat}
set_option maxHeartbeats 1000000 in
set_option maxRecDepth 100000 in
theorem read_hi (k : Kd s p r c gx gy) (g o cp : Nat) (f : Nat → Nat) (_hf : ∀ i, f i < 256) (_hc : 17 ≤ cp) (h0 : 1 < f 0) (w : World) (hr : Rd g o 17 f w) :
    Calls Try.prog 36 #[.int .i64 s, .slice (some ⟨g, o, none⟩) 17 cp] w fun e w' => e = .returned (.tuple #[V (pt 0 0 false), .int .i64 4]) ∧ Below w.heap.size w w' := by
  have H0 : Hid (_ ∧ _) := ⟨Mm.nil w, Below.refl w.heap.size w⟩
  go_enter Try.func36, Try.ntmps36
  refine wp_seq ?_
  refine walk_seqA 2 [.made (pt 0 0 false) 25, .quiet (.int .i64 0)] (sB H0) ?ho1 ?he1
  case ho1 => exact ak (fun γ => ⟨rfl, fun w' => ex_made25 rfl⟩) (ak (fun _ => ⟨rfl, fun _ _ => rfl⟩) trivial)
  intro γ w1 l hM hl
  have H1 : Hid (Mm w1 [(γ 0, pt 0 0 false)] ∧ _) := growB H0 hM (Nat.le_refl _) hl [0] rfl (by decide)
  have o1_0 := ownB H0 hM (Nat.le_refl _) hl (i := 0) rfl
  clear hM hl l
  generalize γ 0 = γ1_0 at H1 o1_0 ⊢
  clear γ
  refine rest0 rfl (then_normal (wp_seq ?_))
  refine walk_seqA 8 [.quiet (.int .i64 s), .call (.tuple #[.agg (kd p r c gx gy).toArray, .int .i64 0]), .quiet (.tuple #[.agg (kd p r c gx gy).toArray, .int .i64 0]), .quiet (.agg (kd p r c gx gy).toArray), .quiet (.int .i64 0), .made (kd 0 0 0 0 0) 72, .laid 5 (kd 0 0 0 0 0) (kd p r c gx gy), .quiet (.int .i64 0)] (sB H1) ?ho2 ?he2 (hL := ?hL2)
  case hL2 => exact ⟨⟨_, rfl⟩, trivial⟩
  case ho2 => exact ak (fun _ => ⟨rfl, fun _ _ => rfl⟩) (ak (fun γ => ⟨rfl, fun w' h => ⟨42, #[.int .i64 s], exec_call rfl call42 rfl (mpn rfl), k.kind w'⟩⟩) (ak (fun _ => ⟨rfl, fun _ _ => rfl⟩) (ak (by refine fun γ => ⟨rfl, fun w' h => ?_⟩; clear h; go_simp) (ak (by refine fun γ => ⟨rfl, fun w' h => ?_⟩; clear h; go_simp) (ak (fun γ => ⟨rfl, fun w' => ex_made72 rfl⟩) (ak (fun γ => ⟨rfl, rfl, rfl, fun w' h => ex_laidT h rfl rfl Try.sizeOf72 rfl rfl rfl⟩) (ak (fun _ => ⟨rfl, fun _ _ => rfl⟩) trivial)))))))
  intro γ w2 l hM hl
  have H2 : Hid (Mm w2 [(γ 5, kd p r c gx gy), (γ1_0, pt 0 0 false)] ∧ _) := growB H1 hM (Nat.le_refl _) hl [5] rfl (by decide)
  have o2_5 := ownB H1 hM (Nat.le_refl _) hl (i := 5) rfl
  clear hM hl l H1
  generalize γ 5 = γ2_5 at H2 o2_5 ⊢
  clear γ
  refine rest0 rfl (then_normal (wp_seq (wp_seq ?_)))
  refine walk_seqB 2 [.quiet (.int .i64 0), .quiet (.bool false)] H2 ?ho3 ?he3
  case ho3 => exact ak (fun _ => ⟨rfl, fun _ _ => rfl⟩) (ak (by refine fun γ => ⟨rfl, fun w' h => ?_⟩; clear h; go_simp) trivial)
  intro _ w3 H3
  clear H2
  refine rest0 rfl (then_normal (wp_cond_false rfl ?_))
  refine wp_skip (then_normal ?_)
  refine wp_seq (wp_seq ?_)
  refine (walk_seq) 9 [.quiet (.slice (some ⟨g, o, none⟩) 17 cp), .quiet (.int .i64 17), .quiet (.bool false), .quiet (.bool false), .quiet (.slice (some ⟨g, o, none⟩) 17 cp), .quiet (PT g (o + 0)), .quiet (.int .u8 ((f 0 : Nat) : Int)), .quiet (.bool true), .quiet (.bool true)] (fun u' => Mm u' [(γ2_5, kd p r c gx gy), (γ1_0, pt 0 0 false)] ∧ Rd g o 17 f u') ?pre4 ?F4 ?hpre4 (fun γ => ?hF4) (by kernel_rfl) ?hL4 ?hS4 ?ho4 ?he4
  case hpre4 => simp only [tk, tz]; rfl
  case hF4 => simp only [fill, Kind.val, Act.put, sa, sz, ss]; rfl
  case hL4 => exact trivial
  case hS4 => exact fun w' hb => ⟨H3.out.1.below hb, hr.below (H3.out.2.trans (hb.mono H3.out.2.size))⟩
  case ho4 =>
    refine ak (fun _ => ⟨rfl, fun _ _ => rfl⟩) ?_
    refine ak (by refine fun γ => ⟨rfl, fun w' h => ?_⟩; clear h; go_simp) ?_
    refine ak (by refine fun γ => ⟨rfl, fun w' h => ?_⟩; clear h; go_simp) ?_
    refine ak (fun _ => ⟨rfl, fun _ _ => rfl⟩) ?_
    refine ak (fun _ => ⟨rfl, fun _ _ => rfl⟩) ?_
    refine ak (fun γ => ⟨rfl, fun w' _ => ex_idxS rfl rfl rfl (by omega)⟩) ?_
    refine ak (fun γ => ⟨rfl, fun w' hX => ex_ld8 (k := 0) hX.2 (by omega) rfl rfl⟩) ?_
    refine ak (fun γ => ⟨rfl, fun w' _ => ex_gt8 rfl rfl rfl (decide_eq_true h0)⟩) ?_
    refine ak (by refine fun γ => ⟨rfl, fun w' h => ?_⟩; clear h; go_simp) ?_
    exact trivial
  intro γ w4 l hM hl
  have H4 := keepB H3 hM.below
  clear hM hl l H3 γ
  refine rest0 rfl (then_normal (wp_cond_true rfl (wp_seq ?_)))
  refine walk_seqB 1 [.quiet (.agg (pt 0 0 false).toArray)] H4 ?ho5 ?he5
  case ho5 => exact ak (fun γ => ⟨rfl, fun w' _ => ex_build25_ rfl⟩) trivial
  intro _ w5 H5
  clear H4
  refine rest_at (l := [1, 2]) rfl ?_
  refine rest_store rfl rfl rfl (ex_storeT (vs := pt 0 0 false) H5.out.1 1 rfl rfl rfl rfl Try.sizeOf25 rfl (Nat.le_of_ble_eq_true rfl)) ?_
  have H6 : Hid (Mm (w5.setCells γ1_0 0 (pt 0 0 false)) [(γ2_5, kd p r c gx gy), (γ1_0, pt 0 0 false)] ∧ Below w.heap.size w (w5.setCells γ1_0 0 (pt 0 0 false))) := ⟨H5.out.1.put 1 (off := 0) (vs := pt 0 0 false) rfl (Nat.le_of_ble_eq_true rfl), below_setCells _ o1_0.out _ _ _ H5.out.2⟩
  clear H5
  generalize hgw : World.setCells _ _ _ _ = w6 at H6 ⊢
  clear hgw
  refine rest_set (d := 5) rfl rfl rfl rfl ?_
  simp only [Act.put, sa, sz, ss]
  refine rest_nil (then_normal (wp_ret ?_))
  repeat (first | refine then_ret ?_ | refine block_ret ?_)
  have hf0 := var_T H6.out.1 1 rfl Try.isAgg25 Try.sizeOf25 rfl
  refine bodyPost_ret (v := .tuple #[.agg (pt 0 0 false).toArray, .int .i64 4]) (by simp [results, Try.results36, asAddr, Act.eval, hf0]) rfl ?_
  exact ⟨rfl, H6.out.2⟩
set_option maxHeartbeats 1000000 in
set_option maxRecDepth 100000 in
theorem read_oc (k : Kd s p r c gx gy) (g o cp : Nat) (f : Nat → Nat) (hf : ∀ i, f i < 256) (hc : 17 ≤ cp) (h0 : ¬ 1 < f 0) (h1 : oc p (tkn (fun i => f (1 + i)) 8) (tkn (fun i => f (9 + i)) 8) (decide (f 0 = 1)) = false) (w : World) (hr : Rd g o 17 f w) :
    Calls Try.prog 36 #[.int .i64 s, .slice (some ⟨g, o, none⟩) 17 cp] w fun e w' => e = .returned (.tuple #[V (pt 0 0 false), .int .i64 4]) ∧ Below w.heap.size w w' := by
  have H0 : Hid (_ ∧ _) := ⟨Mm.nil w, Below.refl w.heap.size w⟩
  go_enter Try.func36, Try.ntmps36
  refine wp_seq ?_
  refine walk_seqA 2 [.made (pt 0 0 false) 25, .quiet (.int .i64 0)] (sB H0) ?ho1 ?he1
  case ho1 => exact ak (fun γ => ⟨rfl, fun w' => ex_made25 rfl⟩) (ak (fun _ => ⟨rfl, fun _ _ => rfl⟩) trivial)
  intro γ w1 l hM hl
  have H1 : Hid (Mm w1 [(γ 0, pt 0 0 false)] ∧ _) := growB H0 hM (Nat.le_refl _) hl [0] rfl (by decide)
  have o1_0 := ownB H0 hM (Nat.le_refl _) hl (i := 0) rfl
  clear hM hl l
  generalize γ 0 = γ1_0 at H1 o1_0 ⊢
  clear γ
  refine rest0 rfl (then_normal (wp_seq ?_))
  refine walk_seqA 8 [.quiet (.int .i64 s), .call (.tuple #[.agg (kd p r c gx gy).toArray, .int .i64 0]), .quiet (.tuple #[.agg (kd p r c gx gy).toArray, .int .i64 0]), .quiet (.agg (kd p r c gx gy).toArray), .quiet (.int .i64 0), .made (kd 0 0 0 0 0) 72, .laid 5 (kd 0 0 0 0 0) (kd p r c gx gy), .quiet (.int .i64 0)] (sB H1) ?ho2 ?he2 (hL := ?hL2)
  case hL2 => exact ⟨⟨_, rfl⟩, trivial⟩
  case ho2 => exact ak (fun _ => ⟨rfl, fun _ _ => rfl⟩) (ak (fun γ => ⟨rfl, fun w' h => ⟨42, #[.int .i64 s], exec_call rfl call42 rfl (mpn rfl), k.kind w'⟩⟩) (ak (fun _ => ⟨rfl, fun _ _ => rfl⟩) (ak (by refine fun γ => ⟨rfl, fun w' h => ?_⟩; clear h; go_simp) (ak (by refine fun γ => ⟨rfl, fun w' h => ?_⟩; clear h; go_simp) (ak (fun γ => ⟨rfl, fun w' => ex_made72 rfl⟩) (ak (fun γ => ⟨rfl, rfl, rfl, fun w' h => ex_laidT h rfl rfl Try.sizeOf72 rfl rfl rfl⟩) (ak (fun _ => ⟨rfl, fun _ _ => rfl⟩) trivial)))))))
  intro γ w2 l hM hl
  have H2 : Hid (Mm w2 [(γ 5, kd p r c gx gy), (γ1_0, pt 0 0 false)] ∧ _) := growB H1 hM (Nat.le_refl _) hl [5] rfl (by decide)
  have o2_5 := ownB H1 hM (Nat.le_refl _) hl (i := 5) rfl
  clear hM hl l H1
  generalize γ 5 = γ2_5 at H2 o2_5 ⊢
  clear γ
  refine rest0 rfl (then_normal (wp_seq (wp_seq ?_)))
  refine walk_seqB 2 [.quiet (.int .i64 0), .quiet (.bool false)] H2 ?ho3 ?he3
  case ho3 => exact ak (fun _ => ⟨rfl, fun _ _ => rfl⟩) (ak (by refine fun γ => ⟨rfl, fun w' h => ?_⟩; clear h; go_simp) trivial)
  intro _ w3 H3
  clear H2
  refine rest0 rfl (then_normal (wp_cond_false rfl ?_))
  refine wp_skip (then_normal ?_)
  refine wp_seq (wp_seq ?_)
  refine (walk_seq) 9 [.quiet (.slice (some ⟨g, o, none⟩) 17 cp), .quiet (.int .i64 17), .quiet (.bool false), .quiet (.bool false), .quiet (.slice (some ⟨g, o, none⟩) 17 cp), .quiet (PT g (o + 0)), .quiet (.int .u8 ((f 0 : Nat) : Int)), .quiet (.bool false), .quiet (.bool false)] (fun u' => Mm u' [(γ2_5, kd p r c gx gy), (γ1_0, pt 0 0 false)] ∧ Rd g o 17 f u') ?pre4 ?F4 ?hpre4 (fun γ => ?hF4) (by kernel_rfl) ?hL4 ?hS4 ?ho4 ?he4
  case hpre4 => simp only [tk, tz]; rfl
  case hF4 => simp only [fill, Kind.val, Act.put, sa, sz, ss]; rfl
  case hL4 => exact trivial
  case hS4 => exact fun w' hb => ⟨H3.out.1.below hb, hr.below (H3.out.2.trans (hb.mono H3.out.2.size))⟩
  case ho4 =>
    refine ak (fun _ => ⟨rfl, fun _ _ => rfl⟩) ?_
    refine ak (by refine fun γ => ⟨rfl, fun w' h => ?_⟩; clear h; go_simp) ?_
    refine ak (by refine fun γ => ⟨rfl, fun w' h => ?_⟩; clear h; go_simp) ?_
    refine ak (fun _ => ⟨rfl, fun _ _ => rfl⟩) ?_
    refine ak (fun _ => ⟨rfl, fun _ _ => rfl⟩) ?_
    refine ak (fun γ => ⟨rfl, fun w' _ => ex_idxS rfl rfl rfl (by omega)⟩) ?_
    refine ak (fun γ => ⟨rfl, fun w' hX => ex_ld8 (k := 0) hX.2 (by omega) rfl rfl⟩) ?_
    refine ak (fun γ => ⟨rfl, fun w' _ => ex_gt8 rfl rfl rfl (decide_eq_false h0)⟩) ?_
    refine ak (by refine fun γ => ⟨rfl, fun w' h => ?_⟩; clear h; go_simp) ?_
    exact trivial
  intro γ w4 l hM hl
  have H4 := keepB H3 hM.below
  clear hM hl l H3 γ
  refine rest0 rfl (then_normal (wp_cond_false rfl ?_))
  refine wp_skip (then_normal (wp_seq ?_))
  refine (walk_any) (by kernel_rfl) 13 [.quiet (.slice (some ⟨g, o, none⟩) 17 cp), .quiet (.slice (some ⟨g, (o + 1), none⟩) 16 (cp - 1)), .call (U (tkn (fun i => f (1 + i)) 8)), .quiet (.slice (some ⟨g, o, none⟩) 17 cp), .quiet (.slice (some ⟨g, (o + 9), none⟩) 8 (cp - 9)), .call (U (tkn (fun i => f (9 + i)) 8)), .quiet (.slice (some ⟨g, o, none⟩) 17 cp), .quiet (PT g (o + 0)), .quiet (.int .u8 ((f 0 : Nat) : Int)), .quiet (.bool (decide (f 0 = 1))), .quiet (.agg (pt (tkn (fun i => f (1 + i)) 8) (tkn (fun i => f (9 + i)) 8) (decide (f 0 = 1))).toArray), .made (pt 0 0 false) 25, .laid 11 (pt 0 0 false) (pt (tkn (fun i => f (1 + i)) 8) (tkn (fun i => f (9 + i)) 8) (decide (f 0 = 1)))] (fun u' => Mm u' [(γ2_5, kd p r c gx gy), (γ1_0, pt 0 0 false)] ∧ Rd g o 17 f u') ?pre5 ?F5 ?hpre5 (fun γ => ?hF5) (by kernel_rfl) ?hL5 ?hS5 ?ho5 ?he5
  case hpre5 => simp only [tk, tz]; rfl
  case hF5 => simp only [fill, Kind.val, Act.put, sa, sz, ss]; rfl
  case hL5 => exact ⟨⟨_, rfl⟩, trivial⟩
  case hS5 => exact fun w' hb => ⟨H4.out.1.below hb, hr.below (H4.out.2.trans (hb.mono H4.out.2.size))⟩
  case ho5 =>
    refine ak (fun _ => ⟨rfl, fun _ _ => rfl⟩) ?_
    refine ak (fun γ => ⟨rfl, fun w' _ => ex_slL (m := 17) (l := 1) rfl rfl rfl (by omega) (by omega)⟩) ?_
    refine ak (fun γ => ⟨rfl, fun w' hX => ⟨68, #[.slice (some ⟨g, (o + 1), none⟩) 16 (cp - 1)], exec_call rfl call68 rfl (mpn rfl), take_any g (o + 1) 16 ((cp - 1)) (fun i => f (1 + i)) (fun i => hf _) (by omega) w' (hX.2.sub 1 8 (by decide))⟩⟩) ?_
    refine ak (fun _ => ⟨rfl, fun _ _ => rfl⟩) ?_
    refine ak (fun γ => ⟨rfl, fun w' _ => ex_slL (m := 17) (l := 9) rfl rfl rfl (by omega) (by omega)⟩) ?_
    refine ak (fun γ => ⟨rfl, fun w' hX => ⟨68, #[.slice (some ⟨g, (o + 9), none⟩) 8 (cp - 9)], exec_call rfl call68 rfl (mpn rfl), take_any g (o + 9) 8 ((cp - 9)) (fun i => f (9 + i)) (fun i => hf _) (by omega) w' (hX.2.sub 9 8 (by decide))⟩⟩) ?_
    refine ak (fun _ => ⟨rfl, fun _ _ => rfl⟩) ?_
    refine ak (fun γ => ⟨rfl, fun w' _ => ex_idxS rfl rfl rfl (by omega)⟩) ?_
    refine ak (fun γ => ⟨rfl, fun w' hX => ex_ld8 (k := 0) hX.2 (by omega) rfl rfl⟩) ?_
    refine ak (fun γ => ⟨rfl, fun w' _ => ex_e8 rfl rfl rfl⟩) ?_
    refine ak (fun γ => ⟨rfl, fun w' _ => ex_build25_012 rfl rfl rfl rfl⟩) ?_
    refine ak (fun γ => ⟨rfl, fun w' => ex_made25 rfl⟩) ?_
    refine ak (fun γ => ⟨rfl, rfl, rfl, fun w' h => ex_laidT h rfl rfl Try.sizeOf25 rfl rfl rfl⟩) ?_
    exact trivial
  intro γ w5 l hM hl
  have H5 : Hid (Mm w5 [(γ 11, pt (tkn (fun i => f (1 + i)) 8) (tkn (fun i => f (9 + i)) 8) (decide (f 0 = 1))), (γ2_5, kd p r c gx gy), (γ1_0, pt 0 0 false)] ∧ _) := growB H4 hM (Nat.le_refl _) hl [11] rfl (by decide)
  have o5_11 := ownB H4 hM (Nat.le_refl _) hl (i := 11) rfl
  clear hM hl l H4
  generalize γ 11 = γ5_11 at H5 o5_11 ⊢
  clear γ
  refine rest0 rfl (then_normal (wp_seq (wp_seq ?_)))
  refine walk_seqB 4 [.quiet (.agg (kd p r c gx gy).toArray), .quiet (.agg (pt (tkn (fun i => f (1 + i)) 8) (tkn (fun i => f (9 + i)) 8) (decide (f 0 = 1))).toArray), .call (.bool false), .quiet (.bool true)] H5 ?ho6 ?he6
  case ho6 => exact ak (fun γ => ⟨rfl, fun w' h => ex_loadT h 1 rfl rfl rfl Try.isAgg72 Try.sizeOf72 rfl rfl⟩) (ak (fun γ => ⟨rfl, fun w' h => ex_loadT h 0 rfl rfl rfl Try.isAgg25 Try.sizeOf25 rfl rfl⟩) (ak (fun γ => ⟨rfl, fun w' h => ⟨50, #[.agg (kd p r c gx gy).toArray, .agg (pt (tkn (fun i => f (1 + i)) 8) (tkn (fun i => f (9 + i)) 8) (decide (f 0 = 1))).toArray], exec_call rfl call50 rfl (mpn rfl), on_is k.pr _ _ _ _ h1 w'⟩⟩) (ak (by refine fun γ => ⟨rfl, fun w' h => ?_⟩; clear h; go_simp) trivial)))
  intro _ w6 H6
  clear H5
  refine rest0 rfl (then_normal (wp_cond_true rfl (wp_seq ?_)))
  refine walk_seqB 1 [.quiet (.agg (pt 0 0 false).toArray)] H6 ?ho7 ?he7
  case ho7 => exact ak (fun γ => ⟨rfl, fun w' _ => ex_build25_ rfl⟩) trivial
  intro _ w7 H7
  clear H6
  refine rest_at (l := [1, 2]) rfl ?_
  refine rest_store rfl rfl rfl (ex_storeT (vs := pt 0 0 false) H7.out.1 2 rfl rfl rfl rfl Try.sizeOf25 rfl (Nat.le_of_ble_eq_true rfl)) ?_
  have H8 : Hid (Mm (w7.setCells γ1_0 0 (pt 0 0 false)) [(γ5_11, pt (tkn (fun i => f (1 + i)) 8) (tkn (fun i => f (9 + i)) 8) (decide (f 0 = 1))), (γ2_5, kd p r c gx gy), (γ1_0, pt 0 0 false)] ∧ Below w.heap.size w (w7.setCells γ1_0 0 (pt 0 0 false))) := ⟨H7.out.1.put 2 (off := 0) (vs := pt 0 0 false) rfl (Nat.le_of_ble_eq_true rfl), below_setCells _ o1_0.out _ _ _ H7.out.2⟩
  clear H7
  generalize hgw : World.setCells _ _ _ _ = w8 at H8 ⊢
  clear hgw
  refine rest_set (d := 5) rfl rfl rfl rfl ?_
  simp only [Act.put, sa, sz, ss]
  refine rest_nil (then_normal (wp_ret ?_))
  repeat (first | refine then_ret ?_ | refine block_ret ?_)
  have hf0 := var_T H8.out.1 2 rfl Try.isAgg25 Try.sizeOf25 rfl
  refine bodyPost_ret (v := .tuple #[.agg (pt 0 0 false).toArray, .int .i64 4]) (by simp [results, Try.results36, asAddr, Act.eval, hf0]) rfl ?_
  exact ⟨rfl, H8.out.2⟩
set_option maxHeartbeats 1000000 in
set_option maxRecDepth 100000 in
theorem read_ig (k : Kd s p r c gx gy) (g o cp : Nat) (f : Nat → Nat) (hf : ∀ i, f i < 256) (hc : 17 ≤ cp) (h0 : ¬ 1 < f 0) (h1 : oc p (tkn (fun i => f (1 + i)) 8) (tkn (fun i => f (9 + i)) 8) (decide (f 0 = 1)) = true) (h2 : ig p r (tkn (fun i => f (1 + i)) 8) (tkn (fun i => f (9 + i)) 8) (decide (f 0 = 1)) = false) (w : World) (hr : Rd g o 17 f w) :
    Calls Try.prog 36 #[.int .i64 s, .slice (some ⟨g, o, none⟩) 17 cp] w fun e w' => e = .returned (.tuple #[V (pt 0 0 false), .int .i64 5]) ∧ Below w.heap.size w w' := by
  have H0 : Hid (_ ∧ _) := ⟨Mm.nil w, Below.refl w.heap.size w⟩
  go_enter Try.func36, Try.ntmps36
  refine wp_seq ?_
  refine walk_seqA 2 [.made (pt 0 0 false) 25, .quiet (.int .i64 0)] (sB H0) ?ho1 ?he1
  case ho1 => exact ak (fun γ => ⟨rfl, fun w' => ex_made25 rfl⟩) (ak (fun _ => ⟨rfl, fun _ _ => rfl⟩) trivial)
  intro γ w1 l hM hl
  have H1 : Hid (Mm w1 [(γ 0, pt 0 0 false)] ∧ _) := growB H0 hM (Nat.le_refl _) hl [0] rfl (by decide)
  have o1_0 := ownB H0 hM (Nat.le_refl _) hl (i := 0) rfl
  clear hM hl l
  generalize γ 0 = γ1_0 at H1 o1_0 ⊢
  clear γ
  refine rest0 rfl (then_normal (wp_seq ?_))
  refine walk_seqA 8 [.quiet (.int .i64 s), .call (.tuple #[.agg (kd p r c gx gy).toArray, .int .i64 0]), .quiet (.tuple #[.agg (kd p r c gx gy).toArray, .int .i64 0]), .quiet (.agg (kd p r c gx gy).toArray), .quiet (.int .i64 0), .made (kd 0 0 0 0 0) 72, .laid 5 (kd 0 0 0 0 0) (kd p r c gx gy), .quiet (.int .i64 0)] (sB H1) ?ho2 ?he2 (hL := ?hL2)
  case hL2 => exact ⟨⟨_, rfl⟩, trivial⟩
  case ho2 => exact ak (fun _ => ⟨rfl, fun _ _ => rfl⟩) (ak (fun γ => ⟨rfl, fun w' h => ⟨42, #[.int .i64 s], exec_call rfl call42 rfl (mpn rfl), k.kind w'⟩⟩) (ak (fun _ => ⟨rfl, fun _ _ => rfl⟩) (ak (by refine fun γ => ⟨rfl, fun w' h => ?_⟩; clear h; go_simp) (ak (by refine fun γ => ⟨rfl, fun w' h => ?_⟩; clear h; go_simp) (ak (fun γ => ⟨rfl, fun w' => ex_made72 rfl⟩) (ak (fun γ => ⟨rfl, rfl, rfl, fun w' h => ex_laidT h rfl rfl Try.sizeOf72 rfl rfl rfl⟩) (ak (fun _ => ⟨rfl, fun _ _ => rfl⟩) trivial)))))))
  intro γ w2 l hM hl
  have H2 : Hid (Mm w2 [(γ 5, kd p r c gx gy), (γ1_0, pt 0 0 false)] ∧ _) := growB H1 hM (Nat.le_refl _) hl [5] rfl (by decide)
  have o2_5 := ownB H1 hM (Nat.le_refl _) hl (i := 5) rfl
  clear hM hl l H1
  generalize γ 5 = γ2_5 at H2 o2_5 ⊢
  clear γ
  refine rest0 rfl (then_normal (wp_seq (wp_seq ?_)))
  refine walk_seqB 2 [.quiet (.int .i64 0), .quiet (.bool false)] H2 ?ho3 ?he3
  case ho3 => exact ak (fun _ => ⟨rfl, fun _ _ => rfl⟩) (ak (by refine fun γ => ⟨rfl, fun w' h => ?_⟩; clear h; go_simp) trivial)
  intro _ w3 H3
  clear H2
  refine rest0 rfl (then_normal (wp_cond_false rfl ?_))
  refine wp_skip (then_normal ?_)
  refine wp_seq (wp_seq ?_)
  refine (walk_seq) 9 [.quiet (.slice (some ⟨g, o, none⟩) 17 cp), .quiet (.int .i64 17), .quiet (.bool false), .quiet (.bool false), .quiet (.slice (some ⟨g, o, none⟩) 17 cp), .quiet (PT g (o + 0)), .quiet (.int .u8 ((f 0 : Nat) : Int)), .quiet (.bool false), .quiet (.bool false)] (fun u' => Mm u' [(γ2_5, kd p r c gx gy), (γ1_0, pt 0 0 false)] ∧ Rd g o 17 f u') ?pre4 ?F4 ?hpre4 (fun γ => ?hF4) (by kernel_rfl) ?hL4 ?hS4 ?ho4 ?he4
  case hpre4 => simp only [tk, tz]; rfl
  case hF4 => simp only [fill, Kind.val, Act.put, sa, sz, ss]; rfl
  case hL4 => exact trivial
  case hS4 => exact fun w' hb => ⟨H3.out.1.below hb, hr.below (H3.out.2.trans (hb.mono H3.out.2.size))⟩
  case ho4 =>
    refine ak (fun _ => ⟨rfl, fun _ _ => rfl⟩) ?_
    refine ak (by refine fun γ => ⟨rfl, fun w' h => ?_⟩; clear h; go_simp) ?_
    refine ak (by refine fun γ => ⟨rfl, fun w' h => ?_⟩; clear h; go_simp) ?_
    refine ak (fun _ => ⟨rfl, fun _ _ => rfl⟩) ?_
    refine ak (fun _ => ⟨rfl, fun _ _ => rfl⟩) ?_
    refine ak (fun γ => ⟨rfl, fun w' _ => ex_idxS rfl rfl rfl (by omega)⟩) ?_
    refine ak (fun γ => ⟨rfl, fun w' hX => ex_ld8 (k := 0) hX.2 (by omega) rfl rfl⟩) ?_
    refine ak (fun γ => ⟨rfl, fun w' _ => ex_gt8 rfl rfl rfl (decide_eq_false h0)⟩) ?_
    refine ak (by refine fun γ => ⟨rfl, fun w' h => ?_⟩; clear h; go_simp) ?_
    exact trivial
  intro γ w4 l hM hl
  have H4 := keepB H3 hM.below
  clear hM hl l H3 γ
  refine rest0 rfl (then_normal (wp_cond_false rfl ?_))
  refine wp_skip (then_normal (wp_seq ?_))
  refine (walk_any) (by kernel_rfl) 13 [.quiet (.slice (some ⟨g, o, none⟩) 17 cp), .quiet (.slice (some ⟨g, (o + 1), none⟩) 16 (cp - 1)), .call (U (tkn (fun i => f (1 + i)) 8)), .quiet (.slice (some ⟨g, o, none⟩) 17 cp), .quiet (.slice (some ⟨g, (o + 9), none⟩) 8 (cp - 9)), .call (U (tkn (fun i => f (9 + i)) 8)), .quiet (.slice (some ⟨g, o, none⟩) 17 cp), .quiet (PT g (o + 0)), .quiet (.int .u8 ((f 0 : Nat) : Int)), .quiet (.bool (decide (f 0 = 1))), .quiet (.agg (pt (tkn (fun i => f (1 + i)) 8) (tkn (fun i => f (9 + i)) 8) (decide (f 0 = 1))).toArray), .made (pt 0 0 false) 25, .laid 11 (pt 0 0 false) (pt (tkn (fun i => f (1 + i)) 8) (tkn (fun i => f (9 + i)) 8) (decide (f 0 = 1)))] (fun u' => Mm u' [(γ2_5, kd p r c gx gy), (γ1_0, pt 0 0 false)] ∧ Rd g o 17 f u') ?pre5 ?F5 ?hpre5 (fun γ => ?hF5) (by kernel_rfl) ?hL5 ?hS5 ?ho5 ?he5
  case hpre5 => simp only [tk, tz]; rfl
  case hF5 => simp only [fill, Kind.val, Act.put, sa, sz, ss]; rfl
  case hL5 => exact ⟨⟨_, rfl⟩, trivial⟩
  case hS5 => exact fun w' hb => ⟨H4.out.1.below hb, hr.below (H4.out.2.trans (hb.mono H4.out.2.size))⟩
  case ho5 =>
    refine ak (fun _ => ⟨rfl, fun _ _ => rfl⟩) ?_
    refine ak (fun γ => ⟨rfl, fun w' _ => ex_slL (m := 17) (l := 1) rfl rfl rfl (by omega) (by omega)⟩) ?_
    refine ak (fun γ => ⟨rfl, fun w' hX => ⟨68, #[.slice (some ⟨g, (o + 1), none⟩) 16 (cp - 1)], exec_call rfl call68 rfl (mpn rfl), take_any g (o + 1) 16 ((cp - 1)) (fun i => f (1 + i)) (fun i => hf _) (by omega) w' (hX.2.sub 1 8 (by decide))⟩⟩) ?_
    refine ak (fun _ => ⟨rfl, fun _ _ => rfl⟩) ?_
    refine ak (fun γ => ⟨rfl, fun w' _ => ex_slL (m := 17) (l := 9) rfl rfl rfl (by omega) (by omega)⟩) ?_
    refine ak (fun γ => ⟨rfl, fun w' hX => ⟨68, #[.slice (some ⟨g, (o + 9), none⟩) 8 (cp - 9)], exec_call rfl call68 rfl (mpn rfl), take_any g (o + 9) 8 ((cp - 9)) (fun i => f (9 + i)) (fun i => hf _) (by omega) w' (hX.2.sub 9 8 (by decide))⟩⟩) ?_
    refine ak (fun _ => ⟨rfl, fun _ _ => rfl⟩) ?_
    refine ak (fun γ => ⟨rfl, fun w' _ => ex_idxS rfl rfl rfl (by omega)⟩) ?_
    refine ak (fun γ => ⟨rfl, fun w' hX => ex_ld8 (k := 0) hX.2 (by omega) rfl rfl⟩) ?_
    refine ak (fun γ => ⟨rfl, fun w' _ => ex_e8 rfl rfl rfl⟩) ?_
    refine ak (fun γ => ⟨rfl, fun w' _ => ex_build25_012 rfl rfl rfl rfl⟩) ?_
    refine ak (fun γ => ⟨rfl, fun w' => ex_made25 rfl⟩) ?_
    refine ak (fun γ => ⟨rfl, rfl, rfl, fun w' h => ex_laidT h rfl rfl Try.sizeOf25 rfl rfl rfl⟩) ?_
    exact trivial
  intro γ w5 l hM hl
  have H5 : Hid (Mm w5 [(γ 11, pt (tkn (fun i => f (1 + i)) 8) (tkn (fun i => f (9 + i)) 8) (decide (f 0 = 1))), (γ2_5, kd p r c gx gy), (γ1_0, pt 0 0 false)] ∧ _) := growB H4 hM (Nat.le_refl _) hl [11] rfl (by decide)
  have o5_11 := ownB H4 hM (Nat.le_refl _) hl (i := 11) rfl
  clear hM hl l H4
  generalize γ 11 = γ5_11 at H5 o5_11 ⊢
  clear γ
  refine rest0 rfl (then_normal (wp_seq (wp_seq ?_)))
  refine walk_seqB 4 [.quiet (.agg (kd p r c gx gy).toArray), .quiet (.agg (pt (tkn (fun i => f (1 + i)) 8) (tkn (fun i => f (9 + i)) 8) (decide (f 0 = 1))).toArray), .call (.bool true), .quiet (.bool false)] H5 ?ho6 ?he6
  case ho6 => exact ak (fun γ => ⟨rfl, fun w' h => ex_loadT h 1 rfl rfl rfl Try.isAgg72 Try.sizeOf72 rfl rfl⟩) (ak (fun γ => ⟨rfl, fun w' h => ex_loadT h 0 rfl rfl rfl Try.isAgg25 Try.sizeOf25 rfl rfl⟩) (ak (fun γ => ⟨rfl, fun w' h => ⟨50, #[.agg (kd p r c gx gy).toArray, .agg (pt (tkn (fun i => f (1 + i)) 8) (tkn (fun i => f (9 + i)) 8) (decide (f 0 = 1))).toArray], exec_call rfl call50 rfl (mpn rfl), on_is k.pr _ _ _ _ h1 w'⟩⟩) (ak (by refine fun γ => ⟨rfl, fun w' h => ?_⟩; clear h; go_simp) trivial)))
  intro _ w6 H6
  clear H5
  refine rest0 rfl (then_normal (wp_cond_false rfl ?_))
  refine wp_skip (then_normal ?_)
  refine wp_seq (wp_seq ?_)
  refine walk_seqB 4 [.quiet (.agg (kd p r c gx gy).toArray), .quiet (.agg (pt (tkn (fun i => f (1 + i)) 8) (tkn (fun i => f (9 + i)) 8) (decide (f 0 = 1))).toArray), .call (.bool false), .quiet (.bool true)] H6 ?ho7 ?he7
  case ho7 => exact ak (fun γ => ⟨rfl, fun w' h => ex_loadT h 1 rfl rfl rfl Try.isAgg72 Try.sizeOf72 rfl rfl⟩) (ak (fun γ => ⟨rfl, fun w' h => ex_loadT h 0 rfl rfl rfl Try.isAgg25 Try.sizeOf25 rfl rfl⟩) (ak (fun γ => ⟨rfl, fun w' h => ⟨51, #[.agg (kd p r c gx gy).toArray, .agg (pt (tkn (fun i => f (1 + i)) 8) (tkn (fun i => f (9 + i)) 8) (decide (f 0 = 1))).toArray], exec_call rfl call51 rfl (mpn rfl), ig_in k.pr k.rb _ _ _ _ h2 w'⟩⟩) (ak (by refine fun γ => ⟨rfl, fun w' h => ?_⟩; clear h; go_simp) trivial)))
  intro _ w7 H7
  clear H6
  refine rest0 rfl (then_normal (wp_cond_true rfl (wp_seq ?_)))
  refine walk_seqB 1 [.quiet (.agg (pt 0 0 false).toArray)] H7 ?ho8 ?he8
  case ho8 => exact ak (fun γ => ⟨rfl, fun w' _ => ex_build25_ rfl⟩) trivial
  intro _ w8 H8
  clear H7
  refine rest_at (l := [1, 2]) rfl ?_
  refine rest_store rfl rfl rfl (ex_storeT (vs := pt 0 0 false) H8.out.1 2 rfl rfl rfl rfl Try.sizeOf25 rfl (Nat.le_of_ble_eq_true rfl)) ?_
  have H9 : Hid (Mm (w8.setCells γ1_0 0 (pt 0 0 false)) [(γ5_11, pt (tkn (fun i => f (1 + i)) 8) (tkn (fun i => f (9 + i)) 8) (decide (f 0 = 1))), (γ2_5, kd p r c gx gy), (γ1_0, pt 0 0 false)] ∧ Below w.heap.size w (w8.setCells γ1_0 0 (pt 0 0 false))) := ⟨H8.out.1.put 2 (off := 0) (vs := pt 0 0 false) rfl (Nat.le_of_ble_eq_true rfl), below_setCells _ o1_0.out _ _ _ H8.out.2⟩
  clear H8
  generalize hgw : World.setCells _ _ _ _ = w9 at H9 ⊢
  clear hgw
  refine rest_set (d := 5) rfl rfl rfl rfl ?_
  simp only [Act.put, sa, sz, ss]
  refine rest_nil (then_normal (wp_ret ?_))
  repeat (first | refine then_ret ?_ | refine block_ret ?_)
  have hf0 := var_T H9.out.1 2 rfl Try.isAgg25 Try.sizeOf25 rfl
  refine bodyPost_ret (v := .tuple #[.agg (pt 0 0 false).toArray, .int .i64 5]) (by simp [results, Try.results36, asAddr, Act.eval, hf0]) rfl ?_
  exact ⟨rfl, H9.out.2⟩
set_option maxHeartbeats 1000000 in
set_option maxRecDepth 100000 in
theorem read_ok (k : Kd s p r c gx gy) (g o cp : Nat) (f : Nat → Nat) (hf : ∀ i, f i < 256) (hc : 17 ≤ cp) (h0 : ¬ 1 < f 0) (h1 : oc p (tkn (fun i => f (1 + i)) 8) (tkn (fun i => f (9 + i)) 8) (decide (f 0 = 1)) = true) (h2 : ig p r (tkn (fun i => f (1 + i)) 8) (tkn (fun i => f (9 + i)) 8) (decide (f 0 = 1)) = true) (w : World) (hr : Rd g o 17 f w) :
    Calls Try.prog 36 #[.int .i64 s, .slice (some ⟨g, o, none⟩) 17 cp] w fun e w' => e = .returned (.tuple #[V (pt (tkn (fun i => f (1 + i)) 8) (tkn (fun i => f (9 + i)) 8) (decide (f 0 = 1))), .int .i64 0]) ∧ Below w.heap.size w w' := by
  have H0 : Hid (_ ∧ _) := ⟨Mm.nil w, Below.refl w.heap.size w⟩
  go_enter Try.func36, Try.ntmps36
  refine wp_seq ?_
  refine walk_seqA 2 [.made (pt 0 0 false) 25, .quiet (.int .i64 0)] (sB H0) ?ho1 ?he1
  case ho1 => exact ak (fun γ => ⟨rfl, fun w' => ex_made25 rfl⟩) (ak (fun _ => ⟨rfl, fun _ _ => rfl⟩) trivial)
  intro γ w1 l hM hl
  have H1 : Hid (Mm w1 [(γ 0, pt 0 0 false)] ∧ _) := growB H0 hM (Nat.le_refl _) hl [0] rfl (by decide)
  have o1_0 := ownB H0 hM (Nat.le_refl _) hl (i := 0) rfl
  clear hM hl l
  generalize γ 0 = γ1_0 at H1 o1_0 ⊢
  clear γ
  refine rest0 rfl (then_normal (wp_seq ?_))
  refine walk_seqA 8 [.quiet (.int .i64 s), .call (.tuple #[.agg (kd p r c gx gy).toArray, .int .i64 0]), .quiet (.tuple #[.agg (kd p r c gx gy).toArray, .int .i64 0]), .quiet (.agg (kd p r c gx gy).toArray), .quiet (.int .i64 0), .made (kd 0 0 0 0 0) 72, .laid 5 (kd 0 0 0 0 0) (kd p r c gx gy), .quiet (.int .i64 0)] (sB H1) ?ho2 ?he2 (hL := ?hL2)
  case hL2 => exact ⟨⟨_, rfl⟩, trivial⟩
  case ho2 => exact ak (fun _ => ⟨rfl, fun _ _ => rfl⟩) (ak (fun γ => ⟨rfl, fun w' h => ⟨42, #[.int .i64 s], exec_call rfl call42 rfl (mpn rfl), k.kind w'⟩⟩) (ak (fun _ => ⟨rfl, fun _ _ => rfl⟩) (ak (by refine fun γ => ⟨rfl, fun w' h => ?_⟩; clear h; go_simp) (ak (by refine fun γ => ⟨rfl, fun w' h => ?_⟩; clear h; go_simp) (ak (fun γ => ⟨rfl, fun w' => ex_made72 rfl⟩) (ak (fun γ => ⟨rfl, rfl, rfl, fun w' h => ex_laidT h rfl rfl Try.sizeOf72 rfl rfl rfl⟩) (ak (fun _ => ⟨rfl, fun _ _ => rfl⟩) trivial)))))))
  intro γ w2 l hM hl
  have H2 : Hid (Mm w2 [(γ 5, kd p r c gx gy), (γ1_0, pt 0 0 false)] ∧ _) := growB H1 hM (Nat.le_refl _) hl [5] rfl (by decide)
  have o2_5 := ownB H1 hM (Nat.le_refl _) hl (i := 5) rfl
  clear hM hl l H1
  generalize γ 5 = γ2_5 at H2 o2_5 ⊢
  clear γ
  refine rest0 rfl (then_normal (wp_seq (wp_seq ?_)))
  refine walk_seqB 2 [.quiet (.int .i64 0), .quiet (.bool false)] H2 ?ho3 ?he3
  case ho3 => exact ak (fun _ => ⟨rfl, fun _ _ => rfl⟩) (ak (by refine fun γ => ⟨rfl, fun w' h => ?_⟩; clear h; go_simp) trivial)
  intro _ w3 H3
  clear H2
  refine rest0 rfl (then_normal (wp_cond_false rfl ?_))
  refine wp_skip (then_normal ?_)
  refine wp_seq (wp_seq ?_)
  refine (walk_seq) 9 [.quiet (.slice (some ⟨g, o, none⟩) 17 cp), .quiet (.int .i64 17), .quiet (.bool false), .quiet (.bool false), .quiet (.slice (some ⟨g, o, none⟩) 17 cp), .quiet (PT g (o + 0)), .quiet (.int .u8 ((f 0 : Nat) : Int)), .quiet (.bool false), .quiet (.bool false)] (fun u' => Mm u' [(γ2_5, kd p r c gx gy), (γ1_0, pt 0 0 false)] ∧ Rd g o 17 f u') ?pre4 ?F4 ?hpre4 (fun γ => ?hF4) (by kernel_rfl) ?hL4 ?hS4 ?ho4 ?he4
  case hpre4 => simp only [tk, tz]; rfl
  case hF4 => simp only [fill, Kind.val, Act.put, sa, sz, ss]; rfl
  case hL4 => exact trivial
  case hS4 => exact fun w' hb => ⟨H3.out.1.below hb, hr.below (H3.out.2.trans (hb.mono H3.out.2.size))⟩
  case ho4 =>
    refine ak (fun _ => ⟨rfl, fun _ _ => rfl⟩) ?_
    refine ak (by refine fun γ => ⟨rfl, fun w' h => ?_⟩; clear h; go_simp) ?_
    refine ak (by refine fun γ => ⟨rfl, fun w' h => ?_⟩; clear h; go_simp) ?_
    refine ak (fun _ => ⟨rfl, fun _ _ => rfl⟩) ?_
    refine ak (fun _ => ⟨rfl, fun _ _ => rfl⟩) ?_
    refine ak (fun γ => ⟨rfl, fun w' _ => ex_idxS rfl rfl rfl (by omega)⟩) ?_
    refine ak (fun γ => ⟨rfl, fun w' hX => ex_ld8 (k := 0) hX.2 (by omega) rfl rfl⟩) ?_
    refine ak (fun γ => ⟨rfl, fun w' _ => ex_gt8 rfl rfl rfl (decide_eq_false h0)⟩) ?_
    refine ak (by refine fun γ => ⟨rfl, fun w' h => ?_⟩; clear h; go_simp) ?_
    exact trivial
  intro γ w4 l hM hl
  have H4 := keepB H3 hM.below
  clear hM hl l H3 γ
  refine rest0 rfl (then_normal (wp_cond_false rfl ?_))
  refine wp_skip (then_normal (wp_seq ?_))
  refine (walk_any) (by kernel_rfl) 13 [.quiet (.slice (some ⟨g, o, none⟩) 17 cp), .quiet (.slice (some ⟨g, (o + 1), none⟩) 16 (cp - 1)), .call (U (tkn (fun i => f (1 + i)) 8)), .quiet (.slice (some ⟨g, o, none⟩) 17 cp), .quiet (.slice (some ⟨g, (o + 9), none⟩) 8 (cp - 9)), .call (U (tkn (fun i => f (9 + i)) 8)), .quiet (.slice (some ⟨g, o, none⟩) 17 cp), .quiet (PT g (o + 0)), .quiet (.int .u8 ((f 0 : Nat) : Int)), .quiet (.bool (decide (f 0 = 1))), .quiet (.agg (pt (tkn (fun i => f (1 + i)) 8) (tkn (fun i => f (9 + i)) 8) (decide (f 0 = 1))).toArray), .made (pt 0 0 false) 25, .laid 11 (pt 0 0 false) (pt (tkn (fun i => f (1 + i)) 8) (tkn (fun i => f (9 + i)) 8) (decide (f 0 = 1)))] (fun u' => Mm u' [(γ2_5, kd p r c gx gy), (γ1_0, pt 0 0 false)] ∧ Rd g o 17 f u') ?pre5 ?F5 ?hpre5 (fun γ => ?hF5) (by kernel_rfl) ?hL5 ?hS5 ?ho5 ?he5
  case hpre5 => simp only [tk, tz]; rfl
  case hF5 => simp only [fill, Kind.val, Act.put, sa, sz, ss]; rfl
  case hL5 => exact ⟨⟨_, rfl⟩, trivial⟩
  case hS5 => exact fun w' hb => ⟨H4.out.1.below hb, hr.below (H4.out.2.trans (hb.mono H4.out.2.size))⟩
  case ho5 =>
    refine ak (fun _ => ⟨rfl, fun _ _ => rfl⟩) ?_
    refine ak (fun γ => ⟨rfl, fun w' _ => ex_slL (m := 17) (l := 1) rfl rfl rfl (by omega) (by omega)⟩) ?_
    refine ak (fun γ => ⟨rfl, fun w' hX => ⟨68, #[.slice (some ⟨g, (o + 1), none⟩) 16 (cp - 1)], exec_call rfl call68 rfl (mpn rfl), take_any g (o + 1) 16 ((cp - 1)) (fun i => f (1 + i)) (fun i => hf _) (by omega) w' (hX.2.sub 1 8 (by decide))⟩⟩) ?_
    refine ak (fun _ => ⟨rfl, fun _ _ => rfl⟩) ?_
    refine ak (fun γ => ⟨rfl, fun w' _ => ex_slL (m := 17) (l := 9) rfl rfl rfl (by omega) (by omega)⟩) ?_
    refine ak (fun γ => ⟨rfl, fun w' hX => ⟨68, #[.slice (some ⟨g, (o + 9), none⟩) 8 (cp - 9)], exec_call rfl call68 rfl (mpn rfl), take_any g (o + 9) 8 ((cp - 9)) (fun i => f (9 + i)) (fun i => hf _) (by omega) w' (hX.2.sub 9 8 (by decide))⟩⟩) ?_
    refine ak (fun _ => ⟨rfl, fun _ _ => rfl⟩) ?_
    refine ak (fun γ => ⟨rfl, fun w' _ => ex_idxS rfl rfl rfl (by omega)⟩) ?_
    refine ak (fun γ => ⟨rfl, fun w' hX => ex_ld8 (k := 0) hX.2 (by omega) rfl rfl⟩) ?_
    refine ak (fun γ => ⟨rfl, fun w' _ => ex_e8 rfl rfl rfl⟩) ?_
    refine ak (fun γ => ⟨rfl, fun w' _ => ex_build25_012 rfl rfl rfl rfl⟩) ?_
    refine ak (fun γ => ⟨rfl, fun w' => ex_made25 rfl⟩) ?_
    refine ak (fun γ => ⟨rfl, rfl, rfl, fun w' h => ex_laidT h rfl rfl Try.sizeOf25 rfl rfl rfl⟩) ?_
    exact trivial
  intro γ w5 l hM hl
  have H5 : Hid (Mm w5 [(γ 11, pt (tkn (fun i => f (1 + i)) 8) (tkn (fun i => f (9 + i)) 8) (decide (f 0 = 1))), (γ2_5, kd p r c gx gy), (γ1_0, pt 0 0 false)] ∧ _) := growB H4 hM (Nat.le_refl _) hl [11] rfl (by decide)
  have o5_11 := ownB H4 hM (Nat.le_refl _) hl (i := 11) rfl
  clear hM hl l H4
  generalize γ 11 = γ5_11 at H5 o5_11 ⊢
  clear γ
  refine rest0 rfl (then_normal (wp_seq (wp_seq ?_)))
  refine walk_seqB 4 [.quiet (.agg (kd p r c gx gy).toArray), .quiet (.agg (pt (tkn (fun i => f (1 + i)) 8) (tkn (fun i => f (9 + i)) 8) (decide (f 0 = 1))).toArray), .call (.bool true), .quiet (.bool false)] H5 ?ho6 ?he6
  case ho6 => exact ak (fun γ => ⟨rfl, fun w' h => ex_loadT h 1 rfl rfl rfl Try.isAgg72 Try.sizeOf72 rfl rfl⟩) (ak (fun γ => ⟨rfl, fun w' h => ex_loadT h 0 rfl rfl rfl Try.isAgg25 Try.sizeOf25 rfl rfl⟩) (ak (fun γ => ⟨rfl, fun w' h => ⟨50, #[.agg (kd p r c gx gy).toArray, .agg (pt (tkn (fun i => f (1 + i)) 8) (tkn (fun i => f (9 + i)) 8) (decide (f 0 = 1))).toArray], exec_call rfl call50 rfl (mpn rfl), on_is k.pr _ _ _ _ h1 w'⟩⟩) (ak (by refine fun γ => ⟨rfl, fun w' h => ?_⟩; clear h; go_simp) trivial)))
  intro _ w6 H6
  clear H5
  refine rest0 rfl (then_normal (wp_cond_false rfl ?_))
  refine wp_skip (then_normal ?_)
  refine wp_seq (wp_seq ?_)
  refine walk_seqB 4 [.quiet (.agg (kd p r c gx gy).toArray), .quiet (.agg (pt (tkn (fun i => f (1 + i)) 8) (tkn (fun i => f (9 + i)) 8) (decide (f 0 = 1))).toArray), .call (.bool true), .quiet (.bool false)] H6 ?ho7 ?he7
  case ho7 => exact ak (fun γ => ⟨rfl, fun w' h => ex_loadT h 1 rfl rfl rfl Try.isAgg72 Try.sizeOf72 rfl rfl⟩) (ak (fun γ => ⟨rfl, fun w' h => ex_loadT h 0 rfl rfl rfl Try.isAgg25 Try.sizeOf25 rfl rfl⟩) (ak (fun γ => ⟨rfl, fun w' h => ⟨51, #[.agg (kd p r c gx gy).toArray, .agg (pt (tkn (fun i => f (1 + i)) 8) (tkn (fun i => f (9 + i)) 8) (decide (f 0 = 1))).toArray], exec_call rfl call51 rfl (mpn rfl), ig_in k.pr k.rb _ _ _ _ h2 w'⟩⟩) (ak (by refine fun γ => ⟨rfl, fun w' h => ?_⟩; clear h; go_simp) trivial)))
  intro _ w7 H7
  clear H6
  refine rest0 rfl (then_normal (wp_cond_false rfl ?_))
  refine wp_skip (then_normal (wp_seq ?_))
  refine walk_seqB 1 [.quiet (.agg (pt (tkn (fun i => f (1 + i)) 8) (tkn (fun i => f (9 + i)) 8) (decide (f 0 = 1))).toArray)] H7 ?ho8 ?he8
  case ho8 => exact ak (fun γ => ⟨rfl, fun w' h => ex_loadT h 0 rfl rfl rfl Try.isAgg25 Try.sizeOf25 rfl rfl⟩) trivial
  intro _ w8 H8
  clear H7
  refine rest_at (l := [1, 2]) rfl ?_
  refine rest_store rfl rfl rfl (ex_storeT (vs := pt (tkn (fun i => f (1 + i)) 8) (tkn (fun i => f (9 + i)) 8) (decide (f 0 = 1))) H8.out.1 2 rfl rfl rfl rfl Try.sizeOf25 rfl (Nat.le_of_ble_eq_true rfl)) ?_
  have H9 : Hid (Mm (w8.setCells γ1_0 0 (pt (tkn (fun i => f (1 + i)) 8) (tkn (fun i => f (9 + i)) 8) (decide (f 0 = 1)))) [(γ5_11, pt (tkn (fun i => f (1 + i)) 8) (tkn (fun i => f (9 + i)) 8) (decide (f 0 = 1))), (γ2_5, kd p r c gx gy), (γ1_0, pt (tkn (fun i => f (1 + i)) 8) (tkn (fun i => f (9 + i)) 8) (decide (f 0 = 1)))] ∧ Below w.heap.size w (w8.setCells γ1_0 0 (pt (tkn (fun i => f (1 + i)) 8) (tkn (fun i => f (9 + i)) 8) (decide (f 0 = 1))))) := ⟨H8.out.1.put 2 (off := 0) (vs := pt (tkn (fun i => f (1 + i)) 8) (tkn (fun i => f (9 + i)) 8) (decide (f 0 = 1))) rfl (Nat.le_of_ble_eq_true rfl), below_setCells _ o1_0.out _ _ _ H8.out.2⟩
  clear H8
  generalize hgw : World.setCells _ _ _ _ = w9 at H9 ⊢
  clear hgw
  refine rest_set (d := 5) rfl rfl rfl rfl ?_
  simp only [Act.put, sa, sz, ss]
  refine rest_nil (then_normal (wp_ret ?_))
  repeat (first | refine then_ret ?_ | refine block_ret ?_)
  have hf0 := var_T H9.out.1 2 rfl Try.isAgg25 Try.sizeOf25 rfl
  refine bodyPost_ret (v := .tuple #[.agg (pt (tkn (fun i => f (1 + i)) 8) (tkn (fun i => f (9 + i)) 8) (decide (f 0 = 1))).toArray, .int .i64 0]) (by simp [results, Try.results36, asAddr, Act.eval, hf0]) rfl ?_
  exact ⟨rfl, H9.out.2⟩
set_option maxHeartbeats 1000000 in
set_option maxRecDepth 100000 in
theorem read_len (k : Kd s p r c gx gy) (q : Option Addr) (n cp : Nat) (h0 : n ≠ 17) (w : World) :
    Calls Try.prog 36 #[.int .i64 s, .slice q n cp] w fun e w' => e = .returned (.tuple #[V (pt 0 0 false), .int .i64 4]) ∧ Below w.heap.size w w' := by
  have H0 : Hid (_ ∧ _) := ⟨Mm.nil w, Below.refl w.heap.size w⟩
  go_enter Try.func36, Try.ntmps36
  refine wp_seq ?_
  refine walk_seqA 2 [.made (pt 0 0 false) 25, .quiet (.int .i64 0)] (sB H0) ?ho1 ?he1
  case ho1 => exact ak (fun γ => ⟨rfl, fun w' => ex_made25 rfl⟩) (ak (fun _ => ⟨rfl, fun _ _ => rfl⟩) trivial)
  intro γ w1 l hM hl
  have H1 : Hid (Mm w1 [(γ 0, pt 0 0 false)] ∧ _) := growB H0 hM (Nat.le_refl _) hl [0] rfl (by decide)
  have o1_0 := ownB H0 hM (Nat.le_refl _) hl (i := 0) rfl
  clear hM hl l
  generalize γ 0 = γ1_0 at H1 o1_0 ⊢
  clear γ
  refine rest0 rfl (then_normal (wp_seq ?_))
  refine walk_seqA 8 [.quiet (.int .i64 s), .call (.tuple #[.agg (kd p r c gx gy).toArray, .int .i64 0]), .quiet (.tuple #[.agg (kd p r c gx gy).toArray, .int .i64 0]), .quiet (.agg (kd p r c gx gy).toArray), .quiet (.int .i64 0), .made (kd 0 0 0 0 0) 72, .laid 5 (kd 0 0 0 0 0) (kd p r c gx gy), .quiet (.int .i64 0)] (sB H1) ?ho2 ?he2 (hL := ?hL2)
  case hL2 => exact ⟨⟨_, rfl⟩, trivial⟩
  case ho2 => exact ak (fun _ => ⟨rfl, fun _ _ => rfl⟩) (ak (fun γ => ⟨rfl, fun w' h => ⟨42, #[.int .i64 s], exec_call rfl call42 rfl (mpn rfl), k.kind w'⟩⟩) (ak (fun _ => ⟨rfl, fun _ _ => rfl⟩) (ak (by refine fun γ => ⟨rfl, fun w' h => ?_⟩; clear h; go_simp) (ak (by refine fun γ => ⟨rfl, fun w' h => ?_⟩; clear h; go_simp) (ak (fun γ => ⟨rfl, fun w' => ex_made72 rfl⟩) (ak (fun γ => ⟨rfl, rfl, rfl, fun w' h => ex_laidT h rfl rfl Try.sizeOf72 rfl rfl rfl⟩) (ak (fun _ => ⟨rfl, fun _ _ => rfl⟩) trivial)))))))
  intro γ w2 l hM hl
  have H2 : Hid (Mm w2 [(γ 5, kd p r c gx gy), (γ1_0, pt 0 0 false)] ∧ _) := growB H1 hM (Nat.le_refl _) hl [5] rfl (by decide)
  have o2_5 := ownB H1 hM (Nat.le_refl _) hl (i := 5) rfl
  clear hM hl l H1
  generalize γ 5 = γ2_5 at H2 o2_5 ⊢
  clear γ
  refine rest0 rfl (then_normal (wp_seq (wp_seq ?_)))
  refine walk_seqB 2 [.quiet (.int .i64 0), .quiet (.bool false)] H2 ?ho3 ?he3
  case ho3 => exact ak (fun _ => ⟨rfl, fun _ _ => rfl⟩) (ak (by refine fun γ => ⟨rfl, fun w' h => ?_⟩; clear h; go_simp) trivial)
  intro _ w3 H3
  clear H2
  refine rest0 rfl (then_normal (wp_cond_false rfl ?_))
  refine wp_skip (then_normal ?_)
  refine wp_seq (wp_seq ?_)
  refine walk_seqB 9 [.quiet (.slice q n cp), .quiet (.int .i64 ((n : Nat) : Int)), .quiet (.bool true), .quiet (.bool true), .gone, .gone, .gone, .gone, .quiet (.bool true)] H3 ?ho4 ?he4
  case ho4 => exact ak (fun _ => ⟨rfl, fun _ _ => rfl⟩) (ak (by refine fun γ => ⟨rfl, fun w' h => ?_⟩; clear h; go_simp) (ak (by refine fun γ => ⟨rfl, fun w' h => ?_⟩; clear h; go_simp <;> omega) (ak (fun _ => ⟨rfl, fun _ _ => rfl⟩) (ak (fun γ => rfl) (ak (fun γ => rfl) (ak (fun γ => rfl) (ak (fun γ => rfl) (ak (by refine fun γ => ⟨rfl, fun w' h => ?_⟩; clear h; go_simp) trivial))))))))
  intro _ w4 H4
  clear H3
  refine rest0 rfl (then_normal (wp_cond_true rfl (wp_seq ?_)))
  refine walk_seqB 1 [.quiet (.agg (pt 0 0 false).toArray)] H4 ?ho5 ?he5
  case ho5 => exact ak (fun γ => ⟨rfl, fun w' _ => ex_build25_ rfl⟩) trivial
  intro _ w5 H5
  clear H4
  refine rest_at (l := [1, 2]) rfl ?_
  refine rest_store rfl rfl rfl (ex_storeT (vs := pt 0 0 false) H5.out.1 1 rfl rfl rfl rfl Try.sizeOf25 rfl (Nat.le_of_ble_eq_true rfl)) ?_
  have H6 : Hid (Mm (w5.setCells γ1_0 0 (pt 0 0 false)) [(γ2_5, kd p r c gx gy), (γ1_0, pt 0 0 false)] ∧ Below w.heap.size w (w5.setCells γ1_0 0 (pt 0 0 false))) := ⟨H5.out.1.put 1 (off := 0) (vs := pt 0 0 false) rfl (Nat.le_of_ble_eq_true rfl), below_setCells _ o1_0.out _ _ _ H5.out.2⟩
  clear H5
  generalize hgw : World.setCells _ _ _ _ = w6 at H6 ⊢
  clear hgw
  refine rest_set (d := 5) rfl rfl rfl rfl ?_
  simp only [Act.put, sa, sz, ss]
  refine rest_nil (then_normal (wp_ret ?_))
  repeat (first | refine then_ret ?_ | refine block_ret ?_)
  have hf0 := var_T H6.out.1 1 rfl Try.isAgg25 Try.sizeOf25 rfl
  refine bodyPost_ret (v := .tuple #[.agg (pt 0 0 false).toArray, .int .i64 4]) (by simp [results, Try.results36, asAddr, Act.eval, hf0]) rfl ?_
  exact ⟨rfl, H6.out.2⟩
set_option maxHeartbeats 1000000 in
set_option maxRecDepth 100000 in
theorem read_no (s : Int) (h1 : s ≠ 1) (h2 : s ≠ 2) (v : Value) (w : World) :
    Calls Try.prog 36 #[.int .i64 s, v] w fun e w' => e = .returned (.tuple #[V (pt 0 0 false), .int .i64 2]) ∧ Below w.heap.size w w' := by
  have H0 : Hid (_ ∧ _) := ⟨Mm.nil w, Below.refl w.heap.size w⟩
  go_enter Try.func36, Try.ntmps36
  refine wp_seq ?_
  refine walk_seqA 2 [.made (pt 0 0 false) 25, .quiet (.int .i64 0)] (sB H0) ?ho1 ?he1
  case ho1 => exact ak (fun γ => ⟨rfl, fun w' => ex_made25 rfl⟩) (ak (fun _ => ⟨rfl, fun _ _ => rfl⟩) trivial)
  intro γ w1 l hM hl
  have H1 : Hid (Mm w1 [(γ 0, pt 0 0 false)] ∧ _) := growB H0 hM (Nat.le_refl _) hl [0] rfl (by decide)
  have o1_0 := ownB H0 hM (Nat.le_refl _) hl (i := 0) rfl
  clear hM hl l
  generalize γ 0 = γ1_0 at H1 o1_0 ⊢
  clear γ
  refine rest0 rfl (then_normal (wp_seq ?_))
  refine walk_seqA 8 [.quiet (.int .i64 s), .call (.tuple #[.agg (kd 0 0 0 0 0).toArray, .int .i64 2]), .quiet (.tuple #[.agg (kd 0 0 0 0 0).toArray, .int .i64 2]), .quiet (.agg (kd 0 0 0 0 0).toArray), .quiet (.int .i64 2), .made (kd 0 0 0 0 0) 72, .laid 5 (kd 0 0 0 0 0) (kd 0 0 0 0 0), .quiet (.int .i64 2)] (sB H1) ?ho2 ?he2 (hL := ?hL2)
  case hL2 => exact ⟨⟨_, rfl⟩, trivial⟩
  case ho2 => exact ak (fun _ => ⟨rfl, fun _ _ => rfl⟩) (ak (fun γ => ⟨rfl, fun w' h => ⟨42, #[.int .i64 s], exec_call rfl call42 rfl (mpn rfl), kindOf_no s h1 h2 w'⟩⟩) (ak (fun _ => ⟨rfl, fun _ _ => rfl⟩) (ak (by refine fun γ => ⟨rfl, fun w' h => ?_⟩; clear h; go_simp) (ak (by refine fun γ => ⟨rfl, fun w' h => ?_⟩; clear h; go_simp) (ak (fun γ => ⟨rfl, fun w' => ex_made72 rfl⟩) (ak (fun γ => ⟨rfl, rfl, rfl, fun w' h => ex_laidT h rfl rfl Try.sizeOf72 rfl rfl rfl⟩) (ak (fun _ => ⟨rfl, fun _ _ => rfl⟩) trivial)))))))
  intro γ w2 l hM hl
  have H2 : Hid (Mm w2 [(γ 5, kd 0 0 0 0 0), (γ1_0, pt 0 0 false)] ∧ _) := growB H1 hM (Nat.le_refl _) hl [5] rfl (by decide)
  have o2_5 := ownB H1 hM (Nat.le_refl _) hl (i := 5) rfl
  clear hM hl l H1
  generalize γ 5 = γ2_5 at H2 o2_5 ⊢
  clear γ
  refine rest0 rfl (then_normal (wp_seq (wp_seq ?_)))
  refine walk_seqB 2 [.quiet (.int .i64 2), .quiet (.bool true)] H2 ?ho3 ?he3
  case ho3 => exact ak (fun _ => ⟨rfl, fun _ _ => rfl⟩) (ak (by refine fun γ => ⟨rfl, fun w' h => ?_⟩; clear h; go_simp) trivial)
  intro _ w3 H3
  clear H2
  refine rest0 rfl (then_normal (wp_cond_true rfl (wp_seq ?_)))
  refine walk_seqB 2 [.quiet (.agg (pt 0 0 false).toArray), .quiet (.int .i64 2)] H3 ?ho4 ?he4
  case ho4 => exact ak (fun γ => ⟨rfl, fun w' _ => ex_build25_ rfl⟩) (ak (fun _ => ⟨rfl, fun _ _ => rfl⟩) trivial)
  intro _ w4 H4
  clear H3
  refine rest_at (l := [2, 3]) rfl ?_
  refine rest_store rfl rfl rfl (ex_storeT (vs := pt 0 0 false) H4.out.1 1 rfl rfl rfl rfl Try.sizeOf25 rfl (Nat.le_of_ble_eq_true rfl)) ?_
  have H5 : Hid (Mm (w4.setCells γ1_0 0 (pt 0 0 false)) [(γ2_5, kd 0 0 0 0 0), (γ1_0, pt 0 0 false)] ∧ Below w.heap.size w (w4.setCells γ1_0 0 (pt 0 0 false))) := ⟨H4.out.1.put 1 (off := 0) (vs := pt 0 0 false) rfl (Nat.le_of_ble_eq_true rfl), below_setCells _ o1_0.out _ _ _ H4.out.2⟩
  clear H4
  generalize hgw : World.setCells _ _ _ _ = w5 at H5 ⊢
  clear hgw
  refine rest_set (d := 5) rfl rfl rfl rfl ?_
  simp only [Act.put, sa, sz, ss]
  refine rest_nil (then_normal (wp_ret ?_))
  repeat (first | refine then_ret ?_ | refine block_ret ?_)
  have hf0 := var_T H5.out.1 1 rfl Try.isAgg25 Try.sizeOf25 rfl
  refine bodyPost_ret (v := .tuple #[.agg (pt 0 0 false).toArray, .int .i64 2]) (by simp [results, Try.results36, asAddr, Act.eval, hf0]) rfl ?_
  exact ⟨rfl, H5.out.2⟩
end
end Rg
end Go.Proofs.Ytjmbgchoioepjaa
end
section
namespace Go.Proofs.Ytjmbgchoioepjaa
open Go.RowKit
namespace Rg
end Rg
/-- v is a slice whose bytes are xs, with room for c. -/
def BSl (w : World) (xs : List Int) (c : Nat) (v : Value) : Prop :=
  (∃ g o, v = .slice (some ⟨g, o, none⟩) xs.length c ∧ g < w.heap.size ∧ xs.length ≤ c ∧ ∀ i, i < xs.length → w.cell? ⟨g, o + i, none⟩ = some (.int .u8 (xs.getD i 0))) ∨ ∃ p, v = .slice p 0 c ∧ xs = []
theorem BSl.full {w : World} {xs : List Int} {c : Nat} (g o : Nat) (hg : g < w.heap.size) (hc : xs.length ≤ c) (h : ∀ i, i < xs.length → w.cell? ⟨g, o + i, none⟩ = some (.int .u8 (xs.getD i 0))) : BSl w xs c (.slice (some ⟨g, o, none⟩) xs.length c) := .inl ⟨g, o, rfl, hg, hc, h⟩
theorem BSl.void {w : World} {xs : List Int} {c : Nat} (p : Option Addr) (hx : xs = []) : BSl w xs c (.slice p 0 c) := .inr ⟨p, rfl, hx⟩
theorem BSl.each {w : World} {xs : List Int} {c : Nat} {M : (v : Value) → BSl w xs c v → Prop} (full : ∀ (g o : Nat) (hg : g < w.heap.size) (hc : xs.length ≤ c) (h : ∀ i, i < xs.length → w.cell? ⟨g, o + i, none⟩ = some (.int .u8 (xs.getD i 0))), M (.slice (some ⟨g, o, none⟩) xs.length c) (BSl.full g o hg hc h)) (void : ∀ (p : Option Addr) (hx : xs = []), M (.slice p 0 c) (BSl.void p hx)) {v : Value} (h : BSl w xs c v) : M v h := by
  rcases h with ⟨g, o, rfl, hg, hc, h⟩ | ⟨p, rfl, hx⟩
  · exact full g o hg hc h
  · exact void p hx
theorem BSl.below {w w' : World} {xs : List Int} {c : Nat} {v : Value} (h : BSl w xs c v) (hb : Below w.heap.size w w') : BSl w' xs c v := by
  cases h using BSl.each with
  | full g o hg hc h => exact .full g o (Nat.lt_of_lt_of_le hg hb.size) hc (fun i hi => by rw [hb.cell (p := ⟨g, o + i, none⟩) hg]; exact h i hi)
  | void p hx => exact .void p hx
theorem BSl.drew {w : World} {xs : List Int} {c : Nat} {v : Value} (h : BSl w xs c v) : BSl w.drew xs c v := h.below ((Below.refl _ _).drew)
theorem BSl.alloc {w : World} {xs : List Int} {c : Nat} {v : Value} (h : BSl w xs c v) (o : Obj) : BSl (w.alloc o) xs c v := h.below ((Below.refl _ _).alloc (Nat.le_refl _) _)
theorem BSl.text {w : World} {xs : List Int} {c : Nat} {v : Value} (h : BSl w xs c v) : (convert 59 9 v).run Try.prog w = .ok (.string (strOfNums xs)) w := by
  cases h using BSl.each with
  | full g o hg hc h => exact run_convert_bytes_arg (P := Try.prog) w 59 5 (by kernel_rfl) (by kernel_rfl) g o xs.length c xs rfl h 9 (by kernel_rfl)
  | void p hx =>
    subst hx
    cases p with
    | none => exact run_convert_bytes_nil (P := Try.prog) w 59 5 (by kernel_rfl) (by kernel_rfl) 0 c 9 (by kernel_rfl)
    | some a =>
      have hl : (loadCells a 0).run Try.prog w = .ok (([] : List Int).map (Value.int .u8)).toArray w := by simpa using run_loadCells_list (P := Try.prog) w a [] (by simp)
      rw [run_convert_bytes_string w 59 9 5 _ 0 c (by kernel_rfl) (by kernel_rfl) (by kernel_rfl), run_bytesToString w _ 0 c [] hl, foldl_push_bytes]
      rfl
set_option maxHeartbeats 400000 in
theorem same_any {xs : List Int} {c c' : Nat} {v v' : Value} (w : World) (h : BSl w xs c v) (h' : BSl w xs c' v') :
    Calls Try.prog 39 #[v, v'] w fun e w' => e = .returned (.bool true) ∧ w' = w := by
  have h1 := h.text
  have h2 := h'.text
  clear h h'
  go_enter Try.func39, Try.ntmps39
  go_wp2
  go_ret
  exact ⟨rfl, rfl⟩
namespace Rg
theorem Rd.bsl {g o n c : Nat} {f : Nat → Nat} {w : World} (h : Rd g o n f w) (hc : n ≤ c) : BSl w ((List.range n).map fun i => ((f i : Nat) : Int)) c (.slice (some ⟨g, o, none⟩) n c) := by
  have hl : ((List.range n).map fun i => ((f i : Nat) : Int)).length = n := by simp
  have hb := BSl.full (w := w) (xs := (List.range n).map fun i => ((f i : Nat) : Int)) (c := c) g o h.lt (by rw [hl]; exact hc) (fun i hi => by
    rw [hl] at hi
    rw [h.at_ i hi]
    simp [List.getD, hi])
  rw [hl] at hb
  exact hb
theorem same_rd {g o c g' o' c' : Nat} {f f' : Nat → Nat} (w : World) (h : Rd g o 17 f w) (h' : Rd g' o' 17 f' w) (hc : 17 ≤ c) (hc' : 17 ≤ c') (he : ∀ i, i < 17 → f i = f' i) :
    Calls Try.prog 39 #[.slice (some ⟨g, o, none⟩) 17 c, .slice (some ⟨g', o', none⟩) 17 c'] w fun e w' => e = .returned (.bool true) ∧ Below w.heap.size w w' := by
  have hx : ((List.range 17).map fun i => ((f i : Nat) : Int)) = (List.range 17).map fun i => ((f' i : Nat) : Int) := List.map_congr_left fun i hi => by rw [he i (List.mem_range.1 hi)]
  have h1 := h.bsl hc
  rw [hx] at h1
  exact Calls.mono (same_any w h1 (h'.bsl hc')) (fun e w' hh => ⟨hh.1, by rw [hh.2]; exact Below.refl _ _⟩)
/-! Bytes lead back. -/
def fb (X Y : Nat) (Z : Bool) (i : Nat) : Nat := if i = 0 then (if Z = true then 1 else 0) else if i < 9 then X / 2 ^ (8 * (7 - (i - 1))) % 256 else Y / 2 ^ (8 * (7 - (i - 9))) % 256
theorem fb_pb (X Y : Nat) (Z : Bool) (i : Nat) : pb X Y Z i = ((fb X Y Z i : Nat) : Int) := by
  unfold pb fb byt
  split
  · split <;> rfl
  · split <;> rfl
theorem fb_lt (X Y : Nat) (Z : Bool) (i : Nat) : fb X Y Z i < 256 := by
  unfold fb
  split
  · split <;> decide
  · split <;> exact Nat.mod_lt _ (by decide)
theorem fb_zero (X Y : Nat) (Z : Bool) : decide (fb X Y Z 0 = 1) = Z := by cases Z <;> rfl
theorem fb_low (X Y : Nat) (Z : Bool) : ¬ 1 < fb X Y Z 0 := by
  unfold fb
  rw [if_pos rfl]
  split <;> decide
theorem Blk.rd {w : World} {g X Y : Nat} {Z : Bool} (hg : g < w.heap.size) (h : Blk w g (by8 (pb X Y Z) 17)) : Rd g 0 17 (fb X Y Z) w :=
  ⟨hg, fun i hi => by rw [Nat.zero_add, (h i _ (by8_get _ hi)).1, fb_pb]⟩
theorem tkn_congr {f f' : Nat → Nat} : ∀ k, (∀ i, i < k → f i = f' i) → tkn f k = tkn f' k
  | 0, _ => rfl
  | k + 1, h => by rw [tkn, tkn, tkn_congr k (fun i hi => h i (by omega)), h k (by omega)]
theorem tkn_num (n : Nat) (hn : n < 2 ^ 64) : ∀ k, k ≤ 8 → tkn (fun i => n / 2 ^ (8 * (7 - i)) % 256) k = n / 2 ^ (8 * (8 - k))
  | 0, _ => by
    rw [tkn, Nat.div_eq_of_lt]
    exact hn
  | k + 1, h => by
    rw [tkn, tkn_num n hn k (by omega), show 8 * (8 - k) = 8 * (7 - k) + 8 by omega, show 8 * (8 - (k + 1)) = 8 * (7 - k) by omega, Nat.pow_add, ← Nat.div_div_eq_div_mul]
    generalize n / 2 ^ (8 * (7 - k)) = q
    omega
theorem fb_X (X Y : Nat) (Z : Bool) (hX : X < 2 ^ 64) : tkn (fun i => fb X Y Z (1 + i)) 8 = X := by
  rw [tkn_congr (f' := fun i => X / 2 ^ (8 * (7 - i)) % 256) 8 (fun i hi => ?_), tkn_num X hX 8 (Nat.le_refl _)]
  · rw [Nat.sub_self, Nat.mul_zero, Nat.pow_zero, Nat.div_one]
  · show fb X Y Z (1 + i) = _
    unfold fb
    rw [if_neg (by omega), if_pos (by omega), show 1 + i - 1 = i by omega]
theorem fb_Y (X Y : Nat) (Z : Bool) (hY : Y < 2 ^ 64) : tkn (fun i => fb X Y Z (9 + i)) 8 = Y := by
  rw [tkn_congr (f' := fun i => Y / 2 ^ (8 * (7 - i)) % 256) 8 (fun i hi => ?_), tkn_num Y hY 8 (Nat.le_refl _)]
  · rw [Nat.sub_self, Nat.mul_zero, Nat.pow_zero, Nat.div_one]
  · show fb X Y Z (9 + i) = _
    unfold fb
    rw [if_neg (by omega), if_neg (by omega), show 9 + i - 9 = i by omega]
theorem tkn_pre {f : Nat → Nat} (hf : ∀ i, f i < 256) (k : Nat) : ∀ m, tkn f (k + m) / 2 ^ (8 * m) = tkn f k
  | 0 => by rw [Nat.mul_zero, Nat.pow_zero, Nat.div_one, Nat.add_zero]
  | m + 1 => by
    have h := tkn_pre hf k m
    have h2 := hf (k + m)
    rw [show k + (m + 1) = k + m + 1 by omega, tkn, show 8 * (m + 1) = 8 + 8 * m by omega, Nat.pow_add, ← Nat.div_div_eq_div_mul]
    rw [show (tkn f (k + m) * 256 + f (k + m)) / 2 ^ 8 = tkn f (k + m) by
      rw [show (2 : Nat) ^ 8 = 256 by decide]; omega, h]
theorem tkn_byte {f : Nat → Nat} (hf : ∀ i, f i < 256) {i : Nat} (hi : i < 8) : tkn f 8 / 2 ^ (8 * (7 - i)) % 256 = f i := by
  have h := tkn_pre hf (i + 1) (7 - i)
  rw [show i + 1 + (7 - i) = 8 by omega] at h
  rw [h, tkn]
  have := hf i
  omega
theorem fb_back {f : Nat → Nat} (hf : ∀ i, f i < 256) (h0 : ¬ 1 < f 0) (i : Nat) (hi : i < 17) : fb (tkn (fun i => f (1 + i)) 8) (tkn (fun i => f (9 + i)) 8) (decide (f 0 = 1)) i = f i := by
  unfold fb
  by_cases h : i = 0
  · rw [if_pos h, h]
    by_cases h1 : f 0 = 1
    · rw [if_pos (decide_eq_true h1), h1]
    · rw [if_neg (by simp [h1])]
      omega
  · rw [if_neg h]
    by_cases h9 : i < 9
    · rw [if_pos h9]
      have := tkn_byte (f := fun i => f (1 + i)) (fun i => hf _) (i := i - 1) (by omega)
      rw [this]
      show f (1 + (i - 1)) = _
      congr 1
      omega
    · rw [if_neg h9]
      have := tkn_byte (f := fun i => f (9 + i)) (fun i => hf _) (i := i - 9) (by omega)
      rw [this]
      show f (9 + (i - 9)) = _
      congr 1
      omega
theorem Read_own {s : Int} {p r c gx gy : Nat} (k : Kd s p r c gx gy) (X Y : Nat) (Z : Bool) (h2 : ig p r X Y Z = true) (g : Nat) (w : World) (hm : Mm w [(g, by8 (pb X Y Z) 17)]) : Calls Try.prog 36 #[.int .i64 s, .slice (some ⟨g, 0, none⟩) 17 17] w fun e w' => e = .returned (.tuple #[V (pt X Y Z), .int .i64 0]) ∧ Below w.heap.size w w' := by
  have hoc : oc p X Y Z = true := by
    unfold ig at h2
    simp only [Bool.and_eq_true] at h2
    exact h2.1
  have hl := oc_lt k.pr hoc
  have hb := k.pr.hi
  have e64 : (2 : Nat) ^ 64 = 18446744073709551616 := by decide
  have eX := fb_X X Y Z (by omega)
  have eY := fb_Y X Y Z (by omega)
  have eZ := fb_zero X Y Z
  have h := read_ok k g 0 17 (fb X Y Z) (fb_lt X Y Z) (Nat.le_refl _) (fb_low X Y Z) (by rw [eX, eY, eZ]; exact hoc) (by rw [eX, eY, eZ]; exact h2) w (Blk.rd (hm.blk _ (List.mem_singleton.2 rfl)).1 (hm.blk _ (List.mem_singleton.2 rfl)).2)
  rw [eX, eY, eZ] at h
  exact h
end Rg
end Go.Proofs.Ytjmbgchoioepjaa
end
section
namespace Go.Proofs.Ytjmbgchoioepjaa
open Go.RowKit
namespace Rg
open NT
theorem cb_lt {p : Nat} (hp : Pr p) {x : Nat} : cb p x < p := tm_lt hp
theorem rb_lt {p : Nat} (hp : Pr p) {x : Nat} : rb p x < p := pw_lt hp
theorem perm_of {α : Type} [BEq α] [LawfulBEq α] : ∀ (l1 l2 : List α), l1.Nodup → (∀ x ∈ l1, x ∈ l2) → l2.length ≤ l1.length → l1.Perm l2
  | [], l2, _, _, h => by
    have : l2 = [] := List.eq_nil_of_length_eq_zero (by simpa using h)
    rw [this]
  | a :: l1, l2, hn, hs, h => by
    have ha := hs a (List.mem_cons_self ..)
    have hn' := List.nodup_cons.1 hn
    have hp := List.perm_cons_erase ha
    have hl := List.length_erase_of_mem ha
    have hpos := List.length_pos_of_mem ha
    refine List.Perm.trans (List.Perm.cons a (perm_of l1 (l2.erase a) hn'.2 (fun x hx => ?_) (by rw [hl]; simp only [List.length_cons] at h; omega))) hp.symm
    exact (List.mem_erase_of_ne (fun e => hn'.1 (by rw [← e]; exact hx))).2 (hs x (List.mem_cons_of_mem _ hx))
section
variable {p : Nat} [NeZero p]
/-- The sum of a list of points. -/
def su (p : Nat) (l : List P3) : P3 := l.foldr (dA p) (0, 0, true)
theorem su_on (F : Fd p) : ∀ (l : List P3), (∀ x ∈ l, On p x) → On p (su p l)
  | [], _ => on_zero' F.pr
  | a :: l, h => on_add F.pr F.prm (h a (List.mem_cons_self ..)) (su_on F l fun x hx => h x (List.mem_cons_of_mem _ hx))
theorem su_perm (F : Fd p) {l l' : List P3} (hp : l.Perm l') : (∀ x ∈ l, On p x) → su p l = su p l' := by
  induction hp with
  | nil => intro _; rfl
  | cons a _ ih => intro h; show dA p a (su p _) = dA p a (su p _); rw [ih fun x hx => h x (List.mem_cons_of_mem _ hx)]
  | swap a b l =>
    intro h
    have hb := h b (List.mem_cons_self ..)
    have ha := h a (List.mem_cons_of_mem _ (List.mem_cons_self ..))
    have hl := su_on F l fun x hx => h x (List.mem_cons_of_mem _ (List.mem_cons_of_mem _ hx))
    show dA p b (dA p a (su p l)) = dA p a (dA p b (su p l))
    rw [← dA_assoc F hb ha hl, dA_comm F hb ha, dA_assoc F ha hb hl]
  | trans h1 _ ih1 ih2 => intro h; rw [ih1 h, ih2 fun x hx => h x (h1.mem_iff.2 hx)]
theorem su_map (F : Fd p) {a : P3} (ha : On p a) : ∀ (l : List P3), (∀ x ∈ l, On p x) → su p (l.map (dA p a)) = dA p (dN p a l.length) (su p l)
  | [], _ => (dA_zl _).symm
  | x :: l, h => by
    have hx := h x (List.mem_cons_self ..)
    have hl := su_on F l fun y hy => h y (List.mem_cons_of_mem _ hy)
    have hn := dN_on F ha l.length
    show dA p (dA p a x) (su p (l.map (dA p a))) = dA p (dA p (dN p a l.length) a) (dA p x (su p l))
    rw [su_map F ha l fun y hy => h y (List.mem_cons_of_mem _ hy)]
    rw [dA_assoc F ha hx (on_add F.pr F.prm hn hl), ← dA_assoc F hx hn hl, dA_comm F hx hn, dA_assoc F hn hx hl, ← dA_assoc F ha hn (on_add F.pr F.prm hx hl), dA_comm F ha hn]
theorem dA_cancel (F : Fd p) {a x y : P3} (ha : On p a) (hx : On p x) (hy : On p y) (h : dA p a x = dA p a y) : x = y := by
  have hn := on_neg F.pr ha
  have e : ∀ {z}, On p z → dA p (a.1, mi p 0 a.2.1, a.2.2) (dA p a z) = z := fun {z} hz => by
    rw [← dA_assoc F hn ha hz, dA_comm F hn ha, dA_inv F ha, dA_zl]
  rw [← e hx, h, e hy]
/-- If a list has all points, each once, so many times a point is the zero. -/
theorem order_of (F : Fd p) (l : List P3) (hn : l.Nodup) (ho : ∀ x ∈ l, On p x) (hall : ∀ x, On p x → x ∈ l) {a : P3} (ha : On p a) : dN p a l.length = (0, 0, true) := by
  have hmo : ∀ x ∈ l.map (dA p a), On p x := fun x hx => by
    obtain ⟨y, hy, rfl⟩ := List.mem_map.1 hx
    exact on_add F.pr F.prm ha (ho y hy)
  have hnd : (l.map (dA p a)).Nodup := by
    unfold List.Nodup
    rw [List.pairwise_map]
    refine List.Pairwise.imp_of_mem (fun {x y} hx hy hne => ?_) hn
    exact fun e => hne (dA_cancel F ha (ho x hx) (ho y hy) e)
  have hp := perm_of (l.map (dA p a)) l hnd (fun x hx => hall x (hmo x hx)) (by simp)
  have e := su_perm F hp hmo
  rw [su_map F ha l ho] at e
  have hs := su_on F l ho
  have hd := dN_on F ha l.length
  have e2 : dA p (su p l) (dN p a l.length) = dA p (su p l) (0, 0, true) := by rw [dA_comm F hs hd, e, dA_zr hs]
  exact dA_cancel F hs hd (on_zero' F.pr) e2
/-! The points of the curve. -/
theorem rb_sq (F : Fd p) {c : Nat} (hc : c < p) (h0 : c ≠ 0) : ph p (rb p c) * ph p (rb p c) = ph p c ∨ ph p (rb p c) * ph p (rb p c) = - ph p c := by
  have h3 := F.three
  have hlo := F.pr.lo
  obtain ⟨j, hj⟩ : ∃ j, p + 1 = 4 * (j + 1) := ⟨(p - 3) / 4, by omega⟩
  have hd : ¬ p ∣ c := fun h => h0 (Nat.eq_zero_of_dvd_of_lt h hc)
  have e4 : (p + 1) / 4 = j + 1 := by omega
  have e2 : c ^ (2 * j + 2) = c ^ (j + 1) * c ^ (j + 1) := by rw [← Nat.pow_add]; congr 1; omega
  have e3 : (ph p (rb p c) * ph p (rb p c)).val = c ^ (2 * j + 2) % p := by
    rw [Fin.val_mul, ph_val]
    unfold rb pw
    rw [e4, Nat.mod_mod, ← Nat.mul_mod, e2]
  rcases half_pow F.prm hj hd with h | h
  · left
    apply Fin.ext
    rw [e3, h, ph_val]
  · right
    have : ph p (rb p c) * ph p (rb p c) + ph p c = 0 := by
      apply Fin.ext
      rw [Fin.val_add, e3, ph_val, ← Nat.add_mod, h]
      exact (Nat.zero_mod p).symm
    grind
theorem sq_iff (hp : Pr p) {c : Nat} (hc : c < p) : sq p c = true ↔ ph p (rb p c) * ph p (rb p c) = ph p c := by
  unfold sq
  rw [decide_eq_true_iff]
  constructor
  · intro h
    rw [← ph_tm, h]
  · intro h
    refine ph_inj (tm_lt hp) hc ?_
    rw [ph_tm, h]
theorem ph_sub {x : Nat} (hx : x ≤ p) : ph p (p - x) = - ph p x := by
  have : ph p (p - x) + ph p x = 0 := by
    apply Fin.ext
    rw [Fin.val_add, ph_val, ph_val, ← Nat.add_mod, Nat.sub_add_cancel hx, Nat.mod_self]
    exact (Nat.zero_mod p).symm
  grind
theorem cb_ne (F : Fd p) {x : Nat} (hx : x < p) (h0 : x ≠ 0) : ph p (cb p x) ≠ 0 := by
  rw [ph_cb]
  intro e
  have h1 : ph p x ≠ 0 := fun e => h0 ((ph_eq0 hx).1 e)
  have e2 : ph p x * (ph p x * ph p x + 1) = 0 := by grind
  have e3 := (fp_mul F.prm e2).resolve_left h1
  exact F.nosq (ph p x) (by grind)
def Qp (p x : Nat) : P3 := if sq p (cb p x) = true then (x, rb p (cb p x), false) else (p - x, mi p 0 (rb p (cb p (p - x))), false)
theorem sq_or (F : Fd p) {x : Nat} (hx : x < p) (h0 : x ≠ 0) (h : ¬ sq p (cb p x) = true) : sq p (cb p (p - x)) = true := by
  have hc := cb_ne F hx h0
  have hne : cb p x ≠ 0 := fun e => hc (by rw [e]; rfl)
  have e1 := (rb_sq F (cb_lt F.pr) hne).resolve_left (fun e => h ((sq_iff F.pr (cb_lt F.pr)).2 e))
  have hc2 := cb_ne F (x := p - x) (by omega) (by omega)
  have hne2 : cb p (p - x) ≠ 0 := fun e => hc2 (by rw [e]; rfl)
  have ec : ph p (cb p (p - x)) = - ph p (cb p x) := by
    rw [ph_cb, ph_cb, ph_sub (Nat.le_of_lt hx)]
    grind
  rcases rb_sq F (c := cb p (p - x)) (cb_lt F.pr) hne2 with e | e
  · exact (sq_iff F.pr (cb_lt F.pr)).2 e
  · exfalso
    rw [ec] at e
    have : ph p (rb p (cb p x)) * ph p (rb p (cb p x)) + ph p (rb p (cb p (p - x))) * ph p (rb p (cb p (p - x))) = 0 := by rw [e1, e]; grind
    have := F.sum0 this
    rw [this] at e
    exact hc (by grind)
theorem rb_ne (F : Fd p) {x : Nat} (hx : x < p) (h0 : x ≠ 0) (h : sq p (cb p x) = true) : ph p (rb p (cb p x)) ≠ 0 := fun e => by
  have := (sq_iff F.pr (cb_lt F.pr)).1 h
  rw [e] at this
  exact cb_ne F hx h0 (by grind)
theorem Qp_on (F : Fd p) {x : Nat} (hx : x < p) (h0 : x ≠ 0) : On p (Qp p x) := by
  unfold Qp
  split
  · rename_i h
    refine ⟨⟨hx, pw_lt F.pr⟩, fun h => (by cases h), fun _ => ?_⟩
    simp only
    rw [(sq_iff F.pr (cb_lt F.pr)).1 h, ph_cb]
  · rename_i h
    have h' := sq_or F hx h0 h
    refine ⟨⟨by show p - x < p; omega, mi_lt F.pr⟩, fun h => (by cases h), fun _ => ?_⟩
    simp only
    rw [ph_mi0 _ (rb_lt F.pr), ← ph_cb, ← (sq_iff F.pr (cb_lt F.pr)).1 h']
    grind
theorem Qp_y (F : Fd p) {x : Nat} (hx : x < p) (h0 : x ≠ 0) : ph p (Qp p x).2.1 ≠ 0 := by
  unfold Qp
  split
  · rename_i h
    exact rb_ne F hx h0 h
  · rename_i h
    have h' := sq_or F hx h0 h
    simp only
    rw [ph_mi0 _ (rb_lt F.pr)]
    intro e
    exact rb_ne F (x := p - x) (by omega) (by omega) h' (by grind)
theorem Qp_inj (F : Fd p) {x y : Nat} (hx : x < p) (h0 : x ≠ 0) (hy : y < p) (h1 : y ≠ 0) (e : Qp p x = Qp p y) : x = y := by
  have key : ∀ {x y : Nat}, x < p → x ≠ 0 → y < p → y ≠ 0 → sq p (cb p x) = true → ((x, rb p (cb p x), false) : P3) = (p - y, mi p 0 (rb p (cb p (p - y))), false) → False := fun {x y} hx h0 hy h1 h e => by
    injection e with e1 e2
    injection e2 with e2 _
    rw [← e1] at e2
    have e3 := congrArg (ph p) e2
    rw [ph_mi0 _ (rb_lt F.pr)] at e3
    have e4 : (2 : Fin p) * ph p (rb p (cb p x)) = 0 := by grind
    exact rb_ne F hx h0 h ((fp_mul F.prm e4).resolve_left F.two)
  unfold Qp at e
  split at e
  · rename_i h
    split at e
    · injection e
    · exact (key hx h0 hy h1 h e).elim
  · rename_i h
    split at e
    · rename_i h'
      exact (key hy h1 hx h0 h' e.symm).elim
    · injection e with e1 _
      omega
theorem Qp_all (F : Fd p) {a : P3} (ha : On p a) (hz : a.2.2 = false) (hy : ph p a.2.1 ≠ 0) : ∃ x, x < p ∧ x ≠ 0 ∧ Qp p x = a := by
  have hc := ha.cv hz
  have hx := ha.lt.x
  have h0 : a.1 ≠ 0 := fun e => by
    rw [e, ph_zero] at hc
    exact fp_ne F.prm hy hy (by grind)
  have hcb : ph p (cb p a.1) = ph p a.2.1 * ph p a.2.1 := by rw [ph_cb, hc]
  have hne : cb p a.1 ≠ 0 := fun e => cb_ne F hx h0 (by rw [e]; rfl)
  have hs : sq p (cb p a.1) = true := by
    refine (sq_iff F.pr (cb_lt F.pr)).2 ((rb_sq F (cb_lt F.pr) hne).resolve_right fun e => ?_)
    have : ph p (rb p (cb p a.1)) * ph p (rb p (cb p a.1)) + ph p a.2.1 * ph p a.2.1 = 0 := by rw [e, hcb]; grind
    exact hy (F.sum0 this)
  have hr := (sq_iff F.pr (cb_lt F.pr)).1 hs
  have hf : (ph p (rb p (cb p a.1)) - ph p a.2.1) * (ph p (rb p (cb p a.1)) + ph p a.2.1) = 0 := by rw [hcb] at hr; grind
  rcases fp_mul F.prm hf with e | e
  · refine ⟨a.1, hx, h0, ?_⟩
    unfold Qp
    rw [if_pos hs]
    exact p3_eq rfl (ph_inj (pw_lt F.pr) ha.lt.y (by grind)) hz.symm
  · refine ⟨p - a.1, by omega, by omega, ?_⟩
    have hn : ¬ sq p (cb p (p - a.1)) = true := fun h => by
      have h2 := (sq_iff F.pr (cb_lt F.pr)).1 h
      rw [ph_cb, ph_sub (Nat.le_of_lt hx)] at h2
      have : ph p (rb p (cb p (p - a.1))) * ph p (rb p (cb p (p - a.1))) + ph p a.2.1 * ph p a.2.1 = 0 := by rw [h2, hc]; grind
      exact hy (F.sum0 this)
    unfold Qp
    rw [if_neg hn, show p - (p - a.1) = a.1 by omega]
    refine p3_eq rfl (ph_inj (mi_lt F.pr) ha.lt.y ?_) hz.symm
    simp only
    rw [ph_mi0 _ (rb_lt F.pr)]
    grind
/-- All points. -/
def allP (p : Nat) : List P3 := (0, 0, true) :: (0, 0, false) :: (List.range (p - 1)).map (fun i => Qp p (i + 1))
theorem on_00 (hp : Pr p) : On p (0, 0, false) := ⟨⟨zero_lt hp, zero_lt hp⟩, fun h => (by cases h), fun _ => by simp only [ph_zero]; grind⟩
theorem p_plus (F : Fd p) {a : P3} (ha : On p a) : dN p a (p + 1) = (0, 0, true) := by
  have hlo := F.pr.lo
  have hlen : (allP p).length = p + 1 := by
    unfold allP
    simp
    omega
  rw [← hlen]
  refine order_of F (allP p) ?_ ?_ ?_ ha
  · unfold allP
    refine List.nodup_cons.2 ⟨fun h => ?_, List.nodup_cons.2 ⟨fun h => ?_, ?_⟩⟩
    · rcases List.mem_cons.1 h with h | h
      · cases h
      · obtain ⟨i, hi, e⟩ := List.mem_map.1 h
        have hq := Qp_y F (x := i + 1) (by have := List.mem_range.1 hi; omega) (by omega)
        rw [e] at hq
        exact hq rfl
    · obtain ⟨i, hi, e⟩ := List.mem_map.1 h
      have hq := Qp_y F (x := i + 1) (by have := List.mem_range.1 hi; omega) (by omega)
      rw [e] at hq
      exact hq rfl
    · unfold List.Nodup
      rw [List.pairwise_map]
      refine List.Pairwise.imp_of_mem (fun {x y} hx hy hne => ?_) List.nodup_range
      have h1 := List.mem_range.1 hx
      have h2 := List.mem_range.1 hy
      exact fun e => hne (by have := Qp_inj F (x := x + 1) (y := y + 1) (by omega) (by omega) (by omega) (by omega) e; omega)
  · intro x hx
    unfold allP at hx
    rcases List.mem_cons.1 hx with rfl | hx
    · exact on_zero' F.pr
    · rcases List.mem_cons.1 hx with rfl | hx
      · exact on_00 F.pr
      · obtain ⟨i, hi, rfl⟩ := List.mem_map.1 hx
        exact Qp_on F (by have := List.mem_range.1 hi; omega) (by omega)
  · intro x hx
    unfold allP
    by_cases hz : x.2.2 = true
    · rw [hx.zr hz]
      exact List.mem_cons_self ..
    · have hz : x.2.2 = false := by simpa using hz
      refine List.mem_cons_of_mem _ ?_
      by_cases hy : ph p x.2.1 = 0
      · have e2 := (ph_eq0 hx.lt.y).1 hy
        have e1 : x.1 = 0 := Decidable.byContradiction fun h0 => by
          have hc := hx.cv hz
          rw [hy, ← ph_cb] at hc
          exact cb_ne F hx.lt.x h0 (by grind)
        rw [show x = (0, 0, false) from p3_eq e1 e2 hz]
        exact List.mem_cons_self ..
      · obtain ⟨i, h1, h2, rfl⟩ := Qp_all F hx hz hy
        refine List.mem_cons_of_mem _ (List.mem_map.2 ⟨i - 1, List.mem_range.2 (by omega), ?_⟩)
        rw [show i - 1 + 1 = i by omega]
end
end Rg
end Go.Proofs.Ytjmbgchoioepjaa
end
section
namespace Go.Proofs.Ytjmbgchoioepjaa
open Go.RowKit
namespace Rg
open NT
theorem ig_of {p r X Y : Nat} {Z : Bool} (h : ig p r X Y Z = true) : oc p X Y Z = true := by
  unfold ig at h
  simp only [Bool.and_eq_true] at h
  exact h.1
theorem call35 : ∀ args w, (callFunc 35 args).run Try.prog w = .ok (.enter 35 args) w := by intro args w; go_simp
theorem call36 : ∀ args w, (callFunc 36 args).run Try.prog w = .ok (.enter 36 args) w := by intro args w; go_simp
theorem call39 : ∀ args w, (callFunc 39 args).run Try.prog w = .ok (.enter 39 args) w := by intro args w; go_simp
section
variable {s : Int} {p r c gx gy : Nat}
/-- A suite in which p + 1 is c times r. -/
structure Kc (s : Int) (p r c gx gy : Nat) : Prop where
  f : Kf s p r c gx gy
  cr : c * r = p + 1
theorem In_is (k : Kd s p r c gx gy) (X Y : Nat) (Z t : Bool) (h : ig p r X Y Z = t) (w : World) : Calls Try.prog 20 #[.int .i64 s, .agg (pt X Y Z).toArray] w fun e w' => e = .returned (.bool t) ∧ Below w.heap.size w w' := by
  rw [← h]
  exact In_ok k X Y Z w
/-- What is cleared is of the group. -/
theorem clear_in (k : Kc s p r c gx gy) {X Y : Nat} {Z : Bool} (h : oc p X Y Z = true) : ig p r (dM p (X, Y, Z) c).1 (dM p (X, Y, Z) c).2.1 (dM p (X, Y, Z) c).2.2 = true := by
  have := k.f.q.ne
  have F := k.f.fd
  have ha := on_of F.pr h
  have hd := dM_dN F ha c k.f.q.k.cb
  have hc := dN_on F ha c
  rw [ig_is F.pr F.prm, hd]
  unfold di
  rw [oc_of F.pr hc, Bool.true_and]
  have e : dM p (dN p (X, Y, Z) c) r = (0, 0, true) := by rw [dM_dN F hc r k.f.q.k.rb, dN_mul F ha, k.cr, p_plus F ha]
  have e2 : ((dN p (X, Y, Z) c).1, (dN p (X, Y, Z) c).2.1, (dN p (X, Y, Z) c).2.2) = dN p (X, Y, Z) c := rfl
  rw [e2, e]
set_option maxHeartbeats 2000000 in
set_option maxRecDepth 100000 in
theorem back_ffe (w : World) (k : Kc s p r c gx gy) [NeZero p] (X Y : Nat) (Z : Bool) (ho : oc p X Y Z = false) (hi : ig p r X Y Z = false) (q : Option Addr) (n cp : Nat) (hn : n ≤ 100) (er : Int) (her : er ≠ 0) (cr : ∀ u, Below w.heap.size w u → Calls Try.prog 36 #[.int .i64 s, .slice q n cp] u fun e w' => e = .returned (.tuple #[V (pt 0 0 false), .int .i64 er]) ∧ Below u.heap.size u w') :
    Calls Try.prog 8 #[.int .i64 s, .agg (pt X Y Z).toArray, .slice q n cp] w fun e w' => e = .returned (.bool true) ∧ Below w.heap.size w w' := by
  have H0 : Hid (_ ∧ _) := ⟨Mm.nil w, Below.refl w.heap.size w⟩
  have CR : Hid _ := cr
  clear cr
  go_enter Try.func8, Try.ntmps8
  refine wp_seq ?_
  refine walk_seqA 2 [.made (pt X Y Z) 25, .quiet (.bool false)] (sB H0) ?ho1 ?he1
  case ho1 => exact ak (fun γ => ⟨rfl, fun w' => ex_boxT rfl rfl⟩) (ak (fun _ => ⟨rfl, fun _ _ => rfl⟩) trivial)
  intro γ w1 l hM hl
  have H1 : Hid (Mm w1 [(γ 0, pt X Y Z)] ∧ _) := growB H0 hM (Nat.le_refl _) hl [0] rfl (by decide)
  have o1_0 := ownB H0 hM (Nat.le_refl _) hl (i := 0) rfl
  clear hM hl l
  generalize γ 0 = γ1_0 at H1 o1_0 ⊢
  clear γ
  refine rest0 rfl (then_normal (wp_seq ?_))
  refine walk_seqB 2 [.call (.bool true), .quiet (.bool true)] H1 ?ho2 ?he2
  case ho2 => exact ak (fun γ => ⟨rfl, fun w' h => ⟨41, #[], exec_call rfl call41 rfl (mpn rfl), awake_any w'⟩⟩) (ak (fun _ => ⟨rfl, fun _ _ => rfl⟩) trivial)
  intro _ w2 H2
  clear H1
  refine rest0 rfl (then_normal (wp_seq (wp_seq ?_)))
  refine walk_seqB 3 [.quiet (.slice q n cp), .quiet (.int .i64 ((n : Nat) : Int)), .quiet (.bool false)] H2 ?ho3 ?he3
  case ho3 => exact ak (fun _ => ⟨rfl, fun _ _ => rfl⟩) (ak (by refine fun γ => ⟨rfl, fun w' h => ?_⟩; clear h; go_simp) (ak (by refine fun γ => ⟨rfl, fun w' h => ?_⟩; clear h; go_simp <;> omega) trivial))
  intro _ w3 H3
  clear H2
  refine rest0 rfl (then_normal (wp_cond_false rfl ?_))
  refine wp_skip (then_normal ?_)
  refine wp_seq (wp_seq ?_)
  refine walk_seqB 3 [.quiet (.int .i64 s), .quiet (.agg (pt X Y Z).toArray), .call (.bool false)] H3 ?ho4 ?he4
  case ho4 => exact ak (fun _ => ⟨rfl, fun _ _ => rfl⟩) (ak (fun γ => ⟨rfl, fun w' h => ex_loadT h 0 rfl rfl rfl Try.isAgg25 Try.sizeOf25 rfl rfl⟩) (ak (fun γ => ⟨rfl, fun w' h => ⟨20, #[.int .i64 s, .agg (pt X Y Z).toArray], exec_call rfl call20 rfl (mpn rfl), In_is k.f.q.k X Y Z _ hi w'⟩⟩) trivial))
  intro _ w4 H4
  clear H3
  refine rest0 rfl (then_normal (wp_cond_false rfl ?_))
  refine wp_skip (then_normal ?_)
  refine wp_seq (wp_seq ?_)
  refine walk_seqB 3 [.quiet (.int .i64 s), .quiet (.agg (pt X Y Z).toArray), .call (.bool false)] H4 ?ho5 ?he5
  case ho5 => exact ak (fun _ => ⟨rfl, fun _ _ => rfl⟩) (ak (fun γ => ⟨rfl, fun w' h => ex_loadT h 0 rfl rfl rfl Try.isAgg25 Try.sizeOf25 rfl rfl⟩) (ak (fun γ => ⟨rfl, fun w' h => ⟨19, #[.int .i64 s, .agg (pt X Y Z).toArray], exec_call rfl call19 rfl (mpn rfl), Check_is k.f.q X Y Z _ ho w'⟩⟩) trivial))
  intro _ w5 H5
  clear H4
  refine rest0 rfl (then_normal (wp_cond_false rfl ?_))
  refine wp_skip (then_normal (wp_seq ?_))
  refine (walk_seq) 9 [.quiet (.int .i64 s), .quiet (.slice q n cp), .call (.tuple #[.agg (pt 0 0 false).toArray, .int .i64 er]), .quiet (.tuple #[.agg (pt 0 0 false).toArray, .int .i64 er]), .quiet (.agg (pt 0 0 false).toArray), .quiet (.int .i64 er), .made (pt 0 0 false) 25, .laid 6 (pt 0 0 false) (pt 0 0 false), .quiet (.int .i64 er)] (fun u' => Mm u' [(γ1_0, pt X Y Z)] ∧ Below w.heap.size w u') ?pre6 ?F6 ?hpre6 (fun γ => ?hF6) (by kernel_rfl) ?hL6 ?hS6 ?ho6 ?he6
  case hpre6 => simp only [tk, tz]; rfl
  case hF6 => simp only [fill, Kind.val, Act.put, sa, sz, ss]; rfl
  case hL6 => exact ⟨⟨_, rfl⟩, trivial⟩
  case hS6 => exact fun w' hb => ⟨H5.out.1.below hb, H5.out.2.trans (hb.mono H5.out.2.size)⟩
  case ho6 =>
    refine ak (fun _ => ⟨rfl, fun _ _ => rfl⟩) ?_
    refine ak (fun _ => ⟨rfl, fun _ _ => rfl⟩) ?_
    refine ak (fun γ => ⟨rfl, fun w' hX => ⟨36, #[.int .i64 s, .slice q n cp], exec_call rfl call36 rfl (mpn rfl), CR.out w' hX.2⟩⟩) ?_
    refine ak (fun _ => ⟨rfl, fun _ _ => rfl⟩) ?_
    refine ak (by refine fun γ => ⟨rfl, fun w' h => ?_⟩; clear h; go_simp) ?_
    refine ak (by refine fun γ => ⟨rfl, fun w' h => ?_⟩; clear h; go_simp) ?_
    refine ak (fun γ => ⟨rfl, fun w' => ex_made25 rfl⟩) ?_
    refine ak (fun γ => ⟨rfl, rfl, rfl, fun w' h => ex_laidT h rfl rfl Try.sizeOf25 rfl rfl rfl⟩) ?_
    refine ak (fun _ => ⟨rfl, fun _ _ => rfl⟩) ?_
    exact trivial
  intro γ w6 l hM hl
  have H6 : Hid (Mm w6 [(γ 6, pt 0 0 false), (γ1_0, pt X Y Z)] ∧ _) := growB H5 hM (Nat.le_refl _) hl [6] rfl (by decide)
  have o6_6 := ownB H5 hM (Nat.le_refl _) hl (i := 6) rfl
  clear hM hl l H5
  generalize γ 6 = γ6_6 at H6 o6_6 ⊢
  clear γ
  refine rest0 rfl (then_normal (wp_seq ?_))
  refine walk_seqA 3 [.quiet (.int .i64 s), .quiet (.agg (pt 0 0 false).toArray), .born (fun g => .tuple #[.slice (some ⟨g, 0, none⟩) 17 17, .int .i64 0]) (by8 (pb 0 0 false) 17)] (sB H6) ?ho7 ?he7
  case ho7 => exact ak (fun _ => ⟨rfl, fun _ _ => rfl⟩) (ak (fun γ => ⟨rfl, fun w' h => ex_loadT h 0 rfl rfl rfl Try.isAgg25 Try.sizeOf25 rfl rfl⟩) (ak (fun γ => ⟨rfl, fun w' h => ⟨35, #[.int .i64 s, .agg (pt 0 0 false).toArray], exec_call rfl call35 rfl (mpn rfl), Bytes_ok k.f.q.k 0 0 false (oc_of k.f.q.k.pr (on_00 k.f.q.k.pr)) w'⟩⟩) trivial))
  intro γ w7 l hM hl
  have H7 : Hid (Mm w7 [(γ 2, by8 (pb 0 0 false) 17), (γ6_6, pt 0 0 false), (γ1_0, pt X Y Z)] ∧ _) := growB H6 hM (Nat.le_refl _) hl [2] rfl (by decide)
  have o7_2 := ownB H6 hM (Nat.le_refl _) hl (i := 2) rfl
  clear hM hl l H6
  generalize γ 2 = γ7_2 at H7 o7_2 ⊢
  clear γ
  refine rest_at (l := [3, 4, 5, 6, 7]) rfl ?_
  refine rest_set (d := 77) rfl rfl rfl rfl ?_
  simp only [Act.put, sa, sz, ss]
  refine rest_set (d := 81) (v := .slice (some ⟨γ7_2, 0, none⟩) 17 17) (w' := w7) rfl rfl rfl (by go_simp) ?_
  simp only [Act.put, sa, sz, ss]
  refine rest_set (d := 82) (v := .int .i64 0) (w' := w7) rfl rfl rfl (by go_simp) ?_
  simp only [Act.put, sa, sz, ss]
  refine rest_set (d := 16) rfl rfl rfl rfl ?_
  simp only [Act.put, sa, sz, ss]
  refine rest_set (d := 17) rfl rfl rfl rfl ?_
  simp only [Act.put, sa, sz, ss]
  refine rest_nil (then_normal (wp_seq ?_))
  refine walk_seqB 20 [.quiet (.bool true), .quiet (.bool true), .quiet (.int .i64 er), .quiet (.bool true), .quiet (.bool true), .gone, .gone, .gone, .gone, .gone, .gone, .gone, .gone, .gone, .gone, .gone, .gone, .quiet (.bool true), .quiet (.bool true), .quiet (.bool true)] H7 ?ho8 ?he8
  case ho8 => exact ak (fun _ => ⟨rfl, fun _ _ => rfl⟩) (ak (fun _ => ⟨rfl, fun _ _ => rfl⟩) (ak (fun _ => ⟨rfl, fun _ _ => rfl⟩) (ak (by refine fun γ => ⟨rfl, fun w' h => ?_⟩; clear h; go_simp) (ak (fun _ => ⟨rfl, fun _ _ => rfl⟩) (ak (fun γ => rfl) (ak (fun γ => rfl) (ak (fun γ => rfl) (ak (fun γ => rfl) (ak (fun γ => rfl) (ak (fun γ => rfl) (ak (fun γ => rfl) (ak (fun γ => rfl) (ak (fun γ => rfl) (ak (fun γ => rfl) (ak (fun γ => rfl) (ak (fun γ => rfl) (ak (by refine fun γ => ⟨rfl, fun w' h => ?_⟩; clear h; go_simp) (ak (by refine fun γ => ⟨rfl, fun w' h => ?_⟩; clear h; go_simp) (ak (fun _ => ⟨rfl, fun _ _ => rfl⟩) trivial)))))))))))))))))))
  intro _ w8 H8
  clear H7
  refine rest0 rfl (then_normal (wp_ret ?_))
  repeat (first | refine then_ret ?_ | refine block_ret ?_)
  refine bodyPost_ret (v := .bool true) (by simp [results, Try.results8, go_sem, *]) rfl ?_
  exact ⟨rfl, H8.out.2⟩
set_option maxHeartbeats 2000000 in
set_option maxRecDepth 100000 in
theorem back_ffo (w : World) (k : Kc s p r c gx gy) [NeZero p] (X Y : Nat) (Z : Bool) (ho : oc p X Y Z = false) (hi : ig p r X Y Z = false) (q : Option Addr) (n cp : Nat) (hn : n ≤ 100) (X' Y' : Nat) (Z' : Bool) (hi2 : ig p r X' Y' Z' = true) (cr : ∀ u, Below w.heap.size w u → Calls Try.prog 36 #[.int .i64 s, .slice q n cp] u fun e w' => e = .returned (.tuple #[V (pt X' Y' Z'), .int .i64 0]) ∧ Below u.heap.size u w') (cs : ∀ g u, Below w.heap.size w u → Mm u [(g, by8 (pb X' Y' Z') 17)] → Calls Try.prog 39 #[.slice (some ⟨g, 0, none⟩) 17 17, .slice q n cp] u fun e w' => e = .returned (.bool true) ∧ Below u.heap.size u w') :
    Calls Try.prog 8 #[.int .i64 s, .agg (pt X Y Z).toArray, .slice q n cp] w fun e w' => e = .returned (.bool true) ∧ Below w.heap.size w w' := by
  have H0 : Hid (_ ∧ _) := ⟨Mm.nil w, Below.refl w.heap.size w⟩
  have CR : Hid _ := cr
  clear cr
  have CS : Hid _ := cs
  clear cs
  go_enter Try.func8, Try.ntmps8
  refine wp_seq ?_
  refine walk_seqA 2 [.made (pt X Y Z) 25, .quiet (.bool false)] (sB H0) ?ho1 ?he1
  case ho1 => exact ak (fun γ => ⟨rfl, fun w' => ex_boxT rfl rfl⟩) (ak (fun _ => ⟨rfl, fun _ _ => rfl⟩) trivial)
  intro γ w1 l hM hl
  have H1 : Hid (Mm w1 [(γ 0, pt X Y Z)] ∧ _) := growB H0 hM (Nat.le_refl _) hl [0] rfl (by decide)
  have o1_0 := ownB H0 hM (Nat.le_refl _) hl (i := 0) rfl
  clear hM hl l
  generalize γ 0 = γ1_0 at H1 o1_0 ⊢
  clear γ
  refine rest0 rfl (then_normal (wp_seq ?_))
  refine walk_seqB 2 [.call (.bool true), .quiet (.bool true)] H1 ?ho2 ?he2
  case ho2 => exact ak (fun γ => ⟨rfl, fun w' h => ⟨41, #[], exec_call rfl call41 rfl (mpn rfl), awake_any w'⟩⟩) (ak (fun _ => ⟨rfl, fun _ _ => rfl⟩) trivial)
  intro _ w2 H2
  clear H1
  refine rest0 rfl (then_normal (wp_seq (wp_seq ?_)))
  refine walk_seqB 3 [.quiet (.slice q n cp), .quiet (.int .i64 ((n : Nat) : Int)), .quiet (.bool false)] H2 ?ho3 ?he3
  case ho3 => exact ak (fun _ => ⟨rfl, fun _ _ => rfl⟩) (ak (by refine fun γ => ⟨rfl, fun w' h => ?_⟩; clear h; go_simp) (ak (by refine fun γ => ⟨rfl, fun w' h => ?_⟩; clear h; go_simp <;> omega) trivial))
  intro _ w3 H3
  clear H2
  refine rest0 rfl (then_normal (wp_cond_false rfl ?_))
  refine wp_skip (then_normal ?_)
  refine wp_seq (wp_seq ?_)
  refine walk_seqB 3 [.quiet (.int .i64 s), .quiet (.agg (pt X Y Z).toArray), .call (.bool false)] H3 ?ho4 ?he4
  case ho4 => exact ak (fun _ => ⟨rfl, fun _ _ => rfl⟩) (ak (fun γ => ⟨rfl, fun w' h => ex_loadT h 0 rfl rfl rfl Try.isAgg25 Try.sizeOf25 rfl rfl⟩) (ak (fun γ => ⟨rfl, fun w' h => ⟨20, #[.int .i64 s, .agg (pt X Y Z).toArray], exec_call rfl call20 rfl (mpn rfl), In_is k.f.q.k X Y Z _ hi w'⟩⟩) trivial))
  intro _ w4 H4
  clear H3
  refine rest0 rfl (then_normal (wp_cond_false rfl ?_))
  refine wp_skip (then_normal ?_)
  refine wp_seq (wp_seq ?_)
  refine walk_seqB 3 [.quiet (.int .i64 s), .quiet (.agg (pt X Y Z).toArray), .call (.bool false)] H4 ?ho5 ?he5
  case ho5 => exact ak (fun _ => ⟨rfl, fun _ _ => rfl⟩) (ak (fun γ => ⟨rfl, fun w' h => ex_loadT h 0 rfl rfl rfl Try.isAgg25 Try.sizeOf25 rfl rfl⟩) (ak (fun γ => ⟨rfl, fun w' h => ⟨19, #[.int .i64 s, .agg (pt X Y Z).toArray], exec_call rfl call19 rfl (mpn rfl), Check_is k.f.q X Y Z _ ho w'⟩⟩) trivial))
  intro _ w5 H5
  clear H4
  refine rest0 rfl (then_normal (wp_cond_false rfl ?_))
  refine wp_skip (then_normal (wp_seq ?_))
  refine (walk_seq) 9 [.quiet (.int .i64 s), .quiet (.slice q n cp), .call (.tuple #[.agg (pt X' Y' Z').toArray, .int .i64 0]), .quiet (.tuple #[.agg (pt X' Y' Z').toArray, .int .i64 0]), .quiet (.agg (pt X' Y' Z').toArray), .quiet (.int .i64 0), .made (pt 0 0 false) 25, .laid 6 (pt 0 0 false) (pt X' Y' Z'), .quiet (.int .i64 0)] (fun u' => Mm u' [(γ1_0, pt X Y Z)] ∧ Below w.heap.size w u') ?pre6 ?F6 ?hpre6 (fun γ => ?hF6) (by kernel_rfl) ?hL6 ?hS6 ?ho6 ?he6
  case hpre6 => simp only [tk, tz]; rfl
  case hF6 => simp only [fill, Kind.val, Act.put, sa, sz, ss]; rfl
  case hL6 => exact ⟨⟨_, rfl⟩, trivial⟩
  case hS6 => exact fun w' hb => ⟨H5.out.1.below hb, H5.out.2.trans (hb.mono H5.out.2.size)⟩
  case ho6 =>
    refine ak (fun _ => ⟨rfl, fun _ _ => rfl⟩) ?_
    refine ak (fun _ => ⟨rfl, fun _ _ => rfl⟩) ?_
    refine ak (fun γ => ⟨rfl, fun w' hX => ⟨36, #[.int .i64 s, .slice q n cp], exec_call rfl call36 rfl (mpn rfl), CR.out w' hX.2⟩⟩) ?_
    refine ak (fun _ => ⟨rfl, fun _ _ => rfl⟩) ?_
    refine ak (by refine fun γ => ⟨rfl, fun w' h => ?_⟩; clear h; go_simp) ?_
    refine ak (by refine fun γ => ⟨rfl, fun w' h => ?_⟩; clear h; go_simp) ?_
    refine ak (fun γ => ⟨rfl, fun w' => ex_made25 rfl⟩) ?_
    refine ak (fun γ => ⟨rfl, rfl, rfl, fun w' h => ex_laidT h rfl rfl Try.sizeOf25 rfl rfl rfl⟩) ?_
    refine ak (fun _ => ⟨rfl, fun _ _ => rfl⟩) ?_
    exact trivial
  intro γ w6 l hM hl
  have H6 : Hid (Mm w6 [(γ 6, pt X' Y' Z'), (γ1_0, pt X Y Z)] ∧ _) := growB H5 hM (Nat.le_refl _) hl [6] rfl (by decide)
  have o6_6 := ownB H5 hM (Nat.le_refl _) hl (i := 6) rfl
  clear hM hl l H5
  generalize γ 6 = γ6_6 at H6 o6_6 ⊢
  clear γ
  refine rest0 rfl (then_normal (wp_seq ?_))
  refine walk_seqA 3 [.quiet (.int .i64 s), .quiet (.agg (pt X' Y' Z').toArray), .born (fun g => .tuple #[.slice (some ⟨g, 0, none⟩) 17 17, .int .i64 0]) (by8 (pb X' Y' Z') 17)] (sB H6) ?ho7 ?he7
  case ho7 => exact ak (fun _ => ⟨rfl, fun _ _ => rfl⟩) (ak (fun γ => ⟨rfl, fun w' h => ex_loadT h 0 rfl rfl rfl Try.isAgg25 Try.sizeOf25 rfl rfl⟩) (ak (fun γ => ⟨rfl, fun w' h => ⟨35, #[.int .i64 s, .agg (pt X' Y' Z').toArray], exec_call rfl call35 rfl (mpn rfl), Bytes_ok k.f.q.k X' Y' Z' (ig_of hi2) w'⟩⟩) trivial))
  intro γ w7 l hM hl
  have H7 : Hid (Mm w7 [(γ 2, by8 (pb X' Y' Z') 17), (γ6_6, pt X' Y' Z'), (γ1_0, pt X Y Z)] ∧ _) := growB H6 hM (Nat.le_refl _) hl [2] rfl (by decide)
  have o7_2 := ownB H6 hM (Nat.le_refl _) hl (i := 2) rfl
  clear hM hl l H6
  generalize γ 2 = γ7_2 at H7 o7_2 ⊢
  clear γ
  refine rest_at (l := [3, 4, 5, 6, 7]) rfl ?_
  refine rest_set (d := 77) rfl rfl rfl rfl ?_
  simp only [Act.put, sa, sz, ss]
  refine rest_set (d := 81) (v := .slice (some ⟨γ7_2, 0, none⟩) 17 17) (w' := w7) rfl rfl rfl (by go_simp) ?_
  simp only [Act.put, sa, sz, ss]
  refine rest_set (d := 82) (v := .int .i64 0) (w' := w7) rfl rfl rfl (by go_simp) ?_
  simp only [Act.put, sa, sz, ss]
  refine rest_set (d := 16) rfl rfl rfl rfl ?_
  simp only [Act.put, sa, sz, ss]
  refine rest_set (d := 17) rfl rfl rfl rfl ?_
  simp only [Act.put, sa, sz, ss]
  refine rest_nil (then_normal (wp_seq ?_))
  refine (walk_seq) 20 [.quiet (.bool true), .quiet (.bool true), .quiet (.int .i64 0), .quiet (.bool false), .quiet (.bool false), .quiet (.int .i64 0), .quiet (.bool true), .quiet (.bool true), .quiet (.slice (some ⟨γ7_2, 0, none⟩) 17 17), .quiet (.slice q n cp), .call (.bool true), .quiet (.bool true), .quiet (.bool true), .quiet (.int .i64 s), .quiet (.agg (pt X' Y' Z').toArray), .call (.bool true), .quiet (.bool true), .quiet (.bool true), .quiet (.bool true), .quiet (.bool true)] (fun u' => Mm u' [(γ7_2, by8 (pb X' Y' Z') 17), (γ6_6, pt X' Y' Z'), (γ1_0, pt X Y Z)] ∧ Below w.heap.size w u') ?pre8 ?F8 ?hpre8 (fun γ => ?hF8) (by kernel_rfl) ?hL8 ?hS8 ?ho8 ?he8
  case hpre8 => simp only [tk, tz]; rfl
  case hF8 => simp only [fill, Kind.val, Act.put, sa, sz, ss]; rfl
  case hL8 => exact trivial
  case hS8 => exact fun w' hb => ⟨H7.out.1.below hb, H7.out.2.trans (hb.mono H7.out.2.size)⟩
  case ho8 =>
    refine ak (fun _ => ⟨rfl, fun _ _ => rfl⟩) ?_
    refine ak (fun _ => ⟨rfl, fun _ _ => rfl⟩) ?_
    refine ak (fun _ => ⟨rfl, fun _ _ => rfl⟩) ?_
    refine ak (by refine fun γ => ⟨rfl, fun w' h => ?_⟩; clear h; go_simp) ?_
    refine ak (fun _ => ⟨rfl, fun _ _ => rfl⟩) ?_
    refine ak (fun _ => ⟨rfl, fun _ _ => rfl⟩) ?_
    refine ak (by refine fun γ => ⟨rfl, fun w' h => ?_⟩; clear h; go_simp) ?_
    refine ak (fun _ => ⟨rfl, fun _ _ => rfl⟩) ?_
    refine ak (fun _ => ⟨rfl, fun _ _ => rfl⟩) ?_
    refine ak (fun _ => ⟨rfl, fun _ _ => rfl⟩) ?_
    refine ak (fun γ => ⟨rfl, fun w' hX => have h := hX.1; ⟨39, #[.slice (some ⟨γ7_2, 0, none⟩) 17 17, .slice q n cp], exec_call rfl call39 rfl (mpn rfl), CS.out γ7_2 w' hX.2 (h.one 0 rfl)⟩⟩) ?_
    refine ak (by refine fun γ => ⟨rfl, fun w' h => ?_⟩; clear h; go_simp) ?_
    refine ak (fun _ => ⟨rfl, fun _ _ => rfl⟩) ?_
    refine ak (fun _ => ⟨rfl, fun _ _ => rfl⟩) ?_
    refine ak (fun γ => ⟨rfl, fun w' hX => have h := hX.1; ex_loadT h 1 rfl rfl rfl Try.isAgg25 Try.sizeOf25 rfl rfl⟩) ?_
    refine ak (fun γ => ⟨rfl, fun w' hX => ⟨20, #[.int .i64 s, .agg (pt X' Y' Z').toArray], exec_call rfl call20 rfl (mpn rfl), In_is k.f.q.k X' Y' Z' _ hi2 w'⟩⟩) ?_
    refine ak (by refine fun γ => ⟨rfl, fun w' h => ?_⟩; clear h; go_simp) ?_
    refine ak (by refine fun γ => ⟨rfl, fun w' h => ?_⟩; clear h; go_simp) ?_
    refine ak (by refine fun γ => ⟨rfl, fun w' h => ?_⟩; clear h; go_simp) ?_
    refine ak (fun _ => ⟨rfl, fun _ _ => rfl⟩) ?_
    exact trivial
  intro γ w8 l hM hl
  have H8 := keepB H7 hM.below
  clear hM hl l H7 γ
  refine rest0 rfl (then_normal (wp_ret ?_))
  repeat (first | refine then_ret ?_ | refine block_ret ?_)
  refine bodyPost_ret (v := .bool true) (by simp [results, Try.results8, go_sem, *]) rfl ?_
  exact ⟨rfl, H8.out.2⟩
set_option maxHeartbeats 2000000 in
set_option maxRecDepth 100000 in
theorem back_tfe (w : World) (k : Kc s p r c gx gy) [NeZero p] (X Y : Nat) (Z : Bool) (ho : oc p X Y Z = true) (hi : ig p r X Y Z = false) (q : Option Addr) (n cp : Nat) (hn : n ≤ 100) (er : Int) (her : er ≠ 0) (cr : ∀ u, Below w.heap.size w u → Calls Try.prog 36 #[.int .i64 s, .slice q n cp] u fun e w' => e = .returned (.tuple #[V (pt 0 0 false), .int .i64 er]) ∧ Below u.heap.size u w') :
    Calls Try.prog 8 #[.int .i64 s, .agg (pt X Y Z).toArray, .slice q n cp] w fun e w' => e = .returned (.bool true) ∧ Below w.heap.size w w' := by
  have H0 : Hid (_ ∧ _) := ⟨Mm.nil w, Below.refl w.heap.size w⟩
  have CR : Hid _ := cr
  clear cr
  go_enter Try.func8, Try.ntmps8
  refine wp_seq ?_
  refine walk_seqA 2 [.made (pt X Y Z) 25, .quiet (.bool false)] (sB H0) ?ho1 ?he1
  case ho1 => exact ak (fun γ => ⟨rfl, fun w' => ex_boxT rfl rfl⟩) (ak (fun _ => ⟨rfl, fun _ _ => rfl⟩) trivial)
  intro γ w1 l hM hl
  have H1 : Hid (Mm w1 [(γ 0, pt X Y Z)] ∧ _) := growB H0 hM (Nat.le_refl _) hl [0] rfl (by decide)
  have o1_0 := ownB H0 hM (Nat.le_refl _) hl (i := 0) rfl
  clear hM hl l
  generalize γ 0 = γ1_0 at H1 o1_0 ⊢
  clear γ
  refine rest0 rfl (then_normal (wp_seq ?_))
  refine walk_seqB 2 [.call (.bool true), .quiet (.bool true)] H1 ?ho2 ?he2
  case ho2 => exact ak (fun γ => ⟨rfl, fun w' h => ⟨41, #[], exec_call rfl call41 rfl (mpn rfl), awake_any w'⟩⟩) (ak (fun _ => ⟨rfl, fun _ _ => rfl⟩) trivial)
  intro _ w2 H2
  clear H1
  refine rest0 rfl (then_normal (wp_seq (wp_seq ?_)))
  refine walk_seqB 3 [.quiet (.slice q n cp), .quiet (.int .i64 ((n : Nat) : Int)), .quiet (.bool false)] H2 ?ho3 ?he3
  case ho3 => exact ak (fun _ => ⟨rfl, fun _ _ => rfl⟩) (ak (by refine fun γ => ⟨rfl, fun w' h => ?_⟩; clear h; go_simp) (ak (by refine fun γ => ⟨rfl, fun w' h => ?_⟩; clear h; go_simp <;> omega) trivial))
  intro _ w3 H3
  clear H2
  refine rest0 rfl (then_normal (wp_cond_false rfl ?_))
  refine wp_skip (then_normal ?_)
  refine wp_seq (wp_seq ?_)
  refine walk_seqB 3 [.quiet (.int .i64 s), .quiet (.agg (pt X Y Z).toArray), .call (.bool false)] H3 ?ho4 ?he4
  case ho4 => exact ak (fun _ => ⟨rfl, fun _ _ => rfl⟩) (ak (fun γ => ⟨rfl, fun w' h => ex_loadT h 0 rfl rfl rfl Try.isAgg25 Try.sizeOf25 rfl rfl⟩) (ak (fun γ => ⟨rfl, fun w' h => ⟨20, #[.int .i64 s, .agg (pt X Y Z).toArray], exec_call rfl call20 rfl (mpn rfl), In_is k.f.q.k X Y Z _ hi w'⟩⟩) trivial))
  intro _ w4 H4
  clear H3
  refine rest0 rfl (then_normal (wp_cond_false rfl ?_))
  refine wp_skip (then_normal ?_)
  refine wp_seq (wp_seq ?_)
  refine walk_seqB 3 [.quiet (.int .i64 s), .quiet (.agg (pt X Y Z).toArray), .call (.bool true)] H4 ?ho5 ?he5
  case ho5 => exact ak (fun _ => ⟨rfl, fun _ _ => rfl⟩) (ak (fun γ => ⟨rfl, fun w' h => ex_loadT h 0 rfl rfl rfl Try.isAgg25 Try.sizeOf25 rfl rfl⟩) (ak (fun γ => ⟨rfl, fun w' h => ⟨19, #[.int .i64 s, .agg (pt X Y Z).toArray], exec_call rfl call19 rfl (mpn rfl), Check_is k.f.q X Y Z _ ho w'⟩⟩) trivial))
  intro _ w5 H5
  clear H4
  refine rest0 rfl (then_normal (wp_cond_true rfl (wp_seq ?_)))
  refine walk_seqA 9 [.quiet (.int .i64 s), .quiet (.agg (pt X Y Z).toArray), .call (.tuple #[.agg (pt ((dM p (X, Y, Z) c).1) ((dM p (X, Y, Z) c).2.1) ((dM p (X, Y, Z) c).2.2)).toArray, .int .i64 0]), .quiet (.tuple #[.agg (pt ((dM p (X, Y, Z) c).1) ((dM p (X, Y, Z) c).2.1) ((dM p (X, Y, Z) c).2.2)).toArray, .int .i64 0]), .quiet (.agg (pt ((dM p (X, Y, Z) c).1) ((dM p (X, Y, Z) c).2.1) ((dM p (X, Y, Z) c).2.2)).toArray), .quiet (.int .i64 0), .made (pt 0 0 false) 25, .laid 6 (pt 0 0 false) (pt ((dM p (X, Y, Z) c).1) ((dM p (X, Y, Z) c).2.1) ((dM p (X, Y, Z) c).2.2)), .quiet (.int .i64 0)] (sB H5) ?ho6 ?he6 (hL := ?hL6)
  case hL6 => exact ⟨⟨_, rfl⟩, trivial⟩
  case ho6 => exact ak (fun _ => ⟨rfl, fun _ _ => rfl⟩) (ak (fun γ => ⟨rfl, fun w' h => ex_loadT h 0 rfl rfl rfl Try.isAgg25 Try.sizeOf25 rfl rfl⟩) (ak (fun γ => ⟨rfl, fun w' h => ⟨16, #[.int .i64 s, .agg (pt X Y Z).toArray], exec_call rfl call16 rfl (mpn rfl), Clear_dc k.f.q X Y Z ho w'⟩⟩) (ak (fun _ => ⟨rfl, fun _ _ => rfl⟩) (ak (by refine fun γ => ⟨rfl, fun w' h => ?_⟩; clear h; go_simp) (ak (by refine fun γ => ⟨rfl, fun w' h => ?_⟩; clear h; go_simp) (ak (fun γ => ⟨rfl, fun w' => ex_made25 rfl⟩) (ak (fun γ => ⟨rfl, rfl, rfl, fun w' h => ex_laidT h rfl rfl Try.sizeOf25 rfl rfl rfl⟩) (ak (fun _ => ⟨rfl, fun _ _ => rfl⟩) trivial))))))))
  intro γ w6 l hM hl
  have H6 : Hid (Mm w6 [(γ 6, pt ((dM p (X, Y, Z) c).1) ((dM p (X, Y, Z) c).2.1) ((dM p (X, Y, Z) c).2.2)), (γ1_0, pt X Y Z)] ∧ _) := growB H5 hM (Nat.le_refl _) hl [6] rfl (by decide)
  have o6_6 := ownB H5 hM (Nat.le_refl _) hl (i := 6) rfl
  clear hM hl l H5
  generalize γ 6 = γ6_6 at H6 o6_6 ⊢
  clear γ
  refine rest0 rfl (then_normal (wp_seq ?_))
  refine walk_seqB 8 [.quiet (.int .i64 0), .quiet (.bool false), .quiet (.bool false), .quiet (.int .i64 s), .quiet (.agg (pt ((dM p (X, Y, Z) c).1) ((dM p (X, Y, Z) c).2.1) ((dM p (X, Y, Z) c).2.2)).toArray), .call (.bool true), .quiet (.bool false), .quiet (.bool false)] H6 ?ho7 ?he7
  case ho7 => exact ak (fun _ => ⟨rfl, fun _ _ => rfl⟩) (ak (by refine fun γ => ⟨rfl, fun w' h => ?_⟩; clear h; go_simp) (ak (fun _ => ⟨rfl, fun _ _ => rfl⟩) (ak (fun _ => ⟨rfl, fun _ _ => rfl⟩) (ak (fun γ => ⟨rfl, fun w' h => ex_loadT h 0 rfl rfl rfl Try.isAgg25 Try.sizeOf25 rfl rfl⟩) (ak (fun γ => ⟨rfl, fun w' h => ⟨20, #[.int .i64 s, .agg (pt ((dM p (X, Y, Z) c).1) ((dM p (X, Y, Z) c).2.1) ((dM p (X, Y, Z) c).2.2)).toArray], exec_call rfl call20 rfl (mpn rfl), In_is k.f.q.k _ _ _ _ (clear_in k ho) w'⟩⟩) (ak (by refine fun γ => ⟨rfl, fun w' h => ?_⟩; clear h; go_simp) (ak (by refine fun γ => ⟨rfl, fun w' h => ?_⟩; clear h; go_simp) trivial)))))))
  intro _ w7 H7
  clear H6
  refine rest0 rfl (then_normal (wp_cond_false rfl ?_))
  refine wp_skip (then_normal (wp_seq ?_))
  refine (walk_seq) 9 [.quiet (.int .i64 s), .quiet (.slice q n cp), .call (.tuple #[.agg (pt 0 0 false).toArray, .int .i64 er]), .quiet (.tuple #[.agg (pt 0 0 false).toArray, .int .i64 er]), .quiet (.agg (pt 0 0 false).toArray), .quiet (.int .i64 er), .made (pt 0 0 false) 25, .laid 6 (pt 0 0 false) (pt 0 0 false), .quiet (.int .i64 er)] (fun u' => Mm u' [(γ6_6, pt ((dM p (X, Y, Z) c).1) ((dM p (X, Y, Z) c).2.1) ((dM p (X, Y, Z) c).2.2)), (γ1_0, pt X Y Z)] ∧ Below w.heap.size w u') ?pre8 ?F8 ?hpre8 (fun γ => ?hF8) (by kernel_rfl) ?hL8 ?hS8 ?ho8 ?he8
  case hpre8 => simp only [tk, tz]; rfl
  case hF8 => simp only [fill, Kind.val, Act.put, sa, sz, ss]; rfl
  case hL8 => exact ⟨⟨_, rfl⟩, trivial⟩
  case hS8 => exact fun w' hb => ⟨H7.out.1.below hb, H7.out.2.trans (hb.mono H7.out.2.size)⟩
  case ho8 =>
    refine ak (fun _ => ⟨rfl, fun _ _ => rfl⟩) ?_
    refine ak (fun _ => ⟨rfl, fun _ _ => rfl⟩) ?_
    refine ak (fun γ => ⟨rfl, fun w' hX => ⟨36, #[.int .i64 s, .slice q n cp], exec_call rfl call36 rfl (mpn rfl), CR.out w' hX.2⟩⟩) ?_
    refine ak (fun _ => ⟨rfl, fun _ _ => rfl⟩) ?_
    refine ak (by refine fun γ => ⟨rfl, fun w' h => ?_⟩; clear h; go_simp) ?_
    refine ak (by refine fun γ => ⟨rfl, fun w' h => ?_⟩; clear h; go_simp) ?_
    refine ak (fun γ => ⟨rfl, fun w' => ex_made25 rfl⟩) ?_
    refine ak (fun γ => ⟨rfl, rfl, rfl, fun w' h => ex_laidT h rfl rfl Try.sizeOf25 rfl rfl rfl⟩) ?_
    refine ak (fun _ => ⟨rfl, fun _ _ => rfl⟩) ?_
    exact trivial
  intro γ w8 l hM hl
  have H8 : Hid (Mm w8 [(γ 6, pt 0 0 false), (γ6_6, pt ((dM p (X, Y, Z) c).1) ((dM p (X, Y, Z) c).2.1) ((dM p (X, Y, Z) c).2.2)), (γ1_0, pt X Y Z)] ∧ _) := growB H7 hM (Nat.le_refl _) hl [6] rfl (by decide)
  have o8_6 := ownB H7 hM (Nat.le_refl _) hl (i := 6) rfl
  clear hM hl l H7
  generalize γ 6 = γ8_6 at H8 o8_6 ⊢
  clear γ
  refine rest0 rfl (then_normal (wp_seq ?_))
  refine walk_seqA 3 [.quiet (.int .i64 s), .quiet (.agg (pt 0 0 false).toArray), .born (fun g => .tuple #[.slice (some ⟨g, 0, none⟩) 17 17, .int .i64 0]) (by8 (pb 0 0 false) 17)] (sB H8) ?ho9 ?he9
  case ho9 => exact ak (fun _ => ⟨rfl, fun _ _ => rfl⟩) (ak (fun γ => ⟨rfl, fun w' h => ex_loadT h 0 rfl rfl rfl Try.isAgg25 Try.sizeOf25 rfl rfl⟩) (ak (fun γ => ⟨rfl, fun w' h => ⟨35, #[.int .i64 s, .agg (pt 0 0 false).toArray], exec_call rfl call35 rfl (mpn rfl), Bytes_ok k.f.q.k 0 0 false (oc_of k.f.q.k.pr (on_00 k.f.q.k.pr)) w'⟩⟩) trivial))
  intro γ w9 l hM hl
  have H9 : Hid (Mm w9 [(γ 2, by8 (pb 0 0 false) 17), (γ8_6, pt 0 0 false), (γ6_6, pt ((dM p (X, Y, Z) c).1) ((dM p (X, Y, Z) c).2.1) ((dM p (X, Y, Z) c).2.2)), (γ1_0, pt X Y Z)] ∧ _) := growB H8 hM (Nat.le_refl _) hl [2] rfl (by decide)
  have o9_2 := ownB H8 hM (Nat.le_refl _) hl (i := 2) rfl
  clear hM hl l H8
  generalize γ 2 = γ9_2 at H9 o9_2 ⊢
  clear γ
  refine rest_at (l := [3, 4, 5, 6, 7]) rfl ?_
  refine rest_set (d := 77) rfl rfl rfl rfl ?_
  simp only [Act.put, sa, sz, ss]
  refine rest_set (d := 81) (v := .slice (some ⟨γ9_2, 0, none⟩) 17 17) (w' := w9) rfl rfl rfl (by go_simp) ?_
  simp only [Act.put, sa, sz, ss]
  refine rest_set (d := 82) (v := .int .i64 0) (w' := w9) rfl rfl rfl (by go_simp) ?_
  simp only [Act.put, sa, sz, ss]
  refine rest_set (d := 16) rfl rfl rfl rfl ?_
  simp only [Act.put, sa, sz, ss]
  refine rest_set (d := 17) rfl rfl rfl rfl ?_
  simp only [Act.put, sa, sz, ss]
  refine rest_nil (then_normal (wp_seq ?_))
  refine walk_seqB 20 [.quiet (.bool true), .quiet (.bool true), .quiet (.int .i64 er), .quiet (.bool true), .quiet (.bool true), .gone, .gone, .gone, .gone, .gone, .gone, .gone, .gone, .gone, .gone, .gone, .gone, .quiet (.bool true), .quiet (.bool true), .quiet (.bool true)] H9 ?ho10 ?he10
  case ho10 => exact ak (fun _ => ⟨rfl, fun _ _ => rfl⟩) (ak (fun _ => ⟨rfl, fun _ _ => rfl⟩) (ak (fun _ => ⟨rfl, fun _ _ => rfl⟩) (ak (by refine fun γ => ⟨rfl, fun w' h => ?_⟩; clear h; go_simp) (ak (fun _ => ⟨rfl, fun _ _ => rfl⟩) (ak (fun γ => rfl) (ak (fun γ => rfl) (ak (fun γ => rfl) (ak (fun γ => rfl) (ak (fun γ => rfl) (ak (fun γ => rfl) (ak (fun γ => rfl) (ak (fun γ => rfl) (ak (fun γ => rfl) (ak (fun γ => rfl) (ak (fun γ => rfl) (ak (fun γ => rfl) (ak (by refine fun γ => ⟨rfl, fun w' h => ?_⟩; clear h; go_simp) (ak (by refine fun γ => ⟨rfl, fun w' h => ?_⟩; clear h; go_simp) (ak (fun _ => ⟨rfl, fun _ _ => rfl⟩) trivial)))))))))))))))))))
  intro _ w10 H10
  clear H9
  refine rest0 rfl (then_normal (wp_ret ?_))
  repeat (first | refine then_ret ?_ | refine block_ret ?_)
  refine bodyPost_ret (v := .bool true) (by simp [results, Try.results8, go_sem, *]) rfl ?_
  exact ⟨rfl, H10.out.2⟩
set_option maxHeartbeats 2000000 in
set_option maxRecDepth 100000 in
theorem back_tfo (w : World) (k : Kc s p r c gx gy) [NeZero p] (X Y : Nat) (Z : Bool) (ho : oc p X Y Z = true) (hi : ig p r X Y Z = false) (q : Option Addr) (n cp : Nat) (hn : n ≤ 100) (X' Y' : Nat) (Z' : Bool) (hi2 : ig p r X' Y' Z' = true) (cr : ∀ u, Below w.heap.size w u → Calls Try.prog 36 #[.int .i64 s, .slice q n cp] u fun e w' => e = .returned (.tuple #[V (pt X' Y' Z'), .int .i64 0]) ∧ Below u.heap.size u w') (cs : ∀ g u, Below w.heap.size w u → Mm u [(g, by8 (pb X' Y' Z') 17)] → Calls Try.prog 39 #[.slice (some ⟨g, 0, none⟩) 17 17, .slice q n cp] u fun e w' => e = .returned (.bool true) ∧ Below u.heap.size u w') :
    Calls Try.prog 8 #[.int .i64 s, .agg (pt X Y Z).toArray, .slice q n cp] w fun e w' => e = .returned (.bool true) ∧ Below w.heap.size w w' := by
  have H0 : Hid (_ ∧ _) := ⟨Mm.nil w, Below.refl w.heap.size w⟩
  have CR : Hid _ := cr
  clear cr
  have CS : Hid _ := cs
  clear cs
  go_enter Try.func8, Try.ntmps8
  refine wp_seq ?_
  refine walk_seqA 2 [.made (pt X Y Z) 25, .quiet (.bool false)] (sB H0) ?ho1 ?he1
  case ho1 => exact ak (fun γ => ⟨rfl, fun w' => ex_boxT rfl rfl⟩) (ak (fun _ => ⟨rfl, fun _ _ => rfl⟩) trivial)
  intro γ w1 l hM hl
  have H1 : Hid (Mm w1 [(γ 0, pt X Y Z)] ∧ _) := growB H0 hM (Nat.le_refl _) hl [0] rfl (by decide)
  have o1_0 := ownB H0 hM (Nat.le_refl _) hl (i := 0) rfl
  clear hM hl l
  generalize γ 0 = γ1_0 at H1 o1_0 ⊢
  clear γ
  refine rest0 rfl (then_normal (wp_seq ?_))
  refine walk_seqB 2 [.call (.bool true), .quiet (.bool true)] H1 ?ho2 ?he2
  case ho2 => exact ak (fun γ => ⟨rfl, fun w' h => ⟨41, #[], exec_call rfl call41 rfl (mpn rfl), awake_any w'⟩⟩) (ak (fun _ => ⟨rfl, fun _ _ => rfl⟩) trivial)
  intro _ w2 H2
  clear H1
  refine rest0 rfl (then_normal (wp_seq (wp_seq ?_)))
  refine walk_seqB 3 [.quiet (.slice q n cp), .quiet (.int .i64 ((n : Nat) : Int)), .quiet (.bool false)] H2 ?ho3 ?he3
  case ho3 => exact ak (fun _ => ⟨rfl, fun _ _ => rfl⟩) (ak (by refine fun γ => ⟨rfl, fun w' h => ?_⟩; clear h; go_simp) (ak (by refine fun γ => ⟨rfl, fun w' h => ?_⟩; clear h; go_simp <;> omega) trivial))
  intro _ w3 H3
  clear H2
  refine rest0 rfl (then_normal (wp_cond_false rfl ?_))
  refine wp_skip (then_normal ?_)
  refine wp_seq (wp_seq ?_)
  refine walk_seqB 3 [.quiet (.int .i64 s), .quiet (.agg (pt X Y Z).toArray), .call (.bool false)] H3 ?ho4 ?he4
  case ho4 => exact ak (fun _ => ⟨rfl, fun _ _ => rfl⟩) (ak (fun γ => ⟨rfl, fun w' h => ex_loadT h 0 rfl rfl rfl Try.isAgg25 Try.sizeOf25 rfl rfl⟩) (ak (fun γ => ⟨rfl, fun w' h => ⟨20, #[.int .i64 s, .agg (pt X Y Z).toArray], exec_call rfl call20 rfl (mpn rfl), In_is k.f.q.k X Y Z _ hi w'⟩⟩) trivial))
  intro _ w4 H4
  clear H3
  refine rest0 rfl (then_normal (wp_cond_false rfl ?_))
  refine wp_skip (then_normal ?_)
  refine wp_seq (wp_seq ?_)
  refine walk_seqB 3 [.quiet (.int .i64 s), .quiet (.agg (pt X Y Z).toArray), .call (.bool true)] H4 ?ho5 ?he5
  case ho5 => exact ak (fun _ => ⟨rfl, fun _ _ => rfl⟩) (ak (fun γ => ⟨rfl, fun w' h => ex_loadT h 0 rfl rfl rfl Try.isAgg25 Try.sizeOf25 rfl rfl⟩) (ak (fun γ => ⟨rfl, fun w' h => ⟨19, #[.int .i64 s, .agg (pt X Y Z).toArray], exec_call rfl call19 rfl (mpn rfl), Check_is k.f.q X Y Z _ ho w'⟩⟩) trivial))
  intro _ w5 H5
  clear H4
  refine rest0 rfl (then_normal (wp_cond_true rfl (wp_seq ?_)))
  refine walk_seqA 9 [.quiet (.int .i64 s), .quiet (.agg (pt X Y Z).toArray), .call (.tuple #[.agg (pt ((dM p (X, Y, Z) c).1) ((dM p (X, Y, Z) c).2.1) ((dM p (X, Y, Z) c).2.2)).toArray, .int .i64 0]), .quiet (.tuple #[.agg (pt ((dM p (X, Y, Z) c).1) ((dM p (X, Y, Z) c).2.1) ((dM p (X, Y, Z) c).2.2)).toArray, .int .i64 0]), .quiet (.agg (pt ((dM p (X, Y, Z) c).1) ((dM p (X, Y, Z) c).2.1) ((dM p (X, Y, Z) c).2.2)).toArray), .quiet (.int .i64 0), .made (pt 0 0 false) 25, .laid 6 (pt 0 0 false) (pt ((dM p (X, Y, Z) c).1) ((dM p (X, Y, Z) c).2.1) ((dM p (X, Y, Z) c).2.2)), .quiet (.int .i64 0)] (sB H5) ?ho6 ?he6 (hL := ?hL6)
  case hL6 => exact ⟨⟨_, rfl⟩, trivial⟩
  case ho6 => exact ak (fun _ => ⟨rfl, fun _ _ => rfl⟩) (ak (fun γ => ⟨rfl, fun w' h => ex_loadT h 0 rfl rfl rfl Try.isAgg25 Try.sizeOf25 rfl rfl⟩) (ak (fun γ => ⟨rfl, fun w' h => ⟨16, #[.int .i64 s, .agg (pt X Y Z).toArray], exec_call rfl call16 rfl (mpn rfl), Clear_dc k.f.q X Y Z ho w'⟩⟩) (ak (fun _ => ⟨rfl, fun _ _ => rfl⟩) (ak (by refine fun γ => ⟨rfl, fun w' h => ?_⟩; clear h; go_simp) (ak (by refine fun γ => ⟨rfl, fun w' h => ?_⟩; clear h; go_simp) (ak (fun γ => ⟨rfl, fun w' => ex_made25 rfl⟩) (ak (fun γ => ⟨rfl, rfl, rfl, fun w' h => ex_laidT h rfl rfl Try.sizeOf25 rfl rfl rfl⟩) (ak (fun _ => ⟨rfl, fun _ _ => rfl⟩) trivial))))))))
  intro γ w6 l hM hl
  have H6 : Hid (Mm w6 [(γ 6, pt ((dM p (X, Y, Z) c).1) ((dM p (X, Y, Z) c).2.1) ((dM p (X, Y, Z) c).2.2)), (γ1_0, pt X Y Z)] ∧ _) := growB H5 hM (Nat.le_refl _) hl [6] rfl (by decide)
  have o6_6 := ownB H5 hM (Nat.le_refl _) hl (i := 6) rfl
  clear hM hl l H5
  generalize γ 6 = γ6_6 at H6 o6_6 ⊢
  clear γ
  refine rest0 rfl (then_normal (wp_seq ?_))
  refine walk_seqB 8 [.quiet (.int .i64 0), .quiet (.bool false), .quiet (.bool false), .quiet (.int .i64 s), .quiet (.agg (pt ((dM p (X, Y, Z) c).1) ((dM p (X, Y, Z) c).2.1) ((dM p (X, Y, Z) c).2.2)).toArray), .call (.bool true), .quiet (.bool false), .quiet (.bool false)] H6 ?ho7 ?he7
  case ho7 => exact ak (fun _ => ⟨rfl, fun _ _ => rfl⟩) (ak (by refine fun γ => ⟨rfl, fun w' h => ?_⟩; clear h; go_simp) (ak (fun _ => ⟨rfl, fun _ _ => rfl⟩) (ak (fun _ => ⟨rfl, fun _ _ => rfl⟩) (ak (fun γ => ⟨rfl, fun w' h => ex_loadT h 0 rfl rfl rfl Try.isAgg25 Try.sizeOf25 rfl rfl⟩) (ak (fun γ => ⟨rfl, fun w' h => ⟨20, #[.int .i64 s, .agg (pt ((dM p (X, Y, Z) c).1) ((dM p (X, Y, Z) c).2.1) ((dM p (X, Y, Z) c).2.2)).toArray], exec_call rfl call20 rfl (mpn rfl), In_is k.f.q.k _ _ _ _ (clear_in k ho) w'⟩⟩) (ak (by refine fun γ => ⟨rfl, fun w' h => ?_⟩; clear h; go_simp) (ak (by refine fun γ => ⟨rfl, fun w' h => ?_⟩; clear h; go_simp) trivial)))))))
  intro _ w7 H7
  clear H6
  refine rest0 rfl (then_normal (wp_cond_false rfl ?_))
  refine wp_skip (then_normal (wp_seq ?_))
  refine (walk_seq) 9 [.quiet (.int .i64 s), .quiet (.slice q n cp), .call (.tuple #[.agg (pt X' Y' Z').toArray, .int .i64 0]), .quiet (.tuple #[.agg (pt X' Y' Z').toArray, .int .i64 0]), .quiet (.agg (pt X' Y' Z').toArray), .quiet (.int .i64 0), .made (pt 0 0 false) 25, .laid 6 (pt 0 0 false) (pt X' Y' Z'), .quiet (.int .i64 0)] (fun u' => Mm u' [(γ6_6, pt ((dM p (X, Y, Z) c).1) ((dM p (X, Y, Z) c).2.1) ((dM p (X, Y, Z) c).2.2)), (γ1_0, pt X Y Z)] ∧ Below w.heap.size w u') ?pre8 ?F8 ?hpre8 (fun γ => ?hF8) (by kernel_rfl) ?hL8 ?hS8 ?ho8 ?he8
  case hpre8 => simp only [tk, tz]; rfl
  case hF8 => simp only [fill, Kind.val, Act.put, sa, sz, ss]; rfl
  case hL8 => exact ⟨⟨_, rfl⟩, trivial⟩
  case hS8 => exact fun w' hb => ⟨H7.out.1.below hb, H7.out.2.trans (hb.mono H7.out.2.size)⟩
  case ho8 =>
    refine ak (fun _ => ⟨rfl, fun _ _ => rfl⟩) ?_
    refine ak (fun _ => ⟨rfl, fun _ _ => rfl⟩) ?_
    refine ak (fun γ => ⟨rfl, fun w' hX => ⟨36, #[.int .i64 s, .slice q n cp], exec_call rfl call36 rfl (mpn rfl), CR.out w' hX.2⟩⟩) ?_
    refine ak (fun _ => ⟨rfl, fun _ _ => rfl⟩) ?_
    refine ak (by refine fun γ => ⟨rfl, fun w' h => ?_⟩; clear h; go_simp) ?_
    refine ak (by refine fun γ => ⟨rfl, fun w' h => ?_⟩; clear h; go_simp) ?_
    refine ak (fun γ => ⟨rfl, fun w' => ex_made25 rfl⟩) ?_
    refine ak (fun γ => ⟨rfl, rfl, rfl, fun w' h => ex_laidT h rfl rfl Try.sizeOf25 rfl rfl rfl⟩) ?_
    refine ak (fun _ => ⟨rfl, fun _ _ => rfl⟩) ?_
    exact trivial
  intro γ w8 l hM hl
  have H8 : Hid (Mm w8 [(γ 6, pt X' Y' Z'), (γ6_6, pt ((dM p (X, Y, Z) c).1) ((dM p (X, Y, Z) c).2.1) ((dM p (X, Y, Z) c).2.2)), (γ1_0, pt X Y Z)] ∧ _) := growB H7 hM (Nat.le_refl _) hl [6] rfl (by decide)
  have o8_6 := ownB H7 hM (Nat.le_refl _) hl (i := 6) rfl
  clear hM hl l H7
  generalize γ 6 = γ8_6 at H8 o8_6 ⊢
  clear γ
  refine rest0 rfl (then_normal (wp_seq ?_))
  refine walk_seqA 3 [.quiet (.int .i64 s), .quiet (.agg (pt X' Y' Z').toArray), .born (fun g => .tuple #[.slice (some ⟨g, 0, none⟩) 17 17, .int .i64 0]) (by8 (pb X' Y' Z') 17)] (sB H8) ?ho9 ?he9
  case ho9 => exact ak (fun _ => ⟨rfl, fun _ _ => rfl⟩) (ak (fun γ => ⟨rfl, fun w' h => ex_loadT h 0 rfl rfl rfl Try.isAgg25 Try.sizeOf25 rfl rfl⟩) (ak (fun γ => ⟨rfl, fun w' h => ⟨35, #[.int .i64 s, .agg (pt X' Y' Z').toArray], exec_call rfl call35 rfl (mpn rfl), Bytes_ok k.f.q.k X' Y' Z' (ig_of hi2) w'⟩⟩) trivial))
  intro γ w9 l hM hl
  have H9 : Hid (Mm w9 [(γ 2, by8 (pb X' Y' Z') 17), (γ8_6, pt X' Y' Z'), (γ6_6, pt ((dM p (X, Y, Z) c).1) ((dM p (X, Y, Z) c).2.1) ((dM p (X, Y, Z) c).2.2)), (γ1_0, pt X Y Z)] ∧ _) := growB H8 hM (Nat.le_refl _) hl [2] rfl (by decide)
  have o9_2 := ownB H8 hM (Nat.le_refl _) hl (i := 2) rfl
  clear hM hl l H8
  generalize γ 2 = γ9_2 at H9 o9_2 ⊢
  clear γ
  refine rest_at (l := [3, 4, 5, 6, 7]) rfl ?_
  refine rest_set (d := 77) rfl rfl rfl rfl ?_
  simp only [Act.put, sa, sz, ss]
  refine rest_set (d := 81) (v := .slice (some ⟨γ9_2, 0, none⟩) 17 17) (w' := w9) rfl rfl rfl (by go_simp) ?_
  simp only [Act.put, sa, sz, ss]
  refine rest_set (d := 82) (v := .int .i64 0) (w' := w9) rfl rfl rfl (by go_simp) ?_
  simp only [Act.put, sa, sz, ss]
  refine rest_set (d := 16) rfl rfl rfl rfl ?_
  simp only [Act.put, sa, sz, ss]
  refine rest_set (d := 17) rfl rfl rfl rfl ?_
  simp only [Act.put, sa, sz, ss]
  refine rest_nil (then_normal (wp_seq ?_))
  refine (walk_seq) 20 [.quiet (.bool true), .quiet (.bool true), .quiet (.int .i64 0), .quiet (.bool false), .quiet (.bool false), .quiet (.int .i64 0), .quiet (.bool true), .quiet (.bool true), .quiet (.slice (some ⟨γ9_2, 0, none⟩) 17 17), .quiet (.slice q n cp), .call (.bool true), .quiet (.bool true), .quiet (.bool true), .quiet (.int .i64 s), .quiet (.agg (pt X' Y' Z').toArray), .call (.bool true), .quiet (.bool true), .quiet (.bool true), .quiet (.bool true), .quiet (.bool true)] (fun u' => Mm u' [(γ9_2, by8 (pb X' Y' Z') 17), (γ8_6, pt X' Y' Z'), (γ6_6, pt ((dM p (X, Y, Z) c).1) ((dM p (X, Y, Z) c).2.1) ((dM p (X, Y, Z) c).2.2)), (γ1_0, pt X Y Z)] ∧ Below w.heap.size w u') ?pre10 ?F10 ?hpre10 (fun γ => ?hF10) (by kernel_rfl) ?hL10 ?hS10 ?ho10 ?he10
  case hpre10 => simp only [tk, tz]; rfl
  case hF10 => simp only [fill, Kind.val, Act.put, sa, sz, ss]; rfl
  case hL10 => exact trivial
  case hS10 => exact fun w' hb => ⟨H9.out.1.below hb, H9.out.2.trans (hb.mono H9.out.2.size)⟩
  case ho10 =>
    refine ak (fun _ => ⟨rfl, fun _ _ => rfl⟩) ?_
    refine ak (fun _ => ⟨rfl, fun _ _ => rfl⟩) ?_
    refine ak (fun _ => ⟨rfl, fun _ _ => rfl⟩) ?_
    refine ak (by refine fun γ => ⟨rfl, fun w' h => ?_⟩; clear h; go_simp) ?_
    refine ak (fun _ => ⟨rfl, fun _ _ => rfl⟩) ?_
    refine ak (fun _ => ⟨rfl, fun _ _ => rfl⟩) ?_
    refine ak (by refine fun γ => ⟨rfl, fun w' h => ?_⟩; clear h; go_simp) ?_
    refine ak (fun _ => ⟨rfl, fun _ _ => rfl⟩) ?_
    refine ak (fun _ => ⟨rfl, fun _ _ => rfl⟩) ?_
    refine ak (fun _ => ⟨rfl, fun _ _ => rfl⟩) ?_
    refine ak (fun γ => ⟨rfl, fun w' hX => have h := hX.1; ⟨39, #[.slice (some ⟨γ9_2, 0, none⟩) 17 17, .slice q n cp], exec_call rfl call39 rfl (mpn rfl), CS.out γ9_2 w' hX.2 (h.one 0 rfl)⟩⟩) ?_
    refine ak (by refine fun γ => ⟨rfl, fun w' h => ?_⟩; clear h; go_simp) ?_
    refine ak (fun _ => ⟨rfl, fun _ _ => rfl⟩) ?_
    refine ak (fun _ => ⟨rfl, fun _ _ => rfl⟩) ?_
    refine ak (fun γ => ⟨rfl, fun w' hX => have h := hX.1; ex_loadT h 1 rfl rfl rfl Try.isAgg25 Try.sizeOf25 rfl rfl⟩) ?_
    refine ak (fun γ => ⟨rfl, fun w' hX => ⟨20, #[.int .i64 s, .agg (pt X' Y' Z').toArray], exec_call rfl call20 rfl (mpn rfl), In_is k.f.q.k X' Y' Z' _ hi2 w'⟩⟩) ?_
    refine ak (by refine fun γ => ⟨rfl, fun w' h => ?_⟩; clear h; go_simp) ?_
    refine ak (by refine fun γ => ⟨rfl, fun w' h => ?_⟩; clear h; go_simp) ?_
    refine ak (by refine fun γ => ⟨rfl, fun w' h => ?_⟩; clear h; go_simp) ?_
    refine ak (fun _ => ⟨rfl, fun _ _ => rfl⟩) ?_
    exact trivial
  intro γ w10 l hM hl
  have H10 := keepB H9 hM.below
  clear hM hl l H9 γ
  refine rest0 rfl (then_normal (wp_ret ?_))
  repeat (first | refine then_ret ?_ | refine block_ret ?_)
  refine bodyPost_ret (v := .bool true) (by simp [results, Try.results8, go_sem, *]) rfl ?_
  exact ⟨rfl, H10.out.2⟩
set_option maxHeartbeats 2000000 in
set_option maxRecDepth 100000 in
theorem back_tte (w : World) (k : Kc s p r c gx gy) [NeZero p] (X Y : Nat) (Z : Bool) (ho : oc p X Y Z = true) (hi : ig p r X Y Z = true) (q : Option Addr) (n cp : Nat) (hn : n ≤ 100) (er : Int) (her : er ≠ 0) (cr : ∀ u, Below w.heap.size w u → Calls Try.prog 36 #[.int .i64 s, .slice q n cp] u fun e w' => e = .returned (.tuple #[V (pt 0 0 false), .int .i64 er]) ∧ Below u.heap.size u w') :
    Calls Try.prog 8 #[.int .i64 s, .agg (pt X Y Z).toArray, .slice q n cp] w fun e w' => e = .returned (.bool true) ∧ Below w.heap.size w w' := by
  have H0 : Hid (_ ∧ _) := ⟨Mm.nil w, Below.refl w.heap.size w⟩
  have CR : Hid _ := cr
  clear cr
  go_enter Try.func8, Try.ntmps8
  refine wp_seq ?_
  refine walk_seqA 2 [.made (pt X Y Z) 25, .quiet (.bool false)] (sB H0) ?ho1 ?he1
  case ho1 => exact ak (fun γ => ⟨rfl, fun w' => ex_boxT rfl rfl⟩) (ak (fun _ => ⟨rfl, fun _ _ => rfl⟩) trivial)
  intro γ w1 l hM hl
  have H1 : Hid (Mm w1 [(γ 0, pt X Y Z)] ∧ _) := growB H0 hM (Nat.le_refl _) hl [0] rfl (by decide)
  have o1_0 := ownB H0 hM (Nat.le_refl _) hl (i := 0) rfl
  clear hM hl l
  generalize γ 0 = γ1_0 at H1 o1_0 ⊢
  clear γ
  refine rest0 rfl (then_normal (wp_seq ?_))
  refine walk_seqB 2 [.call (.bool true), .quiet (.bool true)] H1 ?ho2 ?he2
  case ho2 => exact ak (fun γ => ⟨rfl, fun w' h => ⟨41, #[], exec_call rfl call41 rfl (mpn rfl), awake_any w'⟩⟩) (ak (fun _ => ⟨rfl, fun _ _ => rfl⟩) trivial)
  intro _ w2 H2
  clear H1
  refine rest0 rfl (then_normal (wp_seq (wp_seq ?_)))
  refine walk_seqB 3 [.quiet (.slice q n cp), .quiet (.int .i64 ((n : Nat) : Int)), .quiet (.bool false)] H2 ?ho3 ?he3
  case ho3 => exact ak (fun _ => ⟨rfl, fun _ _ => rfl⟩) (ak (by refine fun γ => ⟨rfl, fun w' h => ?_⟩; clear h; go_simp) (ak (by refine fun γ => ⟨rfl, fun w' h => ?_⟩; clear h; go_simp <;> omega) trivial))
  intro _ w3 H3
  clear H2
  refine rest0 rfl (then_normal (wp_cond_false rfl ?_))
  refine wp_skip (then_normal ?_)
  refine wp_seq (wp_seq ?_)
  refine walk_seqB 3 [.quiet (.int .i64 s), .quiet (.agg (pt X Y Z).toArray), .call (.bool true)] H3 ?ho4 ?he4
  case ho4 => exact ak (fun _ => ⟨rfl, fun _ _ => rfl⟩) (ak (fun γ => ⟨rfl, fun w' h => ex_loadT h 0 rfl rfl rfl Try.isAgg25 Try.sizeOf25 rfl rfl⟩) (ak (fun γ => ⟨rfl, fun w' h => ⟨20, #[.int .i64 s, .agg (pt X Y Z).toArray], exec_call rfl call20 rfl (mpn rfl), In_is k.f.q.k X Y Z _ hi w'⟩⟩) trivial))
  intro _ w4 H4
  clear H3
  refine rest0 rfl (then_normal (wp_cond_true rfl (wp_seq ?_)))
  refine walk_seqA 3 [.quiet (.int .i64 s), .quiet (.agg (pt X Y Z).toArray), .born (fun g => .tuple #[.slice (some ⟨g, 0, none⟩) 17 17, .int .i64 0]) (by8 (pb X Y Z) 17)] (sB H4) ?ho5 ?he5
  case ho5 => exact ak (fun _ => ⟨rfl, fun _ _ => rfl⟩) (ak (fun γ => ⟨rfl, fun w' h => ex_loadT h 0 rfl rfl rfl Try.isAgg25 Try.sizeOf25 rfl rfl⟩) (ak (fun γ => ⟨rfl, fun w' h => ⟨35, #[.int .i64 s, .agg (pt X Y Z).toArray], exec_call rfl call35 rfl (mpn rfl), Bytes_ok k.f.q.k X Y Z (ig_of hi) w'⟩⟩) trivial))
  intro γ w5 l hM hl
  have H5 : Hid (Mm w5 [(γ 2, by8 (pb X Y Z) 17), (γ1_0, pt X Y Z)] ∧ _) := growB H4 hM (Nat.le_refl _) hl [2] rfl (by decide)
  have o5_2 := ownB H4 hM (Nat.le_refl _) hl (i := 2) rfl
  clear hM hl l H4
  generalize γ 2 = γ5_2 at H5 o5_2 ⊢
  clear γ
  refine rest_at (l := [3, 4, 5, 6, 7]) rfl ?_
  refine rest_set (d := 26) rfl rfl rfl rfl ?_
  simp only [Act.put, sa, sz, ss]
  refine rest_set (d := 30) (v := .slice (some ⟨γ5_2, 0, none⟩) 17 17) (w' := w5) rfl rfl rfl (by go_simp) ?_
  simp only [Act.put, sa, sz, ss]
  refine rest_set (d := 31) (v := .int .i64 0) (w' := w5) rfl rfl rfl (by go_simp) ?_
  simp only [Act.put, sa, sz, ss]
  refine rest_set (d := 8) rfl rfl rfl rfl ?_
  simp only [Act.put, sa, sz, ss]
  refine rest_set (d := 9) rfl rfl rfl rfl ?_
  simp only [Act.put, sa, sz, ss]
  refine rest_nil (then_normal (wp_seq ?_))
  refine walk_seqA 9 [.quiet (.int .i64 s), .quiet (.slice (some ⟨γ5_2, 0, none⟩) 17 17), .call (.tuple #[.agg (pt X Y Z).toArray, .int .i64 0]), .quiet (.tuple #[.agg (pt X Y Z).toArray, .int .i64 0]), .quiet (.agg (pt X Y Z).toArray), .quiet (.int .i64 0), .made (pt 0 0 false) 25, .laid 6 (pt 0 0 false) (pt X Y Z), .quiet (.int .i64 0)] (sB H5) ?ho6 ?he6 (hL := ?hL6)
  case hL6 => exact ⟨⟨_, rfl⟩, trivial⟩
  case ho6 => exact ak (fun _ => ⟨rfl, fun _ _ => rfl⟩) (ak (fun _ => ⟨rfl, fun _ _ => rfl⟩) (ak (fun γ => ⟨rfl, fun w' h => ⟨36, #[.int .i64 s, .slice (some ⟨γ5_2, 0, none⟩) 17 17], exec_call rfl call36 rfl (mpn rfl), Read_own k.f.q.k X Y Z hi γ5_2 w' (h.one 0 rfl)⟩⟩) (ak (fun _ => ⟨rfl, fun _ _ => rfl⟩) (ak (by refine fun γ => ⟨rfl, fun w' h => ?_⟩; clear h; go_simp) (ak (by refine fun γ => ⟨rfl, fun w' h => ?_⟩; clear h; go_simp) (ak (fun γ => ⟨rfl, fun w' => ex_made25 rfl⟩) (ak (fun γ => ⟨rfl, rfl, rfl, fun w' h => ex_laidT h rfl rfl Try.sizeOf25 rfl rfl rfl⟩) (ak (fun _ => ⟨rfl, fun _ _ => rfl⟩) trivial))))))))
  intro γ w6 l hM hl
  have H6 : Hid (Mm w6 [(γ 6, pt X Y Z), (γ5_2, by8 (pb X Y Z) 17), (γ1_0, pt X Y Z)] ∧ _) := growB H5 hM (Nat.le_refl _) hl [6] rfl (by decide)
  have o6_6 := ownB H5 hM (Nat.le_refl _) hl (i := 6) rfl
  clear hM hl l H5
  generalize γ 6 = γ6_6 at H6 o6_6 ⊢
  clear γ
  refine rest0 rfl (then_normal (wp_seq ?_))
  refine walk_seqB 16 [.quiet (.int .i64 0), .quiet (.bool false), .quiet (.bool false), .quiet (.int .i64 0), .quiet (.bool false), .quiet (.bool false), .quiet (.bool false), .quiet (.agg (pt X Y Z).toArray), .quiet (.agg (pt X Y Z).toArray), .quiet (.bool false), .quiet (.bool false), .quiet (.bool false), .quiet (.slice (some ⟨γ5_2, 0, none⟩) 17 17), .quiet (.int .i64 17), .quiet (.bool false), .quiet (.bool false)] H6 ?ho7 ?he7
  case ho7 => exact ak (fun _ => ⟨rfl, fun _ _ => rfl⟩) (ak (by refine fun γ => ⟨rfl, fun w' h => ?_⟩; clear h; go_simp) (ak (fun _ => ⟨rfl, fun _ _ => rfl⟩) (ak (fun _ => ⟨rfl, fun _ _ => rfl⟩) (ak (by refine fun γ => ⟨rfl, fun w' h => ?_⟩; clear h; go_simp) (ak (by refine fun γ => ⟨rfl, fun w' h => ?_⟩; clear h; go_simp) (ak (fun _ => ⟨rfl, fun _ _ => rfl⟩) (ak (fun γ => ⟨rfl, fun w' h => ex_loadT h 0 rfl rfl rfl Try.isAgg25 Try.sizeOf25 rfl rfl⟩) (ak (fun γ => ⟨rfl, fun w' h => ex_loadT h 2 rfl rfl rfl Try.isAgg25 Try.sizeOf25 rfl rfl⟩) (ak (fun γ => ⟨rfl, fun w' _ => exec_neqT25 (fun w => eq_self _ _ _ w) rfl rfl rfl⟩) (ak (by refine fun γ => ⟨rfl, fun w' h => ?_⟩; clear h; go_simp) (ak (fun _ => ⟨rfl, fun _ _ => rfl⟩) (ak (fun _ => ⟨rfl, fun _ _ => rfl⟩) (ak (by refine fun γ => ⟨rfl, fun w' h => ?_⟩; clear h; go_simp) (ak (by refine fun γ => ⟨rfl, fun w' h => ?_⟩; clear h; go_simp) (ak (by refine fun γ => ⟨rfl, fun w' h => ?_⟩; clear h; go_simp) trivial)))))))))))))))
  intro _ w7 H7
  clear H6
  refine rest0 rfl (then_normal (wp_cond_false rfl ?_))
  refine wp_skip (then_normal ?_)
  refine wp_seq (wp_seq ?_)
  refine walk_seqB 3 [.quiet (.int .i64 s), .quiet (.agg (pt X Y Z).toArray), .call (.bool true)] H7 ?ho8 ?he8
  case ho8 => exact ak (fun _ => ⟨rfl, fun _ _ => rfl⟩) (ak (fun γ => ⟨rfl, fun w' h => ex_loadT h 2 rfl rfl rfl Try.isAgg25 Try.sizeOf25 rfl rfl⟩) (ak (fun γ => ⟨rfl, fun w' h => ⟨19, #[.int .i64 s, .agg (pt X Y Z).toArray], exec_call rfl call19 rfl (mpn rfl), Check_is k.f.q X Y Z _ ho w'⟩⟩) trivial))
  intro _ w8 H8
  clear H7
  refine rest0 rfl (then_normal (wp_cond_true rfl (wp_seq ?_)))
  refine walk_seqA 9 [.quiet (.int .i64 s), .quiet (.agg (pt X Y Z).toArray), .call (.tuple #[.agg (pt ((dM p (X, Y, Z) c).1) ((dM p (X, Y, Z) c).2.1) ((dM p (X, Y, Z) c).2.2)).toArray, .int .i64 0]), .quiet (.tuple #[.agg (pt ((dM p (X, Y, Z) c).1) ((dM p (X, Y, Z) c).2.1) ((dM p (X, Y, Z) c).2.2)).toArray, .int .i64 0]), .quiet (.agg (pt ((dM p (X, Y, Z) c).1) ((dM p (X, Y, Z) c).2.1) ((dM p (X, Y, Z) c).2.2)).toArray), .quiet (.int .i64 0), .made (pt 0 0 false) 25, .laid 6 (pt 0 0 false) (pt ((dM p (X, Y, Z) c).1) ((dM p (X, Y, Z) c).2.1) ((dM p (X, Y, Z) c).2.2)), .quiet (.int .i64 0)] (sB H8) ?ho9 ?he9 (hL := ?hL9)
  case hL9 => exact ⟨⟨_, rfl⟩, trivial⟩
  case ho9 => exact ak (fun _ => ⟨rfl, fun _ _ => rfl⟩) (ak (fun γ => ⟨rfl, fun w' h => ex_loadT h 2 rfl rfl rfl Try.isAgg25 Try.sizeOf25 rfl rfl⟩) (ak (fun γ => ⟨rfl, fun w' h => ⟨16, #[.int .i64 s, .agg (pt X Y Z).toArray], exec_call rfl call16 rfl (mpn rfl), Clear_dc k.f.q X Y Z ho w'⟩⟩) (ak (fun _ => ⟨rfl, fun _ _ => rfl⟩) (ak (by refine fun γ => ⟨rfl, fun w' h => ?_⟩; clear h; go_simp) (ak (by refine fun γ => ⟨rfl, fun w' h => ?_⟩; clear h; go_simp) (ak (fun γ => ⟨rfl, fun w' => ex_made25 rfl⟩) (ak (fun γ => ⟨rfl, rfl, rfl, fun w' h => ex_laidT h rfl rfl Try.sizeOf25 rfl rfl rfl⟩) (ak (fun _ => ⟨rfl, fun _ _ => rfl⟩) trivial))))))))
  intro γ w9 l hM hl
  have H9 : Hid (Mm w9 [(γ 6, pt ((dM p (X, Y, Z) c).1) ((dM p (X, Y, Z) c).2.1) ((dM p (X, Y, Z) c).2.2)), (γ6_6, pt X Y Z), (γ5_2, by8 (pb X Y Z) 17), (γ1_0, pt X Y Z)] ∧ _) := growB H8 hM (Nat.le_refl _) hl [6] rfl (by decide)
  have o9_6 := ownB H8 hM (Nat.le_refl _) hl (i := 6) rfl
  clear hM hl l H8
  generalize γ 6 = γ9_6 at H9 o9_6 ⊢
  clear γ
  refine rest0 rfl (then_normal (wp_seq ?_))
  refine walk_seqB 8 [.quiet (.int .i64 0), .quiet (.bool false), .quiet (.bool false), .quiet (.int .i64 s), .quiet (.agg (pt ((dM p (X, Y, Z) c).1) ((dM p (X, Y, Z) c).2.1) ((dM p (X, Y, Z) c).2.2)).toArray), .call (.bool true), .quiet (.bool false), .quiet (.bool false)] H9 ?ho10 ?he10
  case ho10 => exact ak (fun _ => ⟨rfl, fun _ _ => rfl⟩) (ak (by refine fun γ => ⟨rfl, fun w' h => ?_⟩; clear h; go_simp) (ak (fun _ => ⟨rfl, fun _ _ => rfl⟩) (ak (fun _ => ⟨rfl, fun _ _ => rfl⟩) (ak (fun γ => ⟨rfl, fun w' h => ex_loadT h 0 rfl rfl rfl Try.isAgg25 Try.sizeOf25 rfl rfl⟩) (ak (fun γ => ⟨rfl, fun w' h => ⟨20, #[.int .i64 s, .agg (pt ((dM p (X, Y, Z) c).1) ((dM p (X, Y, Z) c).2.1) ((dM p (X, Y, Z) c).2.2)).toArray], exec_call rfl call20 rfl (mpn rfl), In_is k.f.q.k _ _ _ _ (clear_in k ho) w'⟩⟩) (ak (by refine fun γ => ⟨rfl, fun w' h => ?_⟩; clear h; go_simp) (ak (by refine fun γ => ⟨rfl, fun w' h => ?_⟩; clear h; go_simp) trivial)))))))
  intro _ w10 H10
  clear H9
  refine rest0 rfl (then_normal (wp_cond_false rfl ?_))
  refine wp_skip (then_normal (wp_seq ?_))
  refine (walk_seq) 9 [.quiet (.int .i64 s), .quiet (.slice q n cp), .call (.tuple #[.agg (pt 0 0 false).toArray, .int .i64 er]), .quiet (.tuple #[.agg (pt 0 0 false).toArray, .int .i64 er]), .quiet (.agg (pt 0 0 false).toArray), .quiet (.int .i64 er), .made (pt 0 0 false) 25, .laid 6 (pt 0 0 false) (pt 0 0 false), .quiet (.int .i64 er)] (fun u' => Mm u' [(γ9_6, pt ((dM p (X, Y, Z) c).1) ((dM p (X, Y, Z) c).2.1) ((dM p (X, Y, Z) c).2.2)), (γ6_6, pt X Y Z), (γ5_2, by8 (pb X Y Z) 17), (γ1_0, pt X Y Z)] ∧ Below w.heap.size w u') ?pre11 ?F11 ?hpre11 (fun γ => ?hF11) (by kernel_rfl) ?hL11 ?hS11 ?ho11 ?he11
  case hpre11 => simp only [tk, tz]; rfl
  case hF11 => simp only [fill, Kind.val, Act.put, sa, sz, ss]; rfl
  case hL11 => exact ⟨⟨_, rfl⟩, trivial⟩
  case hS11 => exact fun w' hb => ⟨H10.out.1.below hb, H10.out.2.trans (hb.mono H10.out.2.size)⟩
  case ho11 =>
    refine ak (fun _ => ⟨rfl, fun _ _ => rfl⟩) ?_
    refine ak (fun _ => ⟨rfl, fun _ _ => rfl⟩) ?_
    refine ak (fun γ => ⟨rfl, fun w' hX => ⟨36, #[.int .i64 s, .slice q n cp], exec_call rfl call36 rfl (mpn rfl), CR.out w' hX.2⟩⟩) ?_
    refine ak (fun _ => ⟨rfl, fun _ _ => rfl⟩) ?_
    refine ak (by refine fun γ => ⟨rfl, fun w' h => ?_⟩; clear h; go_simp) ?_
    refine ak (by refine fun γ => ⟨rfl, fun w' h => ?_⟩; clear h; go_simp) ?_
    refine ak (fun γ => ⟨rfl, fun w' => ex_made25 rfl⟩) ?_
    refine ak (fun γ => ⟨rfl, rfl, rfl, fun w' h => ex_laidT h rfl rfl Try.sizeOf25 rfl rfl rfl⟩) ?_
    refine ak (fun _ => ⟨rfl, fun _ _ => rfl⟩) ?_
    exact trivial
  intro γ w11 l hM hl
  have H11 : Hid (Mm w11 [(γ 6, pt 0 0 false), (γ9_6, pt ((dM p (X, Y, Z) c).1) ((dM p (X, Y, Z) c).2.1) ((dM p (X, Y, Z) c).2.2)), (γ6_6, pt X Y Z), (γ5_2, by8 (pb X Y Z) 17), (γ1_0, pt X Y Z)] ∧ _) := growB H10 hM (Nat.le_refl _) hl [6] rfl (by decide)
  have o11_6 := ownB H10 hM (Nat.le_refl _) hl (i := 6) rfl
  clear hM hl l H10
  generalize γ 6 = γ11_6 at H11 o11_6 ⊢
  clear γ
  refine rest0 rfl (then_normal (wp_seq ?_))
  refine walk_seqA 3 [.quiet (.int .i64 s), .quiet (.agg (pt 0 0 false).toArray), .born (fun g => .tuple #[.slice (some ⟨g, 0, none⟩) 17 17, .int .i64 0]) (by8 (pb 0 0 false) 17)] (sB H11) ?ho12 ?he12
  case ho12 => exact ak (fun _ => ⟨rfl, fun _ _ => rfl⟩) (ak (fun γ => ⟨rfl, fun w' h => ex_loadT h 0 rfl rfl rfl Try.isAgg25 Try.sizeOf25 rfl rfl⟩) (ak (fun γ => ⟨rfl, fun w' h => ⟨35, #[.int .i64 s, .agg (pt 0 0 false).toArray], exec_call rfl call35 rfl (mpn rfl), Bytes_ok k.f.q.k 0 0 false (oc_of k.f.q.k.pr (on_00 k.f.q.k.pr)) w'⟩⟩) trivial))
  intro γ w12 l hM hl
  have H12 : Hid (Mm w12 [(γ 2, by8 (pb 0 0 false) 17), (γ11_6, pt 0 0 false), (γ9_6, pt ((dM p (X, Y, Z) c).1) ((dM p (X, Y, Z) c).2.1) ((dM p (X, Y, Z) c).2.2)), (γ6_6, pt X Y Z), (γ5_2, by8 (pb X Y Z) 17), (γ1_0, pt X Y Z)] ∧ _) := growB H11 hM (Nat.le_refl _) hl [2] rfl (by decide)
  have o12_2 := ownB H11 hM (Nat.le_refl _) hl (i := 2) rfl
  clear hM hl l H11
  generalize γ 2 = γ12_2 at H12 o12_2 ⊢
  clear γ
  refine rest_at (l := [3, 4, 5, 6, 7]) rfl ?_
  refine rest_set (d := 77) rfl rfl rfl rfl ?_
  simp only [Act.put, sa, sz, ss]
  refine rest_set (d := 81) (v := .slice (some ⟨γ12_2, 0, none⟩) 17 17) (w' := w12) rfl rfl rfl (by go_simp) ?_
  simp only [Act.put, sa, sz, ss]
  refine rest_set (d := 82) (v := .int .i64 0) (w' := w12) rfl rfl rfl (by go_simp) ?_
  simp only [Act.put, sa, sz, ss]
  refine rest_set (d := 16) rfl rfl rfl rfl ?_
  simp only [Act.put, sa, sz, ss]
  refine rest_set (d := 17) rfl rfl rfl rfl ?_
  simp only [Act.put, sa, sz, ss]
  refine rest_nil (then_normal (wp_seq ?_))
  refine walk_seqB 20 [.quiet (.bool true), .quiet (.bool true), .quiet (.int .i64 er), .quiet (.bool true), .quiet (.bool true), .gone, .gone, .gone, .gone, .gone, .gone, .gone, .gone, .gone, .gone, .gone, .gone, .quiet (.bool true), .quiet (.bool true), .quiet (.bool true)] H12 ?ho13 ?he13
  case ho13 => exact ak (fun _ => ⟨rfl, fun _ _ => rfl⟩) (ak (fun _ => ⟨rfl, fun _ _ => rfl⟩) (ak (fun _ => ⟨rfl, fun _ _ => rfl⟩) (ak (by refine fun γ => ⟨rfl, fun w' h => ?_⟩; clear h; go_simp) (ak (fun _ => ⟨rfl, fun _ _ => rfl⟩) (ak (fun γ => rfl) (ak (fun γ => rfl) (ak (fun γ => rfl) (ak (fun γ => rfl) (ak (fun γ => rfl) (ak (fun γ => rfl) (ak (fun γ => rfl) (ak (fun γ => rfl) (ak (fun γ => rfl) (ak (fun γ => rfl) (ak (fun γ => rfl) (ak (fun γ => rfl) (ak (by refine fun γ => ⟨rfl, fun w' h => ?_⟩; clear h; go_simp) (ak (by refine fun γ => ⟨rfl, fun w' h => ?_⟩; clear h; go_simp) (ak (fun _ => ⟨rfl, fun _ _ => rfl⟩) trivial)))))))))))))))))))
  intro _ w13 H13
  clear H12
  refine rest0 rfl (then_normal (wp_ret ?_))
  repeat (first | refine then_ret ?_ | refine block_ret ?_)
  refine bodyPost_ret (v := .bool true) (by simp [results, Try.results8, go_sem, *]) rfl ?_
  exact ⟨rfl, H13.out.2⟩
set_option maxHeartbeats 2000000 in
set_option maxRecDepth 100000 in
theorem back_tto (w : World) (k : Kc s p r c gx gy) [NeZero p] (X Y : Nat) (Z : Bool) (ho : oc p X Y Z = true) (hi : ig p r X Y Z = true) (q : Option Addr) (n cp : Nat) (hn : n ≤ 100) (X' Y' : Nat) (Z' : Bool) (hi2 : ig p r X' Y' Z' = true) (cr : ∀ u, Below w.heap.size w u → Calls Try.prog 36 #[.int .i64 s, .slice q n cp] u fun e w' => e = .returned (.tuple #[V (pt X' Y' Z'), .int .i64 0]) ∧ Below u.heap.size u w') (cs : ∀ g u, Below w.heap.size w u → Mm u [(g, by8 (pb X' Y' Z') 17)] → Calls Try.prog 39 #[.slice (some ⟨g, 0, none⟩) 17 17, .slice q n cp] u fun e w' => e = .returned (.bool true) ∧ Below u.heap.size u w') :
    Calls Try.prog 8 #[.int .i64 s, .agg (pt X Y Z).toArray, .slice q n cp] w fun e w' => e = .returned (.bool true) ∧ Below w.heap.size w w' := by
  have H0 : Hid (_ ∧ _) := ⟨Mm.nil w, Below.refl w.heap.size w⟩
  have CR : Hid _ := cr
  clear cr
  have CS : Hid _ := cs
  clear cs
  go_enter Try.func8, Try.ntmps8
  refine wp_seq ?_
  refine walk_seqA 2 [.made (pt X Y Z) 25, .quiet (.bool false)] (sB H0) ?ho1 ?he1
  case ho1 => exact ak (fun γ => ⟨rfl, fun w' => ex_boxT rfl rfl⟩) (ak (fun _ => ⟨rfl, fun _ _ => rfl⟩) trivial)
  intro γ w1 l hM hl
  have H1 : Hid (Mm w1 [(γ 0, pt X Y Z)] ∧ _) := growB H0 hM (Nat.le_refl _) hl [0] rfl (by decide)
  have o1_0 := ownB H0 hM (Nat.le_refl _) hl (i := 0) rfl
  clear hM hl l
  generalize γ 0 = γ1_0 at H1 o1_0 ⊢
  clear γ
  refine rest0 rfl (then_normal (wp_seq ?_))
  refine walk_seqB 2 [.call (.bool true), .quiet (.bool true)] H1 ?ho2 ?he2
  case ho2 => exact ak (fun γ => ⟨rfl, fun w' h => ⟨41, #[], exec_call rfl call41 rfl (mpn rfl), awake_any w'⟩⟩) (ak (fun _ => ⟨rfl, fun _ _ => rfl⟩) trivial)
  intro _ w2 H2
  clear H1
  refine rest0 rfl (then_normal (wp_seq (wp_seq ?_)))
  refine walk_seqB 3 [.quiet (.slice q n cp), .quiet (.int .i64 ((n : Nat) : Int)), .quiet (.bool false)] H2 ?ho3 ?he3
  case ho3 => exact ak (fun _ => ⟨rfl, fun _ _ => rfl⟩) (ak (by refine fun γ => ⟨rfl, fun w' h => ?_⟩; clear h; go_simp) (ak (by refine fun γ => ⟨rfl, fun w' h => ?_⟩; clear h; go_simp <;> omega) trivial))
  intro _ w3 H3
  clear H2
  refine rest0 rfl (then_normal (wp_cond_false rfl ?_))
  refine wp_skip (then_normal ?_)
  refine wp_seq (wp_seq ?_)
  refine walk_seqB 3 [.quiet (.int .i64 s), .quiet (.agg (pt X Y Z).toArray), .call (.bool true)] H3 ?ho4 ?he4
  case ho4 => exact ak (fun _ => ⟨rfl, fun _ _ => rfl⟩) (ak (fun γ => ⟨rfl, fun w' h => ex_loadT h 0 rfl rfl rfl Try.isAgg25 Try.sizeOf25 rfl rfl⟩) (ak (fun γ => ⟨rfl, fun w' h => ⟨20, #[.int .i64 s, .agg (pt X Y Z).toArray], exec_call rfl call20 rfl (mpn rfl), In_is k.f.q.k X Y Z _ hi w'⟩⟩) trivial))
  intro _ w4 H4
  clear H3
  refine rest0 rfl (then_normal (wp_cond_true rfl (wp_seq ?_)))
  refine walk_seqA 3 [.quiet (.int .i64 s), .quiet (.agg (pt X Y Z).toArray), .born (fun g => .tuple #[.slice (some ⟨g, 0, none⟩) 17 17, .int .i64 0]) (by8 (pb X Y Z) 17)] (sB H4) ?ho5 ?he5
  case ho5 => exact ak (fun _ => ⟨rfl, fun _ _ => rfl⟩) (ak (fun γ => ⟨rfl, fun w' h => ex_loadT h 0 rfl rfl rfl Try.isAgg25 Try.sizeOf25 rfl rfl⟩) (ak (fun γ => ⟨rfl, fun w' h => ⟨35, #[.int .i64 s, .agg (pt X Y Z).toArray], exec_call rfl call35 rfl (mpn rfl), Bytes_ok k.f.q.k X Y Z (ig_of hi) w'⟩⟩) trivial))
  intro γ w5 l hM hl
  have H5 : Hid (Mm w5 [(γ 2, by8 (pb X Y Z) 17), (γ1_0, pt X Y Z)] ∧ _) := growB H4 hM (Nat.le_refl _) hl [2] rfl (by decide)
  have o5_2 := ownB H4 hM (Nat.le_refl _) hl (i := 2) rfl
  clear hM hl l H4
  generalize γ 2 = γ5_2 at H5 o5_2 ⊢
  clear γ
  refine rest_at (l := [3, 4, 5, 6, 7]) rfl ?_
  refine rest_set (d := 26) rfl rfl rfl rfl ?_
  simp only [Act.put, sa, sz, ss]
  refine rest_set (d := 30) (v := .slice (some ⟨γ5_2, 0, none⟩) 17 17) (w' := w5) rfl rfl rfl (by go_simp) ?_
  simp only [Act.put, sa, sz, ss]
  refine rest_set (d := 31) (v := .int .i64 0) (w' := w5) rfl rfl rfl (by go_simp) ?_
  simp only [Act.put, sa, sz, ss]
  refine rest_set (d := 8) rfl rfl rfl rfl ?_
  simp only [Act.put, sa, sz, ss]
  refine rest_set (d := 9) rfl rfl rfl rfl ?_
  simp only [Act.put, sa, sz, ss]
  refine rest_nil (then_normal (wp_seq ?_))
  refine walk_seqA 9 [.quiet (.int .i64 s), .quiet (.slice (some ⟨γ5_2, 0, none⟩) 17 17), .call (.tuple #[.agg (pt X Y Z).toArray, .int .i64 0]), .quiet (.tuple #[.agg (pt X Y Z).toArray, .int .i64 0]), .quiet (.agg (pt X Y Z).toArray), .quiet (.int .i64 0), .made (pt 0 0 false) 25, .laid 6 (pt 0 0 false) (pt X Y Z), .quiet (.int .i64 0)] (sB H5) ?ho6 ?he6 (hL := ?hL6)
  case hL6 => exact ⟨⟨_, rfl⟩, trivial⟩
  case ho6 => exact ak (fun _ => ⟨rfl, fun _ _ => rfl⟩) (ak (fun _ => ⟨rfl, fun _ _ => rfl⟩) (ak (fun γ => ⟨rfl, fun w' h => ⟨36, #[.int .i64 s, .slice (some ⟨γ5_2, 0, none⟩) 17 17], exec_call rfl call36 rfl (mpn rfl), Read_own k.f.q.k X Y Z hi γ5_2 w' (h.one 0 rfl)⟩⟩) (ak (fun _ => ⟨rfl, fun _ _ => rfl⟩) (ak (by refine fun γ => ⟨rfl, fun w' h => ?_⟩; clear h; go_simp) (ak (by refine fun γ => ⟨rfl, fun w' h => ?_⟩; clear h; go_simp) (ak (fun γ => ⟨rfl, fun w' => ex_made25 rfl⟩) (ak (fun γ => ⟨rfl, rfl, rfl, fun w' h => ex_laidT h rfl rfl Try.sizeOf25 rfl rfl rfl⟩) (ak (fun _ => ⟨rfl, fun _ _ => rfl⟩) trivial))))))))
  intro γ w6 l hM hl
  have H6 : Hid (Mm w6 [(γ 6, pt X Y Z), (γ5_2, by8 (pb X Y Z) 17), (γ1_0, pt X Y Z)] ∧ _) := growB H5 hM (Nat.le_refl _) hl [6] rfl (by decide)
  have o6_6 := ownB H5 hM (Nat.le_refl _) hl (i := 6) rfl
  clear hM hl l H5
  generalize γ 6 = γ6_6 at H6 o6_6 ⊢
  clear γ
  refine rest0 rfl (then_normal (wp_seq ?_))
  refine walk_seqB 16 [.quiet (.int .i64 0), .quiet (.bool false), .quiet (.bool false), .quiet (.int .i64 0), .quiet (.bool false), .quiet (.bool false), .quiet (.bool false), .quiet (.agg (pt X Y Z).toArray), .quiet (.agg (pt X Y Z).toArray), .quiet (.bool false), .quiet (.bool false), .quiet (.bool false), .quiet (.slice (some ⟨γ5_2, 0, none⟩) 17 17), .quiet (.int .i64 17), .quiet (.bool false), .quiet (.bool false)] H6 ?ho7 ?he7
  case ho7 => exact ak (fun _ => ⟨rfl, fun _ _ => rfl⟩) (ak (by refine fun γ => ⟨rfl, fun w' h => ?_⟩; clear h; go_simp) (ak (fun _ => ⟨rfl, fun _ _ => rfl⟩) (ak (fun _ => ⟨rfl, fun _ _ => rfl⟩) (ak (by refine fun γ => ⟨rfl, fun w' h => ?_⟩; clear h; go_simp) (ak (by refine fun γ => ⟨rfl, fun w' h => ?_⟩; clear h; go_simp) (ak (fun _ => ⟨rfl, fun _ _ => rfl⟩) (ak (fun γ => ⟨rfl, fun w' h => ex_loadT h 0 rfl rfl rfl Try.isAgg25 Try.sizeOf25 rfl rfl⟩) (ak (fun γ => ⟨rfl, fun w' h => ex_loadT h 2 rfl rfl rfl Try.isAgg25 Try.sizeOf25 rfl rfl⟩) (ak (fun γ => ⟨rfl, fun w' _ => exec_neqT25 (fun w => eq_self _ _ _ w) rfl rfl rfl⟩) (ak (by refine fun γ => ⟨rfl, fun w' h => ?_⟩; clear h; go_simp) (ak (fun _ => ⟨rfl, fun _ _ => rfl⟩) (ak (fun _ => ⟨rfl, fun _ _ => rfl⟩) (ak (by refine fun γ => ⟨rfl, fun w' h => ?_⟩; clear h; go_simp) (ak (by refine fun γ => ⟨rfl, fun w' h => ?_⟩; clear h; go_simp) (ak (by refine fun γ => ⟨rfl, fun w' h => ?_⟩; clear h; go_simp) trivial)))))))))))))))
  intro _ w7 H7
  clear H6
  refine rest0 rfl (then_normal (wp_cond_false rfl ?_))
  refine wp_skip (then_normal ?_)
  refine wp_seq (wp_seq ?_)
  refine walk_seqB 3 [.quiet (.int .i64 s), .quiet (.agg (pt X Y Z).toArray), .call (.bool true)] H7 ?ho8 ?he8
  case ho8 => exact ak (fun _ => ⟨rfl, fun _ _ => rfl⟩) (ak (fun γ => ⟨rfl, fun w' h => ex_loadT h 2 rfl rfl rfl Try.isAgg25 Try.sizeOf25 rfl rfl⟩) (ak (fun γ => ⟨rfl, fun w' h => ⟨19, #[.int .i64 s, .agg (pt X Y Z).toArray], exec_call rfl call19 rfl (mpn rfl), Check_is k.f.q X Y Z _ ho w'⟩⟩) trivial))
  intro _ w8 H8
  clear H7
  refine rest0 rfl (then_normal (wp_cond_true rfl (wp_seq ?_)))
  refine walk_seqA 9 [.quiet (.int .i64 s), .quiet (.agg (pt X Y Z).toArray), .call (.tuple #[.agg (pt ((dM p (X, Y, Z) c).1) ((dM p (X, Y, Z) c).2.1) ((dM p (X, Y, Z) c).2.2)).toArray, .int .i64 0]), .quiet (.tuple #[.agg (pt ((dM p (X, Y, Z) c).1) ((dM p (X, Y, Z) c).2.1) ((dM p (X, Y, Z) c).2.2)).toArray, .int .i64 0]), .quiet (.agg (pt ((dM p (X, Y, Z) c).1) ((dM p (X, Y, Z) c).2.1) ((dM p (X, Y, Z) c).2.2)).toArray), .quiet (.int .i64 0), .made (pt 0 0 false) 25, .laid 6 (pt 0 0 false) (pt ((dM p (X, Y, Z) c).1) ((dM p (X, Y, Z) c).2.1) ((dM p (X, Y, Z) c).2.2)), .quiet (.int .i64 0)] (sB H8) ?ho9 ?he9 (hL := ?hL9)
  case hL9 => exact ⟨⟨_, rfl⟩, trivial⟩
  case ho9 => exact ak (fun _ => ⟨rfl, fun _ _ => rfl⟩) (ak (fun γ => ⟨rfl, fun w' h => ex_loadT h 2 rfl rfl rfl Try.isAgg25 Try.sizeOf25 rfl rfl⟩) (ak (fun γ => ⟨rfl, fun w' h => ⟨16, #[.int .i64 s, .agg (pt X Y Z).toArray], exec_call rfl call16 rfl (mpn rfl), Clear_dc k.f.q X Y Z ho w'⟩⟩) (ak (fun _ => ⟨rfl, fun _ _ => rfl⟩) (ak (by refine fun γ => ⟨rfl, fun w' h => ?_⟩; clear h; go_simp) (ak (by refine fun γ => ⟨rfl, fun w' h => ?_⟩; clear h; go_simp) (ak (fun γ => ⟨rfl, fun w' => ex_made25 rfl⟩) (ak (fun γ => ⟨rfl, rfl, rfl, fun w' h => ex_laidT h rfl rfl Try.sizeOf25 rfl rfl rfl⟩) (ak (fun _ => ⟨rfl, fun _ _ => rfl⟩) trivial))))))))
  intro γ w9 l hM hl
  have H9 : Hid (Mm w9 [(γ 6, pt ((dM p (X, Y, Z) c).1) ((dM p (X, Y, Z) c).2.1) ((dM p (X, Y, Z) c).2.2)), (γ6_6, pt X Y Z), (γ5_2, by8 (pb X Y Z) 17), (γ1_0, pt X Y Z)] ∧ _) := growB H8 hM (Nat.le_refl _) hl [6] rfl (by decide)
  have o9_6 := ownB H8 hM (Nat.le_refl _) hl (i := 6) rfl
  clear hM hl l H8
  generalize γ 6 = γ9_6 at H9 o9_6 ⊢
  clear γ
  refine rest0 rfl (then_normal (wp_seq ?_))
  refine walk_seqB 8 [.quiet (.int .i64 0), .quiet (.bool false), .quiet (.bool false), .quiet (.int .i64 s), .quiet (.agg (pt ((dM p (X, Y, Z) c).1) ((dM p (X, Y, Z) c).2.1) ((dM p (X, Y, Z) c).2.2)).toArray), .call (.bool true), .quiet (.bool false), .quiet (.bool false)] H9 ?ho10 ?he10
  case ho10 => exact ak (fun _ => ⟨rfl, fun _ _ => rfl⟩) (ak (by refine fun γ => ⟨rfl, fun w' h => ?_⟩; clear h; go_simp) (ak (fun _ => ⟨rfl, fun _ _ => rfl⟩) (ak (fun _ => ⟨rfl, fun _ _ => rfl⟩) (ak (fun γ => ⟨rfl, fun w' h => ex_loadT h 0 rfl rfl rfl Try.isAgg25 Try.sizeOf25 rfl rfl⟩) (ak (fun γ => ⟨rfl, fun w' h => ⟨20, #[.int .i64 s, .agg (pt ((dM p (X, Y, Z) c).1) ((dM p (X, Y, Z) c).2.1) ((dM p (X, Y, Z) c).2.2)).toArray], exec_call rfl call20 rfl (mpn rfl), In_is k.f.q.k _ _ _ _ (clear_in k ho) w'⟩⟩) (ak (by refine fun γ => ⟨rfl, fun w' h => ?_⟩; clear h; go_simp) (ak (by refine fun γ => ⟨rfl, fun w' h => ?_⟩; clear h; go_simp) trivial)))))))
  intro _ w10 H10
  clear H9
  refine rest0 rfl (then_normal (wp_cond_false rfl ?_))
  refine wp_skip (then_normal (wp_seq ?_))
  refine (walk_seq) 9 [.quiet (.int .i64 s), .quiet (.slice q n cp), .call (.tuple #[.agg (pt X' Y' Z').toArray, .int .i64 0]), .quiet (.tuple #[.agg (pt X' Y' Z').toArray, .int .i64 0]), .quiet (.agg (pt X' Y' Z').toArray), .quiet (.int .i64 0), .made (pt 0 0 false) 25, .laid 6 (pt 0 0 false) (pt X' Y' Z'), .quiet (.int .i64 0)] (fun u' => Mm u' [(γ9_6, pt ((dM p (X, Y, Z) c).1) ((dM p (X, Y, Z) c).2.1) ((dM p (X, Y, Z) c).2.2)), (γ6_6, pt X Y Z), (γ5_2, by8 (pb X Y Z) 17), (γ1_0, pt X Y Z)] ∧ Below w.heap.size w u') ?pre11 ?F11 ?hpre11 (fun γ => ?hF11) (by kernel_rfl) ?hL11 ?hS11 ?ho11 ?he11
  case hpre11 => simp only [tk, tz]; rfl
  case hF11 => simp only [fill, Kind.val, Act.put, sa, sz, ss]; rfl
  case hL11 => exact ⟨⟨_, rfl⟩, trivial⟩
  case hS11 => exact fun w' hb => ⟨H10.out.1.below hb, H10.out.2.trans (hb.mono H10.out.2.size)⟩
  case ho11 =>
    refine ak (fun _ => ⟨rfl, fun _ _ => rfl⟩) ?_
    refine ak (fun _ => ⟨rfl, fun _ _ => rfl⟩) ?_
    refine ak (fun γ => ⟨rfl, fun w' hX => ⟨36, #[.int .i64 s, .slice q n cp], exec_call rfl call36 rfl (mpn rfl), CR.out w' hX.2⟩⟩) ?_
    refine ak (fun _ => ⟨rfl, fun _ _ => rfl⟩) ?_
    refine ak (by refine fun γ => ⟨rfl, fun w' h => ?_⟩; clear h; go_simp) ?_
    refine ak (by refine fun γ => ⟨rfl, fun w' h => ?_⟩; clear h; go_simp) ?_
    refine ak (fun γ => ⟨rfl, fun w' => ex_made25 rfl⟩) ?_
    refine ak (fun γ => ⟨rfl, rfl, rfl, fun w' h => ex_laidT h rfl rfl Try.sizeOf25 rfl rfl rfl⟩) ?_
    refine ak (fun _ => ⟨rfl, fun _ _ => rfl⟩) ?_
    exact trivial
  intro γ w11 l hM hl
  have H11 : Hid (Mm w11 [(γ 6, pt X' Y' Z'), (γ9_6, pt ((dM p (X, Y, Z) c).1) ((dM p (X, Y, Z) c).2.1) ((dM p (X, Y, Z) c).2.2)), (γ6_6, pt X Y Z), (γ5_2, by8 (pb X Y Z) 17), (γ1_0, pt X Y Z)] ∧ _) := growB H10 hM (Nat.le_refl _) hl [6] rfl (by decide)
  have o11_6 := ownB H10 hM (Nat.le_refl _) hl (i := 6) rfl
  clear hM hl l H10
  generalize γ 6 = γ11_6 at H11 o11_6 ⊢
  clear γ
  refine rest0 rfl (then_normal (wp_seq ?_))
  refine walk_seqA 3 [.quiet (.int .i64 s), .quiet (.agg (pt X' Y' Z').toArray), .born (fun g => .tuple #[.slice (some ⟨g, 0, none⟩) 17 17, .int .i64 0]) (by8 (pb X' Y' Z') 17)] (sB H11) ?ho12 ?he12
  case ho12 => exact ak (fun _ => ⟨rfl, fun _ _ => rfl⟩) (ak (fun γ => ⟨rfl, fun w' h => ex_loadT h 0 rfl rfl rfl Try.isAgg25 Try.sizeOf25 rfl rfl⟩) (ak (fun γ => ⟨rfl, fun w' h => ⟨35, #[.int .i64 s, .agg (pt X' Y' Z').toArray], exec_call rfl call35 rfl (mpn rfl), Bytes_ok k.f.q.k X' Y' Z' (ig_of hi2) w'⟩⟩) trivial))
  intro γ w12 l hM hl
  have H12 : Hid (Mm w12 [(γ 2, by8 (pb X' Y' Z') 17), (γ11_6, pt X' Y' Z'), (γ9_6, pt ((dM p (X, Y, Z) c).1) ((dM p (X, Y, Z) c).2.1) ((dM p (X, Y, Z) c).2.2)), (γ6_6, pt X Y Z), (γ5_2, by8 (pb X Y Z) 17), (γ1_0, pt X Y Z)] ∧ _) := growB H11 hM (Nat.le_refl _) hl [2] rfl (by decide)
  have o12_2 := ownB H11 hM (Nat.le_refl _) hl (i := 2) rfl
  clear hM hl l H11
  generalize γ 2 = γ12_2 at H12 o12_2 ⊢
  clear γ
  refine rest_at (l := [3, 4, 5, 6, 7]) rfl ?_
  refine rest_set (d := 77) rfl rfl rfl rfl ?_
  simp only [Act.put, sa, sz, ss]
  refine rest_set (d := 81) (v := .slice (some ⟨γ12_2, 0, none⟩) 17 17) (w' := w12) rfl rfl rfl (by go_simp) ?_
  simp only [Act.put, sa, sz, ss]
  refine rest_set (d := 82) (v := .int .i64 0) (w' := w12) rfl rfl rfl (by go_simp) ?_
  simp only [Act.put, sa, sz, ss]
  refine rest_set (d := 16) rfl rfl rfl rfl ?_
  simp only [Act.put, sa, sz, ss]
  refine rest_set (d := 17) rfl rfl rfl rfl ?_
  simp only [Act.put, sa, sz, ss]
  refine rest_nil (then_normal (wp_seq ?_))
  refine (walk_seq) 20 [.quiet (.bool true), .quiet (.bool true), .quiet (.int .i64 0), .quiet (.bool false), .quiet (.bool false), .quiet (.int .i64 0), .quiet (.bool true), .quiet (.bool true), .quiet (.slice (some ⟨γ12_2, 0, none⟩) 17 17), .quiet (.slice q n cp), .call (.bool true), .quiet (.bool true), .quiet (.bool true), .quiet (.int .i64 s), .quiet (.agg (pt X' Y' Z').toArray), .call (.bool true), .quiet (.bool true), .quiet (.bool true), .quiet (.bool true), .quiet (.bool true)] (fun u' => Mm u' [(γ12_2, by8 (pb X' Y' Z') 17), (γ11_6, pt X' Y' Z'), (γ9_6, pt ((dM p (X, Y, Z) c).1) ((dM p (X, Y, Z) c).2.1) ((dM p (X, Y, Z) c).2.2)), (γ6_6, pt X Y Z), (γ5_2, by8 (pb X Y Z) 17), (γ1_0, pt X Y Z)] ∧ Below w.heap.size w u') ?pre13 ?F13 ?hpre13 (fun γ => ?hF13) (by kernel_rfl) ?hL13 ?hS13 ?ho13 ?he13
  case hpre13 => simp only [tk, tz]; rfl
  case hF13 => simp only [fill, Kind.val, Act.put, sa, sz, ss]; rfl
  case hL13 => exact trivial
  case hS13 => exact fun w' hb => ⟨H12.out.1.below hb, H12.out.2.trans (hb.mono H12.out.2.size)⟩
  case ho13 =>
    refine ak (fun _ => ⟨rfl, fun _ _ => rfl⟩) ?_
    refine ak (fun _ => ⟨rfl, fun _ _ => rfl⟩) ?_
    refine ak (fun _ => ⟨rfl, fun _ _ => rfl⟩) ?_
    refine ak (by refine fun γ => ⟨rfl, fun w' h => ?_⟩; clear h; go_simp) ?_
    refine ak (fun _ => ⟨rfl, fun _ _ => rfl⟩) ?_
    refine ak (fun _ => ⟨rfl, fun _ _ => rfl⟩) ?_
    refine ak (by refine fun γ => ⟨rfl, fun w' h => ?_⟩; clear h; go_simp) ?_
    refine ak (fun _ => ⟨rfl, fun _ _ => rfl⟩) ?_
    refine ak (fun _ => ⟨rfl, fun _ _ => rfl⟩) ?_
    refine ak (fun _ => ⟨rfl, fun _ _ => rfl⟩) ?_
    refine ak (fun γ => ⟨rfl, fun w' hX => have h := hX.1; ⟨39, #[.slice (some ⟨γ12_2, 0, none⟩) 17 17, .slice q n cp], exec_call rfl call39 rfl (mpn rfl), CS.out γ12_2 w' hX.2 (h.one 0 rfl)⟩⟩) ?_
    refine ak (by refine fun γ => ⟨rfl, fun w' h => ?_⟩; clear h; go_simp) ?_
    refine ak (fun _ => ⟨rfl, fun _ _ => rfl⟩) ?_
    refine ak (fun _ => ⟨rfl, fun _ _ => rfl⟩) ?_
    refine ak (fun γ => ⟨rfl, fun w' hX => have h := hX.1; ex_loadT h 1 rfl rfl rfl Try.isAgg25 Try.sizeOf25 rfl rfl⟩) ?_
    refine ak (fun γ => ⟨rfl, fun w' hX => ⟨20, #[.int .i64 s, .agg (pt X' Y' Z').toArray], exec_call rfl call20 rfl (mpn rfl), In_is k.f.q.k X' Y' Z' _ hi2 w'⟩⟩) ?_
    refine ak (by refine fun γ => ⟨rfl, fun w' h => ?_⟩; clear h; go_simp) ?_
    refine ak (by refine fun γ => ⟨rfl, fun w' h => ?_⟩; clear h; go_simp) ?_
    refine ak (by refine fun γ => ⟨rfl, fun w' h => ?_⟩; clear h; go_simp) ?_
    refine ak (fun _ => ⟨rfl, fun _ _ => rfl⟩) ?_
    exact trivial
  intro γ w13 l hM hl
  have H13 := keepB H12 hM.below
  clear hM hl l H12 γ
  refine rest0 rfl (then_normal (wp_ret ?_))
  repeat (first | refine then_ret ?_ | refine block_ret ?_)
  refine bodyPost_ret (v := .bool true) (by simp [results, Try.results8, go_sem, *]) rfl ?_
  exact ⟨rfl, H13.out.2⟩
set_option maxHeartbeats 2000000 in
set_option maxRecDepth 100000 in
theorem back_no (w : World) (s : Int) (h1 : s ≠ 1) (h2 : s ≠ 2) (X Y : Nat) (Z : Bool) (q : Option Addr) (n cp : Nat) (hn : n ≤ 100) :
    Calls Try.prog 8 #[.int .i64 s, .agg (pt X Y Z).toArray, .slice q n cp] w fun e w' => e = .returned (.bool true) ∧ Below w.heap.size w w' := by
  have H0 : Hid (_ ∧ _) := ⟨Mm.nil w, Below.refl w.heap.size w⟩
  go_enter Try.func8, Try.ntmps8
  refine wp_seq ?_
  refine walk_seqA 2 [.made (pt X Y Z) 25, .quiet (.bool false)] (sB H0) ?ho1 ?he1
  case ho1 => exact ak (fun γ => ⟨rfl, fun w' => ex_boxT rfl rfl⟩) (ak (fun _ => ⟨rfl, fun _ _ => rfl⟩) trivial)
  intro γ w1 l hM hl
  have H1 : Hid (Mm w1 [(γ 0, pt X Y Z)] ∧ _) := growB H0 hM (Nat.le_refl _) hl [0] rfl (by decide)
  have o1_0 := ownB H0 hM (Nat.le_refl _) hl (i := 0) rfl
  clear hM hl l
  generalize γ 0 = γ1_0 at H1 o1_0 ⊢
  clear γ
  refine rest0 rfl (then_normal (wp_seq ?_))
  refine walk_seqB 2 [.call (.bool true), .quiet (.bool true)] H1 ?ho2 ?he2
  case ho2 => exact ak (fun γ => ⟨rfl, fun w' h => ⟨41, #[], exec_call rfl call41 rfl (mpn rfl), awake_any w'⟩⟩) (ak (fun _ => ⟨rfl, fun _ _ => rfl⟩) trivial)
  intro _ w2 H2
  clear H1
  refine rest0 rfl (then_normal (wp_seq (wp_seq ?_)))
  refine walk_seqB 3 [.quiet (.slice q n cp), .quiet (.int .i64 ((n : Nat) : Int)), .quiet (.bool false)] H2 ?ho3 ?he3
  case ho3 => exact ak (fun _ => ⟨rfl, fun _ _ => rfl⟩) (ak (by refine fun γ => ⟨rfl, fun w' h => ?_⟩; clear h; go_simp) (ak (by refine fun γ => ⟨rfl, fun w' h => ?_⟩; clear h; go_simp <;> omega) trivial))
  intro _ w3 H3
  clear H2
  refine rest0 rfl (then_normal (wp_cond_false rfl ?_))
  refine wp_skip (then_normal ?_)
  refine wp_seq (wp_seq ?_)
  refine walk_seqB 3 [.quiet (.int .i64 s), .quiet (.agg (pt X Y Z).toArray), .call (.bool false)] H3 ?ho4 ?he4
  case ho4 => exact ak (fun _ => ⟨rfl, fun _ _ => rfl⟩) (ak (fun γ => ⟨rfl, fun w' h => ex_loadT h 0 rfl rfl rfl Try.isAgg25 Try.sizeOf25 rfl rfl⟩) (ak (fun γ => ⟨rfl, fun w' h => ⟨20, #[.int .i64 s, .agg (pt X Y Z).toArray], exec_call rfl call20 rfl (mpn rfl), In_no s h1 h2 _ _ _ w'⟩⟩) trivial))
  intro _ w4 H4
  clear H3
  refine rest0 rfl (then_normal (wp_cond_false rfl ?_))
  refine wp_skip (then_normal ?_)
  refine wp_seq (wp_seq ?_)
  refine walk_seqB 3 [.quiet (.int .i64 s), .quiet (.agg (pt X Y Z).toArray), .call (.bool false)] H4 ?ho5 ?he5
  case ho5 => exact ak (fun _ => ⟨rfl, fun _ _ => rfl⟩) (ak (fun γ => ⟨rfl, fun w' h => ex_loadT h 0 rfl rfl rfl Try.isAgg25 Try.sizeOf25 rfl rfl⟩) (ak (fun γ => ⟨rfl, fun w' h => ⟨19, #[.int .i64 s, .agg (pt X Y Z).toArray], exec_call rfl call19 rfl (mpn rfl), Check_no s h1 h2 _ _ _ w'⟩⟩) trivial))
  intro _ w5 H5
  clear H4
  refine rest0 rfl (then_normal (wp_cond_false rfl ?_))
  refine wp_skip (then_normal (wp_seq ?_))
  refine walk_seqA 9 [.quiet (.int .i64 s), .quiet (.slice q n cp), .call (.tuple #[.agg (pt 0 0 false).toArray, .int .i64 2]), .quiet (.tuple #[.agg (pt 0 0 false).toArray, .int .i64 2]), .quiet (.agg (pt 0 0 false).toArray), .quiet (.int .i64 2), .made (pt 0 0 false) 25, .laid 6 (pt 0 0 false) (pt 0 0 false), .quiet (.int .i64 2)] (sB H5) ?ho6 ?he6 (hL := ?hL6)
  case hL6 => exact ⟨⟨_, rfl⟩, trivial⟩
  case ho6 => exact ak (fun _ => ⟨rfl, fun _ _ => rfl⟩) (ak (fun _ => ⟨rfl, fun _ _ => rfl⟩) (ak (fun γ => ⟨rfl, fun w' h => ⟨36, #[.int .i64 s, .slice q n cp], exec_call rfl call36 rfl (mpn rfl), read_no s h1 h2 _ w'⟩⟩) (ak (fun _ => ⟨rfl, fun _ _ => rfl⟩) (ak (by refine fun γ => ⟨rfl, fun w' h => ?_⟩; clear h; go_simp) (ak (by refine fun γ => ⟨rfl, fun w' h => ?_⟩; clear h; go_simp) (ak (fun γ => ⟨rfl, fun w' => ex_made25 rfl⟩) (ak (fun γ => ⟨rfl, rfl, rfl, fun w' h => ex_laidT h rfl rfl Try.sizeOf25 rfl rfl rfl⟩) (ak (fun _ => ⟨rfl, fun _ _ => rfl⟩) trivial))))))))
  intro γ w6 l hM hl
  have H6 : Hid (Mm w6 [(γ 6, pt 0 0 false), (γ1_0, pt X Y Z)] ∧ _) := growB H5 hM (Nat.le_refl _) hl [6] rfl (by decide)
  have o6_6 := ownB H5 hM (Nat.le_refl _) hl (i := 6) rfl
  clear hM hl l H5
  generalize γ 6 = γ6_6 at H6 o6_6 ⊢
  clear γ
  refine rest0 rfl (then_normal (wp_seq ?_))
  refine walk_seqB 8 [.quiet (.int .i64 s), .quiet (.agg (pt 0 0 false).toArray), .call (.tuple #[.slice none 0 0, .int .i64 2]), .quiet (.tuple #[.slice none 0 0, .int .i64 2]), .quiet (.slice none 0 0), .quiet (.int .i64 2), .quiet (.slice none 0 0), .quiet (.int .i64 2)] H6 ?ho7 ?he7
  case ho7 => exact ak (fun _ => ⟨rfl, fun _ _ => rfl⟩) (ak (fun γ => ⟨rfl, fun w' h => ex_loadT h 0 rfl rfl rfl Try.isAgg25 Try.sizeOf25 rfl rfl⟩) (ak (fun γ => ⟨rfl, fun w' h => ⟨35, #[.int .i64 s, .agg (pt 0 0 false).toArray], exec_call rfl call35 rfl (mpn rfl), bytes_no s h1 h2 _ _ _ w'⟩⟩) (ak (fun _ => ⟨rfl, fun _ _ => rfl⟩) (ak (by refine fun γ => ⟨rfl, fun w' h => ?_⟩; clear h; go_simp) (ak (by refine fun γ => ⟨rfl, fun w' h => ?_⟩; clear h; go_simp) (ak (fun _ => ⟨rfl, fun _ _ => rfl⟩) (ak (fun _ => ⟨rfl, fun _ _ => rfl⟩) trivial)))))))
  intro _ w7 H7
  clear H6
  refine rest0 rfl (then_normal (wp_seq ?_))
  refine walk_seqB 20 [.quiet (.bool true), .quiet (.bool true), .quiet (.int .i64 2), .quiet (.bool true), .quiet (.bool true), .gone, .gone, .gone, .gone, .gone, .gone, .gone, .gone, .gone, .gone, .gone, .gone, .quiet (.bool true), .quiet (.bool true), .quiet (.bool true)] H7 ?ho8 ?he8
  case ho8 => exact ak (fun _ => ⟨rfl, fun _ _ => rfl⟩) (ak (fun _ => ⟨rfl, fun _ _ => rfl⟩) (ak (fun _ => ⟨rfl, fun _ _ => rfl⟩) (ak (by refine fun γ => ⟨rfl, fun w' h => ?_⟩; clear h; go_simp) (ak (fun _ => ⟨rfl, fun _ _ => rfl⟩) (ak (fun γ => rfl) (ak (fun γ => rfl) (ak (fun γ => rfl) (ak (fun γ => rfl) (ak (fun γ => rfl) (ak (fun γ => rfl) (ak (fun γ => rfl) (ak (fun γ => rfl) (ak (fun γ => rfl) (ak (fun γ => rfl) (ak (fun γ => rfl) (ak (fun γ => rfl) (ak (by refine fun γ => ⟨rfl, fun w' h => ?_⟩; clear h; go_simp) (ak (by refine fun γ => ⟨rfl, fun w' h => ?_⟩; clear h; go_simp) (ak (fun _ => ⟨rfl, fun _ _ => rfl⟩) trivial)))))))))))))))))))
  intro _ w8 H8
  clear H7
  refine rest0 rfl (then_normal (wp_ret ?_))
  repeat (first | refine then_ret ?_ | refine block_ret ?_)
  refine bodyPost_ret (v := .bool true) (by simp [results, Try.results8, go_sem, *]) rfl ?_
  exact ⟨rfl, H8.out.2⟩
set_option maxHeartbeats 1000000 in
set_option maxRecDepth 100000 in
theorem back_long (X Y : Nat) (Z : Bool) (q : Option Addr) (n cp : Nat) (hn : ¬ n ≤ 100) (w : World) :
    Calls Try.prog 8 #[.int .i64 s, .agg (pt X Y Z).toArray, .slice q n cp] w fun e w' => e = .returned (.bool true) ∧ Below w.heap.size w w' := by
  have H0 : Hid (_ ∧ _) := ⟨Mm.nil w, Below.refl w.heap.size w⟩
  go_enter Try.func8, Try.ntmps8
  refine wp_seq ?_
  refine walk_seqA 2 [.made (pt X Y Z) 25, .quiet (.bool false)] (sB H0) ?ho1 ?he1
  case ho1 => exact ak (fun γ => ⟨rfl, fun w' => ex_boxT rfl rfl⟩) (ak (fun _ => ⟨rfl, fun _ _ => rfl⟩) trivial)
  intro γ w1 l hM hl
  have H1 : Hid (Mm w1 [(γ 0, pt X Y Z)] ∧ _) := growB H0 hM (Nat.le_refl _) hl [0] rfl (by decide)
  have o1_0 := ownB H0 hM (Nat.le_refl _) hl (i := 0) rfl
  clear hM hl l
  generalize γ 0 = γ1_0 at H1 o1_0 ⊢
  clear γ
  refine rest0 rfl (then_normal (wp_seq ?_))
  refine walk_seqB 2 [.call (.bool true), .quiet (.bool true)] H1 ?ho2 ?he2
  case ho2 => exact ak (fun γ => ⟨rfl, fun w' h => ⟨41, #[], exec_call rfl call41 rfl (mpn rfl), awake_any w'⟩⟩) (ak (fun _ => ⟨rfl, fun _ _ => rfl⟩) trivial)
  intro _ w2 H2
  clear H1
  refine rest0 rfl (then_normal (wp_seq (wp_seq ?_)))
  refine walk_seqB 3 [.quiet (.slice q n cp), .quiet (.int .i64 ((n : Nat) : Int)), .quiet (.bool true)] H2 ?ho3 ?he3
  case ho3 => exact ak (fun _ => ⟨rfl, fun _ _ => rfl⟩) (ak (by refine fun γ => ⟨rfl, fun w' h => ?_⟩; clear h; go_simp) (ak (by refine fun γ => ⟨rfl, fun w' h => ?_⟩; clear h; go_simp <;> omega) trivial))
  intro _ w3 H3
  clear H2
  refine rest0 rfl (then_normal (wp_cond_true rfl (wp_seq ?_)))
  refine walk_seqB 2 [.quiet (.bool true), .quiet (.bool true)] H3 ?ho4 ?he4
  case ho4 => exact ak (fun _ => ⟨rfl, fun _ _ => rfl⟩) (ak (fun _ => ⟨rfl, fun _ _ => rfl⟩) trivial)
  intro _ w4 H4
  clear H3
  refine rest0 rfl (then_normal (wp_ret ?_))
  repeat (first | refine then_ret ?_ | refine block_ret ?_)
  refine bodyPost_ret (v := .bool true) (by simp [results, Try.results8, go_sem, *]) rfl ?_
  exact ⟨rfl, H4.out.2⟩
end
end Rg
end Go.Proofs.Ytjmbgchoioepjaa
end
section
namespace Go.Proofs.Ytjmbgchoioepjaa
open Go.RowKit
namespace Rg
theorem kc_1 : Kc 1 786251 65521 12 9723 164643 := ⟨kf_1, by decide⟩
theorem kc_2 : Kc 2 1152921504606846223 72057594037927889 16 613740293506734924 666621259561003659 := ⟨kf_2, by decide⟩
section
variable {s : Int} {p r c gx gy : Nat}
theorem back_er (k : Kc s p r c gx gy) (X Y : Nat) (Z : Bool) (q : Option Addr) (n cp : Nat) (hn : n ≤ 100) (er : Int) (her : er ≠ 0) (w : World) (cr : ∀ u, Below w.heap.size w u → Calls Try.prog 36 #[.int .i64 s, .slice q n cp] u fun e w' => e = .returned (.tuple #[V (pt 0 0 false), .int .i64 er]) ∧ Below u.heap.size u w') : Calls Try.prog 8 #[.int .i64 s, .agg (pt X Y Z).toArray, .slice q n cp] w fun e w' => e = .returned (.bool true) ∧ Below w.heap.size w w' := by
  have := k.f.q.ne
  cases hi : ig p r X Y Z
  · cases ho : oc p X Y Z
    · exact back_ffe w k X Y Z ho hi q n cp hn er her cr
    · exact back_tfe w k X Y Z ho hi q n cp hn er her cr
  · exact back_tte w k X Y Z (ig_of hi) hi q n cp hn er her cr
theorem back_ok (k : Kc s p r c gx gy) (X Y : Nat) (Z : Bool) (q : Option Addr) (n cp : Nat) (hn : n ≤ 100) (X' Y' : Nat) (Z' : Bool) (hi2 : ig p r X' Y' Z' = true) (w : World) (cr : ∀ u, Below w.heap.size w u → Calls Try.prog 36 #[.int .i64 s, .slice q n cp] u fun e w' => e = .returned (.tuple #[V (pt X' Y' Z'), .int .i64 0]) ∧ Below u.heap.size u w')
    (cs : ∀ g u, Below w.heap.size w u → Mm u [(g, by8 (pb X' Y' Z') 17)] → Calls Try.prog 39 #[.slice (some ⟨g, 0, none⟩) 17 17, .slice q n cp] u fun e w' => e = .returned (.bool true) ∧ Below u.heap.size u w') : Calls Try.prog 8 #[.int .i64 s, .agg (pt X Y Z).toArray, .slice q n cp] w fun e w' => e = .returned (.bool true) ∧ Below w.heap.size w w' := by
  have := k.f.q.ne
  cases hi : ig p r X Y Z
  · cases ho : oc p X Y Z
    · exact back_ffo w k X Y Z ho hi q n cp hn X' Y' Z' hi2 cr cs
    · exact back_tfo w k X Y Z ho hi q n cp hn X' Y' Z' hi2 cr cs
  · exact back_tto w k X Y Z (ig_of hi) hi q n cp hn X' Y' Z' hi2 cr cs
theorem back_row (k : Kc s p r c gx gy) (X Y : Nat) (Z : Bool) (g o cp : Nat) (hc : 17 ≤ cp) (f : Nat → Nat) (hf : ∀ i, f i < 256) (w : World) (hr : Rd g o 17 f w) : Calls Try.prog 8 #[.int .i64 s, .agg (pt X Y Z).toArray, .slice (some ⟨g, o, none⟩) 17 cp] w fun e w' => e = .returned (.bool true) ∧ Below w.heap.size w w' := by
  by_cases h0 : 1 < f 0
  · exact back_er k X Y Z _ 17 cp (by decide) 4 (by decide) w (fun u hu => read_hi k.f.q.k g o cp f hf hc h0 u (hr.below hu))
  · cases ho : oc p (tkn (fun i => f (1 + i)) 8) (tkn (fun i => f (9 + i)) 8) (decide (f 0 = 1))
    · exact back_er k X Y Z _ 17 cp (by decide) 4 (by decide) w (fun u hu => read_oc k.f.q.k g o cp f hf hc h0 ho u (hr.below hu))
    · cases hi : ig p r (tkn (fun i => f (1 + i)) 8) (tkn (fun i => f (9 + i)) 8) (decide (f 0 = 1))
      · exact back_er k X Y Z _ 17 cp (by decide) 5 (by decide) w (fun u hu => read_ig k.f.q.k g o cp f hf hc h0 ho hi u (hr.below hu))
      · refine back_ok k X Y Z _ 17 cp (by decide) _ _ _ hi w (fun u hu => read_ok k.f.q.k g o cp f hf hc h0 ho hi u (hr.below hu)) (fun g' u hu hm => ?_)
        exact same_rd u (Blk.rd (hm.blk _ (List.mem_singleton.2 rfl)).1 (hm.blk _ (List.mem_singleton.2 rfl)).2) (hr.below hu) (Nat.le_refl _) hc (fun i hi => fb_back hf h0 i hi)
theorem back_kc (k : Kc s p r c gx gy) (X Y : Nat) (Z : Bool) (xs : List Int) (cp : Nat) (v : Value) (hx : ∀ x ∈ xs, 0 ≤ x ∧ x < 256) (w : World) (h : BSl w xs cp v) : Calls Try.prog 8 #[.int .i64 s, .agg (pt X Y Z).toArray, v] w fun e w' => e = .returned (.bool true) ∧ Below w.heap.size w w' := by
  cases h using BSl.each with
  | void q hq => exact back_er k X Y Z q 0 cp (by decide) 4 (by decide) w (fun u _ => read_len k.f.q.k q 0 cp (by decide) u)
  | full g o hg hc h =>
    by_cases hn : xs.length ≤ 100
    · by_cases h17 : xs.length = 17
      · have hr : Rd g o 17 (fun i => (xs.getD i 0).toNat) w := ⟨hg, fun i hi => by
          rw [h i (by omega)]
          have hm : xs.getD i 0 ∈ xs := by
            rw [List.getD, List.getElem?_eq_getElem (show i < xs.length by omega)]
            exact List.getElem_mem _
          rw [Int.toNat_of_nonneg (hx _ hm).1]⟩
        have e := back_row k X Y Z g o cp (by omega) (fun i => (xs.getD i 0).toNat) (fun i => by
          by_cases hi : i < xs.length
          · have hm : xs.getD i 0 ∈ xs := by
              rw [List.getD, List.getElem?_eq_getElem hi]
              exact List.getElem_mem _
            have := hx _ hm
            omega
          · rw [List.getD, List.getElem?_eq_none (by omega)]
            decide) w hr
        rw [h17]
        exact e
      · exact back_er k X Y Z _ _ cp hn 4 (by decide) w (fun u _ => read_len k.f.q.k _ _ cp h17 u)
    · exact back_long X Y Z _ _ cp hn w
end
theorem back_any (s : Int) (X Y : Nat) (Z : Bool) (xs : List Int) (cp : Nat) (v : Value) (hx : ∀ x ∈ xs, 0 ≤ x ∧ x < 256) (w : World) (h : BSl w xs cp v) : Calls Try.prog 8 #[.int .i64 s, .agg (pt X Y Z).toArray, v] w fun e w' => e = .returned (.bool true) ∧ Below w.heap.size w w' := by
  by_cases h1 : s = 1
  · subst h1; exact back_kc kc_1 X Y Z xs cp v hx w h
  · by_cases h2 : s = 2
    · subst h2; exact back_kc kc_2 X Y Z xs cp v hx w h
    · cases h using BSl.each with
      | void q hq => exact back_no w s h1 h2 X Y Z q 0 cp (by decide)
      | full g o hg hc h =>
        by_cases hn : xs.length ≤ 100
        · exact back_no w s h1 h2 X Y Z _ _ cp hn
        · exact back_long X Y Z _ _ cp hn w
end Rg
end Go.Proofs.Ytjmbgchoioepjaa
end
