/- trailing, halve, subtract -/
import Derived.Test.YtoagmdgmbkpghabDoorM9
import Derived.Test.YtoagmdgmbkpghabDoorPR
namespace Go.Proofs.YtoagmdgmbkpghabDoor
open Go.RowKit
namespace Rg
theorem call34 : ∀ args w, (callFunc 34 args).run Tryd.prog w = .ok (.enter 34 args) w := by intro args w; go_simp
theorem call42 : ∀ args w, (callFunc 42 args).run Tryd.prog w = .ok (.enter 42 args) w := by intro args w; go_simp
theorem call46 : ∀ args w, (callFunc 46 args).run Tryd.prog w = .ok (.enter 46 args) w := by intro args w; go_simp

theorem ex_loadI {ρ : Operand → Value} {o : Oper} {x : Operand} {g off : Nat} {v : Value} {cs : List Value} {w : World} {l : List (Nat × List Value)} (h : Mm w l) (k : Nat) (hk : l[k]? = some (g, cs)) (ho : o.op = .load 3 x) (hx : ρ x = PT g off) (hc : cs[off]? = some v) :
    (execOp ρ o).run Tryd.prog w = .ok (.value v) w := by
  have c0 := h.cell (List.mem_of_getElem? hk) hc
  clear h hk hc
  simp only [execOp, ho, hx]
  go_simp
theorem ex_loadB {ρ : Operand → Value} {o : Oper} {x : Operand} {g off : Nat} {v : Value} {cs : List Value} {w : World} {l : List (Nat × List Value)} (h : Mm w l) (k : Nat) (hk : l[k]? = some (g, cs)) (ho : o.op = .load 4 x) (hx : ρ x = PT g off) (hc : cs[off]? = some v) :
    (execOp ρ o).run Tryd.prog w = .ok (.value v) w := by
  have c0 := h.cell (List.mem_of_getElem? hk) hc
  clear h hk hc
  simp only [execOp, ho, hx]
  go_simp
/-- The table of math/bits. -/
def dtab : List Value := Lib.deBruijn64tab.map fun k => .int .u8 ((k : Nat) : Int)
theorem tab_at {w : World} (h : Mm w [(0, dtab)]) : TabAt 0 Lib.deBruijn64tab w := fun j hj => by
  refine h.get 0 rfl j ?_
  unfold dtab
  rw [List.getElem?_map, List.getElem?_eq_getElem hj, Option.map_some, List.getD_eq_getElem?_getD, List.getElem?_eq_getElem hj, Option.getD_some]
theorem tz_word (x : Nat) (hx : x < 18446744073709551616) (w : World) (ht : Mm w [(0, dtab)]) : Calls Tryd.prog 46 #[.int .u64 x] w fun e w' => e = .returned (.int .i64 (Lib.ctz 64 x)) ∧ Below w.heap.size w w' :=
  (Any7.bits_TrailingZeros64 Tryd.lays29 x hx w (fun _ => tab_at ht)).mono fun _ _ ⟨h1, h2⟩ => ⟨h1, h2 ▸ Below.refl _ _⟩
/-- What stands in memory of a walk. -/
abbrev wkc (o r u v : Nat) (h : Int) (t : Bool) : List Value := [.int .u64 (wd o 0), .int .u64 (wd o 1), .int .u64 (wd o 2), .int .u64 (wd o 3), .int .u64 (wd o 4), .int .u64 (wd o 5), .int .u64 (wd r 0), .int .u64 (wd r 1), .int .u64 (wd r 2), .int .u64 (wd r 3), .int .u64 (wd r 4), .int .u64 (wd r 5), .int .u64 (wd u 0), .int .u64 (wd u 1), .int .u64 (wd u 2), .int .u64 (wd u 3), .int .u64 (wd u 4), .int .u64 (wd u 5), .int .u64 (wd v 0), .int .u64 (wd v 1), .int .u64 (wd v 2), .int .u64 (wd v 3), .int .u64 (wd v 4), .int .u64 (wd v 5), .int .i64 h, .bool t]
set_option maxRecDepth 100000 in
theorem trailing_gen (r m c : Nat) (hm6 : m < 6) (hc64 : c ≤ 64) (hz0 : ∀ j, j < m → wd r j = 0) (hm0 : wd r m ≠ 0)
    (c72 : ∀ w, Mm w [(0, dtab)] → Calls Tryd.prog 46 #[.int .u64 (wd r m)] w fun e w' => e = .returned (.int .i64 ((c : Nat) : Int)) ∧ Below w.heap.size w w') (w : World) (hm : Mm w [(0, dtab)]) :
    Calls Tryd.prog 42 #[N r] w fun e w' => e = .returned (.int .i64 ((64 * m + c : Nat) : Int)) ∧ Below w.heap.size w w' := by
  have H0 : Hid (_ ∧ _) := ⟨hm, Below.refl w.heap.size w⟩
  clear hm
  have C72 : Hid _ := c72
  have HZ : Hid _ := hz0
  have HM : Hid _ := hm0
  clear c72 hz0 hm0
  go_enter Tryd.func42, Tryd.ntmps42
  refine wp_seq ?_
  refine walk_seq 2 [.made (cells6 r) 24, .quiet (.int .i64 0)] (fun w' => Mm w' [(0, dtab)]) ?pre1 ?F1 ?hpre1 (fun γ => ?hF1) (by kernel_rfl) ?hL1 ?hS1 ?ho1 ?he1
  case hpre1 =>
    simp only [List.take_succ_cons, List.take_zero]
    exact rfl
  case hF1 =>
    simp only [fill, Kind.val, Act.put, List.setIfInBounds_toArray, List.set_cons_zero, List.set_cons_succ]
    exact rfl
  case hL1 => exact trivial
  case hS1 => exact fun w' hb => H0.out.1.below hb
  case ho1 =>
    refine AllOk.cons ?_ ?_
    · exact fun γ => ⟨rfl, fun w' => ex_box6 rfl rfl⟩
    refine AllOk.cons ?_ ?_
    · exact fun γ => ⟨rfl, fun w' _ => rfl⟩
    exact trivial
  intro γ w1 l hM hl
  have M1 : Mm w1 [(γ 0, cells6 r), (0, dtab)] := H0.out.1.grow hM (Nat.le_refl _) hl [0] rfl (by decide)
  have B1 : Below w.heap.size w w1 := H0.out.2.trans (hM.below.mono H0.out.2.size)
  have o1_0 : Hid (w.heap.size ≤ γ 0) := Nat.le_trans H0.out.2.size (hM.fin (Nat.le_refl _) hl (i := 0) rfl).2.1
  clear hM hl l
  generalize γ 0 = γ1_0 at M1 o1_0 ⊢
  clear γ
  have H1 : Hid (_ ∧ _) := ⟨M1, B1⟩
  clear M1 B1
  refine rest_at (l := []) rfl ?_
  refine rest_nil ?_
  refine then_normal ?_
  refine wp_seq ?_
  refine wp_seq ?_
  refine walk_seq 2 [.quiet (N r), .quiet (.int .i64 0)] (fun w' => Mm w' [(γ1_0, cells6 r), (0, dtab)]) ?pre2 ?F2 ?hpre2 (fun γ => ?hF2) (by kernel_rfl) ?hL2 ?hS2 ?ho2 ?he2
  case hpre2 =>
    simp only [List.take_succ_cons, List.take_zero]
    exact rfl
  case hF2 =>
    simp only [fill, Kind.val, Act.put, List.setIfInBounds_toArray, List.set_cons_zero, List.set_cons_succ]
    exact rfl
  case hL2 => exact trivial
  case hS2 => exact fun w' hb => H1.out.1.below hb
  case ho2 =>
    refine AllOk.cons ?_ ?_
    · exact fun γ => ⟨rfl, fun w' h => ex_load6 h 0 rfl rfl rfl rfl⟩
    refine AllOk.cons ?_ ?_
    · exact fun γ => ⟨rfl, fun w' _ => rfl⟩
    exact trivial
  intro γ w2 l hM hl
  have M2 : Mm w2 [(γ1_0, cells6 r), (0, dtab)] := H1.out.1.grow hM (Nat.le_refl _) hl [] rfl (by decide)
  have B2 : Below w.heap.size w w2 := H1.out.2.trans (hM.below.mono H1.out.2.size)
  clear hM hl l H1
  clear γ
  have H2 : Hid (_ ∧ _) := ⟨M2, B2⟩
  clear M2 B2
  refine rest_at (l := []) rfl ?_
  refine rest_nil ?_
  refine then_normal ?_
  refine wp_block ?_
  refine loop_ghost (α := Nat) (fun i a' w' => ∃ s0 : Nat → Value, a' = ⟨#[N r, PT γ1_0 0, s0 2, s0 3, s0 4, N r, .int .i64 ((i : Nat) : Int), s0 7, s0 8, s0 9, s0 10, s0 11, s0 12, s0 13, s0 14, s0 15, s0 16, s0 17], []⟩ ∧ (Mm w' [(γ1_0, cells6 r), (0, dtab)] ∧ Below w.heap.size w w') ∧ i ≤ m) (fun i => m - i) 0 ?st0 ?rd0
  case st0 => exact ⟨(slotfn [undef, undef, .int .i64 0, undef, undef, undef, undef, undef, undef, undef, undef, undef, undef, undef, undef, undef, undef, undef]), rfl, ⟨H2.out.1, H2.out.2⟩, by omega⟩
  intro i a' w3 hI
  obtain ⟨s0, rfl, hMB, hk0⟩ := hI
  have H3 : Hid (_ ∧ _) := hMB
  clear hMB H2
  have hi6 : i < 6 := by omega
  by_cases hz : wd r i = 0
  · have hrd : True := trivial
    clear hrd
    have hz' : wd r i = 0 := hz
    refine wp_seq ?_
    refine walk_seq 1 [.quiet (.bool true)] (fun w' => Mm w' [(γ1_0, cells6 r), (0, dtab)]) ?pre3 ?F3 ?hpre3 (fun γ => ?hF3) (by kernel_rfl) ?hL3 ?hS3 ?ho3 ?he3
    case hpre3 =>
      simp only [List.take_succ_cons, List.take_zero]
      exact rfl
    case hF3 =>
      simp only [fill, Kind.val, Act.put, List.setIfInBounds_toArray, List.set_cons_zero, List.set_cons_succ]
      exact rfl
    case hL3 => exact trivial
    case hS3 => exact fun w' hb => H3.out.1.below hb
    case ho3 =>
      refine AllOk.cons ?_ ?_
      · (refine fun γ => ⟨rfl, fun w' h => ?_⟩; clear h; go_simp <;> omega)
      exact trivial
    intro γ w4 l hM hl
    have M4 : Mm w4 [(γ1_0, cells6 r), (0, dtab)] := H3.out.1.grow hM (Nat.le_refl _) hl [] rfl (by decide)
    have B4 : Below w.heap.size w w4 := H3.out.2.trans (hM.below.mono H3.out.2.size)
    clear hM hl l H3
    clear γ
    have H4 : Hid (_ ∧ _) := ⟨M4, B4⟩
    clear M4 B4
    refine rest_at (l := []) rfl ?_
    refine rest_nil ?_
    refine then_normal ?_
    refine wp_seq ?_
    refine wp_cond_true rfl ?_
    refine wp_skip ?_
    refine then_normal ?_
    refine wp_seq ?_
    refine wp_block ?_
    refine wp_seq ?_
    refine walk_seq 4 [.quiet (.int .i64 ((i : Nat) : Int)), .quiet (.int .u64 (wd r i)), .quiet (.int .i64 ((i : Nat) : Int)), .quiet (.int .u64 (wd r i))] (fun w' => Mm w' [(γ1_0, cells6 r), (0, dtab)]) ?pre4 ?F4 ?hpre4 (fun γ => ?hF4) (by kernel_rfl) ?hL4 ?hS4 ?ho4 ?he4
    case hpre4 =>
      simp only [List.take_succ_cons, List.take_zero]
      exact rfl
    case hF4 =>
      simp only [fill, Kind.val, Act.put, List.setIfInBounds_toArray, List.set_cons_zero, List.set_cons_succ]
      exact rfl
    case hL4 => exact trivial
    case hS4 => exact fun w' hb => H4.out.1.below hb
    case ho4 =>
      refine AllOk.cons ?_ ?_
      · exact fun γ => ⟨rfl, fun w' _ => rfl⟩
      refine AllOk.cons ?_ ?_
      · exact fun γ => ⟨rfl, fun w' _ => ex_index6 rfl rfl rfl hi6⟩
      refine AllOk.cons ?_ ?_
      · exact fun γ => ⟨rfl, fun w' _ => rfl⟩
      refine AllOk.cons ?_ ?_
      · exact fun γ => ⟨rfl, fun w' _ => rfl⟩
      exact trivial
    intro γ w5 l hM hl
    have M5 : Mm w5 [(γ1_0, cells6 r), (0, dtab)] := H4.out.1.grow hM (Nat.le_refl _) hl [] rfl (by decide)
    have B5 : Below w.heap.size w w5 := H4.out.2.trans (hM.below.mono H4.out.2.size)
    clear hM hl l H4
    clear γ
    have H5 : Hid (_ ∧ _) := ⟨M5, B5⟩
    clear M5 B5
    refine rest_at (l := []) rfl ?_
    refine rest_nil ?_
    refine then_normal ?_
    refine wp_seq ?_
    refine walk_seq 2 [.quiet (.int .u64 (wd r i)), .quiet (.bool false)] (fun w' => Mm w' [(γ1_0, cells6 r), (0, dtab)]) ?pre5 ?F5 ?hpre5 (fun γ => ?hF5) (by kernel_rfl) ?hL5 ?hS5 ?ho5 ?he5
    case hpre5 =>
      simp only [List.take_succ_cons, List.take_zero]
      exact rfl
    case hF5 =>
      simp only [fill, Kind.val, Act.put, List.setIfInBounds_toArray, List.set_cons_zero, List.set_cons_succ]
      exact rfl
    case hL5 => exact trivial
    case hS5 => exact fun w' hb => H5.out.1.below hb
    case ho5 =>
      refine AllOk.cons ?_ ?_
      · exact fun γ => ⟨rfl, fun w' _ => rfl⟩
      refine AllOk.cons ?_ ?_
      · (refine fun γ => ⟨rfl, fun w' h => ?_⟩; clear h; go_simp <;> omega)
      exact trivial
    intro γ w6 l hM hl
    have M6 : Mm w6 [(γ1_0, cells6 r), (0, dtab)] := H5.out.1.grow hM (Nat.le_refl _) hl [] rfl (by decide)
    have B6 : Below w.heap.size w w6 := H5.out.2.trans (hM.below.mono H5.out.2.size)
    clear hM hl l H5
    clear γ
    have H6 : Hid (_ ∧ _) := ⟨M6, B6⟩
    clear M6 B6
    refine rest_at (l := []) rfl ?_
    refine rest_nil ?_
    refine then_normal ?_
    refine wp_cond_false rfl ?_
    refine wp_skip ?_
    refine block_normal ?_
    refine then_normal ?_
    refine walk_seq 1 [.quiet (.int .i64 ((i + 1 : Nat) : Int))] (fun w' => Mm w' [(γ1_0, cells6 r), (0, dtab)]) ?pre6 ?F6 ?hpre6 (fun γ => ?hF6) (by kernel_rfl) ?hL6 ?hS6 ?ho6 ?he6
    case hpre6 =>
      simp only [List.take_succ_cons, List.take_zero]
      exact rfl
    case hF6 =>
      simp only [fill, Kind.val, Act.put, List.setIfInBounds_toArray, List.set_cons_zero, List.set_cons_succ]
      exact rfl
    case hL6 => exact trivial
    case hS6 => exact fun w' hb => H6.out.1.below hb
    case ho6 =>
      refine AllOk.cons ?_ ?_
      · (refine fun γ => ⟨rfl, fun w' h => ?_⟩; clear h; go_simp; rw [IntKind.wrap_i64]; omega)
      exact trivial
    intro γ w7 l hM hl
    have M7 : Mm w7 [(γ1_0, cells6 r), (0, dtab)] := H6.out.1.grow hM (Nat.le_refl _) hl [] rfl (by decide)
    have B7 : Below w.heap.size w w7 := H6.out.2.trans (hM.below.mono H6.out.2.size)
    clear hM hl l H6
    clear γ
    have H7 : Hid (_ ∧ _) := ⟨M7, B7⟩
    clear M7 B7
    refine rest_at (l := [1]) rfl ?_
    refine rest_set (d := 6) rfl rfl rfl rfl ?_
    simp only [Act.put, List.setIfInBounds_toArray, List.set_cons_zero, List.set_cons_succ]
    refine rest_nil ?_
    refine then_normal ?_
    exact ⟨i + 1, ⟨(slotfn [undef, undef, s0 2, .int .i64 ((i : Nat) : Int), .int .u64 (wd r i), undef, undef, .bool true, .int .i64 ((i : Nat) : Int), .int .u64 (wd r i), .int .u64 (wd r i), .bool false, s0 12, s0 13, s0 14, s0 15, s0 16, .int .i64 ((i + 1 : Nat) : Int)]), rfl, ⟨H7.out.1, H7.out.2⟩, by have h1 : i ≠ m := fun e => HM.out (e ▸ hz'); omega⟩, by have h1 : i ≠ m := fun e => HM.out (e ▸ hz'); omega⟩
  · have hrd : True := trivial
    clear hrd
    have hij : i = m := by
      apply Classical.byContradiction
      intro hne
      exact hz (HZ.out i (by omega))
    subst hij
    refine wp_seq ?_
    refine walk_seq 1 [.quiet (.bool true)] (fun w' => Mm w' [(γ1_0, cells6 r), (0, dtab)]) ?pre7 ?F7 ?hpre7 (fun γ => ?hF7) (by kernel_rfl) ?hL7 ?hS7 ?ho7 ?he7
    case hpre7 =>
      simp only [List.take_succ_cons, List.take_zero]
      exact rfl
    case hF7 =>
      simp only [fill, Kind.val, Act.put, List.setIfInBounds_toArray, List.set_cons_zero, List.set_cons_succ]
      exact rfl
    case hL7 => exact trivial
    case hS7 => exact fun w' hb => H3.out.1.below hb
    case ho7 =>
      refine AllOk.cons ?_ ?_
      · (refine fun γ => ⟨rfl, fun w' h => ?_⟩; clear h; go_simp <;> omega)
      exact trivial
    intro γ w8 l hM hl
    have M8 : Mm w8 [(γ1_0, cells6 r), (0, dtab)] := H3.out.1.grow hM (Nat.le_refl _) hl [] rfl (by decide)
    have B8 : Below w.heap.size w w8 := H3.out.2.trans (hM.below.mono H3.out.2.size)
    clear hM hl l H3
    clear γ
    have H8 : Hid (_ ∧ _) := ⟨M8, B8⟩
    clear M8 B8
    refine rest_at (l := []) rfl ?_
    refine rest_nil ?_
    refine then_normal ?_
    refine wp_seq ?_
    refine wp_cond_true rfl ?_
    refine wp_skip ?_
    refine then_normal ?_
    refine wp_seq ?_
    refine wp_block ?_
    refine wp_seq ?_
    refine walk_seq 4 [.quiet (.int .i64 ((i : Nat) : Int)), .quiet (.int .u64 (wd r i)), .quiet (.int .i64 ((i : Nat) : Int)), .quiet (.int .u64 (wd r i))] (fun w' => Mm w' [(γ1_0, cells6 r), (0, dtab)]) ?pre8 ?F8 ?hpre8 (fun γ => ?hF8) (by kernel_rfl) ?hL8 ?hS8 ?ho8 ?he8
    case hpre8 =>
      simp only [List.take_succ_cons, List.take_zero]
      exact rfl
    case hF8 =>
      simp only [fill, Kind.val, Act.put, List.setIfInBounds_toArray, List.set_cons_zero, List.set_cons_succ]
      exact rfl
    case hL8 => exact trivial
    case hS8 => exact fun w' hb => H8.out.1.below hb
    case ho8 =>
      refine AllOk.cons ?_ ?_
      · exact fun γ => ⟨rfl, fun w' _ => rfl⟩
      refine AllOk.cons ?_ ?_
      · exact fun γ => ⟨rfl, fun w' _ => ex_index6 rfl rfl rfl hi6⟩
      refine AllOk.cons ?_ ?_
      · exact fun γ => ⟨rfl, fun w' _ => rfl⟩
      refine AllOk.cons ?_ ?_
      · exact fun γ => ⟨rfl, fun w' _ => rfl⟩
      exact trivial
    intro γ w9 l hM hl
    have M9 : Mm w9 [(γ1_0, cells6 r), (0, dtab)] := H8.out.1.grow hM (Nat.le_refl _) hl [] rfl (by decide)
    have B9 : Below w.heap.size w w9 := H8.out.2.trans (hM.below.mono H8.out.2.size)
    clear hM hl l H8
    clear γ
    have H9 : Hid (_ ∧ _) := ⟨M9, B9⟩
    clear M9 B9
    refine rest_at (l := []) rfl ?_
    refine rest_nil ?_
    refine then_normal ?_
    refine wp_seq ?_
    refine walk_seq 2 [.quiet (.int .u64 (wd r i)), .quiet (.bool true)] (fun w' => Mm w' [(γ1_0, cells6 r), (0, dtab)]) ?pre9 ?F9 ?hpre9 (fun γ => ?hF9) (by kernel_rfl) ?hL9 ?hS9 ?ho9 ?he9
    case hpre9 =>
      simp only [List.take_succ_cons, List.take_zero]
      exact rfl
    case hF9 =>
      simp only [fill, Kind.val, Act.put, List.setIfInBounds_toArray, List.set_cons_zero, List.set_cons_succ]
      exact rfl
    case hL9 => exact trivial
    case hS9 => exact fun w' hb => H9.out.1.below hb
    case ho9 =>
      refine AllOk.cons ?_ ?_
      · exact fun γ => ⟨rfl, fun w' _ => rfl⟩
      refine AllOk.cons ?_ ?_
      · (refine fun γ => ⟨rfl, fun w' h => ?_⟩; clear h; go_simp <;> omega)
      exact trivial
    intro γ w10 l hM hl
    have M10 : Mm w10 [(γ1_0, cells6 r), (0, dtab)] := H9.out.1.grow hM (Nat.le_refl _) hl [] rfl (by decide)
    have B10 : Below w.heap.size w w10 := H9.out.2.trans (hM.below.mono H9.out.2.size)
    clear hM hl l H9
    clear γ
    have H10 : Hid (_ ∧ _) := ⟨M10, B10⟩
    clear M10 B10
    refine rest_at (l := []) rfl ?_
    refine rest_nil ?_
    refine then_normal ?_
    refine wp_cond_true rfl ?_
    refine wp_seq ?_
    refine walk_seq 6 [.quiet (.int .i64 ((i : Nat) : Int)), .quiet (.int .i64 ((64 * i : Nat) : Int)), .quiet (.int .u64 (wd r i)), .call (.int .i64 ((c : Nat) : Int)), .quiet (.int .i64 ((64 * i + c : Nat) : Int)), .quiet (.int .i64 ((64 * i + c : Nat) : Int))] (fun w' => Mm w' [(γ1_0, cells6 r), (0, dtab)]) ?pre10 ?F10 ?hpre10 (fun γ => ?hF10) (by kernel_rfl) ?hL10 ?hS10 ?ho10 ?he10
    case hpre10 =>
      simp only [List.take_succ_cons, List.take_zero]
      exact rfl
    case hF10 =>
      simp only [fill, Kind.val, Act.put, List.setIfInBounds_toArray, List.set_cons_zero, List.set_cons_succ]
      exact rfl
    case hL10 => exact trivial
    case hS10 => exact fun w' hb => H10.out.1.below hb
    case ho10 =>
      refine AllOk.cons ?_ ?_
      · exact fun γ => ⟨rfl, fun w' _ => rfl⟩
      refine AllOk.cons ?_ ?_
      · (refine fun γ => ⟨rfl, fun w' h => ?_⟩; clear h; go_simp; rw [IntKind.wrap_i64]; omega)
      refine AllOk.cons ?_ ?_
      · exact fun γ => ⟨rfl, fun w' _ => rfl⟩
      refine AllOk.cons ?_ ?_
      · exact fun γ => ⟨rfl, fun w' h => ⟨46, #[.int .u64 (wd r i)], exec_call rfl call46 rfl (by simp only [List.map_toArray, List.map_cons, List.map_nil]; rfl), C72.out w' (h.one 1 rfl)⟩⟩
      refine AllOk.cons ?_ ?_
      · (refine fun γ => ⟨rfl, fun w' h => ?_⟩; clear h; go_simp; rw [IntKind.wrap_i64]; omega)
      refine AllOk.cons ?_ ?_
      · exact fun γ => ⟨rfl, fun w' _ => rfl⟩
      exact trivial
    intro γ w11 l hM hl
    have M11 : Mm w11 [(γ1_0, cells6 r), (0, dtab)] := H10.out.1.grow hM (Nat.le_refl _) hl [] rfl (by decide)
    have B11 : Below w.heap.size w w11 := H10.out.2.trans (hM.below.mono H10.out.2.size)
    clear hM hl l H10
    clear γ
    have H11 : Hid (_ ∧ _) := ⟨M11, B11⟩
    clear M11 B11
    refine rest_at (l := []) rfl ?_
    refine rest_nil ?_
    refine then_normal ?_
    refine wp_ret ?_
    repeat (first | refine then_ret ?_ | refine block_ret ?_)
    refine bodyPost_ret (v := .int .i64 ((64 * i + c : Nat) : Int)) (by simp [results, Tryd.results42, go_sem, *]) rfl ?_
    exact ⟨rfl, H11.out.2⟩
set_option maxRecDepth 100000 in
theorem halve_gen (g o r u v k r' u' : Nat) (h : Int) (t : Bool) (hk : k < 384) (h0 : 0 ≤ h) (h1 : h < 10000)
    (c66 : ∀ w, Mm w [(0, dtab)] → Calls Tryd.prog 42 #[N r] w fun e w' => e = .returned (.int .i64 ((k : Nat) : Int)) ∧ Below w.heap.size w w')
    (c53 : ∀ w, Calls Tryd.prog 34 #[N r, .int .i64 (-((k : Nat) : Int))] w fun e w' => e = .returned (N r') ∧ Below w.heap.size w w')
    (d53 : ∀ w, Calls Tryd.prog 34 #[N u, .int .i64 ((k : Nat) : Int)] w fun e w' => e = .returned (N u') ∧ Below w.heap.size w w') (w : World) (hm : Mm w [(g, wkc o r u v h t), (0, dtab)]) :
    Calls Tryd.prog 29 #[PT g 0] w fun e w' => e = .returned (.tuple #[]) ∧ Mm w' [(g, wkc o r' u' v (h + ((k : Nat) : Int)) t)] ∧ Kp g w w' := by
  have H0 : Hid (_ ∧ _) := ⟨hm, Kp.refl g w⟩
  clear hm
  have C66 : Hid _ := c66
  have C53 : Hid _ := c53
  have D53 : Hid _ := d53
  clear c66 c53 d53
  go_enter Tryd.func29, Tryd.ntmps29
  refine wp_seq ?_
  refine walk_seq 6 [.quiet (PT g 0), .quiet (PT g 0), .quiet (PT g 6), .quiet (N r), .call (.int .i64 ((k : Nat) : Int)), .quiet (.int .i64 ((k : Nat) : Int))] (fun w' => Mm w' [(g, wkc o r u v h t), (0, dtab)]) ?pre1 ?F1 ?hpre1 (fun γ => ?hF1) (by kernel_rfl) ?hL1 ?hS1 ?ho1 ?he1
  case hpre1 =>
    simp only [List.take_succ_cons, List.take_zero]
    exact rfl
  case hF1 =>
    simp only [fill, Kind.val, Act.put, List.setIfInBounds_toArray, List.set_cons_zero, List.set_cons_succ]
    exact rfl
  case hL1 => exact trivial
  case hS1 => exact fun w' hb => H0.out.1.below hb
  case ho1 =>
    refine AllOk.cons ?_ ?_
    · exact fun γ => ⟨rfl, fun w' _ => rfl⟩
    refine AllOk.cons ?_ ?_
    · (refine fun γ => ⟨rfl, fun w' hh => ?_⟩; clear hh; go_simp)
    refine AllOk.cons ?_ ?_
    · (refine fun γ => ⟨rfl, fun w' hh => ?_⟩; clear hh; go_simp)
    refine AllOk.cons ?_ ?_
    · exact fun γ => ⟨rfl, fun w' hh => ex_load6 hh 0 rfl rfl rfl rfl⟩
    refine AllOk.cons ?_ ?_
    · exact fun γ => ⟨rfl, fun w' hh => ⟨42, #[N r], exec_call rfl call42 rfl (by simp only [List.map_toArray, List.map_cons, List.map_nil]; rfl), C66.out w' (hh.one 1 rfl)⟩⟩
    refine AllOk.cons ?_ ?_
    · exact fun γ => ⟨rfl, fun w' _ => rfl⟩
    exact trivial
  intro γ w1 l hM hl
  have M1 : Mm w1 [(g, wkc o r u v h t), (0, dtab)] := H0.out.1.grow hM (Nat.le_refl _) hl [] rfl (by decide)
  have B1 : Kp g w w1 := H0.out.2.trans (hM.below)
  clear hM hl l
  clear γ
  have H1 : Hid (_ ∧ _) := ⟨M1, B1⟩
  clear M1 B1
  refine rest_at (l := []) rfl ?_
  refine rest_nil ?_
  refine then_normal ?_
  refine wp_seq ?_
  refine walk_seq 10 [.quiet (PT g 0), .quiet (PT g 0), .quiet (PT g 0), .quiet (PT g 6), .quiet (N r), .quiet (.int .i64 ((k : Nat) : Int)), .quiet (.int .i64 (-((k : Nat) : Int))), .call (N r'), .quiet (PT g 0), .quiet (PT g 6)] (fun w' => Mm w' [(g, wkc o r u v h t), (0, dtab)]) ?pre2 ?F2 ?hpre2 (fun γ => ?hF2) (by kernel_rfl) ?hL2 ?hS2 ?ho2 ?he2
  case hpre2 =>
    simp only [List.take_succ_cons, List.take_zero]
    exact rfl
  case hF2 =>
    simp only [fill, Kind.val, Act.put, List.setIfInBounds_toArray, List.set_cons_zero, List.set_cons_succ]
    exact rfl
  case hL2 => exact trivial
  case hS2 => exact fun w' hb => H1.out.1.below hb
  case ho2 =>
    refine AllOk.cons ?_ ?_
    · exact fun γ => ⟨rfl, fun w' _ => rfl⟩
    refine AllOk.cons ?_ ?_
    · exact fun γ => ⟨rfl, fun w' _ => rfl⟩
    refine AllOk.cons ?_ ?_
    · (refine fun γ => ⟨rfl, fun w' hh => ?_⟩; clear hh; go_simp)
    refine AllOk.cons ?_ ?_
    · (refine fun γ => ⟨rfl, fun w' hh => ?_⟩; clear hh; go_simp)
    refine AllOk.cons ?_ ?_
    · exact fun γ => ⟨rfl, fun w' hh => ex_load6 hh 0 rfl rfl rfl rfl⟩
    refine AllOk.cons ?_ ?_
    · exact fun γ => ⟨rfl, fun w' _ => rfl⟩
    refine AllOk.cons ?_ ?_
    · (refine fun γ => ⟨rfl, fun w' hh => ?_⟩; clear hh; go_simp; rw [IntKind.wrap_i64]; omega)
    refine AllOk.cons ?_ ?_
    · exact fun γ => ⟨rfl, fun w' hh => ⟨34, #[N r, .int .i64 (-((k : Nat) : Int))], exec_call rfl call34 rfl (by simp only [List.map_toArray, List.map_cons, List.map_nil]; rfl), C53.out w'⟩⟩
    refine AllOk.cons ?_ ?_
    · (refine fun γ => ⟨rfl, fun w' hh => ?_⟩; clear hh; go_simp)
    refine AllOk.cons ?_ ?_
    · (refine fun γ => ⟨rfl, fun w' hh => ?_⟩; clear hh; go_simp)
    exact trivial
  intro γ w2 l hM hl
  have M2 : Mm w2 [(g, wkc o r u v h t), (0, dtab)] := H1.out.1.grow hM (Nat.le_refl _) hl [] rfl (by decide)
  have B2 : Kp g w w2 := H1.out.2.trans (hM.below)
  clear hM hl l H1
  clear γ
  have H2 : Hid (_ ∧ _) := ⟨M2, B2⟩
  clear M2 B2
  refine rest_at (l := [10]) rfl ?_
  refine rest_store rfl rfl rfl (ex_store6 H2.out.1 0 rfl rfl rfl rfl (Nat.le_of_ble_eq_true rfl)) ?_
  have H3 : Hid (Mm (w2.setCells g 6 (cells6 r')) [(g, wkc o r' u v h t), (0, dtab)] ∧ Kp g w (w2.setCells g 6 (cells6 r'))) := ⟨H2.out.1.put 0 (off := 6) (vs := cells6 r') rfl (Nat.le_of_ble_eq_true rfl), H2.out.2.put (Or.inl rfl)⟩
  clear H2
  generalize hgw : World.setCells _ _ _ _ = w3 at H3 ⊢
  clear hgw
  refine rest_nil ?_
  refine then_normal ?_
  refine wp_seq ?_
  refine walk_seq 9 [.quiet (PT g 0), .quiet (PT g 0), .quiet (PT g 0), .quiet (PT g 12), .quiet (N u), .quiet (.int .i64 ((k : Nat) : Int)), .call (N u'), .quiet (PT g 0), .quiet (PT g 12)] (fun w' => Mm w' [(g, wkc o r' u v h t), (0, dtab)]) ?pre3 ?F3 ?hpre3 (fun γ => ?hF3) (by kernel_rfl) ?hL3 ?hS3 ?ho3 ?he3
  case hpre3 =>
    simp only [List.take_succ_cons, List.take_zero]
    exact rfl
  case hF3 =>
    simp only [fill, Kind.val, Act.put, List.setIfInBounds_toArray, List.set_cons_zero, List.set_cons_succ]
    exact rfl
  case hL3 => exact trivial
  case hS3 => exact fun w' hb => H3.out.1.below hb
  case ho3 =>
    refine AllOk.cons ?_ ?_
    · exact fun γ => ⟨rfl, fun w' _ => rfl⟩
    refine AllOk.cons ?_ ?_
    · exact fun γ => ⟨rfl, fun w' _ => rfl⟩
    refine AllOk.cons ?_ ?_
    · (refine fun γ => ⟨rfl, fun w' hh => ?_⟩; clear hh; go_simp)
    refine AllOk.cons ?_ ?_
    · (refine fun γ => ⟨rfl, fun w' hh => ?_⟩; clear hh; go_simp)
    refine AllOk.cons ?_ ?_
    · exact fun γ => ⟨rfl, fun w' hh => ex_load6 hh 0 rfl rfl rfl rfl⟩
    refine AllOk.cons ?_ ?_
    · exact fun γ => ⟨rfl, fun w' _ => rfl⟩
    refine AllOk.cons ?_ ?_
    · exact fun γ => ⟨rfl, fun w' hh => ⟨34, #[N u, .int .i64 ((k : Nat) : Int)], exec_call rfl call34 rfl (by simp only [List.map_toArray, List.map_cons, List.map_nil]; rfl), D53.out w'⟩⟩
    refine AllOk.cons ?_ ?_
    · (refine fun γ => ⟨rfl, fun w' hh => ?_⟩; clear hh; go_simp)
    refine AllOk.cons ?_ ?_
    · (refine fun γ => ⟨rfl, fun w' hh => ?_⟩; clear hh; go_simp)
    exact trivial
  intro γ w4 l hM hl
  have M4 : Mm w4 [(g, wkc o r' u v h t), (0, dtab)] := H3.out.1.grow hM (Nat.le_refl _) hl [] rfl (by decide)
  have B4 : Kp g w w4 := H3.out.2.trans (hM.below)
  clear hM hl l H3
  clear γ
  have H4 : Hid (_ ∧ _) := ⟨M4, B4⟩
  clear M4 B4
  refine rest_at (l := [9]) rfl ?_
  refine rest_store rfl rfl rfl (ex_store6 H4.out.1 0 rfl rfl rfl rfl (Nat.le_of_ble_eq_true rfl)) ?_
  have H5 : Hid (Mm (w4.setCells g 12 (cells6 u')) [(g, wkc o r' u' v h t), (0, dtab)] ∧ Kp g w (w4.setCells g 12 (cells6 u'))) := ⟨H4.out.1.put 0 (off := 12) (vs := cells6 u') rfl (Nat.le_of_ble_eq_true rfl), H4.out.2.put (Or.inl rfl)⟩
  clear H4
  generalize hgw : World.setCells _ _ _ _ = w5 at H5 ⊢
  clear hgw
  refine rest_nil ?_
  refine then_normal ?_
  refine walk_seq 8 [.quiet (PT g 0), .quiet (PT g 0), .quiet (PT g 24), .quiet (.int .i64 h), .quiet (.int .i64 ((k : Nat) : Int)), .quiet (.int .i64 (h + ((k : Nat) : Int))), .quiet (PT g 0), .quiet (PT g 24)] (fun w' => Mm w' [(g, wkc o r' u' v h t), (0, dtab)]) ?pre4 ?F4 ?hpre4 (fun γ => ?hF4) (by kernel_rfl) ?hL4 ?hS4 ?ho4 ?he4
  case hpre4 =>
    simp only [List.take_succ_cons, List.take_zero]
    exact rfl
  case hF4 =>
    simp only [fill, Kind.val, Act.put, List.setIfInBounds_toArray, List.set_cons_zero, List.set_cons_succ]
    exact rfl
  case hL4 => exact trivial
  case hS4 => exact fun w' hb => H5.out.1.below hb
  case ho4 =>
    refine AllOk.cons ?_ ?_
    · exact fun γ => ⟨rfl, fun w' _ => rfl⟩
    refine AllOk.cons ?_ ?_
    · (refine fun γ => ⟨rfl, fun w' hh => ?_⟩; clear hh; go_simp)
    refine AllOk.cons ?_ ?_
    · (refine fun γ => ⟨rfl, fun w' hh => ?_⟩; clear hh; go_simp)
    refine AllOk.cons ?_ ?_
    · exact fun γ => ⟨rfl, fun w' hh => ex_loadI hh 0 rfl rfl rfl rfl⟩
    refine AllOk.cons ?_ ?_
    · exact fun γ => ⟨rfl, fun w' _ => rfl⟩
    refine AllOk.cons ?_ ?_
    · (refine fun γ => ⟨rfl, fun w' hh => ?_⟩; clear hh; go_simp; rw [IntKind.wrap_i64]; omega)
    refine AllOk.cons ?_ ?_
    · (refine fun γ => ⟨rfl, fun w' hh => ?_⟩; clear hh; go_simp)
    refine AllOk.cons ?_ ?_
    · (refine fun γ => ⟨rfl, fun w' hh => ?_⟩; clear hh; go_simp)
    exact trivial
  intro γ w6 l hM hl
  have M6 : Mm w6 [(g, wkc o r' u' v h t), (0, dtab)] := H5.out.1.grow hM (Nat.le_refl _) hl [] rfl (by decide)
  have B6 : Kp g w w6 := H5.out.2.trans (hM.below)
  clear hM hl l H5
  clear γ
  have H6 : Hid (_ ∧ _) := ⟨M6, B6⟩
  clear M6 B6
  refine rest_at (l := [8]) rfl ?_
  refine rest_store rfl rfl rfl (ex_storeI H6.out.1 0 rfl rfl Tryd.sizeOf3 rfl rfl (Nat.le_of_ble_eq_true rfl)) ?_
  have H7 : Hid (Mm (w6.setCells g 24 ([.int .i64 (h + ((k : Nat) : Int))])) [(g, wkc o r' u' v (h + ((k : Nat) : Int)) t), (0, dtab)] ∧ Kp g w (w6.setCells g 24 ([.int .i64 (h + ((k : Nat) : Int))]))) := ⟨H6.out.1.put 0 (off := 24) (vs := [.int .i64 (h + ((k : Nat) : Int))]) rfl (Nat.le_of_ble_eq_true rfl), H6.out.2.put (Or.inl rfl)⟩
  clear H6
  generalize hgw : World.setCells _ _ _ _ = w7 at H7 ⊢
  clear hgw
  refine rest_nil ?_
  refine bodyPost_end (v := .tuple #[]) (by simp [results, Tryd.results29, go_sem]) rfl ?_
  exact ⟨rfl, H7.out.1.one 0 rfl, H7.out.2⟩
set_option maxRecDepth 100000 in
theorem subtract_1 (g o r u v x y : Nat) (h : Int) (t : Bool)
    (c31 : ∀ w, Calls Tryd.prog 26 #[N r, N o] w fun e w' => e = .returned (.int .i64 (-1)) ∧ Below w.heap.size w w')
    (c40 : ∀ w, Calls Tryd.prog 10 #[N o, N r] w fun e w' => e = .returned (.tuple #[N x, .bool false]) ∧ Below w.heap.size w w')
    (c45 : ∀ w, Calls Tryd.prog 33 #[N u, N v] w fun e w' => e = .returned (.tuple #[N y, .bool false]) ∧ Below w.heap.size w w') (w : World) (hm : Mm w [(g, wkc o r u v h t)]) :
    Calls Tryd.prog 30 #[PT g 0] w fun e w' => e = .returned (.tuple #[]) ∧ Mm w' [(g, wkc r x v y h (!t))] ∧ Kp g w w' := by
  have H0 : Hid (_ ∧ _) := ⟨hm, Kp.refl g w⟩
  clear hm
  have C31 : Hid _ := c31
  have C40 : Hid _ := c40
  have C45 : Hid _ := c45
  clear c31 c40 c45
  go_enter Tryd.func30, Tryd.ntmps30
  refine wp_seq ?_
  refine wp_seq ?_
  refine walk_any (by kernel_rfl) 10 [.quiet (PT g 0), .quiet (PT g 0), .quiet (PT g 6), .quiet (N r), .quiet (PT g 0), .quiet (PT g 0), .quiet (PT g 0), .quiet (N o), .call (.int .i64 (-1)), .quiet (.bool true)] (fun w' => Mm w' [(g, wkc o r u v h t)]) ?pre1 ?F1 ?hpre1 (fun γ => ?hF1) (by kernel_rfl) ?hL1 ?hS1 ?ho1 ?he1
  case hpre1 =>
    simp only [List.take_succ_cons, List.take_zero]
    exact rfl
  case hF1 =>
    simp only [fill, Kind.val, Act.put, List.setIfInBounds_toArray, List.set_cons_zero, List.set_cons_succ]
    exact rfl
  case hL1 => exact trivial
  case hS1 => exact fun w' hb => H0.out.1.below hb
  case ho1 =>
    refine AllOk.cons ?_ ?_
    · exact fun γ => ⟨rfl, fun w' _ => rfl⟩
    refine AllOk.cons ?_ ?_
    · (refine fun γ => ⟨rfl, fun w' hh => ?_⟩; clear hh; go_simp)
    refine AllOk.cons ?_ ?_
    · (refine fun γ => ⟨rfl, fun w' hh => ?_⟩; clear hh; go_simp)
    refine AllOk.cons ?_ ?_
    · exact fun γ => ⟨rfl, fun w' hh => ex_load6 hh 0 rfl rfl rfl rfl⟩
    refine AllOk.cons ?_ ?_
    · exact fun γ => ⟨rfl, fun w' _ => rfl⟩
    refine AllOk.cons ?_ ?_
    · (refine fun γ => ⟨rfl, fun w' hh => ?_⟩; clear hh; go_simp)
    refine AllOk.cons ?_ ?_
    · (refine fun γ => ⟨rfl, fun w' hh => ?_⟩; clear hh; go_simp)
    refine AllOk.cons ?_ ?_
    · exact fun γ => ⟨rfl, fun w' hh => ex_load6 hh 0 rfl rfl rfl rfl⟩
    refine AllOk.cons ?_ ?_
    · exact fun γ => ⟨rfl, fun w' hh => ⟨26, #[N r, N o], exec_call rfl call26 rfl (by simp only [List.map_toArray, List.map_cons, List.map_nil]; rfl), C31.out w'⟩⟩
    refine AllOk.cons ?_ ?_
    · (refine fun γ => ⟨rfl, fun w' hh => ?_⟩; clear hh; go_simp)
    exact trivial
  intro γ w1 l hM hl
  have M1 : Mm w1 [(g, wkc o r u v h t)] := H0.out.1.grow hM (Nat.le_refl _) hl [] rfl (by decide)
  have B1 : Kp g w w1 := H0.out.2.trans (hM.below)
  clear hM hl l
  clear γ
  have H1 : Hid (_ ∧ _) := ⟨M1, B1⟩
  clear M1 B1
  refine rest_at (l := []) rfl ?_
  refine rest_nil ?_
  refine then_normal ?_
  refine wp_cond_true rfl ?_
  refine wp_seq ?_
  refine walk_put (by kernel_rfl) 12 [1] [.quiet (PT g 0), .quiet (PT g 0), .quiet (PT g 0), .quiet (PT g 0), .quiet (PT g 6), .quiet (N r), .quiet (PT g 0), .quiet (PT g 0), .quiet (PT g 0), .quiet (N o), .quiet (PT g 0), .quiet (PT g 0)] (fun w' => Mm w' [(g, wkc o r u v h t)]) ?pre2 ?F2 _ ?hpre2 (fun γ => ?hF2) (by kernel_rfl) rfl ?hL2 ?hS2 ?ho2 ?hla2 ?he2
  case hpre2 =>
    simp only [List.take_succ_cons, List.take_zero]
    exact rfl
  case hF2 =>
    simp only [fill, Kind.val, Act.put, List.setIfInBounds_toArray, List.set_cons_zero, List.set_cons_succ]
    exact rfl
  case hL2 => exact trivial
  case hS2 => exact fun w' hb => H1.out.1.below hb
  case ho2 =>
    refine AllOk.cons ?_ ?_
    · exact fun γ => ⟨rfl, fun w' _ => rfl⟩
    refine AllOk.cons ?_ ?_
    · exact fun γ => ⟨rfl, fun w' _ => rfl⟩
    refine AllOk.cons ?_ ?_
    · exact fun γ => ⟨rfl, fun w' _ => rfl⟩
    refine AllOk.cons ?_ ?_
    · (refine fun γ => ⟨rfl, fun w' hh => ?_⟩; clear hh; go_simp)
    refine AllOk.cons ?_ ?_
    · (refine fun γ => ⟨rfl, fun w' hh => ?_⟩; clear hh; go_simp)
    refine AllOk.cons ?_ ?_
    · exact fun γ => ⟨rfl, fun w' hh => ex_load6 hh 0 rfl rfl rfl rfl⟩
    refine AllOk.cons ?_ ?_
    · exact fun γ => ⟨rfl, fun w' _ => rfl⟩
    refine AllOk.cons ?_ ?_
    · (refine fun γ => ⟨rfl, fun w' hh => ?_⟩; clear hh; go_simp)
    refine AllOk.cons ?_ ?_
    · (refine fun γ => ⟨rfl, fun w' hh => ?_⟩; clear hh; go_simp)
    refine AllOk.cons ?_ ?_
    · exact fun γ => ⟨rfl, fun w' hh => ex_load6 hh 0 rfl rfl rfl rfl⟩
    refine AllOk.cons ?_ ?_
    · (refine fun γ => ⟨rfl, fun w' hh => ?_⟩; clear hh; go_simp)
    refine AllOk.cons ?_ ?_
    · (refine fun γ => ⟨rfl, fun w' hh => ?_⟩; clear hh; go_simp)
    exact trivial
  case hla2 => exact ⟨⟨_, _, rfl, rfl, fun γ => ⟨rfl, fun w' => by first | rfl | go_simp⟩⟩, trivial⟩
  intro γ w2 l hM hl
  have M2 : Mm w2 [(g, wkc o r u v h t)] := H1.out.1.grow hM (Nat.le_refl _) hl [] rfl (by decide)
  have B2 : Kp g w w2 := H1.out.2.trans (hM.below)
  clear hM hl l H1
  clear γ
  have H2 : Hid (_ ∧ _) := ⟨M2, B2⟩
  clear M2 B2
  refine ⟨_, ex_store6 H2.out.1 0 rfl rfl rfl rfl (Nat.le_of_ble_eq_true rfl), ?_⟩
  have H3 : Hid (Mm (w2.setCells g 0 (cells6 r)) [(g, wkc r r u v h t)] ∧ Kp g w (w2.setCells g 0 (cells6 r))) := ⟨H2.out.1.put 0 (off := 0) (vs := cells6 r) rfl (Nat.le_of_ble_eq_true rfl), H2.out.2.put (Or.inl rfl)⟩
  clear H2
  generalize hgw : World.setCells _ _ _ _ = w3 at H3 ⊢
  clear hgw
  refine rest_at (l := [13, 14, 15]) rfl ?_
  refine rest_set (d := 24) (v := PT g 0) (w' := w3) rfl rfl rfl (by go_simp) ?_
  simp only [Act.put, List.setIfInBounds_toArray, List.set_cons_zero, List.set_cons_succ]
  refine rest_set (d := 25) (v := PT g 6) (w' := w3) rfl rfl rfl (by go_simp) ?_
  simp only [Act.put, List.setIfInBounds_toArray, List.set_cons_zero, List.set_cons_succ]
  refine rest_store rfl rfl rfl (ex_store6 H3.out.1 0 rfl rfl rfl rfl (Nat.le_of_ble_eq_true rfl)) ?_
  have H4 : Hid (Mm (w3.setCells g 6 (cells6 o)) [(g, wkc r o u v h t)] ∧ Kp g w (w3.setCells g 6 (cells6 o))) := ⟨H3.out.1.put 0 (off := 6) (vs := cells6 o) rfl (Nat.le_of_ble_eq_true rfl), H3.out.2.put (Or.inl rfl)⟩
  clear H3
  generalize hgw : World.setCells _ _ _ _ = w4 at H4 ⊢
  clear hgw
  refine rest_nil ?_
  refine then_normal ?_
  refine wp_seq ?_
  refine walk_put (by kernel_rfl) 12 [1] [.quiet (PT g 0), .quiet (PT g 0), .quiet (PT g 0), .quiet (PT g 0), .quiet (PT g 18), .quiet (N v), .quiet (PT g 0), .quiet (PT g 0), .quiet (PT g 12), .quiet (N u), .quiet (PT g 0), .quiet (PT g 12)] (fun w' => Mm w' [(g, wkc r o u v h t)]) ?pre3 ?F3 _ ?hpre3 (fun γ => ?hF3) (by kernel_rfl) rfl ?hL3 ?hS3 ?ho3 ?hla3 ?he3
  case hpre3 =>
    simp only [List.take_succ_cons, List.take_zero]
    exact rfl
  case hF3 =>
    simp only [fill, Kind.val, Act.put, List.setIfInBounds_toArray, List.set_cons_zero, List.set_cons_succ]
    exact rfl
  case hL3 => exact trivial
  case hS3 => exact fun w' hb => H4.out.1.below hb
  case ho3 =>
    refine AllOk.cons ?_ ?_
    · exact fun γ => ⟨rfl, fun w' _ => rfl⟩
    refine AllOk.cons ?_ ?_
    · exact fun γ => ⟨rfl, fun w' _ => rfl⟩
    refine AllOk.cons ?_ ?_
    · exact fun γ => ⟨rfl, fun w' _ => rfl⟩
    refine AllOk.cons ?_ ?_
    · (refine fun γ => ⟨rfl, fun w' hh => ?_⟩; clear hh; go_simp)
    refine AllOk.cons ?_ ?_
    · (refine fun γ => ⟨rfl, fun w' hh => ?_⟩; clear hh; go_simp)
    refine AllOk.cons ?_ ?_
    · exact fun γ => ⟨rfl, fun w' hh => ex_load6 hh 0 rfl rfl rfl rfl⟩
    refine AllOk.cons ?_ ?_
    · exact fun γ => ⟨rfl, fun w' _ => rfl⟩
    refine AllOk.cons ?_ ?_
    · (refine fun γ => ⟨rfl, fun w' hh => ?_⟩; clear hh; go_simp)
    refine AllOk.cons ?_ ?_
    · (refine fun γ => ⟨rfl, fun w' hh => ?_⟩; clear hh; go_simp)
    refine AllOk.cons ?_ ?_
    · exact fun γ => ⟨rfl, fun w' hh => ex_load6 hh 0 rfl rfl rfl rfl⟩
    refine AllOk.cons ?_ ?_
    · (refine fun γ => ⟨rfl, fun w' hh => ?_⟩; clear hh; go_simp)
    refine AllOk.cons ?_ ?_
    · (refine fun γ => ⟨rfl, fun w' hh => ?_⟩; clear hh; go_simp)
    exact trivial
  case hla3 => exact ⟨⟨_, _, rfl, rfl, fun γ => ⟨rfl, fun w' => by first | rfl | go_simp⟩⟩, trivial⟩
  intro γ w5 l hM hl
  have M5 : Mm w5 [(g, wkc r o u v h t)] := H4.out.1.grow hM (Nat.le_refl _) hl [] rfl (by decide)
  have B5 : Kp g w w5 := H4.out.2.trans (hM.below)
  clear hM hl l H4
  clear γ
  have H5 : Hid (_ ∧ _) := ⟨M5, B5⟩
  clear M5 B5
  refine ⟨_, ex_store6 H5.out.1 0 rfl rfl rfl rfl (Nat.le_of_ble_eq_true rfl), ?_⟩
  have H6 : Hid (Mm (w5.setCells g 12 (cells6 v)) [(g, wkc r o v v h t)] ∧ Kp g w (w5.setCells g 12 (cells6 v))) := ⟨H5.out.1.put 0 (off := 12) (vs := cells6 v) rfl (Nat.le_of_ble_eq_true rfl), H5.out.2.put (Or.inl rfl)⟩
  clear H5
  generalize hgw : World.setCells _ _ _ _ = w6 at H6 ⊢
  clear hgw
  refine rest_at (l := [13, 14, 15]) rfl ?_
  refine rest_set (d := 38) (v := PT g 0) (w' := w6) rfl rfl rfl (by go_simp) ?_
  simp only [Act.put, List.setIfInBounds_toArray, List.set_cons_zero, List.set_cons_succ]
  refine rest_set (d := 39) (v := PT g 18) (w' := w6) rfl rfl rfl (by go_simp) ?_
  simp only [Act.put, List.setIfInBounds_toArray, List.set_cons_zero, List.set_cons_succ]
  refine rest_store rfl rfl rfl (ex_store6 H6.out.1 0 rfl rfl rfl rfl (Nat.le_of_ble_eq_true rfl)) ?_
  have H7 : Hid (Mm (w6.setCells g 18 (cells6 u)) [(g, wkc r o v u h t)] ∧ Kp g w (w6.setCells g 18 (cells6 u))) := ⟨H6.out.1.put 0 (off := 18) (vs := cells6 u) rfl (Nat.le_of_ble_eq_true rfl), H6.out.2.put (Or.inl rfl)⟩
  clear H6
  generalize hgw : World.setCells _ _ _ _ = w7 at H7 ⊢
  clear hgw
  refine rest_nil ?_
  refine then_normal ?_
  refine walk_seq 8 [.quiet (PT g 0), .quiet (PT g 0), .quiet (PT g 0), .quiet (PT g 25), .quiet (.bool t), .quiet (.bool (!t)), .quiet (PT g 0), .quiet (PT g 25)] (fun w' => Mm w' [(g, wkc r o v u h t)]) ?pre4 ?F4 ?hpre4 (fun γ => ?hF4) (by kernel_rfl) ?hL4 ?hS4 ?ho4 ?he4
  case hpre4 =>
    simp only [List.take_succ_cons, List.take_zero]
    exact rfl
  case hF4 =>
    simp only [fill, Kind.val, Act.put, List.setIfInBounds_toArray, List.set_cons_zero, List.set_cons_succ]
    exact rfl
  case hL4 => exact trivial
  case hS4 => exact fun w' hb => H7.out.1.below hb
  case ho4 =>
    refine AllOk.cons ?_ ?_
    · exact fun γ => ⟨rfl, fun w' _ => rfl⟩
    refine AllOk.cons ?_ ?_
    · exact fun γ => ⟨rfl, fun w' _ => rfl⟩
    refine AllOk.cons ?_ ?_
    · (refine fun γ => ⟨rfl, fun w' hh => ?_⟩; clear hh; go_simp)
    refine AllOk.cons ?_ ?_
    · (refine fun γ => ⟨rfl, fun w' hh => ?_⟩; clear hh; go_simp)
    refine AllOk.cons ?_ ?_
    · exact fun γ => ⟨rfl, fun w' hh => ex_loadB hh 0 rfl rfl rfl rfl⟩
    refine AllOk.cons ?_ ?_
    · (refine fun γ => ⟨rfl, fun w' hh => ?_⟩; clear hh; go_simp)
    refine AllOk.cons ?_ ?_
    · (refine fun γ => ⟨rfl, fun w' hh => ?_⟩; clear hh; go_simp)
    refine AllOk.cons ?_ ?_
    · (refine fun γ => ⟨rfl, fun w' hh => ?_⟩; clear hh; go_simp)
    exact trivial
  intro γ w8 l hM hl
  have M8 : Mm w8 [(g, wkc r o v u h t)] := H7.out.1.grow hM (Nat.le_refl _) hl [] rfl (by decide)
  have B8 : Kp g w w8 := H7.out.2.trans (hM.below)
  clear hM hl l H7
  clear γ
  have H8 : Hid (_ ∧ _) := ⟨M8, B8⟩
  clear M8 B8
  refine rest_at (l := [8]) rfl ?_
  refine rest_store rfl rfl rfl (ex_storeB H8.out.1 0 rfl rfl Tryd.sizeOf4 rfl rfl (Nat.le_of_ble_eq_true rfl)) ?_
  have H9 : Hid (Mm (w8.setCells g 25 ([.bool (!t)])) [(g, wkc r o v u h (!t))] ∧ Kp g w (w8.setCells g 25 ([.bool (!t)]))) := ⟨H8.out.1.put 0 (off := 25) (vs := [.bool (!t)]) rfl (Nat.le_of_ble_eq_true rfl), H8.out.2.put (Or.inl rfl)⟩
  clear H8
  generalize hgw : World.setCells _ _ _ _ = w9 at H9 ⊢
  clear hgw
  refine rest_nil ?_
  refine then_normal ?_
  refine wp_seq ?_
  refine walk_put (by kernel_rfl) 15 [12] [.quiet (PT g 0), .quiet (PT g 0), .quiet (PT g 0), .quiet (PT g 6), .quiet (N o), .quiet (PT g 0), .quiet (PT g 0), .quiet (PT g 0), .quiet (N r), .call (.tuple #[N x, .bool false]), .quiet (.tuple #[N x, .bool false]), .quiet (N x), .quiet (.bool false), .quiet (PT g 0), .quiet (PT g 6)] (fun w' => Mm w' [(g, wkc r o v u h (!t))]) ?pre5 ?F5 _ ?hpre5 (fun γ => ?hF5) (by kernel_rfl) rfl ?hL5 ?hS5 ?ho5 ?hla5 ?he5
  case hpre5 =>
    simp only [List.take_succ_cons, List.take_zero]
    exact rfl
  case hF5 =>
    simp only [fill, Kind.val, Act.put, List.setIfInBounds_toArray, List.set_cons_zero, List.set_cons_succ]
    exact rfl
  case hL5 => exact trivial
  case hS5 => exact fun w' hb => H9.out.1.below hb
  case ho5 =>
    refine AllOk.cons ?_ ?_
    · exact fun γ => ⟨rfl, fun w' _ => rfl⟩
    refine AllOk.cons ?_ ?_
    · exact fun γ => ⟨rfl, fun w' _ => rfl⟩
    refine AllOk.cons ?_ ?_
    · (refine fun γ => ⟨rfl, fun w' hh => ?_⟩; clear hh; go_simp)
    refine AllOk.cons ?_ ?_
    · (refine fun γ => ⟨rfl, fun w' hh => ?_⟩; clear hh; go_simp)
    refine AllOk.cons ?_ ?_
    · exact fun γ => ⟨rfl, fun w' hh => ex_load6 hh 0 rfl rfl rfl rfl⟩
    refine AllOk.cons ?_ ?_
    · exact fun γ => ⟨rfl, fun w' _ => rfl⟩
    refine AllOk.cons ?_ ?_
    · (refine fun γ => ⟨rfl, fun w' hh => ?_⟩; clear hh; go_simp)
    refine AllOk.cons ?_ ?_
    · (refine fun γ => ⟨rfl, fun w' hh => ?_⟩; clear hh; go_simp)
    refine AllOk.cons ?_ ?_
    · exact fun γ => ⟨rfl, fun w' hh => ex_load6 hh 0 rfl rfl rfl rfl⟩
    refine AllOk.cons ?_ ?_
    · exact fun γ => ⟨rfl, fun w' hh => ⟨10, #[N o, N r], exec_call rfl call10 rfl (by simp only [List.map_toArray, List.map_cons, List.map_nil]; rfl), C40.out w'⟩⟩
    refine AllOk.cons ?_ ?_
    · exact fun γ => ⟨rfl, fun w' _ => rfl⟩
    refine AllOk.cons ?_ ?_
    · (refine fun γ => ⟨rfl, fun w' hh => ?_⟩; clear hh; go_simp)
    refine AllOk.cons ?_ ?_
    · (refine fun γ => ⟨rfl, fun w' hh => ?_⟩; clear hh; go_simp)
    refine AllOk.cons ?_ ?_
    · (refine fun γ => ⟨rfl, fun w' hh => ?_⟩; clear hh; go_simp)
    refine AllOk.cons ?_ ?_
    · (refine fun γ => ⟨rfl, fun w' hh => ?_⟩; clear hh; go_simp)
    exact trivial
  case hla5 => exact ⟨⟨_, _, rfl, rfl, fun γ => ⟨rfl, fun w' => by first | rfl | go_simp⟩⟩, trivial⟩
  intro γ w10 l hM hl
  have M10 : Mm w10 [(g, wkc r o v u h (!t))] := H9.out.1.grow hM (Nat.le_refl _) hl [] rfl (by decide)
  have B10 : Kp g w w10 := H9.out.2.trans (hM.below)
  clear hM hl l H9
  clear γ
  have H10 : Hid (_ ∧ _) := ⟨M10, B10⟩
  clear M10 B10
  refine ⟨_, ex_store6 H10.out.1 0 rfl rfl rfl rfl (Nat.le_of_ble_eq_true rfl), ?_⟩
  have H11 : Hid (Mm (w10.setCells g 6 (cells6 x)) [(g, wkc r x v u h (!t))] ∧ Kp g w (w10.setCells g 6 (cells6 x))) := ⟨H10.out.1.put 0 (off := 6) (vs := cells6 x) rfl (Nat.le_of_ble_eq_true rfl), H10.out.2.put (Or.inl rfl)⟩
  clear H10
  generalize hgw : World.setCells _ _ _ _ = w11 at H11 ⊢
  clear hgw
  refine rest_at (l := []) rfl ?_
  refine rest_nil ?_
  refine then_normal ?_
  refine walk_put (by kernel_rfl) 15 [12] [.quiet (PT g 0), .quiet (PT g 0), .quiet (PT g 0), .quiet (PT g 18), .quiet (N u), .quiet (PT g 0), .quiet (PT g 0), .quiet (PT g 12), .quiet (N v), .call (.tuple #[N y, .bool false]), .quiet (.tuple #[N y, .bool false]), .quiet (N y), .quiet (.bool false), .quiet (PT g 0), .quiet (PT g 18)] (fun w' => Mm w' [(g, wkc r x v u h (!t))]) ?pre6 ?F6 _ ?hpre6 (fun γ => ?hF6) (by kernel_rfl) rfl ?hL6 ?hS6 ?ho6 ?hla6 ?he6
  case hpre6 =>
    simp only [List.take_succ_cons, List.take_zero]
    exact rfl
  case hF6 =>
    simp only [fill, Kind.val, Act.put, List.setIfInBounds_toArray, List.set_cons_zero, List.set_cons_succ]
    exact rfl
  case hL6 => exact trivial
  case hS6 => exact fun w' hb => H11.out.1.below hb
  case ho6 =>
    refine AllOk.cons ?_ ?_
    · exact fun γ => ⟨rfl, fun w' _ => rfl⟩
    refine AllOk.cons ?_ ?_
    · exact fun γ => ⟨rfl, fun w' _ => rfl⟩
    refine AllOk.cons ?_ ?_
    · (refine fun γ => ⟨rfl, fun w' hh => ?_⟩; clear hh; go_simp)
    refine AllOk.cons ?_ ?_
    · (refine fun γ => ⟨rfl, fun w' hh => ?_⟩; clear hh; go_simp)
    refine AllOk.cons ?_ ?_
    · exact fun γ => ⟨rfl, fun w' hh => ex_load6 hh 0 rfl rfl rfl rfl⟩
    refine AllOk.cons ?_ ?_
    · exact fun γ => ⟨rfl, fun w' _ => rfl⟩
    refine AllOk.cons ?_ ?_
    · (refine fun γ => ⟨rfl, fun w' hh => ?_⟩; clear hh; go_simp)
    refine AllOk.cons ?_ ?_
    · (refine fun γ => ⟨rfl, fun w' hh => ?_⟩; clear hh; go_simp)
    refine AllOk.cons ?_ ?_
    · exact fun γ => ⟨rfl, fun w' hh => ex_load6 hh 0 rfl rfl rfl rfl⟩
    refine AllOk.cons ?_ ?_
    · exact fun γ => ⟨rfl, fun w' hh => ⟨33, #[N u, N v], exec_call rfl call33 rfl (by simp only [List.map_toArray, List.map_cons, List.map_nil]; rfl), C45.out w'⟩⟩
    refine AllOk.cons ?_ ?_
    · exact fun γ => ⟨rfl, fun w' _ => rfl⟩
    refine AllOk.cons ?_ ?_
    · (refine fun γ => ⟨rfl, fun w' hh => ?_⟩; clear hh; go_simp)
    refine AllOk.cons ?_ ?_
    · (refine fun γ => ⟨rfl, fun w' hh => ?_⟩; clear hh; go_simp)
    refine AllOk.cons ?_ ?_
    · (refine fun γ => ⟨rfl, fun w' hh => ?_⟩; clear hh; go_simp)
    refine AllOk.cons ?_ ?_
    · (refine fun γ => ⟨rfl, fun w' hh => ?_⟩; clear hh; go_simp)
    exact trivial
  case hla6 => exact ⟨⟨_, _, rfl, rfl, fun γ => ⟨rfl, fun w' => by first | rfl | go_simp⟩⟩, trivial⟩
  intro γ w12 l hM hl
  have M12 : Mm w12 [(g, wkc r x v u h (!t))] := H11.out.1.grow hM (Nat.le_refl _) hl [] rfl (by decide)
  have B12 : Kp g w w12 := H11.out.2.trans (hM.below)
  clear hM hl l H11
  clear γ
  have H12 : Hid (_ ∧ _) := ⟨M12, B12⟩
  clear M12 B12
  refine ⟨_, ex_store6 H12.out.1 0 rfl rfl rfl rfl (Nat.le_of_ble_eq_true rfl), ?_⟩
  have H13 : Hid (Mm (w12.setCells g 18 (cells6 y)) [(g, wkc r x v y h (!t))] ∧ Kp g w (w12.setCells g 18 (cells6 y))) := ⟨H12.out.1.put 0 (off := 18) (vs := cells6 y) rfl (Nat.le_of_ble_eq_true rfl), H12.out.2.put (Or.inl rfl)⟩
  clear H12
  generalize hgw : World.setCells _ _ _ _ = w13 at H13 ⊢
  clear hgw
  refine rest_at (l := []) rfl ?_
  refine rest_nil ?_
  refine bodyPost_end (v := .tuple #[]) (by simp [results, Tryd.results30, go_sem]) rfl ?_
  exact ⟨rfl, H13.out.1.one 0 rfl, H13.out.2⟩
set_option maxRecDepth 100000 in
theorem subtract_2 (g o r u v x y : Nat) (h : Int) (t : Bool) (c : Int) (hc : ¬ c < 0)
    (c31 : ∀ w, Calls Tryd.prog 26 #[N r, N o] w fun e w' => e = .returned (.int .i64 c) ∧ Below w.heap.size w w')
    (c40 : ∀ w, Calls Tryd.prog 10 #[N r, N o] w fun e w' => e = .returned (.tuple #[N x, .bool false]) ∧ Below w.heap.size w w')
    (c45 : ∀ w, Calls Tryd.prog 33 #[N v, N u] w fun e w' => e = .returned (.tuple #[N y, .bool false]) ∧ Below w.heap.size w w') (w : World) (hm : Mm w [(g, wkc o r u v h t)]) :
    Calls Tryd.prog 30 #[PT g 0] w fun e w' => e = .returned (.tuple #[]) ∧ Mm w' [(g, wkc o x u y h t)] ∧ Kp g w w' := by
  have H0 : Hid (_ ∧ _) := ⟨hm, Kp.refl g w⟩
  clear hm
  have C31 : Hid _ := c31
  have C40 : Hid _ := c40
  have C45 : Hid _ := c45
  clear c31 c40 c45
  go_enter Tryd.func30, Tryd.ntmps30
  refine wp_seq ?_
  refine wp_seq ?_
  refine walk_any (by kernel_rfl) 10 [.quiet (PT g 0), .quiet (PT g 0), .quiet (PT g 6), .quiet (N r), .quiet (PT g 0), .quiet (PT g 0), .quiet (PT g 0), .quiet (N o), .call (.int .i64 c), .quiet (.bool false)] (fun w' => Mm w' [(g, wkc o r u v h t)]) ?pre1 ?F1 ?hpre1 (fun γ => ?hF1) (by kernel_rfl) ?hL1 ?hS1 ?ho1 ?he1
  case hpre1 =>
    simp only [List.take_succ_cons, List.take_zero]
    exact rfl
  case hF1 =>
    simp only [fill, Kind.val, Act.put, List.setIfInBounds_toArray, List.set_cons_zero, List.set_cons_succ]
    exact rfl
  case hL1 => exact trivial
  case hS1 => exact fun w' hb => H0.out.1.below hb
  case ho1 =>
    refine AllOk.cons ?_ ?_
    · exact fun γ => ⟨rfl, fun w' _ => rfl⟩
    refine AllOk.cons ?_ ?_
    · (refine fun γ => ⟨rfl, fun w' hh => ?_⟩; clear hh; go_simp)
    refine AllOk.cons ?_ ?_
    · (refine fun γ => ⟨rfl, fun w' hh => ?_⟩; clear hh; go_simp)
    refine AllOk.cons ?_ ?_
    · exact fun γ => ⟨rfl, fun w' hh => ex_load6 hh 0 rfl rfl rfl rfl⟩
    refine AllOk.cons ?_ ?_
    · exact fun γ => ⟨rfl, fun w' _ => rfl⟩
    refine AllOk.cons ?_ ?_
    · (refine fun γ => ⟨rfl, fun w' hh => ?_⟩; clear hh; go_simp)
    refine AllOk.cons ?_ ?_
    · (refine fun γ => ⟨rfl, fun w' hh => ?_⟩; clear hh; go_simp)
    refine AllOk.cons ?_ ?_
    · exact fun γ => ⟨rfl, fun w' hh => ex_load6 hh 0 rfl rfl rfl rfl⟩
    refine AllOk.cons ?_ ?_
    · exact fun γ => ⟨rfl, fun w' hh => ⟨26, #[N r, N o], exec_call rfl call26 rfl (by simp only [List.map_toArray, List.map_cons, List.map_nil]; rfl), C31.out w'⟩⟩
    refine AllOk.cons ?_ ?_
    · (refine fun γ => ⟨rfl, fun w' hh => ?_⟩; clear hh; go_simp)
    exact trivial
  intro γ w1 l hM hl
  have M1 : Mm w1 [(g, wkc o r u v h t)] := H0.out.1.grow hM (Nat.le_refl _) hl [] rfl (by decide)
  have B1 : Kp g w w1 := H0.out.2.trans (hM.below)
  clear hM hl l
  clear γ
  have H1 : Hid (_ ∧ _) := ⟨M1, B1⟩
  clear M1 B1
  refine rest_at (l := []) rfl ?_
  refine rest_nil ?_
  refine then_normal ?_
  refine wp_cond_false rfl ?_
  refine wp_skip ?_
  refine then_normal ?_
  refine wp_seq ?_
  refine walk_put (by kernel_rfl) 15 [12] [.quiet (PT g 0), .quiet (PT g 0), .quiet (PT g 0), .quiet (PT g 6), .quiet (N r), .quiet (PT g 0), .quiet (PT g 0), .quiet (PT g 0), .quiet (N o), .call (.tuple #[N x, .bool false]), .quiet (.tuple #[N x, .bool false]), .quiet (N x), .quiet (.bool false), .quiet (PT g 0), .quiet (PT g 6)] (fun w' => Mm w' [(g, wkc o r u v h t)]) ?pre2 ?F2 _ ?hpre2 (fun γ => ?hF2) (by kernel_rfl) rfl ?hL2 ?hS2 ?ho2 ?hla2 ?he2
  case hpre2 =>
    simp only [List.take_succ_cons, List.take_zero]
    exact rfl
  case hF2 =>
    simp only [fill, Kind.val, Act.put, List.setIfInBounds_toArray, List.set_cons_zero, List.set_cons_succ]
    exact rfl
  case hL2 => exact trivial
  case hS2 => exact fun w' hb => H1.out.1.below hb
  case ho2 =>
    refine AllOk.cons ?_ ?_
    · exact fun γ => ⟨rfl, fun w' _ => rfl⟩
    refine AllOk.cons ?_ ?_
    · exact fun γ => ⟨rfl, fun w' _ => rfl⟩
    refine AllOk.cons ?_ ?_
    · (refine fun γ => ⟨rfl, fun w' hh => ?_⟩; clear hh; go_simp)
    refine AllOk.cons ?_ ?_
    · (refine fun γ => ⟨rfl, fun w' hh => ?_⟩; clear hh; go_simp)
    refine AllOk.cons ?_ ?_
    · exact fun γ => ⟨rfl, fun w' hh => ex_load6 hh 0 rfl rfl rfl rfl⟩
    refine AllOk.cons ?_ ?_
    · exact fun γ => ⟨rfl, fun w' _ => rfl⟩
    refine AllOk.cons ?_ ?_
    · (refine fun γ => ⟨rfl, fun w' hh => ?_⟩; clear hh; go_simp)
    refine AllOk.cons ?_ ?_
    · (refine fun γ => ⟨rfl, fun w' hh => ?_⟩; clear hh; go_simp)
    refine AllOk.cons ?_ ?_
    · exact fun γ => ⟨rfl, fun w' hh => ex_load6 hh 0 rfl rfl rfl rfl⟩
    refine AllOk.cons ?_ ?_
    · exact fun γ => ⟨rfl, fun w' hh => ⟨10, #[N r, N o], exec_call rfl call10 rfl (by simp only [List.map_toArray, List.map_cons, List.map_nil]; rfl), C40.out w'⟩⟩
    refine AllOk.cons ?_ ?_
    · exact fun γ => ⟨rfl, fun w' _ => rfl⟩
    refine AllOk.cons ?_ ?_
    · (refine fun γ => ⟨rfl, fun w' hh => ?_⟩; clear hh; go_simp)
    refine AllOk.cons ?_ ?_
    · (refine fun γ => ⟨rfl, fun w' hh => ?_⟩; clear hh; go_simp)
    refine AllOk.cons ?_ ?_
    · (refine fun γ => ⟨rfl, fun w' hh => ?_⟩; clear hh; go_simp)
    refine AllOk.cons ?_ ?_
    · (refine fun γ => ⟨rfl, fun w' hh => ?_⟩; clear hh; go_simp)
    exact trivial
  case hla2 => exact ⟨⟨_, _, rfl, rfl, fun γ => ⟨rfl, fun w' => by first | rfl | go_simp⟩⟩, trivial⟩
  intro γ w2 l hM hl
  have M2 : Mm w2 [(g, wkc o r u v h t)] := H1.out.1.grow hM (Nat.le_refl _) hl [] rfl (by decide)
  have B2 : Kp g w w2 := H1.out.2.trans (hM.below)
  clear hM hl l H1
  clear γ
  have H2 : Hid (_ ∧ _) := ⟨M2, B2⟩
  clear M2 B2
  refine ⟨_, ex_store6 H2.out.1 0 rfl rfl rfl rfl (Nat.le_of_ble_eq_true rfl), ?_⟩
  have H3 : Hid (Mm (w2.setCells g 6 (cells6 x)) [(g, wkc o x u v h t)] ∧ Kp g w (w2.setCells g 6 (cells6 x))) := ⟨H2.out.1.put 0 (off := 6) (vs := cells6 x) rfl (Nat.le_of_ble_eq_true rfl), H2.out.2.put (Or.inl rfl)⟩
  clear H2
  generalize hgw : World.setCells _ _ _ _ = w3 at H3 ⊢
  clear hgw
  refine rest_at (l := []) rfl ?_
  refine rest_nil ?_
  refine then_normal ?_
  refine walk_put (by kernel_rfl) 15 [12] [.quiet (PT g 0), .quiet (PT g 0), .quiet (PT g 0), .quiet (PT g 18), .quiet (N v), .quiet (PT g 0), .quiet (PT g 0), .quiet (PT g 12), .quiet (N u), .call (.tuple #[N y, .bool false]), .quiet (.tuple #[N y, .bool false]), .quiet (N y), .quiet (.bool false), .quiet (PT g 0), .quiet (PT g 18)] (fun w' => Mm w' [(g, wkc o x u v h t)]) ?pre3 ?F3 _ ?hpre3 (fun γ => ?hF3) (by kernel_rfl) rfl ?hL3 ?hS3 ?ho3 ?hla3 ?he3
  case hpre3 =>
    simp only [List.take_succ_cons, List.take_zero]
    exact rfl
  case hF3 =>
    simp only [fill, Kind.val, Act.put, List.setIfInBounds_toArray, List.set_cons_zero, List.set_cons_succ]
    exact rfl
  case hL3 => exact trivial
  case hS3 => exact fun w' hb => H3.out.1.below hb
  case ho3 =>
    refine AllOk.cons ?_ ?_
    · exact fun γ => ⟨rfl, fun w' _ => rfl⟩
    refine AllOk.cons ?_ ?_
    · exact fun γ => ⟨rfl, fun w' _ => rfl⟩
    refine AllOk.cons ?_ ?_
    · (refine fun γ => ⟨rfl, fun w' hh => ?_⟩; clear hh; go_simp)
    refine AllOk.cons ?_ ?_
    · (refine fun γ => ⟨rfl, fun w' hh => ?_⟩; clear hh; go_simp)
    refine AllOk.cons ?_ ?_
    · exact fun γ => ⟨rfl, fun w' hh => ex_load6 hh 0 rfl rfl rfl rfl⟩
    refine AllOk.cons ?_ ?_
    · exact fun γ => ⟨rfl, fun w' _ => rfl⟩
    refine AllOk.cons ?_ ?_
    · (refine fun γ => ⟨rfl, fun w' hh => ?_⟩; clear hh; go_simp)
    refine AllOk.cons ?_ ?_
    · (refine fun γ => ⟨rfl, fun w' hh => ?_⟩; clear hh; go_simp)
    refine AllOk.cons ?_ ?_
    · exact fun γ => ⟨rfl, fun w' hh => ex_load6 hh 0 rfl rfl rfl rfl⟩
    refine AllOk.cons ?_ ?_
    · exact fun γ => ⟨rfl, fun w' hh => ⟨33, #[N v, N u], exec_call rfl call33 rfl (by simp only [List.map_toArray, List.map_cons, List.map_nil]; rfl), C45.out w'⟩⟩
    refine AllOk.cons ?_ ?_
    · exact fun γ => ⟨rfl, fun w' _ => rfl⟩
    refine AllOk.cons ?_ ?_
    · (refine fun γ => ⟨rfl, fun w' hh => ?_⟩; clear hh; go_simp)
    refine AllOk.cons ?_ ?_
    · (refine fun γ => ⟨rfl, fun w' hh => ?_⟩; clear hh; go_simp)
    refine AllOk.cons ?_ ?_
    · (refine fun γ => ⟨rfl, fun w' hh => ?_⟩; clear hh; go_simp)
    refine AllOk.cons ?_ ?_
    · (refine fun γ => ⟨rfl, fun w' hh => ?_⟩; clear hh; go_simp)
    exact trivial
  case hla3 => exact ⟨⟨_, _, rfl, rfl, fun γ => ⟨rfl, fun w' => by first | rfl | go_simp⟩⟩, trivial⟩
  intro γ w4 l hM hl
  have M4 : Mm w4 [(g, wkc o x u v h t)] := H3.out.1.grow hM (Nat.le_refl _) hl [] rfl (by decide)
  have B4 : Kp g w w4 := H3.out.2.trans (hM.below)
  clear hM hl l H3
  clear γ
  have H4 : Hid (_ ∧ _) := ⟨M4, B4⟩
  clear M4 B4
  refine ⟨_, ex_store6 H4.out.1 0 rfl rfl rfl rfl (Nat.le_of_ble_eq_true rfl), ?_⟩
  have H5 : Hid (Mm (w4.setCells g 18 (cells6 y)) [(g, wkc o x u y h t)] ∧ Kp g w (w4.setCells g 18 (cells6 y))) := ⟨H4.out.1.put 0 (off := 18) (vs := cells6 y) rfl (Nat.le_of_ble_eq_true rfl), H4.out.2.put (Or.inl rfl)⟩
  clear H4
  generalize hgw : World.setCells _ _ _ _ = w5 at H5 ⊢
  clear hgw
  refine rest_at (l := []) rfl ?_
  refine rest_nil ?_
  refine bodyPost_end (v := .tuple #[]) (by simp [results, Tryd.results30, go_sem]) rfl ?_
  exact ⟨rfl, H5.out.1.one 0 rfl, H5.out.2⟩
end Rg
end Go.Proofs.YtoagmdgmbkpghabDoor
