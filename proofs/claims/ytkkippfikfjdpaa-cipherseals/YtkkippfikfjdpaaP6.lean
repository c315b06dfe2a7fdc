/- Texts of the proof, joined. -/
import Derived.Test.YtkkippfikfjdpaaP5
import Derived.Maps.AppendAt
import Derived.Lib.SliceRun
import Derived.Laws.Slices
import Derived.Laws.Build
import Derived.Shelf.Bits.Mul64
import Derived.Shelf.Spec.BitsCarry
import Derived.Test.YtkkippfikfjdpaaProg
section
namespace Go.Proofs.Ytkkippfikfjdpaa
open Go.RowKit
namespace Rg
set_option maxRecDepth 100000
section
variable {w w1 w2 : World} {B n n2 : Nat} {L : List Nat} {l : List (Nat × List Value)} {vv v2 : Value} {P P' P2 : Nat → Nat}
end
section
variable {ρ : Operand → Value} {o : Oper} {x y : Operand} {a b : Nat} {w : World}
theorem ex_cv3_32 (ho : o.op = .convert 3 23 x) (hx : ρ x = .int .i64 ((a : Nat) : Int)) : (execOp ρ o).run Try.prog w = .ok (.value (W32 (c32 a))) w := by
  simp only [execOp, ho, hx]
  clear ho hx
  go_simp
  exact wrap32 a
end
theorem own_blk {w : World} {B n g cap : Nat} {P : Nat → Nat} (h : w.ownsRow B 5 1 (.slice (some ⟨g, 0, none⟩) n cap) n (ints .u8 P n)) : B ≤ g ∧ g < w.heap.size ∧ n ≤ cap ∧ Blk w g (ints .u8 P n) := by
  have hl := World.ownsRow.lt h g rfl
  refine ⟨hl.1, hl.2, ?_, fun j v hj => ?_⟩
  · rcases h.2 with ⟨h1, _⟩ | ⟨g', cap', cur, h1, _, _, h2, _⟩
    · cases h1
    · injection h1 with _ _ e
      rw [e]
      exact h2
  · have hjn : j < n := by
      have := (List.getElem?_eq_some_iff.1 hj).1
      rwa [ints_len] at this
    refine ⟨?_, World.ownsRow.frozenAt h j⟩
    rw [World.ownsRow.cellAt h j (by omega)]
    exact hj
theorem block_born (K N : Nat → Nat) (gk ok ck gn on cn c : Nat) (w : World) (hRk : Rs gk ok 32 K w) (hRn : Rs gn on 12 N w) :
    Calls Try.prog 31 #[.slice (some ⟨gk, ok, none⟩) 32 ck, .slice (some ⟨gn, on, none⟩) 12 cn, W32 c] w fun e w' => Below w.heap.size w w' ∧ ∃ (g x y : Nat), e = .returned ((fun g x _ => .slice (some ⟨g, 0, none⟩) 64 (64 + x)) g x y) ∧ w.heap.size ≤ g ∧ g < w'.heap.size ∧ Blk w' g (ints .u8 (bk K N c) 64) := by
  refine Calls.mono (block_any K N gk ok ck gn on cn c w hRk hRn) ?_
  rintro e w' ⟨hb, g, cap, rfl, ho⟩
  obtain ⟨h1, h2, h3, h4⟩ := own_blk ho
  exact ⟨hb, g, cap - 64, 0, by dsimp only; rw [show 64 + (cap - 64) = cap by omega], h1, h2, h4⟩
/-- A text under the stream of a key. -/
def so (K N : Nat → Nat) (c : Nat) (P : Nat → Nat) (j : Nat) : Nat := x8 (P j) (bk K N (ad c (c32 (j / 64))) (j % 64))
theorem call31 : ∀ args w, (callFunc 31 args).run Try.prog w = .ok (.enter 31 args) w := by intro args w; go_simp
set_option maxHeartbeats 2000000 in
set_option maxRecDepth 100000 in
theorem stream_any (K N P : Nat → Nat) (gk ok ck gn on cn c gb ob n cb : Nat) (pb : Option Addr) (_hP : ∀ j, P j < 256) (hpb : 0 < n → pb = some ⟨gb, ob, none⟩) (hn : n ≤ 1048600) (w : World) (hRk : Rs gk ok 32 K w) (hRn : Rs gn on 12 N w) (hRb : Rs gb ob n P w) :
    Calls Try.prog 33 #[.slice (some ⟨gk, ok, none⟩) 32 ck, .slice (some ⟨gn, on, none⟩) 12 cn, W32 c, .slice pb n cb] w fun e w' => Below w.heap.size w w' ∧ ∃ v, e = .returned v ∧ w'.ownsRow w.heap.size 5 1 v n (ints .u8 (so K N c P) n) := by
  have H0 : Hid (_ ∧ _) := ⟨Mm.nil w, Ow.nil (so K N c P) w⟩
  have RK : Hid (Rs gk ok 32 K w) := hRk
  have RN : Hid (Rs gn on 12 N w) := hRn
  have RB : Hid (Rs gb ob n P w) := hRb
  clear hRk hRn hRb
  go_enter Try.func33, Try.ntmps33
  refine wp_seq ?_
  refine walk_seqA 1 [.quiet (.slice none 0 0)] (sB H0) ?ho1 ?he1
  case ho1 => exact ak (fun _ => ⟨rfl, fun _ _ => rfl⟩) trivial
  intro γ w1 l hM hl
  have M1 : Mm w1 [] := H0.out.1.grow hM (Nat.le_refl _) hl [] rfl (by decide)
  have B1 : Ow w [] (.slice none 0 0) 0 (so K N c P) w1 := Ow.step H0.out.2 (hM.below)
  clear hM hl l
  clear γ
  have H1 : Hid (_ ∧ _) := ⟨M1, B1⟩
  clear M1 B1
  refine rest0 rfl (then_normal (wp_seq ?_))
  refine walk_seqA 2 [.quiet (.slice none 0 0), .quiet (.slice none 0 0)] (sB H1) ?ho2 ?he2
  case ho2 => exact ak (fun _ => ⟨rfl, fun _ _ => rfl⟩) (ak (fun _ => ⟨rfl, fun _ _ => rfl⟩) trivial)
  intro γ w2 l hM hl
  have M2 : Mm w2 [] := H1.out.1.grow hM (Nat.le_refl _) hl [] rfl (by decide)
  have B2 : Ow w [] (.slice none 0 0) 0 (so K N c P) w2 := Ow.step H1.out.2 (hM.below)
  clear hM hl l H1
  clear γ
  have H2 : Hid (_ ∧ _) := ⟨M2, B2⟩
  clear M2 B2
  refine rest0 rfl (then_normal (wp_seq (wp_seq ?_)))
  refine walk_seqA 1 [.quiet (.int .i64 0)] (sB H2) ?ho3 ?he3
  case ho3 => exact ak (fun _ => ⟨rfl, fun _ _ => rfl⟩) trivial
  intro γ w3 l hM hl
  have M3 : Mm w3 [] := H2.out.1.grow hM (Nat.le_refl _) hl [] rfl (by decide)
  have B3 : Ow w [] (.slice none 0 0) 0 (so K N c P) w3 := Ow.step H2.out.2 (hM.below)
  clear hM hl l H2
  clear γ
  have H3 : Hid (_ ∧ _) := ⟨M3, B3⟩
  clear M3 B3
  refine rest0 rfl (then_normal (wp_block ?_))
  refine loop_ghost (α := Nat) (fun i a' w' => ∃ s0 : Nat → Value, a' = ⟨#[.slice (some ⟨gk, ok, none⟩) 32 ck, .slice (some ⟨gn, on, none⟩) 12 cn, W32 c, .slice pb n cb, undef, undef, undef, undef, .slice none 0 0, s0 9, s0 10, .int .i64 ((i : Nat) : Int), s0 12, s0 13, s0 14, s0 15, s0 16, s0 17, s0 18, s0 19, s0 20, s0 21, s0 22, s0 23, s0 24, s0 25, s0 26, s0 27, s0 28, s0 29, s0 30, s0 31, s0 32, s0 33, s0 34, s0 35, s0 36, s0 37, s0 38, s0 39, s0 40, s0 41, undef], []⟩ ∧ (Mm w' [] ∧ Ow w [] (s0 9) i (so K N c P) w') ∧ (i ≤ n ∧ (0 < i % 64 → ∃ g c', s0 10 = .slice (some ⟨g, 0, none⟩) 64 c' ∧ Mm w' [(g, ints .u8 (bk K N (ad c (c32 (i / 64)))) 64)] ∧ some g ≠ (s0 9).ownBlock))) (fun i => n - i) 0 ?st0 ?rd0
  case st0 => exact ⟨(slotfn [undef, undef, undef, undef, undef, undef, undef, undef, undef, .slice none 0 0, .slice none 0 0, undef, undef, undef, undef, undef, undef, undef, undef, undef, undef, undef, undef, undef, undef, undef, undef, undef, undef, undef, undef, undef, undef, undef, undef, undef, undef, undef, undef, undef, undef, undef]), rfl, ⟨H3.out.1, H3.out.2⟩, ⟨Nat.zero_le _, fun h => absurd h (by decide)⟩⟩
  intro i a' w4 hI
  obtain ⟨s0, rfl, hMB, hk0⟩ := hI
  have H4 : Hid (_ ∧ _) := hMB
  clear hMB H3
  by_cases hlti : i < n
  · have hrd : True := trivial
    clear hrd
    by_cases h64 : i % 64 = 0
    · have hrd : True := trivial
      clear hrd
      refine wp_seq (wp_seq ?_)
      refine walk_seqA 4 [.quiet (.int .i64 ((i : Nat) : Int)), .quiet (.slice pb n cb), .quiet (.int .i64 ((n : Nat) : Int)), .quiet (.bool true)] (sB H4) ?ho4 ?he4
      case ho4 => exact ak (fun _ => ⟨rfl, fun _ _ => rfl⟩) (ak (fun _ => ⟨rfl, fun _ _ => rfl⟩) (ak (by refine fun γ => ⟨rfl, fun w' h => ?_⟩; clear h; go_simp) (ak (by refine fun γ => ⟨rfl, fun w' h => ?_⟩; clear h; go_simp <;> omega) trivial)))
      intro γ w5 l hM hl
      have M5 : Mm w5 [] := H4.out.1.grow hM (Nat.le_refl _) hl [] rfl (by decide)
      have B5 : Ow w [] (s0 9) i (so K N c P) w5 := Ow.step H4.out.2 (hM.below)
      clear hM hl l H4
      clear γ
      have H5 : Hid (_ ∧ _) := ⟨M5, B5⟩
      clear M5 B5
      refine rest0 rfl (then_normal (wp_cond_true rfl ?_))
      refine wp_skip (then_normal ?_)
      refine wp_seq (wp_block ?_)
      refine wp_seq (wp_seq ?_)
      refine walk_seqA 3 [.quiet (.int .i64 ((i : Nat) : Int)), .quiet (.int .i64 ((i % 64 : Nat) : Int)), .quiet (.bool true)] (sB H5) ?ho5 ?he5
      case ho5 => exact ak (fun _ => ⟨rfl, fun _ _ => rfl⟩) (ak (fun γ => ⟨rfl, fun w' _ => ex_rem3 (a := i) (b := 64) (by omega) (by omega) rfl rfl rfl⟩) (ak (by refine fun γ => ⟨rfl, fun w' h => ?_⟩; clear h; go_simp <;> omega) trivial))
      intro γ w6 l hM hl
      have M6 : Mm w6 [] := H5.out.1.grow hM (Nat.le_refl _) hl [] rfl (by decide)
      have B6 : Ow w [] (s0 9) i (so K N c P) w6 := Ow.step H5.out.2 (hM.below)
      clear hM hl l H5
      clear γ
      have H6 : Hid (_ ∧ _) := ⟨M6, B6⟩
      clear M6 B6
      refine rest0 rfl (then_normal (wp_cond_true rfl ?_))
      refine (walk_seq) 8 [.quiet (.slice (some ⟨gk, ok, none⟩) 32 ck), .quiet (.slice (some ⟨gn, on, none⟩) 12 cn), .quiet (W32 c), .quiet (.int .i64 ((i : Nat) : Int)), .quiet (.int .i64 ((i / 64 : Nat) : Int)), .quiet (W32 (c32 (i / 64))), .quiet (W32 (ad c (c32 (i / 64)))), .bornX (fun g x y => .slice (some ⟨g, 0, none⟩) 64 (64 + x)) (ints .u8 (bk K N (ad c (c32 (i / 64)))) 64)] (fun u' => Mm u' [] ∧ (Rs gk ok 32 K u' ∧ Rs gn on 12 N u' ∧ Rs gb ob n P u')) ?pre6 ?F6 ?hpre6 (fun γ => ?hF6) (by kernel_rfl) ?hL6 ?hS6 ?ho6 ?he6
      case hpre6 => simp only [tk, tz]; rfl
      case hF6 => simp only [fill, Kind.val, Act.put, sa, sz, ss]; rfl
      case hL6 => exact trivial
      case hS6 => exact fun w' hb => ⟨H6.out.1.below hb, ⟨RK.out.below (Ow.step H6.out.2 (hb)).b, RN.out.below (Ow.step H6.out.2 (hb)).b, RB.out.below (Ow.step H6.out.2 (hb)).b⟩⟩
      case ho6 =>
        refine ak (fun _ => ⟨rfl, fun _ _ => rfl⟩) ?_
        refine ak (fun _ => ⟨rfl, fun _ _ => rfl⟩) ?_
        refine ak (fun _ => ⟨rfl, fun _ _ => rfl⟩) ?_
        refine ak (fun _ => ⟨rfl, fun _ _ => rfl⟩) ?_
        refine ak (fun γ => ⟨rfl, fun w' _ => ex_quo3 (a := i) (b := 64) (by omega) (by omega) rfl rfl rfl⟩) ?_
        refine ak (fun γ => ⟨rfl, fun w' _ => ex_cv3_32 (a := i / 64) rfl rfl⟩) ?_
        refine ak (fun γ => ⟨rfl, fun w' _ => ex_add32 rfl rfl rfl⟩) ?_
        refine ak (fun γ => ⟨rfl, fun w' hX => ⟨31, #[.slice (some ⟨gk, ok, none⟩) 32 ck, .slice (some ⟨gn, on, none⟩) 12 cn, W32 (ad c (c32 (i / 64)))], exec_call rfl call31 rfl (mpn rfl), block_born K N gk ok ck gn on cn (ad c (c32 (i / 64))) w' hX.2.1 hX.2.2.1⟩⟩) ?_
        exact trivial
      intro γ w7 l hM hl
      have M7 : Mm w7 [(γ 7, ints .u8 (bk K N (ad c (c32 (i / 64)))) 64)] := H6.out.1.grow hM (Nat.le_refl _) hl [7] rfl (by decide)
      have B7 : Ow w [] (s0 9) i (so K N c P) w7 := Ow.step H6.out.2 (hM.below)
      have o6_7 : Hid (w.heap.size ≤ γ 7) := Nat.le_trans H6.out.2.size (hM.fin (Nat.le_refl _) hl (i := 7) rfl).2.1
      have og6_7 : Hid (some (γ 7) ≠ ((s0 9)).ownBlock) := fun e => absurd (World.ownsRow.lt H6.out.2.own _ e.symm).2 (by have := (hM.fin (Nat.le_refl _) hl (i := 7) rfl).2.1; omega)
      clear hM hl l H6
      generalize γ 7 = γ6_7 at M7 o6_7 og6_7 ⊢
      generalize γ 65543 = γ6_65543
      clear γ
      have H7 : Hid (_ ∧ _) := ⟨M7, B7⟩
      clear M7 B7
      refine rest_at (l := [8]) rfl ?_
      refine rest_set (d := 10) (v := .slice (some ⟨γ6_7, 0, none⟩) 64 (64 + γ6_65543)) (w' := w7) rfl rfl rfl rfl ?_
      simp only [Act.put, sa, sz, ss]
      refine rest_nil (then_normal ?_)
      refine (walk_any) (by kernel_rfl) 12 [.quiet (s0 9), .quiet (.slice pb n cb), .quiet (.int .i64 ((i : Nat) : Int)), .quiet (PT gb (ob + i)), .quiet (Z8 (P i)), .quiet (.slice (some ⟨γ6_7, 0, none⟩) 64 (64 + γ6_65543)), .quiet (.int .i64 ((i : Nat) : Int)), .quiet (.int .i64 ((i % 64 : Nat) : Int)), .quiet (PT γ6_7 (0 + (i % 64))), .quiet (Z8 ((bk K N (ad c (c32 (i / 64)))) (0 + (i % 64)))), .quiet (Z8 (x8 (P i) ((bk K N (ad c (c32 (i / 64)))) (0 + (i % 64))))), .row (fun g => .slice (some ⟨g, 0, none⟩) 1 1) (ints .u8 (fun _ => x8 (P i) ((bk K N (ad c (c32 (i / 64)))) (0 + (i % 64)))) 1) 5] (fun u' => Mm u' [(γ6_7, ints .u8 (bk K N (ad c (c32 (i / 64)))) 64)] ∧ (Rs gk ok 32 K u' ∧ Rs gn on 12 N u' ∧ Rs gb ob n P u')) ?pre7 ?F7 ?hpre7 (fun γ => ?hF7) (by kernel_rfl) ?hL7 ?hS7 ?ho7 ?he7
      case hpre7 => simp only [tk, tz]; rfl
      case hF7 => simp only [fill, Kind.val, Act.put, sa, sz, ss]; rfl
      case hL7 => exact trivial
      case hS7 => exact fun w' hb => ⟨H7.out.1.below hb, ⟨RK.out.below (Ow.step H7.out.2 (hb)).b, RN.out.below (Ow.step H7.out.2 (hb)).b, RB.out.below (Ow.step H7.out.2 (hb)).b⟩⟩
      case ho7 =>
        refine ak (fun _ => ⟨rfl, fun _ _ => rfl⟩) ?_
        refine ak (fun _ => ⟨rfl, fun _ _ => rfl⟩) ?_
        refine ak (fun _ => ⟨rfl, fun _ _ => rfl⟩) ?_
        refine ak (fun γ => ⟨rfl, fun w' _ => ex_ixP22 (hpb (by omega)) (j := i) rfl rfl rfl (by omega)⟩) ?_
        refine ak (fun γ => ⟨rfl, fun w' hX => ex_ldR (k := i) hX.2.2.2 (by omega) rfl rfl⟩) ?_
        refine ak (fun _ => ⟨rfl, fun _ _ => rfl⟩) ?_
        refine ak (fun _ => ⟨rfl, fun _ _ => rfl⟩) ?_
        refine ak (fun γ => ⟨rfl, fun w' _ => ex_rem3 (a := i) (b := 64) (by omega) (by omega) rfl rfl rfl⟩) ?_
        refine ak (fun γ => ⟨rfl, fun w' _ => ex_ixS22 (m := 64) (j := i % 64) rfl rfl rfl (by omega)⟩) ?_
        refine ak (fun γ => ⟨rfl, fun w' hX => have h := hX.1; ex_loadC h 0 rfl rfl rfl Try.isAgg5 (ints_get _ _ (by omega))⟩) ?_
        refine ak (fun γ => ⟨rfl, fun w' _ => ex_xor8 rfl rfl rfl⟩) ?_
        refine ak (fun γ => ⟨rfl, fun w' => ex_bsr1 (a := x8 (P i) ((bk K N (ad c (c32 (i / 64)))) (0 + (i % 64)))) rfl rfl⟩) ?_
        exact trivial
      intro γ w8 l hM hl
      have M8 : Mm w8 [(γ 11, ints .u8 (fun _ => x8 (P i) ((bk K N (ad c (c32 (i / 64)))) (0 + (i % 64)))) 1), (γ6_7, ints .u8 (bk K N (ad c (c32 (i / 64)))) 64)] := H7.out.1.grow hM (Nat.le_refl _) hl [11] rfl (by decide)
      have B8 : Ow w [] (s0 9) i (so K N c P) w8 := Ow.step H7.out.2 (hM.below)
      have o7_11 : Hid (w.heap.size ≤ γ 11) := Nat.le_trans H7.out.2.size (hM.fin (Nat.le_refl _) hl (i := 11) rfl).2.1
      have og7_11 : Hid (some (γ 11) ≠ ((s0 9)).ownBlock) := fun e => absurd (World.ownsRow.lt H7.out.2.own _ e.symm).2 (by have := (hM.fin (Nat.le_refl _) hl (i := 11) rfl).2.1; omega)
      clear hM hl l H7
      generalize γ 11 = γ7_11 at M8 o7_11 og7_11 ⊢
      clear γ
      have H8 : Hid (_ ∧ _) := ⟨M8, B8⟩
      clear M8 B8
      refine rest_at (l := [12, 13]) rfl ?_
      have hO : Ow w [γ7_11, γ6_7] (s0 9) i (so K N c P) w8 := ⟨H8.out.2.b, H8.out.2.own, fun g hg => by simp only [List.mem_cons, List.not_mem_nil, or_false] at hg; rcases hg with rfl | rfl <;> first | exact og7_11.out | exact og6_7.out⟩
      obtain ⟨v9, w9, hr, hZ, hM⟩ := hO.app H8.out.1 rfl (a := ⟨γ7_11, 0, none⟩) 1 1 (fun _ => x8 (P i) ((bk K N (ad c (c32 (i / 64)))) (0 + (i % 64)))) (H8.out.1.rs 0 rfl (Nat.le_refl _)).add (by omega) 22
      refine rest_set (d := 41) (v := v9) (w' := w9) rfl rfl rfl (ex_app rfl rfl rfl hr) ?_
      simp only [Act.put, sa, sz, ss]
      have HK : Hid (some γ6_7 ≠ v9.ownBlock) := hZ.ne γ6_7 (by simp)
      have H9 : Hid (Mm w9 [(γ6_7, ints .u8 (bk K N (ad c (c32 (i / 64)))) 64)] ∧ Ow w [] v9 (i + 1) (so K N c P) w9) := ⟨hM.tail, (hZ.cg (ct_snoc (by rw [Nat.zero_add]; rfl))).less⟩
      clear hr hZ hM hO H8
      refine rest_set (d := 9) (v := v9) (w' := w9) rfl rfl rfl rfl ?_
      simp only [Act.put, sa, sz, ss]
      refine rest_nil (block_normal (then_normal ?_))
      refine walk_seqA 2 [.quiet (.int .i64 ((i : Nat) : Int)), .quiet (.int .i64 ((i + 1 : Nat) : Int))] (sB H9) ?ho8 ?he8
      case ho8 => exact ak (fun _ => ⟨rfl, fun _ _ => rfl⟩) (ak (by refine fun γ => ⟨rfl, fun w' h => ?_⟩; clear h; go_simp; rw [IntKind.wrap_i64]; omega) trivial)
      intro γ w10 l hM hl
      have M10 : Mm w10 [(γ6_7, ints .u8 (bk K N (ad c (c32 (i / 64)))) 64)] := H9.out.1.grow hM (Nat.le_refl _) hl [] rfl (by decide)
      have B10 : Ow w [] v9 (i + 1) (so K N c P) w10 := Ow.step H9.out.2 (hM.below)
      clear hM hl l H9
      clear γ
      have H10 : Hid (_ ∧ _) := ⟨M10, B10⟩
      clear M10 B10
      refine rest_at (l := [2]) rfl ?_
      refine rest_set (d := 11) (v := .int .i64 ((i + 1 : Nat) : Int)) (w' := w10) rfl rfl rfl rfl ?_
      simp only [Act.put, sa, sz, ss]
      refine rest_nil (then_normal ?_)
      exact ⟨i + 1, ⟨(slotfn [undef, undef, undef, undef, undef, undef, undef, undef, undef, v9, .slice (some ⟨γ6_7, 0, none⟩) 64 (64 + γ6_65543), undef, .int .i64 ((i : Nat) : Int), .slice pb n cb, .int .i64 ((n : Nat) : Int), .bool true, .int .i64 ((i : Nat) : Int), .int .i64 ((i + 1 : Nat) : Int), .int .i64 ((i : Nat) : Int), .int .i64 ((i % 64 : Nat) : Int), .bool true, .slice (some ⟨gk, ok, none⟩) 32 ck, .slice (some ⟨gn, on, none⟩) 12 cn, W32 c, .int .i64 ((i : Nat) : Int), .int .i64 ((i / 64 : Nat) : Int), W32 (c32 (i / 64)), W32 (ad c (c32 (i / 64))), .slice (some ⟨γ6_7, 0, none⟩) 64 (64 + γ6_65543), s0 9, .slice pb n cb, .int .i64 ((i : Nat) : Int), PT gb (ob + i), Z8 (P i), .slice (some ⟨γ6_7, 0, none⟩) 64 (64 + γ6_65543), .int .i64 ((i : Nat) : Int), .int .i64 ((i % 64 : Nat) : Int), PT γ6_7 (0 + (i % 64)), Z8 ((bk K N (ad c (c32 (i / 64)))) (0 + (i % 64))), Z8 (x8 (P i) ((bk K N (ad c (c32 (i / 64)))) (0 + (i % 64)))), .slice (some ⟨γ7_11, 0, none⟩) 1 1, v9]), rfl, ⟨Mm.nil _, H10.out.2⟩, ⟨by omega, fun h64 => ⟨γ6_7, _, rfl, by rw [show (i + 1) / 64 = i / 64 by omega]; exact H10.out.1, HK.out⟩⟩⟩, by omega⟩
    · have hrd : True := trivial
      clear hrd
      obtain ⟨gq, cq, eq, hMq, hNq⟩ := hk0.2 (by omega)
      rw [eq]
      clear eq
      have HN : Hid (some gq ≠ (s0 9).ownBlock) := hNq
      have H11 : Hid (Mm w4 [(gq, ints .u8 (bk K N (ad c (c32 (i / 64)))) 64)] ∧ Ow w [] (s0 9) i (so K N c P) w4) := ⟨hMq, H4.out.2⟩
      clear hMq hNq H4
      refine wp_seq (wp_seq ?_)
      refine walk_seqA 4 [.quiet (.int .i64 ((i : Nat) : Int)), .quiet (.slice pb n cb), .quiet (.int .i64 ((n : Nat) : Int)), .quiet (.bool true)] (sB H11) ?ho9 ?he9
      case ho9 => exact ak (fun _ => ⟨rfl, fun _ _ => rfl⟩) (ak (fun _ => ⟨rfl, fun _ _ => rfl⟩) (ak (by refine fun γ => ⟨rfl, fun w' h => ?_⟩; clear h; go_simp) (ak (by refine fun γ => ⟨rfl, fun w' h => ?_⟩; clear h; go_simp <;> omega) trivial)))
      intro γ w12 l hM hl
      have M12 : Mm w12 [(gq, ints .u8 (bk K N (ad c (c32 (i / 64)))) 64)] := H11.out.1.grow hM (Nat.le_refl _) hl [] rfl (by decide)
      have B12 : Ow w [] (s0 9) i (so K N c P) w12 := Ow.step H11.out.2 (hM.below)
      clear hM hl l H11
      clear γ
      have H12 : Hid (_ ∧ _) := ⟨M12, B12⟩
      clear M12 B12
      refine rest0 rfl (then_normal (wp_cond_true rfl ?_))
      refine wp_skip (then_normal ?_)
      refine wp_seq (wp_block ?_)
      refine wp_seq (wp_seq ?_)
      refine walk_seqA 3 [.quiet (.int .i64 ((i : Nat) : Int)), .quiet (.int .i64 ((i % 64 : Nat) : Int)), .quiet (.bool false)] (sB H12) ?ho10 ?he10
      case ho10 => exact ak (fun _ => ⟨rfl, fun _ _ => rfl⟩) (ak (fun γ => ⟨rfl, fun w' _ => ex_rem3 (a := i) (b := 64) (by omega) (by omega) rfl rfl rfl⟩) (ak (by refine fun γ => ⟨rfl, fun w' h => ?_⟩; clear h; go_simp <;> omega) trivial))
      intro γ w13 l hM hl
      have M13 : Mm w13 [(gq, ints .u8 (bk K N (ad c (c32 (i / 64)))) 64)] := H12.out.1.grow hM (Nat.le_refl _) hl [] rfl (by decide)
      have B13 : Ow w [] (s0 9) i (so K N c P) w13 := Ow.step H12.out.2 (hM.below)
      clear hM hl l H12
      clear γ
      have H13 : Hid (_ ∧ _) := ⟨M13, B13⟩
      clear M13 B13
      refine rest0 rfl (then_normal (wp_cond_false rfl ?_))
      refine wp_skip (then_normal ?_)
      refine (walk_any) (by kernel_rfl) 12 [.quiet (s0 9), .quiet (.slice pb n cb), .quiet (.int .i64 ((i : Nat) : Int)), .quiet (PT gb (ob + i)), .quiet (Z8 (P i)), .quiet (.slice (some ⟨gq, 0, none⟩) 64 cq), .quiet (.int .i64 ((i : Nat) : Int)), .quiet (.int .i64 ((i % 64 : Nat) : Int)), .quiet (PT gq (0 + (i % 64))), .quiet (Z8 ((bk K N (ad c (c32 (i / 64)))) (0 + (i % 64)))), .quiet (Z8 (x8 (P i) ((bk K N (ad c (c32 (i / 64)))) (0 + (i % 64))))), .row (fun g => .slice (some ⟨g, 0, none⟩) 1 1) (ints .u8 (fun _ => x8 (P i) ((bk K N (ad c (c32 (i / 64)))) (0 + (i % 64)))) 1) 5] (fun u' => Mm u' [(gq, ints .u8 (bk K N (ad c (c32 (i / 64)))) 64)] ∧ (Rs gk ok 32 K u' ∧ Rs gn on 12 N u' ∧ Rs gb ob n P u')) ?pre11 ?F11 ?hpre11 (fun γ => ?hF11) (by kernel_rfl) ?hL11 ?hS11 ?ho11 ?he11
      case hpre11 => simp only [tk, tz]; rfl
      case hF11 => simp only [fill, Kind.val, Act.put, sa, sz, ss]; rfl
      case hL11 => exact trivial
      case hS11 => exact fun w' hb => ⟨H13.out.1.below hb, ⟨RK.out.below (Ow.step H13.out.2 (hb)).b, RN.out.below (Ow.step H13.out.2 (hb)).b, RB.out.below (Ow.step H13.out.2 (hb)).b⟩⟩
      case ho11 =>
        refine ak (fun _ => ⟨rfl, fun _ _ => rfl⟩) ?_
        refine ak (fun _ => ⟨rfl, fun _ _ => rfl⟩) ?_
        refine ak (fun _ => ⟨rfl, fun _ _ => rfl⟩) ?_
        refine ak (fun γ => ⟨rfl, fun w' _ => ex_ixP22 (hpb (by omega)) (j := i) rfl rfl rfl (by omega)⟩) ?_
        refine ak (fun γ => ⟨rfl, fun w' hX => ex_ldR (k := i) hX.2.2.2 (by omega) rfl rfl⟩) ?_
        refine ak (fun _ => ⟨rfl, fun _ _ => rfl⟩) ?_
        refine ak (fun _ => ⟨rfl, fun _ _ => rfl⟩) ?_
        refine ak (fun γ => ⟨rfl, fun w' _ => ex_rem3 (a := i) (b := 64) (by omega) (by omega) rfl rfl rfl⟩) ?_
        refine ak (fun γ => ⟨rfl, fun w' _ => ex_ixS22 (m := 64) (j := i % 64) rfl rfl rfl (by omega)⟩) ?_
        refine ak (fun γ => ⟨rfl, fun w' hX => have h := hX.1; ex_loadC h 0 rfl rfl rfl Try.isAgg5 (ints_get _ _ (by omega))⟩) ?_
        refine ak (fun γ => ⟨rfl, fun w' _ => ex_xor8 rfl rfl rfl⟩) ?_
        refine ak (fun γ => ⟨rfl, fun w' => ex_bsr1 (a := x8 (P i) ((bk K N (ad c (c32 (i / 64)))) (0 + (i % 64)))) rfl rfl⟩) ?_
        exact trivial
      intro γ w14 l hM hl
      have M14 : Mm w14 [(γ 11, ints .u8 (fun _ => x8 (P i) ((bk K N (ad c (c32 (i / 64)))) (0 + (i % 64)))) 1), (gq, ints .u8 (bk K N (ad c (c32 (i / 64)))) 64)] := H13.out.1.grow hM (Nat.le_refl _) hl [11] rfl (by decide)
      have B14 : Ow w [] (s0 9) i (so K N c P) w14 := Ow.step H13.out.2 (hM.below)
      have o11_11 : Hid (w.heap.size ≤ γ 11) := Nat.le_trans H13.out.2.size (hM.fin (Nat.le_refl _) hl (i := 11) rfl).2.1
      have og11_11 : Hid (some (γ 11) ≠ ((s0 9)).ownBlock) := fun e => absurd (World.ownsRow.lt H13.out.2.own _ e.symm).2 (by have := (hM.fin (Nat.le_refl _) hl (i := 11) rfl).2.1; omega)
      clear hM hl l H13
      generalize γ 11 = γ11_11 at M14 o11_11 og11_11 ⊢
      clear γ
      have H14 : Hid (_ ∧ _) := ⟨M14, B14⟩
      clear M14 B14
      refine rest_at (l := [12, 13]) rfl ?_
      have hO : Ow w [γ11_11, gq] (s0 9) i (so K N c P) w14 := ⟨H14.out.2.b, H14.out.2.own, fun g hg => by simp only [List.mem_cons, List.not_mem_nil, or_false] at hg; rcases hg with rfl | rfl <;> first | exact og11_11.out | exact HN.out⟩
      obtain ⟨v15, w15, hr, hZ, hM⟩ := hO.app H14.out.1 rfl (a := ⟨γ11_11, 0, none⟩) 1 1 (fun _ => x8 (P i) ((bk K N (ad c (c32 (i / 64)))) (0 + (i % 64)))) (H14.out.1.rs 0 rfl (Nat.le_refl _)).add (by omega) 22
      refine rest_set (d := 41) (v := v15) (w' := w15) rfl rfl rfl (ex_app rfl rfl rfl hr) ?_
      simp only [Act.put, sa, sz, ss]
      have HK : Hid (some gq ≠ v15.ownBlock) := hZ.ne gq (by simp)
      have H15 : Hid (Mm w15 [(gq, ints .u8 (bk K N (ad c (c32 (i / 64)))) 64)] ∧ Ow w [] v15 (i + 1) (so K N c P) w15) := ⟨hM.tail, (hZ.cg (ct_snoc (by rw [Nat.zero_add]; rfl))).less⟩
      clear hr hZ hM hO H14
      refine rest_set (d := 9) (v := v15) (w' := w15) rfl rfl rfl rfl ?_
      simp only [Act.put, sa, sz, ss]
      refine rest_nil (block_normal (then_normal ?_))
      refine walk_seqA 2 [.quiet (.int .i64 ((i : Nat) : Int)), .quiet (.int .i64 ((i + 1 : Nat) : Int))] (sB H15) ?ho12 ?he12
      case ho12 => exact ak (fun _ => ⟨rfl, fun _ _ => rfl⟩) (ak (by refine fun γ => ⟨rfl, fun w' h => ?_⟩; clear h; go_simp; rw [IntKind.wrap_i64]; omega) trivial)
      intro γ w16 l hM hl
      have M16 : Mm w16 [(gq, ints .u8 (bk K N (ad c (c32 (i / 64)))) 64)] := H15.out.1.grow hM (Nat.le_refl _) hl [] rfl (by decide)
      have B16 : Ow w [] v15 (i + 1) (so K N c P) w16 := Ow.step H15.out.2 (hM.below)
      clear hM hl l H15
      clear γ
      have H16 : Hid (_ ∧ _) := ⟨M16, B16⟩
      clear M16 B16
      refine rest_at (l := [2]) rfl ?_
      refine rest_set (d := 11) (v := .int .i64 ((i + 1 : Nat) : Int)) (w' := w16) rfl rfl rfl rfl ?_
      simp only [Act.put, sa, sz, ss]
      refine rest_nil (then_normal ?_)
      exact ⟨i + 1, ⟨(slotfn [undef, undef, undef, undef, undef, undef, undef, undef, undef, v15, .slice (some ⟨gq, 0, none⟩) 64 cq, undef, .int .i64 ((i : Nat) : Int), .slice pb n cb, .int .i64 ((n : Nat) : Int), .bool true, .int .i64 ((i : Nat) : Int), .int .i64 ((i + 1 : Nat) : Int), .int .i64 ((i : Nat) : Int), .int .i64 ((i % 64 : Nat) : Int), .bool false, s0 21, s0 22, s0 23, s0 24, s0 25, s0 26, s0 27, s0 28, s0 9, .slice pb n cb, .int .i64 ((i : Nat) : Int), PT gb (ob + i), Z8 (P i), .slice (some ⟨gq, 0, none⟩) 64 cq, .int .i64 ((i : Nat) : Int), .int .i64 ((i % 64 : Nat) : Int), PT gq (0 + (i % 64)), Z8 ((bk K N (ad c (c32 (i / 64)))) (0 + (i % 64))), Z8 (x8 (P i) ((bk K N (ad c (c32 (i / 64)))) (0 + (i % 64)))), .slice (some ⟨γ11_11, 0, none⟩) 1 1, v15]), rfl, ⟨Mm.nil _, H16.out.2⟩, ⟨by omega, fun h64 => ⟨gq, _, rfl, by rw [show (i + 1) / 64 = i / 64 by omega]; exact H16.out.1, HK.out⟩⟩⟩, by omega⟩
  have hiN : n = i := by omega
  subst hiN
  refine wp_seq (wp_seq ?_)
  refine walk_seqA 4 [.quiet (.int .i64 ((n : Nat) : Int)), .quiet (.slice pb n cb), .quiet (.int .i64 ((n : Nat) : Int)), .quiet (.bool false)] (sB H4) ?ho13 ?he13
  case ho13 => exact ak (fun _ => ⟨rfl, fun _ _ => rfl⟩) (ak (fun _ => ⟨rfl, fun _ _ => rfl⟩) (ak (by refine fun γ => ⟨rfl, fun w' h => ?_⟩; clear h; go_simp) (ak (by refine fun γ => ⟨rfl, fun w' h => ?_⟩; clear h; go_simp <;> omega) trivial)))
  intro γ w17 l hM hl
  have M17 : Mm w17 [] := H4.out.1.grow hM (Nat.le_refl _) hl [] rfl (by decide)
  have B17 : Ow w [] (s0 9) n (so K N c P) w17 := Ow.step H4.out.2 (hM.below)
  clear hM hl l H4
  clear γ
  have H17 : Hid (_ ∧ _) := ⟨M17, B17⟩
  clear M17 B17
  refine rest0 rfl (then_normal (wp_cond_false rfl ?_))
  refine wp_exit ?_
  repeat refine then_exit ?_
  refine block_exit ?_
  refine then_normal (wp_seq ?_)
  refine walk_seqA 2 [.quiet (s0 9), .quiet (s0 9)] (sB H17) ?ho14 ?he14
  case ho14 => exact ak (fun _ => ⟨rfl, fun _ _ => rfl⟩) (ak (fun _ => ⟨rfl, fun _ _ => rfl⟩) trivial)
  intro γ w18 l hM hl
  have M18 : Mm w18 [] := H17.out.1.grow hM (Nat.le_refl _) hl [] rfl (by decide)
  have B18 : Ow w [] (s0 9) n (so K N c P) w18 := Ow.step H17.out.2 (hM.below)
  clear hM hl l H17
  clear γ
  have H18 : Hid (_ ∧ _) := ⟨M18, B18⟩
  clear M18 B18
  refine rest0 rfl (then_normal (wp_ret ?_))
  repeat (first | refine then_ret ?_ | refine block_ret ?_)
  refine bodyPost_ret (v := s0 9) (by simp [results, Try.results33, go_sem, *]) rfl ?_
  exact ⟨H18.out.2.b, _, rfl, H18.out.2.own⟩
end Rg
end Go.Proofs.Ytkkippfikfjdpaa
end
section
namespace Go.Proofs.Ytkkippfikfjdpaa
open Go.RowKit
namespace Rg
set_option maxRecDepth 100000
/-- An own row that is not nil: its slice, its block, its object. -/
theorem own_told {w : World} {B n : Nat} {vv : Value} {f : Nat → Nat} (h : w.ownsRow B 5 1 vv n (ints .u8 f n)) (hz : vv.ownBlock ≠ none) : ∃ g x, vv = .slice (some ⟨g, 0, none⟩) n (n + x) ∧ B ≤ g ∧ g < w.heap.size ∧ Blk w g (ints .u8 f n) ∧ ∃ o, w.heap[g]? = some o ∧ Eo n f o x := by
  rcases h.2 with ⟨h1, _⟩ | ⟨g, cap, cur, h1, h2, h3, h4, h5, h6, h7⟩
  · subst h1
    exact absurd rfl hz
  · subst h1
    obtain ⟨b1, b2, b3, b4⟩ := own_blk h
    refine ⟨g, cap - n, by rw [show n + (cap - n) = cap by omega], b1, b2, b4, _, h3, cur, rfl, ?_, ?_, h7⟩
    · rw [show n + (cap - n) = cap by omega]; exact h5
    · rw [show n + (cap - n) = cap by omega]; exact h6
/-- An own row that is not nil. -/
structure On (w : World) (vv : Value) (n : Nat) (P : Nat → Nat) (w' : World) : Prop where
  b : Below w.heap.size w w'
  own : w'.ownsRow w.heap.size 5 1 vv n (ints .u8 P n)
  nz : vv.ownBlock ≠ none
section
variable {w w1 w2 : World} {n : Nat} {vv : Value} {P P' : Nat → Nat}
theorem On.size (h : On w vv n P w1) : w.heap.size ≤ w1.heap.size := h.b.size
theorem On.step (h : On w vv n P w1) (hb : Below w1.heap.size w1 w2) : On w vv n P w2 := ⟨h.b.trans (hb.mono h.b.size), own_step h.own hb, h.nz⟩
theorem On.cg (h : On w vv n P w1) (e : ∀ j, j < n → P j = P' j) : On w vv n P' w1 := ⟨h.b, own_cg h.own e, h.nz⟩
theorem On.form (h : On w vv n P w1) : ∃ g x, vv = .slice (some ⟨g, 0, none⟩) n (n + x) := by
  obtain ⟨g, x, e, _⟩ := own_told h.own h.nz
  exact ⟨g, x, e⟩
theorem On.made (P : Nat → Nat) (hb : Below w.heap.size w w1) : On w (.slice (some ⟨w1.heap.size, 0, none⟩) 0 0) 0 P (w1.alloc (.cells #[] 5)) :=
  ⟨hb.alloc hb.size _, ⟨by simp [ints], .inr ⟨w1.heap.size, 0, #[], rfl, hb.size, heap_alloc_new _ _, Nat.le_refl _, by unfold maxLen; omega, rfl, rfl⟩⟩, by simp [Value.ownBlock]⟩
theorem On.app (h : On w vv n P w1) {a : Addr} (m c : Nat) (Q : Nat → Nat) (hr : ∀ j, j < m → w1.cell? (a.add j) = some (Z8 (Q j))) (hb : n + m ≤ 2097152) (ty : TypeId) :
    ∃ v' w2, (Builtin.append_ #[22, 22] ty #[vv, .slice (some a) m c]).run Try.prog w1 = .ok v' w2 ∧ On w v' (n + m) (ct P n Q) w2 := by
  obtain ⟨v', w2, h1, h2, h3, h5⟩ := own_app h.own h.b.size m c Q hr hb ty
  have hb2 : Below w.heap.size w1 w2 := (Below.refl _ _).grown h3 h.b.size (fun k hk => (World.ownsRow.lt h.own k hk).1)
  refine ⟨v', w2, h1, h.b.trans hb2, h2, ?_⟩
  rcases h5 with e | e
  · rw [e]; exact h.nz
  · rw [e]; simp
/-- A slice handed in, nil or not, is laid behind. -/
theorem On.appS (h : On w vv n P w1) {p : Option Addr} {g o m c : Nat} {Q : Nat → Nat} (hp : 0 < m → p = some ⟨g, o, none⟩) (hN : p = none → c = 0) (hR : Rs g o m Q w1) (hb : n + m ≤ 2097152) (ty : TypeId) :
    ∃ v' w2, (Builtin.append_ #[22, 22] ty #[vv, .slice p m c]).run Try.prog w1 = .ok v' w2 ∧ On w v' (n + m) (ct P n Q) w2 := by
  cases p with
  | none =>
    have hm : m = 0 := by
      rcases Nat.eq_zero_or_pos m with e | e
      · exact e
      · have := hp e
        simp at this
    have hc := hN rfl
    subst hm hc
    obtain ⟨i0, hi, _, _, _⟩ := info_byte
    exact ⟨vv, w1, run_append_owned_none (P := Try.prog) (w := w1) w.heap.size 22 ty 5 i0 1 Try.underlying22 hi vv n _ h.own, h.cg (fun j hj => by unfold ct; rw [if_pos hj])⟩
  | some a =>
    refine h.app (a := a) m c Q (fun j hj => ?_) hb ty
    have e := hp (by omega)
    injection e with e1
    rw [e1]
    exact hR.add j hj
end
theorem kz_lt (f : Nat → Nat) (n j : Nat) (h : j < n) : f j = kz f n j := by unfold kz; rw [if_pos h]
theorem kz_ge (f : Nat → Nat) (n k : Nat) : 0 = kz f n (n + k) := by unfold kz; rw [if_neg (by omega)]
theorem ct_nil (P Q : Nat → Nat) (j : Nat) : ct P 0 Q j = Q j := by unfold ct; rw [if_neg (by omega)]; rfl
/-- How many zeros fill up to a multiple of 16. -/
def zf (n : Nat) : Nat := (16 - n % 16) % 16
def eb8 (n j : Nat) : Nat := sr (c64 n) (8 * j) % 256
set_option maxHeartbeats 1000000 in
set_option maxRecDepth 100000 in
theorem filled_any (P : Nat → Nat) (gb ob n cb : Nat) (pb : Option Addr) (hpb : 0 < n → pb = some ⟨gb, ob, none⟩) (hN0 : pb = none → cb = 0) (hn : n ≤ 1048600) (w : World) (hRb : Rs gb ob n P w) :
    Calls Try.prog 55 #[.slice pb n cb] w fun e w' => Below w.heap.size w w' ∧ ∃ (g x y : Nat), e = .returned ((fun g x _ => .slice (some ⟨g, 0, none⟩) (n + zf n) ((n + zf n) + x)) g x y) ∧ w.heap.size ≤ g ∧ g < w'.heap.size ∧ Blk w' g (ints .u8 (kz P n) (n + zf n)) ∧ ∃ o, w'.heap[g]? = some o ∧ Eo (n + zf n) (kz P n) o x := by
  have H0 : Hid (_ ∧ _) := ⟨Mm.nil w, Below.refl w.heap.size w⟩
  have RB : Hid (Rs gb ob n P w) := hRb
  have hN : Hid (pb = none → cb = 0) := hN0
  clear hRb hN0
  go_enter Try.func55, Try.ntmps55
  refine wp_seq ?_
  refine walk_seqB 1 [.quiet (.slice none 0 0)] H0 ?ho1 ?he1
  case ho1 => exact ak (fun _ => ⟨rfl, fun _ _ => rfl⟩) trivial
  intro _ w1 H1
  refine rest0 rfl (then_normal (wp_seq ?_))
  refine walk_seqB 0 [] H1 ?ho2 ?he2
  case ho2 => exact trivial
  intro _ w2 H2
  clear H1
  refine rest_at (l := [0, 1, 2, 3]) rfl ?_
  refine rest_set (d := 4) (v := .slice (some ⟨w2.heap.size, 0, none⟩) 0 0) (w' := (w2.alloc (.cells #[] 5))) rfl rfl rfl (ex_bs0 rfl) ?_
  simp only [Act.put, sa, sz, ss]
  have H3 : Hid (Mm (w2.alloc (.cells #[] 5)) [] ∧ On w (.slice (some ⟨w2.heap.size, 0, none⟩) 0 0) 0 (kz P n) (w2.alloc (.cells #[] 5))) := ⟨Mm.nil _, On.made (kz P n) H2.out.2⟩
  clear H2
  generalize hgw : (w2.alloc (.cells #[] 5)) = w3 at H3 ⊢
  clear hgw
  generalize w2.heap.size = γb at H3 ⊢
  refine rest_set (d := 5) (v := .slice pb n cb) (w' := w3) rfl rfl rfl rfl ?_
  simp only [Act.put, sa, sz, ss]
  obtain ⟨v4, w4, hr, hZ⟩ := H3.out.2.appS (p := pb) (c := cb) hpb hN.out (RB.out.below H3.out.2.b) (by omega) 22
  refine rest_set (d := 6) (v := v4) (w' := w4) rfl rfl rfl (ex_app rfl rfl rfl hr) ?_
  simp only [Act.put, sa, sz, ss]
  have hZ2 : On w v4 n (kz P n) w4 := by rw [Nat.zero_add] at hZ; exact hZ.cg (fun j hj => by rw [ct_nil]; exact kz_lt P n j hj)
  have H4 : Hid (Mm w4 [] ∧ On w v4 n (kz P n) w4) := ⟨Mm.nil _, hZ2⟩
  clear hr hZ hZ2 H3
  refine rest_set (d := 3) (v := v4) (w' := w4) rfl rfl rfl rfl ?_
  simp only [Act.put, sa, sz, ss]
  refine rest_nil (then_normal ?_)
  refine wp_seq (wp_block ?_)
  refine loop_ghost (α := Nat) (fun k a' w' => ∃ s0 : Nat → Value, a' = ⟨#[.slice pb n cb, undef, .slice none 0 0, s0 3, .slice (some ⟨γb, 0, none⟩) 0 0, .slice pb n cb, v4, s0 7, s0 8, s0 9, s0 10, s0 11, s0 12, s0 13, undef], []⟩ ∧ (Mm w' [] ∧ On w (s0 3) (n + k) (kz P n) w') ∧ k ≤ zf n) (fun k => zf n - k) 0 ?st0 ?rd0
  case st0 => exact ⟨(slotfn [undef, undef, undef, v4, undef, undef, undef, undef, undef, undef, undef, undef, undef, undef]), rfl, ⟨H4.out.1, H4.out.2⟩, Nat.zero_le _⟩
  intro k a' w5 hI
  obtain ⟨s0, rfl, hMB, hk0⟩ := hI
  have H5 : Hid (_ ∧ _) := hMB
  clear hMB H4
  by_cases hltk : k < zf n
  · have hrd : True := trivial
    clear hrd
    obtain ⟨g3, x3, e3⟩ := H5.out.2.form
    rw [e3] at H5 ⊢
    clear e3
    have hz : (n + k) % 16 ≠ 0 := by unfold zf at hltk; omega
    have hzl : zf n < 16 := by unfold zf; omega
    refine wp_seq (wp_seq ?_)
    refine walk_seqA 4 [.quiet (.slice (some ⟨g3, 0, none⟩) (n + k) (n + k + x3)), .quiet (.int .i64 (((n + k) : Nat) : Int)), .quiet (.int .i64 (((n + k) % 16 : Nat) : Int)), .quiet (.bool true)] (sB H5) ?ho3 ?he3
    case ho3 => exact ak (fun _ => ⟨rfl, fun _ _ => rfl⟩) (ak (by refine fun γ => ⟨rfl, fun w' h => ?_⟩; clear h; go_simp) (ak (fun γ => ⟨rfl, fun w' _ => ex_rem3 (a := (n + k)) (b := 16) (by omega) (by omega) rfl rfl rfl⟩) (ak (by refine fun γ => ⟨rfl, fun w' h => ?_⟩; clear h; go_simp <;> omega) trivial)))
    intro γ w6 l hM hl
    have M6 : Mm w6 [] := H5.out.1.grow hM (Nat.le_refl _) hl [] rfl (by decide)
    have B6 : On w (.slice (some ⟨g3, 0, none⟩) (n + k) (n + k + x3)) (n + k) (kz P n) w6 := On.step H5.out.2 (hM.below)
    clear hM hl l H5
    clear γ
    have H6 : Hid (_ ∧ _) := ⟨M6, B6⟩
    clear M6 B6
    refine rest0 rfl (then_normal (wp_cond_true rfl ?_))
    refine wp_skip (then_normal (wp_block ?_))
    refine walk_seqA 1 [.quiet (.slice (some ⟨g3, 0, none⟩) (n + k) (n + k + x3))] (sB H6) ?ho4 ?he4
    case ho4 => exact ak (fun _ => ⟨rfl, fun _ _ => rfl⟩) trivial
    intro γ w7 l hM hl
    have M7 : Mm w7 [] := H6.out.1.grow hM (Nat.le_refl _) hl [] rfl (by decide)
    have B7 : On w (.slice (some ⟨g3, 0, none⟩) (n + k) (n + k + x3)) (n + k) (kz P n) w7 := On.step H6.out.2 (hM.below)
    clear hM hl l H6
    clear γ
    have H7 : Hid (_ ∧ _) := ⟨M7, B7⟩
    clear M7 B7
    refine rest_at (l := [1, 2, 3]) rfl ?_
    refine rest_set (d := 12) (v := .slice (some ⟨w7.heap.size, 0, none⟩) 1 1) (w' := (w7.alloc (.cells (ints .u8 (fun _ => 0) 1).toArray 5))) rfl rfl rfl (ex_bsr1 (a := 0) rfl rfl) ?_
    simp only [Act.put, sa, sz, ss]
    have H8 : Hid (Mm (w7.alloc (.cells (ints .u8 (fun _ => 0) 1).toArray 5)) [] ∧ On w (.slice (some ⟨g3, 0, none⟩) (n + k) (n + k + x3)) (n + k) (kz P n) (w7.alloc (.cells (ints .u8 (fun _ => 0) 1).toArray 5))) := ⟨H7.out.1.below ((Below.refl _ _).alloc (Nat.le_refl _) _), On.step H7.out.2 ((Below.refl _ _).alloc (Nat.le_refl _) _)⟩
    have c8 := cell_row w7 (fun _ => 0) 1
    have C8 : Hid _ := c8
    clear c8 H7
    generalize hgw : (w7.alloc (.cells (ints .u8 (fun _ => 0) 1).toArray 5)) = w8 at H8 C8 ⊢
    clear hgw
    generalize w7.heap.size = γs8 at C8 ⊢
    obtain ⟨v9, w9, hr, hZ⟩ := H8.out.2.app (a := ⟨γs8, 0, none⟩) 1 1 (fun _ => 0) (C8.out) (by unfold zf at *; omega) 22
    refine rest_set (d := 13) (v := v9) (w' := w9) rfl rfl rfl (ex_app rfl rfl rfl hr) ?_
    simp only [Act.put, sa, sz, ss]
    have H9 : Hid (Mm w9 [] ∧ On w v9 (n + (k + 1)) (kz P n) w9) := ⟨Mm.nil _, hZ.cg (ct_snoc (kz_ge P n k))⟩
    clear hr hZ H8
    refine rest_set (d := 3) (v := v9) (w' := w9) rfl rfl rfl rfl ?_
    simp only [Act.put, sa, sz, ss]
    refine rest_nil (block_normal (then_normal ?_))
    exact ⟨k + 1, ⟨(slotfn [undef, undef, undef, v9, undef, undef, undef, .slice (some ⟨g3, 0, none⟩) (n + k) (n + k + x3), .int .i64 (((n + k) : Nat) : Int), .int .i64 (((n + k) % 16 : Nat) : Int), .bool true, .slice (some ⟨g3, 0, none⟩) (n + k) (n + k + x3), .slice (some ⟨γs8, 0, none⟩) 1 1, v9]), rfl, ⟨H9.out.1, H9.out.2⟩, by omega⟩, by omega⟩
  have hkN : k = zf n := by omega
  subst hkN
  obtain ⟨g3, x3, e3⟩ := H5.out.2.form
  rw [e3] at H5 ⊢
  clear e3
  have hz : (n + zf n) % 16 = 0 := by unfold zf; omega
  have hzl : zf n < 16 := by unfold zf; omega
  refine wp_seq (wp_seq ?_)
  refine walk_seqA 4 [.quiet (.slice (some ⟨g3, 0, none⟩) (n + (zf n)) (n + (zf n) + x3)), .quiet (.int .i64 (((n + (zf n)) : Nat) : Int)), .quiet (.int .i64 (((n + (zf n)) % 16 : Nat) : Int)), .quiet (.bool false)] (sB H5) ?ho5 ?he5
  case ho5 => exact ak (fun _ => ⟨rfl, fun _ _ => rfl⟩) (ak (by refine fun γ => ⟨rfl, fun w' h => ?_⟩; clear h; go_simp) (ak (fun γ => ⟨rfl, fun w' _ => ex_rem3 (a := (n + (zf n))) (b := 16) (by omega) (by omega) rfl rfl rfl⟩) (ak (by refine fun γ => ⟨rfl, fun w' h => ?_⟩; clear h; go_simp <;> omega) trivial)))
  intro γ w10 l hM hl
  have M10 : Mm w10 [] := H5.out.1.grow hM (Nat.le_refl _) hl [] rfl (by decide)
  have B10 : On w (.slice (some ⟨g3, 0, none⟩) (n + (zf n)) (n + (zf n) + x3)) (n + (zf n)) (kz P n) w10 := On.step H5.out.2 (hM.below)
  clear hM hl l H5
  clear γ
  have H10 : Hid (_ ∧ _) := ⟨M10, B10⟩
  clear M10 B10
  refine rest0 rfl (then_normal (wp_cond_false rfl ?_))
  refine wp_exit ?_
  repeat refine then_exit ?_
  refine block_exit ?_
  refine then_normal (wp_seq ?_)
  refine walk_seqA 2 [.quiet (.slice (some ⟨g3, 0, none⟩) (n + (zf n)) (n + (zf n) + x3)), .quiet (.slice (some ⟨g3, 0, none⟩) (n + (zf n)) (n + (zf n) + x3))] (sB H10) ?ho6 ?he6
  case ho6 => exact ak (fun _ => ⟨rfl, fun _ _ => rfl⟩) (ak (fun _ => ⟨rfl, fun _ _ => rfl⟩) trivial)
  intro γ w11 l hM hl
  have M11 : Mm w11 [] := H10.out.1.grow hM (Nat.le_refl _) hl [] rfl (by decide)
  have B11 : On w (.slice (some ⟨g3, 0, none⟩) (n + (zf n)) (n + (zf n) + x3)) (n + (zf n)) (kz P n) w11 := On.step H10.out.2 (hM.below)
  clear hM hl l H10
  clear γ
  have H11 : Hid (_ ∧ _) := ⟨M11, B11⟩
  clear M11 B11
  refine rest0 rfl (then_normal (wp_ret ?_))
  repeat (first | refine then_ret ?_ | refine block_ret ?_)
  refine bodyPost_ret (v := .slice (some ⟨g3, 0, none⟩) (n + (zf n)) (n + (zf n) + x3)) (by simp [results, Try.results55, go_sem, *]) rfl ?_
  obtain ⟨g4, x4, e4, b1, b2, b3, b4⟩ := own_told H11.out.2.own H11.out.2.nz
  exact ⟨H11.out.2.b, g4, x4, 0, by rw [e4], b1, b2, b3, b4⟩
set_option maxHeartbeats 1000000 in
set_option maxRecDepth 100000 in
theorem eight_any (n : Nat) (w : World) :
    Calls Try.prog 56 #[.int .i64 ((n : Nat) : Int)] w fun e w' => Below w.heap.size w w' ∧ ∃ (g x y : Nat), e = .returned ((fun g x _ => .slice (some ⟨g, 0, none⟩) 8 (8 + x)) g x y) ∧ w.heap.size ≤ g ∧ g < w'.heap.size ∧ Blk w' g (ints .u8 (eb8 n) 8) ∧ ∃ o, w'.heap[g]? = some o ∧ Eo 8 (eb8 n) o x := by
  have H0 : Hid (_ ∧ _) := ⟨Mm.nil w, Below.refl w.heap.size w⟩
  go_enter Try.func56, Try.ntmps56
  refine wp_seq ?_
  refine walk_seqB 1 [.quiet (.slice none 0 0)] H0 ?ho1 ?he1
  case ho1 => exact ak (fun _ => ⟨rfl, fun _ _ => rfl⟩) trivial
  intro _ w1 H1
  refine rest0 rfl (then_normal (wp_seq ?_))
  refine walk_seqB 1 [.quiet (.slice none 0 0)] H1 ?ho2 ?he2
  case ho2 => exact ak (fun _ => ⟨rfl, fun _ _ => rfl⟩) trivial
  intro _ w2 H2
  clear H1
  refine rest0 rfl (then_normal (wp_seq (wp_seq ?_)))
  refine walk_seqB 1 [.quiet (.int .i64 0)] H2 ?ho3 ?he3
  case ho3 => exact ak (fun _ => ⟨rfl, fun _ _ => rfl⟩) trivial
  intro _ w3 H3
  clear H2
  refine rest0 rfl (then_normal (wp_block ?_))
  refine loop_ghost (α := Nat) (fun k a' w' => ∃ s0 : Nat → Value, a' = ⟨#[.int .i64 ((n : Nat) : Int), undef, .slice none 0 0, s0 3, .int .i64 ((k : Nat) : Int), s0 5, s0 6, s0 7, s0 8, s0 9, s0 10, s0 11, s0 12, s0 13, s0 14, s0 15, s0 16, s0 17, undef], []⟩ ∧ (Mm w' [] ∧ Zo w w3.heap.size [] (s0 3) k (eb8 n) w') ∧ k ≤ 8) (fun k => 8 - k) 0 ?st0 ?rd0
  case st0 => exact ⟨(slotfn [undef, undef, undef, .slice none 0 0, undef, undef, undef, undef, undef, undef, undef, undef, undef, undef, undef, undef, undef, undef]), rfl, ⟨H3.out.1, Zo.begin (eb8 n) H3.out.1 H3.out.2⟩, by omega⟩
  intro k a' w4 hI
  obtain ⟨s0, rfl, hMB, hk0⟩ := hI
  have H4 : Hid (_ ∧ _) := hMB
  clear hMB H3
  by_cases hltk : k < 8
  · have hrd : True := trivial
    clear hrd
    refine wp_seq (wp_seq ?_)
    refine walk_seqA 2 [.quiet (.int .i64 ((k : Nat) : Int)), .quiet (.bool true)] (sB H4) ?ho4 ?he4
    case ho4 => exact ak (fun _ => ⟨rfl, fun _ _ => rfl⟩) (ak (by refine fun γ => ⟨rfl, fun w' h => ?_⟩; clear h; go_simp <;> omega) trivial)
    intro γ w5 l hM hl
    have M5 : Mm w5 [] := H4.out.1.grow hM (Nat.le_refl _) hl [] rfl (by decide)
    have B5 : Zo w w3.heap.size [] (s0 3) k (eb8 n) w5 := Zo.step H4.out.2 (hM.below)
    clear hM hl l H4
    clear γ
    have H5 : Hid (_ ∧ _) := ⟨M5, B5⟩
    clear M5 B5
    refine rest0 rfl (then_normal (wp_cond_true rfl ?_))
    refine wp_skip (then_normal ?_)
    refine wp_seq (wp_block ?_)
    refine walk_seqA 7 [.quiet (s0 3), .quiet (.int .i64 ((n : Nat) : Int)), .quiet (U (c64 n)), .quiet (.int .i64 ((k : Nat) : Int)), .quiet (.int .i64 ((8 * k : Nat) : Int)), .quiet (U (sr (c64 n) (8 * k))), .quiet (Z8 ((sr (c64 n) (8 * k)) % 256))] (sB H5) ?ho5 ?he5
    case ho5 => exact ak (fun _ => ⟨rfl, fun _ _ => rfl⟩) (ak (fun _ => ⟨rfl, fun _ _ => rfl⟩) (ak (fun γ => ⟨rfl, fun w' _ => ex_cv3_56 (a := n) rfl rfl⟩) (ak (fun _ => ⟨rfl, fun _ _ => rfl⟩) (ak (by refine fun γ => ⟨rfl, fun w' h => ?_⟩; clear h; go_simp; rw [IntKind.wrap_i64]; omega) (ak (fun γ => ⟨rfl, fun w' _ => ex_shr64 (k := 8 * k) (by omega) rfl rfl rfl⟩) (ak (fun γ => ⟨rfl, fun w' _ => ex_cv56_5 rfl rfl⟩) trivial))))))
    intro γ w6 l hM hl
    have M6 : Mm w6 [] := H5.out.1.grow hM (Nat.le_refl _) hl [] rfl (by decide)
    have B6 : Zo w w3.heap.size [] (s0 3) k (eb8 n) w6 := Zo.step H5.out.2 (hM.below)
    clear hM hl l H5
    clear γ
    have H6 : Hid (_ ∧ _) := ⟨M6, B6⟩
    clear M6 B6
    refine rest_at (l := [7, 8, 9]) rfl ?_
    refine rest_set (d := 16) (v := .slice (some ⟨w6.heap.size, 0, none⟩) 1 1) (w' := (w6.alloc (.cells (ints .u8 (fun _ => (sr (c64 n) (8 * k)) % 256) 1).toArray 5))) rfl rfl rfl (ex_bsr1 (a := (sr (c64 n) (8 * k)) % 256) rfl rfl) ?_
    simp only [Act.put, sa, sz, ss]
    have H7 : Hid (Mm (w6.alloc (.cells (ints .u8 (fun _ => (sr (c64 n) (8 * k)) % 256) 1).toArray 5)) [] ∧ Zo w w3.heap.size [] (s0 3) k (eb8 n) (w6.alloc (.cells (ints .u8 (fun _ => (sr (c64 n) (8 * k)) % 256) 1).toArray 5))) := ⟨H6.out.1.below ((Below.refl _ _).alloc (Nat.le_refl _) _), Zo.step H6.out.2 ((Below.refl _ _).alloc (Nat.le_refl _) _)⟩
    have c7 := cell_row w6 (fun _ => (sr (c64 n) (8 * k)) % 256) 1
    have C7 : Hid _ := c7
    clear c7 H6
    generalize hgw : (w6.alloc (.cells (ints .u8 (fun _ => (sr (c64 n) (8 * k)) % 256) 1).toArray 5)) = w7 at H7 C7 ⊢
    clear hgw
    generalize w6.heap.size = γs7 at C7 ⊢
    obtain ⟨v8, w8, hr, hZ⟩ := H7.out.2.app (a := ⟨γs7, 0, none⟩) 1 1 (fun _ => (sr (c64 n) (8 * k)) % 256) (C7.out) (by omega) 22
    refine rest_set (d := 17) (v := v8) (w' := w8) rfl rfl rfl (ex_app rfl rfl rfl hr) ?_
    simp only [Act.put, sa, sz, ss]
    have H8 : Hid (Mm w8 [] ∧ Zo w w3.heap.size [] v8 (k + 1) (eb8 n) w8) := ⟨hZ.m, hZ.cg (ct_snoc rfl)⟩
    clear hr hZ H7
    refine rest_set (d := 3) (v := v8) (w' := w8) rfl rfl rfl rfl ?_
    simp only [Act.put, sa, sz, ss]
    refine rest_nil (block_normal (then_normal ?_))
    refine walk_seqA 2 [.quiet (.int .i64 ((k : Nat) : Int)), .quiet (.int .i64 ((k + 1 : Nat) : Int))] (sB H8) ?ho6 ?he6
    case ho6 => exact ak (fun _ => ⟨rfl, fun _ _ => rfl⟩) (ak (by refine fun γ => ⟨rfl, fun w' h => ?_⟩; clear h; go_simp; rw [IntKind.wrap_i64]; omega) trivial)
    intro γ w9 l hM hl
    have M9 : Mm w9 [] := H8.out.1.grow hM (Nat.le_refl _) hl [] rfl (by decide)
    have B9 : Zo w w3.heap.size [] v8 (k + 1) (eb8 n) w9 := Zo.step H8.out.2 (hM.below)
    clear hM hl l H8
    clear γ
    have H9 : Hid (_ ∧ _) := ⟨M9, B9⟩
    clear M9 B9
    refine rest_at (l := [2]) rfl ?_
    refine rest_set (d := 4) (v := .int .i64 ((k + 1 : Nat) : Int)) (w' := w9) rfl rfl rfl rfl ?_
    simp only [Act.put, sa, sz, ss]
    refine rest_nil (then_normal ?_)
    exact ⟨k + 1, ⟨(slotfn [undef, undef, undef, v8, undef, .int .i64 ((k : Nat) : Int), .bool true, .int .i64 ((k : Nat) : Int), .int .i64 ((k + 1 : Nat) : Int), s0 3, .int .i64 ((n : Nat) : Int), U (c64 n), .int .i64 ((k : Nat) : Int), .int .i64 ((8 * k : Nat) : Int), U (sr (c64 n) (8 * k)), Z8 ((sr (c64 n) (8 * k)) % 256), .slice (some ⟨γs7, 0, none⟩) 1 1, v8]), rfl, ⟨H9.out.1, H9.out.2⟩, by omega⟩, by omega⟩
  have hkN : k = 8 := by omega
  subst hkN
  refine wp_seq (wp_seq ?_)
  refine walk_seqA 2 [.quiet (.int .i64 ((8 : Nat) : Int)), .quiet (.bool false)] (sB H4) ?ho7 ?he7
  case ho7 => exact ak (fun _ => ⟨rfl, fun _ _ => rfl⟩) (ak (by refine fun γ => ⟨rfl, fun w' h => ?_⟩; clear h; go_simp <;> omega) trivial)
  intro γ w10 l hM hl
  have M10 : Mm w10 [] := H4.out.1.grow hM (Nat.le_refl _) hl [] rfl (by decide)
  have B10 : Zo w w3.heap.size [] (s0 3) 8 (eb8 n) w10 := Zo.step H4.out.2 (hM.below)
  clear hM hl l H4
  clear γ
  have H10 : Hid (_ ∧ _) := ⟨M10, B10⟩
  clear M10 B10
  refine rest0 rfl (then_normal (wp_cond_false rfl ?_))
  refine wp_exit ?_
  repeat refine then_exit ?_
  refine block_exit ?_
  refine then_normal (wp_seq ?_)
  refine walk_seqA 2 [.quiet (s0 3), .quiet (s0 3)] (sB H10) ?ho8 ?he8
  case ho8 => exact ak (fun _ => ⟨rfl, fun _ _ => rfl⟩) (ak (fun _ => ⟨rfl, fun _ _ => rfl⟩) trivial)
  intro γ w11 l hM hl
  have M11 : Mm w11 [] := H10.out.1.grow hM (Nat.le_refl _) hl [] rfl (by decide)
  have B11 : Zo w w3.heap.size [] (s0 3) 8 (eb8 n) w11 := Zo.step H10.out.2 (hM.below)
  clear hM hl l H10
  clear γ
  have H11 : Hid (_ ∧ _) := ⟨M11, B11⟩
  clear M11 B11
  refine rest0 rfl (then_normal (wp_ret ?_))
  repeat (first | refine then_ret ?_ | refine block_ret ?_)
  refine bodyPost_ret (v := s0 3) (by simp [results, Try.results56, go_sem, *]) rfl ?_
  have hF := H11.out.2.form (by decide)
  obtain ⟨g4, x4, e4, b1, b2, b3, b4⟩ := own_told (own_mono H11.out.2.own H11.out.2.lo) (by obtain ⟨g5, c5, e5⟩ := hF; rw [e5]; simp [Value.ownBlock])
  exact ⟨H11.out.2.b, g4, x4, 0, by rw [e4], b1, b2, b3, b4⟩
end Rg
end Go.Proofs.Ytkkippfikfjdpaa
end
section
namespace Go.Proofs.Ytkkippfikfjdpaa
open Go.RowKit
namespace Rg
set_option maxRecDepth 100000
section
variable {ρ : Operand → Value} {o : Oper} {x y : Operand} {g off m c : Nat} {w : World}
end
theorem kz_256 {f : Nat → Nat} (h : ∀ j, f j < 256) (n j : Nat) : kz f n j < 256 := by
  unfold kz
  split
  · exact h j
  · decide
theorem eb8_256 (n j : Nat) : eb8 n j < 256 := Nat.mod_lt _ (by decide)
theorem bk_256 (K N : Nat → Nat) (c j : Nat) : bk K N c j < 256 := Nat.mod_lt _ (by decide)
theorem own_rs {w : World} {B n g cap : Nat} {P : Nat → Nat} (h : w.ownsRow B 5 1 (.slice (some ⟨g, 0, none⟩) n cap) n (ints .u8 P n)) : Rs g 0 n P w := by
  obtain ⟨_, h2, _, h4⟩ := own_blk h
  exact ⟨fun _ => h2, fun i hi => by rw [Nat.zero_add]; exact (h4 i _ (ints_get .u8 P hi)).1⟩
theorem tag_own (K P : Nat → Nat) (gk ok ck gb ob n cb : Nat) (pb : Option Addr) (hK : ∀ j, K j < 256) (hP : ∀ j, P j < 256) (hpb : 0 < n → pb = some ⟨gb, ob, none⟩) (hn : n < 4611686018427387904) (w : World) (hRk : Rs gk ok 32 K w) (hRn : Rs gb ob n P w) :
    Calls Try.prog 38 #[.slice (some ⟨gk, ok, none⟩) 32 ck, .slice pb n cb] w fun e w' => Below w.heap.size w w' ∧ ∃ (g x y : Nat), e = .returned ((fun g x _ => .slice (some ⟨g, 0, none⟩) 16 (16 + x)) g x y) ∧ w.heap.size ≤ g ∧ g < w'.heap.size ∧ Blk w' g (ints .u8 (tb (tg (nv (clq K 3) 34) P n ((n + 15) / 16)) K) 16) ∧ ∃ o, w'.heap[g]? = some o ∧ Eo 16 (tb (tg (nv (clq K 3) 34) P n ((n + 15) / 16)) K) o x := by
  refine Calls.mono (tag_any K P gk ok ck gb ob n cb pb hK hP hpb hn w hRk hRn) ?_
  rintro e w' ⟨hb, g, cap, rfl, ho⟩
  obtain ⟨g4, x4, e4, b1, b2, b3, b4⟩ := own_told ho (by simp [Value.ownBlock])
  exact ⟨hb, g4, x4, 0, by rw [e4], b1, b2, b3, b4⟩
/-- What the tag of a sealed text is taken of. -/
def al (M : Nat → Nat) (m : Nat) (S : Nat → Nat) (s : Nat) : Nat → Nat := ct (ct (ct (kz M m) (m + zf m) (kz S s)) (m + zf m + (s + zf s)) (eb8 m)) (m + zf m + (s + zf s) + 8) (eb8 s)
def ll (m s : Nat) : Nat := m + zf m + (s + zf s) + 8 + 8
def mrk (K N M : Nat → Nat) (m : Nat) (S : Nat → Nat) (s : Nat) : Nat → Nat := tb (tg (nv (clq (bk K N 0) 3) 34) (al M m S s) (ll m s) ((ll m s + 15) / 16)) (bk K N 0)
theorem al_256 {M S : Nat → Nat} (hM : ∀ j, M j < 256) (hS : ∀ j, S j < 256) (m s j : Nat) : al M m S s j < 256 := ct_lt (ct_lt (ct_lt (kz_256 hM m) (kz_256 hS s)) (eb8_256 m)) (eb8_256 s) j
theorem call38 : ∀ args w, (callFunc 38 args).run Try.prog w = .ok (.enter 38 args) w := by intro args w; go_simp
theorem call55 : ∀ args w, (callFunc 55 args).run Try.prog w = .ok (.enter 55 args) w := by intro args w; go_simp
theorem call56 : ∀ args w, (callFunc 56 args).run Try.prog w = .ok (.enter 56 args) w := by intro args w; go_simp
set_option maxHeartbeats 2000000 in
set_option maxRecDepth 100000 in
theorem mark_any (K N S M : Nat → Nat) (gk ok ck gn on cn gs os s cs gm om m cm : Nat) (ps pm : Option Addr) (hS : ∀ j, S j < 256) (hM : ∀ j, M j < 256) (hps : 0 < s → ps = some ⟨gs, os, none⟩) (hpm : 0 < m → pm = some ⟨gm, om, none⟩) (hns0 : ps = none → cs = 0) (hnm0 : pm = none → cm = 0) (hs : s ≤ 100000) (hm : m ≤ 100000) (w : World) (hRk : Rs gk ok 32 K w) (hRn : Rs gn on 12 N w) (hRs : Rs gs os s S w) (hRm : Rs gm om m M w) :
    Calls Try.prog 41 #[.slice (some ⟨gk, ok, none⟩) 32 ck, .slice (some ⟨gn, on, none⟩) 12 cn, .slice ps s cs, .slice pm m cm] w fun e w' => Below w.heap.size w w' ∧ ∃ (g x y : Nat), e = .returned ((fun g x _ => .slice (some ⟨g, 0, none⟩) 16 (16 + x)) g x y) ∧ w.heap.size ≤ g ∧ g < w'.heap.size ∧ Blk w' g (ints .u8 (mrk K N M m S s) 16) ∧ ∃ o, w'.heap[g]? = some o ∧ Eo 16 (mrk K N M m S s) o x := by
  have H0 : Hid (_ ∧ _) := ⟨Mm.nil w, Below.refl w.heap.size w⟩
  have RK : Hid (Rs gk ok 32 K w) := hRk
  have RN : Hid (Rs gn on 12 N w) := hRn
  have RS : Hid (Rs gs os s S w) := hRs
  have RM : Hid (Rs gm om m M w) := hRm
  have hns : Hid (ps = none → cs = 0) := hns0
  have hnm : Hid (pm = none → cm = 0) := hnm0
  have hz1 : zf m < 16 := by unfold zf; omega
  have hz2 : zf s < 16 := by unfold zf; omega
  clear hRk hRn hRs hRm hns0 hnm0
  go_enter Try.func41, Try.ntmps41
  refine wp_seq ?_
  refine walk_seqB 1 [.quiet (.slice none 0 0)] H0 ?ho1 ?he1
  case ho1 => exact ak (fun _ => ⟨rfl, fun _ _ => rfl⟩) trivial
  intro _ w1 H1
  refine rest0 rfl (then_normal (wp_seq ?_))
  refine (walk_seq) 4 [.quiet (.slice pm m cm), .ownX (fun g x y => .slice (some ⟨g, 0, none⟩) (m + zf m) ((m + zf m) + x)) (ints .u8 (kz M m) (m + zf m)) (Eo (m + zf m) (kz M m)), .quiet (.slice ps s cs), .ownX (fun g x y => .slice (some ⟨g, 0, none⟩) (s + zf s) ((s + zf s) + x)) (ints .u8 (kz S s) (s + zf s)) (Eo (s + zf s) (kz S s))] (fun u' => Mm u' [] ∧ (Rs gk ok 32 K u' ∧ Rs gn on 12 N u' ∧ Rs gs os s S u' ∧ Rs gm om m M u')) ?pre2 ?F2 ?hpre2 (fun γ => ?hF2) (by kernel_rfl) ?hL2 ?hS2 ?ho2 ?he2
  case hpre2 => simp only [tk, tz]; rfl
  case hF2 => simp only [fill, Kind.val, Act.put, sa, sz, ss]; rfl
  case hL2 => exact trivial
  case hS2 => exact fun w' hb => ⟨H1.out.1.below hb, ⟨RK.out.below (H1.out.2.trans (hb.mono H1.out.2.size)), RN.out.below (H1.out.2.trans (hb.mono H1.out.2.size)), RS.out.below (H1.out.2.trans (hb.mono H1.out.2.size)), RM.out.below (H1.out.2.trans (hb.mono H1.out.2.size))⟩⟩
  case ho2 =>
    refine ak (fun _ => ⟨rfl, fun _ _ => rfl⟩) ?_
    refine ak (fun γ => ⟨rfl, fun w' hX => ⟨55, #[.slice pm m cm], exec_call rfl call55 rfl (mpn rfl), filled_any M gm om m cm pm hpm hnm.out (by omega) w' hX.2.2.2.2⟩⟩) ?_
    refine ak (fun _ => ⟨rfl, fun _ _ => rfl⟩) ?_
    refine ak (fun γ => ⟨rfl, fun w' hX => ⟨55, #[.slice ps s cs], exec_call rfl call55 rfl (mpn rfl), filled_any S gs os s cs ps hps hns.out (by omega) w' hX.2.2.2.1⟩⟩) ?_
    exact trivial
  intro γ w2 l hM hl
  have M2 : Mm w2 [(γ 1, ints .u8 (kz M m) (m + zf m)), (γ 3, ints .u8 (kz S s) (s + zf s))] := H1.out.1.grow hM (Nat.le_refl _) hl [1, 3] rfl (by decide)
  have B2 : Below w.heap.size w w2 := H1.out.2.trans (hM.below.mono H1.out.2.size)
  have o2_1 : Hid (w.heap.size ≤ γ 1) := Nat.le_trans H1.out.2.size (hM.fin (Nat.le_refl _) hl (i := 1) rfl).2.1
  have o2_3 : Hid (w.heap.size ≤ γ 3) := Nat.le_trans H1.out.2.size (hM.fin (Nat.le_refl _) hl (i := 3) rfl).2.1
  have oo2_1 : Hid (∃ o, w2.heap[γ 1]? = some o ∧ (Eo (m + zf m) (kz M m)) o (γ 65537)) := hM.owns 1 _ _ _ rfl (hl 1 (by decide))
  have oo2_3 : Hid (∃ o, w2.heap[γ 3]? = some o ∧ (Eo (s + zf s) (kz S s)) o (γ 65539)) := hM.owns 3 _ _ _ rfl (hl 3 (by decide))
  clear hM hl l H1
  generalize γ 1 = γ2_1 at M2 o2_1 oo2_1 ⊢
  generalize γ 3 = γ2_3 at M2 o2_3 oo2_3 ⊢
  generalize γ 65537 = γ2_65537 at oo2_1 ⊢
  generalize γ 65539 = γ2_65539 at oo2_3 ⊢
  clear γ
  have H2 : Hid (_ ∧ _) := ⟨M2, B2⟩
  clear M2 B2
  refine rest_at (l := [4, 5]) rfl ?_
  have hO : On w (.slice (some ⟨γ2_1, 0, none⟩) (m + zf m) ((m + zf m) + γ2_65537)) (m + zf m) (kz M m) w2 := ⟨H2.out.2, Eo.own oo2_1.out o2_1.out, by simp [Value.ownBlock]⟩
  obtain ⟨v3, w3, hr, hZ⟩ := hO.app (a := ⟨γ2_3, 0, none⟩) (s + zf s) ((s + zf s) + γ2_65539) (kz S s) (H2.out.1.rs 1 rfl (Nat.le_refl _)).add (by omega) 22
  refine rest_set (d := 14) (v := v3) (w' := w3) rfl rfl rfl (ex_app rfl rfl rfl hr) ?_
  simp only [Act.put, sa, sz, ss]
  have H3 : Hid (Mm w3 [] ∧ On w v3 ((m + zf m) + (s + zf s)) (ct (kz M m) (m + zf m) (kz S s)) w3) := ⟨Mm.nil _, hZ⟩
  clear hr hZ hO H2
  refine rest_set (d := 9) (v := v3) (w' := w3) rfl rfl rfl rfl ?_
  simp only [Act.put, sa, sz, ss]
  refine rest_nil (then_normal (wp_seq ?_))
  refine walk_seqA 4 [.quiet (v3), .quiet (.slice pm m cm), .quiet (.int .i64 ((m : Nat) : Int)), .ownX (fun g x y => .slice (some ⟨g, 0, none⟩) 8 (8 + x)) (ints .u8 (eb8 m) 8) (Eo 8 (eb8 m))] (sB H3) ?ho3 ?he3
  case ho3 => exact ak (fun _ => ⟨rfl, fun _ _ => rfl⟩) (ak (fun _ => ⟨rfl, fun _ _ => rfl⟩) (ak (by refine fun γ => ⟨rfl, fun w' h => ?_⟩; clear h; go_simp) (ak (fun γ => ⟨rfl, fun w' h => ⟨56, #[.int .i64 ((m : Nat) : Int)], exec_call rfl call56 rfl (mpn rfl), eight_any m w'⟩⟩) trivial)))
  intro γ w4 l hM hl
  have M4 : Mm w4 [(γ 3, ints .u8 (eb8 m) 8)] := H3.out.1.grow hM (Nat.le_refl _) hl [3] rfl (by decide)
  have B4 : On w v3 ((m + zf m) + (s + zf s)) (ct (kz M m) (m + zf m) (kz S s)) w4 := On.step H3.out.2 (hM.below)
  have o3_3 : Hid (w.heap.size ≤ γ 3) := Nat.le_trans H3.out.2.size (hM.fin (Nat.le_refl _) hl (i := 3) rfl).2.1
  have oo3_3 : Hid (∃ o, w4.heap[γ 3]? = some o ∧ (Eo 8 (eb8 m)) o (γ 65539)) := hM.owns 3 _ _ _ rfl (hl 3 (by decide))
  clear hM hl l H3
  generalize γ 3 = γ3_3 at M4 o3_3 oo3_3 ⊢
  generalize γ 65539 = γ3_65539 at oo3_3 ⊢
  clear γ
  have H4 : Hid (_ ∧ _) := ⟨M4, B4⟩
  clear M4 B4
  refine rest_at (l := [4, 5, 6, 7, 8, 9]) rfl ?_
  have hO := H4.out.2
  obtain ⟨v5, w5, hr, hZ⟩ := hO.app (a := ⟨γ3_3, 0, none⟩) 8 (8 + γ3_65539) (eb8 m) (H4.out.1.rs 0 rfl (Nat.le_refl _)).add (by omega) 22
  refine rest_set (d := 19) (v := v5) (w' := w5) rfl rfl rfl (ex_app rfl rfl rfl hr) ?_
  simp only [Act.put, sa, sz, ss]
  have H5 : Hid (Mm w5 [] ∧ On w v5 (((m + zf m) + (s + zf s)) + 8) (ct (ct (kz M m) (m + zf m) (kz S s)) ((m + zf m) + (s + zf s)) (eb8 m)) w5) := ⟨Mm.nil _, hZ⟩
  clear hr hZ hO H4
  refine rest_set (d := 20) (v := .slice ps s cs) (w' := w5) rfl rfl rfl rfl ?_
  simp only [Act.put, sa, sz, ss]
  refine rest_set (d := 21) (v := .int .i64 ((s : Nat) : Int)) (w' := w5) rfl rfl rfl (by go_simp) ?_
  simp only [Act.put, sa, sz, ss]
  refine rest_enter (d := 22) (R := fun vv w' => Below w5.heap.size w5 w' ∧ ∃ g x, vv = .slice (some ⟨g, 0, none⟩) 8 (8 + x) ∧ w5.heap.size ≤ g ∧ g < w'.heap.size ∧ Blk w' g (ints .u8 (eb8 s) 8) ∧ ∃ o, w'.heap[g]? = some o ∧ Eo 8 (eb8 s) o x) rfl rfl rfl (exec_call (args := #[.int .i64 ((s : Nat) : Int)]) rfl call56 rfl (mpn rfl)) (Calls.mono (eight_any s w5) (fun e w2 ⟨hb, g, x, _, he, h1, h2, h3, h4⟩ => ⟨_, he, hb, g, x, rfl, h1, h2, h3, h4⟩)) ?_
  intro _ w6 hR
  obtain ⟨hb, γr6, ξr6, rfl, h1, h2, h3, h4⟩ := hR
  simp only [Act.put, sa, sz, ss]
  have o_γr6 : Hid (w.heap.size ≤ γr6) := Nat.le_trans H5.out.2.size h1
  have oo_γr6 : Hid (γr6 < w6.heap.size ∧ Blk w6 γr6 (ints .u8 (eb8 s) 8) ∧ ∃ o, w6.heap[γr6]? = some o ∧ Eo 8 (eb8 s) o ξr6) := ⟨h2, h3, h4⟩
  have H6 : Hid (Mm w6 [(γr6, ints .u8 (eb8 s) 8)] ∧ On w v5 (((m + zf m) + (s + zf s)) + 8) (ct (ct (kz M m) (m + zf m) (kz S s)) ((m + zf m) + (s + zf s)) (eb8 m)) w6) := ⟨(H5.out.1.below hb).cons h3 h2 (fun p hp => by have := (H5.out.1.blk p hp).1; omega), On.step H5.out.2 (hb)⟩
  clear hb h1 h2 h3 h4 H5
  have hO := H6.out.2
  obtain ⟨v7, w7, hr, hZ⟩ := hO.app (a := ⟨γr6, 0, none⟩) 8 (8 + ξr6) (eb8 s) (H6.out.1.rs 0 rfl (Nat.le_refl _)).add (by omega) 22
  refine rest_set (d := 23) (v := v7) (w' := w7) rfl rfl rfl (ex_app rfl rfl rfl hr) ?_
  simp only [Act.put, sa, sz, ss]
  have H7 : Hid (Mm w7 [] ∧ On w v7 (ll m s) (al M m S s) w7) := ⟨Mm.nil _, hZ⟩
  clear hr hZ hO H6
  refine rest_set (d := 9) (v := v7) (w' := w7) rfl rfl rfl rfl ?_
  simp only [Act.put, sa, sz, ss]
  refine rest_nil ?_
  obtain ⟨g9, x9, e9⟩ := H7.out.2.form
  rw [e9] at H7 ⊢
  clear e9
  refine then_normal (wp_seq ?_)
  refine (walk_seq) 3 [.quiet (.slice (some ⟨gk, ok, none⟩) 32 ck), .quiet (.slice (some ⟨gn, on, none⟩) 12 cn), .bornX (fun g x y => .slice (some ⟨g, 0, none⟩) 64 (64 + x)) (ints .u8 (bk K N 0) 64)] (fun u' => Mm u' [] ∧ (Rs gk ok 32 K u' ∧ Rs gn on 12 N u' ∧ Rs gs os s S u' ∧ Rs gm om m M u')) ?pre4 ?F4 ?hpre4 (fun γ => ?hF4) (by kernel_rfl) ?hL4 ?hS4 ?ho4 ?he4
  case hpre4 => simp only [tk, tz]; rfl
  case hF4 => simp only [fill, Kind.val, Act.put, sa, sz, ss]; rfl
  case hL4 => exact trivial
  case hS4 => exact fun w' hb => ⟨H7.out.1.below hb, ⟨RK.out.below (On.step H7.out.2 (hb)).b, RN.out.below (On.step H7.out.2 (hb)).b, RS.out.below (On.step H7.out.2 (hb)).b, RM.out.below (On.step H7.out.2 (hb)).b⟩⟩
  case ho4 =>
    refine ak (fun _ => ⟨rfl, fun _ _ => rfl⟩) ?_
    refine ak (fun _ => ⟨rfl, fun _ _ => rfl⟩) ?_
    refine ak (fun γ => ⟨rfl, fun w' hX => ⟨31, #[.slice (some ⟨gk, ok, none⟩) 32 ck, .slice (some ⟨gn, on, none⟩) 12 cn, .int .u32 0], exec_call rfl call31 rfl (mpn rfl), block_born K N gk ok ck gn on cn 0 w' hX.2.1 hX.2.2.1⟩⟩) ?_
    exact trivial
  intro γ w8 l hM hl
  have M8 : Mm w8 [(γ 2, ints .u8 (bk K N 0) 64)] := H7.out.1.grow hM (Nat.le_refl _) hl [2] rfl (by decide)
  have B8 : On w (.slice (some ⟨g9, 0, none⟩) (ll m s) (ll m s + x9)) (ll m s) (al M m S s) w8 := On.step H7.out.2 (hM.below)
  have o4_2 : Hid (w.heap.size ≤ γ 2) := Nat.le_trans H7.out.2.size (hM.fin (Nat.le_refl _) hl (i := 2) rfl).2.1
  clear hM hl l H7
  generalize γ 2 = γ4_2 at M8 o4_2 ⊢
  generalize γ 65538 = γ4_65538
  clear γ
  have H8 : Hid (_ ∧ _) := ⟨M8, B8⟩
  clear M8 B8
  refine rest_at (l := [3, 4, 5, 6]) rfl ?_
  refine rest_set (d := 27) (v := .slice (some ⟨γ4_2, 0, none⟩) 32 (64 + γ4_65538)) (w' := w8) rfl rfl rfl (ex_slH22 (l := 32) rfl rfl rfl (by omega)) ?_
  simp only [Act.put, sa, sz, ss]
  refine rest_set (d := 28) (v := .slice (some ⟨g9, 0, none⟩) (ll m s) (ll m s + x9)) (w' := w8) rfl rfl rfl rfl ?_
  simp only [Act.put, sa, sz, ss]
  refine rest_enter (d := 29) (R := fun vv w' => Below w8.heap.size w8 w' ∧ ∃ g x, vv = .slice (some ⟨g, 0, none⟩) 16 (16 + x) ∧ w8.heap.size ≤ g ∧ g < w'.heap.size ∧ Blk w' g (ints .u8 (mrk K N M m S s) 16) ∧ ∃ o, w'.heap[g]? = some o ∧ Eo 16 (mrk K N M m S s) o x) rfl rfl rfl (exec_call (args := #[.slice (some ⟨γ4_2, 0, none⟩) 32 (64 + γ4_65538), .slice (some ⟨g9, 0, none⟩) (ll m s) (ll m s + x9)]) rfl call38 rfl (mpn rfl)) (Calls.mono (tag_own (bk K N 0) (al M m S s) γ4_2 0 (64 + γ4_65538) g9 0 (ll m s) (ll m s + x9) (some ⟨g9, 0, none⟩) (bk_256 K N 0) (al_256 hM hS m s) (fun _ => rfl) (by unfold ll; omega) w8 (H8.out.1.rs 0 rfl (by decide)) (own_rs H8.out.2.own)) (fun e w2 ⟨hb, g, x, _, he, h1, h2, h3, h4⟩ => ⟨_, he, hb, g, x, rfl, h1, h2, h3, h4⟩)) ?_
  intro _ w9 hR
  obtain ⟨hb, γr9, ξr9, rfl, h1, h2, h3, h4⟩ := hR
  simp only [Act.put, sa, sz, ss]
  have o_γr9 : Hid (w.heap.size ≤ γr9) := Nat.le_trans H8.out.2.size h1
  have oo_γr9 : Hid (γr9 < w9.heap.size ∧ Blk w9 γr9 (ints .u8 (mrk K N M m S s) 16) ∧ ∃ o, w9.heap[γr9]? = some o ∧ Eo 16 (mrk K N M m S s) o ξr9) := ⟨h2, h3, h4⟩
  have H9 : Hid (Mm w9 [(γr9, ints .u8 (mrk K N M m S s) 16), (γ4_2, ints .u8 (bk K N 0) 64)] ∧ On w (.slice (some ⟨g9, 0, none⟩) (ll m s) (ll m s + x9)) (ll m s) (al M m S s) w9) := ⟨(H8.out.1.below hb).cons h3 h2 (fun p hp => by have := (H8.out.1.blk p hp).1; omega), On.step H8.out.2 (hb)⟩
  clear hb h1 h2 h3 h4 H8
  refine rest_set (d := 8) (v := .slice (some ⟨γr9, 0, none⟩) 16 (16 + ξr9)) (w' := w9) rfl rfl rfl rfl ?_
  simp only [Act.put, sa, sz, ss]
  refine rest_nil (then_normal (wp_ret ?_))
  repeat (first | refine then_ret ?_ | refine block_ret ?_)
  refine bodyPost_ret (v := .slice (some ⟨γr9, 0, none⟩) 16 (16 + ξr9)) (by simp [results, Try.results41, go_sem, *]) rfl ?_
  exact ⟨H9.out.2.b, γr9, _, 0, rfl, o_γr9.out, oo_γr9.out.1, oo_γr9.out.2.1, oo_γr9.out.2.2⟩
end Rg
end Go.Proofs.Ytkkippfikfjdpaa
end
section
namespace Go.Proofs.Ytkkippfikfjdpaa
open Go.RowKit
namespace Rg
set_option maxRecDepth 100000
section
variable {ρ : Operand → Value} {o : Oper} {x y : Operand} {a k : Nat} {w : World}
end
section
variable {ρ : Operand → Value} {o : Oper} {x y : Operand} {n : Nat} {z t : Int} {w : World}
end
end Rg
end Go.Proofs.Ytkkippfikfjdpaa
end
section
namespace Go.Proofs.Ytkkippfikfjdpaa
open Go.RowKit
namespace Rg
set_option maxRecDepth 100000
theorem Rs.part {g o n : Nat} {f : Nat → Nat} {w : World} (h : Rs g o n f w) (l : Nat) : Rs g (o + l) (n - l) (fun j => f (l + j)) w :=
  ⟨fun hn => h.lt (by omega), fun i hi => by rw [Nat.add_assoc]; exact h.at_ (l + i) (by omega)⟩
section
variable {ρ : Operand → Value} {o : Oper} {x y : Operand} {g off n c l k : Nat} {w : World}
theorem ex_slT (ho : o.op = .slice 22 x (some y) none none) (hx : ρ x = .slice (some ⟨g, off, none⟩) n c) (hy : ρ y = .int .i64 ((l : Nat) : Int)) (hl : l < n) (hc : n ≤ c) : (execOp ρ o).run Try.prog w = .ok (.value (.slice (some ⟨g, off + l, none⟩) (n - l) (c - l))) w := by
  simp only [execOp, ho, hx, hy, Option.map_some, Option.map_none]
  clear ho hx hy
  go_simp
  rw [if_pos (show l ≤ n by omega), if_neg (show ¬ c = l by omega)]
theorem ex_at50 {f : Nat → Nat} {j : Nat} (ho : o.op = .index 50 x y) (hx : ρ x = V (ints .u32 f 16)) (hy : ρ y = .int .i64 ((j : Nat) : Int)) (hj : j < 16) : (execOp ρ o).run Try.prog w = .ok (.value (W32 (f j))) w := by
  have e := ints_get .u32 f hj
  have h1 : (j : Int) < 16 := by omega
  simp only [execOp, ho, hx, hy]
  clear ho hx hy
  simp [Instr.index, run_underlying Try.underlying50, asIntOf, go_sem, hj, part, Try.isAgg23, e]
theorem ex_cvU (hk : k < 32) (ho : o.op = .convert 3 74 x) (hx : ρ x = .int .i64 ((k : Nat) : Int)) : (execOp ρ o).run Try.prog w = .ok (.value (U k)) w := by
  simp only [execOp, ho, hx]
  clear ho hx
  go_simp
  rw [IntKind.wrap_u64]
  omega
theorem ex_andU (hk : k < 32) (ho : o.op = .binOp .and 74 x y 74) (hx : ρ x = U k) (hy : ρ y = U 31) : (execOp ρ o).run Try.prog w = .ok (.value (U k)) w := by
  simp only [execOp, ho, hx, hy]
  clear ho hx hy
  have e := bits_and_u64_nat k 31 (by omega) (by decide)
  have e2 : k &&& 31 = k := by
    have := Nat.and_two_pow_sub_one_eq_mod k 5
    rw [show 2 ^ 5 - 1 = 31 from rfl] at this
    rw [this]
    omega
  rw [e2] at e
  go_simp
  first | done | exact e
theorem ex_subU (hk : k < 32) (ho : o.op = .binOp .sub 74 x y 74) (hx : ρ x = U 32) (hy : ρ y = U k) : (execOp ρ o).run Try.prog w = .ok (.value (U (32 - k))) w := by
  simp only [execOp, ho, hx, hy]
  clear ho hx hy
  go_simp
  rw [IntKind.wrap_u64]
  omega
theorem ex_bkw {a0 a1 a2 a3 : Operand} (ho : o.op = .build 50 #[(0, a0), (1, a1), (2, a2), (3, a3)]) (h0 : ρ a0 = W32 1634760805) (h1 : ρ a1 = W32 857760878) (h2 : ρ a2 = W32 2036477234) (h3 : ρ a3 = W32 1797285236) : (execOp ρ o).run Try.prog w = .ok (.value (V (ints .u32 kw 16))) w := by
  simp only [execOp, ho, List.map_toArray, List.map_cons, List.map_nil, h0, h1, h2, h3]
  kernel_rfl
end
theorem call45 : ∀ args w, (callFunc 45 args).run Try.prog w = .ok (.enter 45 args) w := by intro args w; go_simp
theorem call46 : ∀ args w, (callFunc 46 args).run Try.prog w = .ok (.enter 46 args) w := by intro args w; go_simp
theorem call57 : ∀ args w, (callFunc 57 args).run Try.prog w = .ok (.enter 57 args) w := by intro args w; go_simp
theorem call62 : ∀ args w, (callFunc 62 args).run Try.prog w = .ok (.enter 62 args) w := by intro args w; go_simp
set_option maxRecDepth 100000 in
theorem num32_any (P : Nat → Nat) (g o n cp : Nat) (hn : 4 ≤ n) (w : World) (hR : Rs g o n P w) :
    Calls Try.prog 45 #[.slice (some ⟨g, o, none⟩) n cp] w fun e w' => e = .returned (W32 (fo P 0)) ∧ Below w.heap.size w w' := by
  have H0 : Hid (_ ∧ _) := ⟨Mm.nil w, Below.refl w.heap.size w⟩
  have R0 : Hid (Rs g o n P w) := hR
  clear hR
  go_enter Try.func45, Try.ntmps45
  refine wp_seq ?_
  refine walk_seqB 1 [.quiet (.int .u32 0)] H0 ?ho1 ?he1
  case ho1 => exact ak (fun _ => ⟨rfl, fun _ _ => rfl⟩) trivial
  intro _ w1 H1
  refine rest0 rfl (then_normal (wp_seq ?_))
  refine (walk_any) (by kernel_rfl) 23 [.quiet (.slice (some ⟨g, o, none⟩) n cp), .quiet (PT g (o + 0)), .quiet (Z8 (P 0)), .quiet (W32 (c32 (P 0))), .quiet (.slice (some ⟨g, o, none⟩) n cp), .quiet (PT g (o + 1)), .quiet (Z8 (P 1)), .quiet (W32 (c32 (P 1))), .quiet (W32 (sl (c32 (P 1)) 8)), .quiet (W32 (ou (c32 (P 0)) (sl (c32 (P 1)) 8))), .quiet (.slice (some ⟨g, o, none⟩) n cp), .quiet (PT g (o + 2)), .quiet (Z8 (P 2)), .quiet (W32 (c32 (P 2))), .quiet (W32 (sl (c32 (P 2)) 16)), .quiet (W32 (ou (ou (c32 (P 0)) (sl (c32 (P 1)) 8)) (sl (c32 (P 2)) 16))), .quiet (.slice (some ⟨g, o, none⟩) n cp), .quiet (PT g (o + 3)), .quiet (Z8 (P 3)), .quiet (W32 (c32 (P 3))), .quiet (W32 (sl (c32 (P 3)) 24)), .quiet (W32 (ou (ou (ou (c32 (P 0)) (sl (c32 (P 1)) 8)) (sl (c32 (P 2)) 16)) (sl (c32 (P 3)) 24))), .quiet (W32 (ou (ou (ou (c32 (P 0)) (sl (c32 (P 1)) 8)) (sl (c32 (P 2)) 16)) (sl (c32 (P 3)) 24)))] (fun u' => Mm u' [] ∧ Rs g o n P u') ?pre2 ?F2 ?hpre2 (fun γ => ?hF2) (by kernel_rfl) ?hL2 ?hS2 ?ho2 ?he2
  case hpre2 => simp only [tk, tz]; rfl
  case hF2 => simp only [fill, Kind.val, Act.put, sa, sz, ss]; rfl
  case hL2 => exact trivial
  case hS2 => exact fun w' hb => ⟨H1.out.1.below hb, R0.out.below (H1.out.2.trans (hb.mono H1.out.2.size))⟩
  case ho2 =>
    refine ak (fun _ => ⟨rfl, fun _ _ => rfl⟩) ?_
    refine ak (fun γ => ⟨rfl, fun w' _ => ex_ixS22 (m := n) (j := 0) rfl rfl rfl (by omega)⟩) ?_
    refine ak (fun γ => ⟨rfl, fun w' hX => ex_ldR (k := 0) hX.2 (by omega) rfl rfl⟩) ?_
    refine ak (fun γ => ⟨rfl, fun w' _ => ex_cv5_51 rfl rfl⟩) ?_
    refine ak (fun _ => ⟨rfl, fun _ _ => rfl⟩) ?_
    refine ak (fun γ => ⟨rfl, fun w' _ => ex_ixS22 (m := n) (j := 1) rfl rfl rfl (by omega)⟩) ?_
    refine ak (fun γ => ⟨rfl, fun w' hX => ex_ldR (k := 1) hX.2 (by omega) rfl rfl⟩) ?_
    refine ak (fun γ => ⟨rfl, fun w' _ => ex_cv5_51 rfl rfl⟩) ?_
    refine ak (fun γ => ⟨rfl, fun w' _ => ex_shl32 (k := 8) (by decide) rfl rfl rfl⟩) ?_
    refine ak (fun γ => ⟨rfl, fun w' _ => ex_or32 rfl rfl rfl⟩) ?_
    refine ak (fun _ => ⟨rfl, fun _ _ => rfl⟩) ?_
    refine ak (fun γ => ⟨rfl, fun w' _ => ex_ixS22 (m := n) (j := 2) rfl rfl rfl (by omega)⟩) ?_
    refine ak (fun γ => ⟨rfl, fun w' hX => ex_ldR (k := 2) hX.2 (by omega) rfl rfl⟩) ?_
    refine ak (fun γ => ⟨rfl, fun w' _ => ex_cv5_51 rfl rfl⟩) ?_
    refine ak (fun γ => ⟨rfl, fun w' _ => ex_shl32 (k := 16) (by decide) rfl rfl rfl⟩) ?_
    refine ak (fun γ => ⟨rfl, fun w' _ => ex_or32 rfl rfl rfl⟩) ?_
    refine ak (fun _ => ⟨rfl, fun _ _ => rfl⟩) ?_
    refine ak (fun γ => ⟨rfl, fun w' _ => ex_ixS22 (m := n) (j := 3) rfl rfl rfl (by omega)⟩) ?_
    refine ak (fun γ => ⟨rfl, fun w' hX => ex_ldR (k := 3) hX.2 (by omega) rfl rfl⟩) ?_
    refine ak (fun γ => ⟨rfl, fun w' _ => ex_cv5_51 rfl rfl⟩) ?_
    refine ak (fun γ => ⟨rfl, fun w' _ => ex_shl32 (k := 24) (by decide) rfl rfl rfl⟩) ?_
    refine ak (fun γ => ⟨rfl, fun w' _ => ex_or32 rfl rfl rfl⟩) ?_
    refine ak (fun _ => ⟨rfl, fun _ _ => rfl⟩) ?_
    exact trivial
  intro γ w2 l hM hl
  have H2 := keepB H1 hM.below
  clear hM hl l H1 γ
  refine rest0 rfl (then_normal (wp_ret ?_))
  repeat (first | refine then_ret ?_ | refine block_ret ?_)
  refine bodyPost_ret (v := W32 (ou (ou (ou (c32 (P 0)) (sl (c32 (P 1)) 8)) (sl (c32 (P 2)) 16)) (sl (c32 (P 3)) 24))) (by simp [results, Try.results45, go_sem, *]) rfl ?_
  exact ⟨rfl, H2.out.2⟩
theorem num32_at (P : Nat → Nat) (g o n cp l : Nat) (hl : l + 4 ≤ n) (w : World) (hR : Rs g o n P w) : Calls Try.prog 45 #[.slice (some ⟨g, o + l, none⟩) (n - l) (cp - l)] w fun e w' => e = .returned (W32 (fo P l)) ∧ Below w.heap.size w w' :=
  num32_any (fun j => P (l + j)) g (o + l) (n - l) (cp - l) (by omega) w (hR.part l)
set_option maxRecDepth 100000 in
theorem rot_any (x k : Nat) (hk : k < 32) (w : World) :
    Calls Try.prog 62 #[W32 x, .int .i64 ((k : Nat) : Int)] w fun e w' => e = .returned (W32 (lrt x k)) ∧ Below w.heap.size w w' := by
  have H0 : Hid (_ ∧ _) := ⟨Mm.nil w, Below.refl w.heap.size w⟩
  go_enter Try.func62, Try.ntmps62
  refine wp_seq ?_
  refine walk_seqB 1 [.quiet (.int .u32 0)] H0 ?ho1 ?he1
  case ho1 => exact ak (fun _ => ⟨rfl, fun _ _ => rfl⟩) trivial
  intro _ w1 H1
  refine rest0 rfl (then_normal (wp_seq ?_))
  refine walk_seqB 4 [.quiet (.int .i64 ((k : Nat) : Int)), .quiet (U k), .quiet (U k), .quiet (U k)] H1 ?ho2 ?he2
  case ho2 => exact ak (fun _ => ⟨rfl, fun _ _ => rfl⟩) (ak (fun γ => ⟨rfl, fun w' _ => ex_cvU hk rfl rfl⟩) (ak (fun γ => ⟨rfl, fun w' _ => ex_andU hk rfl rfl rfl⟩) (ak (fun _ => ⟨rfl, fun _ _ => rfl⟩) trivial)))
  intro _ w2 H2
  clear H1
  refine rest0 rfl (then_normal (wp_seq ?_))
  refine walk_seqB 9 [.quiet (W32 x), .quiet (U k), .quiet (W32 (sl x k)), .quiet (W32 x), .quiet (U k), .quiet (U (32 - k)), .quiet (W32 (sr x (32 - k))), .quiet (W32 (ou (sl x k) (sr x (32 - k)))), .quiet (W32 (ou (sl x k) (sr x (32 - k))))] H2 ?ho3 ?he3
  case ho3 => exact ak (fun _ => ⟨rfl, fun _ _ => rfl⟩) (ak (fun _ => ⟨rfl, fun _ _ => rfl⟩) (ak (fun γ => ⟨rfl, fun w' _ => ex_shl32 (k := k) (by omega) rfl rfl rfl⟩) (ak (fun _ => ⟨rfl, fun _ _ => rfl⟩) (ak (fun _ => ⟨rfl, fun _ _ => rfl⟩) (ak (fun γ => ⟨rfl, fun w' _ => ex_subU hk rfl rfl rfl⟩) (ak (fun γ => ⟨rfl, fun w' _ => ex_shr32 (k := (32 - k)) (by omega) rfl rfl rfl⟩) (ak (fun γ => ⟨rfl, fun w' _ => ex_or32 rfl rfl rfl⟩) (ak (fun _ => ⟨rfl, fun _ _ => rfl⟩) trivial))))))))
  intro _ w3 H3
  clear H2
  refine rest0 rfl (then_normal (wp_ret ?_))
  repeat (first | refine then_ret ?_ | refine block_ret ?_)
  refine bodyPost_ret (v := W32 (ou (sl x k) (sr x (32 - k)))) (by simp [results, Try.results62, go_sem, *]) rfl ?_
  exact ⟨rfl, H3.out.2⟩
set_option maxHeartbeats 1000000 in
set_option maxRecDepth 100000 in
theorem quart_any (x : Nat → Nat) (g a b c d : Nat) (ha : a < 16) (hb : b < 16) (hc : c < 16) (hd : d < 16) (w : World) (hm : Mm w [(g, ints .u32 x 16)]) :
    Calls Try.prog 57 #[PT g a, PT g b, PT g c, PT g d] w fun e w' => e = .returned (.tuple #[]) ∧ Mm w' [(g, ints .u32 (qr x a b c d) 16)] ∧ Kp g w w' := by
  have H0 : Hid (_ ∧ _) := ⟨hm, Kp.refl g w⟩
  clear hm
  go_enter Try.func57, Try.ntmps57
  refine wp_seq ?_
  refine walk_anyA 8 [.quiet (PT g a), .quiet (PT g a), .quiet (W32 (x a)), .quiet (PT g b), .quiet (PT g b), .quiet (W32 (x b)), .quiet (W32 (ad (x a) (x b))), .quiet (PT g a)] (sB H0) ?ho1 ?he1
  case ho1 => exact ak (fun _ => ⟨rfl, fun _ _ => rfl⟩) (ak (by refine fun γ => ⟨rfl, fun w' h => ?_⟩; clear h; go_simp) (ak (fun γ => ⟨rfl, fun w' h => ex_loadC h 0 rfl rfl rfl Try.isAgg23 (ints_get _ _ (by omega))⟩) (ak (fun _ => ⟨rfl, fun _ _ => rfl⟩) (ak (by refine fun γ => ⟨rfl, fun w' h => ?_⟩; clear h; go_simp) (ak (fun γ => ⟨rfl, fun w' h => ex_loadC h 0 rfl rfl rfl Try.isAgg23 (ints_get _ _ (by omega))⟩) (ak (fun γ => ⟨rfl, fun w' _ => ex_add32 rfl rfl rfl⟩) (ak (by refine fun γ => ⟨rfl, fun w' h => ?_⟩; clear h; go_simp) trivial)))))))
  intro γ w1 l hM hl
  have H1 := keepK H0 hM.below
  clear hM hl l γ
  refine rest_at (l := [8]) rfl ?_
  refine rest_store rfl rfl rfl (ex_storeI H1.out.1 0 rfl rfl Try.sizeOf23 rfl rfl (by rw [ints_len]; omega)) ?_
  have H2 : Hid (Mm (w1.setCells g a ([W32 (ad (x a) (x b))])) [(g, ints .u32 (qa x a b) 16)] ∧ Kp g w (w1.setCells g a ([W32 (ad (x a) (x b))]))) := ⟨by
    have h := H1.out.1.put 0 (off := a) (vs := [W32 (ad (x a) (x b))]) rfl (by rw [ints_len]; simp only [List.length_cons, List.length_nil]; omega)
    rw [ints_patch _ _ _ _ (by omega), show ints .u32 (up x a (ad (x a) (x b))) 16 = ints .u32 (qa x a b) 16 by rw [show (up x a (ad (x a) (x b))) = qa x a b from rfl]] at h
    exact h, H1.out.2.put (Or.inl rfl)⟩
  clear H1
  generalize hgw : World.setCells _ _ _ _ = w2 at H2 ⊢
  clear hgw
  refine rest_nil (then_normal (wp_seq ?_))
  refine walk_anyA 10 [.quiet (PT g d), .quiet (PT g d), .quiet (PT g d), .quiet (W32 ((qa x a b) d)), .quiet (PT g a), .quiet (PT g a), .quiet (W32 ((qa x a b) a)), .quiet (W32 (xo ((qa x a b) d) ((qa x a b) a))), .call (W32 (lrt (xo ((qa x a b) d) ((qa x a b) a)) 16)), .quiet (PT g d)] (sB H2) ?ho2 ?he2
  case ho2 => exact ak (fun _ => ⟨rfl, fun _ _ => rfl⟩) (ak (fun _ => ⟨rfl, fun _ _ => rfl⟩) (ak (by refine fun γ => ⟨rfl, fun w' h => ?_⟩; clear h; go_simp) (ak (fun γ => ⟨rfl, fun w' h => ex_loadC h 0 rfl rfl rfl Try.isAgg23 (ints_get _ _ (by omega))⟩) (ak (fun _ => ⟨rfl, fun _ _ => rfl⟩) (ak (by refine fun γ => ⟨rfl, fun w' h => ?_⟩; clear h; go_simp) (ak (fun γ => ⟨rfl, fun w' h => ex_loadC h 0 rfl rfl rfl Try.isAgg23 (ints_get _ _ (by omega))⟩) (ak (fun γ => ⟨rfl, fun w' _ => ex_xor32 rfl rfl rfl⟩) (ak (fun γ => ⟨rfl, fun w' h => ⟨62, #[W32 (xo ((qa x a b) d) ((qa x a b) a)), .int .i64 16], exec_call rfl call62 rfl (mpn rfl), rot_any (xo ((qa x a b) d) ((qa x a b) a)) 16 (by decide) w'⟩⟩) (ak (by refine fun γ => ⟨rfl, fun w' h => ?_⟩; clear h; go_simp) trivial)))))))))
  intro γ w3 l hM hl
  have H3 := keepK H2 hM.below
  clear hM hl l H2 γ
  refine rest_at (l := [10]) rfl ?_
  refine rest_store rfl rfl rfl (ex_storeI H3.out.1 0 rfl rfl Try.sizeOf23 rfl rfl (by rw [ints_len]; omega)) ?_
  have H4 : Hid (Mm (w3.setCells g d ([W32 (lrt (xo ((qa x a b) d) ((qa x a b) a)) 16)])) [(g, ints .u32 (qx (qa x a b) d a 16) 16)] ∧ Kp g w (w3.setCells g d ([W32 (lrt (xo ((qa x a b) d) ((qa x a b) a)) 16)]))) := ⟨by
    have h := H3.out.1.put 0 (off := d) (vs := [W32 (lrt (xo ((qa x a b) d) ((qa x a b) a)) 16)]) rfl (by rw [ints_len]; simp only [List.length_cons, List.length_nil]; omega)
    rw [ints_patch _ _ _ _ (by omega), show ints .u32 (up (qa x a b) d (lrt (xo ((qa x a b) d) ((qa x a b) a)) 16)) 16 = ints .u32 (qx (qa x a b) d a 16) 16 by rw [show (up (qa x a b) d (lrt (xo ((qa x a b) d) ((qa x a b) a)) 16)) = qx (qa x a b) d a 16 from rfl]] at h
    exact h, H3.out.2.put (Or.inl rfl)⟩
  clear H3
  generalize hgw : World.setCells _ _ _ _ = w4 at H4 ⊢
  clear hgw
  refine rest_nil (then_normal (wp_seq ?_))
  refine walk_anyA 8 [.quiet (PT g c), .quiet (PT g c), .quiet (W32 ((qx (qa x a b) d a 16) c)), .quiet (PT g d), .quiet (PT g d), .quiet (W32 ((qx (qa x a b) d a 16) d)), .quiet (W32 (ad ((qx (qa x a b) d a 16) c) ((qx (qa x a b) d a 16) d))), .quiet (PT g c)] (sB H4) ?ho3 ?he3
  case ho3 => exact ak (fun _ => ⟨rfl, fun _ _ => rfl⟩) (ak (by refine fun γ => ⟨rfl, fun w' h => ?_⟩; clear h; go_simp) (ak (fun γ => ⟨rfl, fun w' h => ex_loadC h 0 rfl rfl rfl Try.isAgg23 (ints_get _ _ (by omega))⟩) (ak (fun _ => ⟨rfl, fun _ _ => rfl⟩) (ak (by refine fun γ => ⟨rfl, fun w' h => ?_⟩; clear h; go_simp) (ak (fun γ => ⟨rfl, fun w' h => ex_loadC h 0 rfl rfl rfl Try.isAgg23 (ints_get _ _ (by omega))⟩) (ak (fun γ => ⟨rfl, fun w' _ => ex_add32 rfl rfl rfl⟩) (ak (by refine fun γ => ⟨rfl, fun w' h => ?_⟩; clear h; go_simp) trivial)))))))
  intro γ w5 l hM hl
  have H5 := keepK H4 hM.below
  clear hM hl l H4 γ
  refine rest_at (l := [8]) rfl ?_
  refine rest_store rfl rfl rfl (ex_storeI H5.out.1 0 rfl rfl Try.sizeOf23 rfl rfl (by rw [ints_len]; omega)) ?_
  have H6 : Hid (Mm (w5.setCells g c ([W32 (ad ((qx (qa x a b) d a 16) c) ((qx (qa x a b) d a 16) d))])) [(g, ints .u32 (qa (qx (qa x a b) d a 16) c d) 16)] ∧ Kp g w (w5.setCells g c ([W32 (ad ((qx (qa x a b) d a 16) c) ((qx (qa x a b) d a 16) d))]))) := ⟨by
    have h := H5.out.1.put 0 (off := c) (vs := [W32 (ad ((qx (qa x a b) d a 16) c) ((qx (qa x a b) d a 16) d))]) rfl (by rw [ints_len]; simp only [List.length_cons, List.length_nil]; omega)
    rw [ints_patch _ _ _ _ (by omega), show ints .u32 (up (qx (qa x a b) d a 16) c (ad ((qx (qa x a b) d a 16) c) ((qx (qa x a b) d a 16) d))) 16 = ints .u32 (qa (qx (qa x a b) d a 16) c d) 16 by rw [show (up (qx (qa x a b) d a 16) c (ad ((qx (qa x a b) d a 16) c) ((qx (qa x a b) d a 16) d))) = qa (qx (qa x a b) d a 16) c d from rfl]] at h
    exact h, H5.out.2.put (Or.inl rfl)⟩
  clear H5
  generalize hgw : World.setCells _ _ _ _ = w6 at H6 ⊢
  clear hgw
  refine rest_nil (then_normal (wp_seq ?_))
  refine walk_anyA 10 [.quiet (PT g b), .quiet (PT g b), .quiet (PT g b), .quiet (W32 ((qa (qx (qa x a b) d a 16) c d) b)), .quiet (PT g c), .quiet (PT g c), .quiet (W32 ((qa (qx (qa x a b) d a 16) c d) c)), .quiet (W32 (xo ((qa (qx (qa x a b) d a 16) c d) b) ((qa (qx (qa x a b) d a 16) c d) c))), .call (W32 (lrt (xo ((qa (qx (qa x a b) d a 16) c d) b) ((qa (qx (qa x a b) d a 16) c d) c)) 12)), .quiet (PT g b)] (sB H6) ?ho4 ?he4
  case ho4 => exact ak (fun _ => ⟨rfl, fun _ _ => rfl⟩) (ak (fun _ => ⟨rfl, fun _ _ => rfl⟩) (ak (by refine fun γ => ⟨rfl, fun w' h => ?_⟩; clear h; go_simp) (ak (fun γ => ⟨rfl, fun w' h => ex_loadC h 0 rfl rfl rfl Try.isAgg23 (ints_get _ _ (by omega))⟩) (ak (fun _ => ⟨rfl, fun _ _ => rfl⟩) (ak (by refine fun γ => ⟨rfl, fun w' h => ?_⟩; clear h; go_simp) (ak (fun γ => ⟨rfl, fun w' h => ex_loadC h 0 rfl rfl rfl Try.isAgg23 (ints_get _ _ (by omega))⟩) (ak (fun γ => ⟨rfl, fun w' _ => ex_xor32 rfl rfl rfl⟩) (ak (fun γ => ⟨rfl, fun w' h => ⟨62, #[W32 (xo ((qa (qx (qa x a b) d a 16) c d) b) ((qa (qx (qa x a b) d a 16) c d) c)), .int .i64 12], exec_call rfl call62 rfl (mpn rfl), rot_any (xo ((qa (qx (qa x a b) d a 16) c d) b) ((qa (qx (qa x a b) d a 16) c d) c)) 12 (by decide) w'⟩⟩) (ak (by refine fun γ => ⟨rfl, fun w' h => ?_⟩; clear h; go_simp) trivial)))))))))
  intro γ w7 l hM hl
  have H7 := keepK H6 hM.below
  clear hM hl l H6 γ
  refine rest_at (l := [10]) rfl ?_
  refine rest_store rfl rfl rfl (ex_storeI H7.out.1 0 rfl rfl Try.sizeOf23 rfl rfl (by rw [ints_len]; omega)) ?_
  have H8 : Hid (Mm (w7.setCells g b ([W32 (lrt (xo ((qa (qx (qa x a b) d a 16) c d) b) ((qa (qx (qa x a b) d a 16) c d) c)) 12)])) [(g, ints .u32 (qx (qa (qx (qa x a b) d a 16) c d) b c 12) 16)] ∧ Kp g w (w7.setCells g b ([W32 (lrt (xo ((qa (qx (qa x a b) d a 16) c d) b) ((qa (qx (qa x a b) d a 16) c d) c)) 12)]))) := ⟨by
    have h := H7.out.1.put 0 (off := b) (vs := [W32 (lrt (xo ((qa (qx (qa x a b) d a 16) c d) b) ((qa (qx (qa x a b) d a 16) c d) c)) 12)]) rfl (by rw [ints_len]; simp only [List.length_cons, List.length_nil]; omega)
    rw [ints_patch _ _ _ _ (by omega), show ints .u32 (up (qa (qx (qa x a b) d a 16) c d) b (lrt (xo ((qa (qx (qa x a b) d a 16) c d) b) ((qa (qx (qa x a b) d a 16) c d) c)) 12)) 16 = ints .u32 (qx (qa (qx (qa x a b) d a 16) c d) b c 12) 16 by rw [show (up (qa (qx (qa x a b) d a 16) c d) b (lrt (xo ((qa (qx (qa x a b) d a 16) c d) b) ((qa (qx (qa x a b) d a 16) c d) c)) 12)) = qx (qa (qx (qa x a b) d a 16) c d) b c 12 from rfl]] at h
    exact h, H7.out.2.put (Or.inl rfl)⟩
  clear H7
  generalize hgw : World.setCells _ _ _ _ = w8 at H8 ⊢
  clear hgw
  refine rest_nil (then_normal (wp_seq ?_))
  refine walk_anyA 8 [.quiet (PT g a), .quiet (PT g a), .quiet (W32 ((qx (qa (qx (qa x a b) d a 16) c d) b c 12) a)), .quiet (PT g b), .quiet (PT g b), .quiet (W32 ((qx (qa (qx (qa x a b) d a 16) c d) b c 12) b)), .quiet (W32 (ad ((qx (qa (qx (qa x a b) d a 16) c d) b c 12) a) ((qx (qa (qx (qa x a b) d a 16) c d) b c 12) b))), .quiet (PT g a)] (sB H8) ?ho5 ?he5
  case ho5 => exact ak (fun _ => ⟨rfl, fun _ _ => rfl⟩) (ak (by refine fun γ => ⟨rfl, fun w' h => ?_⟩; clear h; go_simp) (ak (fun γ => ⟨rfl, fun w' h => ex_loadC h 0 rfl rfl rfl Try.isAgg23 (ints_get _ _ (by omega))⟩) (ak (fun _ => ⟨rfl, fun _ _ => rfl⟩) (ak (by refine fun γ => ⟨rfl, fun w' h => ?_⟩; clear h; go_simp) (ak (fun γ => ⟨rfl, fun w' h => ex_loadC h 0 rfl rfl rfl Try.isAgg23 (ints_get _ _ (by omega))⟩) (ak (fun γ => ⟨rfl, fun w' _ => ex_add32 rfl rfl rfl⟩) (ak (by refine fun γ => ⟨rfl, fun w' h => ?_⟩; clear h; go_simp) trivial)))))))
  intro γ w9 l hM hl
  have H9 := keepK H8 hM.below
  clear hM hl l H8 γ
  refine rest_at (l := [8]) rfl ?_
  refine rest_store rfl rfl rfl (ex_storeI H9.out.1 0 rfl rfl Try.sizeOf23 rfl rfl (by rw [ints_len]; omega)) ?_
  have H10 : Hid (Mm (w9.setCells g a ([W32 (ad ((qx (qa (qx (qa x a b) d a 16) c d) b c 12) a) ((qx (qa (qx (qa x a b) d a 16) c d) b c 12) b))])) [(g, ints .u32 (qa (qx (qa (qx (qa x a b) d a 16) c d) b c 12) a b) 16)] ∧ Kp g w (w9.setCells g a ([W32 (ad ((qx (qa (qx (qa x a b) d a 16) c d) b c 12) a) ((qx (qa (qx (qa x a b) d a 16) c d) b c 12) b))]))) := ⟨by
    have h := H9.out.1.put 0 (off := a) (vs := [W32 (ad ((qx (qa (qx (qa x a b) d a 16) c d) b c 12) a) ((qx (qa (qx (qa x a b) d a 16) c d) b c 12) b))]) rfl (by rw [ints_len]; simp only [List.length_cons, List.length_nil]; omega)
    rw [ints_patch _ _ _ _ (by omega), show ints .u32 (up (qx (qa (qx (qa x a b) d a 16) c d) b c 12) a (ad ((qx (qa (qx (qa x a b) d a 16) c d) b c 12) a) ((qx (qa (qx (qa x a b) d a 16) c d) b c 12) b))) 16 = ints .u32 (qa (qx (qa (qx (qa x a b) d a 16) c d) b c 12) a b) 16 by rw [show (up (qx (qa (qx (qa x a b) d a 16) c d) b c 12) a (ad ((qx (qa (qx (qa x a b) d a 16) c d) b c 12) a) ((qx (qa (qx (qa x a b) d a 16) c d) b c 12) b))) = qa (qx (qa (qx (qa x a b) d a 16) c d) b c 12) a b from rfl]] at h
    exact h, H9.out.2.put (Or.inl rfl)⟩
  clear H9
  generalize hgw : World.setCells _ _ _ _ = w10 at H10 ⊢
  clear hgw
  refine rest_nil (then_normal (wp_seq ?_))
  refine walk_anyA 10 [.quiet (PT g d), .quiet (PT g d), .quiet (PT g d), .quiet (W32 ((qa (qx (qa (qx (qa x a b) d a 16) c d) b c 12) a b) d)), .quiet (PT g a), .quiet (PT g a), .quiet (W32 ((qa (qx (qa (qx (qa x a b) d a 16) c d) b c 12) a b) a)), .quiet (W32 (xo ((qa (qx (qa (qx (qa x a b) d a 16) c d) b c 12) a b) d) ((qa (qx (qa (qx (qa x a b) d a 16) c d) b c 12) a b) a))), .call (W32 (lrt (xo ((qa (qx (qa (qx (qa x a b) d a 16) c d) b c 12) a b) d) ((qa (qx (qa (qx (qa x a b) d a 16) c d) b c 12) a b) a)) 8)), .quiet (PT g d)] (sB H10) ?ho6 ?he6
  case ho6 => exact ak (fun _ => ⟨rfl, fun _ _ => rfl⟩) (ak (fun _ => ⟨rfl, fun _ _ => rfl⟩) (ak (by refine fun γ => ⟨rfl, fun w' h => ?_⟩; clear h; go_simp) (ak (fun γ => ⟨rfl, fun w' h => ex_loadC h 0 rfl rfl rfl Try.isAgg23 (ints_get _ _ (by omega))⟩) (ak (fun _ => ⟨rfl, fun _ _ => rfl⟩) (ak (by refine fun γ => ⟨rfl, fun w' h => ?_⟩; clear h; go_simp) (ak (fun γ => ⟨rfl, fun w' h => ex_loadC h 0 rfl rfl rfl Try.isAgg23 (ints_get _ _ (by omega))⟩) (ak (fun γ => ⟨rfl, fun w' _ => ex_xor32 rfl rfl rfl⟩) (ak (fun γ => ⟨rfl, fun w' h => ⟨62, #[W32 (xo ((qa (qx (qa (qx (qa x a b) d a 16) c d) b c 12) a b) d) ((qa (qx (qa (qx (qa x a b) d a 16) c d) b c 12) a b) a)), .int .i64 8], exec_call rfl call62 rfl (mpn rfl), rot_any (xo ((qa (qx (qa (qx (qa x a b) d a 16) c d) b c 12) a b) d) ((qa (qx (qa (qx (qa x a b) d a 16) c d) b c 12) a b) a)) 8 (by decide) w'⟩⟩) (ak (by refine fun γ => ⟨rfl, fun w' h => ?_⟩; clear h; go_simp) trivial)))))))))
  intro γ w11 l hM hl
  have H11 := keepK H10 hM.below
  clear hM hl l H10 γ
  refine rest_at (l := [10]) rfl ?_
  refine rest_store rfl rfl rfl (ex_storeI H11.out.1 0 rfl rfl Try.sizeOf23 rfl rfl (by rw [ints_len]; omega)) ?_
  have H12 : Hid (Mm (w11.setCells g d ([W32 (lrt (xo ((qa (qx (qa (qx (qa x a b) d a 16) c d) b c 12) a b) d) ((qa (qx (qa (qx (qa x a b) d a 16) c d) b c 12) a b) a)) 8)])) [(g, ints .u32 (qx (qa (qx (qa (qx (qa x a b) d a 16) c d) b c 12) a b) d a 8) 16)] ∧ Kp g w (w11.setCells g d ([W32 (lrt (xo ((qa (qx (qa (qx (qa x a b) d a 16) c d) b c 12) a b) d) ((qa (qx (qa (qx (qa x a b) d a 16) c d) b c 12) a b) a)) 8)]))) := ⟨by
    have h := H11.out.1.put 0 (off := d) (vs := [W32 (lrt (xo ((qa (qx (qa (qx (qa x a b) d a 16) c d) b c 12) a b) d) ((qa (qx (qa (qx (qa x a b) d a 16) c d) b c 12) a b) a)) 8)]) rfl (by rw [ints_len]; simp only [List.length_cons, List.length_nil]; omega)
    rw [ints_patch _ _ _ _ (by omega), show ints .u32 (up (qa (qx (qa (qx (qa x a b) d a 16) c d) b c 12) a b) d (lrt (xo ((qa (qx (qa (qx (qa x a b) d a 16) c d) b c 12) a b) d) ((qa (qx (qa (qx (qa x a b) d a 16) c d) b c 12) a b) a)) 8)) 16 = ints .u32 (qx (qa (qx (qa (qx (qa x a b) d a 16) c d) b c 12) a b) d a 8) 16 by rw [show (up (qa (qx (qa (qx (qa x a b) d a 16) c d) b c 12) a b) d (lrt (xo ((qa (qx (qa (qx (qa x a b) d a 16) c d) b c 12) a b) d) ((qa (qx (qa (qx (qa x a b) d a 16) c d) b c 12) a b) a)) 8)) = qx (qa (qx (qa (qx (qa x a b) d a 16) c d) b c 12) a b) d a 8 from rfl]] at h
    exact h, H11.out.2.put (Or.inl rfl)⟩
  clear H11
  generalize hgw : World.setCells _ _ _ _ = w12 at H12 ⊢
  clear hgw
  refine rest_nil (then_normal (wp_seq ?_))
  refine walk_anyA 8 [.quiet (PT g c), .quiet (PT g c), .quiet (W32 ((qx (qa (qx (qa (qx (qa x a b) d a 16) c d) b c 12) a b) d a 8) c)), .quiet (PT g d), .quiet (PT g d), .quiet (W32 ((qx (qa (qx (qa (qx (qa x a b) d a 16) c d) b c 12) a b) d a 8) d)), .quiet (W32 (ad ((qx (qa (qx (qa (qx (qa x a b) d a 16) c d) b c 12) a b) d a 8) c) ((qx (qa (qx (qa (qx (qa x a b) d a 16) c d) b c 12) a b) d a 8) d))), .quiet (PT g c)] (sB H12) ?ho7 ?he7
  case ho7 => exact ak (fun _ => ⟨rfl, fun _ _ => rfl⟩) (ak (by refine fun γ => ⟨rfl, fun w' h => ?_⟩; clear h; go_simp) (ak (fun γ => ⟨rfl, fun w' h => ex_loadC h 0 rfl rfl rfl Try.isAgg23 (ints_get _ _ (by omega))⟩) (ak (fun _ => ⟨rfl, fun _ _ => rfl⟩) (ak (by refine fun γ => ⟨rfl, fun w' h => ?_⟩; clear h; go_simp) (ak (fun γ => ⟨rfl, fun w' h => ex_loadC h 0 rfl rfl rfl Try.isAgg23 (ints_get _ _ (by omega))⟩) (ak (fun γ => ⟨rfl, fun w' _ => ex_add32 rfl rfl rfl⟩) (ak (by refine fun γ => ⟨rfl, fun w' h => ?_⟩; clear h; go_simp) trivial)))))))
  intro γ w13 l hM hl
  have H13 := keepK H12 hM.below
  clear hM hl l H12 γ
  refine rest_at (l := [8]) rfl ?_
  refine rest_store rfl rfl rfl (ex_storeI H13.out.1 0 rfl rfl Try.sizeOf23 rfl rfl (by rw [ints_len]; omega)) ?_
  have H14 : Hid (Mm (w13.setCells g c ([W32 (ad ((qx (qa (qx (qa (qx (qa x a b) d a 16) c d) b c 12) a b) d a 8) c) ((qx (qa (qx (qa (qx (qa x a b) d a 16) c d) b c 12) a b) d a 8) d))])) [(g, ints .u32 (qa (qx (qa (qx (qa (qx (qa x a b) d a 16) c d) b c 12) a b) d a 8) c d) 16)] ∧ Kp g w (w13.setCells g c ([W32 (ad ((qx (qa (qx (qa (qx (qa x a b) d a 16) c d) b c 12) a b) d a 8) c) ((qx (qa (qx (qa (qx (qa x a b) d a 16) c d) b c 12) a b) d a 8) d))]))) := ⟨by
    have h := H13.out.1.put 0 (off := c) (vs := [W32 (ad ((qx (qa (qx (qa (qx (qa x a b) d a 16) c d) b c 12) a b) d a 8) c) ((qx (qa (qx (qa (qx (qa x a b) d a 16) c d) b c 12) a b) d a 8) d))]) rfl (by rw [ints_len]; simp only [List.length_cons, List.length_nil]; omega)
    rw [ints_patch _ _ _ _ (by omega), show ints .u32 (up (qx (qa (qx (qa (qx (qa x a b) d a 16) c d) b c 12) a b) d a 8) c (ad ((qx (qa (qx (qa (qx (qa x a b) d a 16) c d) b c 12) a b) d a 8) c) ((qx (qa (qx (qa (qx (qa x a b) d a 16) c d) b c 12) a b) d a 8) d))) 16 = ints .u32 (qa (qx (qa (qx (qa (qx (qa x a b) d a 16) c d) b c 12) a b) d a 8) c d) 16 by rw [show (up (qx (qa (qx (qa (qx (qa x a b) d a 16) c d) b c 12) a b) d a 8) c (ad ((qx (qa (qx (qa (qx (qa x a b) d a 16) c d) b c 12) a b) d a 8) c) ((qx (qa (qx (qa (qx (qa x a b) d a 16) c d) b c 12) a b) d a 8) d))) = qa (qx (qa (qx (qa (qx (qa x a b) d a 16) c d) b c 12) a b) d a 8) c d from rfl]] at h
    exact h, H13.out.2.put (Or.inl rfl)⟩
  clear H13
  generalize hgw : World.setCells _ _ _ _ = w14 at H14 ⊢
  clear hgw
  refine rest_nil (then_normal ?_)
  refine walk_anyA 10 [.quiet (PT g b), .quiet (PT g b), .quiet (PT g b), .quiet (W32 ((qa (qx (qa (qx (qa (qx (qa x a b) d a 16) c d) b c 12) a b) d a 8) c d) b)), .quiet (PT g c), .quiet (PT g c), .quiet (W32 ((qa (qx (qa (qx (qa (qx (qa x a b) d a 16) c d) b c 12) a b) d a 8) c d) c)), .quiet (W32 (xo ((qa (qx (qa (qx (qa (qx (qa x a b) d a 16) c d) b c 12) a b) d a 8) c d) b) ((qa (qx (qa (qx (qa (qx (qa x a b) d a 16) c d) b c 12) a b) d a 8) c d) c))), .call (W32 (lrt (xo ((qa (qx (qa (qx (qa (qx (qa x a b) d a 16) c d) b c 12) a b) d a 8) c d) b) ((qa (qx (qa (qx (qa (qx (qa x a b) d a 16) c d) b c 12) a b) d a 8) c d) c)) 7)), .quiet (PT g b)] (sB H14) ?ho8 ?he8
  case ho8 => exact ak (fun _ => ⟨rfl, fun _ _ => rfl⟩) (ak (fun _ => ⟨rfl, fun _ _ => rfl⟩) (ak (by refine fun γ => ⟨rfl, fun w' h => ?_⟩; clear h; go_simp) (ak (fun γ => ⟨rfl, fun w' h => ex_loadC h 0 rfl rfl rfl Try.isAgg23 (ints_get _ _ (by omega))⟩) (ak (fun _ => ⟨rfl, fun _ _ => rfl⟩) (ak (by refine fun γ => ⟨rfl, fun w' h => ?_⟩; clear h; go_simp) (ak (fun γ => ⟨rfl, fun w' h => ex_loadC h 0 rfl rfl rfl Try.isAgg23 (ints_get _ _ (by omega))⟩) (ak (fun γ => ⟨rfl, fun w' _ => ex_xor32 rfl rfl rfl⟩) (ak (fun γ => ⟨rfl, fun w' h => ⟨62, #[W32 (xo ((qa (qx (qa (qx (qa (qx (qa x a b) d a 16) c d) b c 12) a b) d a 8) c d) b) ((qa (qx (qa (qx (qa (qx (qa x a b) d a 16) c d) b c 12) a b) d a 8) c d) c)), .int .i64 7], exec_call rfl call62 rfl (mpn rfl), rot_any (xo ((qa (qx (qa (qx (qa (qx (qa x a b) d a 16) c d) b c 12) a b) d a 8) c d) b) ((qa (qx (qa (qx (qa (qx (qa x a b) d a 16) c d) b c 12) a b) d a 8) c d) c)) 7 (by decide) w'⟩⟩) (ak (by refine fun γ => ⟨rfl, fun w' h => ?_⟩; clear h; go_simp) trivial)))))))))
  intro γ w15 l hM hl
  have H15 := keepK H14 hM.below
  clear hM hl l H14 γ
  refine rest_at (l := [10]) rfl ?_
  refine rest_store rfl rfl rfl (ex_storeI H15.out.1 0 rfl rfl Try.sizeOf23 rfl rfl (by rw [ints_len]; omega)) ?_
  have H16 : Hid (Mm (w15.setCells g b ([W32 (lrt (xo ((qa (qx (qa (qx (qa (qx (qa x a b) d a 16) c d) b c 12) a b) d a 8) c d) b) ((qa (qx (qa (qx (qa (qx (qa x a b) d a 16) c d) b c 12) a b) d a 8) c d) c)) 7)])) [(g, ints .u32 (qx (qa (qx (qa (qx (qa (qx (qa x a b) d a 16) c d) b c 12) a b) d a 8) c d) b c 7) 16)] ∧ Kp g w (w15.setCells g b ([W32 (lrt (xo ((qa (qx (qa (qx (qa (qx (qa x a b) d a 16) c d) b c 12) a b) d a 8) c d) b) ((qa (qx (qa (qx (qa (qx (qa x a b) d a 16) c d) b c 12) a b) d a 8) c d) c)) 7)]))) := ⟨by
    have h := H15.out.1.put 0 (off := b) (vs := [W32 (lrt (xo ((qa (qx (qa (qx (qa (qx (qa x a b) d a 16) c d) b c 12) a b) d a 8) c d) b) ((qa (qx (qa (qx (qa (qx (qa x a b) d a 16) c d) b c 12) a b) d a 8) c d) c)) 7)]) rfl (by rw [ints_len]; simp only [List.length_cons, List.length_nil]; omega)
    rw [ints_patch _ _ _ _ (by omega), show ints .u32 (up (qa (qx (qa (qx (qa (qx (qa x a b) d a 16) c d) b c 12) a b) d a 8) c d) b (lrt (xo ((qa (qx (qa (qx (qa (qx (qa x a b) d a 16) c d) b c 12) a b) d a 8) c d) b) ((qa (qx (qa (qx (qa (qx (qa x a b) d a 16) c d) b c 12) a b) d a 8) c d) c)) 7)) 16 = ints .u32 (qx (qa (qx (qa (qx (qa (qx (qa x a b) d a 16) c d) b c 12) a b) d a 8) c d) b c 7) 16 by rw [show (up (qa (qx (qa (qx (qa (qx (qa x a b) d a 16) c d) b c 12) a b) d a 8) c d) b (lrt (xo ((qa (qx (qa (qx (qa (qx (qa x a b) d a 16) c d) b c 12) a b) d a 8) c d) b) ((qa (qx (qa (qx (qa (qx (qa x a b) d a 16) c d) b c 12) a b) d a 8) c d) c)) 7)) = qx (qa (qx (qa (qx (qa (qx (qa x a b) d a 16) c d) b c 12) a b) d a 8) c d) b c 7 from rfl]] at h
    exact h, H15.out.2.put (Or.inl rfl)⟩
  clear H15
  generalize hgw : World.setCells _ _ _ _ = w16 at H16 ⊢
  clear hgw
  refine rest_nil ?_
  refine bodyPost_end (v := .tuple #[]) (by simp [results, Try.results57, go_sem]) rfl ?_
  exact ⟨rfl, H16.out.1, H16.out.2⟩
set_option maxHeartbeats 1000000 in
set_option maxRecDepth 100000 in
theorem begun_any (K N : Nat → Nat) (gk ok ck gn on cn c : Nat) (hck : 32 ≤ ck) (hcn : 12 ≤ cn) (w : World) (hRk : Rs gk ok 32 K w) (hRn : Rs gn on 12 N w) :
    Calls Try.prog 28 #[.slice (some ⟨gk, ok, none⟩) 32 ck, .slice (some ⟨gn, on, none⟩) 12 cn, W32 c] w fun e w' => e = .returned (.agg (ints .u32 (k3 K N c 3) 16).toArray) ∧ Below w.heap.size w w' := by
  have H0 : Hid (_ ∧ _) := ⟨Mm.nil w, Below.refl w.heap.size w⟩
  have RK : Hid (Rs gk ok 32 K w) := hRk
  have RN : Hid (Rs gn on 12 N w) := hRn
  clear hRk hRn
  go_enter Try.func28, Try.ntmps28
  refine wp_seq ?_
  refine walk_seqA 1 [.made (ints .u32 (fun _ => 0) 16) 50] (sB H0) ?ho1 ?he1
  case ho1 => exact ak (fun γ => ⟨rfl, fun w' => ex_mk50 rfl⟩) trivial
  intro γ w1 l hM hl
  have H1 : Hid (Mm w1 [(γ 0, ints .u32 (fun _ => 0) 16)] ∧ _) := growB H0 hM (Nat.le_refl _) hl [0] rfl (by decide)
  have o1_0 := ownB H0 hM (Nat.le_refl _) hl (i := 0) rfl
  clear hM hl l
  generalize γ 0 = γ1_0 at H1 o1_0 ⊢
  clear γ
  refine rest0 rfl (then_normal (wp_seq ?_))
  refine walk_seqA 3 [.quiet (.agg (ints .u32 kw 16).toArray), .made (ints .u32 (fun _ => 0) 16) 50, .laid 1 (ints .u32 (fun _ => 0) 16) (ints .u32 kw 16)] (sB H1) ?ho2 ?he2 (hL := ?hL2)
  case hL2 => exact ⟨⟨_, rfl⟩, trivial⟩
  case ho2 => exact ak (fun γ => ⟨rfl, fun w' _ => ex_bkw rfl rfl rfl rfl rfl⟩) (ak (fun γ => ⟨rfl, fun w' => ex_mk50 rfl⟩) (ak (fun γ => ⟨rfl, rfl, (ints_len _ _ _).trans (ints_len _ _ _).symm, fun w' h => ex_laidI h Try.sizeOf50 rfl rfl rfl⟩) trivial))
  intro γ w2 l hM hl
  have H2 : Hid (Mm w2 [(γ 1, ints .u32 kw 16), (γ1_0, ints .u32 (fun _ => 0) 16)] ∧ _) := growB H1 hM (Nat.le_refl _) hl [1] rfl (by decide)
  have o2_1 := ownB H1 hM (Nat.le_refl _) hl (i := 1) rfl
  clear hM hl l H1
  generalize γ 1 = γ2_1 at H2 o2_1 ⊢
  clear γ
  refine rest0 rfl (then_normal (wp_seq (wp_seq ?_)))
  refine walk_seqB 1 [.quiet (.int .i64 0)] H2 ?ho3 ?he3
  case ho3 => exact ak (fun _ => ⟨rfl, fun _ _ => rfl⟩) trivial
  intro _ w3 H3
  clear H2
  refine rest0 rfl (then_normal (wp_block ?_))
  refine loop_ghost (α := Nat) (fun i0 a' w' => ∃ s0 : Nat → Value, a' = ⟨#[.slice (some ⟨gk, ok, none⟩) 32 ck, .slice (some ⟨gn, on, none⟩) 12 cn, W32 c, undef, undef, undef, PT γ1_0 0, PT γ2_1 0, s0 8, undef, .agg (ints .u32 kw 16).toArray, .int .i64 ((i0 : Nat) : Int), s0 12, s0 13, s0 14, s0 15, s0 16, s0 17, s0 18, s0 19, s0 20, s0 21, s0 22, undef, undef, undef, undef, undef, undef, undef, undef, undef, undef, undef, undef, undef, undef, undef], []⟩ ∧ (Mm w' [(γ2_1, ints .u32 (k1 K i0) 16), (γ1_0, ints .u32 (fun _ => 0) 16)] ∧ Below w.heap.size w w') ∧ i0 ≤ 8) (fun i0 => 8 - i0) 0 ?st0 ?rd0
  case st0 => exact ⟨(slotfn [undef, undef, undef, undef, undef, undef, undef, undef, undef, undef, undef, undef, undef, undef, undef, undef, undef, undef, undef, undef, undef, undef, undef]), rfl, ⟨H3.out.1, H3.out.2⟩, by omega⟩
  intro i0 a' w4 hI
  obtain ⟨s0, rfl, hMB, hk0⟩ := hI
  have H4 : Hid (_ ∧ _) := hMB
  clear hMB H3
  by_cases hlti0 : i0 < 8
  · have hrd : True := trivial
    clear hrd
    refine wp_seq ?_
    refine walk_seqB 1 [.quiet (.bool true)] H4 ?ho4 ?he4
    case ho4 => exact ak (by refine fun γ => ⟨rfl, fun w' h => ?_⟩; clear h; go_simp <;> omega) trivial
    intro _ w5 H5
    clear H4
    refine rest0 rfl (then_normal (wp_seq ?_))
    refine wp_cond_true rfl (wp_skip ?_)
    refine then_normal (wp_seq ?_)
    refine wp_block (wp_seq ?_)
    refine walk_seqB 2 [.quiet (.int .i64 ((i0 : Nat) : Int)), .quiet (.int .i64 ((i0 : Nat) : Int))] H5 ?ho5 ?he5
    case ho5 => exact ak (fun _ => ⟨rfl, fun _ _ => rfl⟩) (ak (fun _ => ⟨rfl, fun _ _ => rfl⟩) trivial)
    intro _ w6 H6
    clear H5
    refine rest0 rfl (then_normal ?_)
    refine (walk_seq) 8 [.quiet (.int .i64 ((i0 : Nat) : Int)), .quiet (.int .i64 ((4 + i0 : Nat) : Int)), .quiet (.slice (some ⟨gk, ok, none⟩) 32 ck), .quiet (.int .i64 ((i0 : Nat) : Int)), .quiet (.int .i64 ((4 * i0 : Nat) : Int)), .quiet (.slice (some ⟨gk, (ok + (4 * i0)), none⟩) (32 - (4 * i0)) (ck - (4 * i0))), .call (W32 (fo K (4 * i0))), .quiet (PT γ2_1 (4 + i0))] (fun u' => Mm u' [(γ2_1, ints .u32 (k1 K i0) 16), (γ1_0, ints .u32 (fun _ => 0) 16)] ∧ (Rs gk ok 32 K u' ∧ Rs gn on 12 N u')) ?pre6 ?F6 ?hpre6 (fun γ => ?hF6) (by kernel_rfl) ?hL6 ?hS6 ?ho6 ?he6
    case hpre6 => simp only [tk, tz]; rfl
    case hF6 => simp only [fill, Kind.val, Act.put, sa, sz, ss]; rfl
    case hL6 => exact trivial
    case hS6 => exact fun w' hb => ⟨H6.out.1.below hb, ⟨RK.out.below (H6.out.2.trans (hb.mono H6.out.2.size)), RN.out.below (H6.out.2.trans (hb.mono H6.out.2.size))⟩⟩
    case ho6 =>
      refine ak (fun _ => ⟨rfl, fun _ _ => rfl⟩) ?_
      refine ak (by refine fun γ => ⟨rfl, fun w' h => ?_⟩; clear h; go_simp; rw [IntKind.wrap_i64]; omega) ?_
      refine ak (fun _ => ⟨rfl, fun _ _ => rfl⟩) ?_
      refine ak (fun _ => ⟨rfl, fun _ _ => rfl⟩) ?_
      refine ak (by refine fun γ => ⟨rfl, fun w' h => ?_⟩; clear h; go_simp; rw [IntKind.wrap_i64]; omega) ?_
      refine ak (fun γ => ⟨rfl, fun w' _ => ex_slT (l := 4 * i0) rfl rfl rfl (by omega) (by omega)⟩) ?_
      refine ak (fun γ => ⟨rfl, fun w' hX => ⟨45, #[.slice (some ⟨gk, (ok + (4 * i0)), none⟩) (32 - (4 * i0)) (ck - (4 * i0))], exec_call rfl call45 rfl (mpn rfl), num32_at K gk ok 32 ck (4 * i0) (by omega) w' hX.2.1⟩⟩) ?_
      refine ak (fun γ => ⟨rfl, fun w' _ => ex_ix0_50 (j := 4 + i0) rfl rfl rfl (by omega)⟩) ?_
      exact trivial
    intro γ w7 l hM hl
    have H7 := keepB H6 hM.below
    clear hM hl l H6 γ
    refine rest_at (l := [8]) rfl ?_
    refine rest_store rfl rfl rfl (ex_storeI H7.out.1 0 rfl rfl Try.sizeOf23 rfl rfl (by rw [ints_len]; omega)) ?_
    have H8 : Hid (Mm (w7.setCells γ2_1 (4 + i0) ([W32 (fo K (4 * i0))])) [(γ2_1, ints .u32 (up (k1 K i0) (4 + i0) (fo K (4 * i0))) 16), (γ1_0, ints .u32 (fun _ => 0) 16)] ∧ Below w.heap.size w (w7.setCells γ2_1 (4 + i0) ([W32 (fo K (4 * i0))]))) := ⟨by
      have h := H7.out.1.put 0 (off := 4 + i0) (vs := [W32 (fo K (4 * i0))]) rfl (by rw [ints_len]; simp only [List.length_cons, List.length_nil]; omega)
      rw [ints_patch _ _ _ _ (by omega)] at h
      exact h, below_setCells _ o2_1.out _ _ _ H7.out.2⟩
    clear H7
    generalize hgw : World.setCells _ _ _ _ = w8 at H8 ⊢
    clear hgw
    refine rest_nil (block_normal (then_normal ?_))
    refine walk_seqB 1 [.quiet (.int .i64 ((i0 + 1 : Nat) : Int))] H8 ?ho7 ?he7
    case ho7 => exact ak (by refine fun γ => ⟨rfl, fun w' h => ?_⟩; clear h; go_simp; rw [IntKind.wrap_i64]; omega) trivial
    intro _ w9 H9
    clear H8
    refine rest_at (l := [1]) rfl ?_
    refine rest_set (d := 11) rfl rfl rfl rfl ?_
    simp only [Act.put, sa, sz, ss]
    refine rest_nil (then_normal ?_)
    exact ⟨i0 + 1, ⟨(slotfn [undef, undef, undef, undef, undef, undef, undef, undef, .int .i64 ((i0 : Nat) : Int), undef, undef, undef, .bool true, .int .i64 ((i0 : Nat) : Int), .int .i64 ((i0 : Nat) : Int), .int .i64 ((4 + i0 : Nat) : Int), .slice (some ⟨gk, ok, none⟩) 32 ck, .int .i64 ((i0 : Nat) : Int), .int .i64 ((4 * i0 : Nat) : Int), .slice (some ⟨gk, (ok + (4 * i0)), none⟩) (32 - (4 * i0)) (ck - (4 * i0)), W32 (fo K (4 * i0)), PT γ2_1 (4 + i0), .int .i64 ((i0 + 1 : Nat) : Int)]), rfl, ⟨H9.out.1, H9.out.2⟩, by omega⟩, by omega⟩
  have hi0N : i0 = 8 := by omega
  subst hi0N
  refine wp_seq ?_
  refine walk_seqB 1 [.quiet (.bool false)] H4 ?ho8 ?he8
  case ho8 => exact ak (by refine fun γ => ⟨rfl, fun w' h => ?_⟩; clear h; go_simp <;> omega) trivial
  intro _ w10 H10
  clear H4
  refine rest0 rfl (then_normal (wp_seq (wp_cond_false rfl ?_)))
  refine wp_exit ?_
  repeat refine then_exit ?_
  refine block_exit ?_
  refine then_normal (wp_seq ?_)
  refine walk_seqB 2 [.quiet (W32 c), .quiet (PT γ2_1 12)] H10 ?ho9 ?he9
  case ho9 => exact ak (fun _ => ⟨rfl, fun _ _ => rfl⟩) (ak (fun γ => ⟨rfl, fun w' _ => ex_ix0_50 (j := 12) rfl rfl rfl (by decide)⟩) trivial)
  intro _ w11 H11
  clear H10
  refine rest_at (l := [2]) rfl ?_
  refine rest_store rfl rfl rfl (ex_storeI H11.out.1 0 rfl rfl Try.sizeOf23 rfl rfl (by rw [ints_len]; decide)) ?_
  have H12 : Hid (Mm (w11.setCells γ2_1 12 ([W32 c])) [(γ2_1, ints .u32 (k3 K N c 0) 16), (γ1_0, ints .u32 (fun _ => 0) 16)] ∧ Below w.heap.size w (w11.setCells γ2_1 12 ([W32 c]))) := ⟨by
    have h := H11.out.1.put 0 (off := 12) (vs := [W32 c]) rfl (by rw [ints_len]; simp only [List.length_cons, List.length_nil]; decide)
    rw [ints_patch _ _ _ _ (by decide), show ints .u32 (up (k1 K 8) 12 c) 16 = ints .u32 (k3 K N c 0) 16 by rw [show (up (k1 K 8) 12 c) = k3 K N c 0 from rfl]] at h
    exact h, below_setCells _ o2_1.out _ _ _ H11.out.2⟩
  clear H11
  generalize hgw : World.setCells _ _ _ _ = w12 at H12 ⊢
  clear hgw
  refine rest_nil (then_normal ?_)
  refine wp_seq (wp_seq ?_)
  refine walk_seqB 1 [.quiet (.int .i64 0)] H12 ?ho10 ?he10
  case ho10 => exact ak (fun _ => ⟨rfl, fun _ _ => rfl⟩) trivial
  intro _ w13 H13
  clear H12
  refine rest0 rfl (then_normal (wp_block ?_))
  refine loop_ghost (α := Nat) (fun i1 a' w' => ∃ s2 : Nat → Value, a' = ⟨#[.slice (some ⟨gk, ok, none⟩) 32 ck, .slice (some ⟨gn, on, none⟩) 12 cn, W32 c, undef, undef, undef, PT γ1_0 0, PT γ2_1 0, s0 8, s2 9, .agg (ints .u32 kw 16).toArray, .int .i64 ((8 : Nat) : Int), .bool false, s0 13, s0 14, s0 15, s0 16, s0 17, s0 18, s0 19, s0 20, s0 21, s0 22, W32 c, PT γ2_1 12, .int .i64 ((i1 : Nat) : Int), s2 26, s2 27, s2 28, s2 29, s2 30, s2 31, s2 32, s2 33, s2 34, s2 35, s2 36, undef], []⟩ ∧ (Mm w' [(γ2_1, ints .u32 (k3 K N c i1) 16), (γ1_0, ints .u32 (fun _ => 0) 16)] ∧ Below w.heap.size w w') ∧ i1 ≤ 3) (fun i1 => 3 - i1) 0 ?st2 ?rd2
  case st2 => exact ⟨(slotfn [undef, undef, undef, undef, undef, undef, undef, undef, undef, undef, undef, undef, undef, undef, undef, undef, undef, undef, undef, undef, undef, undef, undef, undef, undef, undef, undef, undef, undef, undef, undef, undef, undef, undef, undef, undef, undef]), rfl, ⟨H13.out.1, H13.out.2⟩, by omega⟩
  intro i1 a' w14 hI
  obtain ⟨s2, rfl, hMB, hk2⟩ := hI
  have H14 : Hid (_ ∧ _) := hMB
  clear hMB H13
  by_cases hlti1 : i1 < 3
  · have hrd : True := trivial
    clear hrd
    refine wp_seq ?_
    refine walk_seqB 1 [.quiet (.bool true)] H14 ?ho11 ?he11
    case ho11 => exact ak (by refine fun γ => ⟨rfl, fun w' h => ?_⟩; clear h; go_simp <;> omega) trivial
    intro _ w15 H15
    clear H14
    refine rest0 rfl (then_normal (wp_seq ?_))
    refine wp_cond_true rfl (wp_skip ?_)
    refine then_normal (wp_seq ?_)
    refine wp_block (wp_seq ?_)
    refine walk_seqB 2 [.quiet (.int .i64 ((i1 : Nat) : Int)), .quiet (.int .i64 ((i1 : Nat) : Int))] H15 ?ho12 ?he12
    case ho12 => exact ak (fun _ => ⟨rfl, fun _ _ => rfl⟩) (ak (fun _ => ⟨rfl, fun _ _ => rfl⟩) trivial)
    intro _ w16 H16
    clear H15
    refine rest0 rfl (then_normal ?_)
    refine (walk_seq) 8 [.quiet (.int .i64 ((i1 : Nat) : Int)), .quiet (.int .i64 ((13 + i1 : Nat) : Int)), .quiet (.slice (some ⟨gn, on, none⟩) 12 cn), .quiet (.int .i64 ((i1 : Nat) : Int)), .quiet (.int .i64 ((4 * i1 : Nat) : Int)), .quiet (.slice (some ⟨gn, (on + (4 * i1)), none⟩) (12 - (4 * i1)) (cn - (4 * i1))), .call (W32 (fo N (4 * i1))), .quiet (PT γ2_1 (13 + i1))] (fun u' => Mm u' [(γ2_1, ints .u32 (k3 K N c i1) 16), (γ1_0, ints .u32 (fun _ => 0) 16)] ∧ (Rs gk ok 32 K u' ∧ Rs gn on 12 N u')) ?pre13 ?F13 ?hpre13 (fun γ => ?hF13) (by kernel_rfl) ?hL13 ?hS13 ?ho13 ?he13
    case hpre13 => simp only [tk, tz]; rfl
    case hF13 => simp only [fill, Kind.val, Act.put, sa, sz, ss]; rfl
    case hL13 => exact trivial
    case hS13 => exact fun w' hb => ⟨H16.out.1.below hb, ⟨RK.out.below (H16.out.2.trans (hb.mono H16.out.2.size)), RN.out.below (H16.out.2.trans (hb.mono H16.out.2.size))⟩⟩
    case ho13 =>
      refine ak (fun _ => ⟨rfl, fun _ _ => rfl⟩) ?_
      refine ak (by refine fun γ => ⟨rfl, fun w' h => ?_⟩; clear h; go_simp; rw [IntKind.wrap_i64]; omega) ?_
      refine ak (fun _ => ⟨rfl, fun _ _ => rfl⟩) ?_
      refine ak (fun _ => ⟨rfl, fun _ _ => rfl⟩) ?_
      refine ak (by refine fun γ => ⟨rfl, fun w' h => ?_⟩; clear h; go_simp; rw [IntKind.wrap_i64]; omega) ?_
      refine ak (fun γ => ⟨rfl, fun w' _ => ex_slT (l := 4 * i1) rfl rfl rfl (by omega) (by omega)⟩) ?_
      refine ak (fun γ => ⟨rfl, fun w' hX => ⟨45, #[.slice (some ⟨gn, (on + (4 * i1)), none⟩) (12 - (4 * i1)) (cn - (4 * i1))], exec_call rfl call45 rfl (mpn rfl), num32_at N gn on 12 cn (4 * i1) (by omega) w' hX.2.2⟩⟩) ?_
      refine ak (fun γ => ⟨rfl, fun w' _ => ex_ix0_50 (j := 13 + i1) rfl rfl rfl (by omega)⟩) ?_
      exact trivial
    intro γ w17 l hM hl
    have H17 := keepB H16 hM.below
    clear hM hl l H16 γ
    refine rest_at (l := [8]) rfl ?_
    refine rest_store rfl rfl rfl (ex_storeI H17.out.1 0 rfl rfl Try.sizeOf23 rfl rfl (by rw [ints_len]; omega)) ?_
    have H18 : Hid (Mm (w17.setCells γ2_1 (13 + i1) ([W32 (fo N (4 * i1))])) [(γ2_1, ints .u32 (up (k3 K N c i1) (13 + i1) (fo N (4 * i1))) 16), (γ1_0, ints .u32 (fun _ => 0) 16)] ∧ Below w.heap.size w (w17.setCells γ2_1 (13 + i1) ([W32 (fo N (4 * i1))]))) := ⟨by
      have h := H17.out.1.put 0 (off := 13 + i1) (vs := [W32 (fo N (4 * i1))]) rfl (by rw [ints_len]; simp only [List.length_cons, List.length_nil]; omega)
      rw [ints_patch _ _ _ _ (by omega)] at h
      exact h, below_setCells _ o2_1.out _ _ _ H17.out.2⟩
    clear H17
    generalize hgw : World.setCells _ _ _ _ = w18 at H18 ⊢
    clear hgw
    refine rest_nil (block_normal (then_normal ?_))
    refine walk_seqB 1 [.quiet (.int .i64 ((i1 + 1 : Nat) : Int))] H18 ?ho14 ?he14
    case ho14 => exact ak (by refine fun γ => ⟨rfl, fun w' h => ?_⟩; clear h; go_simp; rw [IntKind.wrap_i64]; omega) trivial
    intro _ w19 H19
    clear H18
    refine rest_at (l := [1]) rfl ?_
    refine rest_set (d := 25) rfl rfl rfl rfl ?_
    simp only [Act.put, sa, sz, ss]
    refine rest_nil (then_normal ?_)
    exact ⟨i1 + 1, ⟨(slotfn [undef, undef, undef, undef, undef, undef, undef, undef, undef, .int .i64 ((i1 : Nat) : Int), undef, undef, undef, undef, undef, undef, undef, undef, undef, undef, undef, undef, undef, undef, undef, undef, .bool true, .int .i64 ((i1 : Nat) : Int), .int .i64 ((i1 : Nat) : Int), .int .i64 ((13 + i1 : Nat) : Int), .slice (some ⟨gn, on, none⟩) 12 cn, .int .i64 ((i1 : Nat) : Int), .int .i64 ((4 * i1 : Nat) : Int), .slice (some ⟨gn, (on + (4 * i1)), none⟩) (12 - (4 * i1)) (cn - (4 * i1)), W32 (fo N (4 * i1)), PT γ2_1 (13 + i1), .int .i64 ((i1 + 1 : Nat) : Int)]), rfl, ⟨H19.out.1, H19.out.2⟩, by omega⟩, by omega⟩
  have hi1N : i1 = 3 := by omega
  subst hi1N
  refine wp_seq ?_
  refine walk_seqB 1 [.quiet (.bool false)] H14 ?ho15 ?he15
  case ho15 => exact ak (by refine fun γ => ⟨rfl, fun w' h => ?_⟩; clear h; go_simp <;> omega) trivial
  intro _ w20 H20
  clear H14
  refine rest0 rfl (then_normal (wp_seq (wp_cond_false rfl ?_)))
  refine wp_exit ?_
  repeat refine then_exit ?_
  refine block_exit ?_
  refine then_normal (wp_seq ?_)
  refine walk_seqB 1 [.quiet (.agg (ints .u32 (k3 K N c 3) 16).toArray)] H20 ?ho16 ?he16
  case ho16 => exact ak (fun γ => ⟨rfl, fun w' h => ex_loadT h 0 rfl rfl rfl Try.isAgg50 Try.sizeOf50 (ints_whole _ _ _) (ints_len _ _ _)⟩) trivial
  intro _ w21 H21
  clear H20
  refine rest_at (l := [1]) rfl ?_
  refine rest_store rfl rfl rfl (ex_storeT (vs := ints .u32 (k3 K N c 3) 16) H21.out.1 1 rfl rfl rfl rfl (by rw [ints_len]; exact Try.sizeOf50) (ints_all _ _ _) (by simp [ints_len])) ?_
  have H22 : Hid (Mm (w21.setCells γ1_0 0 (ints .u32 (k3 K N c 3) 16)) [(γ2_1, ints .u32 (k3 K N c 3) 16), (γ1_0, ints .u32 (k3 K N c 3) 16)] ∧ Below w.heap.size w (w21.setCells γ1_0 0 (ints .u32 (k3 K N c 3) 16))) := ⟨by
    have h := H21.out.1.put 1 (off := 0) (vs := ints .u32 (k3 K N c 3) 16) rfl (by simp [ints_len])
    rw [ints_patch0 _ _ _ _] at h
    exact h, below_setCells _ o1_0.out _ _ _ H21.out.2⟩
  clear H21
  generalize hgw : World.setCells _ _ _ _ = w22 at H22 ⊢
  clear hgw
  refine rest_nil (then_normal (wp_ret ?_))
  repeat (first | refine then_ret ?_ | refine block_ret ?_)
  have hf0 := var_T H22.out.1 1 rfl Try.isAgg50 Try.sizeOf50 (ints_len _ _ _)
  refine bodyPost_ret (v := .agg (ints .u32 (k3 K N c 3) 16).toArray) (by simp [results, Try.results28, asAddr, hf0]) rfl ?_
  exact ⟨rfl, H22.out.2⟩
/-- The sixteen numbers behind all rounds, the first ones added up to i. -/
def mxd (x : Nat → Nat) : Nat → Nat → Nat
  | 0 => rr x 10
  | i + 1 => up (mxd x i) i (ad (mxd x i i) (x i))
theorem mxd_ge (x : Nat → Nat) : ∀ i j, i ≤ j → mxd x i j = rr x 10 j
  | 0, _, _ => rfl
  | i + 1, j, h => by
    show up (mxd x i) i _ j = _
    unfold up
    rw [if_neg (by omega), mxd_ge x i j (by omega)]
theorem mxd_lt (x : Nat → Nat) : ∀ i j, j < i → mxd x i j = ad (rr x 10 j) (x j)
  | 0, _, h => absurd h (by omega)
  | i + 1, j, h => by
    show up (mxd x i) i _ j = _
    unfold up
    by_cases e : j = i
    · subst e
      rw [if_pos rfl, mxd_ge x j j (Nat.le_refl _)]
    · rw [if_neg e, mxd_lt x i j (by omega)]
/-- The bytes of the block that begins with these numbers. -/
def bs (x : Nat → Nat) : Nat → Nat := by4 (fun i => ad (rr x 10 i) (x i))
set_option maxHeartbeats 2000000 in
set_option maxRecDepth 100000 in
theorem mixed_any (x : Nat → Nat) (w : World) :
    Calls Try.prog 46 #[.agg (ints .u32 x 16).toArray] w fun e w' => e = .returned (.agg (ints .u32 (fun i => ad (rr x 10 i) (x i)) 16).toArray) ∧ Below w.heap.size w w' := by
  have H0 : Hid (_ ∧ _) := ⟨Mm.nil w, Below.refl w.heap.size w⟩
  go_enter Try.func46, Try.ntmps46
  refine wp_seq ?_
  refine walk_seqA 2 [.made (ints .u32 x 16) 50, .made (ints .u32 (fun _ => 0) 16) 50] (sB H0) ?ho1 ?he1
  case ho1 => exact ak (fun γ => ⟨rfl, fun w' => ex_boxT rfl rfl⟩) (ak (fun γ => ⟨rfl, fun w' => ex_mk50 rfl⟩) trivial)
  intro γ w1 l hM hl
  have H1 : Hid (Mm w1 [(γ 0, ints .u32 x 16), (γ 1, ints .u32 (fun _ => 0) 16)] ∧ _) := growB H0 hM (Nat.le_refl _) hl [0, 1] rfl (by decide)
  have o1_0 := ownB H0 hM (Nat.le_refl _) hl (i := 0) rfl
  have o1_1 := ownB H0 hM (Nat.le_refl _) hl (i := 1) rfl
  clear hM hl l
  generalize γ 0 = γ1_0 at H1 o1_0 ⊢
  generalize γ 1 = γ1_1 at H1 o1_1 ⊢
  clear γ
  refine rest0 rfl (then_normal (wp_seq ?_))
  refine walk_seqA 3 [.quiet (.agg (ints .u32 x 16).toArray), .made (ints .u32 (fun _ => 0) 16) 50, .laid 1 (ints .u32 (fun _ => 0) 16) (ints .u32 x 16)] (sB H1) ?ho2 ?he2 (hL := ?hL2)
  case hL2 => exact ⟨⟨_, rfl⟩, trivial⟩
  case ho2 => exact ak (fun γ => ⟨rfl, fun w' h => ex_loadT h 0 rfl rfl rfl Try.isAgg50 Try.sizeOf50 (ints_whole _ _ _) (ints_len _ _ _)⟩) (ak (fun γ => ⟨rfl, fun w' => ex_mk50 rfl⟩) (ak (fun γ => ⟨rfl, rfl, (ints_len _ _ _).trans (ints_len _ _ _).symm, fun w' h => ex_laidI h Try.sizeOf50 rfl rfl rfl⟩) trivial))
  intro γ w2 l hM hl
  have H2 : Hid (Mm w2 [(γ 1, ints .u32 x 16), (γ1_0, ints .u32 x 16), (γ1_1, ints .u32 (fun _ => 0) 16)] ∧ _) := growB H1 hM (Nat.le_refl _) hl [1] rfl (by decide)
  have o2_1 := ownB H1 hM (Nat.le_refl _) hl (i := 1) rfl
  clear hM hl l H1
  generalize γ 1 = γ2_1 at H2 o2_1 ⊢
  clear γ
  refine rest0 rfl (then_normal (wp_seq (wp_seq ?_)))
  refine walk_seqB 1 [.quiet (.int .i64 0)] H2 ?ho3 ?he3
  case ho3 => exact ak (fun _ => ⟨rfl, fun _ _ => rfl⟩) trivial
  intro _ w3 H3
  clear H2
  refine rest0 rfl (then_normal (wp_block ?_))
  refine loop_ghost (α := Nat) (fun i a' w' => ∃ s0 : Nat → Value, a' = ⟨#[.agg (ints .u32 x 16).toArray, PT γ1_0 0, PT γ1_1 0, PT γ2_1 0, undef, .agg (ints .u32 x 16).toArray, .int .i64 ((i : Nat) : Int), s0 7, s0 8, s0 9, s0 10, s0 11, s0 12, s0 13, s0 14, s0 15, s0 16, s0 17, s0 18, s0 19, s0 20, s0 21, s0 22, s0 23, s0 24, s0 25, s0 26, s0 27, s0 28, s0 29, s0 30, s0 31, s0 32, s0 33, s0 34, s0 35, s0 36, s0 37, s0 38, s0 39, s0 40, s0 41, s0 42, s0 43, s0 44, s0 45, s0 46, s0 47, s0 48, undef, undef, undef, undef, undef, undef, undef, undef, undef, undef, undef, undef, undef], []⟩ ∧ (Mm w' [(γ2_1, ints .u32 (rr x i) 16), (γ1_0, ints .u32 x 16), (γ1_1, ints .u32 (fun _ => 0) 16)] ∧ Below w.heap.size w w') ∧ i ≤ 10) (fun i => 10 - i) 0 ?st0 ?rd0
  case st0 => exact ⟨(slotfn [undef, undef, undef, undef, undef, undef, undef, undef, undef, undef, undef, undef, undef, undef, undef, undef, undef, undef, undef, undef, undef, undef, undef, undef, undef, undef, undef, undef, undef, undef, undef, undef, undef, undef, undef, undef, undef, undef, undef, undef, undef, undef, undef, undef, undef, undef, undef, undef, undef]), rfl, ⟨H3.out.1, H3.out.2⟩, by omega⟩
  intro i a' w4 hI
  obtain ⟨s0, rfl, hMB, hk0⟩ := hI
  have H4 : Hid (_ ∧ _) := hMB
  clear hMB H3
  by_cases hlti : i < 10
  · have hrd : True := trivial
    clear hrd
    refine wp_seq ?_
    refine walk_seqB 1 [.quiet (.bool true)] H4 ?ho4 ?he4
    case ho4 => exact ak (by refine fun γ => ⟨rfl, fun w' h => ?_⟩; clear h; go_simp <;> omega) trivial
    intro _ w5 H5
    clear H4
    refine rest0 rfl (then_normal (wp_seq ?_))
    refine wp_cond_true rfl (wp_skip ?_)
    refine then_normal (wp_seq ?_)
    refine wp_block (wp_seq ?_)
    refine walk_seqB 4 [.quiet (PT γ2_1 0), .quiet (PT γ2_1 4), .quiet (PT γ2_1 8), .quiet (PT γ2_1 12)] H5 ?ho5 ?he5
    case ho5 => exact ak (fun γ => ⟨rfl, fun w' _ => ex_ix0_50 (j := 0) rfl rfl rfl (by decide)⟩) (ak (fun γ => ⟨rfl, fun w' _ => ex_ix0_50 (j := 4) rfl rfl rfl (by decide)⟩) (ak (fun γ => ⟨rfl, fun w' _ => ex_ix0_50 (j := 8) rfl rfl rfl (by decide)⟩) (ak (fun γ => ⟨rfl, fun w' _ => ex_ix0_50 (j := 12) rfl rfl rfl (by decide)⟩) trivial)))
    intro _ w6 H6
    clear H5
    refine rest_at (l := [4]) rfl ?_
    refine rest_enter (d := 12) (R := fun vv w' => vv = .tuple #[] ∧ Mm w' [(γ2_1, ints .u32 (qr (rr x i) 0 4 8 12) 16)] ∧ Kp γ2_1 w6 w') rfl rfl rfl (exec_call (args := #[PT γ2_1 0, PT γ2_1 4, PT γ2_1 8, PT γ2_1 12]) rfl call57 rfl (mpn rfl)) (Calls.mono (quart_any (rr x i) γ2_1 0 4 8 12 (by decide) (by decide) (by decide) (by decide) w6 (H6.out.1.one 0 rfl)) (fun e w2 hh => ⟨_, hh.1, rfl, hh.2⟩)) ?_
    rintro _ w7 ⟨rfl, hn, hp⟩
    have H7 : Hid (Mm w7 [(γ2_1, ints .u32 (qr (rr x i) 0 4 8 12) 16), (γ1_0, ints .u32 x 16), (γ1_1, ints .u32 (fun _ => 0) 16)] ∧ Below w.heap.size w w7) := ⟨H6.out.1.change 0 rfl hp hn, Below.kp H6.out.2 hp o2_1.out H6.out.2.size⟩
    clear hn hp H6
    simp only [Act.put, sa, sz, ss]
    refine rest_nil (then_normal (wp_seq ?_))
    refine walk_seqB 4 [.quiet (PT γ2_1 1), .quiet (PT γ2_1 5), .quiet (PT γ2_1 9), .quiet (PT γ2_1 13)] H7 ?ho6 ?he6
    case ho6 => exact ak (fun γ => ⟨rfl, fun w' _ => ex_ix0_50 (j := 1) rfl rfl rfl (by decide)⟩) (ak (fun γ => ⟨rfl, fun w' _ => ex_ix0_50 (j := 5) rfl rfl rfl (by decide)⟩) (ak (fun γ => ⟨rfl, fun w' _ => ex_ix0_50 (j := 9) rfl rfl rfl (by decide)⟩) (ak (fun γ => ⟨rfl, fun w' _ => ex_ix0_50 (j := 13) rfl rfl rfl (by decide)⟩) trivial)))
    intro _ w8 H8
    clear H7
    refine rest_at (l := [4]) rfl ?_
    refine rest_enter (d := 17) (R := fun vv w' => vv = .tuple #[] ∧ Mm w' [(γ2_1, ints .u32 (qr (qr (rr x i) 0 4 8 12) 1 5 9 13) 16)] ∧ Kp γ2_1 w8 w') rfl rfl rfl (exec_call (args := #[PT γ2_1 1, PT γ2_1 5, PT γ2_1 9, PT γ2_1 13]) rfl call57 rfl (mpn rfl)) (Calls.mono (quart_any (qr (rr x i) 0 4 8 12) γ2_1 1 5 9 13 (by decide) (by decide) (by decide) (by decide) w8 (H8.out.1.one 0 rfl)) (fun e w2 hh => ⟨_, hh.1, rfl, hh.2⟩)) ?_
    rintro _ w9 ⟨rfl, hn, hp⟩
    have H9 : Hid (Mm w9 [(γ2_1, ints .u32 (qr (qr (rr x i) 0 4 8 12) 1 5 9 13) 16), (γ1_0, ints .u32 x 16), (γ1_1, ints .u32 (fun _ => 0) 16)] ∧ Below w.heap.size w w9) := ⟨H8.out.1.change 0 rfl hp hn, Below.kp H8.out.2 hp o2_1.out H8.out.2.size⟩
    clear hn hp H8
    simp only [Act.put, sa, sz, ss]
    refine rest_nil (then_normal (wp_seq ?_))
    refine walk_seqB 4 [.quiet (PT γ2_1 2), .quiet (PT γ2_1 6), .quiet (PT γ2_1 10), .quiet (PT γ2_1 14)] H9 ?ho7 ?he7
    case ho7 => exact ak (fun γ => ⟨rfl, fun w' _ => ex_ix0_50 (j := 2) rfl rfl rfl (by decide)⟩) (ak (fun γ => ⟨rfl, fun w' _ => ex_ix0_50 (j := 6) rfl rfl rfl (by decide)⟩) (ak (fun γ => ⟨rfl, fun w' _ => ex_ix0_50 (j := 10) rfl rfl rfl (by decide)⟩) (ak (fun γ => ⟨rfl, fun w' _ => ex_ix0_50 (j := 14) rfl rfl rfl (by decide)⟩) trivial)))
    intro _ w10 H10
    clear H9
    refine rest_at (l := [4]) rfl ?_
    refine rest_enter (d := 22) (R := fun vv w' => vv = .tuple #[] ∧ Mm w' [(γ2_1, ints .u32 (qr (qr (qr (rr x i) 0 4 8 12) 1 5 9 13) 2 6 10 14) 16)] ∧ Kp γ2_1 w10 w') rfl rfl rfl (exec_call (args := #[PT γ2_1 2, PT γ2_1 6, PT γ2_1 10, PT γ2_1 14]) rfl call57 rfl (mpn rfl)) (Calls.mono (quart_any (qr (qr (rr x i) 0 4 8 12) 1 5 9 13) γ2_1 2 6 10 14 (by decide) (by decide) (by decide) (by decide) w10 (H10.out.1.one 0 rfl)) (fun e w2 hh => ⟨_, hh.1, rfl, hh.2⟩)) ?_
    rintro _ w11 ⟨rfl, hn, hp⟩
    have H11 : Hid (Mm w11 [(γ2_1, ints .u32 (qr (qr (qr (rr x i) 0 4 8 12) 1 5 9 13) 2 6 10 14) 16), (γ1_0, ints .u32 x 16), (γ1_1, ints .u32 (fun _ => 0) 16)] ∧ Below w.heap.size w w11) := ⟨H10.out.1.change 0 rfl hp hn, Below.kp H10.out.2 hp o2_1.out H10.out.2.size⟩
    clear hn hp H10
    simp only [Act.put, sa, sz, ss]
    refine rest_nil (then_normal (wp_seq ?_))
    refine walk_seqB 4 [.quiet (PT γ2_1 3), .quiet (PT γ2_1 7), .quiet (PT γ2_1 11), .quiet (PT γ2_1 15)] H11 ?ho8 ?he8
    case ho8 => exact ak (fun γ => ⟨rfl, fun w' _ => ex_ix0_50 (j := 3) rfl rfl rfl (by decide)⟩) (ak (fun γ => ⟨rfl, fun w' _ => ex_ix0_50 (j := 7) rfl rfl rfl (by decide)⟩) (ak (fun γ => ⟨rfl, fun w' _ => ex_ix0_50 (j := 11) rfl rfl rfl (by decide)⟩) (ak (fun γ => ⟨rfl, fun w' _ => ex_ix0_50 (j := 15) rfl rfl rfl (by decide)⟩) trivial)))
    intro _ w12 H12
    clear H11
    refine rest_at (l := [4]) rfl ?_
    refine rest_enter (d := 27) (R := fun vv w' => vv = .tuple #[] ∧ Mm w' [(γ2_1, ints .u32 (qr (qr (qr (qr (rr x i) 0 4 8 12) 1 5 9 13) 2 6 10 14) 3 7 11 15) 16)] ∧ Kp γ2_1 w12 w') rfl rfl rfl (exec_call (args := #[PT γ2_1 3, PT γ2_1 7, PT γ2_1 11, PT γ2_1 15]) rfl call57 rfl (mpn rfl)) (Calls.mono (quart_any (qr (qr (qr (rr x i) 0 4 8 12) 1 5 9 13) 2 6 10 14) γ2_1 3 7 11 15 (by decide) (by decide) (by decide) (by decide) w12 (H12.out.1.one 0 rfl)) (fun e w2 hh => ⟨_, hh.1, rfl, hh.2⟩)) ?_
    rintro _ w13 ⟨rfl, hn, hp⟩
    have H13 : Hid (Mm w13 [(γ2_1, ints .u32 (qr (qr (qr (qr (rr x i) 0 4 8 12) 1 5 9 13) 2 6 10 14) 3 7 11 15) 16), (γ1_0, ints .u32 x 16), (γ1_1, ints .u32 (fun _ => 0) 16)] ∧ Below w.heap.size w w13) := ⟨H12.out.1.change 0 rfl hp hn, Below.kp H12.out.2 hp o2_1.out H12.out.2.size⟩
    clear hn hp H12
    simp only [Act.put, sa, sz, ss]
    refine rest_nil (then_normal (wp_seq ?_))
    refine walk_seqB 4 [.quiet (PT γ2_1 0), .quiet (PT γ2_1 5), .quiet (PT γ2_1 10), .quiet (PT γ2_1 15)] H13 ?ho9 ?he9
    case ho9 => exact ak (fun γ => ⟨rfl, fun w' _ => ex_ix0_50 (j := 0) rfl rfl rfl (by decide)⟩) (ak (fun γ => ⟨rfl, fun w' _ => ex_ix0_50 (j := 5) rfl rfl rfl (by decide)⟩) (ak (fun γ => ⟨rfl, fun w' _ => ex_ix0_50 (j := 10) rfl rfl rfl (by decide)⟩) (ak (fun γ => ⟨rfl, fun w' _ => ex_ix0_50 (j := 15) rfl rfl rfl (by decide)⟩) trivial)))
    intro _ w14 H14
    clear H13
    refine rest_at (l := [4]) rfl ?_
    refine rest_enter (d := 32) (R := fun vv w' => vv = .tuple #[] ∧ Mm w' [(γ2_1, ints .u32 (qr (qr (qr (qr (qr (rr x i) 0 4 8 12) 1 5 9 13) 2 6 10 14) 3 7 11 15) 0 5 10 15) 16)] ∧ Kp γ2_1 w14 w') rfl rfl rfl (exec_call (args := #[PT γ2_1 0, PT γ2_1 5, PT γ2_1 10, PT γ2_1 15]) rfl call57 rfl (mpn rfl)) (Calls.mono (quart_any (qr (qr (qr (qr (rr x i) 0 4 8 12) 1 5 9 13) 2 6 10 14) 3 7 11 15) γ2_1 0 5 10 15 (by decide) (by decide) (by decide) (by decide) w14 (H14.out.1.one 0 rfl)) (fun e w2 hh => ⟨_, hh.1, rfl, hh.2⟩)) ?_
    rintro _ w15 ⟨rfl, hn, hp⟩
    have H15 : Hid (Mm w15 [(γ2_1, ints .u32 (qr (qr (qr (qr (qr (rr x i) 0 4 8 12) 1 5 9 13) 2 6 10 14) 3 7 11 15) 0 5 10 15) 16), (γ1_0, ints .u32 x 16), (γ1_1, ints .u32 (fun _ => 0) 16)] ∧ Below w.heap.size w w15) := ⟨H14.out.1.change 0 rfl hp hn, Below.kp H14.out.2 hp o2_1.out H14.out.2.size⟩
    clear hn hp H14
    simp only [Act.put, sa, sz, ss]
    refine rest_nil (then_normal (wp_seq ?_))
    refine walk_seqB 4 [.quiet (PT γ2_1 1), .quiet (PT γ2_1 6), .quiet (PT γ2_1 11), .quiet (PT γ2_1 12)] H15 ?ho10 ?he10
    case ho10 => exact ak (fun γ => ⟨rfl, fun w' _ => ex_ix0_50 (j := 1) rfl rfl rfl (by decide)⟩) (ak (fun γ => ⟨rfl, fun w' _ => ex_ix0_50 (j := 6) rfl rfl rfl (by decide)⟩) (ak (fun γ => ⟨rfl, fun w' _ => ex_ix0_50 (j := 11) rfl rfl rfl (by decide)⟩) (ak (fun γ => ⟨rfl, fun w' _ => ex_ix0_50 (j := 12) rfl rfl rfl (by decide)⟩) trivial)))
    intro _ w16 H16
    clear H15
    refine rest_at (l := [4]) rfl ?_
    refine rest_enter (d := 37) (R := fun vv w' => vv = .tuple #[] ∧ Mm w' [(γ2_1, ints .u32 (qr (qr (qr (qr (qr (qr (rr x i) 0 4 8 12) 1 5 9 13) 2 6 10 14) 3 7 11 15) 0 5 10 15) 1 6 11 12) 16)] ∧ Kp γ2_1 w16 w') rfl rfl rfl (exec_call (args := #[PT γ2_1 1, PT γ2_1 6, PT γ2_1 11, PT γ2_1 12]) rfl call57 rfl (mpn rfl)) (Calls.mono (quart_any (qr (qr (qr (qr (qr (rr x i) 0 4 8 12) 1 5 9 13) 2 6 10 14) 3 7 11 15) 0 5 10 15) γ2_1 1 6 11 12 (by decide) (by decide) (by decide) (by decide) w16 (H16.out.1.one 0 rfl)) (fun e w2 hh => ⟨_, hh.1, rfl, hh.2⟩)) ?_
    rintro _ w17 ⟨rfl, hn, hp⟩
    have H17 : Hid (Mm w17 [(γ2_1, ints .u32 (qr (qr (qr (qr (qr (qr (rr x i) 0 4 8 12) 1 5 9 13) 2 6 10 14) 3 7 11 15) 0 5 10 15) 1 6 11 12) 16), (γ1_0, ints .u32 x 16), (γ1_1, ints .u32 (fun _ => 0) 16)] ∧ Below w.heap.size w w17) := ⟨H16.out.1.change 0 rfl hp hn, Below.kp H16.out.2 hp o2_1.out H16.out.2.size⟩
    clear hn hp H16
    simp only [Act.put, sa, sz, ss]
    refine rest_nil (then_normal (wp_seq ?_))
    refine walk_seqB 4 [.quiet (PT γ2_1 2), .quiet (PT γ2_1 7), .quiet (PT γ2_1 8), .quiet (PT γ2_1 13)] H17 ?ho11 ?he11
    case ho11 => exact ak (fun γ => ⟨rfl, fun w' _ => ex_ix0_50 (j := 2) rfl rfl rfl (by decide)⟩) (ak (fun γ => ⟨rfl, fun w' _ => ex_ix0_50 (j := 7) rfl rfl rfl (by decide)⟩) (ak (fun γ => ⟨rfl, fun w' _ => ex_ix0_50 (j := 8) rfl rfl rfl (by decide)⟩) (ak (fun γ => ⟨rfl, fun w' _ => ex_ix0_50 (j := 13) rfl rfl rfl (by decide)⟩) trivial)))
    intro _ w18 H18
    clear H17
    refine rest_at (l := [4]) rfl ?_
    refine rest_enter (d := 42) (R := fun vv w' => vv = .tuple #[] ∧ Mm w' [(γ2_1, ints .u32 (qr (qr (qr (qr (qr (qr (qr (rr x i) 0 4 8 12) 1 5 9 13) 2 6 10 14) 3 7 11 15) 0 5 10 15) 1 6 11 12) 2 7 8 13) 16)] ∧ Kp γ2_1 w18 w') rfl rfl rfl (exec_call (args := #[PT γ2_1 2, PT γ2_1 7, PT γ2_1 8, PT γ2_1 13]) rfl call57 rfl (mpn rfl)) (Calls.mono (quart_any (qr (qr (qr (qr (qr (qr (rr x i) 0 4 8 12) 1 5 9 13) 2 6 10 14) 3 7 11 15) 0 5 10 15) 1 6 11 12) γ2_1 2 7 8 13 (by decide) (by decide) (by decide) (by decide) w18 (H18.out.1.one 0 rfl)) (fun e w2 hh => ⟨_, hh.1, rfl, hh.2⟩)) ?_
    rintro _ w19 ⟨rfl, hn, hp⟩
    have H19 : Hid (Mm w19 [(γ2_1, ints .u32 (qr (qr (qr (qr (qr (qr (qr (rr x i) 0 4 8 12) 1 5 9 13) 2 6 10 14) 3 7 11 15) 0 5 10 15) 1 6 11 12) 2 7 8 13) 16), (γ1_0, ints .u32 x 16), (γ1_1, ints .u32 (fun _ => 0) 16)] ∧ Below w.heap.size w w19) := ⟨H18.out.1.change 0 rfl hp hn, Below.kp H18.out.2 hp o2_1.out H18.out.2.size⟩
    clear hn hp H18
    simp only [Act.put, sa, sz, ss]
    refine rest_nil (then_normal ?_)
    refine walk_seqB 4 [.quiet (PT γ2_1 3), .quiet (PT γ2_1 4), .quiet (PT γ2_1 9), .quiet (PT γ2_1 14)] H19 ?ho12 ?he12
    case ho12 => exact ak (fun γ => ⟨rfl, fun w' _ => ex_ix0_50 (j := 3) rfl rfl rfl (by decide)⟩) (ak (fun γ => ⟨rfl, fun w' _ => ex_ix0_50 (j := 4) rfl rfl rfl (by decide)⟩) (ak (fun γ => ⟨rfl, fun w' _ => ex_ix0_50 (j := 9) rfl rfl rfl (by decide)⟩) (ak (fun γ => ⟨rfl, fun w' _ => ex_ix0_50 (j := 14) rfl rfl rfl (by decide)⟩) trivial)))
    intro _ w20 H20
    clear H19
    refine rest_at (l := [4]) rfl ?_
    refine rest_enter (d := 47) (R := fun vv w' => vv = .tuple #[] ∧ Mm w' [(γ2_1, ints .u32 (qr (qr (qr (qr (qr (qr (qr (qr (rr x i) 0 4 8 12) 1 5 9 13) 2 6 10 14) 3 7 11 15) 0 5 10 15) 1 6 11 12) 2 7 8 13) 3 4 9 14) 16)] ∧ Kp γ2_1 w20 w') rfl rfl rfl (exec_call (args := #[PT γ2_1 3, PT γ2_1 4, PT γ2_1 9, PT γ2_1 14]) rfl call57 rfl (mpn rfl)) (Calls.mono (quart_any (qr (qr (qr (qr (qr (qr (qr (rr x i) 0 4 8 12) 1 5 9 13) 2 6 10 14) 3 7 11 15) 0 5 10 15) 1 6 11 12) 2 7 8 13) γ2_1 3 4 9 14 (by decide) (by decide) (by decide) (by decide) w20 (H20.out.1.one 0 rfl)) (fun e w2 hh => ⟨_, hh.1, rfl, hh.2⟩)) ?_
    rintro _ w21 ⟨rfl, hn, hp⟩
    have H21 : Hid (Mm w21 [(γ2_1, ints .u32 (qr (qr (qr (qr (qr (qr (qr (qr (rr x i) 0 4 8 12) 1 5 9 13) 2 6 10 14) 3 7 11 15) 0 5 10 15) 1 6 11 12) 2 7 8 13) 3 4 9 14) 16), (γ1_0, ints .u32 x 16), (γ1_1, ints .u32 (fun _ => 0) 16)] ∧ Below w.heap.size w w21) := ⟨H20.out.1.change 0 rfl hp hn, Below.kp H20.out.2 hp o2_1.out H20.out.2.size⟩
    clear hn hp H20
    simp only [Act.put, sa, sz, ss]
    refine rest_nil (block_normal (then_normal ?_))
    refine walk_seqB 1 [.quiet (.int .i64 ((i + 1 : Nat) : Int))] H21 ?ho13 ?he13
    case ho13 => exact ak (by refine fun γ => ⟨rfl, fun w' h => ?_⟩; clear h; go_simp; rw [IntKind.wrap_i64]; omega) trivial
    intro _ w22 H22
    clear H21
    refine rest_at (l := [1]) rfl ?_
    refine rest_set (d := 6) rfl rfl rfl rfl ?_
    simp only [Act.put, sa, sz, ss]
    refine rest_nil (then_normal ?_)
    exact ⟨i + 1, ⟨(slotfn [undef, undef, undef, undef, undef, undef, undef, .bool true, PT γ2_1 0, PT γ2_1 4, PT γ2_1 8, PT γ2_1 12, .tuple #[], PT γ2_1 1, PT γ2_1 5, PT γ2_1 9, PT γ2_1 13, .tuple #[], PT γ2_1 2, PT γ2_1 6, PT γ2_1 10, PT γ2_1 14, .tuple #[], PT γ2_1 3, PT γ2_1 7, PT γ2_1 11, PT γ2_1 15, .tuple #[], PT γ2_1 0, PT γ2_1 5, PT γ2_1 10, PT γ2_1 15, .tuple #[], PT γ2_1 1, PT γ2_1 6, PT γ2_1 11, PT γ2_1 12, .tuple #[], PT γ2_1 2, PT γ2_1 7, PT γ2_1 8, PT γ2_1 13, .tuple #[], PT γ2_1 3, PT γ2_1 4, PT γ2_1 9, PT γ2_1 14, .tuple #[], .int .i64 ((i + 1 : Nat) : Int)]), rfl, ⟨H22.out.1, H22.out.2⟩, by omega⟩, by omega⟩
  have hiN : i = 10 := by omega
  subst hiN
  refine wp_seq ?_
  refine walk_seqB 1 [.quiet (.bool false)] H4 ?ho14 ?he14
  case ho14 => exact ak (by refine fun γ => ⟨rfl, fun w' h => ?_⟩; clear h; go_simp <;> omega) trivial
  intro _ w23 H23
  clear H4
  refine rest0 rfl (then_normal (wp_seq (wp_cond_false rfl ?_)))
  refine wp_exit ?_
  repeat refine then_exit ?_
  refine block_exit ?_
  refine then_normal (wp_seq (wp_seq ?_))
  refine walk_seqB 1 [.quiet (.int .i64 0)] H23 ?ho15 ?he15
  case ho15 => exact ak (fun _ => ⟨rfl, fun _ _ => rfl⟩) trivial
  intro _ w24 H24
  clear H23
  refine rest0 rfl (then_normal (wp_block ?_))
  refine loop_ghost (α := Nat) (fun j a' w' => ∃ s2 : Nat → Value, a' = ⟨#[.agg (ints .u32 x 16).toArray, PT γ1_0 0, PT γ1_1 0, PT γ2_1 0, s2 4, .agg (ints .u32 x 16).toArray, .int .i64 ((10 : Nat) : Int), .bool false, s0 8, s0 9, s0 10, s0 11, s0 12, s0 13, s0 14, s0 15, s0 16, s0 17, s0 18, s0 19, s0 20, s0 21, s0 22, s0 23, s0 24, s0 25, s0 26, s0 27, s0 28, s0 29, s0 30, s0 31, s0 32, s0 33, s0 34, s0 35, s0 36, s0 37, s0 38, s0 39, s0 40, s0 41, s0 42, s0 43, s0 44, s0 45, s0 46, s0 47, s0 48, .int .i64 ((j : Nat) : Int), s2 50, s2 51, s2 52, s2 53, s2 54, s2 55, s2 56, s2 57, s2 58, s2 59, s2 60, undef], []⟩ ∧ (Mm w' [(γ2_1, ints .u32 (mxd x j) 16), (γ1_0, ints .u32 x 16), (γ1_1, ints .u32 (fun _ => 0) 16)] ∧ Below w.heap.size w w') ∧ j ≤ 16) (fun j => 16 - j) 0 ?st2 ?rd2
  case st2 => exact ⟨(slotfn [undef, undef, undef, undef, undef, undef, undef, undef, undef, undef, undef, undef, undef, undef, undef, undef, undef, undef, undef, undef, undef, undef, undef, undef, undef, undef, undef, undef, undef, undef, undef, undef, undef, undef, undef, undef, undef, undef, undef, undef, undef, undef, undef, undef, undef, undef, undef, undef, undef, undef, undef, undef, undef, undef, undef, undef, undef, undef, undef, undef, undef]), rfl, ⟨H24.out.1, H24.out.2⟩, by omega⟩
  intro j a' w25 hI
  obtain ⟨s2, rfl, hMB, hk2⟩ := hI
  have H25 : Hid (_ ∧ _) := hMB
  clear hMB H24
  by_cases hltj : j < 16
  · have hrd : True := trivial
    clear hrd
    refine wp_seq ?_
    refine walk_seqB 1 [.quiet (.bool true)] H25 ?ho16 ?he16
    case ho16 => exact ak (by refine fun γ => ⟨rfl, fun w' h => ?_⟩; clear h; go_simp <;> omega) trivial
    intro _ w26 H26
    clear H25
    refine rest0 rfl (then_normal (wp_seq ?_))
    refine wp_cond_true rfl (wp_skip ?_)
    refine then_normal (wp_seq ?_)
    refine wp_block (wp_seq ?_)
    refine walk_seqB 2 [.quiet (.int .i64 ((j : Nat) : Int)), .quiet (.int .i64 ((j : Nat) : Int))] H26 ?ho17 ?he17
    case ho17 => exact ak (fun _ => ⟨rfl, fun _ _ => rfl⟩) (ak (fun _ => ⟨rfl, fun _ _ => rfl⟩) trivial)
    intro _ w27 H27
    clear H26
    refine rest0 rfl (then_normal ?_)
    refine walk_anyB 8 [.quiet (.int .i64 ((j : Nat) : Int)), .quiet (PT γ2_1 j), .quiet (W32 ((mxd x j) j)), .quiet (.int .i64 ((j : Nat) : Int)), .quiet (PT γ1_0 j), .quiet (W32 (x j)), .quiet (W32 (ad ((mxd x j) j) (x j))), .quiet (PT γ2_1 j)] H27 ?ho18 ?he18
    case ho18 => exact ak (fun _ => ⟨rfl, fun _ _ => rfl⟩) (ak (fun γ => ⟨rfl, fun w' _ => ex_ix0_50 (j := j) rfl rfl rfl (by omega)⟩) (ak (fun γ => ⟨rfl, fun w' h => ex_loadC h 0 rfl rfl rfl Try.isAgg23 (ints_get _ _ (by omega))⟩) (ak (fun _ => ⟨rfl, fun _ _ => rfl⟩) (ak (fun γ => ⟨rfl, fun w' _ => ex_ix0_50 (j := j) rfl rfl rfl (by omega)⟩) (ak (fun γ => ⟨rfl, fun w' h => ex_loadC h 1 rfl rfl rfl Try.isAgg23 (ints_get _ _ (by omega))⟩) (ak (fun γ => ⟨rfl, fun w' _ => ex_add32 rfl rfl rfl⟩) (ak (fun γ => ⟨rfl, fun w' _ => ex_ix0_50 (j := j) rfl rfl rfl (by omega)⟩) trivial)))))))
    intro _ w28 H28
    clear H27
    refine rest_at (l := [8]) rfl ?_
    refine rest_store rfl rfl rfl (ex_storeI H28.out.1 0 rfl rfl Try.sizeOf23 rfl rfl (by rw [ints_len]; omega)) ?_
    have H29 : Hid (Mm (w28.setCells γ2_1 j ([W32 (ad ((mxd x j) j) (x j))])) [(γ2_1, ints .u32 (up (mxd x j) j (ad ((mxd x j) j) (x j))) 16), (γ1_0, ints .u32 x 16), (γ1_1, ints .u32 (fun _ => 0) 16)] ∧ Below w.heap.size w (w28.setCells γ2_1 j ([W32 (ad ((mxd x j) j) (x j))]))) := ⟨by
      have h := H28.out.1.put 0 (off := j) (vs := [W32 (ad ((mxd x j) j) (x j))]) rfl (by rw [ints_len]; simp only [List.length_cons, List.length_nil]; omega)
      rw [ints_patch _ _ _ _ (by omega)] at h
      exact h, below_setCells _ o2_1.out _ _ _ H28.out.2⟩
    clear H28
    generalize hgw : World.setCells _ _ _ _ = w29 at H29 ⊢
    clear hgw
    refine rest_nil (block_normal (then_normal ?_))
    refine walk_seqB 1 [.quiet (.int .i64 ((j + 1 : Nat) : Int))] H29 ?ho19 ?he19
    case ho19 => exact ak (by refine fun γ => ⟨rfl, fun w' h => ?_⟩; clear h; go_simp; rw [IntKind.wrap_i64]; omega) trivial
    intro _ w30 H30
    clear H29
    refine rest_at (l := [1]) rfl ?_
    refine rest_set (d := 49) rfl rfl rfl rfl ?_
    simp only [Act.put, sa, sz, ss]
    refine rest_nil (then_normal ?_)
    exact ⟨j + 1, ⟨(slotfn [undef, undef, undef, undef, .int .i64 ((j : Nat) : Int), undef, undef, undef, undef, undef, undef, undef, undef, undef, undef, undef, undef, undef, undef, undef, undef, undef, undef, undef, undef, undef, undef, undef, undef, undef, undef, undef, undef, undef, undef, undef, undef, undef, undef, undef, undef, undef, undef, undef, undef, undef, undef, undef, undef, undef, .bool true, .int .i64 ((j : Nat) : Int), .int .i64 ((j : Nat) : Int), PT γ2_1 j, W32 ((mxd x j) j), .int .i64 ((j : Nat) : Int), PT γ1_0 j, W32 (x j), W32 (ad ((mxd x j) j) (x j)), PT γ2_1 j, .int .i64 ((j + 1 : Nat) : Int)]), rfl, ⟨H30.out.1, H30.out.2⟩, by omega⟩, by omega⟩
  have hjN : j = 16 := by omega
  subst hjN
  refine wp_seq ?_
  refine walk_seqB 1 [.quiet (.bool false)] H25 ?ho20 ?he20
  case ho20 => exact ak (by refine fun γ => ⟨rfl, fun w' h => ?_⟩; clear h; go_simp <;> omega) trivial
  intro _ w31 H31
  clear H25
  refine rest0 rfl (then_normal (wp_seq (wp_cond_false rfl ?_)))
  refine wp_exit ?_
  repeat refine then_exit ?_
  refine block_exit ?_
  refine then_normal (wp_seq ?_)
  refine walk_seqB 1 [.quiet (.agg (ints .u32 (mxd x 16) 16).toArray)] H31 ?ho21 ?he21
  case ho21 => exact ak (fun γ => ⟨rfl, fun w' h => ex_loadT h 0 rfl rfl rfl Try.isAgg50 Try.sizeOf50 (ints_whole _ _ _) (ints_len _ _ _)⟩) trivial
  intro _ w32 H32
  clear H31
  refine rest_at (l := [1]) rfl ?_
  refine rest_store rfl rfl rfl (ex_storeT (vs := ints .u32 (mxd x 16) 16) H32.out.1 2 rfl rfl rfl rfl (by rw [ints_len]; exact Try.sizeOf50) (ints_all _ _ _) (by simp [ints_len])) ?_
  have H33 : Hid (Mm (w32.setCells γ1_1 0 (ints .u32 (mxd x 16) 16)) [(γ2_1, ints .u32 (mxd x 16) 16), (γ1_0, ints .u32 x 16), (γ1_1, ints .u32 (mxd x 16) 16)] ∧ Below w.heap.size w (w32.setCells γ1_1 0 (ints .u32 (mxd x 16) 16))) := ⟨by
    have h := H32.out.1.put 2 (off := 0) (vs := ints .u32 (mxd x 16) 16) rfl (by simp [ints_len])
    rw [ints_patch0 _ _ _ _] at h
    exact h, below_setCells _ o1_1.out _ _ _ H32.out.2⟩
  clear H32
  generalize hgw : World.setCells _ _ _ _ = w33 at H33 ⊢
  clear hgw
  refine rest_nil (then_normal (wp_ret ?_))
  repeat (first | refine then_ret ?_ | refine block_ret ?_)
  have hf0 := var_T H33.out.1 2 rfl Try.isAgg50 Try.sizeOf50 (ints_len _ _ _)
  refine bodyPost_ret (v := .agg (ints .u32 (mxd x 16) 16).toArray) (by simp [results, Try.results46, asAddr, hf0]) rfl ?_
  exact ⟨by rw [ints_congr (mxd_lt x 16)], H33.out.2⟩
def b4 (y : Nat → Nat) (i j : Nat) : Nat := if j < 4 * i then by4 y j else 0
theorem b4_set (y : Nat → Nat) (i : Nat) : up (up (up (up (b4 y i) (4 * i) (y i % 256)) ((4 * i) + 1) (sr (y i) 8 % 256)) ((4 * i) + 2) (sr (y i) 16 % 256)) ((4 * i) + 3) (sr (y i) 24 % 256) = b4 y (i + 1) := by
  funext j
  unfold up b4
  by_cases h : j < 4 * i
  · rw [if_neg (by omega), if_neg (by omega), if_neg (by omega), if_neg (by omega), if_pos h, if_pos (by omega)]
  · by_cases h2 : j < 4 * (i + 1)
    · rw [if_pos h2]
      unfold by4
      rw [show j / 4 = i by omega]
      rcases (by omega : j = 4 * i ∨ j = 4 * i + 1 ∨ j = 4 * i + 2 ∨ j = 4 * i + 3) with e | e | e | e
      · rw [if_neg (by omega), if_neg (by omega), if_neg (by omega), if_pos e, show j % 4 = 0 by omega]
        unfold sr
        rw [Nat.mul_zero, Nat.pow_zero, Nat.div_one]
      · rw [if_neg (by omega), if_neg (by omega), if_pos e, show j % 4 = 1 by omega]
      · rw [if_neg (by omega), if_pos e, show j % 4 = 2 by omega]
      · rw [if_pos e, show j % 4 = 3 by omega]
    · rw [if_neg (by omega), if_neg (by omega), if_neg (by omega), if_neg (by omega), if_neg h, if_neg h2]
theorem b4_all (y : Nat → Nat) (j : Nat) (h : j < 64) : b4 y 16 j = by4 y j := if_pos (by omega)
set_option maxHeartbeats 2000000 in
set_option maxRecDepth 100000 in
theorem sblock_gen (x y : Nat → Nat) (hy : ∀ w, Calls Try.prog 46 #[.agg (ints .u32 x 16).toArray] w fun e w' => e = .returned (.agg (ints .u32 y 16).toArray) ∧ Below w.heap.size w w') (w : World) :
    Calls Try.prog 29 #[.agg (ints .u32 x 16).toArray] w fun e w' => e = .returned (.agg (ints .u8 (by4 y) 64).toArray) ∧ Below w.heap.size w w' := by
  have H0 : Hid (_ ∧ _) := ⟨Mm.nil w, Below.refl w.heap.size w⟩
  have HY : Hid _ := hy
  clear hy
  go_enter Try.func29, Try.ntmps29
  refine wp_seq ?_
  refine walk_seqA 2 [.made (ints .u32 x 16) 50, .made (ints .u8 (fun _ => 0) 64) 48] (sB H0) ?ho1 ?he1
  case ho1 => exact ak (fun γ => ⟨rfl, fun w' => ex_boxT rfl rfl⟩) (ak (fun γ => ⟨rfl, fun w' => ex_mk48 rfl⟩) trivial)
  intro γ w1 l hM hl
  have H1 : Hid (Mm w1 [(γ 0, ints .u32 x 16), (γ 1, ints .u8 (fun _ => 0) 64)] ∧ _) := growB H0 hM (Nat.le_refl _) hl [0, 1] rfl (by decide)
  have o1_0 := ownB H0 hM (Nat.le_refl _) hl (i := 0) rfl
  have o1_1 := ownB H0 hM (Nat.le_refl _) hl (i := 1) rfl
  clear hM hl l
  generalize γ 0 = γ1_0 at H1 o1_0 ⊢
  generalize γ 1 = γ1_1 at H1 o1_1 ⊢
  clear γ
  refine rest0 rfl (then_normal (wp_seq ?_))
  refine walk_seqA 1 [.made (ints .u8 (fun _ => 0) 64) 48] (sB H1) ?ho2 ?he2
  case ho2 => exact ak (fun γ => ⟨rfl, fun w' => ex_mk48 rfl⟩) trivial
  intro γ w2 l hM hl
  have H2 : Hid (Mm w2 [(γ 0, ints .u8 (fun _ => 0) 64), (γ1_0, ints .u32 x 16), (γ1_1, ints .u8 (fun _ => 0) 64)] ∧ _) := growB H1 hM (Nat.le_refl _) hl [0] rfl (by decide)
  have o2_0 := ownB H1 hM (Nat.le_refl _) hl (i := 0) rfl
  clear hM hl l H1
  generalize γ 0 = γ2_0 at H2 o2_0 ⊢
  clear γ
  refine rest0 rfl (then_normal (wp_seq (wp_seq ?_)))
  refine walk_seqB 3 [.quiet (.agg (ints .u32 x 16).toArray), .call (.agg (ints .u32 y 16).toArray), .quiet (.int .i64 0)] H2 ?ho3 ?he3
  case ho3 => exact ak (fun γ => ⟨rfl, fun w' h => ex_loadT h 1 rfl rfl rfl Try.isAgg50 Try.sizeOf50 (ints_whole _ _ _) (ints_len _ _ _)⟩) (ak (fun γ => ⟨rfl, fun w' h => ⟨46, #[.agg (ints .u32 x 16).toArray], exec_call rfl call46 rfl (mpn rfl), HY.out w'⟩⟩) (ak (fun _ => ⟨rfl, fun _ _ => rfl⟩) trivial))
  intro _ w3 H3
  clear H2
  refine rest0 rfl (then_normal (wp_block ?_))
  refine loop_ghost (α := Nat) (fun i a' w' => ∃ s0 : Nat → Value, a' = ⟨#[.agg (ints .u32 x 16).toArray, PT γ1_0 0, PT γ1_1 0, PT γ2_0 0, s0 4, s0 5, .agg (ints .u32 x 16).toArray, .agg (ints .u32 y 16).toArray, .int .i64 ((i : Nat) : Int), s0 9, s0 10, s0 11, s0 12, s0 13, s0 14, s0 15, s0 16, s0 17, s0 18, s0 19, s0 20, s0 21, s0 22, s0 23, s0 24, s0 25, s0 26, s0 27, s0 28, s0 29, s0 30, s0 31, s0 32, s0 33, s0 34, s0 35, s0 36, s0 37, s0 38, undef], []⟩ ∧ (Mm w' [(γ2_0, ints .u8 (b4 y i) 64), (γ1_0, ints .u32 x 16), (γ1_1, ints .u8 (fun _ => 0) 64)] ∧ Below w.heap.size w w') ∧ i ≤ 16) (fun i => 16 - i) 0 ?st0 ?rd0
  case st0 => exact ⟨(slotfn [undef, undef, undef, undef, undef, undef, undef, undef, undef, undef, undef, undef, undef, undef, undef, undef, undef, undef, undef, undef, undef, undef, undef, undef, undef, undef, undef, undef, undef, undef, undef, undef, undef, undef, undef, undef, undef, undef, undef]), rfl, ⟨H3.out.1, H3.out.2⟩, by omega⟩
  intro i a' w4 hI
  obtain ⟨s0, rfl, hMB, hk0⟩ := hI
  have H4 : Hid (_ ∧ _) := hMB
  clear hMB H3
  by_cases hlti : i < 16
  · have hrd : True := trivial
    clear hrd
    refine wp_seq ?_
    refine walk_seqB 1 [.quiet (.bool true)] H4 ?ho4 ?he4
    case ho4 => exact ak (by refine fun γ => ⟨rfl, fun w' h => ?_⟩; clear h; go_simp <;> omega) trivial
    intro _ w5 H5
    clear H4
    refine rest0 rfl (then_normal (wp_seq ?_))
    refine wp_cond_true rfl (wp_skip ?_)
    refine then_normal (wp_seq ?_)
    refine wp_block (wp_seq ?_)
    refine walk_seqB 4 [.quiet (.int .i64 ((i : Nat) : Int)), .quiet (W32 (y i)), .quiet (.int .i64 ((i : Nat) : Int)), .quiet (W32 (y i))] H5 ?ho5 ?he5
    case ho5 => exact ak (fun _ => ⟨rfl, fun _ _ => rfl⟩) (ak (fun γ => ⟨rfl, fun w' _ => ex_at50 (j := i) rfl rfl rfl (by omega)⟩) (ak (fun _ => ⟨rfl, fun _ _ => rfl⟩) (ak (fun _ => ⟨rfl, fun _ _ => rfl⟩) trivial)))
    intro _ w6 H6
    clear H5
    refine rest0 rfl (then_normal ?_)
    refine walk_seqB 23 [.quiet (.int .i64 ((i : Nat) : Int)), .quiet (.int .i64 ((4 * i : Nat) : Int)), .quiet (.int .i64 ((i : Nat) : Int)), .quiet (.int .i64 ((4 * i : Nat) : Int)), .quiet (.int .i64 (((4 * i) + 1 : Nat) : Int)), .quiet (.int .i64 ((i : Nat) : Int)), .quiet (.int .i64 ((4 * i : Nat) : Int)), .quiet (.int .i64 (((4 * i) + 2 : Nat) : Int)), .quiet (.int .i64 ((i : Nat) : Int)), .quiet (.int .i64 ((4 * i : Nat) : Int)), .quiet (.int .i64 (((4 * i) + 3 : Nat) : Int)), .quiet (W32 (y i)), .quiet (Z8 ((y i) % 256)), .quiet (W32 (y i)), .quiet (W32 (sr (y i) 8)), .quiet (Z8 ((sr (y i) 8) % 256)), .quiet (W32 (y i)), .quiet (W32 (sr (y i) 16)), .quiet (Z8 ((sr (y i) 16) % 256)), .quiet (W32 (y i)), .quiet (W32 (sr (y i) 24)), .quiet (Z8 ((sr (y i) 24) % 256)), .quiet (PT γ2_0 (4 * i))] H6 ?ho6 ?he6
    case ho6 => exact ak (fun _ => ⟨rfl, fun _ _ => rfl⟩) (ak (by refine fun γ => ⟨rfl, fun w' h => ?_⟩; clear h; go_simp; rw [IntKind.wrap_i64]; omega) (ak (fun _ => ⟨rfl, fun _ _ => rfl⟩) (ak (by refine fun γ => ⟨rfl, fun w' h => ?_⟩; clear h; go_simp; rw [IntKind.wrap_i64]; omega) (ak (by refine fun γ => ⟨rfl, fun w' h => ?_⟩; clear h; go_simp; rw [IntKind.wrap_i64]; omega) (ak (fun _ => ⟨rfl, fun _ _ => rfl⟩) (ak (by refine fun γ => ⟨rfl, fun w' h => ?_⟩; clear h; go_simp; rw [IntKind.wrap_i64]; omega) (ak (by refine fun γ => ⟨rfl, fun w' h => ?_⟩; clear h; go_simp; rw [IntKind.wrap_i64]; omega) (ak (fun _ => ⟨rfl, fun _ _ => rfl⟩) (ak (by refine fun γ => ⟨rfl, fun w' h => ?_⟩; clear h; go_simp; rw [IntKind.wrap_i64]; omega) (ak (by refine fun γ => ⟨rfl, fun w' h => ?_⟩; clear h; go_simp; rw [IntKind.wrap_i64]; omega) (ak (fun _ => ⟨rfl, fun _ _ => rfl⟩) (ak (fun γ => ⟨rfl, fun w' _ => ex_cv51_5 rfl rfl⟩) (ak (fun _ => ⟨rfl, fun _ _ => rfl⟩) (ak (fun γ => ⟨rfl, fun w' _ => ex_shr32 (k := 8) (by decide) rfl rfl rfl⟩) (ak (fun γ => ⟨rfl, fun w' _ => ex_cv51_5 rfl rfl⟩) (ak (fun _ => ⟨rfl, fun _ _ => rfl⟩) (ak (fun γ => ⟨rfl, fun w' _ => ex_shr32 (k := 16) (by decide) rfl rfl rfl⟩) (ak (fun γ => ⟨rfl, fun w' _ => ex_cv51_5 rfl rfl⟩) (ak (fun _ => ⟨rfl, fun _ _ => rfl⟩) (ak (fun γ => ⟨rfl, fun w' _ => ex_shr32 (k := 24) (by decide) rfl rfl rfl⟩) (ak (fun γ => ⟨rfl, fun w' _ => ex_cv51_5 rfl rfl⟩) (ak (fun γ => ⟨rfl, fun w' _ => ex_ix0_48 (j := 4 * i) rfl rfl rfl (by omega)⟩) trivial))))))))))))))))))))))
    intro _ w7 H7
    clear H6
    refine rest_at (l := [23, 24, 25, 26, 27, 28, 29]) rfl ?_
    refine rest_store rfl rfl rfl (ex_storeI H7.out.1 0 rfl rfl Try.sizeOf5 rfl rfl (by rw [ints_len]; omega)) ?_
    have H8 : Hid (Mm (w7.setCells γ2_0 (4 * i) ([Z8 ((y i) % 256)])) [(γ2_0, ints .u8 (up (b4 y i) (4 * i) ((y i) % 256)) 64), (γ1_0, ints .u32 x 16), (γ1_1, ints .u8 (fun _ => 0) 64)] ∧ Below w.heap.size w (w7.setCells γ2_0 (4 * i) ([Z8 ((y i) % 256)]))) := ⟨by
      have h := H7.out.1.put 0 (off := 4 * i) (vs := [Z8 ((y i) % 256)]) rfl (by rw [ints_len]; simp only [List.length_cons, List.length_nil]; omega)
      rw [ints_patch _ _ _ _ (by omega)] at h
      exact h, below_setCells _ o2_0.out _ _ _ H7.out.2⟩
    clear H7
    generalize hgw : World.setCells _ _ _ _ = w8 at H8 ⊢
    clear hgw
    refine rest_set (d := 35) (v := PT γ2_0 ((4 * i) + 1)) (w' := w8) rfl rfl rfl (ex_ix0_48 (j := (4 * i) + 1) rfl rfl rfl (by omega)) ?_
    simp only [Act.put, sa, sz, ss]
    refine rest_store rfl rfl rfl (ex_storeI H8.out.1 0 rfl rfl Try.sizeOf5 rfl rfl (by rw [ints_len]; omega)) ?_
    have H9 : Hid (Mm (w8.setCells γ2_0 ((4 * i) + 1) ([Z8 ((sr (y i) 8) % 256)])) [(γ2_0, ints .u8 (up (up (b4 y i) (4 * i) ((y i) % 256)) ((4 * i) + 1) ((sr (y i) 8) % 256)) 64), (γ1_0, ints .u32 x 16), (γ1_1, ints .u8 (fun _ => 0) 64)] ∧ Below w.heap.size w (w8.setCells γ2_0 ((4 * i) + 1) ([Z8 ((sr (y i) 8) % 256)]))) := ⟨by
      have h := H8.out.1.put 0 (off := (4 * i) + 1) (vs := [Z8 ((sr (y i) 8) % 256)]) rfl (by rw [ints_len]; simp only [List.length_cons, List.length_nil]; omega)
      rw [ints_patch _ _ _ _ (by omega)] at h
      exact h, below_setCells _ o2_0.out _ _ _ H8.out.2⟩
    clear H8
    generalize hgw : World.setCells _ _ _ _ = w9 at H9 ⊢
    clear hgw
    refine rest_set (d := 36) (v := PT γ2_0 ((4 * i) + 2)) (w' := w9) rfl rfl rfl (ex_ix0_48 (j := (4 * i) + 2) rfl rfl rfl (by omega)) ?_
    simp only [Act.put, sa, sz, ss]
    refine rest_store rfl rfl rfl (ex_storeI H9.out.1 0 rfl rfl Try.sizeOf5 rfl rfl (by rw [ints_len]; omega)) ?_
    have H10 : Hid (Mm (w9.setCells γ2_0 ((4 * i) + 2) ([Z8 ((sr (y i) 16) % 256)])) [(γ2_0, ints .u8 (up (up (up (b4 y i) (4 * i) ((y i) % 256)) ((4 * i) + 1) ((sr (y i) 8) % 256)) ((4 * i) + 2) ((sr (y i) 16) % 256)) 64), (γ1_0, ints .u32 x 16), (γ1_1, ints .u8 (fun _ => 0) 64)] ∧ Below w.heap.size w (w9.setCells γ2_0 ((4 * i) + 2) ([Z8 ((sr (y i) 16) % 256)]))) := ⟨by
      have h := H9.out.1.put 0 (off := (4 * i) + 2) (vs := [Z8 ((sr (y i) 16) % 256)]) rfl (by rw [ints_len]; simp only [List.length_cons, List.length_nil]; omega)
      rw [ints_patch _ _ _ _ (by omega)] at h
      exact h, below_setCells _ o2_0.out _ _ _ H9.out.2⟩
    clear H9
    generalize hgw : World.setCells _ _ _ _ = w10 at H10 ⊢
    clear hgw
    refine rest_set (d := 37) (v := PT γ2_0 ((4 * i) + 3)) (w' := w10) rfl rfl rfl (ex_ix0_48 (j := (4 * i) + 3) rfl rfl rfl (by omega)) ?_
    simp only [Act.put, sa, sz, ss]
    refine rest_store rfl rfl rfl (ex_storeI H10.out.1 0 rfl rfl Try.sizeOf5 rfl rfl (by rw [ints_len]; omega)) ?_
    have H11 : Hid (Mm (w10.setCells γ2_0 ((4 * i) + 3) ([Z8 ((sr (y i) 24) % 256)])) [(γ2_0, ints .u8 (b4 y (i + 1)) 64), (γ1_0, ints .u32 x 16), (γ1_1, ints .u8 (fun _ => 0) 64)] ∧ Below w.heap.size w (w10.setCells γ2_0 ((4 * i) + 3) ([Z8 ((sr (y i) 24) % 256)]))) := ⟨by
      have h := H10.out.1.put 0 (off := (4 * i) + 3) (vs := [Z8 ((sr (y i) 24) % 256)]) rfl (by rw [ints_len]; simp only [List.length_cons, List.length_nil]; omega)
      rw [ints_patch _ _ _ _ (by omega), show ints .u8 (up (up (up (up (b4 y i) (4 * i) ((y i) % 256)) ((4 * i) + 1) ((sr (y i) 8) % 256)) ((4 * i) + 2) ((sr (y i) 16) % 256)) ((4 * i) + 3) ((sr (y i) 24) % 256)) 64 = ints .u8 (b4 y (i + 1)) 64 by rw [show (up (up (up (up (b4 y i) (4 * i) ((y i) % 256)) ((4 * i) + 1) ((sr (y i) 8) % 256)) ((4 * i) + 2) ((sr (y i) 16) % 256)) ((4 * i) + 3) ((sr (y i) 24) % 256)) = b4 y (i + 1) from b4_set y i]] at h
      exact h, below_setCells _ o2_0.out _ _ _ H10.out.2⟩
    clear H10
    generalize hgw : World.setCells _ _ _ _ = w11 at H11 ⊢
    clear hgw
    refine rest_nil (block_normal (then_normal ?_))
    refine walk_seqB 1 [.quiet (.int .i64 ((i + 1 : Nat) : Int))] H11 ?ho7 ?he7
    case ho7 => exact ak (by refine fun γ => ⟨rfl, fun w' h => ?_⟩; clear h; go_simp; rw [IntKind.wrap_i64]; omega) trivial
    intro _ w12 H12
    clear H11
    refine rest_at (l := [1]) rfl ?_
    refine rest_set (d := 8) rfl rfl rfl rfl ?_
    simp only [Act.put, sa, sz, ss]
    refine rest_nil (then_normal ?_)
    exact ⟨i + 1, ⟨(slotfn [undef, undef, undef, undef, .int .i64 ((i : Nat) : Int), W32 (y i), undef, undef, undef, .bool true, .int .i64 ((i : Nat) : Int), W32 (y i), .int .i64 ((i : Nat) : Int), .int .i64 ((4 * i : Nat) : Int), .int .i64 ((i : Nat) : Int), .int .i64 ((4 * i : Nat) : Int), .int .i64 (((4 * i) + 1 : Nat) : Int), .int .i64 ((i : Nat) : Int), .int .i64 ((4 * i : Nat) : Int), .int .i64 (((4 * i) + 2 : Nat) : Int), .int .i64 ((i : Nat) : Int), .int .i64 ((4 * i : Nat) : Int), .int .i64 (((4 * i) + 3 : Nat) : Int), W32 (y i), Z8 ((y i) % 256), W32 (y i), W32 (sr (y i) 8), Z8 ((sr (y i) 8) % 256), W32 (y i), W32 (sr (y i) 16), Z8 ((sr (y i) 16) % 256), W32 (y i), W32 (sr (y i) 24), Z8 ((sr (y i) 24) % 256), PT γ2_0 (4 * i), PT γ2_0 ((4 * i) + 1), PT γ2_0 ((4 * i) + 2), PT γ2_0 ((4 * i) + 3), .int .i64 ((i + 1 : Nat) : Int)]), rfl, ⟨H12.out.1, H12.out.2⟩, by omega⟩, by omega⟩
  have hiN : i = 16 := by omega
  subst hiN
  refine wp_seq ?_
  refine walk_seqB 1 [.quiet (.bool false)] H4 ?ho8 ?he8
  case ho8 => exact ak (by refine fun γ => ⟨rfl, fun w' h => ?_⟩; clear h; go_simp <;> omega) trivial
  intro _ w13 H13
  clear H4
  refine rest0 rfl (then_normal (wp_seq (wp_cond_false rfl ?_)))
  refine wp_exit ?_
  repeat refine then_exit ?_
  refine block_exit ?_
  refine then_normal (wp_seq ?_)
  refine walk_seqB 1 [.quiet (.agg (ints .u8 (b4 y 16) 64).toArray)] H13 ?ho9 ?he9
  case ho9 => exact ak (fun γ => ⟨rfl, fun w' h => ex_loadT h 0 rfl rfl rfl Try.isAgg48 Try.sizeOf48 (ints_whole _ _ _) (ints_len _ _ _)⟩) trivial
  intro _ w14 H14
  clear H13
  refine rest_at (l := [1]) rfl ?_
  refine rest_store rfl rfl rfl (ex_storeT (vs := ints .u8 (b4 y 16) 64) H14.out.1 2 rfl rfl rfl rfl (by rw [ints_len]; exact Try.sizeOf48) (ints_all _ _ _) (by simp [ints_len])) ?_
  have H15 : Hid (Mm (w14.setCells γ1_1 0 (ints .u8 (b4 y 16) 64)) [(γ2_0, ints .u8 (b4 y 16) 64), (γ1_0, ints .u32 x 16), (γ1_1, ints .u8 (b4 y 16) 64)] ∧ Below w.heap.size w (w14.setCells γ1_1 0 (ints .u8 (b4 y 16) 64))) := ⟨by
    have h := H14.out.1.put 2 (off := 0) (vs := ints .u8 (b4 y 16) 64) rfl (by simp [ints_len])
    rw [ints_patch0 _ _ _ _] at h
    exact h, below_setCells _ o1_1.out _ _ _ H14.out.2⟩
  clear H14
  generalize hgw : World.setCells _ _ _ _ = w15 at H15 ⊢
  clear hgw
  refine rest_nil (then_normal (wp_ret ?_))
  repeat (first | refine then_ret ?_ | refine block_ret ?_)
  have hf0 := var_T H15.out.1 2 rfl Try.isAgg48 Try.sizeOf48 (ints_len _ _ _)
  refine bodyPost_ret (v := .agg (ints .u8 (b4 y 16) 64).toArray) (by simp [results, Try.results29, asAddr, hf0]) rfl ?_
  exact ⟨by rw [ints_congr (b4_all y)], H15.out.2⟩
theorem sblock_any (x : Nat → Nat) (w : World) : Calls Try.prog 29 #[.agg (ints .u32 x 16).toArray] w fun e w' => e = .returned (.agg (ints .u8 (bs x) 64).toArray) ∧ Below w.heap.size w w' :=
  sblock_gen x _ (mixed_any x) w
end Rg
end Go.Proofs.Ytkkippfikfjdpaa
end
section
namespace Go.Proofs.Ytkkippfikfjdpaa
open Go.RowKit
namespace Rg
set_option maxRecDepth 100000
theorem or_lo {x k : Nat} (h : x < 2 ^ k) (y : Nat) : x ||| y * 2 ^ k = x + y * 2 ^ k := by
  rw [Nat.or_comm, Nat.mul_comm, ← Nat.two_pow_add_eq_or_of_lt h, Nat.add_comm]
theorem ou_lo {x y k : Nat} (hx : x < 2 ^ k) (h : x + y * 2 ^ k < 4294967296) : ou x (sl y k) = x + y * 2 ^ k := by
  unfold ou sl
  rw [Nat.mod_eq_of_lt (a := y * 2 ^ k) (by omega), or_lo hx, Nat.mod_eq_of_lt h]
/-- Four bytes are a number of 32 bits. -/
theorem fo_nv {P : Nat → Nat} (hP : ∀ j, P j < 256) (l : Nat) : fo P l = nv (fun j => P (l + j)) 4 := by
  have h0 := hP l
  have h1 := hP (l + 1)
  have h2 := hP (l + 2)
  have h3 := hP (l + 3)
  have c : ∀ a, a < 256 → c32 a = a := fun a h => Nat.mod_eq_of_lt (by omega)
  unfold fo
  rw [c _ h0, c _ h1, c _ h2, c _ h3, ou_lo (k := 8) (by omega) (by omega), ou_lo (k := 16) (by omega) (by omega), ou_lo (k := 24) (by omega) (by omega)]
  show _ = 0 + P l * 256 ^ 0 + P (l + 1) * 256 ^ 1 + P (l + 2) * 256 ^ 2 + P (l + 3) * 256 ^ 3
  omega
/-- The words of a number. -/
def wN (a j : Nat) : Nat := a / 18446744073709551616 ^ j % 18446744073709551616
theorem wN_lt (a j : Nat) : wN a j < 18446744073709551616 := Nat.mod_lt _ (by decide)
/-- Three words, and their number. -/
def t3 (x y z j : Nat) : Nat := [x, y, z].getD j 0
def nW (f : Nat → Nat) : Nat := f 0 + f 1 * 18446744073709551616 + f 2 * 340282366920938463463374607431768211456
theorem n3_wN {a : Nat} (h : a < 6277101735386680763835789423207666416102355444464034512896) : nW (wN a) = a := by
  unfold nW wN
  rw [Nat.pow_zero, Nat.pow_one, show (18446744073709551616 : Nat) ^ 2 = 340282366920938463463374607431768211456 from rfl]
  omega
theorem wN_n3 {f : Nat → Nat} (h : ∀ j, j < 3 → f j < 18446744073709551616) (j : Nat) (hj : j < 3) : wN (nW f) j = f j := by
  have h0 := h 0 (by decide)
  have h1 := h 1 (by decide)
  have h2 := h 2 (by decide)
  unfold wN nW
  rcases (by omega : j = 0 ∨ j = 1 ∨ j = 2) with rfl | rfl | rfl
  · rw [Nat.pow_zero]; omega
  · rw [Nat.pow_one]; omega
  · rw [show (18446744073709551616 : Nat) ^ 2 = 340282366920938463463374607431768211456 from rfl]; omega
theorem t3_lt {x y z : Nat} (hx : x < 18446744073709551616) (hy : y < 18446744073709551616) (hz : z < 18446744073709551616) (j : Nat) (hj : j < 3) : t3 x y z j < 18446744073709551616 := by
  rcases (by omega : j = 0 ∨ j = 1 ∨ j = 2) with rfl | rfl | rfl
  · exact hx
  · exact hy
  · exact hz
def plo (x y c : Nat) : Nat := (x + y + c) % 18446744073709551616
def phi (x y c : Nat) : Nat := (x + y + c) / 18446744073709551616
theorem plus_eq {a b : Nat → Nat} (ha : ∀ j, j < 3 → a j < 18446744073709551616) (hb : ∀ j, j < 3 → b j < 18446744073709551616) (j : Nat) (hj : j < 3) :
    t3 (plo (a 0) (b 0) 0) (plo (a 1) (b 1) (phi (a 0) (b 0) 0)) (c64 (c64 (a 2 + b 2) + phi (a 1) (b 1) (phi (a 0) (b 0) 0))) j = wN (nW a + nW b) j := by
  have a0 := ha 0 (by decide)
  have a1 := ha 1 (by decide)
  have a2 := ha 2 (by decide)
  have b0 := hb 0 (by decide)
  have b1 := hb 1 (by decide)
  have b2 := hb 2 (by decide)
  unfold wN nW plo phi c64
  rcases (by omega : j = 0 ∨ j = 1 ∨ j = 2) with rfl | rfl | rfl
  · show (a 0 + b 0 + 0) % 18446744073709551616 = _
    rw [Nat.pow_zero]; omega
  · show (a 1 + b 1 + (a 0 + b 0 + 0) / 18446744073709551616) % 18446744073709551616 = _
    rw [Nat.pow_one]; omega
  · show ((a 2 + b 2) % 18446744073709551616 + (a 1 + b 1 + (a 0 + b 0 + 0) / 18446744073709551616) / 18446744073709551616) % 18446744073709551616 = _
    rw [show (18446744073709551616 : Nat) ^ 2 = 340282366920938463463374607431768211456 from rfl]; omega
def mlo (x y m c : Nat) : Nat := (x * y + m + c) % 18446744073709551616
def mhi (x y m c : Nat) : Nat := (x * y + m + c) / 18446744073709551616
theorem mul_le' {x y : Nat} (hx : x < 18446744073709551616) (hy : y < 18446744073709551616) : x * y ≤ 18446744073709551615 * 18446744073709551615 := Nat.mul_le_mul (by omega) (by omega)
theorem mlo_lt (x y m c : Nat) : mlo x y m c < 18446744073709551616 := Nat.mod_lt _ (by decide)
theorem mhi_lt {x y m c : Nat} (hx : x < 18446744073709551616) (hy : y < 18446744073709551616) (hm : m < 18446744073709551616) (hc : c < 18446744073709551616) : mhi x y m c < 18446744073709551616 := by
  have := mul_le' hx hy
  unfold mhi
  omega
theorem ma_lo {x y m c : Nat} : plo (plo (x * y % 18446744073709551616) m 0) c 0 = mlo x y m c := by
  unfold plo mlo
  generalize x * y = p
  omega
theorem ma_hi {x y m c : Nat} (hx : x < 18446744073709551616) (hy : y < 18446744073709551616) (hm : m < 18446744073709551616) (hc : c < 18446744073709551616) : c64 (c64 (x * y / 18446744073709551616 + phi (x * y % 18446744073709551616) m 0) + phi (plo (x * y % 18446744073709551616) m 0) c 0) = mhi x y m c := by
  have h := mul_le' hx hy
  unfold plo phi mhi c64
  generalize x * y = p at *
  omega
theorem n3_t3 (x y z : Nat) : nW (t3 x y z) = x + y * 18446744073709551616 + z * 340282366920938463463374607431768211456 := rfl
theorem fN_four {t0 t1 t2 t3' : Nat} (h0 : t0 < 18446744073709551616) (h1 : t1 < 18446744073709551616) : fN (t0 + t1 * 18446744073709551616 + t2 * 340282366920938463463374607431768211456 + t3' * 6277101735386680763835789423207666416102355444464034512896) = (t0 + t1 * 18446744073709551616 + (t2 % 4) * 340282366920938463463374607431768211456) + 5 * (t2 / 4 + t3' * 4611686018427387904) := by
  have e : t0 + t1 * 18446744073709551616 + t2 * 340282366920938463463374607431768211456 + t3' * 6277101735386680763835789423207666416102355444464034512896 = (t0 + t1 * 18446744073709551616 + (t2 % 4) * 340282366920938463463374607431768211456) + 1361129467683753853853498429727072845824 * (t2 / 4 + t3' * 4611686018427387904) := by omega
  have l : t0 + t1 * 18446744073709551616 + (t2 % 4) * 340282366920938463463374607431768211456 < 1361129467683753853853498429727072845824 := by omega
  unfold fN
  rw [show (2 : Nat) ^ 130 = 1361129467683753853853498429727072845824 from rfl, e, Nat.add_mul_mod_self_left, Nat.add_mul_div_left _ _ (by decide), Nat.mod_eq_of_lt l, Nat.div_eq_of_lt l, Nat.zero_add]
theorem fold_eq {t0 t1 t2 t3' : Nat} (h0 : t0 < 18446744073709551616) (h1 : t1 < 18446744073709551616) :
    nW (t3 t0 t1 (t2 % 4)) + nW (t3 (t2 - t2 % 4) t3' 0) + nW (t3 (t2 / 4 + t3' % 4 * 4611686018427387904) (t3' / 4) 0) = fN (t0 + t1 * 18446744073709551616 + t2 * 340282366920938463463374607431768211456 + t3' * 6277101735386680763835789423207666416102355444464034512896) := by
  rw [fN_four h0 h1, n3_t3, n3_t3, n3_t3]
  omega
theorem fold_lt {t0 t1 t2 t3' : Nat} (h0 : t0 < 18446744073709551616) (h1 : t1 < 18446744073709551616) (h2 : t2 < 18446744073709551616) (h3 : t3' < 18446744073709551616) : nW (t3 t0 t1 (t2 % 4)) + nW (t3 (t2 - t2 % 4) t3' 0) < 6277101735386680763835789423207666416102355444464034512896 := by
  rw [n3_t3, n3_t3]
  omega
/-- The four words of a product by a number of two words below 2^60. -/
def u0 (a r : Nat → Nat) : Nat := mlo (a 0) (r 0) 0 0
def v1 (a r : Nat → Nat) : Nat := mlo (a 1) (r 0) 0 (mhi (a 0) (r 0) 0 0)
def v2 (a r : Nat → Nat) : Nat := c64 (c64 (a 2 * r 0) + mhi (a 1) (r 0) 0 (mhi (a 0) (r 0) 0 0))
def u1 (a r : Nat → Nat) : Nat := mlo (a 0) (r 1) (v1 a r) 0
def u2 (a r : Nat → Nat) : Nat := mlo (a 1) (r 1) (v2 a r) (mhi (a 0) (r 1) (v1 a r) 0)
def u3 (a r : Nat → Nat) : Nat := c64 (c64 (a 2 * r 1) + mhi (a 1) (r 1) (v2 a r) (mhi (a 0) (r 1) (v1 a r) 0))
theorem times_lin {p00 p10 p20 p01 p11 p21 : Nat} (h00 : p00 < 18446744073709551616 * 1152921504606846976) (h10 : p10 < 18446744073709551616 * 1152921504606846976) (h20 : p20 ≤ 7 * 1152921504606846976) (h01 : p01 < 18446744073709551616 * 1152921504606846976) (h11 : p11 < 18446744073709551616 * 1152921504606846976) (h21 : p21 ≤ 7 * 1152921504606846976)
    {c0 x0 x1 c1 x2 y1 c2 y2 c3 y3 : Nat} (e0 : x0 = (p00 + 0 + 0) % 18446744073709551616) (f0 : c0 = (p00 + 0 + 0) / 18446744073709551616) (e1 : x1 = (p10 + 0 + c0) % 18446744073709551616) (f1 : c1 = (p10 + 0 + c0) / 18446744073709551616) (e2 : x2 = (p20 % 18446744073709551616 + c1) % 18446744073709551616)
    (g1 : y1 = (p01 + x1 + 0) % 18446744073709551616) (k1 : c2 = (p01 + x1 + 0) / 18446744073709551616) (g2 : y2 = (p11 + x2 + c2) % 18446744073709551616) (k2 : c3 = (p11 + x2 + c2) / 18446744073709551616) (g3 : y3 = (p21 % 18446744073709551616 + c3) % 18446744073709551616) :
    x0 + y1 * 18446744073709551616 + y2 * 340282366920938463463374607431768211456 + y3 * 6277101735386680763835789423207666416102355444464034512896 = p00 + (p10 + p01) * 18446744073709551616 + (p20 + p11) * 340282366920938463463374607431768211456 + p21 * 6277101735386680763835789423207666416102355444464034512896 := by
  have a0 : p00 = x0 + c0 * 18446744073709551616 := by omega
  have a1 : p10 + c0 = x1 + c1 * 18446744073709551616 := by omega
  have a2 : x2 = p20 + c1 := by omega
  have a3 : p01 + x1 = y1 + c2 * 18446744073709551616 := by omega
  have a4 : p11 + x2 + c2 = y2 + c3 * 18446744073709551616 := by omega
  have a5 : y3 = p21 + c3 := by omega
  omega
theorem times_eq {a r : Nat → Nat} (ha : ∀ j, j < 3 → a j < 18446744073709551616) (ha2 : a 2 < 8) (h0 : r 0 < 1152921504606846976) (h1 : r 1 < 1152921504606846976) :
    u0 a r + u1 a r * 18446744073709551616 + u2 a r * 340282366920938463463374607431768211456 + u3 a r * 6277101735386680763835789423207666416102355444464034512896 = nW a * (r 0 + r 1 * 18446744073709551616) := by
  have a0 := ha 0 (by decide)
  have a1 := ha 1 (by decide)
  have m : ∀ x y, x < 18446744073709551616 → y < 1152921504606846976 → x * y < 18446744073709551616 * 1152921504606846976 := fun x y hx hy =>
    Nat.lt_of_le_of_lt (Nat.mul_le_mul_left x (by omega : y ≤ 1152921504606846976)) (Nat.mul_lt_mul_of_pos_right hx (by decide))
  have m2 : ∀ y, y < 1152921504606846976 → a 2 * y ≤ 7 * 1152921504606846976 := fun y hy => Nat.mul_le_mul (by omega) (by omega)
  have e := times_lin (m _ _ a0 h0) (m _ _ a1 h0) (m2 _ h0) (m _ _ a0 h1) (m _ _ a1 h1) (m2 _ h1) (x0 := u0 a r) rfl rfl (x1 := v1 a r) rfl rfl (x2 := v2 a r) rfl (y1 := u1 a r) rfl rfl (y2 := u2 a r) rfl rfl (y3 := u3 a r) rfl
  rw [e]
  unfold nW
  have h : ∀ p, (a 0 + a 1 * 18446744073709551616 + a 2 * 340282366920938463463374607431768211456) * p = a 0 * p + a 1 * p * 18446744073709551616 + a 2 * p * 340282366920938463463374607431768211456 := fun p => by rw [Nat.add_mul, Nat.add_mul, Nat.mul_right_comm (a 1), Nat.mul_right_comm (a 2)]
  rw [Nat.mul_add, ← Nat.mul_assoc, h, h]
  omega
end Rg
end Go.Proofs.Ytkkippfikfjdpaa
end
section
namespace Go.Proofs
open Go.Shelf
def Try.lays264_ren : Go.Shelf.Ren := ⟨fun | 264 => 65 | n => n, fun | 53 => 57 | 46 => 74 | n => n, fun | n => n⟩
theorem Try.lays264 : Go.Proofs.Lays.n264 Try.prog Try.lays264_ren := {
  mixed := by kernel_rfl
  f264 := Try.func65.trans (congrArg some (by kernel_rfl))
  t46 := Try.underlying74
  a46 := Try.isAgg74
  z46 := Try.sizeOf74
  v46 := Try.zeroValue74
  t53 := Try.underlying57
  a53 := Try.isAgg57
  z53 := Try.sizeOf57
  v53 := Try.zeroValue57 }
end Go.Proofs
end
