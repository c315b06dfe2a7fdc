/- Texts of the proof, joined. -/
import Derived.Test.YtgdlhgbdigpfhabDoorP5
section
namespace Go.Proofs.YtgdlhgbdigpfhabDoor
open Go.RowKit
namespace Rg
/-! Wide numbers, word by word: twelve words in two halves. -/
abbrev row12 (f : Nat → Int) : List Value := [.int .u64 (f 0), .int .u64 (f 1), .int .u64 (f 2), .int .u64 (f 3), .int .u64 (f 4), .int .u64 (f 5), .int .u64 (f 6), .int .u64 (f 7), .int .u64 (f 8), .int .u64 (f 9), .int .u64 (f 10), .int .u64 (f 11)]
theorem row12_at {f : Nat → Int} {j : Nat} (hj : j < 12) : (row12 f)[j]? = some (.int .u64 (f j)) := by
 match j, hj with
 | 0, _ => rfl
 | 1, _ => rfl
 | 2, _ => rfl
 | 3, _ => rfl
 | 4, _ => rfl
 | 5, _ => rfl
 | 6, _ => rfl
 | 7, _ => rfl
 | 8, _ => rfl
 | 9, _ => rfl
 | 10, _ => rfl
 | 11, _ => rfl
theorem row12_put {f : Nat → Int} {j : Nat} {x : Int} (hj : j < 12) : patch (row12 f) j [.int .u64 x] = row12 (upd f j x) := by
 match j, hj with
 | 0, _ => rfl
 | 1, _ => rfl
 | 2, _ => rfl
 | 3, _ => rfl
 | 4, _ => rfl
 | 5, _ => rfl
 | 6, _ => rfl
 | 7, _ => rfl
 | 8, _ => rfl
 | 9, _ => rfl
 | 10, _ => rfl
 | 11, _ => rfl
theorem row12_put0 {f : Nat → Int} {j : Nat} {x : Int} (hj : j < 12) : patch (row12 f) (0 + j) [.int .u64 x] = row12 (upd f j x) := by rw [Nat.zero_add]; exact row12_put hj
theorem row12_bd {f : Nat → Int} {j : Nat} (hj : j < 12) : j < (row12 f).length := hj
theorem row12_congr {f g : Nat → Int} (h : ∀ j, j < 12 → f j = g j) : row12 f = row12 g := by
 unfold row12
 rw [h 0 (by decide), h 1 (by decide), h 2 (by decide), h 3 (by decide), h 4 (by decide), h 5 (by decide), h 6 (by decide), h 7 (by decide), h 8 (by decide), h 9 (by decide), h 10 (by decide), h 11 (by decide)]
/-- The words of a wide number. -/
def ww (l h j : Nat) : Int := if j < 6 then wd l j else wd h (j - 6)
theorem cel_row12 (l h : Nat) : cel [l, h] = row12 (ww l h) := by simp [cel, ww]
/-- What stands there behind k words: f's, then a's. -/
def mix (f : Nat → Int) (l h k j : Nat) : Int := if j < k then f j else ww l h j
theorem mix_start (f : Nat → Int) (l h : Nat) : cel [l, h] = row12 (mix f l h 0) := by
 rw [cel_row12]
 exact row12_congr fun j _ => by unfold mix; rw [if_neg (by omega)]
theorem mix_at {f : Nat → Int} {l h k : Nat} (hk : k < 12) : (row12 (mix f l h k))[k]? = some (.int .u64 (ww l h k)) := by
 rw [row12_at hk]; unfold mix; rw [if_neg (by omega)]
theorem mix_step {f : Nat → Int} {l h k : Nat} {x : Int} (hx : x = f k) : row12 (upd (mix f l h k) k x) = row12 (mix f l h (k + 1)) := row12_congr fun j _ => by
 unfold upd mix
 by_cases h1 : j = k
 ·subst h1; rw [if_pos rfl, if_pos (by omega), hx]
 ·rw [if_neg h1]
  by_cases h2 : j < k
  ·rw [if_pos h2, if_pos (by omega)]
  ·rw [if_neg h2, if_neg (by omega)]
theorem mix_end {f : Nat → Int} {l h x y : Nat} (hf : ∀ j, j < 12 → f j = ww x y j) : row12 (mix f l h (6 + 6)) = cel [x, y] := by
 rw [cel_row12]
 exact row12_congr fun j hj => by unfold mix; rw [if_pos (show j < 6 + 6 from hj), hf j hj]
theorem off_lo (k : Nat) : 0 + k = k := Nat.zero_add k
theorem Mm.atk {w : World} {l l' : List (Nat × List Value)} (h : Mm w l) (e : l = l') : Mm w l' := e ▸ h
set_option maxHeartbeats 2000000 in
set_option maxRecDepth 100000 in
theorem plus_gen (al ah bl bh x y : Nat) (f cr : Nat → Int) (c0 : 0 = cr 0) (hf : ∀ j, j < 12 → f j = ww x y j)
  (ce : ∀ j w, (callFunc 80 #[.int .u64 (ww al ah j), .int .u64 (ww bl bh j), .int .u64 (cr j)]).run Tryd.prog w = .ok (.value (.tuple #[.int .u64 (f j), .int .u64 (cr (j + 1))])) w) (w : World) :
  Calls Tryd.prog 61 #[V [al, ah], V [bl, bh]] w (Rt w (V [x, y])) := by
 have H0 : Hid (_ ∧ _) := ⟨Mm.nil w, Below.refl w.heap.size w⟩
 have C0 : Hid _ := c0
 have CE : Hid _ := ce
 have HF : Hid _ := hf
 clear c0 ce hf
 go_enter Tryd.func61, Tryd.ntmps61
 refine wp_seq ?_
 refine walk_seqA 3 [.made (cel [al, ah]) 61, .made (cel [bl, bh]) 61, .made (cel [0, 0]) 61] (sB H0) ?ho1 ?he1
 case ho1 => exact ak (fun γ => ⟨rfl, fun w' => ex_boxA rfl rfl⟩) (ak (fun γ => ⟨rfl, fun w' => ex_boxA rfl rfl⟩) (ak (fun γ => ⟨rfl, fun w' => ex_madeWD rfl⟩) trivial))
 intro γ w1 l hM hl
 have H1 : Hid (Mm w1 [(γ 0, cel [al, ah]), (γ 1, cel [bl, bh]), (γ 2, cel [0, 0])] ∧ _) := growB H0 hM (Nat.le_refl _) hl [0, 1, 2] rfl (by decide)
 have o1_0 := ownB H0 hM (Nat.le_refl _) hl (i := 0) rfl
 have o1_1 := ownB H0 hM (Nat.le_refl _) hl (i := 1) rfl
 have o1_2 := ownB H0 hM (Nat.le_refl _) hl (i := 2) rfl
 clear hM hl l
 generalize γ 0 = γ1_0 at H1 o1_0 ⊢
 generalize γ 1 = γ1_1 at H1 o1_1 ⊢
 generalize γ 2 = γ1_2 at H1 o1_2 ⊢
 clear γ
 refine rest0 rfl (then_normal (wp_seq ?_))
 refine walk_seqB 1 [.quiet (.int .u64 0)] H1 ?ho2 ?he2
 case ho2 => exact ak (fun _ => ⟨rfl, fun _ _ => rfl⟩) trivial
 intro _ w2 H2
 clear H1
 refine rest0 rfl (then_normal (wp_seq (wp_seq ?_)))
 refine walk_seqB 1 [.quiet (.int .i64 0)] H2 ?ho3 ?he3
 case ho3 => exact ak (fun _ => ⟨rfl, fun _ _ => rfl⟩) trivial
 intro _ w3 H3
 clear H2
 refine rest0 rfl (then_normal (wp_block ?_))
 refine loop_ghost (α := Nat) (fun k a' w' => ∃ s0 : Nat → Value, a' = ⟨#[V [al, ah], V [bl, bh], PT γ1_0 0, PT γ1_1 0, PT γ1_2 0, .int .u64 (cr k), s0 6, undef, .int .i64 ((k : Nat) : Int), s0 9, s0 10, s0 11, s0 12, s0 13, s0 14, s0 15, s0 16, s0 17, s0 18, s0 19, s0 20, s0 21, s0 22, s0 23, s0 24, s0 25, s0 26, s0 27, undef, undef, undef, undef, undef, undef, undef, undef, undef, undef, undef, undef, undef, undef, undef, undef, undef, undef, undef, undef, undef], []⟩ ∧ (Mm w' [(γ1_0, row12 (mix f al ah k)), (γ1_1, cel [bl, bh]), (γ1_2, cel [0, 0])] ∧ Below w.heap.size w w') ∧ k ≤ 6) (fun k => 6 - k) 0 ?st0 ?rd0
 case st0 => exact ⟨(slotfn [undef, undef, undef, undef, undef, undef, undef, undef, undef, undef, undef, undef, undef, undef, undef, undef, undef, undef, undef, undef, undef, undef, undef, undef, undef, undef, undef, undef]), by rw [← C0.out]; rfl, ⟨H3.out.1.atk (by rw [mix_start f al ah]), H3.out.2⟩, by omega⟩
 intro k a' w4 hI
 obtain ⟨s0, rfl, hMB, hk0⟩ := hI
 have H4 : Hid (_ ∧ _) := hMB
 clear hMB H3
 by_cases hlt : k < 6
 ·have hrd : True := trivial
  clear hrd
  have hk12 : k < 12 := by omega
  refine wp_seq ?_
  refine walk_seqB 1 [.quiet (.bool true)] H4 ?ho4 ?he4
  case ho4 => exact ak (by refine fun γ => ⟨rfl, fun w' h => ?_⟩; clear h; go_simp <;> omega) trivial
  intro _ w5 H5
  clear H4
  refine rest0 rfl (then_normal (wp_seq ?_))
  refine wp_cond_true rfl (wp_skip ?_)
  refine then_normal (wp_seq ?_)
  refine wp_block (wp_seq ?_)
  refine walk_seqB 2 [.quiet (.int .i64 ((k : Nat) : Int)), .quiet (.int .i64 ((k : Nat) : Int))] H5 ?ho5 ?he5
  case ho5 => exact ak (fun _ => ⟨rfl, fun _ _ => rfl⟩) (ak (fun _ => ⟨rfl, fun _ _ => rfl⟩) trivial)
  intro _ w6 H6
  clear H5
  refine rest0 rfl (then_normal ?_)
  refine walk_put (by kernel_rfl) 16 [13] [.quiet (.int .i64 ((k : Nat) : Int)), .quiet (.int .i64 ((k : Nat) : Int)), .quiet (PT γ1_0 0), .quiet (PT γ1_0 (0 + k)), .quiet (.int .u64 (ww al ah k)), .quiet (.int .i64 ((k : Nat) : Int)), .quiet (PT γ1_1 0), .quiet (PT γ1_1 (0 + k)), .quiet (.int .u64 (ww bl bh k)), .quiet (.int .u64 (cr k)), .quiet (.tuple #[.int .u64 (f k), .int .u64 (cr (k + 1))]), .quiet (.tuple #[.int .u64 (f k), .int .u64 (cr (k + 1))]), .quiet (.int .u64 (f k)), .quiet (.int .u64 (cr (k + 1))), .quiet (PT γ1_0 0), .quiet (PT γ1_0 (0 + k))] _ ?pre6 ?F6 _ ?hpre6 (fun γ => ?hF6) (by kernel_rfl) rfl trivial (sB H6) ?ho6 ?hla6 ?he6
  case hpre6 => simp only [tk, tz]; rfl
  case hF6 => simp only [fill, Kind.val, Act.put, sa, sz, ss]; rfl
  case ho6 =>
   refine ak (fun _ => ⟨rfl, fun _ _ => rfl⟩) ?_
   refine ak (fun _ => ⟨rfl, fun _ _ => rfl⟩) ?_
   refine ak (by refine fun γ => ⟨rfl, fun w' h => ?_⟩; clear h; go_simp) ?_
   refine ak (fun γ => ⟨rfl, fun w' _ => ex_indexAddr6 rfl rfl rfl hlt⟩) ?_
   refine ak (fun γ => ⟨rfl, fun w' h => ex_load1 h 0 rfl rfl rfl (by rw [off_lo]; exact mix_at hk12)⟩) ?_
   refine ak (fun _ => ⟨rfl, fun _ _ => rfl⟩) ?_
   refine ak (by refine fun γ => ⟨rfl, fun w' h => ?_⟩; clear h; go_simp) ?_
   refine ak (fun γ => ⟨rfl, fun w' _ => ex_indexAddr6 rfl rfl rfl hlt⟩) ?_
   refine ak (fun γ => ⟨rfl, fun w' h => ex_load1 h 1 rfl rfl rfl (by rw [off_lo, cel_row12]; exact row12_at hk12)⟩) ?_
   refine ak (fun _ => ⟨rfl, fun _ _ => rfl⟩) ?_
   refine ak (fun γ => ⟨rfl, fun w' h => ex_extern rfl (CE.out k w') rfl (mpn rfl)⟩) ?_
   refine ak (fun _ => ⟨rfl, fun _ _ => rfl⟩) ?_
   refine ak (by refine fun γ => ⟨rfl, fun w' h => ?_⟩; clear h; go_simp) ?_
   refine ak (by refine fun γ => ⟨rfl, fun w' h => ?_⟩; clear h; go_simp) ?_
   refine ak (by refine fun γ => ⟨rfl, fun w' h => ?_⟩; clear h; go_simp) ?_
   refine ak (fun γ => ⟨rfl, fun w' _ => ex_indexAddr6 rfl rfl rfl hlt⟩) ?_
   exact trivial
  case hla6 => exact ⟨⟨_, _, rfl, rfl, fun γ => ⟨rfl, fun w' => by first | rfl | go_simp⟩⟩, trivial⟩
  intro γ w7 l hM hl
  have H7 := keepB H6 hM.below
  clear hM hl l H6 γ
  refine ⟨_, ex_storeI H7.out.1 0 rfl rfl Tryd.sizeOf22 rfl rfl (by rw [off_lo]; exact row12_bd hk12), ?_⟩
  have H8 : Hid (Mm (w7.setCells γ1_0 (0 + k) [.int .u64 (f k)]) [(γ1_0, row12 (mix f al ah (k + 1))), (γ1_1, cel [bl, bh]), (γ1_2, cel [0, 0])] ∧ Below w.heap.size w (w7.setCells γ1_0 (0 + k) [.int .u64 (f k)])) := ⟨by
   have h := H7.out.1.put 0 (off := (0 + k)) (vs := [.int .u64 (f k)]) rfl (by rw [off_lo]; exact row12_bd hk12)
   rw [row12_put0 hk12, mix_step rfl] at h
   exact h, below_setCells _ o1_0.out _ _ _ H7.out.2⟩
  clear H7
  generalize hgw : World.setCells _ _ _ _ = w8 at H8 ⊢
  clear hgw
  refine rest_at (l := [17]) rfl ?_
  refine rest_set (d := 5) rfl rfl rfl rfl ?_
  simp only [Act.put, sa, sz, ss]
  refine rest_nil (block_normal (then_normal ?_))
  refine walk_seqB 1 [.quiet (.int .i64 ((k + 1 : Nat) : Int))] H8 ?ho7 ?he7
  case ho7 => exact ak (by refine fun γ => ⟨rfl, fun w' h => ?_⟩; clear h; go_simp; rw [IntKind.wrap_i64]; omega) trivial
  intro _ w9 H9
  clear H8
  refine rest_at (l := [1]) rfl ?_
  refine rest_set (d := 8) rfl rfl rfl rfl ?_
  simp only [Act.put, sa, sz, ss]
  refine rest_nil (then_normal ?_)
  exact ⟨k + 1, ⟨(slotfn [undef, undef, undef, undef, undef, undef, .int .i64 ((k : Nat) : Int), undef, undef, .bool true, .int .i64 ((k : Nat) : Int), .tuple #[.int .u64 (f k), .int .u64 (cr (k + 1))], .int .i64 ((k : Nat) : Int), .int .i64 ((k : Nat) : Int), PT γ1_0 0, PT γ1_0 (0 + k), .int .u64 (ww al ah k), .int .i64 ((k : Nat) : Int), PT γ1_1 0, PT γ1_1 (0 + k), .int .u64 (ww bl bh k), .int .u64 (cr k), .tuple #[.int .u64 (f k), .int .u64 (cr (k + 1))], .int .u64 (f k), .int .u64 (cr (k + 1)), PT γ1_0 0, PT γ1_0 (0 + k), .int .i64 ((k + 1 : Nat) : Int)]), rfl, ⟨H9.out.1, H9.out.2⟩, by omega⟩, by omega⟩
 have hk6 : k = 6 := by omega
 subst hk6
 refine wp_seq ?_
 refine walk_seqB 1 [.quiet (.bool false)] H4 ?ho8 ?he8
 case ho8 => exact ak (by refine fun γ => ⟨rfl, fun w' h => ?_⟩; clear h; go_simp <;> omega) trivial
 intro _ w10 H10
 clear H4
 refine rest0 rfl (then_normal (wp_seq (wp_cond_false rfl ?_)))
 refine wp_exit ?_
 repeat refine then_exit ?_
 refine block_exit ?_
 refine then_normal (wp_seq (wp_seq ?_))
 refine walk_seqB 1 [.quiet (.int .i64 0)] H10 ?ho9 ?he9
 case ho9 => exact ak (fun _ => ⟨rfl, fun _ _ => rfl⟩) trivial
 intro _ w11 H11
 clear H10
 refine rest0 rfl (then_normal (wp_block ?_))
 refine loop_ghost (α := Nat) (fun k a' w' => ∃ s2 : Nat → Value, a' = ⟨#[V [al, ah], V [bl, bh], PT γ1_0 0, PT γ1_1 0, PT γ1_2 0, .int .u64 (cr (6 + k)), s0 6, s2 7, .int .i64 ((6 : Nat) : Int), .bool false, s0 10, s0 11, s0 12, s0 13, s0 14, s0 15, s0 16, s0 17, s0 18, s0 19, s0 20, s0 21, s0 22, s0 23, s0 24, s0 25, s0 26, s0 27, .int .i64 ((k : Nat) : Int), s2 29, s2 30, s2 31, s2 32, s2 33, s2 34, s2 35, s2 36, s2 37, s2 38, s2 39, s2 40, s2 41, s2 42, s2 43, s2 44, s2 45, s2 46, s2 47, undef], []⟩ ∧ (Mm w' [(γ1_0, row12 (mix f al ah (6 + k))), (γ1_1, cel [bl, bh]), (γ1_2, cel [0, 0])] ∧ Below w.heap.size w w') ∧ k ≤ 6) (fun k => 6 - k) 0 ?st2 ?rd2
 case st2 => exact ⟨(slotfn [undef, undef, undef, undef, undef, undef, undef, undef, undef, undef, undef, undef, undef, undef, undef, undef, undef, undef, undef, undef, undef, undef, undef, undef, undef, undef, undef, undef, undef, undef, undef, undef, undef, undef, undef, undef, undef, undef, undef, undef, undef, undef, undef, undef, undef, undef, undef, undef]), rfl, ⟨H11.out.1, H11.out.2⟩, by omega⟩
 intro k a' w12 hI
 obtain ⟨s2, rfl, hMB, hk2⟩ := hI
 have H12 : Hid (_ ∧ _) := hMB
 clear hMB H11
 by_cases hlt : k < 6
 ·have hrd : True := trivial
  clear hrd
  have hk12 : (6 + k) < 12 := by omega
  refine wp_seq ?_
  refine walk_seqB 1 [.quiet (.bool true)] H12 ?ho10 ?he10
  case ho10 => exact ak (by refine fun γ => ⟨rfl, fun w' h => ?_⟩; clear h; go_simp <;> omega) trivial
  intro _ w13 H13
  clear H12
  refine rest0 rfl (then_normal (wp_seq ?_))
  refine wp_cond_true rfl (wp_skip ?_)
  refine then_normal (wp_seq ?_)
  refine wp_block (wp_seq ?_)
  refine walk_seqB 2 [.quiet (.int .i64 ((k : Nat) : Int)), .quiet (.int .i64 ((k : Nat) : Int))] H13 ?ho11 ?he11
  case ho11 => exact ak (fun _ => ⟨rfl, fun _ _ => rfl⟩) (ak (fun _ => ⟨rfl, fun _ _ => rfl⟩) trivial)
  intro _ w14 H14
  clear H13
  refine rest0 rfl (then_normal ?_)
  refine walk_put (by kernel_rfl) 16 [13] [.quiet (.int .i64 ((k : Nat) : Int)), .quiet (.int .i64 ((k : Nat) : Int)), .quiet (PT γ1_0 6), .quiet (PT γ1_0 (6 + k)), .quiet (.int .u64 (ww al ah (6 + k))), .quiet (.int .i64 ((k : Nat) : Int)), .quiet (PT γ1_1 6), .quiet (PT γ1_1 (6 + k)), .quiet (.int .u64 (ww bl bh (6 + k))), .quiet (.int .u64 (cr (6 + k))), .quiet (.tuple #[.int .u64 (f (6 + k)), .int .u64 (cr (6 + (k + 1)))]), .quiet (.tuple #[.int .u64 (f (6 + k)), .int .u64 (cr (6 + (k + 1)))]), .quiet (.int .u64 (f (6 + k))), .quiet (.int .u64 (cr (6 + (k + 1)))), .quiet (PT γ1_0 6), .quiet (PT γ1_0 (6 + k))] _ ?pre12 ?F12 _ ?hpre12 (fun γ => ?hF12) (by kernel_rfl) rfl trivial (sB H14) ?ho12 ?hla12 ?he12
  case hpre12 => simp only [tk, tz]; rfl
  case hF12 => simp only [fill, Kind.val, Act.put, sa, sz, ss]; rfl
  case ho12 =>
   refine ak (fun _ => ⟨rfl, fun _ _ => rfl⟩) ?_
   refine ak (fun _ => ⟨rfl, fun _ _ => rfl⟩) ?_
   refine ak (by refine fun γ => ⟨rfl, fun w' h => ?_⟩; clear h; go_simp) ?_
   refine ak (fun γ => ⟨rfl, fun w' _ => ex_indexAddr6 rfl rfl rfl hlt⟩) ?_
   refine ak (fun γ => ⟨rfl, fun w' h => ex_load1 h 0 rfl rfl rfl (mix_at hk12)⟩) ?_
   refine ak (fun _ => ⟨rfl, fun _ _ => rfl⟩) ?_
   refine ak (by refine fun γ => ⟨rfl, fun w' h => ?_⟩; clear h; go_simp) ?_
   refine ak (fun γ => ⟨rfl, fun w' _ => ex_indexAddr6 rfl rfl rfl hlt⟩) ?_
   refine ak (fun γ => ⟨rfl, fun w' h => ex_load1 h 1 rfl rfl rfl (by rw [cel_row12]; exact row12_at hk12)⟩) ?_
   refine ak (fun _ => ⟨rfl, fun _ _ => rfl⟩) ?_
   refine ak (fun γ => ⟨rfl, fun w' h => ex_extern rfl (CE.out (6 + k) w') rfl (mpn rfl)⟩) ?_
   refine ak (fun _ => ⟨rfl, fun _ _ => rfl⟩) ?_
   refine ak (by refine fun γ => ⟨rfl, fun w' h => ?_⟩; clear h; go_simp) ?_
   refine ak (by refine fun γ => ⟨rfl, fun w' h => ?_⟩; clear h; go_simp) ?_
   refine ak (by refine fun γ => ⟨rfl, fun w' h => ?_⟩; clear h; go_simp) ?_
   refine ak (fun γ => ⟨rfl, fun w' _ => ex_indexAddr6 rfl rfl rfl hlt⟩) ?_
   exact trivial
  case hla12 => exact ⟨⟨_, _, rfl, rfl, fun γ => ⟨rfl, fun w' => by first | rfl | go_simp⟩⟩, trivial⟩
  intro γ w15 l hM hl
  have H15 := keepB H14 hM.below
  clear hM hl l H14 γ
  refine ⟨_, ex_storeI H15.out.1 0 rfl rfl Tryd.sizeOf22 rfl rfl (row12_bd hk12), ?_⟩
  have H16 : Hid (Mm (w15.setCells γ1_0 (6 + k) [.int .u64 (f (6 + k))]) [(γ1_0, row12 (mix f al ah (6 + (k + 1)))), (γ1_1, cel [bl, bh]), (γ1_2, cel [0, 0])] ∧ Below w.heap.size w (w15.setCells γ1_0 (6 + k) [.int .u64 (f (6 + k))])) := ⟨by
   have h := H15.out.1.put 0 (off := (6 + k)) (vs := [.int .u64 (f (6 + k))]) rfl (row12_bd hk12)
   rw [row12_put hk12, mix_step rfl] at h
   exact h, below_setCells _ o1_0.out _ _ _ H15.out.2⟩
  clear H15
  generalize hgw : World.setCells _ _ _ _ = w16 at H16 ⊢
  clear hgw
  refine rest_at (l := [17]) rfl ?_
  refine rest_set (d := 5) rfl rfl rfl rfl ?_
  simp only [Act.put, sa, sz, ss]
  refine rest_nil (block_normal (then_normal ?_))
  refine walk_seqB 1 [.quiet (.int .i64 ((k + 1 : Nat) : Int))] H16 ?ho13 ?he13
  case ho13 => exact ak (by refine fun γ => ⟨rfl, fun w' h => ?_⟩; clear h; go_simp; rw [IntKind.wrap_i64]; omega) trivial
  intro _ w17 H17
  clear H16
  refine rest_at (l := [1]) rfl ?_
  refine rest_set (d := 28) rfl rfl rfl rfl ?_
  simp only [Act.put, sa, sz, ss]
  refine rest_nil (then_normal ?_)
  exact ⟨k + 1, ⟨(slotfn [undef, undef, undef, undef, undef, undef, undef, .int .i64 ((k : Nat) : Int), undef, undef, undef, undef, undef, undef, undef, undef, undef, undef, undef, undef, undef, undef, undef, undef, undef, undef, undef, undef, undef, .bool true, .int .i64 ((k : Nat) : Int), .tuple #[.int .u64 (f (6 + k)), .int .u64 (cr (6 + (k + 1)))], .int .i64 ((k : Nat) : Int), .int .i64 ((k : Nat) : Int), PT γ1_0 6, PT γ1_0 (6 + k), .int .u64 (ww al ah (6 + k)), .int .i64 ((k : Nat) : Int), PT γ1_1 6, PT γ1_1 (6 + k), .int .u64 (ww bl bh (6 + k)), .int .u64 (cr (6 + k)), .tuple #[.int .u64 (f (6 + k)), .int .u64 (cr (6 + (k + 1)))], .int .u64 (f (6 + k)), .int .u64 (cr (6 + (k + 1))), PT γ1_0 6, PT γ1_0 (6 + k), .int .i64 ((k + 1 : Nat) : Int)]), rfl, ⟨H17.out.1, H17.out.2⟩, by omega⟩, by omega⟩
 have hk6 : k = 6 := by omega
 subst hk6
 have H18 : Hid (Mm w12 [(γ1_0, cel [x, y]), (γ1_1, cel [bl, bh]), (γ1_2, cel [0, 0])] ∧ Below w.heap.size w w12) := ⟨H12.out.1.atk (by rw [mix_end HF.out]), H12.out.2⟩
 clear H12
 refine wp_seq ?_
 refine walk_seqB 1 [.quiet (.bool false)] H18 ?ho14 ?he14
 case ho14 => exact ak (by refine fun γ => ⟨rfl, fun w' h => ?_⟩; clear h; go_simp <;> omega) trivial
 intro _ w19 H19
 clear H18
 refine rest0 rfl (then_normal (wp_seq (wp_cond_false rfl ?_)))
 refine wp_exit ?_
 repeat refine then_exit ?_
 refine block_exit ?_
 refine then_normal (wp_seq ?_)
 refine walk_seqB 1 [.quiet (V [x, y])] H19 ?ho15 ?he15
 case ho15 => exact ak (fun γ => ⟨rfl, fun w' h => ex_loadA (i := 0) (k := 2) h 0 rfl rfl rfl Tryd.isAgg61 Tryd.sizeOf61 rfl rfl⟩) trivial
 intro _ w20 H20
 clear H19
 refine rest_at (l := [1]) rfl ?_
 refine rest_store rfl rfl rfl (ex_storeA (i := 0) (ms := [x, y]) H20.out.1 2 rfl rfl rfl rfl Tryd.sizeOf61 (Nat.le_of_ble_eq_true rfl)) ?_
 have H21 : Hid (Mm (w20.setCells γ1_2 (6 * 0) (cel [x, y])) [(γ1_0, cel [x, y]), (γ1_1, cel [bl, bh]), (γ1_2, cel [x, y])] ∧ Below w.heap.size w (w20.setCells γ1_2 (6 * 0) (cel [x, y]))) := ⟨by
  have h := H20.out.1.put 2 (off := 6 * 0) (vs := cel [x, y]) rfl (by simp only [cel_len]; exact Nat.le_of_ble_eq_true rfl)
  rw [cel_patch] at h
  exact h, below_setCells _ o1_2.out _ _ _ H20.out.2⟩
 clear H20
 generalize hgw : World.setCells _ _ _ _ = w21 at H21 ⊢
 clear hgw
 refine rest_nil (then_normal (wp_ret ?_))
 repeat (first | refine then_ret ?_ | refine block_ret ?_)
 have hf0 := cel_var (k := 2) H21.out.1 2 rfl Tryd.isAgg61 Tryd.sizeOf61 rfl
 refine bodyPost_ret (v := V [x, y]) (by simp [results, Tryd.results61, asAddr, hf0]) rfl ?_
 exact ⟨rfl, H21.out.2⟩
set_option maxHeartbeats 2000000 in
set_option maxRecDepth 100000 in
theorem less_gen (al ah bl bh x y : Nat) (f cr : Nat → Int) (c0 : 0 = cr 0) (hf : ∀ j, j < 12 → f j = ww x y j)
  (ce : ∀ j w, (callFunc 79 #[.int .u64 (ww al ah j), .int .u64 (ww bl bh j), .int .u64 (cr j)]).run Tryd.prog w = .ok (.value (.tuple #[.int .u64 (f j), .int .u64 (cr (j + 1))])) w) (w : World) :
  Calls Tryd.prog 60 #[V [al, ah], V [bl, bh]] w (Rt w (V [x, y])) := by
 have H0 : Hid (_ ∧ _) := ⟨Mm.nil w, Below.refl w.heap.size w⟩
 have C0 : Hid _ := c0
 have CE : Hid _ := ce
 have HF : Hid _ := hf
 clear c0 ce hf
 go_enter Tryd.func60, Tryd.ntmps60
 refine wp_seq ?_
 refine walk_seqA 3 [.made (cel [al, ah]) 61, .made (cel [bl, bh]) 61, .made (cel [0, 0]) 61] (sB H0) ?ho1 ?he1
 case ho1 => exact ak (fun γ => ⟨rfl, fun w' => ex_boxA rfl rfl⟩) (ak (fun γ => ⟨rfl, fun w' => ex_boxA rfl rfl⟩) (ak (fun γ => ⟨rfl, fun w' => ex_madeWD rfl⟩) trivial))
 intro γ w1 l hM hl
 have H1 : Hid (Mm w1 [(γ 0, cel [al, ah]), (γ 1, cel [bl, bh]), (γ 2, cel [0, 0])] ∧ _) := growB H0 hM (Nat.le_refl _) hl [0, 1, 2] rfl (by decide)
 have o1_0 := ownB H0 hM (Nat.le_refl _) hl (i := 0) rfl
 have o1_1 := ownB H0 hM (Nat.le_refl _) hl (i := 1) rfl
 have o1_2 := ownB H0 hM (Nat.le_refl _) hl (i := 2) rfl
 clear hM hl l
 generalize γ 0 = γ1_0 at H1 o1_0 ⊢
 generalize γ 1 = γ1_1 at H1 o1_1 ⊢
 generalize γ 2 = γ1_2 at H1 o1_2 ⊢
 clear γ
 refine rest0 rfl (then_normal (wp_seq ?_))
 refine walk_seqB 1 [.quiet (.int .u64 0)] H1 ?ho2 ?he2
 case ho2 => exact ak (fun _ => ⟨rfl, fun _ _ => rfl⟩) trivial
 intro _ w2 H2
 clear H1
 refine rest0 rfl (then_normal (wp_seq (wp_seq ?_)))
 refine walk_seqB 1 [.quiet (.int .i64 0)] H2 ?ho3 ?he3
 case ho3 => exact ak (fun _ => ⟨rfl, fun _ _ => rfl⟩) trivial
 intro _ w3 H3
 clear H2
 refine rest0 rfl (then_normal (wp_block ?_))
 refine loop_ghost (α := Nat) (fun k a' w' => ∃ s0 : Nat → Value, a' = ⟨#[V [al, ah], V [bl, bh], PT γ1_0 0, PT γ1_1 0, PT γ1_2 0, .int .u64 (cr k), s0 6, undef, .int .i64 ((k : Nat) : Int), s0 9, s0 10, s0 11, s0 12, s0 13, s0 14, s0 15, s0 16, s0 17, s0 18, s0 19, s0 20, s0 21, s0 22, s0 23, s0 24, s0 25, s0 26, s0 27, undef, undef, undef, undef, undef, undef, undef, undef, undef, undef, undef, undef, undef, undef, undef, undef, undef, undef, undef, undef, undef], []⟩ ∧ (Mm w' [(γ1_0, row12 (mix f al ah k)), (γ1_1, cel [bl, bh]), (γ1_2, cel [0, 0])] ∧ Below w.heap.size w w') ∧ k ≤ 6) (fun k => 6 - k) 0 ?st0 ?rd0
 case st0 => exact ⟨(slotfn [undef, undef, undef, undef, undef, undef, undef, undef, undef, undef, undef, undef, undef, undef, undef, undef, undef, undef, undef, undef, undef, undef, undef, undef, undef, undef, undef, undef]), by rw [← C0.out]; rfl, ⟨H3.out.1.atk (by rw [mix_start f al ah]), H3.out.2⟩, by omega⟩
 intro k a' w4 hI
 obtain ⟨s0, rfl, hMB, hk0⟩ := hI
 have H4 : Hid (_ ∧ _) := hMB
 clear hMB H3
 by_cases hlt : k < 6
 ·have hrd : True := trivial
  clear hrd
  have hk12 : k < 12 := by omega
  refine wp_seq ?_
  refine walk_seqB 1 [.quiet (.bool true)] H4 ?ho4 ?he4
  case ho4 => exact ak (by refine fun γ => ⟨rfl, fun w' h => ?_⟩; clear h; go_simp <;> omega) trivial
  intro _ w5 H5
  clear H4
  refine rest0 rfl (then_normal (wp_seq ?_))
  refine wp_cond_true rfl (wp_skip ?_)
  refine then_normal (wp_seq ?_)
  refine wp_block (wp_seq ?_)
  refine walk_seqB 2 [.quiet (.int .i64 ((k : Nat) : Int)), .quiet (.int .i64 ((k : Nat) : Int))] H5 ?ho5 ?he5
  case ho5 => exact ak (fun _ => ⟨rfl, fun _ _ => rfl⟩) (ak (fun _ => ⟨rfl, fun _ _ => rfl⟩) trivial)
  intro _ w6 H6
  clear H5
  refine rest0 rfl (then_normal ?_)
  refine walk_put (by kernel_rfl) 16 [13] [.quiet (.int .i64 ((k : Nat) : Int)), .quiet (.int .i64 ((k : Nat) : Int)), .quiet (PT γ1_0 0), .quiet (PT γ1_0 (0 + k)), .quiet (.int .u64 (ww al ah k)), .quiet (.int .i64 ((k : Nat) : Int)), .quiet (PT γ1_1 0), .quiet (PT γ1_1 (0 + k)), .quiet (.int .u64 (ww bl bh k)), .quiet (.int .u64 (cr k)), .quiet (.tuple #[.int .u64 (f k), .int .u64 (cr (k + 1))]), .quiet (.tuple #[.int .u64 (f k), .int .u64 (cr (k + 1))]), .quiet (.int .u64 (f k)), .quiet (.int .u64 (cr (k + 1))), .quiet (PT γ1_0 0), .quiet (PT γ1_0 (0 + k))] _ ?pre6 ?F6 _ ?hpre6 (fun γ => ?hF6) (by kernel_rfl) rfl trivial (sB H6) ?ho6 ?hla6 ?he6
  case hpre6 => simp only [tk, tz]; rfl
  case hF6 => simp only [fill, Kind.val, Act.put, sa, sz, ss]; rfl
  case ho6 =>
   refine ak (fun _ => ⟨rfl, fun _ _ => rfl⟩) ?_
   refine ak (fun _ => ⟨rfl, fun _ _ => rfl⟩) ?_
   refine ak (by refine fun γ => ⟨rfl, fun w' h => ?_⟩; clear h; go_simp) ?_
   refine ak (fun γ => ⟨rfl, fun w' _ => ex_indexAddr6 rfl rfl rfl hlt⟩) ?_
   refine ak (fun γ => ⟨rfl, fun w' h => ex_load1 h 0 rfl rfl rfl (by rw [off_lo]; exact mix_at hk12)⟩) ?_
   refine ak (fun _ => ⟨rfl, fun _ _ => rfl⟩) ?_
   refine ak (by refine fun γ => ⟨rfl, fun w' h => ?_⟩; clear h; go_simp) ?_
   refine ak (fun γ => ⟨rfl, fun w' _ => ex_indexAddr6 rfl rfl rfl hlt⟩) ?_
   refine ak (fun γ => ⟨rfl, fun w' h => ex_load1 h 1 rfl rfl rfl (by rw [off_lo, cel_row12]; exact row12_at hk12)⟩) ?_
   refine ak (fun _ => ⟨rfl, fun _ _ => rfl⟩) ?_
   refine ak (fun γ => ⟨rfl, fun w' h => ex_extern rfl (CE.out k w') rfl (mpn rfl)⟩) ?_
   refine ak (fun _ => ⟨rfl, fun _ _ => rfl⟩) ?_
   refine ak (by refine fun γ => ⟨rfl, fun w' h => ?_⟩; clear h; go_simp) ?_
   refine ak (by refine fun γ => ⟨rfl, fun w' h => ?_⟩; clear h; go_simp) ?_
   refine ak (by refine fun γ => ⟨rfl, fun w' h => ?_⟩; clear h; go_simp) ?_
   refine ak (fun γ => ⟨rfl, fun w' _ => ex_indexAddr6 rfl rfl rfl hlt⟩) ?_
   exact trivial
  case hla6 => exact ⟨⟨_, _, rfl, rfl, fun γ => ⟨rfl, fun w' => by first | rfl | go_simp⟩⟩, trivial⟩
  intro γ w7 l hM hl
  have H7 := keepB H6 hM.below
  clear hM hl l H6 γ
  refine ⟨_, ex_storeI H7.out.1 0 rfl rfl Tryd.sizeOf22 rfl rfl (by rw [off_lo]; exact row12_bd hk12), ?_⟩
  have H8 : Hid (Mm (w7.setCells γ1_0 (0 + k) [.int .u64 (f k)]) [(γ1_0, row12 (mix f al ah (k + 1))), (γ1_1, cel [bl, bh]), (γ1_2, cel [0, 0])] ∧ Below w.heap.size w (w7.setCells γ1_0 (0 + k) [.int .u64 (f k)])) := ⟨by
   have h := H7.out.1.put 0 (off := (0 + k)) (vs := [.int .u64 (f k)]) rfl (by rw [off_lo]; exact row12_bd hk12)
   rw [row12_put0 hk12, mix_step rfl] at h
   exact h, below_setCells _ o1_0.out _ _ _ H7.out.2⟩
  clear H7
  generalize hgw : World.setCells _ _ _ _ = w8 at H8 ⊢
  clear hgw
  refine rest_at (l := [17]) rfl ?_
  refine rest_set (d := 5) rfl rfl rfl rfl ?_
  simp only [Act.put, sa, sz, ss]
  refine rest_nil (block_normal (then_normal ?_))
  refine walk_seqB 1 [.quiet (.int .i64 ((k + 1 : Nat) : Int))] H8 ?ho7 ?he7
  case ho7 => exact ak (by refine fun γ => ⟨rfl, fun w' h => ?_⟩; clear h; go_simp; rw [IntKind.wrap_i64]; omega) trivial
  intro _ w9 H9
  clear H8
  refine rest_at (l := [1]) rfl ?_
  refine rest_set (d := 8) rfl rfl rfl rfl ?_
  simp only [Act.put, sa, sz, ss]
  refine rest_nil (then_normal ?_)
  exact ⟨k + 1, ⟨(slotfn [undef, undef, undef, undef, undef, undef, .int .i64 ((k : Nat) : Int), undef, undef, .bool true, .int .i64 ((k : Nat) : Int), .tuple #[.int .u64 (f k), .int .u64 (cr (k + 1))], .int .i64 ((k : Nat) : Int), .int .i64 ((k : Nat) : Int), PT γ1_0 0, PT γ1_0 (0 + k), .int .u64 (ww al ah k), .int .i64 ((k : Nat) : Int), PT γ1_1 0, PT γ1_1 (0 + k), .int .u64 (ww bl bh k), .int .u64 (cr k), .tuple #[.int .u64 (f k), .int .u64 (cr (k + 1))], .int .u64 (f k), .int .u64 (cr (k + 1)), PT γ1_0 0, PT γ1_0 (0 + k), .int .i64 ((k + 1 : Nat) : Int)]), rfl, ⟨H9.out.1, H9.out.2⟩, by omega⟩, by omega⟩
 have hk6 : k = 6 := by omega
 subst hk6
 refine wp_seq ?_
 refine walk_seqB 1 [.quiet (.bool false)] H4 ?ho8 ?he8
 case ho8 => exact ak (by refine fun γ => ⟨rfl, fun w' h => ?_⟩; clear h; go_simp <;> omega) trivial
 intro _ w10 H10
 clear H4
 refine rest0 rfl (then_normal (wp_seq (wp_cond_false rfl ?_)))
 refine wp_exit ?_
 repeat refine then_exit ?_
 refine block_exit ?_
 refine then_normal (wp_seq (wp_seq ?_))
 refine walk_seqB 1 [.quiet (.int .i64 0)] H10 ?ho9 ?he9
 case ho9 => exact ak (fun _ => ⟨rfl, fun _ _ => rfl⟩) trivial
 intro _ w11 H11
 clear H10
 refine rest0 rfl (then_normal (wp_block ?_))
 refine loop_ghost (α := Nat) (fun k a' w' => ∃ s2 : Nat → Value, a' = ⟨#[V [al, ah], V [bl, bh], PT γ1_0 0, PT γ1_1 0, PT γ1_2 0, .int .u64 (cr (6 + k)), s0 6, s2 7, .int .i64 ((6 : Nat) : Int), .bool false, s0 10, s0 11, s0 12, s0 13, s0 14, s0 15, s0 16, s0 17, s0 18, s0 19, s0 20, s0 21, s0 22, s0 23, s0 24, s0 25, s0 26, s0 27, .int .i64 ((k : Nat) : Int), s2 29, s2 30, s2 31, s2 32, s2 33, s2 34, s2 35, s2 36, s2 37, s2 38, s2 39, s2 40, s2 41, s2 42, s2 43, s2 44, s2 45, s2 46, s2 47, undef], []⟩ ∧ (Mm w' [(γ1_0, row12 (mix f al ah (6 + k))), (γ1_1, cel [bl, bh]), (γ1_2, cel [0, 0])] ∧ Below w.heap.size w w') ∧ k ≤ 6) (fun k => 6 - k) 0 ?st2 ?rd2
 case st2 => exact ⟨(slotfn [undef, undef, undef, undef, undef, undef, undef, undef, undef, undef, undef, undef, undef, undef, undef, undef, undef, undef, undef, undef, undef, undef, undef, undef, undef, undef, undef, undef, undef, undef, undef, undef, undef, undef, undef, undef, undef, undef, undef, undef, undef, undef, undef, undef, undef, undef, undef, undef]), rfl, ⟨H11.out.1, H11.out.2⟩, by omega⟩
 intro k a' w12 hI
 obtain ⟨s2, rfl, hMB, hk2⟩ := hI
 have H12 : Hid (_ ∧ _) := hMB
 clear hMB H11
 by_cases hlt : k < 6
 ·have hrd : True := trivial
  clear hrd
  have hk12 : (6 + k) < 12 := by omega
  refine wp_seq ?_
  refine walk_seqB 1 [.quiet (.bool true)] H12 ?ho10 ?he10
  case ho10 => exact ak (by refine fun γ => ⟨rfl, fun w' h => ?_⟩; clear h; go_simp <;> omega) trivial
  intro _ w13 H13
  clear H12
  refine rest0 rfl (then_normal (wp_seq ?_))
  refine wp_cond_true rfl (wp_skip ?_)
  refine then_normal (wp_seq ?_)
  refine wp_block (wp_seq ?_)
  refine walk_seqB 2 [.quiet (.int .i64 ((k : Nat) : Int)), .quiet (.int .i64 ((k : Nat) : Int))] H13 ?ho11 ?he11
  case ho11 => exact ak (fun _ => ⟨rfl, fun _ _ => rfl⟩) (ak (fun _ => ⟨rfl, fun _ _ => rfl⟩) trivial)
  intro _ w14 H14
  clear H13
  refine rest0 rfl (then_normal ?_)
  refine walk_put (by kernel_rfl) 16 [13] [.quiet (.int .i64 ((k : Nat) : Int)), .quiet (.int .i64 ((k : Nat) : Int)), .quiet (PT γ1_0 6), .quiet (PT γ1_0 (6 + k)), .quiet (.int .u64 (ww al ah (6 + k))), .quiet (.int .i64 ((k : Nat) : Int)), .quiet (PT γ1_1 6), .quiet (PT γ1_1 (6 + k)), .quiet (.int .u64 (ww bl bh (6 + k))), .quiet (.int .u64 (cr (6 + k))), .quiet (.tuple #[.int .u64 (f (6 + k)), .int .u64 (cr (6 + (k + 1)))]), .quiet (.tuple #[.int .u64 (f (6 + k)), .int .u64 (cr (6 + (k + 1)))]), .quiet (.int .u64 (f (6 + k))), .quiet (.int .u64 (cr (6 + (k + 1)))), .quiet (PT γ1_0 6), .quiet (PT γ1_0 (6 + k))] _ ?pre12 ?F12 _ ?hpre12 (fun γ => ?hF12) (by kernel_rfl) rfl trivial (sB H14) ?ho12 ?hla12 ?he12
  case hpre12 => simp only [tk, tz]; rfl
  case hF12 => simp only [fill, Kind.val, Act.put, sa, sz, ss]; rfl
  case ho12 =>
   refine ak (fun _ => ⟨rfl, fun _ _ => rfl⟩) ?_
   refine ak (fun _ => ⟨rfl, fun _ _ => rfl⟩) ?_
   refine ak (by refine fun γ => ⟨rfl, fun w' h => ?_⟩; clear h; go_simp) ?_
   refine ak (fun γ => ⟨rfl, fun w' _ => ex_indexAddr6 rfl rfl rfl hlt⟩) ?_
   refine ak (fun γ => ⟨rfl, fun w' h => ex_load1 h 0 rfl rfl rfl (mix_at hk12)⟩) ?_
   refine ak (fun _ => ⟨rfl, fun _ _ => rfl⟩) ?_
   refine ak (by refine fun γ => ⟨rfl, fun w' h => ?_⟩; clear h; go_simp) ?_
   refine ak (fun γ => ⟨rfl, fun w' _ => ex_indexAddr6 rfl rfl rfl hlt⟩) ?_
   refine ak (fun γ => ⟨rfl, fun w' h => ex_load1 h 1 rfl rfl rfl (by rw [cel_row12]; exact row12_at hk12)⟩) ?_
   refine ak (fun _ => ⟨rfl, fun _ _ => rfl⟩) ?_
   refine ak (fun γ => ⟨rfl, fun w' h => ex_extern rfl (CE.out (6 + k) w') rfl (mpn rfl)⟩) ?_
   refine ak (fun _ => ⟨rfl, fun _ _ => rfl⟩) ?_
   refine ak (by refine fun γ => ⟨rfl, fun w' h => ?_⟩; clear h; go_simp) ?_
   refine ak (by refine fun γ => ⟨rfl, fun w' h => ?_⟩; clear h; go_simp) ?_
   refine ak (by refine fun γ => ⟨rfl, fun w' h => ?_⟩; clear h; go_simp) ?_
   refine ak (fun γ => ⟨rfl, fun w' _ => ex_indexAddr6 rfl rfl rfl hlt⟩) ?_
   exact trivial
  case hla12 => exact ⟨⟨_, _, rfl, rfl, fun γ => ⟨rfl, fun w' => by first | rfl | go_simp⟩⟩, trivial⟩
  intro γ w15 l hM hl
  have H15 := keepB H14 hM.below
  clear hM hl l H14 γ
  refine ⟨_, ex_storeI H15.out.1 0 rfl rfl Tryd.sizeOf22 rfl rfl (row12_bd hk12), ?_⟩
  have H16 : Hid (Mm (w15.setCells γ1_0 (6 + k) [.int .u64 (f (6 + k))]) [(γ1_0, row12 (mix f al ah (6 + (k + 1)))), (γ1_1, cel [bl, bh]), (γ1_2, cel [0, 0])] ∧ Below w.heap.size w (w15.setCells γ1_0 (6 + k) [.int .u64 (f (6 + k))])) := ⟨by
   have h := H15.out.1.put 0 (off := (6 + k)) (vs := [.int .u64 (f (6 + k))]) rfl (row12_bd hk12)
   rw [row12_put hk12, mix_step rfl] at h
   exact h, below_setCells _ o1_0.out _ _ _ H15.out.2⟩
  clear H15
  generalize hgw : World.setCells _ _ _ _ = w16 at H16 ⊢
  clear hgw
  refine rest_at (l := [17]) rfl ?_
  refine rest_set (d := 5) rfl rfl rfl rfl ?_
  simp only [Act.put, sa, sz, ss]
  refine rest_nil (block_normal (then_normal ?_))
  refine walk_seqB 1 [.quiet (.int .i64 ((k + 1 : Nat) : Int))] H16 ?ho13 ?he13
  case ho13 => exact ak (by refine fun γ => ⟨rfl, fun w' h => ?_⟩; clear h; go_simp; rw [IntKind.wrap_i64]; omega) trivial
  intro _ w17 H17
  clear H16
  refine rest_at (l := [1]) rfl ?_
  refine rest_set (d := 28) rfl rfl rfl rfl ?_
  simp only [Act.put, sa, sz, ss]
  refine rest_nil (then_normal ?_)
  exact ⟨k + 1, ⟨(slotfn [undef, undef, undef, undef, undef, undef, undef, .int .i64 ((k : Nat) : Int), undef, undef, undef, undef, undef, undef, undef, undef, undef, undef, undef, undef, undef, undef, undef, undef, undef, undef, undef, undef, undef, .bool true, .int .i64 ((k : Nat) : Int), .tuple #[.int .u64 (f (6 + k)), .int .u64 (cr (6 + (k + 1)))], .int .i64 ((k : Nat) : Int), .int .i64 ((k : Nat) : Int), PT γ1_0 6, PT γ1_0 (6 + k), .int .u64 (ww al ah (6 + k)), .int .i64 ((k : Nat) : Int), PT γ1_1 6, PT γ1_1 (6 + k), .int .u64 (ww bl bh (6 + k)), .int .u64 (cr (6 + k)), .tuple #[.int .u64 (f (6 + k)), .int .u64 (cr (6 + (k + 1)))], .int .u64 (f (6 + k)), .int .u64 (cr (6 + (k + 1))), PT γ1_0 6, PT γ1_0 (6 + k), .int .i64 ((k + 1 : Nat) : Int)]), rfl, ⟨H17.out.1, H17.out.2⟩, by omega⟩, by omega⟩
 have hk6 : k = 6 := by omega
 subst hk6
 have H18 : Hid (Mm w12 [(γ1_0, cel [x, y]), (γ1_1, cel [bl, bh]), (γ1_2, cel [0, 0])] ∧ Below w.heap.size w w12) := ⟨H12.out.1.atk (by rw [mix_end HF.out]), H12.out.2⟩
 clear H12
 refine wp_seq ?_
 refine walk_seqB 1 [.quiet (.bool false)] H18 ?ho14 ?he14
 case ho14 => exact ak (by refine fun γ => ⟨rfl, fun w' h => ?_⟩; clear h; go_simp <;> omega) trivial
 intro _ w19 H19
 clear H18
 refine rest0 rfl (then_normal (wp_seq (wp_cond_false rfl ?_)))
 refine wp_exit ?_
 repeat refine then_exit ?_
 refine block_exit ?_
 refine then_normal (wp_seq ?_)
 refine walk_seqB 1 [.quiet (V [x, y])] H19 ?ho15 ?he15
 case ho15 => exact ak (fun γ => ⟨rfl, fun w' h => ex_loadA (i := 0) (k := 2) h 0 rfl rfl rfl Tryd.isAgg61 Tryd.sizeOf61 rfl rfl⟩) trivial
 intro _ w20 H20
 clear H19
 refine rest_at (l := [1]) rfl ?_
 refine rest_store rfl rfl rfl (ex_storeA (i := 0) (ms := [x, y]) H20.out.1 2 rfl rfl rfl rfl Tryd.sizeOf61 (Nat.le_of_ble_eq_true rfl)) ?_
 have H21 : Hid (Mm (w20.setCells γ1_2 (6 * 0) (cel [x, y])) [(γ1_0, cel [x, y]), (γ1_1, cel [bl, bh]), (γ1_2, cel [x, y])] ∧ Below w.heap.size w (w20.setCells γ1_2 (6 * 0) (cel [x, y]))) := ⟨by
  have h := H20.out.1.put 2 (off := 6 * 0) (vs := cel [x, y]) rfl (by simp only [cel_len]; exact Nat.le_of_ble_eq_true rfl)
  rw [cel_patch] at h
  exact h, below_setCells _ o1_2.out _ _ _ H20.out.2⟩
 clear H20
 generalize hgw : World.setCells _ _ _ _ = w21 at H21 ⊢
 clear hgw
 refine rest_nil (then_normal (wp_ret ?_))
 repeat (first | refine then_ret ?_ | refine block_ret ?_)
 have hf0 := cel_var (k := 2) H21.out.1 2 rfl Tryd.isAgg61 Tryd.sizeOf61 rfl
 refine bodyPost_ret (v := V [x, y]) (by simp [results, Tryd.results60, asAddr, hf0]) rfl ?_
 exact ⟨rfl, H21.out.2⟩
end Rg
end Go.Proofs.YtgdlhgbdigpfhabDoor
end
section
namespace Go.Proofs.YtgdlhgbdigpfhabDoor
open Go.RowKit
namespace Rg
theorem sub_wordn (a b k n : Nat) (hk : k < n) (hb : b < 2 ^ (64 * n)) : subLo (wd a k) (wd b k) (brw a b k) = wd (a + 2 ^ (64 * n) - b) k := by
 unfold subLo wd brw
 have e : 2 ^ (64 * n) = 2 ^ (64 * k) * (18446744073709551616 * 2 ^ (64 * (n - 1 - k))) := by
  have : 64 * n = 64 * k + (64 + 64 * (n - 1 - k)) := by omega
  rw [this, Nat.pow_add, Nat.pow_add]
 have hp := pow_pos' k
 rw [e] at hb ⊢
 generalize 2 ^ (64 * (n - 1 - k)) = R at hb ⊢
 generalize 2 ^ (64 * k) = B at hp hb ⊢
 have hbh : b / B < 18446744073709551616 * R := (Nat.div_lt_iff_lt_mul hp).2 (by rw [Nat.mul_comm]; exact hb)
 have da := Nat.div_add_mod a B
 have db := Nat.div_add_mod b B
 have la := Nat.mod_lt a hp
 have lb := Nat.mod_lt b hp
 generalize a / B = x at da ⊢
 generalize b / B = y at db hbh ⊢
 generalize a % B = p at da la ⊢
 generalize b % B = q at db lb ⊢
 by_cases h : p < q
 ·have e2 : a + B * (18446744073709551616 * R) - b = (p + B - q) + B * (x + 18446744073709551616 * R - y - 1) := by
   have h3 : B * (x + 18446744073709551616 * R - y - 1) = B * x + B * (18446744073709551616 * R) - B * y - B := by
    rw [Nat.mul_sub, Nat.mul_sub, Nat.mul_add, Nat.mul_one]
   have h4 : B * y + B ≤ B * (18446744073709551616 * R) := by rw [← Nat.mul_succ]; exact Nat.mul_le_mul_left B hbh
   rw [h3]; omega
  rw [e2, Nat.add_mul_div_left _ _ hp, Nat.div_eq_of_lt (by omega : p + B - q < B), if_pos h]
  omega
 ·have e2 : a + B * (18446744073709551616 * R) - b = (p - q) + B * (x + 18446744073709551616 * R - y) := by
   have h3 : B * (x + 18446744073709551616 * R - y) = B * x + B * (18446744073709551616 * R) - B * y := by
    rw [Nat.mul_sub, Nat.mul_add]
   have h4 : B * y + B ≤ B * (18446744073709551616 * R) := by rw [← Nat.mul_succ]; exact Nat.mul_le_mul_left B hbh
   rw [h3]; omega
  rw [e2, Nat.add_mul_div_left _ _ hp, Nat.div_eq_of_lt (by omega : p - q < B), if_neg h]
  omega
/-! Wide numbers stand for integers. -/
def bb : Nat := big * big
theorem bb_pow : ∃ n, n = 12 ∧ bb = 2 ^ (64 * n) := by
 obtain ⟨m, hm, e⟩ := big_pow
 refine ⟨m + m, by omega, ?_⟩
 unfold bb
 rw [e, ← Nat.pow_add, Nat.mul_add]
theorem bb_pos : 0 < bb := Nat.mul_pos big_pos big_pos
theorem bbI : (0 : Int) < (bb : Int) := by have := bb_pos; omega
def wz (z : Int) : Nat := (z % (bb : Int)).toNat
theorem wz_cast (z : Int) : ((wz z : Nat) : Int) = z % (bb : Int) := Int.toNat_of_nonneg (Int.emod_nonneg _ (by have := bbI; omega))
theorem wz_lt (z : Int) : wz z < bb := by
 have h := wz_cast z
 have h2 := Int.emod_lt_of_pos z bbI
 omega
theorem wz_nat (n : Nat) (h : n < bb) : wz n = n := by
 have e := wz_cast n
 rw [Int.emod_eq_of_lt (by omega) (by omega)] at e
 omega
theorem wz_add (x y : Int) : wz (x + y) = (wz x + wz y) % bb := by
 have h : ((wz (x + y) : Nat) : Int) = (((wz x + wz y) % bb : Nat) : Int) := by
  rw [wz_cast, Int.natCast_emod, Int.natCast_add, wz_cast, wz_cast, ← Int.add_emod]
 omega
theorem wz_sub (x y : Int) : wz (x - y) = (wz x + bb - wz y) % bb := by
 have hy := wz_lt y
 have h : ((wz (x - y) : Nat) : Int) = (((wz x + bb - wz y) % bb : Nat) : Int) := by
  rw [wz_cast, Int.natCast_emod, show ((wz x + bb - wz y : Nat) : Int) = (wz x : Int) - (wz y : Int) + (bb : Int) by omega, Int.add_emod_right, wz_cast, wz_cast, ← Int.sub_emod]
 omega
abbrev lo (z : Int) : Nat := wz z % big
abbrev hi (z : Int) : Nat := wz z / big
theorem ww_wd (X j : Nat) : ww (X % big) (X / big) j = wd X j := by
 unfold ww
 by_cases h : j < 6
 ·rw [if_pos h, wd_mod _ _ h]
 ·rw [if_neg h, ← wd_hi, show j - 6 + 6 = j by omega]
theorem wd_modn (v j n : Nat) (h : j < n) : wd (v % 2 ^ (64 * n)) j = wd v j := by
 unfold wd
 have e : 2 ^ (64 * n) = 2 ^ (64 * j) * (18446744073709551616 * 2 ^ (64 * (n - 1 - j))) := by
  have : 64 * n = 64 * j + (64 + 64 * (n - 1 - j)) := by omega
  rw [this, Nat.pow_add, Nat.pow_add]
 rw [e, Nat.mod_mul_right_div_self, Nat.mod_mul_right_mod]
theorem plusZ_any (x y : Int) (w : World) : Calls Tryd.prog 61 #[V [lo x, hi x], V [lo y, hi y]] w (Rt w (V [lo (x + y), hi (x + y)])) := by
 obtain ⟨n, hn, eb⟩ := bb_pow
 refine plus_gen (lo x) (hi x) (lo y) (hi y) (lo (x + y)) (hi (x + y)) (fun j => wd (wz x + wz y) j) (fun j => cry (wz x) (wz y) j) ?_ (fun j hj => ?_) (fun j w => ?_) w
 ·unfold cry; simp [Nat.mod_one]
 ·rw [ww_wd, wz_add, eb, wd_modn _ _ _ (by omega)]
 ·rw [ww_wd, ww_wd]
  have h := add64' (wd (wz x) j) (wd (wz y) j) (cry (wz x) (wz y) j) (wd_bd _ _).1 (wd_bd _ _).1 (cry_bd _ _ _).1 (cry_bd _ _ _).2 w
  rw [add_word, add_cry] at h
  exact h
theorem lessZ_any (x y : Int) (w : World) : Calls Tryd.prog 60 #[V [lo x, hi x], V [lo y, hi y]] w (Rt w (V [lo (x - y), hi (x - y)])) := by
 obtain ⟨n, hn, eb⟩ := bb_pow
 refine less_gen (lo x) (hi x) (lo y) (hi y) (lo (x - y)) (hi (x - y)) (fun j => subLo (wd (wz x) j) (wd (wz y) j) (brw (wz x) (wz y) j)) (fun j => brw (wz x) (wz y) j) ?_ (fun j hj => ?_) (fun j w => ?_) w
 ·unfold brw; simp [Nat.mod_one]
 ·have hy := wz_lt y
  show subLo (wd (wz x) j) (wd (wz y) j) (brw (wz x) (wz y) j) = _
  rw [ww_wd, wz_sub, eb, wd_modn _ _ _ (by omega)]
  rw [eb] at hy
  exact sub_wordn _ _ _ n (by omega) hy
 ·rw [ww_wd, ww_wd]
  have h := sub64' (wd (wz x) j) (wd (wz y) j) (brw (wz x) (wz y) j) (wd_bd _ _).1 (wd_bd _ _).1 (wd_bd _ _).2 (brw_bd _ _ _).1 (brw_bd _ _ _).2 w
  rw [sub_cry] at h
  exact h
theorem timesZ_any (a b : Nat) (ha : a < big) (hb : b < big) (w : World) : Calls Tryd.prog 72 #[N a, N b] w (Rt w (V [lo ((a : Int) * b), hi ((a : Int) * b)])) := by
 have h : wz ((a : Int) * b) = a * b := by
  rw [← Int.natCast_mul]
  exact wz_nat _ (Nat.mul_lt_mul'' ha hb)
 have ht := times_gen a b (a * b % big) (a * b / big) (fun w => mul_any a b ha hb w) w
 unfold lo hi
 rw [h]
 exact ht
/-! Numbers by p. -/
theorem left_any (a : Nat) (ha : a < big) (w : World) : Calls Tryd.prog 48 #[N a] w (Rt w (N (a % pB))) := by
 have hp := pB_lt
 have hpos : 0 < pB := pB_ok.pos
 have cb := base_pB
 generalize pB = p at *
 have hdm := Nat.div_add_mod a p
 have hlt := Nat.mod_lt a hpos
 have e : a - a / p * p = a % p := by rw [Nat.mul_comm]; omega
 have hk : ∀ k, k ≤ a / p → k * p ≤ a := fun k hk => Nat.le_trans (Nat.mul_le_mul hk (Nat.le_refl p)) (by rw [Nat.mul_comm]; omega)
 have h := left_gen a p ((a % p + big - p) % big) (a / p) (fun k => a - k * p) (by simp) cb (fun k hk' w => ?_) (fun w => ?_) w
 ·rw [e] at h
  exact h
 ·have h1 := hk (k + 1) hk'
  rw [Nat.add_mul, Nat.one_mul] at h1
  have h := sub_any (a - k * p) p (by omega) hp w
  rw [decide_eq_false (by omega), show a - k * p + big - p = a - (k + 1) * p + big by rw [Nat.add_mul, Nat.one_mul]; omega, Nat.add_mod_right, Nat.mod_eq_of_lt (by omega)] at h
  exact h
 ·rw [e]
  have h := sub_any (a % p) p (by omega) hp w
  rw [decide_eq_true hlt] at h
  exact h
theorem together_any (a b : Nat) (h : a + b < big) (w : World) : Calls Tryd.prog 76 #[N a, N b] w (Rt w (N (a + b))) := by
 have c := fun w => add_any a b (by omega) (by omega) w
 rw [Nat.mod_eq_of_lt h] at c
 exact together_gen a b _ _ c w
theorem sumP_any (a b : Nat) (h : a + b < big) (w : World) : Calls Tryd.prog 53 #[N a, N b] w (Rt w (N ((a + b) % pB))) :=
 sum_gen a b _ _ (fun w => together_any a b h w) (fun w => left_any (a + b) h w) w
theorem diffP_any (a b : Nat) (ha : a < pB) (hb : b < pB) (w : World) : Calls Tryd.prog 44 #[N a, N b] w (Rt w (N (subm pB a b))) := by
 have hp := pB_lt
 have cb := base_pB
 have ht := pB_ok.top
 generalize pB = p at *
 have c := fun w => sub_any a b (by omega) (by omega) w
 have hm : b % p = b := Nat.mod_eq_of_lt hb
 by_cases h : a < b
 ·rw [decide_eq_true h, Nat.mod_eq_of_lt (show a + big - b < big by omega)] at c
  have c2 := fun w => add_any (a + big - b) p (by omega) hp w
  have e : (a + big - b + p) % big = subm p a b := by
   unfold subm
   rw [hm, show a + big - b + p = a + (p - b) + big by omega, Nat.add_mod_right, Nat.mod_eq_of_lt (by omega), Nat.mod_eq_of_lt (by omega)]
  rw [e] at c2
  exact diff_2 a b _ _ _ _ c cb c2 w
 ·have e : (a + big - b) % big = subm p a b := by
   unfold subm
   rw [hm, show a + big - b = a - b + big by omega, Nat.add_mod_right, Nat.mod_eq_of_lt (by omega), show a + (p - b) = a - b + p by omega, Nat.add_mod_right, Nat.mod_eq_of_lt (by omega)]
  rw [decide_eq_false h, e] at c
  exact diff_1 a b _ c w
end Rg
end Go.Proofs.YtgdlhgbdigpfhabDoor
end
section
namespace Go.Proofs.YtgdlhgbdigpfhabDoor
open Go.RowKit
namespace Rg
theorem Mm.over {u w : World} {l : List (Nat × List Value)} {g : Nat} {cs : List Value} (h0 : Mm u l) (hge : u.heap.size ≤ g) (h1 : Mm w l) (hb : Blk w g cs) (hlt : g < w.heap.size) : Mm w ((g, cs) :: l) :=
 h1.cons hb hlt (fun p hp => by have := (h0.blk p hp).1; omega)
theorem ex_madeF {ρ : Operand → Value} {o : Oper} {w : World} (ho : o.op = .alloc 47) :
  (execOp ρ o).run Tryd.prog w = .ok (.value (.pointer (some ⟨w.heap.size, 0, none⟩))) (w.alloc (.cells [.pointer none].toArray 47)) := by
 simp only [execOp, ho]
 go_simp
theorem ex_buildF {ρ : Operand → Value} {o : Oper} {x : Operand} {g : Nat} {w : World} (ho : o.op = .build 47 #[(0, x)]) (hx : ρ x = PT g 0) : (execOp ρ o).run Tryd.prog w = .ok (.value (.agg #[PT g 0])) w := by
 simp only [execOp, ho]
 go_simp
theorem ex_storeF {ρ : Operand → Value} {o : Oper} {x y : Operand} {g b : Nat} {cs : List Value} {w : World} {l : List (Nat × List Value)} (h : Mm w l) (k : Nat) (hk : l[k]? = some (g, cs)) (ho : o.op = .store 47 x y) (hx : ρ x = PT g 0) (hy : ρ y = .agg #[PT b 0]) (hc : 0 < cs.length) :
  (execOp ρ o).run Tryd.prog w = .ok .skip (w.setCells g 0 [PT b 0]) := by
 have hm := List.mem_of_getElem? hk
 have e : cs[0]? = some (cs[0]'hc) := List.getElem?_eq_getElem _
 have c0 := h.cell hm e
 have f0 := h.free hm e
 clear h hm hk
 simp only [execOp, ho, hx, hy]
 go_simp
 simp [World.setCells]
set_option maxHeartbeats 1000000 in
set_option maxRecDepth 100000 in
theorem great_gen (n : Nat)
  (c0 : ∀ w, Calls Tryd.prog 7 #[] w (Rt w (N n)))
  (c1 : ∀ w, Calls Tryd.prog 34 #[N n] w fun e w' => Below w.heap.size w w' ∧ ∃ g, e = .returned (.tuple #[PT g 0, .int .i64 0]) ∧ w.heap.size ≤ g ∧ g < w'.heap.size ∧ Blk w' g (modc n)) (w : World) :
  Calls Tryd.prog 20 #[] w fun e w' => Below w.heap.size w w' ∧ ∃ g, e = .returned (.agg #[PT g 0]) ∧ w.heap.size ≤ g ∧ g < w'.heap.size ∧ Blk w' g (modc n) := by
 have H0 : Hid (_ ∧ _) := ⟨Mm.nil w, Below.refl w.heap.size w⟩
 have C0 : Hid _ := c0
 have C1 : Hid _ := c1
 clear c0 c1
 go_enter Tryd.func20, Tryd.ntmps20
 refine wp_seq ?_
 refine walk_seqA 1 [.made [.pointer none] 47] (sB H0) ?ho1 ?he1
 case ho1 => exact ak (fun γ => ⟨rfl, fun w' => ex_madeF rfl⟩) trivial
 intro γ w1 l hM hl
 have H1 : Hid (Mm w1 [(γ 0, [.pointer none])] ∧ _) := growB H0 hM (Nat.le_refl _) hl [0] rfl (by decide)
 have o1_0 := ownB H0 hM (Nat.le_refl _) hl (i := 0) rfl
 clear hM hl l
 generalize γ 0 = γ1_0 at H1 o1_0 ⊢
 clear γ
 refine rest0 rfl (then_normal (wp_seq ?_))
 refine walk_seqA 2 [.call (N n), .born (fun g => .tuple #[PT g 0, .int .i64 0]) (modc n)] (sB H1) ?ho2 ?he2
 case ho2 => exact ak (fun γ => ⟨rfl, fun w' h => ⟨7, #[], exec_call rfl call7 rfl (mpn rfl), C0.out w'⟩⟩) (ak (fun γ => ⟨rfl, fun w' h => ⟨34, #[N n], exec_call rfl call34 rfl (mpn rfl), C1.out w'⟩⟩) trivial)
 intro γ w2 l hM hl
 have H2 : Hid (Mm w2 [(γ 1, modc n), (γ1_0, [.pointer none])] ∧ _) := growB H1 hM (Nat.le_refl _) hl [1] rfl (by decide)
 have o2_1 := ownB H1 hM (Nat.le_refl _) hl (i := 1) rfl
 clear hM hl l H1
 generalize γ 1 = γ2_1 at H2 o2_1 ⊢
 clear γ
 refine rest_at (l := [2, 3, 4, 5, 6]) rfl ?_
 refine rest_set (d := 3) rfl rfl rfl rfl ?_
 simp only [Act.put, sa, sz, ss]
 refine rest_set (d := 6) (v := PT γ2_1 0) (w' := w2) rfl rfl rfl (by go_simp) ?_
 simp only [Act.put, sa, sz, ss]
 refine rest_set (d := 7) (v := .int .i64 0) (w' := w2) rfl rfl rfl (by go_simp) ?_
 simp only [Act.put, sa, sz, ss]
 refine rest_set (d := 1) rfl rfl rfl rfl ?_
 simp only [Act.put, sa, sz, ss]
 refine rest_set (d := 2) rfl rfl rfl rfl ?_
 simp only [Act.put, sa, sz, ss]
 refine rest_nil (then_normal (wp_seq ?_))
 refine walk_seqB 2 [.quiet (PT γ2_1 0), .quiet (.agg #[PT γ2_1 0])] H2 ?ho3 ?he3
 case ho3 => exact ak (fun _ => ⟨rfl, fun _ _ => rfl⟩) (ak (fun γ => ⟨rfl, fun w' _ => ex_buildF rfl rfl⟩) trivial)
 intro _ w3 H3
 clear H2
 refine rest_at (l := [2]) rfl ?_
 refine rest_store rfl rfl rfl (ex_storeF H3.out.1 1 rfl rfl rfl rfl (Nat.le_of_ble_eq_true rfl)) ?_
 have H4 : Hid (Mm (w3.setCells γ1_0 0 [PT γ2_1 0]) [(γ2_1, modc n), (γ1_0, [PT γ2_1 0])] ∧ Below w.heap.size w (w3.setCells γ1_0 0 [PT γ2_1 0])) := ⟨H3.out.1.put 1 (off := 0) (vs := [PT γ2_1 0]) rfl (Nat.le_of_ble_eq_true rfl), below_setCells _ o1_0.out _ _ _ H3.out.2⟩
 clear H3
 generalize hgw : World.setCells _ _ _ _ = w4 at H4 ⊢
 clear hgw
 refine rest_nil (then_normal (wp_ret ?_))
 repeat (first | refine then_ret ?_ | refine block_ret ?_)
 have hf0 := H4.out.1.get 1 rfl 0 rfl
 refine bodyPost_ret (v := .agg #[PT γ2_1 0]) (by simp [results, Tryd.results20, go_sem, *]) rfl ?_
 exact ⟨H4.out.2, γ2_1, rfl, o2_1.out, H4.out.1.lt (List.mem_of_getElem? (i := 0) rfl), (H4.out.1.blk _ (List.mem_of_getElem? (i := 0) rfl)).2⟩
set_option maxHeartbeats 1000000 in
set_option maxRecDepth 100000 in
theorem rest_gen (g n o s u0 u1 d x r : Nat) (cx : Bool)
  (c0 : ∀ w, Mm w [(g, modx n o s)] → Calls Tryd.prog 77 #[PT g 0] w (Rt w (N n)))
  (c1 : ∀ w, Calls Tryd.prog 75 #[N n, .int .i64 1] w (Rt w (N d)))
  (c2 : ∀ w, Calls Tryd.prog 65 #[N u1, N d] w (Rt w (.tuple #[N x, .bool cx])))
  (c3 : ∀ w, Mm w [(g, modx n o s)] → Calls Tryd.prog 81 #[PT g 0, N u0, N x] w (Rt w (N r))) (w : World) (hm : Mm w [(g, modx n o s)]) :
  Calls Tryd.prog 62 #[.agg #[PT g 0], V [u0, u1]] w (Rt w (N r)) := by
 have H0 : Hid (_ ∧ _) := ⟨hm, Below.refl w.heap.size w⟩
 clear hm
 have C0 : Hid _ := c0
 have C1 : Hid _ := c1
 have C2 : Hid _ := c2
 have C3 : Hid _ := c3
 clear c0 c1 c2 c3
 go_enter Tryd.func62, Tryd.ntmps62
 refine wp_seq ?_
 refine walk_seqA 3 [.made [PT g 0] 47, .made (cel [u0, u1]) 61, .made zero6 24] (sB H0) ?ho1 ?he1
 case ho1 => exact ak (fun γ => ⟨rfl, fun w' => ex_boxF rfl rfl⟩) (ak (fun γ => ⟨rfl, fun w' => ex_boxA rfl rfl⟩) (ak (fun γ => ⟨rfl, fun w' => exec_made6 rfl⟩) trivial))
 intro γ w1 l hM hl
 have H1 : Hid (Mm w1 [(γ 0, [PT g 0]), (γ 1, cel [u0, u1]), (γ 2, zero6), (g, modx n o s)] ∧ _) := growB H0 hM (Nat.le_refl _) hl [0, 1, 2] rfl (by decide)
 have o1_0 := ownB H0 hM (Nat.le_refl _) hl (i := 0) rfl
 have o1_1 := ownB H0 hM (Nat.le_refl _) hl (i := 1) rfl
 have o1_2 := ownB H0 hM (Nat.le_refl _) hl (i := 2) rfl
 clear hM hl l
 generalize γ 0 = γ1_0 at H1 o1_0 ⊢
 generalize γ 1 = γ1_1 at H1 o1_1 ⊢
 generalize γ 2 = γ1_2 at H1 o1_2 ⊢
 clear γ
 refine rest0 rfl (then_normal (wp_seq ?_))
 refine walk_anyA 13 [.quiet (PT γ1_1 6), .quiet (N u1), .quiet (PT γ1_0 0), .quiet (PT g 0), .call (N n), .call (N d), .call (.tuple #[N x, .bool cx]), .quiet (.tuple #[N x, .bool cx]), .quiet (N x), .quiet (.bool cx), .made zero6 24, .laid 10 zero6 (cells6 x), .quiet (.bool cx)] (sB H1) ?ho2 ?he2 (hL := ?hL2)
 case hL2 => exact ⟨⟨_, rfl⟩, trivial⟩
 case ho2 => exact ak (by refine fun γ => ⟨rfl, fun w' h => ?_⟩; clear h; go_simp) (ak (fun γ => ⟨rfl, fun w' h => ex_loadN (i := 1) h 1 rfl rfl rfl rfl⟩) (ak (by refine fun γ => ⟨rfl, fun w' h => ?_⟩; clear h; go_simp) (ak (fun γ => ⟨rfl, fun w' h => ex_loadQ h 0 rfl rfl rfl rfl⟩) (ak (fun γ => ⟨rfl, fun w' h => ⟨77, #[PT g 0], exec_call rfl call77 rfl (mpn rfl), C0.out w' (h.one 3 rfl)⟩⟩) (ak (fun γ => ⟨rfl, fun w' h => ⟨75, #[N n, .int .i64 1], exec_call rfl call75 rfl (mpn rfl), C1.out w'⟩⟩) (ak (fun γ => ⟨rfl, fun w' h => ⟨65, #[N u1, N d], exec_call rfl call65 rfl (mpn rfl), C2.out w'⟩⟩) (ak (fun _ => ⟨rfl, fun _ _ => rfl⟩) (ak (by refine fun γ => ⟨rfl, fun w' h => ?_⟩; clear h; go_simp) (ak (by refine fun γ => ⟨rfl, fun w' h => ?_⟩; clear h; go_simp) (ak (fun γ => ⟨rfl, fun w' => exec_made6 rfl⟩) (ak (fun γ => ⟨rfl, rfl, rfl, fun w' h => exec_laid6 h rfl rfl rfl⟩) (ak (fun _ => ⟨rfl, fun _ _ => rfl⟩) trivial))))))))))))
 intro γ w2 l hM hl
 have H2 : Hid (Mm w2 [(γ 10, cells6 x), (γ1_0, [PT g 0]), (γ1_1, cel [u0, u1]), (γ1_2, zero6), (g, modx n o s)] ∧ _) := growB H1 hM (Nat.le_refl _) hl [10] rfl (by decide)
 have o2_10 := ownB H1 hM (Nat.le_refl _) hl (i := 10) rfl
 clear hM hl l H1
 generalize γ 10 = γ2_10 at H2 o2_10 ⊢
 clear γ
 refine rest0 rfl (then_normal (wp_seq ?_))
 refine walk_seqB 6 [.quiet (PT γ1_0 0), .quiet (PT g 0), .quiet (PT γ1_1 0), .quiet (N u0), .quiet (N x), .call (N r)] H2 ?ho3 ?he3
 case ho3 => exact ak (by refine fun γ => ⟨rfl, fun w' h => ?_⟩; clear h; go_simp) (ak (fun γ => ⟨rfl, fun w' h => ex_loadQ h 1 rfl rfl rfl rfl⟩) (ak (by refine fun γ => ⟨rfl, fun w' h => ?_⟩; clear h; go_simp) (ak (fun γ => ⟨rfl, fun w' h => ex_loadN (i := 0) h 2 rfl rfl rfl rfl⟩) (ak (fun γ => ⟨rfl, fun w' h => ex_load6 h 0 rfl rfl rfl rfl⟩) (ak (fun γ => ⟨rfl, fun w' h => ⟨81, #[PT g 0, N u0, N x], exec_call rfl call81 rfl (mpn rfl), C3.out w' (h.one 4 rfl)⟩⟩) trivial)))))
 intro _ w3 H3
 clear H2
 refine rest_at (l := [6]) rfl ?_
 refine rest_store rfl rfl rfl (ex_store6 H3.out.1 3 rfl rfl rfl rfl (Nat.le_of_ble_eq_true rfl)) ?_
 have H4 : Hid (Mm (w3.setCells γ1_2 0 (cells6 r)) [(γ2_10, cells6 x), (γ1_0, [PT g 0]), (γ1_1, cel [u0, u1]), (γ1_2, cells6 r), (g, modx n o s)] ∧ Below w.heap.size w (w3.setCells γ1_2 0 (cells6 r))) := ⟨H3.out.1.put 3 (off := 0) (vs := cells6 r) rfl (Nat.le_of_ble_eq_true rfl), below_setCells _ o1_2.out _ _ _ H3.out.2⟩
 clear H3
 generalize hgw : World.setCells _ _ _ _ = w4 at H4 ⊢
 clear hgw
 refine rest_nil (then_normal (wp_ret ?_))
 repeat (first | refine then_ret ?_ | refine block_ret ?_)
 have c0 := H4.out.1.get 3 rfl 0 rfl
 have c1 := H4.out.1.get 3 rfl 1 rfl
 have c2 := H4.out.1.get 3 rfl 2 rfl
 have c3 := H4.out.1.get 3 rfl 3 rfl
 have c4 := H4.out.1.get 3 rfl 4 rfl
 have c5 := H4.out.1.get 3 rfl 5 rfl
 refine bodyPost_ret (v := N r) (by simp [results, Tryd.results62, go_sem, *]) rfl ?_
 exact ⟨rfl, H4.out.2⟩
set_option maxHeartbeats 1000000 in
set_option maxRecDepth 100000 in
theorem times2_gen (a0 a1 b0 b1 ta tb f0 f1 g0 g1 t0 t1 x0 x1 y0 y1 z0 z1 : Nat)
  (c0 : ∀ w, Calls Tryd.prog 72 #[N a0, N b0] w (Rt w (V [f0, f1])))
  (c1 : ∀ w, Calls Tryd.prog 72 #[N a1, N b1] w (Rt w (V [g0, g1])))
  (c2 : ∀ w, Calls Tryd.prog 76 #[N a0, N a1] w (Rt w (N ta)))
  (c3 : ∀ w, Calls Tryd.prog 76 #[N b0, N b1] w (Rt w (N tb)))
  (c4 : ∀ w, Calls Tryd.prog 72 #[N ta, N tb] w (Rt w (V [t0, t1])))
  (c5 : ∀ w, Calls Tryd.prog 60 #[V [f0, f1], V [g0, g1]] w (Rt w (V [x0, x1])))
  (c6 : ∀ w, Calls Tryd.prog 60 #[V [t0, t1], V [f0, f1]] w (Rt w (V [y0, y1])))
  (c7 : ∀ w, Calls Tryd.prog 60 #[V [y0, y1], V [g0, g1]] w (Rt w (V [z0, z1]))) (w : World) :
  Calls Tryd.prog 55 #[V [a0, a1], V [b0, b1]] w (Rt w (V [x0, x1, z0, z1])) := by
 have H0 : Hid (_ ∧ _) := ⟨Mm.nil w, Below.refl w.heap.size w⟩
 have C0 : Hid _ := c0
 have C1 : Hid _ := c1
 have C2 : Hid _ := c2
 have C3 : Hid _ := c3
 have C4 : Hid _ := c4
 have C5 : Hid _ := c5
 have C6 : Hid _ := c6
 have C7 : Hid _ := c7
 clear c0 c1 c2 c3 c4 c5 c6 c7
 go_enter Tryd.func55, Tryd.ntmps55
 refine wp_seq ?_
 refine walk_seqA 3 [.made (cel [a0, a1]) 26, .made (cel [b0, b1]) 26, .made (cel [0, 0, 0, 0]) 63] (sB H0) ?ho1 ?he1
 case ho1 => exact ak (fun γ => ⟨rfl, fun w' => ex_boxA rfl rfl⟩) (ak (fun γ => ⟨rfl, fun w' => ex_boxA rfl rfl⟩) (ak (fun γ => ⟨rfl, fun w' => ex_madeW2 rfl⟩) trivial))
 intro γ w1 l hM hl
 have H1 : Hid (Mm w1 [(γ 0, cel [a0, a1]), (γ 1, cel [b0, b1]), (γ 2, cel [0, 0, 0, 0])] ∧ _) := growB H0 hM (Nat.le_refl _) hl [0, 1, 2] rfl (by decide)
 have o1_0 := ownB H0 hM (Nat.le_refl _) hl (i := 0) rfl
 have o1_1 := ownB H0 hM (Nat.le_refl _) hl (i := 1) rfl
 have o1_2 := ownB H0 hM (Nat.le_refl _) hl (i := 2) rfl
 clear hM hl l
 generalize γ 0 = γ1_0 at H1 o1_0 ⊢
 generalize γ 1 = γ1_1 at H1 o1_1 ⊢
 generalize γ 2 = γ1_2 at H1 o1_2 ⊢
 clear γ
 refine rest0 rfl (then_normal (wp_seq ?_))
 refine walk_anyA 14 [.quiet (PT γ1_0 0), .quiet (N a0), .quiet (PT γ1_1 0), .quiet (N b0), .call (V [f0, f1]), .quiet (PT γ1_0 6), .quiet (N a1), .quiet (PT γ1_1 6), .quiet (N b1), .call (V [g0, g1]), .made (cel [0, 0]) 61, .made (cel [0, 0]) 61, .laid 10 (cel [0, 0]) (cel [f0, f1]), .laid 11 (cel [0, 0]) (cel [g0, g1])] (sB H1) ?ho2 ?he2 (hL := ?hL2)
 case hL2 => exact ⟨⟨_, rfl⟩, ⟨_, rfl⟩, trivial⟩
 case ho2 => exact ak (by refine fun γ => ⟨rfl, fun w' h => ?_⟩; clear h; go_simp) (ak (fun γ => ⟨rfl, fun w' h => ex_loadN (i := 0) h 0 rfl rfl rfl rfl⟩) (ak (by refine fun γ => ⟨rfl, fun w' h => ?_⟩; clear h; go_simp) (ak (fun γ => ⟨rfl, fun w' h => ex_loadN (i := 0) h 1 rfl rfl rfl rfl⟩) (ak (fun γ => ⟨rfl, fun w' h => ⟨72, #[N a0, N b0], exec_call rfl call72 rfl (mpn rfl), C0.out w'⟩⟩) (ak (by refine fun γ => ⟨rfl, fun w' h => ?_⟩; clear h; go_simp) (ak (fun γ => ⟨rfl, fun w' h => ex_loadN (i := 1) h 0 rfl rfl rfl rfl⟩) (ak (by refine fun γ => ⟨rfl, fun w' h => ?_⟩; clear h; go_simp) (ak (fun γ => ⟨rfl, fun w' h => ex_loadN (i := 1) h 1 rfl rfl rfl rfl⟩) (ak (fun γ => ⟨rfl, fun w' h => ⟨72, #[N a1, N b1], exec_call rfl call72 rfl (mpn rfl), C1.out w'⟩⟩) (ak (fun γ => ⟨rfl, fun w' => ex_madeWD rfl⟩) (ak (fun γ => ⟨rfl, fun w' => ex_madeWD rfl⟩) (ak (fun γ => ⟨rfl, rfl, rfl, fun w' h => ex_laidA h rfl Tryd.sizeOf61 rfl rfl rfl⟩) (ak (fun γ => ⟨rfl, rfl, rfl, fun w' h => ex_laidA h rfl Tryd.sizeOf61 rfl rfl rfl⟩) trivial)))))))))))))
 intro γ w2 l hM hl
 have H2 : Hid (Mm w2 [(γ 10, cel [f0, f1]), (γ 11, cel [g0, g1]), (γ1_0, cel [a0, a1]), (γ1_1, cel [b0, b1]), (γ1_2, cel [0, 0, 0, 0])] ∧ _) := growB H1 hM (Nat.le_refl _) hl [10, 11] rfl (by decide)
 have o2_10 := ownB H1 hM (Nat.le_refl _) hl (i := 10) rfl
 have o2_11 := ownB H1 hM (Nat.le_refl _) hl (i := 11) rfl
 clear hM hl l H1
 generalize γ 10 = γ2_10 at H2 o2_10 ⊢
 generalize γ 11 = γ2_11 at H2 o2_11 ⊢
 clear γ
 refine rest0 rfl (then_normal (wp_seq ?_))
 refine walk_anyA 13 [.quiet (PT γ1_0 0), .quiet (N a0), .quiet (PT γ1_0 6), .quiet (N a1), .call (N ta), .quiet (PT γ1_1 0), .quiet (N b0), .quiet (PT γ1_1 6), .quiet (N b1), .call (N tb), .call (V [t0, t1]), .made (cel [0, 0]) 61, .laid 11 (cel [0, 0]) (cel [t0, t1])] (sB H2) ?ho3 ?he3 (hL := ?hL3)
 case hL3 => exact ⟨⟨_, rfl⟩, trivial⟩
 case ho3 => exact ak (by refine fun γ => ⟨rfl, fun w' h => ?_⟩; clear h; go_simp) (ak (fun γ => ⟨rfl, fun w' h => ex_loadN (i := 0) h 2 rfl rfl rfl rfl⟩) (ak (by refine fun γ => ⟨rfl, fun w' h => ?_⟩; clear h; go_simp) (ak (fun γ => ⟨rfl, fun w' h => ex_loadN (i := 1) h 2 rfl rfl rfl rfl⟩) (ak (fun γ => ⟨rfl, fun w' h => ⟨76, #[N a0, N a1], exec_call rfl call76 rfl (mpn rfl), C2.out w'⟩⟩) (ak (by refine fun γ => ⟨rfl, fun w' h => ?_⟩; clear h; go_simp) (ak (fun γ => ⟨rfl, fun w' h => ex_loadN (i := 0) h 3 rfl rfl rfl rfl⟩) (ak (by refine fun γ => ⟨rfl, fun w' h => ?_⟩; clear h; go_simp) (ak (fun γ => ⟨rfl, fun w' h => ex_loadN (i := 1) h 3 rfl rfl rfl rfl⟩) (ak (fun γ => ⟨rfl, fun w' h => ⟨76, #[N b0, N b1], exec_call rfl call76 rfl (mpn rfl), C3.out w'⟩⟩) (ak (fun γ => ⟨rfl, fun w' h => ⟨72, #[N ta, N tb], exec_call rfl call72 rfl (mpn rfl), C4.out w'⟩⟩) (ak (fun γ => ⟨rfl, fun w' => ex_madeWD rfl⟩) (ak (fun γ => ⟨rfl, rfl, rfl, fun w' h => ex_laidA h rfl Tryd.sizeOf61 rfl rfl rfl⟩) trivial))))))))))))
 intro γ w3 l hM hl
 have H3 : Hid (Mm w3 [(γ 11, cel [t0, t1]), (γ2_10, cel [f0, f1]), (γ2_11, cel [g0, g1]), (γ1_0, cel [a0, a1]), (γ1_1, cel [b0, b1]), (γ1_2, cel [0, 0, 0, 0])] ∧ _) := growB H2 hM (Nat.le_refl _) hl [11] rfl (by decide)
 have o3_11 := ownB H2 hM (Nat.le_refl _) hl (i := 11) rfl
 clear hM hl l H2
 generalize γ 11 = γ3_11 at H3 o3_11 ⊢
 clear γ
 refine rest0 rfl (then_normal (wp_seq ?_))
 refine walk_anyB 9 [.quiet (V [f0, f1]), .quiet (V [g0, g1]), .call (V [x0, x1]), .quiet (V [t0, t1]), .quiet (V [f0, f1]), .call (V [y0, y1]), .quiet (V [g0, g1]), .call (V [z0, z1]), .quiet (V [x0, x1, z0, z1])] H3 ?ho4 ?he4
 case ho4 => exact ak (fun γ => ⟨rfl, fun w' h => ex_loadA (i := 0) (k := 2) h 1 rfl rfl rfl Tryd.isAgg61 Tryd.sizeOf61 rfl rfl⟩) (ak (fun γ => ⟨rfl, fun w' h => ex_loadA (i := 0) (k := 2) h 2 rfl rfl rfl Tryd.isAgg61 Tryd.sizeOf61 rfl rfl⟩) (ak (fun γ => ⟨rfl, fun w' h => ⟨60, #[V [f0, f1], V [g0, g1]], exec_call rfl call60 rfl (mpn rfl), C5.out w'⟩⟩) (ak (fun γ => ⟨rfl, fun w' h => ex_loadA (i := 0) (k := 2) h 0 rfl rfl rfl Tryd.isAgg61 Tryd.sizeOf61 rfl rfl⟩) (ak (fun γ => ⟨rfl, fun w' h => ex_loadA (i := 0) (k := 2) h 1 rfl rfl rfl Tryd.isAgg61 Tryd.sizeOf61 rfl rfl⟩) (ak (fun γ => ⟨rfl, fun w' h => ⟨60, #[V [t0, t1], V [f0, f1]], exec_call rfl call60 rfl (mpn rfl), C6.out w'⟩⟩) (ak (fun γ => ⟨rfl, fun w' h => ex_loadA (i := 0) (k := 2) h 2 rfl rfl rfl Tryd.isAgg61 Tryd.sizeOf61 rfl rfl⟩) (ak (fun γ => ⟨rfl, fun w' h => ⟨60, #[V [y0, y1], V [g0, g1]], exec_call rfl call60 rfl (mpn rfl), C7.out w'⟩⟩) (ak (fun γ => ⟨rfl, fun w' _ => ex_buildW2 rfl rfl rfl⟩) trivial))))))))
 intro _ w4 H4
 clear H3
 refine rest_at (l := [9]) rfl ?_
 refine rest_store rfl rfl rfl (ex_storeA (i := 0) (ms := [x0, x1, z0, z1]) H4.out.1 5 rfl rfl rfl rfl Tryd.sizeOf63 (Nat.le_of_ble_eq_true rfl)) ?_
 have H5 : Hid (Mm (w4.setCells γ1_2 (6 * 0) (cel [x0, x1, z0, z1])) [(γ3_11, cel [t0, t1]), (γ2_10, cel [f0, f1]), (γ2_11, cel [g0, g1]), (γ1_0, cel [a0, a1]), (γ1_1, cel [b0, b1]), (γ1_2, cel [x0, x1, z0, z1])] ∧ Below w.heap.size w (w4.setCells γ1_2 (6 * 0) (cel [x0, x1, z0, z1]))) := ⟨by
  have h := H4.out.1.put 5 (off := 6 * 0) (vs := cel [x0, x1, z0, z1]) rfl (by simp only [cel_len]; exact Nat.le_of_ble_eq_true rfl)
  rw [cel_patch] at h
  exact h, below_setCells _ o1_2.out _ _ _ H4.out.2⟩
 clear H4
 generalize hgw : World.setCells _ _ _ _ = w5 at H5 ⊢
 clear hgw
 refine rest_nil (then_normal (wp_ret ?_))
 repeat (first | refine then_ret ?_ | refine block_ret ?_)
 have hf0 := cel_var (k := 4) H5.out.1 5 rfl Tryd.isAgg63 Tryd.sizeOf63 rfl
 refine bodyPost_ret (v := V [x0, x1, z0, z1]) (by simp [results, Tryd.results55, asAddr, hf0]) rfl ?_
 exact ⟨rfl, H5.out.2⟩
set_option maxHeartbeats 1000000 in
set_option maxRecDepth 100000 in
theorem rest2_gen (g n o s u0 u1 v0 v1 r0 r1 : Nat)
  (c0 : ∀ w, Mm w [(g, modx n o s)] → Calls Tryd.prog 62 #[.agg #[PT g 0], V [u0, u1]] w (Rt w (N r0)))
  (c1 : ∀ w, Mm w [(g, modx n o s)] → Calls Tryd.prog 62 #[.agg #[PT g 0], V [v0, v1]] w (Rt w (N r1))) (w : World) (hm : Mm w [(g, modx n o s)]) :
  Calls Tryd.prog 40 #[.agg #[PT g 0], V [u0, u1, v0, v1]] w (Rt w (V [r0, r1])) := by
 have H0 : Hid (_ ∧ _) := ⟨hm, Below.refl w.heap.size w⟩
 clear hm
 have C0 : Hid _ := c0
 have C1 : Hid _ := c1
 clear c0 c1
 go_enter Tryd.func40, Tryd.ntmps40
 refine wp_seq ?_
 refine walk_seqA 3 [.made [PT g 0] 47, .made (cel [u0, u1, v0, v1]) 63, .made (cel [0, 0]) 26] (sB H0) ?ho1 ?he1
 case ho1 => exact ak (fun γ => ⟨rfl, fun w' => ex_boxF rfl rfl⟩) (ak (fun γ => ⟨rfl, fun w' => ex_boxA rfl rfl⟩) (ak (fun γ => ⟨rfl, fun w' => ex_madeE2 rfl⟩) trivial))
 intro γ w1 l hM hl
 have H1 : Hid (Mm w1 [(γ 0, [PT g 0]), (γ 1, cel [u0, u1, v0, v1]), (γ 2, cel [0, 0]), (g, modx n o s)] ∧ _) := growB H0 hM (Nat.le_refl _) hl [0, 1, 2] rfl (by decide)
 have o1_0 := ownB H0 hM (Nat.le_refl _) hl (i := 0) rfl
 have o1_1 := ownB H0 hM (Nat.le_refl _) hl (i := 1) rfl
 have o1_2 := ownB H0 hM (Nat.le_refl _) hl (i := 2) rfl
 clear hM hl l
 generalize γ 0 = γ1_0 at H1 o1_0 ⊢
 generalize γ 1 = γ1_1 at H1 o1_1 ⊢
 generalize γ 2 = γ1_2 at H1 o1_2 ⊢
 clear γ
 refine rest0 rfl (then_normal (wp_seq ?_))
 refine walk_anyB 9 [.quiet (.agg #[PT g 0]), .quiet (PT γ1_1 0), .quiet (V [u0, u1]), .call (N r0), .quiet (.agg #[PT g 0]), .quiet (PT γ1_1 12), .quiet (V [v0, v1]), .call (N r1), .quiet (V [r0, r1])] H1 ?ho2 ?he2
 case ho2 => exact ak (fun γ => ⟨rfl, fun w' h => ex_loadF h 0 rfl rfl rfl rfl⟩) (ak (by refine fun γ => ⟨rfl, fun w' h => ?_⟩; clear h; go_simp) (ak (fun γ => ⟨rfl, fun w' h => ex_loadA (i := 0) (k := 2) h 1 rfl rfl rfl Tryd.isAgg61 Tryd.sizeOf61 rfl rfl⟩) (ak (fun γ => ⟨rfl, fun w' h => ⟨62, #[.agg #[PT g 0], V [u0, u1]], exec_call rfl call62 rfl (mpn rfl), C0.out w' (h.one 3 rfl)⟩⟩) (ak (fun γ => ⟨rfl, fun w' h => ex_loadF h 0 rfl rfl rfl rfl⟩) (ak (by refine fun γ => ⟨rfl, fun w' h => ?_⟩; clear h; go_simp) (ak (fun γ => ⟨rfl, fun w' h => ex_loadA (i := 2) (k := 2) h 1 rfl rfl rfl Tryd.isAgg61 Tryd.sizeOf61 rfl rfl⟩) (ak (fun γ => ⟨rfl, fun w' h => ⟨62, #[.agg #[PT g 0], V [v0, v1]], exec_call rfl call62 rfl (mpn rfl), C1.out w' (h.one 3 rfl)⟩⟩) (ak (fun γ => ⟨rfl, fun w' _ => ex_buildE2 rfl rfl rfl⟩) trivial))))))))
 intro _ w2 H2
 clear H1
 refine rest_at (l := [9]) rfl ?_
 refine rest_store rfl rfl rfl (ex_storeA (i := 0) (ms := [r0, r1]) H2.out.1 2 rfl rfl rfl rfl Tryd.sizeOf26 (Nat.le_of_ble_eq_true rfl)) ?_
 have H3 : Hid (Mm (w2.setCells γ1_2 (6 * 0) (cel [r0, r1])) [(γ1_0, [PT g 0]), (γ1_1, cel [u0, u1, v0, v1]), (γ1_2, cel [r0, r1]), (g, modx n o s)] ∧ Below w.heap.size w (w2.setCells γ1_2 (6 * 0) (cel [r0, r1]))) := ⟨by
  have h := H2.out.1.put 2 (off := 6 * 0) (vs := cel [r0, r1]) rfl (by simp only [cel_len]; exact Nat.le_of_ble_eq_true rfl)
  rw [cel_patch] at h
  exact h, below_setCells _ o1_2.out _ _ _ H2.out.2⟩
 clear H2
 generalize hgw : World.setCells _ _ _ _ = w3 at H3 ⊢
 clear hgw
 refine rest_nil (then_normal (wp_ret ?_))
 repeat (first | refine then_ret ?_ | refine block_ret ?_)
 have hf0 := cel_var (k := 2) H3.out.1 2 rfl Tryd.isAgg26 Tryd.sizeOf26 rfl
 refine bodyPost_ret (v := V [r0, r1]) (by simp [results, Tryd.results40, asAddr, hf0]) rfl ?_
 exact ⟨rfl, H3.out.2⟩
set_option maxHeartbeats 1000000 in
set_option maxRecDepth 100000 in
theorem mul2_gen (g n o s a0 a1 b0 b1 u0 u1 v0 v1 r0 r1 : Nat)
  (c0 : ∀ w, Calls Tryd.prog 55 #[V [a0, a1], V [b0, b1]] w (Rt w (V [u0, u1, v0, v1])))
  (c1 : ∀ w, Mm w [(g, modx n o s)] → Calls Tryd.prog 40 #[.agg #[PT g 0], V [u0, u1, v0, v1]] w (Rt w (V [r0, r1]))) (w : World) (hm : Mm w [(g, modx n o s)]) :
  Calls Tryd.prog 32 #[.agg #[PT g 0], V [a0, a1], V [b0, b1]] w (Rt w (V [r0, r1])) := by
 have H0 : Hid (_ ∧ _) := ⟨hm, Below.refl w.heap.size w⟩
 clear hm
 have C0 : Hid _ := c0
 have C1 : Hid _ := c1
 clear c0 c1
 go_enter Tryd.func32, Tryd.ntmps32
 refine wp_seq ?_
 refine walk_seqA 4 [.made [PT g 0] 47, .made (cel [a0, a1]) 26, .made (cel [b0, b1]) 26, .made (cel [0, 0]) 26] (sB H0) ?ho1 ?he1
 case ho1 => exact ak (fun γ => ⟨rfl, fun w' => ex_boxF rfl rfl⟩) (ak (fun γ => ⟨rfl, fun w' => ex_boxA rfl rfl⟩) (ak (fun γ => ⟨rfl, fun w' => ex_boxA rfl rfl⟩) (ak (fun γ => ⟨rfl, fun w' => ex_madeE2 rfl⟩) trivial)))
 intro γ w1 l hM hl
 have H1 : Hid (Mm w1 [(γ 0, [PT g 0]), (γ 1, cel [a0, a1]), (γ 2, cel [b0, b1]), (γ 3, cel [0, 0]), (g, modx n o s)] ∧ _) := growB H0 hM (Nat.le_refl _) hl [0, 1, 2, 3] rfl (by decide)
 have o1_0 := ownB H0 hM (Nat.le_refl _) hl (i := 0) rfl
 have o1_1 := ownB H0 hM (Nat.le_refl _) hl (i := 1) rfl
 have o1_2 := ownB H0 hM (Nat.le_refl _) hl (i := 2) rfl
 have o1_3 := ownB H0 hM (Nat.le_refl _) hl (i := 3) rfl
 clear hM hl l
 generalize γ 0 = γ1_0 at H1 o1_0 ⊢
 generalize γ 1 = γ1_1 at H1 o1_1 ⊢
 generalize γ 2 = γ1_2 at H1 o1_2 ⊢
 generalize γ 3 = γ1_3 at H1 o1_3 ⊢
 clear γ
 refine rest0 rfl (then_normal (wp_seq ?_))
 refine walk_anyB 5 [.quiet (.agg #[PT g 0]), .quiet (V [a0, a1]), .quiet (V [b0, b1]), .call (V [u0, u1, v0, v1]), .call (V [r0, r1])] H1 ?ho2 ?he2
 case ho2 => exact ak (fun γ => ⟨rfl, fun w' h => ex_loadF h 0 rfl rfl rfl rfl⟩) (ak (fun γ => ⟨rfl, fun w' h => ex_loadA (i := 0) (k := 2) h 1 rfl rfl rfl Tryd.isAgg26 Tryd.sizeOf26 rfl rfl⟩) (ak (fun γ => ⟨rfl, fun w' h => ex_loadA (i := 0) (k := 2) h 2 rfl rfl rfl Tryd.isAgg26 Tryd.sizeOf26 rfl rfl⟩) (ak (fun γ => ⟨rfl, fun w' h => ⟨55, #[V [a0, a1], V [b0, b1]], exec_call rfl call55 rfl (mpn rfl), C0.out w'⟩⟩) (ak (fun γ => ⟨rfl, fun w' h => ⟨40, #[.agg #[PT g 0], V [u0, u1, v0, v1]], exec_call rfl call40 rfl (mpn rfl), C1.out w' (h.one 4 rfl)⟩⟩) trivial))))
 intro _ w2 H2
 clear H1
 refine rest_at (l := [5]) rfl ?_
 refine rest_store rfl rfl rfl (ex_storeA (i := 0) (ms := [r0, r1]) H2.out.1 3 rfl rfl rfl rfl Tryd.sizeOf26 (Nat.le_of_ble_eq_true rfl)) ?_
 have H3 : Hid (Mm (w2.setCells γ1_3 (6 * 0) (cel [r0, r1])) [(γ1_0, [PT g 0]), (γ1_1, cel [a0, a1]), (γ1_2, cel [b0, b1]), (γ1_3, cel [r0, r1]), (g, modx n o s)] ∧ Below w.heap.size w (w2.setCells γ1_3 (6 * 0) (cel [r0, r1]))) := ⟨by
  have h := H2.out.1.put 3 (off := 6 * 0) (vs := cel [r0, r1]) rfl (by simp only [cel_len]; exact Nat.le_of_ble_eq_true rfl)
  rw [cel_patch] at h
  exact h, below_setCells _ o1_3.out _ _ _ H2.out.2⟩
 clear H2
 generalize hgw : World.setCells _ _ _ _ = w3 at H3 ⊢
 clear hgw
 refine rest_nil (then_normal (wp_ret ?_))
 repeat (first | refine then_ret ?_ | refine block_ret ?_)
 have hf0 := cel_var (k := 2) H3.out.1 3 rfl Tryd.isAgg26 Tryd.sizeOf26 rfl
 refine bodyPost_ret (v := V [r0, r1]) (by simp [results, Tryd.results32, asAddr, hf0]) rfl ?_
 exact ⟨rfl, H3.out.2⟩
set_option maxHeartbeats 1000000 in
set_option maxRecDepth 100000 in
theorem left2_gen (a0 a1 r0 r1 : Nat)
  (c0 : ∀ w, Calls Tryd.prog 48 #[N a0] w (Rt w (N r0)))
  (c1 : ∀ w, Calls Tryd.prog 48 #[N a1] w (Rt w (N r1))) (w : World) :
  Calls Tryd.prog 28 #[V [a0, a1]] w (Rt w (V [r0, r1])) := by
 have H0 : Hid (_ ∧ _) := ⟨Mm.nil w, Below.refl w.heap.size w⟩
 have C0 : Hid _ := c0
 have C1 : Hid _ := c1
 clear c0 c1
 go_enter Tryd.func28, Tryd.ntmps28
 refine wp_seq ?_
 refine walk_seqA 2 [.made (cel [a0, a1]) 26, .made (cel [0, 0]) 26] (sB H0) ?ho1 ?he1
 case ho1 => exact ak (fun γ => ⟨rfl, fun w' => ex_boxA rfl rfl⟩) (ak (fun γ => ⟨rfl, fun w' => ex_madeE2 rfl⟩) trivial)
 intro γ w1 l hM hl
 have H1 : Hid (Mm w1 [(γ 0, cel [a0, a1]), (γ 1, cel [0, 0])] ∧ _) := growB H0 hM (Nat.le_refl _) hl [0, 1] rfl (by decide)
 have o1_0 := ownB H0 hM (Nat.le_refl _) hl (i := 0) rfl
 have o1_1 := ownB H0 hM (Nat.le_refl _) hl (i := 1) rfl
 clear hM hl l
 generalize γ 0 = γ1_0 at H1 o1_0 ⊢
 generalize γ 1 = γ1_1 at H1 o1_1 ⊢
 clear γ
 refine rest0 rfl (then_normal (wp_seq ?_))
 refine walk_anyB 7 [.quiet (PT γ1_0 0), .quiet (N a0), .call (N r0), .quiet (PT γ1_0 6), .quiet (N a1), .call (N r1), .quiet (V [r0, r1])] H1 ?ho2 ?he2
 case ho2 => exact ak (by refine fun γ => ⟨rfl, fun w' h => ?_⟩; clear h; go_simp) (ak (fun γ => ⟨rfl, fun w' h => ex_loadN (i := 0) h 0 rfl rfl rfl rfl⟩) (ak (fun γ => ⟨rfl, fun w' h => ⟨48, #[N a0], exec_call rfl call48 rfl (mpn rfl), C0.out w'⟩⟩) (ak (by refine fun γ => ⟨rfl, fun w' h => ?_⟩; clear h; go_simp) (ak (fun γ => ⟨rfl, fun w' h => ex_loadN (i := 1) h 0 rfl rfl rfl rfl⟩) (ak (fun γ => ⟨rfl, fun w' h => ⟨48, #[N a1], exec_call rfl call48 rfl (mpn rfl), C1.out w'⟩⟩) (ak (fun γ => ⟨rfl, fun w' _ => ex_buildE2 rfl rfl rfl⟩) trivial))))))
 intro _ w2 H2
 clear H1
 refine rest_at (l := [7]) rfl ?_
 refine rest_store rfl rfl rfl (ex_storeA (i := 0) (ms := [r0, r1]) H2.out.1 1 rfl rfl rfl rfl Tryd.sizeOf26 (Nat.le_of_ble_eq_true rfl)) ?_
 have H3 : Hid (Mm (w2.setCells γ1_1 (6 * 0) (cel [r0, r1])) [(γ1_0, cel [a0, a1]), (γ1_1, cel [r0, r1])] ∧ Below w.heap.size w (w2.setCells γ1_1 (6 * 0) (cel [r0, r1]))) := ⟨by
  have h := H2.out.1.put 1 (off := 6 * 0) (vs := cel [r0, r1]) rfl (by simp only [cel_len]; exact Nat.le_of_ble_eq_true rfl)
  rw [cel_patch] at h
  exact h, below_setCells _ o1_1.out _ _ _ H2.out.2⟩
 clear H2
 generalize hgw : World.setCells _ _ _ _ = w3 at H3 ⊢
 clear hgw
 refine rest_nil (then_normal (wp_ret ?_))
 repeat (first | refine then_ret ?_ | refine block_ret ?_)
 have hf0 := cel_var (k := 2) H3.out.1 1 rfl Tryd.isAgg26 Tryd.sizeOf26 rfl
 refine bodyPost_ret (v := V [r0, r1]) (by simp [results, Tryd.results28, asAddr, hf0]) rfl ?_
 exact ⟨rfl, H3.out.2⟩
end Rg
end Go.Proofs.YtgdlhgbdigpfhabDoor
end
section
namespace Go.Proofs.YtgdlhgbdigpfhabDoor
open Go.RowKit
namespace Rg
set_option maxHeartbeats 1000000 in
set_option maxRecDepth 100000 in
theorem sub2_gen (a0 a1 b0 b1 m0 m1 q0 q1 r0 r1 : Nat)
  (c0 : ∀ w, Calls Tryd.prog 28 #[V [a0, a1]] w (Rt w (V [m0, m1])))
  (c1 : ∀ w, Calls Tryd.prog 28 #[V [b0, b1]] w (Rt w (V [q0, q1])))
  (c2 : ∀ w, Calls Tryd.prog 44 #[N m0, N q0] w (Rt w (N r0)))
  (c3 : ∀ w, Calls Tryd.prog 44 #[N m1, N q1] w (Rt w (N r1))) (w : World) :
  Calls Tryd.prog 26 #[V [a0, a1], V [b0, b1]] w (Rt w (V [r0, r1])) := by
 have H0 : Hid (_ ∧ _) := ⟨Mm.nil w, Below.refl w.heap.size w⟩
 have C0 : Hid _ := c0
 have C1 : Hid _ := c1
 have C2 : Hid _ := c2
 have C3 : Hid _ := c3
 clear c0 c1 c2 c3
 go_enter Tryd.func26, Tryd.ntmps26
 refine wp_seq ?_
 refine walk_seqA 3 [.made (cel [a0, a1]) 26, .made (cel [b0, b1]) 26, .made (cel [0, 0]) 26] (sB H0) ?ho1 ?he1
 case ho1 => exact ak (fun γ => ⟨rfl, fun w' => ex_boxA rfl rfl⟩) (ak (fun γ => ⟨rfl, fun w' => ex_boxA rfl rfl⟩) (ak (fun γ => ⟨rfl, fun w' => ex_madeE2 rfl⟩) trivial))
 intro γ w1 l hM hl
 have H1 : Hid (Mm w1 [(γ 0, cel [a0, a1]), (γ 1, cel [b0, b1]), (γ 2, cel [0, 0])] ∧ _) := growB H0 hM (Nat.le_refl _) hl [0, 1, 2] rfl (by decide)
 have o1_0 := ownB H0 hM (Nat.le_refl _) hl (i := 0) rfl
 have o1_1 := ownB H0 hM (Nat.le_refl _) hl (i := 1) rfl
 have o1_2 := ownB H0 hM (Nat.le_refl _) hl (i := 2) rfl
 clear hM hl l
 generalize γ 0 = γ1_0 at H1 o1_0 ⊢
 generalize γ 1 = γ1_1 at H1 o1_1 ⊢
 generalize γ 2 = γ1_2 at H1 o1_2 ⊢
 clear γ
 refine rest0 rfl (then_normal (wp_seq ?_))
 refine walk_put (by kernel_rfl) 4 [] [.quiet (V [a0, a1]), .call (V [m0, m1]), .quiet (V [b0, b1]), .call (V [q0, q1])] _ ?pre2 ?F2 _ ?hpre2 (fun γ => ?hF2) (by kernel_rfl) rfl trivial (sB H1) ?ho2 ?hla2 ?he2
 case hpre2 => simp only [tk, tz]; rfl
 case hF2 => simp only [fill, Kind.val, Act.put, sa, sz, ss]; rfl
 case ho2 =>
  refine ak (fun γ => ⟨rfl, fun w' h => ex_loadA (i := 0) (k := 2) h 0 rfl rfl rfl Tryd.isAgg26 Tryd.sizeOf26 rfl rfl⟩) ?_
  refine ak (fun γ => ⟨rfl, fun w' h => ⟨28, #[V [a0, a1]], exec_call rfl call28 rfl (mpn rfl), C0.out w'⟩⟩) ?_
  refine ak (fun γ => ⟨rfl, fun w' h => ex_loadA (i := 0) (k := 2) h 1 rfl rfl rfl Tryd.isAgg26 Tryd.sizeOf26 rfl rfl⟩) ?_
  refine ak (fun γ => ⟨rfl, fun w' h => ⟨28, #[V [b0, b1]], exec_call rfl call28 rfl (mpn rfl), C1.out w'⟩⟩) ?_
  exact trivial
 case hla2 => exact trivial
 intro γ w2 l hM hl
 have H2 := keepB H1 hM.below
 clear hM hl l H1 γ
 refine ⟨_, ex_storeA (i := 0) (ms := [m0, m1]) H2.out.1 0 rfl rfl rfl rfl Tryd.sizeOf26 (Nat.le_of_ble_eq_true rfl), ?_⟩
 have H3 : Hid (Mm (w2.setCells γ1_0 (6 * 0) (cel [m0, m1])) [(γ1_0, cel [m0, m1]), (γ1_1, cel [b0, b1]), (γ1_2, cel [0, 0])] ∧ Below w.heap.size w (w2.setCells γ1_0 (6 * 0) (cel [m0, m1]))) := ⟨by
  have h := H2.out.1.put 0 (off := 6 * 0) (vs := cel [m0, m1]) rfl (by simp only [cel_len]; exact Nat.le_of_ble_eq_true rfl)
  rw [cel_patch] at h
  exact h, below_setCells _ o1_0.out _ _ _ H2.out.2⟩
 clear H2
 generalize hgw : World.setCells _ _ _ _ = w3 at H3 ⊢
 clear hgw
 refine rest_at (l := [5]) rfl ?_
 refine rest_store rfl rfl rfl (ex_storeA (i := 0) (ms := [q0, q1]) H3.out.1 1 rfl rfl rfl rfl Tryd.sizeOf26 (Nat.le_of_ble_eq_true rfl)) ?_
 have H4 : Hid (Mm (w3.setCells γ1_1 (6 * 0) (cel [q0, q1])) [(γ1_0, cel [m0, m1]), (γ1_1, cel [q0, q1]), (γ1_2, cel [0, 0])] ∧ Below w.heap.size w (w3.setCells γ1_1 (6 * 0) (cel [q0, q1]))) := ⟨by
  have h := H3.out.1.put 1 (off := 6 * 0) (vs := cel [q0, q1]) rfl (by simp only [cel_len]; exact Nat.le_of_ble_eq_true rfl)
  rw [cel_patch] at h
  exact h, below_setCells _ o1_1.out _ _ _ H3.out.2⟩
 clear H3
 generalize hgw : World.setCells _ _ _ _ = w4 at H4 ⊢
 clear hgw
 refine rest_nil (then_normal (wp_seq ?_))
 refine walk_anyB 11 [.quiet (PT γ1_0 0), .quiet (N m0), .quiet (PT γ1_1 0), .quiet (N q0), .call (N r0), .quiet (PT γ1_0 6), .quiet (N m1), .quiet (PT γ1_1 6), .quiet (N q1), .call (N r1), .quiet (V [r0, r1])] H4 ?ho3 ?he3
 case ho3 => exact ak (by refine fun γ => ⟨rfl, fun w' h => ?_⟩; clear h; go_simp) (ak (fun γ => ⟨rfl, fun w' h => ex_loadN (i := 0) h 0 rfl rfl rfl rfl⟩) (ak (by refine fun γ => ⟨rfl, fun w' h => ?_⟩; clear h; go_simp) (ak (fun γ => ⟨rfl, fun w' h => ex_loadN (i := 0) h 1 rfl rfl rfl rfl⟩) (ak (fun γ => ⟨rfl, fun w' h => ⟨44, #[N m0, N q0], exec_call rfl call44 rfl (mpn rfl), C2.out w'⟩⟩) (ak (by refine fun γ => ⟨rfl, fun w' h => ?_⟩; clear h; go_simp) (ak (fun γ => ⟨rfl, fun w' h => ex_loadN (i := 1) h 0 rfl rfl rfl rfl⟩) (ak (by refine fun γ => ⟨rfl, fun w' h => ?_⟩; clear h; go_simp) (ak (fun γ => ⟨rfl, fun w' h => ex_loadN (i := 1) h 1 rfl rfl rfl rfl⟩) (ak (fun γ => ⟨rfl, fun w' h => ⟨44, #[N m1, N q1], exec_call rfl call44 rfl (mpn rfl), C3.out w'⟩⟩) (ak (fun γ => ⟨rfl, fun w' _ => ex_buildE2 rfl rfl rfl⟩) trivial))))))))))
 intro _ w5 H5
 clear H4
 refine rest_at (l := [11]) rfl ?_
 refine rest_store rfl rfl rfl (ex_storeA (i := 0) (ms := [r0, r1]) H5.out.1 2 rfl rfl rfl rfl Tryd.sizeOf26 (Nat.le_of_ble_eq_true rfl)) ?_
 have H6 : Hid (Mm (w5.setCells γ1_2 (6 * 0) (cel [r0, r1])) [(γ1_0, cel [m0, m1]), (γ1_1, cel [q0, q1]), (γ1_2, cel [r0, r1])] ∧ Below w.heap.size w (w5.setCells γ1_2 (6 * 0) (cel [r0, r1]))) := ⟨by
  have h := H5.out.1.put 2 (off := 6 * 0) (vs := cel [r0, r1]) rfl (by simp only [cel_len]; exact Nat.le_of_ble_eq_true rfl)
  rw [cel_patch] at h
  exact h, below_setCells _ o1_2.out _ _ _ H5.out.2⟩
 clear H5
 generalize hgw : World.setCells _ _ _ _ = w6 at H6 ⊢
 clear hgw
 refine rest_nil (then_normal (wp_ret ?_))
 repeat (first | refine then_ret ?_ | refine block_ret ?_)
 have hf0 := cel_var (k := 2) H6.out.1 2 rfl Tryd.isAgg26 Tryd.sizeOf26 rfl
 refine bodyPost_ret (v := V [r0, r1]) (by simp [results, Tryd.results26, asAddr, hf0]) rfl ?_
 exact ⟨rfl, H6.out.2⟩
set_option maxHeartbeats 1000000 in
set_option maxRecDepth 100000 in
theorem neg2_gen (a0 a1 r0 r1 : Nat)
  (c0 : ∀ w, Calls Tryd.prog 26 #[V [0, 0], V [a0, a1]] w (Rt w (V [r0, r1]))) (w : World) :
  Calls Tryd.prog 10 #[V [a0, a1]] w (Rt w (V [r0, r1])) := by
 have H0 : Hid (_ ∧ _) := ⟨Mm.nil w, Below.refl w.heap.size w⟩
 have C0 : Hid _ := c0
 clear c0
 go_enter Tryd.func10, Tryd.ntmps10
 refine wp_seq ?_
 refine walk_seqA 2 [.made (cel [a0, a1]) 26, .made (cel [0, 0]) 26] (sB H0) ?ho1 ?he1
 case ho1 => exact ak (fun γ => ⟨rfl, fun w' => ex_boxA rfl rfl⟩) (ak (fun γ => ⟨rfl, fun w' => ex_madeE2 rfl⟩) trivial)
 intro γ w1 l hM hl
 have H1 : Hid (Mm w1 [(γ 0, cel [a0, a1]), (γ 1, cel [0, 0])] ∧ _) := growB H0 hM (Nat.le_refl _) hl [0, 1] rfl (by decide)
 have o1_0 := ownB H0 hM (Nat.le_refl _) hl (i := 0) rfl
 have o1_1 := ownB H0 hM (Nat.le_refl _) hl (i := 1) rfl
 clear hM hl l
 generalize γ 0 = γ1_0 at H1 o1_0 ⊢
 generalize γ 1 = γ1_1 at H1 o1_1 ⊢
 clear γ
 refine rest0 rfl (then_normal (wp_seq ?_))
 refine walk_seqB 3 [.quiet (V [0, 0]), .quiet (V [a0, a1]), .call (V [r0, r1])] H1 ?ho2 ?he2
 case ho2 => exact ak (fun γ => ⟨rfl, fun w' _ => ex_buildE2z rfl⟩) (ak (fun γ => ⟨rfl, fun w' h => ex_loadA (i := 0) (k := 2) h 0 rfl rfl rfl Tryd.isAgg26 Tryd.sizeOf26 rfl rfl⟩) (ak (fun γ => ⟨rfl, fun w' h => ⟨26, #[V [0, 0], V [a0, a1]], exec_call rfl call26 rfl (mpn rfl), C0.out w'⟩⟩) trivial))
 intro _ w2 H2
 clear H1
 refine rest_at (l := [3]) rfl ?_
 refine rest_store rfl rfl rfl (ex_storeA (i := 0) (ms := [r0, r1]) H2.out.1 1 rfl rfl rfl rfl Tryd.sizeOf26 (Nat.le_of_ble_eq_true rfl)) ?_
 have H3 : Hid (Mm (w2.setCells γ1_1 (6 * 0) (cel [r0, r1])) [(γ1_0, cel [a0, a1]), (γ1_1, cel [r0, r1])] ∧ Below w.heap.size w (w2.setCells γ1_1 (6 * 0) (cel [r0, r1]))) := ⟨by
  have h := H2.out.1.put 1 (off := 6 * 0) (vs := cel [r0, r1]) rfl (by simp only [cel_len]; exact Nat.le_of_ble_eq_true rfl)
  rw [cel_patch] at h
  exact h, below_setCells _ o1_1.out _ _ _ H2.out.2⟩
 clear H2
 generalize hgw : World.setCells _ _ _ _ = w3 at H3 ⊢
 clear hgw
 refine rest_nil (then_normal (wp_ret ?_))
 repeat (first | refine then_ret ?_ | refine block_ret ?_)
 have hf0 := cel_var (k := 2) H3.out.1 1 rfl Tryd.isAgg26 Tryd.sizeOf26 rfl
 refine bodyPost_ret (v := V [r0, r1]) (by simp [results, Tryd.results10, asAddr, hf0]) rfl ?_
 exact ⟨rfl, H3.out.2⟩
set_option maxHeartbeats 1000000 in
set_option maxRecDepth 100000 in
theorem negated_gen (a r : Nat)
  (c0 : ∀ w, Calls Tryd.prog 44 #[N 0, N a] w (Rt w (N r))) (w : World) :
  Calls Tryd.prog 33 #[N a] w (Rt w (N r)) := by
 have H0 : Hid (_ ∧ _) := ⟨Mm.nil w, Below.refl w.heap.size w⟩
 have C0 : Hid _ := c0
 clear c0
 go_enter Tryd.func33, Tryd.ntmps33
 refine wp_seq ?_
 refine walk_seqA 2 [.made (cells6 a) 24, .made zero6 24] (sB H0) ?ho1 ?he1
 case ho1 => exact ak (fun γ => ⟨rfl, fun w' => ex_box6 rfl rfl⟩) (ak (fun γ => ⟨rfl, fun w' => exec_made6 rfl⟩) trivial)
 intro γ w1 l hM hl
 have H1 : Hid (Mm w1 [(γ 0, cells6 a), (γ 1, zero6)] ∧ _) := growB H0 hM (Nat.le_refl _) hl [0, 1] rfl (by decide)
 have o1_0 := ownB H0 hM (Nat.le_refl _) hl (i := 0) rfl
 have o1_1 := ownB H0 hM (Nat.le_refl _) hl (i := 1) rfl
 clear hM hl l
 generalize γ 0 = γ1_0 at H1 o1_0 ⊢
 generalize γ 1 = γ1_1 at H1 o1_1 ⊢
 clear γ
 refine rest0 rfl (then_normal (wp_seq ?_))
 refine walk_seqB 3 [.quiet (N 0), .quiet (N a), .call (N r)] H1 ?ho2 ?he2
 case ho2 => exact ak (by refine fun γ => ⟨rfl, fun w' h => ?_⟩; clear h; exact ex_zero6 rfl) (ak (fun γ => ⟨rfl, fun w' h => ex_load6 h 0 rfl rfl rfl rfl⟩) (ak (fun γ => ⟨rfl, fun w' h => ⟨44, #[N 0, N a], exec_call rfl call44 rfl (mpn rfl), C0.out w'⟩⟩) trivial))
 intro _ w2 H2
 clear H1
 refine rest_at (l := [3]) rfl ?_
 refine rest_store rfl rfl rfl (ex_store6 H2.out.1 1 rfl rfl rfl rfl (Nat.le_of_ble_eq_true rfl)) ?_
 have H3 : Hid (Mm (w2.setCells γ1_1 0 (cells6 r)) [(γ1_0, cells6 a), (γ1_1, cells6 r)] ∧ Below w.heap.size w (w2.setCells γ1_1 0 (cells6 r))) := ⟨H2.out.1.put 1 (off := 0) (vs := cells6 r) rfl (Nat.le_of_ble_eq_true rfl), below_setCells _ o1_1.out _ _ _ H2.out.2⟩
 clear H2
 generalize hgw : World.setCells _ _ _ _ = w3 at H3 ⊢
 clear hgw
 refine rest_nil (then_normal (wp_ret ?_))
 repeat (first | refine then_ret ?_ | refine block_ret ?_)
 have c0 := H3.out.1.get 1 rfl 0 rfl
 have c1 := H3.out.1.get 1 rfl 1 rfl
 have c2 := H3.out.1.get 1 rfl 2 rfl
 have c3 := H3.out.1.get 1 rfl 3 rfl
 have c4 := H3.out.1.get 1 rfl 4 rfl
 have c5 := H3.out.1.get 1 rfl 5 rfl
 refine bodyPost_ret (v := N r) (by simp [results, Tryd.results33, go_sem, *]) rfl ?_
 exact ⟨rfl, H3.out.2⟩
set_option maxHeartbeats 1000000 in
set_option maxRecDepth 100000 in
theorem conj2_gen (a0 a1 m0 m1 r : Nat)
  (c0 : ∀ w, Calls Tryd.prog 28 #[V [a0, a1]] w (Rt w (V [m0, m1])))
  (c1 : ∀ w, Calls Tryd.prog 33 #[N m1] w (Rt w (N r))) (w : World) :
  Calls Tryd.prog 18 #[V [a0, a1]] w (Rt w (V [m0, r])) := by
 have H0 : Hid (_ ∧ _) := ⟨Mm.nil w, Below.refl w.heap.size w⟩
 have C0 : Hid _ := c0
 have C1 : Hid _ := c1
 clear c0 c1
 go_enter Tryd.func18, Tryd.ntmps18
 refine wp_seq ?_
 refine walk_seqA 2 [.made (cel [a0, a1]) 26, .made (cel [0, 0]) 26] (sB H0) ?ho1 ?he1
 case ho1 => exact ak (fun γ => ⟨rfl, fun w' => ex_boxA rfl rfl⟩) (ak (fun γ => ⟨rfl, fun w' => ex_madeE2 rfl⟩) trivial)
 intro γ w1 l hM hl
 have H1 : Hid (Mm w1 [(γ 0, cel [a0, a1]), (γ 1, cel [0, 0])] ∧ _) := growB H0 hM (Nat.le_refl _) hl [0, 1] rfl (by decide)
 have o1_0 := ownB H0 hM (Nat.le_refl _) hl (i := 0) rfl
 have o1_1 := ownB H0 hM (Nat.le_refl _) hl (i := 1) rfl
 clear hM hl l
 generalize γ 0 = γ1_0 at H1 o1_0 ⊢
 generalize γ 1 = γ1_1 at H1 o1_1 ⊢
 clear γ
 refine rest0 rfl (then_normal (wp_seq ?_))
 refine walk_seqB 2 [.quiet (V [a0, a1]), .call (V [m0, m1])] H1 ?ho2 ?he2
 case ho2 => exact ak (fun γ => ⟨rfl, fun w' h => ex_loadA (i := 0) (k := 2) h 0 rfl rfl rfl Tryd.isAgg26 Tryd.sizeOf26 rfl rfl⟩) (ak (fun γ => ⟨rfl, fun w' h => ⟨28, #[V [a0, a1]], exec_call rfl call28 rfl (mpn rfl), C0.out w'⟩⟩) trivial)
 intro _ w2 H2
 clear H1
 refine rest_at (l := [2]) rfl ?_
 refine rest_store rfl rfl rfl (ex_storeA (i := 0) (ms := [m0, m1]) H2.out.1 0 rfl rfl rfl rfl Tryd.sizeOf26 (Nat.le_of_ble_eq_true rfl)) ?_
 have H3 : Hid (Mm (w2.setCells γ1_0 (6 * 0) (cel [m0, m1])) [(γ1_0, cel [m0, m1]), (γ1_1, cel [0, 0])] ∧ Below w.heap.size w (w2.setCells γ1_0 (6 * 0) (cel [m0, m1]))) := ⟨by
  have h := H2.out.1.put 0 (off := 6 * 0) (vs := cel [m0, m1]) rfl (by simp only [cel_len]; exact Nat.le_of_ble_eq_true rfl)
  rw [cel_patch] at h
  exact h, below_setCells _ o1_0.out _ _ _ H2.out.2⟩
 clear H2
 generalize hgw : World.setCells _ _ _ _ = w3 at H3 ⊢
 clear hgw
 refine rest_nil (then_normal (wp_seq ?_))
 refine walk_anyB 6 [.quiet (PT γ1_0 0), .quiet (N m0), .quiet (PT γ1_0 6), .quiet (N m1), .call (N r), .quiet (V [m0, r])] H3 ?ho3 ?he3
 case ho3 => exact ak (by refine fun γ => ⟨rfl, fun w' h => ?_⟩; clear h; go_simp) (ak (fun γ => ⟨rfl, fun w' h => ex_loadN (i := 0) h 0 rfl rfl rfl rfl⟩) (ak (by refine fun γ => ⟨rfl, fun w' h => ?_⟩; clear h; go_simp) (ak (fun γ => ⟨rfl, fun w' h => ex_loadN (i := 1) h 0 rfl rfl rfl rfl⟩) (ak (fun γ => ⟨rfl, fun w' h => ⟨33, #[N m1], exec_call rfl call33 rfl (mpn rfl), C1.out w'⟩⟩) (ak (fun γ => ⟨rfl, fun w' _ => ex_buildE2 rfl rfl rfl⟩) trivial)))))
 intro _ w4 H4
 clear H3
 refine rest_at (l := [6]) rfl ?_
 refine rest_store rfl rfl rfl (ex_storeA (i := 0) (ms := [m0, r]) H4.out.1 1 rfl rfl rfl rfl Tryd.sizeOf26 (Nat.le_of_ble_eq_true rfl)) ?_
 have H5 : Hid (Mm (w4.setCells γ1_1 (6 * 0) (cel [m0, r])) [(γ1_0, cel [m0, m1]), (γ1_1, cel [m0, r])] ∧ Below w.heap.size w (w4.setCells γ1_1 (6 * 0) (cel [m0, r]))) := ⟨by
  have h := H4.out.1.put 1 (off := 6 * 0) (vs := cel [m0, r]) rfl (by simp only [cel_len]; exact Nat.le_of_ble_eq_true rfl)
  rw [cel_patch] at h
  exact h, below_setCells _ o1_1.out _ _ _ H4.out.2⟩
 clear H4
 generalize hgw : World.setCells _ _ _ _ = w5 at H5 ⊢
 clear hgw
 refine rest_nil (then_normal (wp_ret ?_))
 repeat (first | refine then_ret ?_ | refine block_ret ?_)
 have hf0 := cel_var (k := 2) H5.out.1 1 rfl Tryd.isAgg26 Tryd.sizeOf26 rfl
 refine bodyPost_ret (v := V [m0, r]) (by simp [results, Tryd.results18, asAddr, hf0]) rfl ?_
 exact ⟨rfl, H5.out.2⟩
set_option maxHeartbeats 1000000 in
set_option maxRecDepth 100000 in
theorem mulT_gen (n a0 a1 b0 b1 m0 m1 q0 q1 r0 r1 : Nat)
  (c0 : ∀ w, Calls Tryd.prog 20 #[] w fun e w' => Below w.heap.size w w' ∧ ∃ g, e = .returned (.agg #[PT g 0]) ∧ w.heap.size ≤ g ∧ g < w'.heap.size ∧ Blk w' g (modc n))
  (c1 : ∀ w, Calls Tryd.prog 28 #[V [a0, a1]] w (Rt w (V [m0, m1])))
  (c2 : ∀ w, Calls Tryd.prog 28 #[V [b0, b1]] w (Rt w (V [q0, q1])))
  (c3 : ∀ g w, Mm w [(g, modc n)] → Calls Tryd.prog 32 #[.agg #[PT g 0], V [m0, m1], V [q0, q1]] w (Rt w (V [r0, r1]))) (w : World) :
  Calls Tryd.prog 17 #[V [a0, a1], V [b0, b1]] w (Rt w (V [r0, r1])) := by
 have H0 : Hid (_ ∧ _) := ⟨Mm.nil w, Below.refl w.heap.size w⟩
 have C0 : Hid _ := c0
 have C1 : Hid _ := c1
 have C2 : Hid _ := c2
 have C3 : Hid _ := c3
 clear c0 c1 c2 c3
 go_enter Tryd.func17, Tryd.ntmps17
 refine wp_seq ?_
 refine walk_seqA 3 [.made (cel [a0, a1]) 26, .made (cel [b0, b1]) 26, .made (cel [0, 0]) 26] (sB H0) ?ho1 ?he1
 case ho1 => exact ak (fun γ => ⟨rfl, fun w' => ex_boxA rfl rfl⟩) (ak (fun γ => ⟨rfl, fun w' => ex_boxA rfl rfl⟩) (ak (fun γ => ⟨rfl, fun w' => ex_madeE2 rfl⟩) trivial))
 intro γ w1 l hM hl
 have H1 : Hid (Mm w1 [(γ 0, cel [a0, a1]), (γ 1, cel [b0, b1]), (γ 2, cel [0, 0])] ∧ _) := growB H0 hM (Nat.le_refl _) hl [0, 1, 2] rfl (by decide)
 have o1_0 := ownB H0 hM (Nat.le_refl _) hl (i := 0) rfl
 have o1_1 := ownB H0 hM (Nat.le_refl _) hl (i := 1) rfl
 have o1_2 := ownB H0 hM (Nat.le_refl _) hl (i := 2) rfl
 clear hM hl l
 generalize γ 0 = γ1_0 at H1 o1_0 ⊢
 generalize γ 1 = γ1_1 at H1 o1_1 ⊢
 generalize γ 2 = γ1_2 at H1 o1_2 ⊢
 clear γ
 refine rest0 rfl (then_normal (wp_seq ?_))
 refine walk_anyA 6 [.born (fun g => .agg #[PT g 0]) (modc n), .quiet (V [a0, a1]), .call (V [m0, m1]), .quiet (V [b0, b1]), .call (V [q0, q1]), .over (V [r0, r1]) 0 (modc n)] (sB H1) ?ho2 ?he2 (hL := ?hL2)
 case hL2 => exact ⟨⟨_, rfl⟩, trivial⟩
 case ho2 => exact ak (fun γ => ⟨rfl, fun w' h => ⟨20, #[], exec_call rfl call20 rfl (mpn rfl), C0.out w'⟩⟩) (ak (fun γ => ⟨rfl, fun w' h => ex_loadA (i := 0) (k := 2) h 0 rfl rfl rfl Tryd.isAgg26 Tryd.sizeOf26 rfl rfl⟩) (ak (fun γ => ⟨rfl, fun w' h => ⟨28, #[V [a0, a1]], exec_call rfl call28 rfl (mpn rfl), C1.out w'⟩⟩) (ak (fun γ => ⟨rfl, fun w' h => ex_loadA (i := 0) (k := 2) h 1 rfl rfl rfl Tryd.isAgg26 Tryd.sizeOf26 rfl rfl⟩) (ak (fun γ => ⟨rfl, fun w' h => ⟨28, #[V [b0, b1]], exec_call rfl call28 rfl (mpn rfl), C2.out w'⟩⟩) (ak (fun γ => ⟨rfl, fun u w' h0 hge h1 hb hlt => by have h := Mm.over h0 hge h1 hb hlt; exact ⟨32, #[.agg #[PT (γ 0) 0], V [m0, m1], V [q0, q1]], exec_call rfl call32 rfl (mpn rfl), C3.out _ w' (h.one 0 rfl)⟩⟩) trivial)))))
 intro γ w2 l hM hl
 have H2 : Hid (Mm w2 [(γ 0, modc n), (γ1_0, cel [a0, a1]), (γ1_1, cel [b0, b1]), (γ1_2, cel [0, 0])] ∧ _) := growB H1 hM (Nat.le_refl _) hl [0] rfl (by decide)
 have o2_0 := ownB H1 hM (Nat.le_refl _) hl (i := 0) rfl
 clear hM hl l H1
 generalize γ 0 = γ2_0 at H2 o2_0 ⊢
 clear γ
 refine rest_at (l := [6]) rfl ?_
 refine rest_store rfl rfl rfl (ex_storeA (i := 0) (ms := [r0, r1]) H2.out.1 3 rfl rfl rfl rfl Tryd.sizeOf26 (Nat.le_of_ble_eq_true rfl)) ?_
 have H3 : Hid (Mm (w2.setCells γ1_2 (6 * 0) (cel [r0, r1])) [(γ2_0, modc n), (γ1_0, cel [a0, a1]), (γ1_1, cel [b0, b1]), (γ1_2, cel [r0, r1])] ∧ Below w.heap.size w (w2.setCells γ1_2 (6 * 0) (cel [r0, r1]))) := ⟨by
  have h := H2.out.1.put 3 (off := 6 * 0) (vs := cel [r0, r1]) rfl (by simp only [cel_len]; exact Nat.le_of_ble_eq_true rfl)
  rw [cel_patch] at h
  exact h, below_setCells _ o1_2.out _ _ _ H2.out.2⟩
 clear H2
 generalize hgw : World.setCells _ _ _ _ = w3 at H3 ⊢
 clear hgw
 refine rest_nil (then_normal (wp_ret ?_))
 repeat (first | refine then_ret ?_ | refine block_ret ?_)
 have hf0 := cel_var (k := 2) H3.out.1 3 rfl Tryd.isAgg26 Tryd.sizeOf26 rfl
 refine bodyPost_ret (v := V [r0, r1]) (by simp [results, Tryd.results17, asAddr, hf0]) rfl ?_
 exact ⟨rfl, H3.out.2⟩
end Rg
end Go.Proofs.YtgdlhgbdigpfhabDoor
end
section
namespace Go.Proofs.YtgdlhgbdigpfhabDoor
open Go.RowKit
namespace Rg
/-! Numbers by p stand for integers. -/
def pz (z : Int) : Nat := (z % (pB : Int)).toNat
theorem pBI : (0 : Int) < (pB : Int) := by have := pB_ok.pos; omega
theorem pz_cast (z : Int) : ((pz z : Nat) : Int) = z % (pB : Int) := Int.toNat_of_nonneg (Int.emod_nonneg _ (by have := pBI; omega))
theorem pz_lt (z : Int) : pz z < pB := by
 have h := pz_cast z
 have h2 := Int.emod_lt_of_pos z pBI
 omega
theorem pz_congr {x y : Int} (h : x % (pB : Int) = y % (pB : Int)) : pz x = pz y := by unfold pz; rw [h]
theorem pz_nat (n : Nat) : pz (n : Int) = n % pB := by
 have h := pz_cast (n : Int)
 rw [← Int.natCast_emod] at h
 omega
theorem pz_add (x y : Int) : pz ((pz x : Int) + (pz y : Int)) = pz (x + y) := pz_congr (by rw [pz_cast, pz_cast, ← Int.add_emod])
theorem pz_mul (x y : Int) : pz ((pz x : Int) * (pz y : Int)) = pz (x * y) := pz_congr (by rw [pz_cast, pz_cast, ← Int.mul_emod])
theorem pz_sub (x y : Int) : pz ((pz x : Int) - (pz y : Int)) = pz (x - y) := pz_congr (by rw [pz_cast, pz_cast, ← Int.sub_emod])
theorem pz_self (x : Int) : pz (pz x : Int) = pz x := pz_congr (by rw [pz_cast, Int.emod_emod])
theorem pz_addmul (a b c d : Int) : pz ((pz a : Int) * (pz b : Int) + (pz c : Int) * (pz d : Int)) = pz (a * b + c * d) := by
 rw [← pz_add, pz_mul, pz_mul, pz_add]
theorem pz_submul (a b c d : Int) : pz ((pz a : Int) * (pz b : Int) - (pz c : Int) * (pz d : Int)) = pz (a * b - c * d) := by
 rw [← pz_sub, pz_mul, pz_mul, pz_sub]
theorem subm_pz (x y : Int) : subm pB (pz x) (pz y) = pz (x - y) := by
 have hy := pz_lt y
 rw [← pz_sub]
 unfold subm
 rw [Nat.mod_eq_of_lt hy, ← pz_nat]
 refine pz_congr ?_
 rw [show ((pz x + (pB - pz y) : Nat) : Int) = (pz x : Int) - (pz y : Int) + (pB : Int) by omega, Int.add_emod_right]
theorem nine_p : 9 * pB < big := by decide +kernel
theorem great_any (w : World) : Calls Tryd.prog 20 #[] w fun e w' => Below w.heap.size w w' ∧ ∃ g, e = .returned (.agg #[PT g 0]) ∧ w.heap.size ≤ g ∧ g < w'.heap.size ∧ Blk w' g (modc pB) :=
 great_gen pB base_pB (fun w => new_ok pB_ok w) w
/-- What rest takes: within twelve products. -/
def Wi (z : Int) : Prop := -(12 * ((pB : Int) * pB)) ≤ z ∧ z ≤ 12 * ((pB : Int) * pB)
theorem rest_num (z : Int) (h : Wi z) : (lo z + (hi z + 2 * pB) % big * big) % pB = pz z := by
 have hpos := pB_ok.pos
 have h9 := nine_p
 obtain ⟨h1, h2⟩ := h
 unfold pz
 generalize pB = p at *
 have e1 : wz z % big + (wz z / big + 2 * p) % big * big = (wz z + 2 * p * big) % bb := by
  unfold bb
  rw [Nat.mod_mul, Nat.add_mul_mod_self_right, Nat.add_mul_div_right _ _ big_pos, Nat.mul_comm big]
 have e2 : (((wz z + 2 * p * big) % bb : Nat) : Int) = z + 2 * p * big := by
  rw [Int.natCast_emod, Int.natCast_add, wz_cast, Int.natCast_mul, Int.natCast_mul, Int.emod_add_emod]
  refine Int.emod_eq_of_lt ?_ ?_
  ·have h3 : 6 * (p * p) ≤ p * big := by
    have : p * (6 * p) ≤ p * big := Nat.mul_le_mul (Nat.le_refl p) (by omega)
    rw [Nat.mul_left_comm] at this; exact this
   have h4 : 6 * ((p : Int) * p) ≤ (p : Int) * big := by
    have := Int.ofNat_le.2 h3
    simpa using this
   have h5 : ((2 : Nat) : Int) * (p : Int) * (big : Int) = 2 * ((p : Int) * big) := by rw [Int.mul_assoc]; rfl
   omega
  ·have h3 : 6 * (p * p) ≤ p * big := by
    have : p * (6 * p) ≤ p * big := Nat.mul_le_mul (Nat.le_refl p) (by omega)
    rw [Nat.mul_left_comm] at this; exact this
   have h4 : 6 * ((p : Int) * p) ≤ (p : Int) * big := by
    have := Int.ofNat_le.2 h3
    simpa using this
   have h6 : 4 * (p * big) < bb := by
    unfold bb
    rw [← Nat.mul_assoc]
    exact Nat.mul_lt_mul_of_pos_right (by omega) big_pos
   have h7 : 4 * ((p : Int) * big) < (bb : Int) := by
    have := Int.ofNat_lt.2 h6
    simpa using this
   have h5 : ((2 : Nat) : Int) * (p : Int) * (big : Int) = 2 * ((p : Int) * big) := by rw [Int.mul_assoc]; rfl
   omega
 have e3 : (((lo z + (hi z + 2 * p) % big * big) % p : Nat) : Int) = z % (p : Int) := by
  rw [e1, Int.natCast_emod, e2, show z + 2 * (p : Int) * big = z + (p : Int) * (2 * big) by rw [Int.mul_comm 2 (p : Int), Int.mul_assoc], Int.add_mul_emod_self_left]
 omega
theorem restF_any {g : Nat} (z : Int) (h : Wi z) (w : World) (hm : Mm w [(g, modc pB)]) : Calls Tryd.prog 62 #[.agg #[PT g 0], V [lo z, hi z]] w (Rt w (N (pz z))) := by
 have ok := pB_ok
 have h9 := nine_p
 have hr := rest_num z h
 have hlo : lo z < big := Nat.mod_lt _ big_pos
 have hhi : hi z < big := by
  have := wz_lt z
  unfold bb at this
  exact Nat.div_lt_of_lt_mul this
 have c1 := fun w hm => n_any (g := g) ok w hm
 have c2 := fun w => shift_up pB 1 (by decide) w
 have e2 : pB * 2 ^ 1 % big = 2 * pB := by rw [Nat.pow_one, Nat.mul_comm, Nat.mod_eq_of_lt (by omega)]
 rw [e2] at c2
 have c3 := fun w => add_any (hi z) (2 * pB) hhi (by omega) w
 have c4 := fun w hm => wide_any (g := g) ok hlo (Nat.mod_lt (hi z + 2 * pB) big_pos) w hm
 rw [hr] at c4
 exact rest_gen g pB _ _ (lo z) (hi z) _ _ _ _ c1 c2 c3 c4 w hm
theorem times2_any (a0 a1 b0 b1 : Nat) (ha : a0 + a1 < big) (hb : b0 + b1 < big) (w : World) : Calls Tryd.prog 55 #[V [a0, a1], V [b0, b1]] w (Rt w (V [lo ((a0 : Int) * b0 - (a1 : Int) * b1), hi ((a0 : Int) * b0 - (a1 : Int) * b1), lo ((a0 : Int) * b1 + (a1 : Int) * b0), hi ((a0 : Int) * b1 + (a1 : Int) * b0)])) := by
 have c8 := fun w => lessZ_any (((a0 + a1 : Nat) : Int) * ((b0 + b1 : Nat) : Int) - (a0 : Int) * b0) ((a1 : Int) * b1) w
 have e : ((a0 + a1 : Nat) : Int) * ((b0 + b1 : Nat) : Int) - (a0 : Int) * b0 - (a1 : Int) * b1 = (a0 : Int) * b1 + (a1 : Int) * b0 := by
  rw [Int.natCast_add, Int.natCast_add]
  grind
 rw [e] at c8
 exact times2_gen a0 a1 b0 b1 (a0 + a1) (b0 + b1) _ _ _ _ _ _ _ _ _ _ _ _ (fun w => timesZ_any a0 b0 (by omega) (by omega) w) (fun w => timesZ_any a1 b1 (by omega) (by omega) w) (fun w => together_any a0 a1 ha w) (fun w => together_any b0 b1 hb w) (fun w => timesZ_any (a0 + a1) (b0 + b1) ha hb w) (fun w => lessZ_any _ _ w) (fun w => lessZ_any _ _ w) c8 w
theorem mulF_any {g : Nat} (a0 a1 b0 b1 : Int) (w : World) (hm : Mm w [(g, modc pB)]) : Calls Tryd.prog 32 #[.agg #[PT g 0], V [pz a0, pz a1], V [pz b0, pz b1]] w (Rt w (V [pz (a0 * b0 - a1 * b1), pz (a0 * b1 + a1 * b0)])) := by
 have h9 := nine_p
 have la0 := pz_lt a0
 have la1 := pz_lt a1
 have lb0 := pz_lt b0
 have lb1 := pz_lt b1
 have hp : ∀ x y : Int, 0 ≤ (pz x : Int) * (pz y : Int) ∧ (pz x : Int) * (pz y : Int) ≤ (pB : Int) * pB := fun x y => by
  have h := Nat.mul_le_mul (Nat.le_of_lt (pz_lt x)) (Nat.le_of_lt (pz_lt y))
  rw [← Int.natCast_mul, ← Int.natCast_mul]
  omega
 have w0 : Wi ((pz a0 : Int) * pz b0 - (pz a1 : Int) * pz b1) := by have := hp a0 b0; have := hp a1 b1; unfold Wi; omega
 have w1 : Wi ((pz a0 : Int) * pz b1 + (pz a1 : Int) * pz b0) := by have := hp a0 b1; have := hp a1 b0; unfold Wi; omega
 have c2 := fun w hm => rest2_gen g pB (big % pB) (big * big % pB) _ _ _ _ _ _ (fun w hm => restF_any (g := g) _ w0 w hm) (fun w hm => restF_any (g := g) _ w1 w hm) w hm
 rw [pz_submul, pz_addmul] at c2
 exact mul2_gen g pB _ _ (pz a0) (pz a1) (pz b0) (pz b1) _ _ _ _ _ _ (fun w => times2_any (pz a0) (pz a1) (pz b0) (pz b1) (by omega) (by omega) w) c2 w hm
theorem left2_any (a0 a1 : Nat) (h0 : a0 < big) (h1 : a1 < big) (w : World) : Calls Tryd.prog 28 #[V [a0, a1]] w (Rt w (V [pz a0, pz a1])) := by
 rw [pz_nat, pz_nat]
 exact left2_gen a0 a1 _ _ (fun w => left_any a0 h0 w) (fun w => left_any a1 h1 w) w
theorem diffZ_any (x y : Int) (w : World) : Calls Tryd.prog 44 #[N (pz x), N (pz y)] w (Rt w (N (pz (x - y)))) := by
 have h := diffP_any (pz x) (pz y) (pz_lt x) (pz_lt y) w
 rw [subm_pz] at h
 exact h
theorem sub2_any (a0 a1 b0 b1 : Nat) (h0 : a0 < big) (h1 : a1 < big) (k0 : b0 < big) (k1 : b1 < big) (w : World) : Calls Tryd.prog 26 #[V [a0, a1], V [b0, b1]] w (Rt w (V [pz ((a0 : Int) - b0), pz ((a1 : Int) - b1)])) :=
 sub2_gen a0 a1 b0 b1 _ _ _ _ _ _ (fun w => left2_any a0 a1 h0 h1 w) (fun w => left2_any b0 b1 k0 k1 w) (fun w => diffZ_any _ _ w) (fun w => diffZ_any _ _ w) w
theorem neg2_any (a0 a1 : Nat) (h0 : a0 < big) (h1 : a1 < big) (w : World) : Calls Tryd.prog 10 #[V [a0, a1]] w (Rt w (V [pz (-(a0 : Int)), pz (-(a1 : Int))])) := by
 have c := fun w => sub2_any 0 0 a0 a1 big_pos big_pos h0 h1 w
 rw [show ((0 : Nat) : Int) - (a0 : Int) = -(a0 : Int) by omega, show ((0 : Nat) : Int) - (a1 : Int) = -(a1 : Int) by omega] at c
 exact neg2_gen a0 a1 _ _ c w
theorem pz_zero : pz 0 = 0 := by unfold pz; rw [Int.zero_emod]; rfl
theorem negated_any (x : Int) (w : World) : Calls Tryd.prog 33 #[N (pz x)] w (Rt w (N (pz (-x)))) := by
 have c := fun w => diffZ_any 0 x w
 rw [pz_zero, Int.zero_sub] at c
 exact negated_gen (pz x) _ c w
theorem conj2_any (a0 a1 : Nat) (h0 : a0 < big) (h1 : a1 < big) (w : World) : Calls Tryd.prog 18 #[V [a0, a1]] w (Rt w (V [pz a0, pz (-(a1 : Int))])) :=
 conj2_gen a0 a1 _ _ _ (fun w => left2_any a0 a1 h0 h1 w) (fun w => negated_any _ w) w
theorem mulT_any (a0 a1 b0 b1 : Nat) (h0 : a0 < big) (h1 : a1 < big) (k0 : b0 < big) (k1 : b1 < big) (w : World) : Calls Tryd.prog 17 #[V [a0, a1], V [b0, b1]] w (Rt w (V [pz ((a0 : Int) * b0 - (a1 : Int) * b1), pz ((a0 : Int) * b1 + (a1 : Int) * b0)])) :=
 mulT_gen pB a0 a1 b0 b1 _ _ _ _ _ _ great_any (fun w => left2_any a0 a1 h0 h1 w) (fun w => left2_any b0 b1 k0 k1 w) (fun g w hm => mulF_any (g := g) _ _ _ _ w hm) w
end Rg
end Go.Proofs.YtgdlhgbdigpfhabDoor
end
section
namespace Go.Proofs.YtgdlhgbdigpfhabDoor
open Go.RowKit
namespace Rg
set_option maxHeartbeats 1000000 in
set_option maxRecDepth 100000 in
theorem norm_gen (g n o s a0 a1 f0 f1 q0 q1 z0 z1 r : Nat)
  (c0 : ∀ w, Calls Tryd.prog 72 #[N a0, N a0] w (Rt w (V [f0, f1])))
  (c1 : ∀ w, Calls Tryd.prog 72 #[N a1, N a1] w (Rt w (V [q0, q1])))
  (c2 : ∀ w, Calls Tryd.prog 61 #[V [f0, f1], V [q0, q1]] w (Rt w (V [z0, z1])))
  (c3 : ∀ w, Mm w [(g, modx n o s)] → Calls Tryd.prog 62 #[.agg #[PT g 0], V [z0, z1]] w (Rt w (N r))) (w : World) (hm : Mm w [(g, modx n o s)]) :
  Calls Tryd.prog 46 #[.agg #[PT g 0], V [a0, a1]] w (Rt w (N r)) := by
 have H0 : Hid (_ ∧ _) := ⟨hm, Below.refl w.heap.size w⟩
 clear hm
 have C0 : Hid _ := c0
 have C1 : Hid _ := c1
 have C2 : Hid _ := c2
 have C3 : Hid _ := c3
 clear c0 c1 c2 c3
 go_enter Tryd.func46, Tryd.ntmps46
 refine wp_seq ?_
 refine walk_seqA 3 [.made [PT g 0] 47, .made (cel [a0, a1]) 26, .made zero6 24] (sB H0) ?ho1 ?he1
 case ho1 => exact ak (fun γ => ⟨rfl, fun w' => ex_boxF rfl rfl⟩) (ak (fun γ => ⟨rfl, fun w' => ex_boxA rfl rfl⟩) (ak (fun γ => ⟨rfl, fun w' => exec_made6 rfl⟩) trivial))
 intro γ w1 l hM hl
 have H1 : Hid (Mm w1 [(γ 0, [PT g 0]), (γ 1, cel [a0, a1]), (γ 2, zero6), (g, modx n o s)] ∧ _) := growB H0 hM (Nat.le_refl _) hl [0, 1, 2] rfl (by decide)
 have o1_0 := ownB H0 hM (Nat.le_refl _) hl (i := 0) rfl
 have o1_1 := ownB H0 hM (Nat.le_refl _) hl (i := 1) rfl
 have o1_2 := ownB H0 hM (Nat.le_refl _) hl (i := 2) rfl
 clear hM hl l
 generalize γ 0 = γ1_0 at H1 o1_0 ⊢
 generalize γ 1 = γ1_1 at H1 o1_1 ⊢
 generalize γ 2 = γ1_2 at H1 o1_2 ⊢
 clear γ
 refine rest0 rfl (then_normal (wp_seq ?_))
 refine walk_anyB 13 [.quiet (.agg #[PT g 0]), .quiet (PT γ1_1 0), .quiet (N a0), .quiet (PT γ1_1 0), .quiet (N a0), .call (V [f0, f1]), .quiet (PT γ1_1 6), .quiet (N a1), .quiet (PT γ1_1 6), .quiet (N a1), .call (V [q0, q1]), .call (V [z0, z1]), .call (N r)] H1 ?ho2 ?he2
 case ho2 => exact ak (fun γ => ⟨rfl, fun w' h => ex_loadF h 0 rfl rfl rfl rfl⟩) (ak (by refine fun γ => ⟨rfl, fun w' h => ?_⟩; clear h; go_simp) (ak (fun γ => ⟨rfl, fun w' h => ex_loadN (i := 0) h 1 rfl rfl rfl rfl⟩) (ak (by refine fun γ => ⟨rfl, fun w' h => ?_⟩; clear h; go_simp) (ak (fun γ => ⟨rfl, fun w' h => ex_loadN (i := 0) h 1 rfl rfl rfl rfl⟩) (ak (fun γ => ⟨rfl, fun w' h => ⟨72, #[N a0, N a0], exec_call rfl call72 rfl (mpn rfl), C0.out w'⟩⟩) (ak (by refine fun γ => ⟨rfl, fun w' h => ?_⟩; clear h; go_simp) (ak (fun γ => ⟨rfl, fun w' h => ex_loadN (i := 1) h 1 rfl rfl rfl rfl⟩) (ak (by refine fun γ => ⟨rfl, fun w' h => ?_⟩; clear h; go_simp) (ak (fun γ => ⟨rfl, fun w' h => ex_loadN (i := 1) h 1 rfl rfl rfl rfl⟩) (ak (fun γ => ⟨rfl, fun w' h => ⟨72, #[N a1, N a1], exec_call rfl call72 rfl (mpn rfl), C1.out w'⟩⟩) (ak (fun γ => ⟨rfl, fun w' h => ⟨61, #[V [f0, f1], V [q0, q1]], exec_call rfl call61 rfl (mpn rfl), C2.out w'⟩⟩) (ak (fun γ => ⟨rfl, fun w' h => ⟨62, #[.agg #[PT g 0], V [z0, z1]], exec_call rfl call62 rfl (mpn rfl), C3.out w' (h.one 3 rfl)⟩⟩) trivial))))))))))))
 intro _ w2 H2
 clear H1
 refine rest_at (l := [13]) rfl ?_
 refine rest_store rfl rfl rfl (ex_store6 H2.out.1 2 rfl rfl rfl rfl (Nat.le_of_ble_eq_true rfl)) ?_
 have H3 : Hid (Mm (w2.setCells γ1_2 0 (cells6 r)) [(γ1_0, [PT g 0]), (γ1_1, cel [a0, a1]), (γ1_2, cells6 r), (g, modx n o s)] ∧ Below w.heap.size w (w2.setCells γ1_2 0 (cells6 r))) := ⟨H2.out.1.put 2 (off := 0) (vs := cells6 r) rfl (Nat.le_of_ble_eq_true rfl), below_setCells _ o1_2.out _ _ _ H2.out.2⟩
 clear H2
 generalize hgw : World.setCells _ _ _ _ = w3 at H3 ⊢
 clear hgw
 refine rest_nil (then_normal (wp_ret ?_))
 repeat (first | refine then_ret ?_ | refine block_ret ?_)
 have c0 := H3.out.1.get 2 rfl 0 rfl
 have c1 := H3.out.1.get 2 rfl 1 rfl
 have c2 := H3.out.1.get 2 rfl 2 rfl
 have c3 := H3.out.1.get 2 rfl 3 rfl
 have c4 := H3.out.1.get 2 rfl 4 rfl
 have c5 := H3.out.1.get 2 rfl 5 rfl
 refine bodyPost_ret (v := N r) (by simp [results, Tryd.results46, go_sem, *]) rfl ?_
 exact ⟨rfl, H3.out.2⟩
set_option maxHeartbeats 1000000 in
set_option maxRecDepth 100000 in
theorem inv2_ok (g n o s a0 a1 q x d r0 r1 : Nat)
  (c0 : ∀ w, Mm w [(g, modx n o s)] → Calls Tryd.prog 46 #[.agg #[PT g 0], V [a0, a1]] w (Rt w (N q)))
  (c1 : ∀ w, Mm w [(g, modx n o s), (0, dtab)] → Calls Tryd.prog 45 #[PT g 0, N q] w (Rt w (.tuple #[N x, .int .i64 0])))
  (c2 : ∀ w, Mm w [(g, modx n o s)] → Calls Tryd.prog 47 #[PT g 0, N a0, N x] w (Rt w (N r0)))
  (c3 : ∀ w, Calls Tryd.prog 33 #[N a1] w (Rt w (N d)))
  (c4 : ∀ w, Mm w [(g, modx n o s)] → Calls Tryd.prog 47 #[PT g 0, N d, N x] w (Rt w (N r1))) (w : World) (hm : Mm w [(g, modx n o s), (0, dtab)]) :
  Calls Tryd.prog 27 #[.agg #[PT g 0], V [a0, a1]] w (Rt w (.tuple #[V [r0, r1], .int .i64 0])) := by
 have H0 : Hid (_ ∧ _) := ⟨hm, Below.refl w.heap.size w⟩
 clear hm
 have C0 : Hid _ := c0
 have C1 : Hid _ := c1
 have C2 : Hid _ := c2
 have C3 : Hid _ := c3
 have C4 : Hid _ := c4
 clear c0 c1 c2 c3 c4
 go_enter Tryd.func27, Tryd.ntmps27
 refine wp_seq ?_
 refine walk_seqA 4 [.made [PT g 0] 47, .made (cel [a0, a1]) 26, .made (cel [0, 0]) 26, .quiet (.int .i64 0)] (sB H0) ?ho1 ?he1
 case ho1 => exact ak (fun γ => ⟨rfl, fun w' => ex_boxF rfl rfl⟩) (ak (fun γ => ⟨rfl, fun w' => ex_boxA rfl rfl⟩) (ak (fun γ => ⟨rfl, fun w' => ex_madeE2 rfl⟩) (ak (fun _ => ⟨rfl, fun _ _ => rfl⟩) trivial)))
 intro γ w1 l hM hl
 have H1 : Hid (Mm w1 [(γ 0, [PT g 0]), (γ 1, cel [a0, a1]), (γ 2, cel [0, 0]), (g, modx n o s), (0, dtab)] ∧ _) := growB H0 hM (Nat.le_refl _) hl [0, 1, 2] rfl (by decide)
 have o1_0 := ownB H0 hM (Nat.le_refl _) hl (i := 0) rfl
 have o1_1 := ownB H0 hM (Nat.le_refl _) hl (i := 1) rfl
 have o1_2 := ownB H0 hM (Nat.le_refl _) hl (i := 2) rfl
 clear hM hl l
 generalize γ 0 = γ1_0 at H1 o1_0 ⊢
 generalize γ 1 = γ1_1 at H1 o1_1 ⊢
 generalize γ 2 = γ1_2 at H1 o1_2 ⊢
 clear γ
 refine rest0 rfl (then_normal (wp_seq ?_))
 refine walk_anyA 12 [.quiet (PT γ1_0 0), .quiet (PT g 0), .quiet (.agg #[PT g 0]), .quiet (V [a0, a1]), .call (N q), .call (.tuple #[N x, .int .i64 0]), .quiet (.tuple #[N x, .int .i64 0]), .quiet (N x), .quiet (.int .i64 0), .made zero6 24, .laid 9 zero6 (cells6 x), .quiet (.int .i64 0)] (sB H1) ?ho2 ?he2 (hL := ?hL2)
 case hL2 => exact ⟨⟨_, rfl⟩, trivial⟩
 case ho2 => exact ak (by refine fun γ => ⟨rfl, fun w' h => ?_⟩; clear h; go_simp) (ak (fun γ => ⟨rfl, fun w' h => ex_loadQ h 0 rfl rfl rfl rfl⟩) (ak (fun γ => ⟨rfl, fun w' h => ex_loadF h 0 rfl rfl rfl rfl⟩) (ak (fun γ => ⟨rfl, fun w' h => ex_loadA (i := 0) (k := 2) h 1 rfl rfl rfl Tryd.isAgg26 Tryd.sizeOf26 rfl rfl⟩) (ak (fun γ => ⟨rfl, fun w' h => ⟨46, #[.agg #[PT g 0], V [a0, a1]], exec_call rfl call46 rfl (mpn rfl), C0.out w' (h.one 3 rfl)⟩⟩) (ak (fun γ => ⟨rfl, fun w' h => ⟨45, #[PT g 0, N q], exec_call rfl call45 rfl (mpn rfl), C1.out w' (h.two 3 4 rfl rfl (by decide))⟩⟩) (ak (fun _ => ⟨rfl, fun _ _ => rfl⟩) (ak (by refine fun γ => ⟨rfl, fun w' h => ?_⟩; clear h; go_simp) (ak (by refine fun γ => ⟨rfl, fun w' h => ?_⟩; clear h; go_simp) (ak (fun γ => ⟨rfl, fun w' => exec_made6 rfl⟩) (ak (fun γ => ⟨rfl, rfl, rfl, fun w' h => exec_laid6 h rfl rfl rfl⟩) (ak (fun _ => ⟨rfl, fun _ _ => rfl⟩) trivial)))))))))))
 intro γ w2 l hM hl
 have H2 : Hid (Mm w2 [(γ 9, cells6 x), (γ1_0, [PT g 0]), (γ1_1, cel [a0, a1]), (γ1_2, cel [0, 0]), (g, modx n o s), (0, dtab)] ∧ _) := growB H1 hM (Nat.le_refl _) hl [9] rfl (by decide)
 have o2_9 := ownB H1 hM (Nat.le_refl _) hl (i := 9) rfl
 clear hM hl l H1
 generalize γ 9 = γ2_9 at H2 o2_9 ⊢
 clear γ
 refine rest0 rfl (then_normal (wp_seq (wp_seq ?_)))
 refine walk_seqB 2 [.quiet (.int .i64 0), .quiet (.bool false)] H2 ?ho3 ?he3
 case ho3 => exact ak (fun _ => ⟨rfl, fun _ _ => rfl⟩) (ak (by refine fun γ => ⟨rfl, fun w' h => ?_⟩; clear h; go_simp) trivial)
 intro _ w3 H3
 clear H2
 refine rest0 rfl (then_normal (wp_cond_false rfl ?_))
 refine wp_skip (then_normal (wp_seq ?_))
 refine walk_anyB 14 [.quiet (PT γ1_0 0), .quiet (PT g 0), .quiet (PT γ1_1 0), .quiet (N a0), .quiet (N x), .call (N r0), .quiet (PT γ1_0 0), .quiet (PT g 0), .quiet (PT γ1_1 6), .quiet (N a1), .call (N d), .quiet (N x), .call (N r1), .quiet (V [r0, r1])] H3 ?ho4 ?he4
 case ho4 => exact ak (by refine fun γ => ⟨rfl, fun w' h => ?_⟩; clear h; go_simp) (ak (fun γ => ⟨rfl, fun w' h => ex_loadQ h 1 rfl rfl rfl rfl⟩) (ak (by refine fun γ => ⟨rfl, fun w' h => ?_⟩; clear h; go_simp) (ak (fun γ => ⟨rfl, fun w' h => ex_loadN (i := 0) h 2 rfl rfl rfl rfl⟩) (ak (fun γ => ⟨rfl, fun w' h => ex_load6 h 0 rfl rfl rfl rfl⟩) (ak (fun γ => ⟨rfl, fun w' h => ⟨47, #[PT g 0, N a0, N x], exec_call rfl call47 rfl (mpn rfl), C2.out w' (h.one 4 rfl)⟩⟩) (ak (by refine fun γ => ⟨rfl, fun w' h => ?_⟩; clear h; go_simp) (ak (fun γ => ⟨rfl, fun w' h => ex_loadQ h 1 rfl rfl rfl rfl⟩) (ak (by refine fun γ => ⟨rfl, fun w' h => ?_⟩; clear h; go_simp) (ak (fun γ => ⟨rfl, fun w' h => ex_loadN (i := 1) h 2 rfl rfl rfl rfl⟩) (ak (fun γ => ⟨rfl, fun w' h => ⟨33, #[N a1], exec_call rfl call33 rfl (mpn rfl), C3.out w'⟩⟩) (ak (fun γ => ⟨rfl, fun w' h => ex_load6 h 0 rfl rfl rfl rfl⟩) (ak (fun γ => ⟨rfl, fun w' h => ⟨47, #[PT g 0, N d, N x], exec_call rfl call47 rfl (mpn rfl), C4.out w' (h.one 4 rfl)⟩⟩) (ak (fun γ => ⟨rfl, fun w' _ => ex_buildE2 rfl rfl rfl⟩) trivial)))))))))))))
 intro _ w4 H4
 clear H3
 refine rest_at (l := [14, 15]) rfl ?_
 refine rest_store rfl rfl rfl (ex_storeA (i := 0) (ms := [r0, r1]) H4.out.1 3 rfl rfl rfl rfl Tryd.sizeOf26 (Nat.le_of_ble_eq_true rfl)) ?_
 have H5 : Hid (Mm (w4.setCells γ1_2 (6 * 0) (cel [r0, r1])) [(γ2_9, cells6 x), (γ1_0, [PT g 0]), (γ1_1, cel [a0, a1]), (γ1_2, cel [r0, r1]), (g, modx n o s), (0, dtab)] ∧ Below w.heap.size w (w4.setCells γ1_2 (6 * 0) (cel [r0, r1]))) := ⟨by
  have h := H4.out.1.put 3 (off := 6 * 0) (vs := cel [r0, r1]) rfl (by simp only [cel_len]; exact Nat.le_of_ble_eq_true rfl)
  rw [cel_patch] at h
  exact h, below_setCells _ o1_2.out _ _ _ H4.out.2⟩
 clear H4
 generalize hgw : World.setCells _ _ _ _ = w5 at H5 ⊢
 clear hgw
 refine rest_set (d := 5) rfl rfl rfl rfl ?_
 simp only [Act.put, sa, sz, ss]
 refine rest_nil (then_normal (wp_ret ?_))
 repeat (first | refine then_ret ?_ | refine block_ret ?_)
 have hf0 := cel_var (k := 2) H5.out.1 3 rfl Tryd.isAgg26 Tryd.sizeOf26 rfl
 refine bodyPost_ret (v := .tuple #[V [r0, r1], .int .i64 0]) (by simp [results, Tryd.results27, asAddr, Act.eval, hf0]) rfl ?_
 exact ⟨rfl, H5.out.2⟩
set_option maxHeartbeats 1000000 in
set_option maxRecDepth 100000 in
theorem inv2_no (g n o s a0 a1 q x : Nat)
  (c0 : ∀ w, Mm w [(g, modx n o s)] → Calls Tryd.prog 46 #[.agg #[PT g 0], V [a0, a1]] w (Rt w (N q)))
  (c1 : ∀ w, Mm w [(g, modx n o s), (0, dtab)] → Calls Tryd.prog 45 #[PT g 0, N q] w (Rt w (.tuple #[N x, .int .i64 6]))) (w : World) (hm : Mm w [(g, modx n o s), (0, dtab)]) :
  Calls Tryd.prog 27 #[.agg #[PT g 0], V [a0, a1]] w (Rt w (.tuple #[V [0, 0], .int .i64 6])) := by
 have H0 : Hid (_ ∧ _) := ⟨hm, Below.refl w.heap.size w⟩
 clear hm
 have C0 : Hid _ := c0
 have C1 : Hid _ := c1
 clear c0 c1
 go_enter Tryd.func27, Tryd.ntmps27
 refine wp_seq ?_
 refine walk_seqA 4 [.made [PT g 0] 47, .made (cel [a0, a1]) 26, .made (cel [0, 0]) 26, .quiet (.int .i64 0)] (sB H0) ?ho1 ?he1
 case ho1 => exact ak (fun γ => ⟨rfl, fun w' => ex_boxF rfl rfl⟩) (ak (fun γ => ⟨rfl, fun w' => ex_boxA rfl rfl⟩) (ak (fun γ => ⟨rfl, fun w' => ex_madeE2 rfl⟩) (ak (fun _ => ⟨rfl, fun _ _ => rfl⟩) trivial)))
 intro γ w1 l hM hl
 have H1 : Hid (Mm w1 [(γ 0, [PT g 0]), (γ 1, cel [a0, a1]), (γ 2, cel [0, 0]), (g, modx n o s), (0, dtab)] ∧ _) := growB H0 hM (Nat.le_refl _) hl [0, 1, 2] rfl (by decide)
 have o1_0 := ownB H0 hM (Nat.le_refl _) hl (i := 0) rfl
 have o1_1 := ownB H0 hM (Nat.le_refl _) hl (i := 1) rfl
 have o1_2 := ownB H0 hM (Nat.le_refl _) hl (i := 2) rfl
 clear hM hl l
 generalize γ 0 = γ1_0 at H1 o1_0 ⊢
 generalize γ 1 = γ1_1 at H1 o1_1 ⊢
 generalize γ 2 = γ1_2 at H1 o1_2 ⊢
 clear γ
 refine rest0 rfl (then_normal (wp_seq ?_))
 refine walk_anyA 12 [.quiet (PT γ1_0 0), .quiet (PT g 0), .quiet (.agg #[PT g 0]), .quiet (V [a0, a1]), .call (N q), .call (.tuple #[N x, .int .i64 6]), .quiet (.tuple #[N x, .int .i64 6]), .quiet (N x), .quiet (.int .i64 6), .made zero6 24, .laid 9 zero6 (cells6 x), .quiet (.int .i64 6)] (sB H1) ?ho2 ?he2 (hL := ?hL2)
 case hL2 => exact ⟨⟨_, rfl⟩, trivial⟩
 case ho2 => exact ak (by refine fun γ => ⟨rfl, fun w' h => ?_⟩; clear h; go_simp) (ak (fun γ => ⟨rfl, fun w' h => ex_loadQ h 0 rfl rfl rfl rfl⟩) (ak (fun γ => ⟨rfl, fun w' h => ex_loadF h 0 rfl rfl rfl rfl⟩) (ak (fun γ => ⟨rfl, fun w' h => ex_loadA (i := 0) (k := 2) h 1 rfl rfl rfl Tryd.isAgg26 Tryd.sizeOf26 rfl rfl⟩) (ak (fun γ => ⟨rfl, fun w' h => ⟨46, #[.agg #[PT g 0], V [a0, a1]], exec_call rfl call46 rfl (mpn rfl), C0.out w' (h.one 3 rfl)⟩⟩) (ak (fun γ => ⟨rfl, fun w' h => ⟨45, #[PT g 0, N q], exec_call rfl call45 rfl (mpn rfl), C1.out w' (h.two 3 4 rfl rfl (by decide))⟩⟩) (ak (fun _ => ⟨rfl, fun _ _ => rfl⟩) (ak (by refine fun γ => ⟨rfl, fun w' h => ?_⟩; clear h; go_simp) (ak (by refine fun γ => ⟨rfl, fun w' h => ?_⟩; clear h; go_simp) (ak (fun γ => ⟨rfl, fun w' => exec_made6 rfl⟩) (ak (fun γ => ⟨rfl, rfl, rfl, fun w' h => exec_laid6 h rfl rfl rfl⟩) (ak (fun _ => ⟨rfl, fun _ _ => rfl⟩) trivial)))))))))))
 intro γ w2 l hM hl
 have H2 : Hid (Mm w2 [(γ 9, cells6 x), (γ1_0, [PT g 0]), (γ1_1, cel [a0, a1]), (γ1_2, cel [0, 0]), (g, modx n o s), (0, dtab)] ∧ _) := growB H1 hM (Nat.le_refl _) hl [9] rfl (by decide)
 have o2_9 := ownB H1 hM (Nat.le_refl _) hl (i := 9) rfl
 clear hM hl l H1
 generalize γ 9 = γ2_9 at H2 o2_9 ⊢
 clear γ
 refine rest0 rfl (then_normal (wp_seq (wp_seq ?_)))
 refine walk_seqB 2 [.quiet (.int .i64 6), .quiet (.bool true)] H2 ?ho3 ?he3
 case ho3 => exact ak (fun _ => ⟨rfl, fun _ _ => rfl⟩) (ak (by refine fun γ => ⟨rfl, fun w' h => ?_⟩; clear h; go_simp) trivial)
 intro _ w3 H3
 clear H2
 refine rest0 rfl (then_normal (wp_cond_true rfl (wp_seq ?_)))
 refine walk_seqB 2 [.quiet (V [0, 0]), .quiet (.int .i64 6)] H3 ?ho4 ?he4
 case ho4 => exact ak (fun γ => ⟨rfl, fun w' _ => ex_buildE2z rfl⟩) (ak (fun _ => ⟨rfl, fun _ _ => rfl⟩) trivial)
 intro _ w4 H4
 clear H3
 refine rest_at (l := [2, 3]) rfl ?_
 refine rest_store rfl rfl rfl (ex_storeA (i := 0) (ms := [0, 0]) H4.out.1 3 rfl rfl rfl rfl Tryd.sizeOf26 (Nat.le_of_ble_eq_true rfl)) ?_
 have H5 : Hid (Mm (w4.setCells γ1_2 (6 * 0) (cel [0, 0])) [(γ2_9, cells6 x), (γ1_0, [PT g 0]), (γ1_1, cel [a0, a1]), (γ1_2, cel [0, 0]), (g, modx n o s), (0, dtab)] ∧ Below w.heap.size w (w4.setCells γ1_2 (6 * 0) (cel [0, 0]))) := ⟨by
  have h := H4.out.1.put 3 (off := 6 * 0) (vs := cel [0, 0]) rfl (by simp only [cel_len]; exact Nat.le_of_ble_eq_true rfl)
  rw [cel_patch] at h
  exact h, below_setCells _ o1_2.out _ _ _ H4.out.2⟩
 clear H4
 generalize hgw : World.setCells _ _ _ _ = w5 at H5 ⊢
 clear hgw
 refine rest_set (d := 5) rfl rfl rfl rfl ?_
 simp only [Act.put, sa, sz, ss]
 refine rest_nil (then_normal (wp_ret ?_))
 repeat (first | refine then_ret ?_ | refine block_ret ?_)
 have hf0 := cel_var (k := 2) H5.out.1 3 rfl Tryd.isAgg26 Tryd.sizeOf26 rfl
 refine bodyPost_ret (v := .tuple #[V [0, 0], .int .i64 6]) (by simp [results, Tryd.results27, asAddr, Act.eval, hf0]) rfl ?_
 exact ⟨rfl, H5.out.2⟩
set_option maxRecDepth 100000 in
theorem small_gen (x y : Int) (a b : Nat)
  (c0 : ∀ w, Calls Tryd.prog 19 #[.int .u64 x] w (Rt w (N a)))
  (c1 : ∀ w, Calls Tryd.prog 19 #[.int .u64 y] w (Rt w (N b))) (w : World) :
  Calls Tryd.prog 9 #[.int .u64 x, .int .u64 y] w (Rt w (V [a, b])) := by
 have H0 : Hid (_ ∧ _) := ⟨Mm.nil w, Below.refl w.heap.size w⟩
 have C0 : Hid _ := c0
 have C1 : Hid _ := c1
 clear c0 c1
 go_enter Tryd.func9, Tryd.ntmps9
 refine wp_seq ?_
 refine walk_seqA 1 [.made (cel [0, 0]) 26] (sB H0) ?ho1 ?he1
 case ho1 => exact ak (fun γ => ⟨rfl, fun w' => ex_madeE2 rfl⟩) trivial
 intro γ w1 l hM hl
 have H1 : Hid (Mm w1 [(γ 0, cel [0, 0])] ∧ _) := growB H0 hM (Nat.le_refl _) hl [0] rfl (by decide)
 have o1_0 := ownB H0 hM (Nat.le_refl _) hl (i := 0) rfl
 clear hM hl l
 generalize γ 0 = γ1_0 at H1 o1_0 ⊢
 clear γ
 refine rest0 rfl (then_normal (wp_seq ?_))
 refine walk_seqB 5 [.quiet (.int .u64 x), .call (N a), .quiet (.int .u64 y), .call (N b), .quiet (V [a, b])] H1 ?ho2 ?he2
 case ho2 => exact ak (fun _ => ⟨rfl, fun _ _ => rfl⟩) (ak (fun γ => ⟨rfl, fun w' h => ⟨19, #[.int .u64 x], exec_call rfl call19 rfl (mpn rfl), C0.out w'⟩⟩) (ak (fun _ => ⟨rfl, fun _ _ => rfl⟩) (ak (fun γ => ⟨rfl, fun w' h => ⟨19, #[.int .u64 y], exec_call rfl call19 rfl (mpn rfl), C1.out w'⟩⟩) (ak (fun γ => ⟨rfl, fun w' _ => ex_buildE2 rfl rfl rfl⟩) trivial))))
 intro _ w2 H2
 clear H1
 refine rest_at (l := [5]) rfl ?_
 refine rest_store rfl rfl rfl (ex_storeA (i := 0) (ms := [a, b]) H2.out.1 0 rfl rfl rfl rfl Tryd.sizeOf26 (Nat.le_of_ble_eq_true rfl)) ?_
 have H3 : Hid (Mm (w2.setCells γ1_0 (6 * 0) (cel [a, b])) [(γ1_0, cel [a, b])] ∧ Below w.heap.size w (w2.setCells γ1_0 (6 * 0) (cel [a, b]))) := ⟨by
  have h := H2.out.1.put 0 (off := 6 * 0) (vs := cel [a, b]) rfl (by simp only [cel_len]; exact Nat.le_of_ble_eq_true rfl)
  rw [cel_patch] at h
  exact h, below_setCells _ o1_0.out _ _ _ H2.out.2⟩
 clear H2
 generalize hgw : World.setCells _ _ _ _ = w3 at H3 ⊢
 clear hgw
 refine rest_nil (then_normal (wp_ret ?_))
 repeat (first | refine then_ret ?_ | refine block_ret ?_)
 have hf0 := cel_var (k := 2) H3.out.1 0 rfl Tryd.isAgg26 Tryd.sizeOf26 rfl
 refine bodyPost_ret (v := V [a, b]) (by simp [results, Tryd.results9, asAddr, hf0]) rfl ?_
 exact ⟨rfl, H3.out.2⟩
set_option maxHeartbeats 1000000 in
set_option maxRecDepth 100000 in
theorem one2_gen (k1 : Nat)
  (c0 : ∀ w, Calls Tryd.prog 19 #[.int .u64 1] w (Rt w (N k1))) (w : World) :
  Calls Tryd.prog 31 #[] w (Rt w (V [k1, 0])) := by
 have H0 : Hid (_ ∧ _) := ⟨Mm.nil w, Below.refl w.heap.size w⟩
 have C0 : Hid _ := c0
 clear c0
 go_enter Tryd.func31, Tryd.ntmps31
 refine wp_seq ?_
 refine walk_seqA 1 [.made (cel [0, 0]) 26] (sB H0) ?ho1 ?he1
 case ho1 => exact ak (fun γ => ⟨rfl, fun w' => ex_madeE2 rfl⟩) trivial
 intro γ w1 l hM hl
 have H1 : Hid (Mm w1 [(γ 0, cel [0, 0])] ∧ _) := growB H0 hM (Nat.le_refl _) hl [0] rfl (by decide)
 have o1_0 := ownB H0 hM (Nat.le_refl _) hl (i := 0) rfl
 clear hM hl l
 generalize γ 0 = γ1_0 at H1 o1_0 ⊢
 clear γ
 refine rest0 rfl (then_normal (wp_seq ?_))
 refine walk_seqB 2 [.call (N k1), .quiet (V [k1, 0])] H1 ?ho2 ?he2
 case ho2 => exact ak (fun γ => ⟨rfl, fun w' h => ⟨19, #[.int .u64 1], exec_call rfl call19 rfl (mpn rfl), C0.out w'⟩⟩) (ak (fun γ => ⟨rfl, fun w' _ => ex_buildE2a rfl rfl⟩) trivial)
 intro _ w2 H2
 clear H1
 refine rest_at (l := [2]) rfl ?_
 refine rest_store rfl rfl rfl (ex_storeA (i := 0) (ms := [k1, 0]) H2.out.1 0 rfl rfl rfl rfl Tryd.sizeOf26 (Nat.le_of_ble_eq_true rfl)) ?_
 have H3 : Hid (Mm (w2.setCells γ1_0 (6 * 0) (cel [k1, 0])) [(γ1_0, cel [k1, 0])] ∧ Below w.heap.size w (w2.setCells γ1_0 (6 * 0) (cel [k1, 0]))) := ⟨by
  have h := H2.out.1.put 0 (off := 6 * 0) (vs := cel [k1, 0]) rfl (by simp only [cel_len]; exact Nat.le_of_ble_eq_true rfl)
  rw [cel_patch] at h
  exact h, below_setCells _ o1_0.out _ _ _ H2.out.2⟩
 clear H2
 generalize hgw : World.setCells _ _ _ _ = w3 at H3 ⊢
 clear hgw
 refine rest_nil (then_normal (wp_ret ?_))
 repeat (first | refine then_ret ?_ | refine block_ret ?_)
 have hf0 := cel_var (k := 2) H3.out.1 0 rfl Tryd.isAgg26 Tryd.sizeOf26 rfl
 refine bodyPost_ret (v := V [k1, 0]) (by simp [results, Tryd.results31, asAddr, hf0]) rfl ?_
 exact ⟨rfl, H3.out.2⟩
set_option maxHeartbeats 1000000 in
set_option maxRecDepth 100000 in
theorem lesser_1 (a0 a1 b0 b1 : Nat) (y : Int) (hy : 0 < y)
  (c0 : ∀ w, Calls Tryd.prog 54 #[N a1, N b1] w (Rt w (.int .i64 y))) (w : World) :
  Calls Tryd.prog 30 #[V [a0, a1], V [b0, b1]] w (Rt w (V [b0, b1])) := by
 have H0 : Hid (_ ∧ _) := ⟨Mm.nil w, Below.refl w.heap.size w⟩
 have C0 : Hid _ := c0
 clear c0
 go_enter Tryd.func30, Tryd.ntmps30
 refine wp_seq ?_
 refine walk_seqA 3 [.made (cel [a0, a1]) 26, .made (cel [b0, b1]) 26, .made (cel [0, 0]) 26] (sB H0) ?ho1 ?he1
 case ho1 => exact ak (fun γ => ⟨rfl, fun w' => ex_boxA rfl rfl⟩) (ak (fun γ => ⟨rfl, fun w' => ex_boxA rfl rfl⟩) (ak (fun γ => ⟨rfl, fun w' => ex_madeE2 rfl⟩) trivial))
 intro γ w1 l hM hl
 have H1 : Hid (Mm w1 [(γ 0, cel [a0, a1]), (γ 1, cel [b0, b1]), (γ 2, cel [0, 0])] ∧ _) := growB H0 hM (Nat.le_refl _) hl [0, 1, 2] rfl (by decide)
 have o1_0 := ownB H0 hM (Nat.le_refl _) hl (i := 0) rfl
 have o1_1 := ownB H0 hM (Nat.le_refl _) hl (i := 1) rfl
 have o1_2 := ownB H0 hM (Nat.le_refl _) hl (i := 2) rfl
 clear hM hl l
 generalize γ 0 = γ1_0 at H1 o1_0 ⊢
 generalize γ 1 = γ1_1 at H1 o1_1 ⊢
 generalize γ 2 = γ1_2 at H1 o1_2 ⊢
 clear γ
 refine rest0 rfl (then_normal (wp_seq ?_))
 refine walk_seqB 6 [.quiet (PT γ1_0 6), .quiet (N a1), .quiet (PT γ1_1 6), .quiet (N b1), .call (.int .i64 y), .quiet (.int .i64 y)] H1 ?ho2 ?he2
 case ho2 => exact ak (by refine fun γ => ⟨rfl, fun w' h => ?_⟩; clear h; go_simp) (ak (fun γ => ⟨rfl, fun w' h => ex_loadN (i := 1) h 0 rfl rfl rfl rfl⟩) (ak (by refine fun γ => ⟨rfl, fun w' h => ?_⟩; clear h; go_simp) (ak (fun γ => ⟨rfl, fun w' h => ex_loadN (i := 1) h 1 rfl rfl rfl rfl⟩) (ak (fun γ => ⟨rfl, fun w' h => ⟨54, #[N a1, N b1], exec_call rfl call54 rfl (mpn rfl), C0.out w'⟩⟩) (ak (fun _ => ⟨rfl, fun _ _ => rfl⟩) trivial)))))
 intro _ w2 H2
 clear H1
 refine rest0 rfl (then_normal (wp_seq (wp_seq ?_)))
 refine walk_seqB 2 [.quiet (.int .i64 y), .quiet (.bool false)] H2 ?ho3 ?he3
 case ho3 => exact ak (fun _ => ⟨rfl, fun _ _ => rfl⟩) (ak (by refine fun γ => ⟨rfl, fun w' h => ?_⟩; clear h; go_simp <;> omega) trivial)
 intro _ w3 H3
 clear H2
 refine rest0 rfl (then_normal (wp_cond_false rfl ?_))
 refine wp_skip (then_normal ?_)
 refine wp_seq (wp_seq ?_)
 refine walk_seqB 2 [.quiet (.int .i64 y), .quiet (.bool true)] H3 ?ho4 ?he4
 case ho4 => exact ak (fun _ => ⟨rfl, fun _ _ => rfl⟩) (ak (by refine fun γ => ⟨rfl, fun w' h => ?_⟩; clear h; go_simp <;> omega) trivial)
 intro _ w4 H4
 clear H3
 refine rest0 rfl (then_normal (wp_cond_true rfl (wp_seq ?_)))
 refine walk_seqB 1 [.quiet (V [b0, b1])] H4 ?ho5 ?he5
 case ho5 => exact ak (fun γ => ⟨rfl, fun w' h => ex_loadA (i := 0) (k := 2) h 1 rfl rfl rfl Tryd.isAgg26 Tryd.sizeOf26 rfl rfl⟩) trivial
 intro _ w5 H5
 clear H4
 refine rest_at (l := [1]) rfl ?_
 refine rest_store rfl rfl rfl (ex_storeA (i := 0) (ms := [b0, b1]) H5.out.1 2 rfl rfl rfl rfl Tryd.sizeOf26 (Nat.le_of_ble_eq_true rfl)) ?_
 have H6 : Hid (Mm (w5.setCells γ1_2 (6 * 0) (cel [b0, b1])) [(γ1_0, cel [a0, a1]), (γ1_1, cel [b0, b1]), (γ1_2, cel [b0, b1])] ∧ Below w.heap.size w (w5.setCells γ1_2 (6 * 0) (cel [b0, b1]))) := ⟨by
  have h := H5.out.1.put 2 (off := 6 * 0) (vs := cel [b0, b1]) rfl (by simp only [cel_len]; exact Nat.le_of_ble_eq_true rfl)
  rw [cel_patch] at h
  exact h, below_setCells _ o1_2.out _ _ _ H5.out.2⟩
 clear H5
 generalize hgw : World.setCells _ _ _ _ = w6 at H6 ⊢
 clear hgw
 refine rest_nil (then_normal (wp_ret ?_))
 repeat (first | refine then_ret ?_ | refine block_ret ?_)
 have hf0 := cel_var (k := 2) H6.out.1 2 rfl Tryd.isAgg26 Tryd.sizeOf26 rfl
 refine bodyPost_ret (v := V [b0, b1]) (by simp [results, Tryd.results30, asAddr, hf0]) rfl ?_
 exact ⟨rfl, H6.out.2⟩
set_option maxHeartbeats 1000000 in
set_option maxRecDepth 100000 in
theorem lesser_2 (a0 a1 b0 b1 : Nat) (y : Int) (hy : y < 0)
  (c0 : ∀ w, Calls Tryd.prog 54 #[N a1, N b1] w (Rt w (.int .i64 y))) (w : World) :
  Calls Tryd.prog 30 #[V [a0, a1], V [b0, b1]] w (Rt w (V [a0, a1])) := by
 have H0 : Hid (_ ∧ _) := ⟨Mm.nil w, Below.refl w.heap.size w⟩
 have C0 : Hid _ := c0
 clear c0
 go_enter Tryd.func30, Tryd.ntmps30
 refine wp_seq ?_
 refine walk_seqA 3 [.made (cel [a0, a1]) 26, .made (cel [b0, b1]) 26, .made (cel [0, 0]) 26] (sB H0) ?ho1 ?he1
 case ho1 => exact ak (fun γ => ⟨rfl, fun w' => ex_boxA rfl rfl⟩) (ak (fun γ => ⟨rfl, fun w' => ex_boxA rfl rfl⟩) (ak (fun γ => ⟨rfl, fun w' => ex_madeE2 rfl⟩) trivial))
 intro γ w1 l hM hl
 have H1 : Hid (Mm w1 [(γ 0, cel [a0, a1]), (γ 1, cel [b0, b1]), (γ 2, cel [0, 0])] ∧ _) := growB H0 hM (Nat.le_refl _) hl [0, 1, 2] rfl (by decide)
 have o1_0 := ownB H0 hM (Nat.le_refl _) hl (i := 0) rfl
 have o1_1 := ownB H0 hM (Nat.le_refl _) hl (i := 1) rfl
 have o1_2 := ownB H0 hM (Nat.le_refl _) hl (i := 2) rfl
 clear hM hl l
 generalize γ 0 = γ1_0 at H1 o1_0 ⊢
 generalize γ 1 = γ1_1 at H1 o1_1 ⊢
 generalize γ 2 = γ1_2 at H1 o1_2 ⊢
 clear γ
 refine rest0 rfl (then_normal (wp_seq ?_))
 refine walk_seqB 6 [.quiet (PT γ1_0 6), .quiet (N a1), .quiet (PT γ1_1 6), .quiet (N b1), .call (.int .i64 y), .quiet (.int .i64 y)] H1 ?ho2 ?he2
 case ho2 => exact ak (by refine fun γ => ⟨rfl, fun w' h => ?_⟩; clear h; go_simp) (ak (fun γ => ⟨rfl, fun w' h => ex_loadN (i := 1) h 0 rfl rfl rfl rfl⟩) (ak (by refine fun γ => ⟨rfl, fun w' h => ?_⟩; clear h; go_simp) (ak (fun γ => ⟨rfl, fun w' h => ex_loadN (i := 1) h 1 rfl rfl rfl rfl⟩) (ak (fun γ => ⟨rfl, fun w' h => ⟨54, #[N a1, N b1], exec_call rfl call54 rfl (mpn rfl), C0.out w'⟩⟩) (ak (fun _ => ⟨rfl, fun _ _ => rfl⟩) trivial)))))
 intro _ w2 H2
 clear H1
 refine rest0 rfl (then_normal (wp_seq (wp_seq ?_)))
 refine walk_seqB 2 [.quiet (.int .i64 y), .quiet (.bool false)] H2 ?ho3 ?he3
 case ho3 => exact ak (fun _ => ⟨rfl, fun _ _ => rfl⟩) (ak (by refine fun γ => ⟨rfl, fun w' h => ?_⟩; clear h; go_simp <;> omega) trivial)
 intro _ w3 H3
 clear H2
 refine rest0 rfl (then_normal (wp_cond_false rfl ?_))
 refine wp_skip (then_normal ?_)
 refine wp_seq (wp_seq ?_)
 refine walk_seqB 2 [.quiet (.int .i64 y), .quiet (.bool false)] H3 ?ho4 ?he4
 case ho4 => exact ak (fun _ => ⟨rfl, fun _ _ => rfl⟩) (ak (by refine fun γ => ⟨rfl, fun w' h => ?_⟩; clear h; go_simp <;> omega) trivial)
 intro _ w4 H4
 clear H3
 refine rest0 rfl (then_normal (wp_cond_false rfl ?_))
 refine wp_skip (then_normal (wp_seq ?_))
 refine walk_seqB 1 [.quiet (V [a0, a1])] H4 ?ho5 ?he5
 case ho5 => exact ak (fun γ => ⟨rfl, fun w' h => ex_loadA (i := 0) (k := 2) h 0 rfl rfl rfl Tryd.isAgg26 Tryd.sizeOf26 rfl rfl⟩) trivial
 intro _ w5 H5
 clear H4
 refine rest_at (l := [1]) rfl ?_
 refine rest_store rfl rfl rfl (ex_storeA (i := 0) (ms := [a0, a1]) H5.out.1 2 rfl rfl rfl rfl Tryd.sizeOf26 (Nat.le_of_ble_eq_true rfl)) ?_
 have H6 : Hid (Mm (w5.setCells γ1_2 (6 * 0) (cel [a0, a1])) [(γ1_0, cel [a0, a1]), (γ1_1, cel [b0, b1]), (γ1_2, cel [a0, a1])] ∧ Below w.heap.size w (w5.setCells γ1_2 (6 * 0) (cel [a0, a1]))) := ⟨by
  have h := H5.out.1.put 2 (off := 6 * 0) (vs := cel [a0, a1]) rfl (by simp only [cel_len]; exact Nat.le_of_ble_eq_true rfl)
  rw [cel_patch] at h
  exact h, below_setCells _ o1_2.out _ _ _ H5.out.2⟩
 clear H5
 generalize hgw : World.setCells _ _ _ _ = w6 at H6 ⊢
 clear hgw
 refine rest_nil (then_normal (wp_ret ?_))
 repeat (first | refine then_ret ?_ | refine block_ret ?_)
 have hf0 := cel_var (k := 2) H6.out.1 2 rfl Tryd.isAgg26 Tryd.sizeOf26 rfl
 refine bodyPost_ret (v := V [a0, a1]) (by simp [results, Tryd.results30, asAddr, hf0]) rfl ?_
 exact ⟨rfl, H6.out.2⟩
set_option maxHeartbeats 1000000 in
set_option maxRecDepth 100000 in
theorem lesser_3 (a0 a1 b0 b1 : Nat) (y x : Int) (hy : y = 0) (hx : 0 < x)
  (c0 : ∀ w, Calls Tryd.prog 54 #[N a1, N b1] w (Rt w (.int .i64 y)))
  (c1 : ∀ w, Calls Tryd.prog 54 #[N a0, N b0] w (Rt w (.int .i64 x))) (w : World) :
  Calls Tryd.prog 30 #[V [a0, a1], V [b0, b1]] w (Rt w (V [b0, b1])) := by
 have H0 : Hid (_ ∧ _) := ⟨Mm.nil w, Below.refl w.heap.size w⟩
 have C0 : Hid _ := c0
 have C1 : Hid _ := c1
 clear c0 c1
 go_enter Tryd.func30, Tryd.ntmps30
 refine wp_seq ?_
 refine walk_seqA 3 [.made (cel [a0, a1]) 26, .made (cel [b0, b1]) 26, .made (cel [0, 0]) 26] (sB H0) ?ho1 ?he1
 case ho1 => exact ak (fun γ => ⟨rfl, fun w' => ex_boxA rfl rfl⟩) (ak (fun γ => ⟨rfl, fun w' => ex_boxA rfl rfl⟩) (ak (fun γ => ⟨rfl, fun w' => ex_madeE2 rfl⟩) trivial))
 intro γ w1 l hM hl
 have H1 : Hid (Mm w1 [(γ 0, cel [a0, a1]), (γ 1, cel [b0, b1]), (γ 2, cel [0, 0])] ∧ _) := growB H0 hM (Nat.le_refl _) hl [0, 1, 2] rfl (by decide)
 have o1_0 := ownB H0 hM (Nat.le_refl _) hl (i := 0) rfl
 have o1_1 := ownB H0 hM (Nat.le_refl _) hl (i := 1) rfl
 have o1_2 := ownB H0 hM (Nat.le_refl _) hl (i := 2) rfl
 clear hM hl l
 generalize γ 0 = γ1_0 at H1 o1_0 ⊢
 generalize γ 1 = γ1_1 at H1 o1_1 ⊢
 generalize γ 2 = γ1_2 at H1 o1_2 ⊢
 clear γ
 refine rest0 rfl (then_normal (wp_seq ?_))
 refine walk_seqB 6 [.quiet (PT γ1_0 6), .quiet (N a1), .quiet (PT γ1_1 6), .quiet (N b1), .call (.int .i64 y), .quiet (.int .i64 y)] H1 ?ho2 ?he2
 case ho2 => exact ak (by refine fun γ => ⟨rfl, fun w' h => ?_⟩; clear h; go_simp) (ak (fun γ => ⟨rfl, fun w' h => ex_loadN (i := 1) h 0 rfl rfl rfl rfl⟩) (ak (by refine fun γ => ⟨rfl, fun w' h => ?_⟩; clear h; go_simp) (ak (fun γ => ⟨rfl, fun w' h => ex_loadN (i := 1) h 1 rfl rfl rfl rfl⟩) (ak (fun γ => ⟨rfl, fun w' h => ⟨54, #[N a1, N b1], exec_call rfl call54 rfl (mpn rfl), C0.out w'⟩⟩) (ak (fun _ => ⟨rfl, fun _ _ => rfl⟩) trivial)))))
 intro _ w2 H2
 clear H1
 refine rest0 rfl (then_normal (wp_seq (wp_seq ?_)))
 refine walk_seqB 2 [.quiet (.int .i64 y), .quiet (.bool true)] H2 ?ho3 ?he3
 case ho3 => exact ak (fun _ => ⟨rfl, fun _ _ => rfl⟩) (ak (by refine fun γ => ⟨rfl, fun w' h => ?_⟩; clear h; go_simp <;> omega) trivial)
 intro _ w3 H3
 clear H2
 refine rest0 rfl (then_normal (wp_cond_true rfl ?_))
 refine walk_seqB 6 [.quiet (PT γ1_0 0), .quiet (N a0), .quiet (PT γ1_1 0), .quiet (N b0), .call (.int .i64 x), .quiet (.int .i64 x)] H3 ?ho4 ?he4
 case ho4 => exact ak (by refine fun γ => ⟨rfl, fun w' h => ?_⟩; clear h; go_simp) (ak (fun γ => ⟨rfl, fun w' h => ex_loadN (i := 0) h 0 rfl rfl rfl rfl⟩) (ak (by refine fun γ => ⟨rfl, fun w' h => ?_⟩; clear h; go_simp) (ak (fun γ => ⟨rfl, fun w' h => ex_loadN (i := 0) h 1 rfl rfl rfl rfl⟩) (ak (fun γ => ⟨rfl, fun w' h => ⟨54, #[N a0, N b0], exec_call rfl call54 rfl (mpn rfl), C1.out w'⟩⟩) (ak (fun _ => ⟨rfl, fun _ _ => rfl⟩) trivial)))))
 intro _ w4 H4
 clear H3
 refine rest0 rfl (then_normal (wp_seq (wp_seq ?_)))
 refine walk_seqB 2 [.quiet (.int .i64 x), .quiet (.bool true)] H4 ?ho5 ?he5
 case ho5 => exact ak (fun _ => ⟨rfl, fun _ _ => rfl⟩) (ak (by refine fun γ => ⟨rfl, fun w' h => ?_⟩; clear h; go_simp <;> omega) trivial)
 intro _ w5 H5
 clear H4
 refine rest0 rfl (then_normal (wp_cond_true rfl (wp_seq ?_)))
 refine walk_seqB 1 [.quiet (V [b0, b1])] H5 ?ho6 ?he6
 case ho6 => exact ak (fun γ => ⟨rfl, fun w' h => ex_loadA (i := 0) (k := 2) h 1 rfl rfl rfl Tryd.isAgg26 Tryd.sizeOf26 rfl rfl⟩) trivial
 intro _ w6 H6
 clear H5
 refine rest_at (l := [1]) rfl ?_
 refine rest_store rfl rfl rfl (ex_storeA (i := 0) (ms := [b0, b1]) H6.out.1 2 rfl rfl rfl rfl Tryd.sizeOf26 (Nat.le_of_ble_eq_true rfl)) ?_
 have H7 : Hid (Mm (w6.setCells γ1_2 (6 * 0) (cel [b0, b1])) [(γ1_0, cel [a0, a1]), (γ1_1, cel [b0, b1]), (γ1_2, cel [b0, b1])] ∧ Below w.heap.size w (w6.setCells γ1_2 (6 * 0) (cel [b0, b1]))) := ⟨by
  have h := H6.out.1.put 2 (off := 6 * 0) (vs := cel [b0, b1]) rfl (by simp only [cel_len]; exact Nat.le_of_ble_eq_true rfl)
  rw [cel_patch] at h
  exact h, below_setCells _ o1_2.out _ _ _ H6.out.2⟩
 clear H6
 generalize hgw : World.setCells _ _ _ _ = w7 at H7 ⊢
 clear hgw
 refine rest_nil (then_normal (wp_ret ?_))
 repeat (first | refine then_ret ?_ | refine block_ret ?_)
 have hf0 := cel_var (k := 2) H7.out.1 2 rfl Tryd.isAgg26 Tryd.sizeOf26 rfl
 refine bodyPost_ret (v := V [b0, b1]) (by simp [results, Tryd.results30, asAddr, hf0]) rfl ?_
 exact ⟨rfl, H7.out.2⟩
set_option maxHeartbeats 1000000 in
set_option maxRecDepth 100000 in
theorem lesser_4 (a0 a1 b0 b1 : Nat) (y x : Int) (hy : y = 0) (hx : ¬ 0 < x)
  (c0 : ∀ w, Calls Tryd.prog 54 #[N a1, N b1] w (Rt w (.int .i64 y)))
  (c1 : ∀ w, Calls Tryd.prog 54 #[N a0, N b0] w (Rt w (.int .i64 x))) (w : World) :
  Calls Tryd.prog 30 #[V [a0, a1], V [b0, b1]] w (Rt w (V [a0, a1])) := by
 have H0 : Hid (_ ∧ _) := ⟨Mm.nil w, Below.refl w.heap.size w⟩
 have C0 : Hid _ := c0
 have C1 : Hid _ := c1
 clear c0 c1
 go_enter Tryd.func30, Tryd.ntmps30
 refine wp_seq ?_
 refine walk_seqA 3 [.made (cel [a0, a1]) 26, .made (cel [b0, b1]) 26, .made (cel [0, 0]) 26] (sB H0) ?ho1 ?he1
 case ho1 => exact ak (fun γ => ⟨rfl, fun w' => ex_boxA rfl rfl⟩) (ak (fun γ => ⟨rfl, fun w' => ex_boxA rfl rfl⟩) (ak (fun γ => ⟨rfl, fun w' => ex_madeE2 rfl⟩) trivial))
 intro γ w1 l hM hl
 have H1 : Hid (Mm w1 [(γ 0, cel [a0, a1]), (γ 1, cel [b0, b1]), (γ 2, cel [0, 0])] ∧ _) := growB H0 hM (Nat.le_refl _) hl [0, 1, 2] rfl (by decide)
 have o1_0 := ownB H0 hM (Nat.le_refl _) hl (i := 0) rfl
 have o1_1 := ownB H0 hM (Nat.le_refl _) hl (i := 1) rfl
 have o1_2 := ownB H0 hM (Nat.le_refl _) hl (i := 2) rfl
 clear hM hl l
 generalize γ 0 = γ1_0 at H1 o1_0 ⊢
 generalize γ 1 = γ1_1 at H1 o1_1 ⊢
 generalize γ 2 = γ1_2 at H1 o1_2 ⊢
 clear γ
 refine rest0 rfl (then_normal (wp_seq ?_))
 refine walk_seqB 6 [.quiet (PT γ1_0 6), .quiet (N a1), .quiet (PT γ1_1 6), .quiet (N b1), .call (.int .i64 y), .quiet (.int .i64 y)] H1 ?ho2 ?he2
 case ho2 => exact ak (by refine fun γ => ⟨rfl, fun w' h => ?_⟩; clear h; go_simp) (ak (fun γ => ⟨rfl, fun w' h => ex_loadN (i := 1) h 0 rfl rfl rfl rfl⟩) (ak (by refine fun γ => ⟨rfl, fun w' h => ?_⟩; clear h; go_simp) (ak (fun γ => ⟨rfl, fun w' h => ex_loadN (i := 1) h 1 rfl rfl rfl rfl⟩) (ak (fun γ => ⟨rfl, fun w' h => ⟨54, #[N a1, N b1], exec_call rfl call54 rfl (mpn rfl), C0.out w'⟩⟩) (ak (fun _ => ⟨rfl, fun _ _ => rfl⟩) trivial)))))
 intro _ w2 H2
 clear H1
 refine rest0 rfl (then_normal (wp_seq (wp_seq ?_)))
 refine walk_seqB 2 [.quiet (.int .i64 y), .quiet (.bool true)] H2 ?ho3 ?he3
 case ho3 => exact ak (fun _ => ⟨rfl, fun _ _ => rfl⟩) (ak (by refine fun γ => ⟨rfl, fun w' h => ?_⟩; clear h; go_simp <;> omega) trivial)
 intro _ w3 H3
 clear H2
 refine rest0 rfl (then_normal (wp_cond_true rfl ?_))
 refine walk_seqB 6 [.quiet (PT γ1_0 0), .quiet (N a0), .quiet (PT γ1_1 0), .quiet (N b0), .call (.int .i64 x), .quiet (.int .i64 x)] H3 ?ho4 ?he4
 case ho4 => exact ak (by refine fun γ => ⟨rfl, fun w' h => ?_⟩; clear h; go_simp) (ak (fun γ => ⟨rfl, fun w' h => ex_loadN (i := 0) h 0 rfl rfl rfl rfl⟩) (ak (by refine fun γ => ⟨rfl, fun w' h => ?_⟩; clear h; go_simp) (ak (fun γ => ⟨rfl, fun w' h => ex_loadN (i := 0) h 1 rfl rfl rfl rfl⟩) (ak (fun γ => ⟨rfl, fun w' h => ⟨54, #[N a0, N b0], exec_call rfl call54 rfl (mpn rfl), C1.out w'⟩⟩) (ak (fun _ => ⟨rfl, fun _ _ => rfl⟩) trivial)))))
 intro _ w4 H4
 clear H3
 refine rest0 rfl (then_normal (wp_seq (wp_seq ?_)))
 refine walk_seqB 2 [.quiet (.int .i64 x), .quiet (.bool false)] H4 ?ho5 ?he5
 case ho5 => exact ak (fun _ => ⟨rfl, fun _ _ => rfl⟩) (ak (by refine fun γ => ⟨rfl, fun w' h => ?_⟩; clear h; go_simp <;> omega) trivial)
 intro _ w5 H5
 clear H4
 refine rest0 rfl (then_normal (wp_cond_false rfl ?_))
 refine wp_skip (then_normal (wp_seq ?_))
 refine walk_seqB 1 [.quiet (V [a0, a1])] H5 ?ho6 ?he6
 case ho6 => exact ak (fun γ => ⟨rfl, fun w' h => ex_loadA (i := 0) (k := 2) h 0 rfl rfl rfl Tryd.isAgg26 Tryd.sizeOf26 rfl rfl⟩) trivial
 intro _ w6 H6
 clear H5
 refine rest_at (l := [1]) rfl ?_
 refine rest_store rfl rfl rfl (ex_storeA (i := 0) (ms := [a0, a1]) H6.out.1 2 rfl rfl rfl rfl Tryd.sizeOf26 (Nat.le_of_ble_eq_true rfl)) ?_
 have H7 : Hid (Mm (w6.setCells γ1_2 (6 * 0) (cel [a0, a1])) [(γ1_0, cel [a0, a1]), (γ1_1, cel [b0, b1]), (γ1_2, cel [a0, a1])] ∧ Below w.heap.size w (w6.setCells γ1_2 (6 * 0) (cel [a0, a1]))) := ⟨by
  have h := H6.out.1.put 2 (off := 6 * 0) (vs := cel [a0, a1]) rfl (by simp only [cel_len]; exact Nat.le_of_ble_eq_true rfl)
  rw [cel_patch] at h
  exact h, below_setCells _ o1_2.out _ _ _ H6.out.2⟩
 clear H6
 generalize hgw : World.setCells _ _ _ _ = w7 at H7 ⊢
 clear hgw
 refine rest_nil (then_normal (wp_ret ?_))
 repeat (first | refine then_ret ?_ | refine block_ret ?_)
 have hf0 := cel_var (k := 2) H7.out.1 2 rfl Tryd.isAgg26 Tryd.sizeOf26 rfl
 refine bodyPost_ret (v := V [a0, a1]) (by simp [results, Tryd.results30, asAddr, hf0]) rfl ?_
 exact ⟨rfl, H7.out.2⟩
end Rg
end Go.Proofs.YtgdlhgbdigpfhabDoor
end
section
namespace Go.Proofs.YtgdlhgbdigpfhabDoor
open Go.RowKit
namespace Rg
set_option maxHeartbeats 1000000 in
set_option maxRecDepth 100000 in
theorem rooN_1 (g n o s a k1 x ee r q : Nat) (e1 : ∀ w, (Op.equalIn 10000 24 (N q) (N a)).run Tryd.prog w = .ok true w)
  (c0 : ∀ w, Mm w [(g, modx n o s)] → Calls Tryd.prog 77 #[PT g 0] w (Rt w (N n)))
  (c1 : ∀ w, Calls Tryd.prog 19 #[.int .u64 1] w (Rt w (N k1)))
  (c2 : ∀ w, Calls Tryd.prog 76 #[N n, N k1] w (Rt w (N x)))
  (c3 : ∀ w, Calls Tryd.prog 75 #[N x, .int .i64 (-2)] w (Rt w (N ee)))
  (c4 : ∀ w, Mm w [(g, modx n o s)] → Calls Tryd.prog 74 #[PT g 0, N a, N ee] w (Rt w (N r)))
  (c5 : ∀ w, Mm w [(g, modx n o s)] → Calls Tryd.prog 47 #[PT g 0, N r, N r] w (Rt w (N q))) (w : World) (hm : Mm w [(g, modx n o s)]) :
  Calls Tryd.prog 51 #[.agg #[PT g 0], N a] w (Rt w (.tuple #[N r, .bool true])) := by
 have H0 : Hid (_ ∧ _) := ⟨hm, Below.refl w.heap.size w⟩
 clear hm
 have C0 : Hid _ := c0
 have C1 : Hid _ := c1
 have C2 : Hid _ := c2
 have C3 : Hid _ := c3
 have C4 : Hid _ := c4
 have C5 : Hid _ := c5
 clear c0 c1 c2 c3 c4 c5
 go_enter Tryd.func51, Tryd.ntmps51
 refine wp_seq ?_
 refine walk_seqA 4 [.made [PT g 0] 47, .made (cells6 a) 24, .made zero6 24, .quiet (.bool false)] (sB H0) ?ho1 ?he1
 case ho1 => exact ak (fun γ => ⟨rfl, fun w' => ex_boxF rfl rfl⟩) (ak (fun γ => ⟨rfl, fun w' => ex_box6 rfl rfl⟩) (ak (fun γ => ⟨rfl, fun w' => exec_made6 rfl⟩) (ak (fun _ => ⟨rfl, fun _ _ => rfl⟩) trivial)))
 intro γ w1 l hM hl
 have H1 : Hid (Mm w1 [(γ 0, [PT g 0]), (γ 1, cells6 a), (γ 2, zero6), (g, modx n o s)] ∧ _) := growB H0 hM (Nat.le_refl _) hl [0, 1, 2] rfl (by decide)
 have o1_0 := ownB H0 hM (Nat.le_refl _) hl (i := 0) rfl
 have o1_1 := ownB H0 hM (Nat.le_refl _) hl (i := 1) rfl
 have o1_2 := ownB H0 hM (Nat.le_refl _) hl (i := 2) rfl
 clear hM hl l
 generalize γ 0 = γ1_0 at H1 o1_0 ⊢
 generalize γ 1 = γ1_1 at H1 o1_1 ⊢
 generalize γ 2 = γ1_2 at H1 o1_2 ⊢
 clear γ
 refine rest0 rfl (then_normal (wp_seq ?_))
 refine walk_seqA 7 [.quiet (PT γ1_0 0), .quiet (PT g 0), .call (N n), .call (N k1), .call (N x), .made zero6 24, .laid 5 zero6 (cells6 x)] (sB H1) ?ho2 ?he2 (hL := ?hL2)
 case hL2 => exact ⟨⟨_, rfl⟩, trivial⟩
 case ho2 => exact ak (by refine fun γ => ⟨rfl, fun w' h => ?_⟩; clear h; go_simp) (ak (fun γ => ⟨rfl, fun w' h => ex_loadQ h 0 rfl rfl rfl rfl⟩) (ak (fun γ => ⟨rfl, fun w' h => ⟨77, #[PT g 0], exec_call rfl call77 rfl (mpn rfl), C0.out w' (h.one 3 rfl)⟩⟩) (ak (fun γ => ⟨rfl, fun w' h => ⟨19, #[.int .u64 1], exec_call rfl call19 rfl (mpn rfl), C1.out w'⟩⟩) (ak (fun γ => ⟨rfl, fun w' h => ⟨76, #[N n, N k1], exec_call rfl call76 rfl (mpn rfl), C2.out w'⟩⟩) (ak (fun γ => ⟨rfl, fun w' => exec_made6 rfl⟩) (ak (fun γ => ⟨rfl, rfl, rfl, fun w' h => exec_laid6 h rfl rfl rfl⟩) trivial))))))
 intro γ w2 l hM hl
 have H2 : Hid (Mm w2 [(γ 5, cells6 x), (γ1_0, [PT g 0]), (γ1_1, cells6 a), (γ1_2, zero6), (g, modx n o s)] ∧ _) := growB H1 hM (Nat.le_refl _) hl [5] rfl (by decide)
 have o2_5 := ownB H1 hM (Nat.le_refl _) hl (i := 5) rfl
 clear hM hl l H1
 generalize γ 5 = γ2_5 at H2 o2_5 ⊢
 clear γ
 refine rest0 rfl (then_normal (wp_seq ?_))
 refine walk_anyA 8 [.quiet (PT γ1_0 0), .quiet (PT g 0), .quiet (N a), .quiet (N x), .call (N ee), .call (N r), .made zero6 24, .laid 6 zero6 (cells6 r)] (sB H2) ?ho3 ?he3 (hL := ?hL3)
 case hL3 => exact ⟨⟨_, rfl⟩, trivial⟩
 case ho3 => exact ak (by refine fun γ => ⟨rfl, fun w' h => ?_⟩; clear h; go_simp) (ak (fun γ => ⟨rfl, fun w' h => ex_loadQ h 1 rfl rfl rfl rfl⟩) (ak (fun γ => ⟨rfl, fun w' h => ex_load6 h 2 rfl rfl rfl rfl⟩) (ak (fun γ => ⟨rfl, fun w' h => ex_load6 h 0 rfl rfl rfl rfl⟩) (ak (fun γ => ⟨rfl, fun w' h => ⟨75, #[N x, .int .i64 (-2)], exec_call rfl call75 rfl (mpn rfl), C3.out w'⟩⟩) (ak (fun γ => ⟨rfl, fun w' h => ⟨74, #[PT g 0, N a, N ee], exec_call rfl call74 rfl (mpn rfl), C4.out w' (h.one 4 rfl)⟩⟩) (ak (fun γ => ⟨rfl, fun w' => exec_made6 rfl⟩) (ak (fun γ => ⟨rfl, rfl, rfl, fun w' h => exec_laid6 h rfl rfl rfl⟩) trivial)))))))
 intro γ w3 l hM hl
 have H3 : Hid (Mm w3 [(γ 6, cells6 r), (γ2_5, cells6 x), (γ1_0, [PT g 0]), (γ1_1, cells6 a), (γ1_2, zero6), (g, modx n o s)] ∧ _) := growB H2 hM (Nat.le_refl _) hl [6] rfl (by decide)
 have o3_6 := ownB H2 hM (Nat.le_refl _) hl (i := 6) rfl
 clear hM hl l H2
 generalize γ 6 = γ3_6 at H3 o3_6 ⊢
 clear γ
 refine rest0 rfl (then_normal (wp_seq ?_))
 refine walk_put2 (by kernel_rfl) 8 [6, 7] [.quiet (N r), .quiet (PT γ1_0 0), .quiet (PT g 0), .quiet (N r), .quiet (N r), .call (N q), .quiet (N a), .quiet (.bool true)] _ ?pre4 ?F4 _ ?hpre4 (fun γ => ?hF4) (by kernel_rfl) rfl trivial (sB H3) ?ho4 ?hla4 ?he4
 case hpre4 => simp only [tk, tz]; rfl
 case hF4 => simp only [fill, Kind.val, Act.put, sa, sz, ss]; rfl
 case ho4 =>
  refine ak (fun γ => ⟨rfl, fun w' h => ex_load6 h 0 rfl rfl rfl rfl⟩) ?_
  refine ak (by refine fun γ => ⟨rfl, fun w' h => ?_⟩; clear h; go_simp) ?_
  refine ak (fun γ => ⟨rfl, fun w' h => ex_loadQ h 2 rfl rfl rfl rfl⟩) ?_
  refine ak (fun γ => ⟨rfl, fun w' h => ex_load6 h 0 rfl rfl rfl rfl⟩) ?_
  refine ak (fun γ => ⟨rfl, fun w' h => ex_load6 h 0 rfl rfl rfl rfl⟩) ?_
  refine ak (fun γ => ⟨rfl, fun w' h => ⟨47, #[PT g 0, N r, N r], exec_call rfl call47 rfl (mpn rfl), C5.out w' (h.one 5 rfl)⟩⟩) ?_
  refine ak (fun γ => ⟨rfl, fun w' h => ex_load6 h 3 rfl rfl rfl rfl⟩) ?_
  refine ak (fun γ => ⟨rfl, fun w' _ => exec_eq6 e1 rfl rfl rfl⟩) ?_
  exact trivial
 case hla4 => exact rfl
 intro γ w4 l hM hl
 have H4 := keepB H3 hM.below
 clear hM hl l H3 γ
 have H5 : Hid (Mm (w4.setCells γ1_2 0 (cells6 r)) [(γ3_6, cells6 r), (γ2_5, cells6 x), (γ1_0, [PT g 0]), (γ1_1, cells6 a), (γ1_2, cells6 r), (g, modx n o s)] ∧ Below w.heap.size w (w4.setCells γ1_2 0 (cells6 r))) := ⟨H4.out.1.put 4 (off := 0) (vs := cells6 r) rfl (Nat.le_of_ble_eq_true rfl), below_setCells _ o1_2.out _ _ _ H4.out.2⟩
 refine ⟨_, ex_store6 H4.out.1 4 rfl rfl rfl rfl (Nat.le_of_ble_eq_true rfl), ⟨⟨_, _, rfl, rfl, rfl, ex_load6 H5.out.1 3 rfl rfl rfl rfl⟩, ⟨_, _, rfl, rfl, rfl, by first | rfl | go_simp⟩, trivial⟩, ?_⟩
 clear H4
 generalize hgw : World.setCells _ _ _ _ = w5 at H5 ⊢
 clear hgw
 refine rest_at (l := [9]) rfl ?_
 refine rest_set (d := 5) rfl rfl rfl rfl ?_
 simp only [Act.put, sa, sz, ss]
 refine rest_nil (then_normal (wp_ret ?_))
 repeat (first | refine then_ret ?_ | refine block_ret ?_)
 have c0 := H5.out.1.get 4 rfl 0 rfl
 have c1 := H5.out.1.get 4 rfl 1 rfl
 have c2 := H5.out.1.get 4 rfl 2 rfl
 have c3 := H5.out.1.get 4 rfl 3 rfl
 have c4 := H5.out.1.get 4 rfl 4 rfl
 have c5 := H5.out.1.get 4 rfl 5 rfl
 refine bodyPost_ret (v := .tuple #[N r, .bool true]) (by simp [results, Tryd.results51, go_sem, *]) rfl ?_
 exact ⟨rfl, H5.out.2⟩
set_option maxHeartbeats 1000000 in
set_option maxRecDepth 100000 in
theorem rooN_2 (g n o s a k1 x ee r q : Nat) (e1 : ∀ w, (Op.equalIn 10000 24 (N q) (N a)).run Tryd.prog w = .ok false w)
  (c0 : ∀ w, Mm w [(g, modx n o s)] → Calls Tryd.prog 77 #[PT g 0] w (Rt w (N n)))
  (c1 : ∀ w, Calls Tryd.prog 19 #[.int .u64 1] w (Rt w (N k1)))
  (c2 : ∀ w, Calls Tryd.prog 76 #[N n, N k1] w (Rt w (N x)))
  (c3 : ∀ w, Calls Tryd.prog 75 #[N x, .int .i64 (-2)] w (Rt w (N ee)))
  (c4 : ∀ w, Mm w [(g, modx n o s)] → Calls Tryd.prog 74 #[PT g 0, N a, N ee] w (Rt w (N r)))
  (c5 : ∀ w, Mm w [(g, modx n o s)] → Calls Tryd.prog 47 #[PT g 0, N r, N r] w (Rt w (N q))) (w : World) (hm : Mm w [(g, modx n o s)]) :
  Calls Tryd.prog 51 #[.agg #[PT g 0], N a] w (Rt w (.tuple #[N r, .bool false])) := by
 have H0 : Hid (_ ∧ _) := ⟨hm, Below.refl w.heap.size w⟩
 clear hm
 have C0 : Hid _ := c0
 have C1 : Hid _ := c1
 have C2 : Hid _ := c2
 have C3 : Hid _ := c3
 have C4 : Hid _ := c4
 have C5 : Hid _ := c5
 clear c0 c1 c2 c3 c4 c5
 go_enter Tryd.func51, Tryd.ntmps51
 refine wp_seq ?_
 refine walk_seqA 4 [.made [PT g 0] 47, .made (cells6 a) 24, .made zero6 24, .quiet (.bool false)] (sB H0) ?ho1 ?he1
 case ho1 => exact ak (fun γ => ⟨rfl, fun w' => ex_boxF rfl rfl⟩) (ak (fun γ => ⟨rfl, fun w' => ex_box6 rfl rfl⟩) (ak (fun γ => ⟨rfl, fun w' => exec_made6 rfl⟩) (ak (fun _ => ⟨rfl, fun _ _ => rfl⟩) trivial)))
 intro γ w1 l hM hl
 have H1 : Hid (Mm w1 [(γ 0, [PT g 0]), (γ 1, cells6 a), (γ 2, zero6), (g, modx n o s)] ∧ _) := growB H0 hM (Nat.le_refl _) hl [0, 1, 2] rfl (by decide)
 have o1_0 := ownB H0 hM (Nat.le_refl _) hl (i := 0) rfl
 have o1_1 := ownB H0 hM (Nat.le_refl _) hl (i := 1) rfl
 have o1_2 := ownB H0 hM (Nat.le_refl _) hl (i := 2) rfl
 clear hM hl l
 generalize γ 0 = γ1_0 at H1 o1_0 ⊢
 generalize γ 1 = γ1_1 at H1 o1_1 ⊢
 generalize γ 2 = γ1_2 at H1 o1_2 ⊢
 clear γ
 refine rest0 rfl (then_normal (wp_seq ?_))
 refine walk_seqA 7 [.quiet (PT γ1_0 0), .quiet (PT g 0), .call (N n), .call (N k1), .call (N x), .made zero6 24, .laid 5 zero6 (cells6 x)] (sB H1) ?ho2 ?he2 (hL := ?hL2)
 case hL2 => exact ⟨⟨_, rfl⟩, trivial⟩
 case ho2 => exact ak (by refine fun γ => ⟨rfl, fun w' h => ?_⟩; clear h; go_simp) (ak (fun γ => ⟨rfl, fun w' h => ex_loadQ h 0 rfl rfl rfl rfl⟩) (ak (fun γ => ⟨rfl, fun w' h => ⟨77, #[PT g 0], exec_call rfl call77 rfl (mpn rfl), C0.out w' (h.one 3 rfl)⟩⟩) (ak (fun γ => ⟨rfl, fun w' h => ⟨19, #[.int .u64 1], exec_call rfl call19 rfl (mpn rfl), C1.out w'⟩⟩) (ak (fun γ => ⟨rfl, fun w' h => ⟨76, #[N n, N k1], exec_call rfl call76 rfl (mpn rfl), C2.out w'⟩⟩) (ak (fun γ => ⟨rfl, fun w' => exec_made6 rfl⟩) (ak (fun γ => ⟨rfl, rfl, rfl, fun w' h => exec_laid6 h rfl rfl rfl⟩) trivial))))))
 intro γ w2 l hM hl
 have H2 : Hid (Mm w2 [(γ 5, cells6 x), (γ1_0, [PT g 0]), (γ1_1, cells6 a), (γ1_2, zero6), (g, modx n o s)] ∧ _) := growB H1 hM (Nat.le_refl _) hl [5] rfl (by decide)
 have o2_5 := ownB H1 hM (Nat.le_refl _) hl (i := 5) rfl
 clear hM hl l H1
 generalize γ 5 = γ2_5 at H2 o2_5 ⊢
 clear γ
 refine rest0 rfl (then_normal (wp_seq ?_))
 refine walk_anyA 8 [.quiet (PT γ1_0 0), .quiet (PT g 0), .quiet (N a), .quiet (N x), .call (N ee), .call (N r), .made zero6 24, .laid 6 zero6 (cells6 r)] (sB H2) ?ho3 ?he3 (hL := ?hL3)
 case hL3 => exact ⟨⟨_, rfl⟩, trivial⟩
 case ho3 => exact ak (by refine fun γ => ⟨rfl, fun w' h => ?_⟩; clear h; go_simp) (ak (fun γ => ⟨rfl, fun w' h => ex_loadQ h 1 rfl rfl rfl rfl⟩) (ak (fun γ => ⟨rfl, fun w' h => ex_load6 h 2 rfl rfl rfl rfl⟩) (ak (fun γ => ⟨rfl, fun w' h => ex_load6 h 0 rfl rfl rfl rfl⟩) (ak (fun γ => ⟨rfl, fun w' h => ⟨75, #[N x, .int .i64 (-2)], exec_call rfl call75 rfl (mpn rfl), C3.out w'⟩⟩) (ak (fun γ => ⟨rfl, fun w' h => ⟨74, #[PT g 0, N a, N ee], exec_call rfl call74 rfl (mpn rfl), C4.out w' (h.one 4 rfl)⟩⟩) (ak (fun γ => ⟨rfl, fun w' => exec_made6 rfl⟩) (ak (fun γ => ⟨rfl, rfl, rfl, fun w' h => exec_laid6 h rfl rfl rfl⟩) trivial)))))))
 intro γ w3 l hM hl
 have H3 : Hid (Mm w3 [(γ 6, cells6 r), (γ2_5, cells6 x), (γ1_0, [PT g 0]), (γ1_1, cells6 a), (γ1_2, zero6), (g, modx n o s)] ∧ _) := growB H2 hM (Nat.le_refl _) hl [6] rfl (by decide)
 have o3_6 := ownB H2 hM (Nat.le_refl _) hl (i := 6) rfl
 clear hM hl l H2
 generalize γ 6 = γ3_6 at H3 o3_6 ⊢
 clear γ
 refine rest0 rfl (then_normal (wp_seq ?_))
 refine walk_put2 (by kernel_rfl) 8 [6, 7] [.quiet (N r), .quiet (PT γ1_0 0), .quiet (PT g 0), .quiet (N r), .quiet (N r), .call (N q), .quiet (N a), .quiet (.bool false)] _ ?pre4 ?F4 _ ?hpre4 (fun γ => ?hF4) (by kernel_rfl) rfl trivial (sB H3) ?ho4 ?hla4 ?he4
 case hpre4 => simp only [tk, tz]; rfl
 case hF4 => simp only [fill, Kind.val, Act.put, sa, sz, ss]; rfl
 case ho4 =>
  refine ak (fun γ => ⟨rfl, fun w' h => ex_load6 h 0 rfl rfl rfl rfl⟩) ?_
  refine ak (by refine fun γ => ⟨rfl, fun w' h => ?_⟩; clear h; go_simp) ?_
  refine ak (fun γ => ⟨rfl, fun w' h => ex_loadQ h 2 rfl rfl rfl rfl⟩) ?_
  refine ak (fun γ => ⟨rfl, fun w' h => ex_load6 h 0 rfl rfl rfl rfl⟩) ?_
  refine ak (fun γ => ⟨rfl, fun w' h => ex_load6 h 0 rfl rfl rfl rfl⟩) ?_
  refine ak (fun γ => ⟨rfl, fun w' h => ⟨47, #[PT g 0, N r, N r], exec_call rfl call47 rfl (mpn rfl), C5.out w' (h.one 5 rfl)⟩⟩) ?_
  refine ak (fun γ => ⟨rfl, fun w' h => ex_load6 h 3 rfl rfl rfl rfl⟩) ?_
  refine ak (fun γ => ⟨rfl, fun w' _ => exec_eq6 e1 rfl rfl rfl⟩) ?_
  exact trivial
 case hla4 => exact rfl
 intro γ w4 l hM hl
 have H4 := keepB H3 hM.below
 clear hM hl l H3 γ
 have H5 : Hid (Mm (w4.setCells γ1_2 0 (cells6 r)) [(γ3_6, cells6 r), (γ2_5, cells6 x), (γ1_0, [PT g 0]), (γ1_1, cells6 a), (γ1_2, cells6 r), (g, modx n o s)] ∧ Below w.heap.size w (w4.setCells γ1_2 0 (cells6 r))) := ⟨H4.out.1.put 4 (off := 0) (vs := cells6 r) rfl (Nat.le_of_ble_eq_true rfl), below_setCells _ o1_2.out _ _ _ H4.out.2⟩
 refine ⟨_, ex_store6 H4.out.1 4 rfl rfl rfl rfl (Nat.le_of_ble_eq_true rfl), ⟨⟨_, _, rfl, rfl, rfl, ex_load6 H5.out.1 3 rfl rfl rfl rfl⟩, ⟨_, _, rfl, rfl, rfl, by first | rfl | go_simp⟩, trivial⟩, ?_⟩
 clear H4
 generalize hgw : World.setCells _ _ _ _ = w5 at H5 ⊢
 clear hgw
 refine rest_at (l := [9]) rfl ?_
 refine rest_set (d := 5) rfl rfl rfl rfl ?_
 simp only [Act.put, sa, sz, ss]
 refine rest_nil (then_normal (wp_ret ?_))
 repeat (first | refine then_ret ?_ | refine block_ret ?_)
 have c0 := H5.out.1.get 4 rfl 0 rfl
 have c1 := H5.out.1.get 4 rfl 1 rfl
 have c2 := H5.out.1.get 4 rfl 2 rfl
 have c3 := H5.out.1.get 4 rfl 3 rfl
 have c4 := H5.out.1.get 4 rfl 4 rfl
 have c5 := H5.out.1.get 4 rfl 5 rfl
 refine bodyPost_ret (v := .tuple #[N r, .bool false]) (by simp [results, Tryd.results51, go_sem, *]) rfl ?_
 exact ⟨rfl, H5.out.2⟩
set_option maxHeartbeats 1000000 in
set_option maxRecDepth 100000 in
theorem rootN_1 (g n o s a r : Nat)
  (c0 : ∀ w, Mm w [(g, modx n o s)] → Calls Tryd.prog 51 #[.agg #[PT g 0], N a] w (Rt w (.tuple #[N r, .bool true]))) (w : World) (hm : Mm w [(g, modx n o s)]) :
  Calls Tryd.prog 49 #[.agg #[PT g 0], N a] w (Rt w (V [r, 0])) := by
 have H0 : Hid (_ ∧ _) := ⟨hm, Below.refl w.heap.size w⟩
 clear hm
 have C0 : Hid _ := c0
 clear c0
 go_enter Tryd.func49, Tryd.ntmps49
 refine wp_seq ?_
 refine walk_seqA 3 [.made [PT g 0] 47, .made (cells6 a) 24, .made (cel [0, 0]) 26] (sB H0) ?ho1 ?he1
 case ho1 => exact ak (fun γ => ⟨rfl, fun w' => ex_boxF rfl rfl⟩) (ak (fun γ => ⟨rfl, fun w' => ex_box6 rfl rfl⟩) (ak (fun γ => ⟨rfl, fun w' => ex_madeE2 rfl⟩) trivial))
 intro γ w1 l hM hl
 have H1 : Hid (Mm w1 [(γ 0, [PT g 0]), (γ 1, cells6 a), (γ 2, cel [0, 0]), (g, modx n o s)] ∧ _) := growB H0 hM (Nat.le_refl _) hl [0, 1, 2] rfl (by decide)
 have o1_0 := ownB H0 hM (Nat.le_refl _) hl (i := 0) rfl
 have o1_1 := ownB H0 hM (Nat.le_refl _) hl (i := 1) rfl
 have o1_2 := ownB H0 hM (Nat.le_refl _) hl (i := 2) rfl
 clear hM hl l
 generalize γ 0 = γ1_0 at H1 o1_0 ⊢
 generalize γ 1 = γ1_1 at H1 o1_1 ⊢
 generalize γ 2 = γ1_2 at H1 o1_2 ⊢
 clear γ
 refine rest0 rfl (then_normal (wp_seq ?_))
 refine walk_seqA 9 [.quiet (.agg #[PT g 0]), .quiet (N a), .call (.tuple #[N r, .bool true]), .quiet (.tuple #[N r, .bool true]), .quiet (N r), .quiet (.bool true), .made zero6 24, .laid 6 zero6 (cells6 r), .quiet (.bool true)] (sB H1) ?ho2 ?he2 (hL := ?hL2)
 case hL2 => exact ⟨⟨_, rfl⟩, trivial⟩
 case ho2 => exact ak (fun γ => ⟨rfl, fun w' h => ex_loadF h 0 rfl rfl rfl rfl⟩) (ak (fun γ => ⟨rfl, fun w' h => ex_load6 h 1 rfl rfl rfl rfl⟩) (ak (fun γ => ⟨rfl, fun w' h => ⟨51, #[.agg #[PT g 0], N a], exec_call rfl call51 rfl (mpn rfl), C0.out w' (h.one 3 rfl)⟩⟩) (ak (fun _ => ⟨rfl, fun _ _ => rfl⟩) (ak (by refine fun γ => ⟨rfl, fun w' h => ?_⟩; clear h; go_simp) (ak (by refine fun γ => ⟨rfl, fun w' h => ?_⟩; clear h; go_simp) (ak (fun γ => ⟨rfl, fun w' => exec_made6 rfl⟩) (ak (fun γ => ⟨rfl, rfl, rfl, fun w' h => exec_laid6 h rfl rfl rfl⟩) (ak (fun _ => ⟨rfl, fun _ _ => rfl⟩) trivial))))))))
 intro γ w2 l hM hl
 have H2 : Hid (Mm w2 [(γ 6, cells6 r), (γ1_0, [PT g 0]), (γ1_1, cells6 a), (γ1_2, cel [0, 0]), (g, modx n o s)] ∧ _) := growB H1 hM (Nat.le_refl _) hl [6] rfl (by decide)
 have o2_6 := ownB H1 hM (Nat.le_refl _) hl (i := 6) rfl
 clear hM hl l H1
 generalize γ 6 = γ2_6 at H2 o2_6 ⊢
 clear γ
 refine rest0 rfl (then_normal (wp_seq (wp_seq ?_)))
 refine walk_seqB 2 [.quiet (.bool true), .quiet (.bool false)] H2 ?ho3 ?he3
 case ho3 => exact ak (fun _ => ⟨rfl, fun _ _ => rfl⟩) (ak (by refine fun γ => ⟨rfl, fun w' h => ?_⟩; clear h; go_simp) trivial)
 intro _ w3 H3
 clear H2
 refine rest0 rfl (then_normal (wp_cond_false rfl ?_))
 refine wp_skip (then_normal (wp_seq ?_))
 refine walk_seqB 2 [.quiet (N r), .quiet (V [r, 0])] H3 ?ho4 ?he4
 case ho4 => exact ak (fun γ => ⟨rfl, fun w' h => ex_load6 h 0 rfl rfl rfl rfl⟩) (ak (fun γ => ⟨rfl, fun w' _ => ex_buildE2a rfl rfl⟩) trivial)
 intro _ w4 H4
 clear H3
 refine rest_at (l := [2]) rfl ?_
 refine rest_store rfl rfl rfl (ex_storeA (i := 0) (ms := [r, 0]) H4.out.1 3 rfl rfl rfl rfl Tryd.sizeOf26 (Nat.le_of_ble_eq_true rfl)) ?_
 have H5 : Hid (Mm (w4.setCells γ1_2 (6 * 0) (cel [r, 0])) [(γ2_6, cells6 r), (γ1_0, [PT g 0]), (γ1_1, cells6 a), (γ1_2, cel [r, 0]), (g, modx n o s)] ∧ Below w.heap.size w (w4.setCells γ1_2 (6 * 0) (cel [r, 0]))) := ⟨by
  have h := H4.out.1.put 3 (off := 6 * 0) (vs := cel [r, 0]) rfl (by simp only [cel_len]; exact Nat.le_of_ble_eq_true rfl)
  rw [cel_patch] at h
  exact h, below_setCells _ o1_2.out _ _ _ H4.out.2⟩
 clear H4
 generalize hgw : World.setCells _ _ _ _ = w5 at H5 ⊢
 clear hgw
 refine rest_nil (then_normal (wp_ret ?_))
 repeat (first | refine then_ret ?_ | refine block_ret ?_)
 have hf0 := cel_var (k := 2) H5.out.1 3 rfl Tryd.isAgg26 Tryd.sizeOf26 rfl
 refine bodyPost_ret (v := V [r, 0]) (by simp [results, Tryd.results49, asAddr, hf0]) rfl ?_
 exact ⟨rfl, H5.out.2⟩
set_option maxHeartbeats 1000000 in
set_option maxRecDepth 100000 in
theorem rootN_2 (g n o s a r : Nat)
  (c0 : ∀ w, Mm w [(g, modx n o s)] → Calls Tryd.prog 51 #[.agg #[PT g 0], N a] w (Rt w (.tuple #[N r, .bool false]))) (w : World) (hm : Mm w [(g, modx n o s)]) :
  Calls Tryd.prog 49 #[.agg #[PT g 0], N a] w (Rt w (V [0, r])) := by
 have H0 : Hid (_ ∧ _) := ⟨hm, Below.refl w.heap.size w⟩
 clear hm
 have C0 : Hid _ := c0
 clear c0
 go_enter Tryd.func49, Tryd.ntmps49
 refine wp_seq ?_
 refine walk_seqA 3 [.made [PT g 0] 47, .made (cells6 a) 24, .made (cel [0, 0]) 26] (sB H0) ?ho1 ?he1
 case ho1 => exact ak (fun γ => ⟨rfl, fun w' => ex_boxF rfl rfl⟩) (ak (fun γ => ⟨rfl, fun w' => ex_box6 rfl rfl⟩) (ak (fun γ => ⟨rfl, fun w' => ex_madeE2 rfl⟩) trivial))
 intro γ w1 l hM hl
 have H1 : Hid (Mm w1 [(γ 0, [PT g 0]), (γ 1, cells6 a), (γ 2, cel [0, 0]), (g, modx n o s)] ∧ _) := growB H0 hM (Nat.le_refl _) hl [0, 1, 2] rfl (by decide)
 have o1_0 := ownB H0 hM (Nat.le_refl _) hl (i := 0) rfl
 have o1_1 := ownB H0 hM (Nat.le_refl _) hl (i := 1) rfl
 have o1_2 := ownB H0 hM (Nat.le_refl _) hl (i := 2) rfl
 clear hM hl l
 generalize γ 0 = γ1_0 at H1 o1_0 ⊢
 generalize γ 1 = γ1_1 at H1 o1_1 ⊢
 generalize γ 2 = γ1_2 at H1 o1_2 ⊢
 clear γ
 refine rest0 rfl (then_normal (wp_seq ?_))
 refine walk_seqA 9 [.quiet (.agg #[PT g 0]), .quiet (N a), .call (.tuple #[N r, .bool false]), .quiet (.tuple #[N r, .bool false]), .quiet (N r), .quiet (.bool false), .made zero6 24, .laid 6 zero6 (cells6 r), .quiet (.bool false)] (sB H1) ?ho2 ?he2 (hL := ?hL2)
 case hL2 => exact ⟨⟨_, rfl⟩, trivial⟩
 case ho2 => exact ak (fun γ => ⟨rfl, fun w' h => ex_loadF h 0 rfl rfl rfl rfl⟩) (ak (fun γ => ⟨rfl, fun w' h => ex_load6 h 1 rfl rfl rfl rfl⟩) (ak (fun γ => ⟨rfl, fun w' h => ⟨51, #[.agg #[PT g 0], N a], exec_call rfl call51 rfl (mpn rfl), C0.out w' (h.one 3 rfl)⟩⟩) (ak (fun _ => ⟨rfl, fun _ _ => rfl⟩) (ak (by refine fun γ => ⟨rfl, fun w' h => ?_⟩; clear h; go_simp) (ak (by refine fun γ => ⟨rfl, fun w' h => ?_⟩; clear h; go_simp) (ak (fun γ => ⟨rfl, fun w' => exec_made6 rfl⟩) (ak (fun γ => ⟨rfl, rfl, rfl, fun w' h => exec_laid6 h rfl rfl rfl⟩) (ak (fun _ => ⟨rfl, fun _ _ => rfl⟩) trivial))))))))
 intro γ w2 l hM hl
 have H2 : Hid (Mm w2 [(γ 6, cells6 r), (γ1_0, [PT g 0]), (γ1_1, cells6 a), (γ1_2, cel [0, 0]), (g, modx n o s)] ∧ _) := growB H1 hM (Nat.le_refl _) hl [6] rfl (by decide)
 have o2_6 := ownB H1 hM (Nat.le_refl _) hl (i := 6) rfl
 clear hM hl l H1
 generalize γ 6 = γ2_6 at H2 o2_6 ⊢
 clear γ
 refine rest0 rfl (then_normal (wp_seq (wp_seq ?_)))
 refine walk_seqB 2 [.quiet (.bool false), .quiet (.bool true)] H2 ?ho3 ?he3
 case ho3 => exact ak (fun _ => ⟨rfl, fun _ _ => rfl⟩) (ak (by refine fun γ => ⟨rfl, fun w' h => ?_⟩; clear h; go_simp) trivial)
 intro _ w3 H3
 clear H2
 refine rest0 rfl (then_normal (wp_cond_true rfl (wp_seq ?_)))
 refine walk_seqB 3 [.quiet (N 0), .quiet (N r), .quiet (V [0, r])] H3 ?ho4 ?he4
 case ho4 => exact ak (by refine fun γ => ⟨rfl, fun w' h => ?_⟩; clear h; exact ex_zero6 rfl) (ak (fun γ => ⟨rfl, fun w' h => ex_load6 h 0 rfl rfl rfl rfl⟩) (ak (fun γ => ⟨rfl, fun w' _ => ex_buildE2 rfl rfl rfl⟩) trivial))
 intro _ w4 H4
 clear H3
 refine rest_at (l := [3]) rfl ?_
 refine rest_store rfl rfl rfl (ex_storeA (i := 0) (ms := [0, r]) H4.out.1 3 rfl rfl rfl rfl Tryd.sizeOf26 (Nat.le_of_ble_eq_true rfl)) ?_
 have H5 : Hid (Mm (w4.setCells γ1_2 (6 * 0) (cel [0, r])) [(γ2_6, cells6 r), (γ1_0, [PT g 0]), (γ1_1, cells6 a), (γ1_2, cel [0, r]), (g, modx n o s)] ∧ Below w.heap.size w (w4.setCells γ1_2 (6 * 0) (cel [0, r]))) := ⟨by
  have h := H4.out.1.put 3 (off := 6 * 0) (vs := cel [0, r]) rfl (by simp only [cel_len]; exact Nat.le_of_ble_eq_true rfl)
  rw [cel_patch] at h
  exact h, below_setCells _ o1_2.out _ _ _ H4.out.2⟩
 clear H4
 generalize hgw : World.setCells _ _ _ _ = w5 at H5 ⊢
 clear hgw
 refine rest_nil (then_normal (wp_ret ?_))
 repeat (first | refine then_ret ?_ | refine block_ret ?_)
 have hf0 := cel_var (k := 2) H5.out.1 3 rfl Tryd.isAgg26 Tryd.sizeOf26 rfl
 refine bodyPost_ret (v := V [0, r]) (by simp [results, Tryd.results49, asAddr, hf0]) rfl ?_
 exact ⟨rfl, H5.out.2⟩
set_option maxHeartbeats 1000000 in
set_option maxRecDepth 100000 in
theorem half_1 (g n o s a x r : Nat)
  (c0 : ∀ w, Calls Tryd.prog 24 #[N a, .int .i64 0] w (Rt w (.int .i64 1)))
  (c1 : ∀ w, Mm w [(g, modx n o s)] → Calls Tryd.prog 77 #[PT g 0] w (Rt w (N n)))
  (c2 : ∀ w, Calls Tryd.prog 76 #[N a, N n] w (Rt w (N x)))
  (c3 : ∀ w, Calls Tryd.prog 75 #[N x, .int .i64 (-1)] w (Rt w (N r))) (w : World) (hm : Mm w [(g, modx n o s)]) :
  Calls Tryd.prog 52 #[.agg #[PT g 0], N a] w (Rt w (N r)) := by
 have H0 : Hid (_ ∧ _) := ⟨hm, Below.refl w.heap.size w⟩
 clear hm
 have C0 : Hid _ := c0
 have C1 : Hid _ := c1
 have C2 : Hid _ := c2
 have C3 : Hid _ := c3
 clear c0 c1 c2 c3
 go_enter Tryd.func52, Tryd.ntmps52
 refine wp_seq ?_
 refine walk_seqA 3 [.made [PT g 0] 47, .made (cells6 a) 24, .made zero6 24] (sB H0) ?ho1 ?he1
 case ho1 => exact ak (fun γ => ⟨rfl, fun w' => ex_boxF rfl rfl⟩) (ak (fun γ => ⟨rfl, fun w' => ex_box6 rfl rfl⟩) (ak (fun γ => ⟨rfl, fun w' => exec_made6 rfl⟩) trivial))
 intro γ w1 l hM hl
 have H1 : Hid (Mm w1 [(γ 0, [PT g 0]), (γ 1, cells6 a), (γ 2, zero6), (g, modx n o s)] ∧ _) := growB H0 hM (Nat.le_refl _) hl [0, 1, 2] rfl (by decide)
 have o1_0 := ownB H0 hM (Nat.le_refl _) hl (i := 0) rfl
 have o1_1 := ownB H0 hM (Nat.le_refl _) hl (i := 1) rfl
 have o1_2 := ownB H0 hM (Nat.le_refl _) hl (i := 2) rfl
 clear hM hl l
 generalize γ 0 = γ1_0 at H1 o1_0 ⊢
 generalize γ 1 = γ1_1 at H1 o1_1 ⊢
 generalize γ 2 = γ1_2 at H1 o1_2 ⊢
 clear γ
 refine rest0 rfl (then_normal (wp_seq (wp_seq ?_)))
 refine walk_seqB 3 [.quiet (N a), .call (.int .i64 1), .quiet (.bool true)] H1 ?ho2 ?he2
 case ho2 => exact ak (fun γ => ⟨rfl, fun w' h => ex_load6 h 1 rfl rfl rfl rfl⟩) (ak (fun γ => ⟨rfl, fun w' h => ⟨24, #[N a, .int .i64 0], exec_call rfl call24 rfl (mpn rfl), C0.out w'⟩⟩) (ak (by refine fun γ => ⟨rfl, fun w' h => ?_⟩; clear h; go_simp) trivial))
 intro _ w2 H2
 clear H1
 refine rest0 rfl (then_normal (wp_cond_true rfl ?_))
 refine walk_anyB 5 [.quiet (N a), .quiet (PT γ1_0 0), .quiet (PT g 0), .call (N n), .call (N x)] H2 ?ho3 ?he3
 case ho3 => exact ak (fun γ => ⟨rfl, fun w' h => ex_load6 h 1 rfl rfl rfl rfl⟩) (ak (by refine fun γ => ⟨rfl, fun w' h => ?_⟩; clear h; go_simp) (ak (fun γ => ⟨rfl, fun w' h => ex_loadQ h 0 rfl rfl rfl rfl⟩) (ak (fun γ => ⟨rfl, fun w' h => ⟨77, #[PT g 0], exec_call rfl call77 rfl (mpn rfl), C1.out w' (h.one 3 rfl)⟩⟩) (ak (fun γ => ⟨rfl, fun w' h => ⟨76, #[N a, N n], exec_call rfl call76 rfl (mpn rfl), C2.out w'⟩⟩) trivial))))
 intro _ w3 H3
 clear H2
 refine rest_at (l := [5]) rfl ?_
 refine rest_store rfl rfl rfl (ex_store6 H3.out.1 1 rfl rfl rfl rfl (Nat.le_of_ble_eq_true rfl)) ?_
 have H4 : Hid (Mm (w3.setCells γ1_1 0 (cells6 x)) [(γ1_0, [PT g 0]), (γ1_1, cells6 x), (γ1_2, zero6), (g, modx n o s)] ∧ Below w.heap.size w (w3.setCells γ1_1 0 (cells6 x))) := ⟨H3.out.1.put 1 (off := 0) (vs := cells6 x) rfl (Nat.le_of_ble_eq_true rfl), below_setCells _ o1_1.out _ _ _ H3.out.2⟩
 clear H3
 generalize hgw : World.setCells _ _ _ _ = w4 at H4 ⊢
 clear hgw
 refine rest_nil (then_normal (wp_seq ?_))
 refine walk_seqB 2 [.quiet (N x), .call (N r)] H4 ?ho4 ?he4
 case ho4 => exact ak (fun γ => ⟨rfl, fun w' h => ex_load6 h 1 rfl rfl rfl rfl⟩) (ak (fun γ => ⟨rfl, fun w' h => ⟨75, #[N x, .int .i64 (-1)], exec_call rfl call75 rfl (mpn rfl), C3.out w'⟩⟩) trivial)
 intro _ w5 H5
 clear H4
 refine rest_at (l := [2]) rfl ?_
 refine rest_store rfl rfl rfl (ex_store6 H5.out.1 2 rfl rfl rfl rfl (Nat.le_of_ble_eq_true rfl)) ?_
 have H6 : Hid (Mm (w5.setCells γ1_2 0 (cells6 r)) [(γ1_0, [PT g 0]), (γ1_1, cells6 x), (γ1_2, cells6 r), (g, modx n o s)] ∧ Below w.heap.size w (w5.setCells γ1_2 0 (cells6 r))) := ⟨H5.out.1.put 2 (off := 0) (vs := cells6 r) rfl (Nat.le_of_ble_eq_true rfl), below_setCells _ o1_2.out _ _ _ H5.out.2⟩
 clear H5
 generalize hgw : World.setCells _ _ _ _ = w6 at H6 ⊢
 clear hgw
 refine rest_nil (then_normal (wp_ret ?_))
 repeat (first | refine then_ret ?_ | refine block_ret ?_)
 have c0 := H6.out.1.get 2 rfl 0 rfl
 have c1 := H6.out.1.get 2 rfl 1 rfl
 have c2 := H6.out.1.get 2 rfl 2 rfl
 have c3 := H6.out.1.get 2 rfl 3 rfl
 have c4 := H6.out.1.get 2 rfl 4 rfl
 have c5 := H6.out.1.get 2 rfl 5 rfl
 refine bodyPost_ret (v := N r) (by simp [results, Tryd.results52, go_sem, *]) rfl ?_
 exact ⟨rfl, H6.out.2⟩
set_option maxHeartbeats 1000000 in
set_option maxRecDepth 100000 in
theorem half_2 (g n o s a r : Nat)
  (c0 : ∀ w, Calls Tryd.prog 24 #[N a, .int .i64 0] w (Rt w (.int .i64 0)))
  (c1 : ∀ w, Calls Tryd.prog 75 #[N a, .int .i64 (-1)] w (Rt w (N r))) (w : World) (hm : Mm w [(g, modx n o s)]) :
  Calls Tryd.prog 52 #[.agg #[PT g 0], N a] w (Rt w (N r)) := by
 have H0 : Hid (_ ∧ _) := ⟨hm, Below.refl w.heap.size w⟩
 clear hm
 have C0 : Hid _ := c0
 have C1 : Hid _ := c1
 clear c0 c1
 go_enter Tryd.func52, Tryd.ntmps52
 refine wp_seq ?_
 refine walk_seqA 3 [.made [PT g 0] 47, .made (cells6 a) 24, .made zero6 24] (sB H0) ?ho1 ?he1
 case ho1 => exact ak (fun γ => ⟨rfl, fun w' => ex_boxF rfl rfl⟩) (ak (fun γ => ⟨rfl, fun w' => ex_box6 rfl rfl⟩) (ak (fun γ => ⟨rfl, fun w' => exec_made6 rfl⟩) trivial))
 intro γ w1 l hM hl
 have H1 : Hid (Mm w1 [(γ 0, [PT g 0]), (γ 1, cells6 a), (γ 2, zero6), (g, modx n o s)] ∧ _) := growB H0 hM (Nat.le_refl _) hl [0, 1, 2] rfl (by decide)
 have o1_0 := ownB H0 hM (Nat.le_refl _) hl (i := 0) rfl
 have o1_1 := ownB H0 hM (Nat.le_refl _) hl (i := 1) rfl
 have o1_2 := ownB H0 hM (Nat.le_refl _) hl (i := 2) rfl
 clear hM hl l
 generalize γ 0 = γ1_0 at H1 o1_0 ⊢
 generalize γ 1 = γ1_1 at H1 o1_1 ⊢
 generalize γ 2 = γ1_2 at H1 o1_2 ⊢
 clear γ
 refine rest0 rfl (then_normal (wp_seq (wp_seq ?_)))
 refine walk_seqB 3 [.quiet (N a), .call (.int .i64 0), .quiet (.bool false)] H1 ?ho2 ?he2
 case ho2 => exact ak (fun γ => ⟨rfl, fun w' h => ex_load6 h 1 rfl rfl rfl rfl⟩) (ak (fun γ => ⟨rfl, fun w' h => ⟨24, #[N a, .int .i64 0], exec_call rfl call24 rfl (mpn rfl), C0.out w'⟩⟩) (ak (by refine fun γ => ⟨rfl, fun w' h => ?_⟩; clear h; go_simp) trivial))
 intro _ w2 H2
 clear H1
 refine rest0 rfl (then_normal (wp_cond_false rfl ?_))
 refine wp_skip (then_normal (wp_seq ?_))
 refine walk_seqB 2 [.quiet (N a), .call (N r)] H2 ?ho3 ?he3
 case ho3 => exact ak (fun γ => ⟨rfl, fun w' h => ex_load6 h 1 rfl rfl rfl rfl⟩) (ak (fun γ => ⟨rfl, fun w' h => ⟨75, #[N a, .int .i64 (-1)], exec_call rfl call75 rfl (mpn rfl), C1.out w'⟩⟩) trivial)
 intro _ w3 H3
 clear H2
 refine rest_at (l := [2]) rfl ?_
 refine rest_store rfl rfl rfl (ex_store6 H3.out.1 2 rfl rfl rfl rfl (Nat.le_of_ble_eq_true rfl)) ?_
 have H4 : Hid (Mm (w3.setCells γ1_2 0 (cells6 r)) [(γ1_0, [PT g 0]), (γ1_1, cells6 a), (γ1_2, cells6 r), (g, modx n o s)] ∧ Below w.heap.size w (w3.setCells γ1_2 0 (cells6 r))) := ⟨H3.out.1.put 2 (off := 0) (vs := cells6 r) rfl (Nat.le_of_ble_eq_true rfl), below_setCells _ o1_2.out _ _ _ H3.out.2⟩
 clear H3
 generalize hgw : World.setCells _ _ _ _ = w4 at H4 ⊢
 clear hgw
 refine rest_nil (then_normal (wp_ret ?_))
 repeat (first | refine then_ret ?_ | refine block_ret ?_)
 have c0 := H4.out.1.get 2 rfl 0 rfl
 have c1 := H4.out.1.get 2 rfl 1 rfl
 have c2 := H4.out.1.get 2 rfl 2 rfl
 have c3 := H4.out.1.get 2 rfl 3 rfl
 have c4 := H4.out.1.get 2 rfl 4 rfl
 have c5 := H4.out.1.get 2 rfl 5 rfl
 refine bodyPost_ret (v := N r) (by simp [results, Tryd.results52, go_sem, *]) rfl ?_
 exact ⟨rfl, H4.out.2⟩
end Rg
end Go.Proofs.YtgdlhgbdigpfhabDoor
end
