/- Texts of the proof, joined. -/
import Derived.Test.YtmanelnacifgcaaGreatDoorP5
set_option maxRecDepth 100000
section
namespace Go.Proofs.YtmanelnacifgcaaGreatDoor
open Go.RowKit
namespace Rg
/-! Wide numbers, word by word: twelve words in two halves. -/
abbrev row12 (f : Nat → Int) : List Value := [.int .u64 (f 0), .int .u64 (f 1), .int .u64 (f 2), .int .u64 (f 3), .int .u64 (f 4), .int .u64 (f 5), .int .u64 (f 6), .int .u64 (f 7), .int .u64 (f 8), .int .u64 (f 9), .int .u64 (f 10), .int .u64 (f 11)]
theorem row12_at {f : Nat → Int} {j : Nat} (hj : j < 12) : (row12 f)[j]? = some (.int .u64 (f j)) := by
 match j, hj with
 | 0, _ => rfl
 | 1, _ => rfl
 | 2, _ => rfl
 | 3, _ => rfl
 | 4, _ => rfl
 | 5, _ => rfl
 | 6, _ => rfl
 | 7, _ => rfl
 | 8, _ => rfl
 | 9, _ => rfl
 | 10, _ => rfl
 | 11, _ => rfl
theorem row12_put {f : Nat → Int} {j : Nat} {x : Int} (hj : j < 12) : patch (row12 f) j [.int .u64 x] = row12 (upd f j x) := by
 match j, hj with
 | 0, _ => rfl
 | 1, _ => rfl
 | 2, _ => rfl
 | 3, _ => rfl
 | 4, _ => rfl
 | 5, _ => rfl
 | 6, _ => rfl
 | 7, _ => rfl
 | 8, _ => rfl
 | 9, _ => rfl
 | 10, _ => rfl
 | 11, _ => rfl
theorem row12_put0 {f : Nat → Int} {j : Nat} {x : Int} (hj : j < 12) : patch (row12 f) (0 + j) [.int .u64 x] = row12 (upd f j x) := by rw [Nat.zero_add]; exact row12_put hj
theorem row12_bd {f : Nat → Int} {j : Nat} (hj : j < 12) : j < (row12 f).length := hj
theorem row12_congr {f g : Nat → Int} (h : ∀ j, j < 12 → f j = g j) : row12 f = row12 g := by
 unfold row12
 rw [h 0 (by decide), h 1 (by decide), h 2 (by decide), h 3 (by decide), h 4 (by decide), h 5 (by decide), h 6 (by decide), h 7 (by decide), h 8 (by decide), h 9 (by decide), h 10 (by decide), h 11 (by decide)]
/-- The words of a wide number. -/
def ww (l h j : Nat) : Int := if j < 6 then wd l j else wd h (j - 6)
theorem cel_row12 (l h : Nat) : cel [l, h] = row12 (ww l h) := by simp [cel, ww]
/-- What stands there behind k words: f's, then a's. -/
def mix (f : Nat → Int) (l h k j : Nat) : Int := if j < k then f j else ww l h j
theorem mix_start (f : Nat → Int) (l h : Nat) : cel [l, h] = row12 (mix f l h 0) := by
 rw [cel_row12]
 exact row12_congr fun j _ => by unfold mix; rw [if_neg (by omega)]
theorem mix_at {f : Nat → Int} {l h k : Nat} (hk : k < 12) : (row12 (mix f l h k))[k]? = some (.int .u64 (ww l h k)) := by
 rw [row12_at hk]; unfold mix; rw [if_neg (by omega)]
theorem mix_step {f : Nat → Int} {l h k : Nat} {x : Int} (hx : x = f k) : row12 (upd (mix f l h k) k x) = row12 (mix f l h (k + 1)) := row12_congr fun j _ => by
 unfold upd mix
 by_cases h1 : j = k
 ·subst h1; rw [if_pos rfl, if_pos (by omega), hx]
 ·rw [if_neg h1]
  by_cases h2 : j < k
  ·rw [if_pos h2, if_pos (by omega)]
  ·rw [if_neg h2, if_neg (by omega)]
theorem mix_end {f : Nat → Int} {l h x y : Nat} (hf : ∀ j, j < 12 → f j = ww x y j) : row12 (mix f l h (6 + 6)) = cel [x, y] := by
 rw [cel_row12]
 exact row12_congr fun j hj => by unfold mix; rw [if_pos (show j < 6 + 6 from hj), hf j hj]
theorem off_lo (k : Nat) : 0 + k = k := Nat.zero_add k
theorem Mm.atk {w : World} {l l' : List (Nat × List Value)} (h : Mm w l) (e : l = l') : Mm w l' := e ▸ h
set_option maxHeartbeats 2000000 in
theorem plus_gen (al ah bl bh x y : Nat) (f cr : Nat → Int) (c0 : 0 = cr 0) (hf : ∀ j, j < 12 → f j = ww x y j)
  (ce : ∀ j w, (callFunc 48 #[.int .u64 (ww al ah j), .int .u64 (ww bl bh j), .int .u64 (cr j)]).run Tryz.prog w = .ok (.value (.tuple #[.int .u64 (f j), .int .u64 (cr (j + 1))])) w) (w : World) :
  Calls Tryz.prog 150 #[V [al, ah], V [bl, bh]] w (Rt w (V [x, y])) := by
 have H0 : Hid (_ ∧ _) := ⟨Mm.nil w, Below.refl w.heap.size w⟩
 have C0 : Hid _ := c0
 have CE : Hid _ := ce
 have HF : Hid _ := hf
 clear c0 ce hf
 go_enter Tryz.func150, Tryz.ntmps150
 refine wp_seq ?_
 refine zC 3 [.made (cel [al, ah]) 179, .made (cel [bl, bh]) 179, .made (cel [0, 0]) 179] (sB H0) ?ho1 ?he1
 case ho1 => exact am (ex_boxA rfl rfl) (am (ex_boxA rfl rfl) (am (ex_madeWD rfl) trivial))
 intro J w1 l hM hl
 have H1 : Hid (Mm w1 [(J 0, cel [al, ah]), (J 1, cel [bl, bh]), (J 2, cel [0, 0])] ∧ _) := wB H0 hM hl [0, 1, 2]
 have o1_0 := vB H0 hM hl 0
 have o1_1 := vB H0 hM hl 1
 have o1_2 := vB H0 hM hl 2
 clear hM hl l
 generalize J 0 = J1_0 at H1 o1_0 ⊢
 generalize J 1 = J1_1 at H1 o1_1 ⊢
 generalize J 2 = J1_2 at H1 o1_2 ⊢
 clear J
 refine rN (wp_seq ?_)
 refine zD 1 [.q (.int .u64 0)] H1 ?ho2 ?he2
 case ho2 => exact ar trivial
 intro _ w2 H2
 clear H1
 refine rN (wp_seq (wp_seq ?_))
 refine zD 1 [.q (.int .i64 0)] H2 ?ho3 ?he3
 case ho3 => exact ar trivial
 intro _ w3 H3
 clear H2
 refine rN (wp_block ?_)
 refine loop_ghost (α := Nat) (fun k a' w' => ∃ s0 : Nat → Value, a' = ⟨#[V [al, ah], V [bl, bh], PT J1_0 0, PT J1_1 0, PT J1_2 0, .int .u64 (cr k), s0 6, ud, .int .i64 ((k : Nat) : Int), s0 9, s0 10, s0 11, s0 12, s0 13, s0 14, s0 15, s0 16, s0 17, s0 18, s0 19, s0 20, s0 21, s0 22, s0 23, s0 24, s0 25, s0 26, s0 27, ud, ud, ud, ud, ud, ud, ud, ud, ud, ud, ud, ud, ud, ud, ud, ud, ud, ud, ud, ud, ud], []⟩ ∧ (Mm w' [(J1_0, row12 (mix f al ah k)), (J1_1, cel [bl, bh]), (J1_2, cel [0, 0])] ∧ Below w.heap.size w w') ∧ k ≤ 6) (fun k => 6 - k) 0 ?st0 ?rd0
 case st0 => exact ⟨(slotfn [ud, ud, ud, ud, ud, ud, ud, ud, ud, ud, ud, ud, ud, ud, ud, ud, ud, ud, ud, ud, ud, ud, ud, ud, ud, ud, ud, ud]), by rw [← C0.out]; rfl, ⟨H3.out.1.atk (by rw [mix_start f al ah]), H3.out.2⟩, by omega⟩
 intro k a' w4 hI
 obtain ⟨s0, rfl, hMB, hk0⟩ := hI
 have H4 : Hid (_ ∧ _) := hMB
 clear hMB H3
 by_cases hlt : k < 6
 ·have hrd : True := trivial
  clear hrd
  have hk12 : k < 12 := by omega
  refine wp_seq ?_
  refine zD 1 [.q (.bool true)] H4 ?ho4 ?he4
  case ho4 => exact ak (by refine fun J => ⟨rfl, fun w' h => ?_⟩; clear h; go_simp <;> omega) trivial
  intro _ w5 H5
  clear H4
  refine rN (wp_seq ?_)
  refine wp_cond_true rfl (wp_skip ?_)
  refine zA (wp_seq ?_)
  refine wp_block (wp_seq ?_)
  refine zD 2 [.q (.int .i64 ((k : Nat) : Int)), .q (.int .i64 ((k : Nat) : Int))] H5 ?ho5 ?he5
  case ho5 => exact ar (ar trivial)
  intro _ w6 H6
  clear H5
  refine rN ?_
  refine walk_put (by kernel_rfl) 16 [13] [.q (.int .i64 ((k : Nat) : Int)), .q (.int .i64 ((k : Nat) : Int)), .q (PT J1_0 0), .q (PT J1_0 (0 + k)), .q (.int .u64 (ww al ah k)), .q (.int .i64 ((k : Nat) : Int)), .q (PT J1_1 0), .q (PT J1_1 (0 + k)), .q (.int .u64 (ww bl bh k)), .q (.int .u64 (cr k)), .q (.tuple #[.int .u64 (f k), .int .u64 (cr (k + 1))]), .q (.tuple #[.int .u64 (f k), .int .u64 (cr (k + 1))]), .q (.int .u64 (f k)), .q (.int .u64 (cr (k + 1))), .q (PT J1_0 0), .q (PT J1_0 (0 + k))] _ ?pre6 ?F6 _ ?hpre6 (fun J => ?hF6) (by kernel_rfl) rfl trivial (sB H6) ?ho6 ?hla6 ?he6
  case hpre6 => simp only [tk, tz]; rfl
  case hF6 => simp only [zZ, Kind.val, Act.put, sa, sz, ss]; rfl
  case ho6 =>
   refine ar ?_
   refine ar ?_
   refine ag ?_
   refine ak (fun J => ⟨rfl, fun w' _ => zX rfl rfl rfl hlt⟩) ?_
   refine aq (fun w' h => ex_load1 h 0 rfl rfl rfl (by rw [off_lo]; exact mix_at hk12)) ?_
   refine ar ?_
   refine ag ?_
   refine ak (fun J => ⟨rfl, fun w' _ => zX rfl rfl rfl hlt⟩) ?_
   refine aq (fun w' h => ex_load1 h 1 rfl rfl rfl (by rw [off_lo, cel_row12]; exact row12_at hk12)) ?_
   refine ar ?_
   refine aq (fun w' h => ex_extern rfl (CE.out k w') rfl (mpn rfl)) ?_
   refine ar ?_
   refine ag ?_
   refine ag ?_
   refine ag ?_
   refine ak (fun J => ⟨rfl, fun w' _ => zX rfl rfl rfl hlt⟩) ?_
   exact trivial
  case hla6 => exact ⟨⟨_, _, rfl, rfl, fun J => ⟨rfl, fun w' => by first | rfl | go_simp⟩⟩, trivial⟩
  intro J w7 l hM hl
  have H7 := keepB H6 hM.below
  clear hM hl l H6 J
  refine ⟨_, ex_storeI H7.out.1 0 rfl rfl As22 rfl rfl (by rw [off_lo]; exact row12_bd hk12), ?_⟩
  have H8 : Hid (Mm (w7.setCells J1_0 (0 + k) [.int .u64 (f k)]) [(J1_0, row12 (mix f al ah (k + 1))), (J1_1, cel [bl, bh]), (J1_2, cel [0, 0])] ∧ Below w.heap.size w (w7.setCells J1_0 (0 + k) [.int .u64 (f k)])) := ⟨by
   have h := H7.out.1.put 0 (off := (0 + k)) (vs := [.int .u64 (f k)]) rfl (by rw [off_lo]; exact row12_bd hk12)
   rw [row12_put0 hk12, mix_step rfl] at h
   exact h, zV _ o1_0.out _ _ _ H7.out.2⟩
  clear H7
  generalize hgw : World.setCells _ _ _ _ = w8 at H8 ⊢
  clear hgw
  refine zH (l := [17]) rfl ?_
  refine zF (d := 5) rfl rfl rfl rfl ?_
  simp only [Act.put, sa, sz, ss]
  refine zE (zY (zA ?_))
  refine zD 1 [.q (.int .i64 ((k + 1 : Nat) : Int))] H8 ?ho7 ?he7
  case ho7 => exact ak (by refine fun J => ⟨rfl, fun w' h => ?_⟩; clear h; go_simp; rw [IntKind.wrap_i64]; omega) trivial
  intro _ w9 H9
  clear H8
  refine zH (l := [1]) rfl ?_
  refine zF (d := 8) rfl rfl rfl rfl ?_
  simp only [Act.put, sa, sz, ss]
  refine zE (zA ?_)
  exact ⟨k + 1, ⟨(slotfn [ud, ud, ud, ud, ud, ud, .int .i64 ((k : Nat) : Int), ud, ud, .bool true, .int .i64 ((k : Nat) : Int), .tuple #[.int .u64 (f k), .int .u64 (cr (k + 1))], .int .i64 ((k : Nat) : Int), .int .i64 ((k : Nat) : Int), PT J1_0 0, PT J1_0 (0 + k), .int .u64 (ww al ah k), .int .i64 ((k : Nat) : Int), PT J1_1 0, PT J1_1 (0 + k), .int .u64 (ww bl bh k), .int .u64 (cr k), .tuple #[.int .u64 (f k), .int .u64 (cr (k + 1))], .int .u64 (f k), .int .u64 (cr (k + 1)), PT J1_0 0, PT J1_0 (0 + k), .int .i64 ((k + 1 : Nat) : Int)]), rfl, ⟨H9.out.1, H9.out.2⟩, by omega⟩, by omega⟩
 have hk6 : k = 6 := by omega
 subst hk6
 refine wp_seq ?_
 refine zD 1 [.q (.bool false)] H4 ?ho8 ?he8
 case ho8 => exact ak (by refine fun J => ⟨rfl, fun w' h => ?_⟩; clear h; go_simp <;> omega) trivial
 intro _ w10 H10
 clear H4
 refine rN (wp_seq (wp_cond_false rfl ?_))
 refine wp_exit ?_
 repeat refine then_exit ?_
 refine block_exit ?_
 refine zA (wp_seq (wp_seq ?_))
 refine zD 1 [.q (.int .i64 0)] H10 ?ho9 ?he9
 case ho9 => exact ar trivial
 intro _ w11 H11
 clear H10
 refine rN (wp_block ?_)
 refine loop_ghost (α := Nat) (fun k a' w' => ∃ s2 : Nat → Value, a' = ⟨#[V [al, ah], V [bl, bh], PT J1_0 0, PT J1_1 0, PT J1_2 0, .int .u64 (cr (6 + k)), s0 6, s2 7, .int .i64 ((6 : Nat) : Int), .bool false, s0 10, s0 11, s0 12, s0 13, s0 14, s0 15, s0 16, s0 17, s0 18, s0 19, s0 20, s0 21, s0 22, s0 23, s0 24, s0 25, s0 26, s0 27, .int .i64 ((k : Nat) : Int), s2 29, s2 30, s2 31, s2 32, s2 33, s2 34, s2 35, s2 36, s2 37, s2 38, s2 39, s2 40, s2 41, s2 42, s2 43, s2 44, s2 45, s2 46, s2 47, undef], []⟩ ∧ (Mm w' [(J1_0, row12 (mix f al ah (6 + k))), (J1_1, cel [bl, bh]), (J1_2, cel [0, 0])] ∧ Below w.heap.size w w') ∧ k ≤ 6) (fun k => 6 - k) 0 ?st2 ?rd2
 case st2 => exact ⟨(slotfn [ud, ud, ud, ud, ud, ud, ud, ud, ud, ud, ud, ud, ud, ud, ud, ud, ud, ud, ud, ud, ud, ud, ud, ud, ud, ud, ud, ud, ud, ud, ud, ud, ud, ud, ud, ud, ud, ud, ud, ud, ud, ud, ud, ud, ud, ud, ud, ud]), rfl, ⟨H11.out.1, H11.out.2⟩, by omega⟩
 intro k a' w12 hI
 obtain ⟨s2, rfl, hMB, hk2⟩ := hI
 have H12 : Hid (_ ∧ _) := hMB
 clear hMB H11
 by_cases hlt : k < 6
 ·have hrd : True := trivial
  clear hrd
  have hk12 : (6 + k) < 12 := by omega
  refine wp_seq ?_
  refine zD 1 [.q (.bool true)] H12 ?ho10 ?he10
  case ho10 => exact ak (by refine fun J => ⟨rfl, fun w' h => ?_⟩; clear h; go_simp <;> omega) trivial
  intro _ w13 H13
  clear H12
  refine rN (wp_seq ?_)
  refine wp_cond_true rfl (wp_skip ?_)
  refine zA (wp_seq ?_)
  refine wp_block (wp_seq ?_)
  refine zD 2 [.q (.int .i64 ((k : Nat) : Int)), .q (.int .i64 ((k : Nat) : Int))] H13 ?ho11 ?he11
  case ho11 => exact ar (ar trivial)
  intro _ w14 H14
  clear H13
  refine rN ?_
  refine walk_put (by kernel_rfl) 16 [13] [.q (.int .i64 ((k : Nat) : Int)), .q (.int .i64 ((k : Nat) : Int)), .q (PT J1_0 6), .q (PT J1_0 (6 + k)), .q (.int .u64 (ww al ah (6 + k))), .q (.int .i64 ((k : Nat) : Int)), .q (PT J1_1 6), .q (PT J1_1 (6 + k)), .q (.int .u64 (ww bl bh (6 + k))), .q (.int .u64 (cr (6 + k))), .q (.tuple #[.int .u64 (f (6 + k)), .int .u64 (cr (6 + (k + 1)))]), .q (.tuple #[.int .u64 (f (6 + k)), .int .u64 (cr (6 + (k + 1)))]), .q (.int .u64 (f (6 + k))), .q (.int .u64 (cr (6 + (k + 1)))), .q (PT J1_0 6), .q (PT J1_0 (6 + k))] _ ?pre12 ?F12 _ ?hpre12 (fun J => ?hF12) (by kernel_rfl) rfl trivial (sB H14) ?ho12 ?hla12 ?he12
  case hpre12 => simp only [tk, tz]; rfl
  case hF12 => simp only [zZ, Kind.val, Act.put, sa, sz, ss]; rfl
  case ho12 =>
   refine ar ?_
   refine ar ?_
   refine ag ?_
   refine ak (fun J => ⟨rfl, fun w' _ => zX rfl rfl rfl hlt⟩) ?_
   refine aq (fun w' h => ex_load1 h 0 rfl rfl rfl (mix_at hk12)) ?_
   refine ar ?_
   refine ag ?_
   refine ak (fun J => ⟨rfl, fun w' _ => zX rfl rfl rfl hlt⟩) ?_
   refine aq (fun w' h => ex_load1 h 1 rfl rfl rfl (by rw [cel_row12]; exact row12_at hk12)) ?_
   refine ar ?_
   refine aq (fun w' h => ex_extern rfl (CE.out (6 + k) w') rfl (mpn rfl)) ?_
   refine ar ?_
   refine ag ?_
   refine ag ?_
   refine ag ?_
   refine ak (fun J => ⟨rfl, fun w' _ => zX rfl rfl rfl hlt⟩) ?_
   exact trivial
  case hla12 => exact ⟨⟨_, _, rfl, rfl, fun J => ⟨rfl, fun w' => by first | rfl | go_simp⟩⟩, trivial⟩
  intro J w15 l hM hl
  have H15 := keepB H14 hM.below
  clear hM hl l H14 J
  refine ⟨_, ex_storeI H15.out.1 0 rfl rfl As22 rfl rfl (row12_bd hk12), ?_⟩
  have H16 : Hid (Mm (w15.setCells J1_0 (6 + k) [.int .u64 (f (6 + k))]) [(J1_0, row12 (mix f al ah (6 + (k + 1)))), (J1_1, cel [bl, bh]), (J1_2, cel [0, 0])] ∧ Below w.heap.size w (w15.setCells J1_0 (6 + k) [.int .u64 (f (6 + k))])) := ⟨by
   have h := H15.out.1.put 0 (off := (6 + k)) (vs := [.int .u64 (f (6 + k))]) rfl (row12_bd hk12)
   rw [row12_put hk12, mix_step rfl] at h
   exact h, zV _ o1_0.out _ _ _ H15.out.2⟩
  clear H15
  generalize hgw : World.setCells _ _ _ _ = w16 at H16 ⊢
  clear hgw
  refine zH (l := [17]) rfl ?_
  refine zF (d := 5) rfl rfl rfl rfl ?_
  simp only [Act.put, sa, sz, ss]
  refine zE (zY (zA ?_))
  refine zD 1 [.q (.int .i64 ((k + 1 : Nat) : Int))] H16 ?ho13 ?he13
  case ho13 => exact ak (by refine fun J => ⟨rfl, fun w' h => ?_⟩; clear h; go_simp; rw [IntKind.wrap_i64]; omega) trivial
  intro _ w17 H17
  clear H16
  refine zH (l := [1]) rfl ?_
  refine zF (d := 28) rfl rfl rfl rfl ?_
  simp only [Act.put, sa, sz, ss]
  refine zE (zA ?_)
  exact ⟨k + 1, ⟨(slotfn [ud, ud, ud, ud, ud, ud, ud, .int .i64 ((k : Nat) : Int), ud, ud, ud, ud, ud, ud, ud, ud, ud, ud, ud, ud, ud, ud, ud, ud, ud, ud, ud, ud, ud, .bool true, .int .i64 ((k : Nat) : Int), .tuple #[.int .u64 (f (6 + k)), .int .u64 (cr (6 + (k + 1)))], .int .i64 ((k : Nat) : Int), .int .i64 ((k : Nat) : Int), PT J1_0 6, PT J1_0 (6 + k), .int .u64 (ww al ah (6 + k)), .int .i64 ((k : Nat) : Int), PT J1_1 6, PT J1_1 (6 + k), .int .u64 (ww bl bh (6 + k)), .int .u64 (cr (6 + k)), .tuple #[.int .u64 (f (6 + k)), .int .u64 (cr (6 + (k + 1)))], .int .u64 (f (6 + k)), .int .u64 (cr (6 + (k + 1))), PT J1_0 6, PT J1_0 (6 + k), .int .i64 ((k + 1 : Nat) : Int)]), rfl, ⟨H17.out.1, H17.out.2⟩, by omega⟩, by omega⟩
 have hk6 : k = 6 := by omega
 subst hk6
 have H18 : Hid (Mm w12 [(J1_0, cel [x, y]), (J1_1, cel [bl, bh]), (J1_2, cel [0, 0])] ∧ Below w.heap.size w w12) := ⟨H12.out.1.atk (by rw [mix_end HF.out]), H12.out.2⟩
 clear H12
 refine wp_seq ?_
 refine zD 1 [.q (.bool false)] H18 ?ho14 ?he14
 case ho14 => exact ak (by refine fun J => ⟨rfl, fun w' h => ?_⟩; clear h; go_simp <;> omega) trivial
 intro _ w19 H19
 clear H18
 refine rN (wp_seq (wp_cond_false rfl ?_))
 refine wp_exit ?_
 repeat refine then_exit ?_
 refine block_exit ?_
 refine zA (wp_seq ?_)
 refine zD 1 [.q (V [x, y])] H19 ?ho15 ?he15
 case ho15 => exact bA 0 2 0 Ai179 As179 trivial
 intro _ w20 H20
 clear H19
 refine zH (l := [1]) rfl ?_
 refine sF 2 [x, y] [_, _, _] H20 o1_2 As179 fun w21 H21 => ?_
 clear H20
 refine zE (zA (wp_ret ?_))
 repeat (first | refine zJ ?_ | refine zI ?_)
 have hf0 := cel_var (k := 2) H21.out.1 2 rfl Ai179 As179 rfl
 refine bodyPost_ret (v := V [x, y]) (by simp [results, Tryz.results150, asAddr, hf0]) rfl ?_
 exact ⟨rfl, H21.out.2⟩
set_option maxHeartbeats 2000000 in
theorem less_gen (al ah bl bh x y : Nat) (f cr : Nat → Int) (c0 : 0 = cr 0) (hf : ∀ j, j < 12 → f j = ww x y j)
  (ce : ∀ j w, (callFunc 63 #[.int .u64 (ww al ah j), .int .u64 (ww bl bh j), .int .u64 (cr j)]).run Tryz.prog w = .ok (.value (.tuple #[.int .u64 (f j), .int .u64 (cr (j + 1))])) w) (w : World) :
  Calls Tryz.prog 149 #[V [al, ah], V [bl, bh]] w (Rt w (V [x, y])) := by
 have H0 : Hid (_ ∧ _) := ⟨Mm.nil w, Below.refl w.heap.size w⟩
 have C0 : Hid _ := c0
 have CE : Hid _ := ce
 have HF : Hid _ := hf
 clear c0 ce hf
 go_enter Tryz.func149, Tryz.ntmps149
 refine wp_seq ?_
 refine zC 3 [.made (cel [al, ah]) 179, .made (cel [bl, bh]) 179, .made (cel [0, 0]) 179] (sB H0) ?ho1 ?he1
 case ho1 => exact am (ex_boxA rfl rfl) (am (ex_boxA rfl rfl) (am (ex_madeWD rfl) trivial))
 intro J w1 l hM hl
 have H1 : Hid (Mm w1 [(J 0, cel [al, ah]), (J 1, cel [bl, bh]), (J 2, cel [0, 0])] ∧ _) := wB H0 hM hl [0, 1, 2]
 have o1_0 := vB H0 hM hl 0
 have o1_1 := vB H0 hM hl 1
 have o1_2 := vB H0 hM hl 2
 clear hM hl l
 generalize J 0 = J1_0 at H1 o1_0 ⊢
 generalize J 1 = J1_1 at H1 o1_1 ⊢
 generalize J 2 = J1_2 at H1 o1_2 ⊢
 clear J
 refine rN (wp_seq ?_)
 refine zD 1 [.q (.int .u64 0)] H1 ?ho2 ?he2
 case ho2 => exact ar trivial
 intro _ w2 H2
 clear H1
 refine rN (wp_seq (wp_seq ?_))
 refine zD 1 [.q (.int .i64 0)] H2 ?ho3 ?he3
 case ho3 => exact ar trivial
 intro _ w3 H3
 clear H2
 refine rN (wp_block ?_)
 refine loop_ghost (α := Nat) (fun k a' w' => ∃ s0 : Nat → Value, a' = ⟨#[V [al, ah], V [bl, bh], PT J1_0 0, PT J1_1 0, PT J1_2 0, .int .u64 (cr k), s0 6, ud, .int .i64 ((k : Nat) : Int), s0 9, s0 10, s0 11, s0 12, s0 13, s0 14, s0 15, s0 16, s0 17, s0 18, s0 19, s0 20, s0 21, s0 22, s0 23, s0 24, s0 25, s0 26, s0 27, ud, ud, ud, ud, ud, ud, ud, ud, ud, ud, ud, ud, ud, ud, ud, ud, ud, ud, ud, ud, ud], []⟩ ∧ (Mm w' [(J1_0, row12 (mix f al ah k)), (J1_1, cel [bl, bh]), (J1_2, cel [0, 0])] ∧ Below w.heap.size w w') ∧ k ≤ 6) (fun k => 6 - k) 0 ?st0 ?rd0
 case st0 => exact ⟨(slotfn [ud, ud, ud, ud, ud, ud, ud, ud, ud, ud, ud, ud, ud, ud, ud, ud, ud, ud, ud, ud, ud, ud, ud, ud, ud, ud, ud, ud]), by rw [← C0.out]; rfl, ⟨H3.out.1.atk (by rw [mix_start f al ah]), H3.out.2⟩, by omega⟩
 intro k a' w4 hI
 obtain ⟨s0, rfl, hMB, hk0⟩ := hI
 have H4 : Hid (_ ∧ _) := hMB
 clear hMB H3
 by_cases hlt : k < 6
 ·have hrd : True := trivial
  clear hrd
  have hk12 : k < 12 := by omega
  refine wp_seq ?_
  refine zD 1 [.q (.bool true)] H4 ?ho4 ?he4
  case ho4 => exact ak (by refine fun J => ⟨rfl, fun w' h => ?_⟩; clear h; go_simp <;> omega) trivial
  intro _ w5 H5
  clear H4
  refine rN (wp_seq ?_)
  refine wp_cond_true rfl (wp_skip ?_)
  refine zA (wp_seq ?_)
  refine wp_block (wp_seq ?_)
  refine zD 2 [.q (.int .i64 ((k : Nat) : Int)), .q (.int .i64 ((k : Nat) : Int))] H5 ?ho5 ?he5
  case ho5 => exact ar (ar trivial)
  intro _ w6 H6
  clear H5
  refine rN ?_
  refine walk_put (by kernel_rfl) 16 [13] [.q (.int .i64 ((k : Nat) : Int)), .q (.int .i64 ((k : Nat) : Int)), .q (PT J1_0 0), .q (PT J1_0 (0 + k)), .q (.int .u64 (ww al ah k)), .q (.int .i64 ((k : Nat) : Int)), .q (PT J1_1 0), .q (PT J1_1 (0 + k)), .q (.int .u64 (ww bl bh k)), .q (.int .u64 (cr k)), .q (.tuple #[.int .u64 (f k), .int .u64 (cr (k + 1))]), .q (.tuple #[.int .u64 (f k), .int .u64 (cr (k + 1))]), .q (.int .u64 (f k)), .q (.int .u64 (cr (k + 1))), .q (PT J1_0 0), .q (PT J1_0 (0 + k))] _ ?pre6 ?F6 _ ?hpre6 (fun J => ?hF6) (by kernel_rfl) rfl trivial (sB H6) ?ho6 ?hla6 ?he6
  case hpre6 => simp only [tk, tz]; rfl
  case hF6 => simp only [zZ, Kind.val, Act.put, sa, sz, ss]; rfl
  case ho6 =>
   refine ar ?_
   refine ar ?_
   refine ag ?_
   refine ak (fun J => ⟨rfl, fun w' _ => zX rfl rfl rfl hlt⟩) ?_
   refine aq (fun w' h => ex_load1 h 0 rfl rfl rfl (by rw [off_lo]; exact mix_at hk12)) ?_
   refine ar ?_
   refine ag ?_
   refine ak (fun J => ⟨rfl, fun w' _ => zX rfl rfl rfl hlt⟩) ?_
   refine aq (fun w' h => ex_load1 h 1 rfl rfl rfl (by rw [off_lo, cel_row12]; exact row12_at hk12)) ?_
   refine ar ?_
   refine aq (fun w' h => ex_extern rfl (CE.out k w') rfl (mpn rfl)) ?_
   refine ar ?_
   refine ag ?_
   refine ag ?_
   refine ag ?_
   refine ak (fun J => ⟨rfl, fun w' _ => zX rfl rfl rfl hlt⟩) ?_
   exact trivial
  case hla6 => exact ⟨⟨_, _, rfl, rfl, fun J => ⟨rfl, fun w' => by first | rfl | go_simp⟩⟩, trivial⟩
  intro J w7 l hM hl
  have H7 := keepB H6 hM.below
  clear hM hl l H6 J
  refine ⟨_, ex_storeI H7.out.1 0 rfl rfl As22 rfl rfl (by rw [off_lo]; exact row12_bd hk12), ?_⟩
  have H8 : Hid (Mm (w7.setCells J1_0 (0 + k) [.int .u64 (f k)]) [(J1_0, row12 (mix f al ah (k + 1))), (J1_1, cel [bl, bh]), (J1_2, cel [0, 0])] ∧ Below w.heap.size w (w7.setCells J1_0 (0 + k) [.int .u64 (f k)])) := ⟨by
   have h := H7.out.1.put 0 (off := (0 + k)) (vs := [.int .u64 (f k)]) rfl (by rw [off_lo]; exact row12_bd hk12)
   rw [row12_put0 hk12, mix_step rfl] at h
   exact h, zV _ o1_0.out _ _ _ H7.out.2⟩
  clear H7
  generalize hgw : World.setCells _ _ _ _ = w8 at H8 ⊢
  clear hgw
  refine zH (l := [17]) rfl ?_
  refine zF (d := 5) rfl rfl rfl rfl ?_
  simp only [Act.put, sa, sz, ss]
  refine zE (zY (zA ?_))
  refine zD 1 [.q (.int .i64 ((k + 1 : Nat) : Int))] H8 ?ho7 ?he7
  case ho7 => exact ak (by refine fun J => ⟨rfl, fun w' h => ?_⟩; clear h; go_simp; rw [IntKind.wrap_i64]; omega) trivial
  intro _ w9 H9
  clear H8
  refine zH (l := [1]) rfl ?_
  refine zF (d := 8) rfl rfl rfl rfl ?_
  simp only [Act.put, sa, sz, ss]
  refine zE (zA ?_)
  exact ⟨k + 1, ⟨(slotfn [ud, ud, ud, ud, ud, ud, .int .i64 ((k : Nat) : Int), ud, ud, .bool true, .int .i64 ((k : Nat) : Int), .tuple #[.int .u64 (f k), .int .u64 (cr (k + 1))], .int .i64 ((k : Nat) : Int), .int .i64 ((k : Nat) : Int), PT J1_0 0, PT J1_0 (0 + k), .int .u64 (ww al ah k), .int .i64 ((k : Nat) : Int), PT J1_1 0, PT J1_1 (0 + k), .int .u64 (ww bl bh k), .int .u64 (cr k), .tuple #[.int .u64 (f k), .int .u64 (cr (k + 1))], .int .u64 (f k), .int .u64 (cr (k + 1)), PT J1_0 0, PT J1_0 (0 + k), .int .i64 ((k + 1 : Nat) : Int)]), rfl, ⟨H9.out.1, H9.out.2⟩, by omega⟩, by omega⟩
 have hk6 : k = 6 := by omega
 subst hk6
 refine wp_seq ?_
 refine zD 1 [.q (.bool false)] H4 ?ho8 ?he8
 case ho8 => exact ak (by refine fun J => ⟨rfl, fun w' h => ?_⟩; clear h; go_simp <;> omega) trivial
 intro _ w10 H10
 clear H4
 refine rN (wp_seq (wp_cond_false rfl ?_))
 refine wp_exit ?_
 repeat refine then_exit ?_
 refine block_exit ?_
 refine zA (wp_seq (wp_seq ?_))
 refine zD 1 [.q (.int .i64 0)] H10 ?ho9 ?he9
 case ho9 => exact ar trivial
 intro _ w11 H11
 clear H10
 refine rN (wp_block ?_)
 refine loop_ghost (α := Nat) (fun k a' w' => ∃ s2 : Nat → Value, a' = ⟨#[V [al, ah], V [bl, bh], PT J1_0 0, PT J1_1 0, PT J1_2 0, .int .u64 (cr (6 + k)), s0 6, s2 7, .int .i64 ((6 : Nat) : Int), .bool false, s0 10, s0 11, s0 12, s0 13, s0 14, s0 15, s0 16, s0 17, s0 18, s0 19, s0 20, s0 21, s0 22, s0 23, s0 24, s0 25, s0 26, s0 27, .int .i64 ((k : Nat) : Int), s2 29, s2 30, s2 31, s2 32, s2 33, s2 34, s2 35, s2 36, s2 37, s2 38, s2 39, s2 40, s2 41, s2 42, s2 43, s2 44, s2 45, s2 46, s2 47, undef], []⟩ ∧ (Mm w' [(J1_0, row12 (mix f al ah (6 + k))), (J1_1, cel [bl, bh]), (J1_2, cel [0, 0])] ∧ Below w.heap.size w w') ∧ k ≤ 6) (fun k => 6 - k) 0 ?st2 ?rd2
 case st2 => exact ⟨(slotfn [ud, ud, ud, ud, ud, ud, ud, ud, ud, ud, ud, ud, ud, ud, ud, ud, ud, ud, ud, ud, ud, ud, ud, ud, ud, ud, ud, ud, ud, ud, ud, ud, ud, ud, ud, ud, ud, ud, ud, ud, ud, ud, ud, ud, ud, ud, ud, ud]), rfl, ⟨H11.out.1, H11.out.2⟩, by omega⟩
 intro k a' w12 hI
 obtain ⟨s2, rfl, hMB, hk2⟩ := hI
 have H12 : Hid (_ ∧ _) := hMB
 clear hMB H11
 by_cases hlt : k < 6
 ·have hrd : True := trivial
  clear hrd
  have hk12 : (6 + k) < 12 := by omega
  refine wp_seq ?_
  refine zD 1 [.q (.bool true)] H12 ?ho10 ?he10
  case ho10 => exact ak (by refine fun J => ⟨rfl, fun w' h => ?_⟩; clear h; go_simp <;> omega) trivial
  intro _ w13 H13
  clear H12
  refine rN (wp_seq ?_)
  refine wp_cond_true rfl (wp_skip ?_)
  refine zA (wp_seq ?_)
  refine wp_block (wp_seq ?_)
  refine zD 2 [.q (.int .i64 ((k : Nat) : Int)), .q (.int .i64 ((k : Nat) : Int))] H13 ?ho11 ?he11
  case ho11 => exact ar (ar trivial)
  intro _ w14 H14
  clear H13
  refine rN ?_
  refine walk_put (by kernel_rfl) 16 [13] [.q (.int .i64 ((k : Nat) : Int)), .q (.int .i64 ((k : Nat) : Int)), .q (PT J1_0 6), .q (PT J1_0 (6 + k)), .q (.int .u64 (ww al ah (6 + k))), .q (.int .i64 ((k : Nat) : Int)), .q (PT J1_1 6), .q (PT J1_1 (6 + k)), .q (.int .u64 (ww bl bh (6 + k))), .q (.int .u64 (cr (6 + k))), .q (.tuple #[.int .u64 (f (6 + k)), .int .u64 (cr (6 + (k + 1)))]), .q (.tuple #[.int .u64 (f (6 + k)), .int .u64 (cr (6 + (k + 1)))]), .q (.int .u64 (f (6 + k))), .q (.int .u64 (cr (6 + (k + 1)))), .q (PT J1_0 6), .q (PT J1_0 (6 + k))] _ ?pre12 ?F12 _ ?hpre12 (fun J => ?hF12) (by kernel_rfl) rfl trivial (sB H14) ?ho12 ?hla12 ?he12
  case hpre12 => simp only [tk, tz]; rfl
  case hF12 => simp only [zZ, Kind.val, Act.put, sa, sz, ss]; rfl
  case ho12 =>
   refine ar ?_
   refine ar ?_
   refine ag ?_
   refine ak (fun J => ⟨rfl, fun w' _ => zX rfl rfl rfl hlt⟩) ?_
   refine aq (fun w' h => ex_load1 h 0 rfl rfl rfl (mix_at hk12)) ?_
   refine ar ?_
   refine ag ?_
   refine ak (fun J => ⟨rfl, fun w' _ => zX rfl rfl rfl hlt⟩) ?_
   refine aq (fun w' h => ex_load1 h 1 rfl rfl rfl (by rw [cel_row12]; exact row12_at hk12)) ?_
   refine ar ?_
   refine aq (fun w' h => ex_extern rfl (CE.out (6 + k) w') rfl (mpn rfl)) ?_
   refine ar ?_
   refine ag ?_
   refine ag ?_
   refine ag ?_
   refine ak (fun J => ⟨rfl, fun w' _ => zX rfl rfl rfl hlt⟩) ?_
   exact trivial
  case hla12 => exact ⟨⟨_, _, rfl, rfl, fun J => ⟨rfl, fun w' => by first | rfl | go_simp⟩⟩, trivial⟩
  intro J w15 l hM hl
  have H15 := keepB H14 hM.below
  clear hM hl l H14 J
  refine ⟨_, ex_storeI H15.out.1 0 rfl rfl As22 rfl rfl (row12_bd hk12), ?_⟩
  have H16 : Hid (Mm (w15.setCells J1_0 (6 + k) [.int .u64 (f (6 + k))]) [(J1_0, row12 (mix f al ah (6 + (k + 1)))), (J1_1, cel [bl, bh]), (J1_2, cel [0, 0])] ∧ Below w.heap.size w (w15.setCells J1_0 (6 + k) [.int .u64 (f (6 + k))])) := ⟨by
   have h := H15.out.1.put 0 (off := (6 + k)) (vs := [.int .u64 (f (6 + k))]) rfl (row12_bd hk12)
   rw [row12_put hk12, mix_step rfl] at h
   exact h, zV _ o1_0.out _ _ _ H15.out.2⟩
  clear H15
  generalize hgw : World.setCells _ _ _ _ = w16 at H16 ⊢
  clear hgw
  refine zH (l := [17]) rfl ?_
  refine zF (d := 5) rfl rfl rfl rfl ?_
  simp only [Act.put, sa, sz, ss]
  refine zE (zY (zA ?_))
  refine zD 1 [.q (.int .i64 ((k + 1 : Nat) : Int))] H16 ?ho13 ?he13
  case ho13 => exact ak (by refine fun J => ⟨rfl, fun w' h => ?_⟩; clear h; go_simp; rw [IntKind.wrap_i64]; omega) trivial
  intro _ w17 H17
  clear H16
  refine zH (l := [1]) rfl ?_
  refine zF (d := 28) rfl rfl rfl rfl ?_
  simp only [Act.put, sa, sz, ss]
  refine zE (zA ?_)
  exact ⟨k + 1, ⟨(slotfn [ud, ud, ud, ud, ud, ud, ud, .int .i64 ((k : Nat) : Int), ud, ud, ud, ud, ud, ud, ud, ud, ud, ud, ud, ud, ud, ud, ud, ud, ud, ud, ud, ud, ud, .bool true, .int .i64 ((k : Nat) : Int), .tuple #[.int .u64 (f (6 + k)), .int .u64 (cr (6 + (k + 1)))], .int .i64 ((k : Nat) : Int), .int .i64 ((k : Nat) : Int), PT J1_0 6, PT J1_0 (6 + k), .int .u64 (ww al ah (6 + k)), .int .i64 ((k : Nat) : Int), PT J1_1 6, PT J1_1 (6 + k), .int .u64 (ww bl bh (6 + k)), .int .u64 (cr (6 + k)), .tuple #[.int .u64 (f (6 + k)), .int .u64 (cr (6 + (k + 1)))], .int .u64 (f (6 + k)), .int .u64 (cr (6 + (k + 1))), PT J1_0 6, PT J1_0 (6 + k), .int .i64 ((k + 1 : Nat) : Int)]), rfl, ⟨H17.out.1, H17.out.2⟩, by omega⟩, by omega⟩
 have hk6 : k = 6 := by omega
 subst hk6
 have H18 : Hid (Mm w12 [(J1_0, cel [x, y]), (J1_1, cel [bl, bh]), (J1_2, cel [0, 0])] ∧ Below w.heap.size w w12) := ⟨H12.out.1.atk (by rw [mix_end HF.out]), H12.out.2⟩
 clear H12
 refine wp_seq ?_
 refine zD 1 [.q (.bool false)] H18 ?ho14 ?he14
 case ho14 => exact ak (by refine fun J => ⟨rfl, fun w' h => ?_⟩; clear h; go_simp <;> omega) trivial
 intro _ w19 H19
 clear H18
 refine rN (wp_seq (wp_cond_false rfl ?_))
 refine wp_exit ?_
 repeat refine then_exit ?_
 refine block_exit ?_
 refine zA (wp_seq ?_)
 refine zD 1 [.q (V [x, y])] H19 ?ho15 ?he15
 case ho15 => exact bA 0 2 0 Ai179 As179 trivial
 intro _ w20 H20
 clear H19
 refine zH (l := [1]) rfl ?_
 refine sF 2 [x, y] [_, _, _] H20 o1_2 As179 fun w21 H21 => ?_
 clear H20
 refine zE (zA (wp_ret ?_))
 repeat (first | refine zJ ?_ | refine zI ?_)
 have hf0 := cel_var (k := 2) H21.out.1 2 rfl Ai179 As179 rfl
 refine bodyPost_ret (v := V [x, y]) (by simp [results, Tryz.results149, asAddr, hf0]) rfl ?_
 exact ⟨rfl, H21.out.2⟩
theorem sub_wordn (a b k n : Nat) (hk : k < n) (hb : b < 2 ^ (64 * n)) : subLo (wd a k) (wd b k) (brw a b k) = wd (a + 2 ^ (64 * n) - b) k := by
 unfold subLo wd brw
 have e : 2 ^ (64 * n) = 2 ^ (64 * k) * (18446744073709551616 * 2 ^ (64 * (n - 1 - k))) := by
  have : 64 * n = 64 * k + (64 + 64 * (n - 1 - k)) := by omega
  rw [this, Nat.pow_add, Nat.pow_add]
 have hp := pow_pos' k
 rw [e] at hb ⊢
 generalize 2 ^ (64 * (n - 1 - k)) = R at hb ⊢
 generalize 2 ^ (64 * k) = B at hp hb ⊢
 have hbh : b / B < 18446744073709551616 * R := (Nat.div_lt_iff_lt_mul hp).2 (by rw [Nat.mul_comm]; exact hb)
 have da := Nat.div_add_mod a B
 have db := Nat.div_add_mod b B
 have la := Nat.mod_lt a hp
 have lb := Nat.mod_lt b hp
 generalize a / B = x at da ⊢
 generalize b / B = y at db hbh ⊢
 generalize a % B = p at da la ⊢
 generalize b % B = q at db lb ⊢
 by_cases h : p < q
 ·have e2 : a + B * (18446744073709551616 * R) - b = (p + B - q) + B * (x + 18446744073709551616 * R - y - 1) := by
   have h3 : B * (x + 18446744073709551616 * R - y - 1) = B * x + B * (18446744073709551616 * R) - B * y - B := by
    rw [Nat.mul_sub, Nat.mul_sub, Nat.mul_add, Nat.mul_one]
   have h4 : B * y + B ≤ B * (18446744073709551616 * R) := by rw [← Nat.mul_succ]; exact Nat.mul_le_mul_left B hbh
   rw [h3]; omega
  rw [e2, Nat.add_mul_div_left _ _ hp, Nat.div_eq_of_lt (by omega : p + B - q < B), if_pos h]
  omega
 ·have e2 : a + B * (18446744073709551616 * R) - b = (p - q) + B * (x + 18446744073709551616 * R - y) := by
   have h3 : B * (x + 18446744073709551616 * R - y) = B * x + B * (18446744073709551616 * R) - B * y := by
    rw [Nat.mul_sub, Nat.mul_add]
   have h4 : B * y + B ≤ B * (18446744073709551616 * R) := by rw [← Nat.mul_succ]; exact Nat.mul_le_mul_left B hbh
   rw [h3]; omega
  rw [e2, Nat.add_mul_div_left _ _ hp, Nat.div_eq_of_lt (by omega : p - q < B), if_neg h]
  omega
/-! Wide numbers stand for integers. -/
def bb : Nat := big * big
theorem bb_pow : ∃ n, n = 12 ∧ bb = 2 ^ (64 * n) := by
 obtain ⟨m, hm, e⟩ := big_pow
 refine ⟨m + m, by omega, ?_⟩
 unfold bb
 rw [e, ← Nat.pow_add, Nat.mul_add]
theorem bb_pos : 0 < bb := Nat.mul_pos big_pos big_pos
theorem bbI : (0 : Int) < (bb : Int) := by have := bb_pos; omega
def wz (z : Int) : Nat := (z % (bb : Int)).toNat
theorem wz_cast (z : Int) : ((wz z : Nat) : Int) = z % (bb : Int) := Int.toNat_of_nonneg (Int.emod_nonneg _ (by have := bbI; omega))
theorem wz_lt (z : Int) : wz z < bb := by
 have h := wz_cast z
 have h2 := Int.emod_lt_of_pos z bbI
 omega
theorem wz_nat (n : Nat) (h : n < bb) : wz n = n := by
 have e := wz_cast n
 rw [Int.emod_eq_of_lt (by omega) (by omega)] at e
 omega
theorem wz_add (x y : Int) : wz (x + y) = (wz x + wz y) % bb := by
 have h : ((wz (x + y) : Nat) : Int) = (((wz x + wz y) % bb : Nat) : Int) := by
  rw [wz_cast, Int.natCast_emod, Int.natCast_add, wz_cast, wz_cast, ← Int.add_emod]
 omega
theorem wz_sub (x y : Int) : wz (x - y) = (wz x + bb - wz y) % bb := by
 have hy := wz_lt y
 have h : ((wz (x - y) : Nat) : Int) = (((wz x + bb - wz y) % bb : Nat) : Int) := by
  rw [wz_cast, Int.natCast_emod, show ((wz x + bb - wz y : Nat) : Int) = (wz x : Int) - (wz y : Int) + (bb : Int) by omega, Int.add_emod_right, wz_cast, wz_cast, ← Int.sub_emod]
 omega
abbrev lo (z : Int) : Nat := wz z % big
abbrev hi (z : Int) : Nat := wz z / big
theorem ww_wd (X j : Nat) : ww (X % big) (X / big) j = wd X j := by
 unfold ww
 by_cases h : j < 6
 ·rw [if_pos h, wd_mod _ _ h]
 ·rw [if_neg h, ← wd_hi, show j - 6 + 6 = j by omega]
theorem wd_modn (v j n : Nat) (h : j < n) : wd (v % 2 ^ (64 * n)) j = wd v j := by
 unfold wd
 have e : 2 ^ (64 * n) = 2 ^ (64 * j) * (18446744073709551616 * 2 ^ (64 * (n - 1 - j))) := by
  have : 64 * n = 64 * j + (64 + 64 * (n - 1 - j)) := by omega
  rw [this, Nat.pow_add, Nat.pow_add]
 rw [e, Nat.mod_mul_right_div_self, Nat.mod_mul_right_mod]
theorem plusZ_any (x y : Int) (w : World) : Calls Tryz.prog 150 #[V [lo x, hi x], V [lo y, hi y]] w (Rt w (V [lo (x + y), hi (x + y)])) := by
 obtain ⟨n, hn, eb⟩ := bb_pow
 refine plus_gen (lo x) (hi x) (lo y) (hi y) (lo (x + y)) (hi (x + y)) (fun j => wd (wz x + wz y) j) (fun j => cry (wz x) (wz y) j) ?_ (fun j hj => ?_) (fun j w => ?_) w
 ·unfold cry; simp [Nat.mod_one]
 ·rw [ww_wd, wz_add, eb, wd_modn _ _ _ (by omega)]
 ·rw [ww_wd, ww_wd]
  have h := add64' (wd (wz x) j) (wd (wz y) j) (cry (wz x) (wz y) j) (wd_bd _ _).1 (wd_bd _ _).1 (cry_bd _ _ _).1 (cry_bd _ _ _).2 w
  rw [add_word, add_cry] at h
  exact h
theorem lessZ_any (x y : Int) (w : World) : Calls Tryz.prog 149 #[V [lo x, hi x], V [lo y, hi y]] w (Rt w (V [lo (x - y), hi (x - y)])) := by
 obtain ⟨n, hn, eb⟩ := bb_pow
 refine less_gen (lo x) (hi x) (lo y) (hi y) (lo (x - y)) (hi (x - y)) (fun j => subLo (wd (wz x) j) (wd (wz y) j) (brw (wz x) (wz y) j)) (fun j => brw (wz x) (wz y) j) ?_ (fun j hj => ?_) (fun j w => ?_) w
 ·unfold brw; simp [Nat.mod_one]
 ·have hy := wz_lt y
  show subLo (wd (wz x) j) (wd (wz y) j) (brw (wz x) (wz y) j) = _
  rw [ww_wd, wz_sub, eb, wd_modn _ _ _ (by omega)]
  rw [eb] at hy
  exact sub_wordn _ _ _ n (by omega) hy
 ·rw [ww_wd, ww_wd]
  have h := sub64' (wd (wz x) j) (wd (wz y) j) (brw (wz x) (wz y) j) (wd_bd _ _).1 (wd_bd _ _).1 (wd_bd _ _).2 (brw_bd _ _ _).1 (brw_bd _ _ _).2 w
  rw [sub_cry] at h
  exact h
theorem timesZ_any (a b : Nat) (ha : a < big) (hb : b < big) (w : World) : Calls Tryz.prog 148 #[N a, N b] w (Rt w (V [lo ((a : Int) * b), hi ((a : Int) * b)])) := by
 have h : wz ((a : Int) * b) = a * b := by
  rw [← Int.natCast_mul]
  exact wz_nat _ (Nat.mul_lt_mul'' ha hb)
 have ht := times_gen a b (a * b % big) (a * b / big) (fun w => mul_any a b ha hb w) w
 unfold lo hi
 rw [h]
 exact ht
/-! Numbers by p. -/
theorem left_any (a : Nat) (ha : a < big) (w : World) : Calls Tryz.prog 136 #[N a] w (Rt w (N (a % pB))) := by
 have hp := pB_lt
 have hpos : 0 < pB := pB_ok.pos
 have cb := base_pB
 generalize pB = p at *
 have hdm := Nat.div_add_mod a p
 have hlt := Nat.mod_lt a hpos
 have e : a - a / p * p = a % p := by rw [Nat.mul_comm]; omega
 have hk : ∀ k, k ≤ a / p → k * p ≤ a := fun k hk => Nat.le_trans (Nat.mul_le_mul hk (Nat.le_refl p)) (by rw [Nat.mul_comm]; omega)
 have h := left_gen a p ((a % p + big - p) % big) (a / p) (fun k => a - k * p) (by simp) cb (fun k hk' w => ?_) (fun w => ?_) w
 ·rw [e] at h
  exact h
 ·have h1 := hk (k + 1) hk'
  rw [Nat.add_mul, Nat.one_mul] at h1
  have h := sub_any (a - k * p) p (by omega) hp w
  rw [decide_eq_false (by omega), show a - k * p + big - p = a - (k + 1) * p + big by rw [Nat.add_mul, Nat.one_mul]; omega, Nat.add_mod_right, Nat.mod_eq_of_lt (by omega)] at h
  exact h
 ·rw [e]
  have h := sub_any (a % p) p (by omega) hp w
  rw [decide_eq_true hlt] at h
  exact h
theorem together_any (a b : Nat) (h : a + b < big) (w : World) : Calls Tryz.prog 137 #[N a, N b] w (Rt w (N (a + b))) := by
 have c := fun w => add_any a b (by omega) (by omega) w
 rw [Nat.mod_eq_of_lt h] at c
 exact together_gen a b _ _ c w
theorem sumP_any (a b : Nat) (h : a + b < big) (w : World) : Calls Tryz.prog 111 #[N a, N b] w (Rt w (N ((a + b) % pB))) :=
 sum_gen a b _ _ (fun w => together_any a b h w) (fun w => left_any (a + b) h w) w
theorem diffP_any (a b : Nat) (ha : a < pB) (hb : b < pB) (w : World) : Calls Tryz.prog 112 #[N a, N b] w (Rt w (N (subm pB a b))) := by
 have hp := pB_lt
 have cb := base_pB
 have ht := pB_ok.top
 generalize pB = p at *
 have c := fun w => sub_any a b (by omega) (by omega) w
 have hm : b % p = b := Nat.mod_eq_of_lt hb
 by_cases h : a < b
 ·rw [decide_eq_true h, Nat.mod_eq_of_lt (show a + big - b < big by omega)] at c
  have c2 := fun w => add_any (a + big - b) p (by omega) hp w
  have e : (a + big - b + p) % big = subm p a b := by
   unfold subm
   rw [hm, show a + big - b + p = a + (p - b) + big by omega, Nat.add_mod_right, Nat.mod_eq_of_lt (by omega), Nat.mod_eq_of_lt (by omega)]
  rw [e] at c2
  exact diff_2 a b _ _ _ _ c cb c2 w
 ·have e : (a + big - b) % big = subm p a b := by
   unfold subm
   rw [hm, show a + big - b = a - b + big by omega, Nat.add_mod_right, Nat.mod_eq_of_lt (by omega), show a + (p - b) = a - b + p by omega, Nat.add_mod_right, Nat.mod_eq_of_lt (by omega)]
  rw [decide_eq_false h, e] at c
  exact diff_1 a b _ c w
theorem Mm.over {u w : World} {l : List (Nat × List Value)} {g : Nat} {cs : List Value} (h0 : Mm u l) (hge : u.heap.size ≤ g) (h1 : Mm w l) (hb : Blk w g cs) (hlt : g < w.heap.size) : Mm w ((g, cs) :: l) :=
 h1.cons hb hlt (fun p hp => by have := (h0.blk p hp).1; omega)
theorem ex_madeF {ρ : Operand → Value} {o : Oper} {w : World} (ho : o.op = .alloc 156) :
  (execOp ρ o).run Tryz.prog w = .ok (.value (.pointer (some ⟨w.heap.size, 0, none⟩))) (w.alloc (.cells [.pointer none].toArray 156)) := by
 simp only [execOp, ho]
 go_simp
theorem ex_buildF {ρ : Operand → Value} {o : Oper} {x : Operand} {g : Nat} {w : World} (ho : o.op = .build 156 #[(0, x)]) (hx : ρ x = PT g 0) : (execOp ρ o).run Tryz.prog w = .ok (.value (.agg #[PT g 0])) w := by
 simp only [execOp, ho]
 go_simp
theorem ex_storeF {ρ : Operand → Value} {o : Oper} {x y : Operand} {g b : Nat} {cs : List Value} {w : World} {l : List (Nat × List Value)} (h : Mm w l) (k : Nat) (hk : l[k]? = some (g, cs)) (ho : o.op = .store 156 x y) (hx : ρ x = PT g 0) (hy : ρ y = .agg #[PT b 0]) (hc : 0 < cs.length) :
  (execOp ρ o).run Tryz.prog w = .ok .skip (w.setCells g 0 [PT b 0]) := by
 have hm := List.mem_of_getElem? hk
 have e : cs[0]? = some (cs[0]'hc) := List.getElem?_eq_getElem _
 have c0 := h.cell hm e
 have f0 := h.free hm e
 clear h hm hk
 simp only [execOp, ho, hx, hy]
 go_simp
 simp [World.setCells]
set_option maxHeartbeats 1000000 in
theorem great_gen (n : Nat)
  (c0 : ∀ w, Calls Tryz.prog 67 #[] w (Rt w (N n)))
  (c1 : ∀ w, Calls Tryz.prog 12 #[N n] w fun e w' => Below w.heap.size w w' ∧ ∃ g, e = .returned (.tuple #[PT g 0, .int .i64 0]) ∧ w.heap.size ≤ g ∧ g < w'.heap.size ∧ Blk w' g (zT n)) (w : World) :
  Calls Tryz.prog 113 #[] w fun e w' => Below w.heap.size w w' ∧ ∃ g, e = .returned (.agg #[PT g 0]) ∧ w.heap.size ≤ g ∧ g < w'.heap.size ∧ Blk w' g (zT n) := by
 have H0 : Hid (_ ∧ _) := ⟨Mm.nil w, Below.refl w.heap.size w⟩
 have C0 : Hid _ := c0
 have C1 : Hid _ := c1
 clear c0 c1
 go_enter Tryz.func113, Tryz.ntmps113
 refine wp_seq ?_
 refine zC 1 [.made [.pointer none] 156] (sB H0) ?ho1 ?he1
 case ho1 => exact am (ex_madeF rfl) trivial
 intro J w1 l hM hl
 have H1 : Hid (Mm w1 [(J 0, [.pointer none])] ∧ _) := wB H0 hM hl [0]
 have o1_0 := vB H0 hM hl 0
 clear hM hl l
 generalize J 0 = J1_0 at H1 o1_0 ⊢
 clear J
 refine rN (wp_seq ?_)
 refine zC 2 [.call (N n), .born (fun g => .tuple #[PT g 0, .int .i64 0]) (zT n)] (sB H1) ?ho2 ?he2
 case ho2 => exact ak (fun J => ⟨rfl, fun w' h => eC call67 (C0.out w')⟩) (ak (fun J => ⟨rfl, fun w' h => eC call12 (C1.out w')⟩) trivial)
 intro J w2 l hM hl
 have H2 : Hid (Mm w2 ([(J 1, zT n)] ++ _) ∧ _) := wB H1 hM hl [1]
 have o2_1 := vB H1 hM hl 1
 clear hM hl l H1
 generalize J 1 = J2_1 at H2 o2_1 ⊢
 clear J
 refine zH (l := [2, 3, 4, 5, 6]) rfl ?_
 refine zF (d := 3) rfl rfl rfl rfl ?_
 simp only [Act.put, sa, sz, ss]
 refine zF (d := 6) (v := PT J2_1 0) (w' := w2) rfl rfl rfl (by go_simp) ?_
 simp only [Act.put, sa, sz, ss]
 refine zF (d := 7) (v := .int .i64 0) (w' := w2) rfl rfl rfl (by go_simp) ?_
 simp only [Act.put, sa, sz, ss]
 refine zF (d := 1) rfl rfl rfl rfl ?_
 simp only [Act.put, sa, sz, ss]
 refine zF (d := 2) rfl rfl rfl rfl ?_
 simp only [Act.put, sa, sz, ss]
 refine zE (zA (wp_seq ?_))
 refine zD 2 [.q (PT J2_1 0), .q (.agg #[PT J2_1 0])] H2 ?ho3 ?he3
 case ho3 => exact ar (ak (fun J => ⟨rfl, fun w' _ => ex_buildF rfl rfl⟩) trivial)
 intro _ w3 H3
 clear H2
 refine zH (l := [2]) rfl ?_
 refine sG rfl (fun h => ex_storeF h 1 rfl rfl rfl rfl (Nat.le_of_ble_eq_true rfl)) 1 [_, (_, [PT J2_1 0])] H3 o1_0 fun w4 H4 => ?_
 clear H3
 refine zE (zA (wp_ret ?_))
 repeat (first | refine zJ ?_ | refine zI ?_)
 have hf0 := H4.out.1.get 1 rfl 0 rfl
 refine bodyPost_ret (v := .agg #[PT J2_1 0]) (by simp [results, Tryz.results113, go_sem, *]) rfl ?_
 exact ⟨H4.out.2, J2_1, rfl, o2_1.out, H4.out.1.lt (List.mem_of_getElem? (i := 0) rfl), (H4.out.1.blk _ (List.mem_of_getElem? (i := 0) rfl)).2⟩
set_option maxHeartbeats 1000000 in
theorem rest_gen (g n o s u0 u1 d x r : Nat) (cx : Bool)
  (c0 : ∀ w, Mm w [(g, zN n o s)] → Calls Tryz.prog 156 #[PT g 0] w (Rt w (N n)))
  (c1 : ∀ w, Calls Tryz.prog 61 #[N n, .int .i64 1] w (Rt w (N d)))
  (c2 : ∀ w, Calls Tryz.prog 21 #[N u1, N d] w (Rt w (.tuple #[N x, .bool cx])))
  (c3 : ∀ w, Mm w [(g, zN n o s)] → Calls Tryz.prog 157 #[PT g 0, N u0, N x] w (Rt w (N r))) (w : World) (hm : Mm w [(g, zN n o s)]) :
  Calls Tryz.prog 147 #[.agg #[PT g 0], V [u0, u1]] w (Rt w (N r)) := by
 have H0 : Hid (_ ∧ _) := ⟨hm, Below.refl w.heap.size w⟩
 clear hm
 have C0 : Hid _ := c0
 have C1 : Hid _ := c1
 have C2 : Hid _ := c2
 have C3 : Hid _ := c3
 clear c0 c1 c2 c3
 go_enter Tryz.func147, Tryz.ntmps147
 refine wp_seq ?_
 refine zC 3 [.made [PT g 0] 156, .made (cel [u0, u1]) 179, .made zero6 24] (sB H0) ?ho1 ?he1
 case ho1 => exact am (ex_boxF rfl rfl) (am (ex_boxA rfl rfl) (am (zG rfl) trivial))
 intro J w1 l hM hl
 have H1 : Hid (Mm w1 ([(J 0, [PT g 0]), (J 1, cel [u0, u1]), (J 2, zero6)] ++ _) ∧ _) := wB H0 hM hl [0, 1, 2]
 have o1_0 := vB H0 hM hl 0
 have o1_1 := vB H0 hM hl 1
 have o1_2 := vB H0 hM hl 2
 clear hM hl l
 generalize J 0 = J1_0 at H1 o1_0 ⊢
 generalize J 1 = J1_1 at H1 o1_1 ⊢
 generalize J 2 = J1_2 at H1 o1_2 ⊢
 clear J
 refine rN (wp_seq ?_)
 refine zP 13 [.q (PT J1_1 6), .q (N u1), .q (PT J1_0 0), .q (PT g 0), .call (N n), .call (N d), .call (.tuple #[N x, .bool cx]), .q (.tuple #[N x, .bool cx]), .q (N x), .q (.bool cx), .made zero6 24, .laid 10 zero6 (zB x), .q (.bool cx)] (sB H1) ?ho2 ?he2 (hL := ?hL2)
 case hL2 => exact ⟨⟨_, rfl⟩, trivial⟩
 case ho2 => exact ag (aq (fun w' h => zO (i := 1) h 1 rfl rfl rfl rfl) (ag (aq (fun w' h => ex_loadQ h 0 rfl rfl rfl rfl) (ac (fun w' h => eC call156 (C0.out w' (h.one 3 rfl))) (ac (fun w' h => eC call61 (C1.out w')) (ac (fun w' h => eC call21 (C2.out w')) (ar (ag (ag (am (zG rfl) (ak (fun J => ⟨rfl, rfl, rfl, fun w' h => zK h rfl rfl rfl⟩) (ar trivial))))))))))))
 intro J w2 l hM hl
 have H2 : Hid (Mm w2 ([(J 10, zB x)] ++ _) ∧ _) := wB H1 hM hl [10]
 have o2_10 := vB H1 hM hl 10
 clear hM hl l H1
 generalize J 10 = J2_10 at H2 o2_10 ⊢
 clear J
 refine rN (wp_seq ?_)
 refine zD 6 [.q (PT J1_0 0), .q (PT g 0), .q (PT J1_1 0), .q (N u0), .q (N x), .call (N r)] H2 ?ho3 ?he3
 case ho3 => exact ag (aq (fun w' h => ex_loadQ h 1 rfl rfl rfl rfl) (ag (aq (fun w' h => zO (i := 0) h 2 rfl rfl rfl rfl) (bN 0 (ac (fun w' h => eC call157 (C3.out w' (h.one 4 rfl))) trivial)))))
 intro _ w3 H3
 clear H2
 refine zH (l := [6]) rfl ?_
 refine sG rfl (fun h => zL h 3 rfl rfl rfl rfl (Nat.le_of_ble_eq_true rfl)) 3 [_, _, _, (_, zB r), _] H3 o1_2 fun w4 H4 => ?_
 clear H3
 refine zE (zA (wp_ret ?_))
 repeat (first | refine zJ ?_ | refine zI ?_)
 have c0 := H4.out.1.get 3 rfl 0 rfl
 have c1 := H4.out.1.get 3 rfl 1 rfl
 have c2 := H4.out.1.get 3 rfl 2 rfl
 have c3 := H4.out.1.get 3 rfl 3 rfl
 have c4 := H4.out.1.get 3 rfl 4 rfl
 have c5 := H4.out.1.get 3 rfl 5 rfl
 refine bodyPost_ret (v := N r) (by simp [results, Tryz.results147, go_sem, *]) rfl ?_
 exact ⟨rfl, H4.out.2⟩
set_option maxHeartbeats 1000000 in
theorem times2_gen (a0 a1 b0 b1 ta tb f0 f1 g0 g1 t0 t1 x0 x1 y0 y1 z0 z1 : Nat)
  (c0 : ∀ w, Calls Tryz.prog 148 #[N a0, N b0] w (Rt w (V [f0, f1])))
  (c1 : ∀ w, Calls Tryz.prog 148 #[N a1, N b1] w (Rt w (V [g0, g1])))
  (c2 : ∀ w, Calls Tryz.prog 137 #[N a0, N a1] w (Rt w (N ta)))
  (c3 : ∀ w, Calls Tryz.prog 137 #[N b0, N b1] w (Rt w (N tb)))
  (c4 : ∀ w, Calls Tryz.prog 148 #[N ta, N tb] w (Rt w (V [t0, t1])))
  (c5 : ∀ w, Calls Tryz.prog 149 #[V [f0, f1], V [g0, g1]] w (Rt w (V [x0, x1])))
  (c6 : ∀ w, Calls Tryz.prog 149 #[V [t0, t1], V [f0, f1]] w (Rt w (V [y0, y1])))
  (c7 : ∀ w, Calls Tryz.prog 149 #[V [y0, y1], V [g0, g1]] w (Rt w (V [z0, z1]))) (w : World) :
  Calls Tryz.prog 139 #[V [a0, a1], V [b0, b1]] w (Rt w (V [x0, x1, z0, z1])) := by
 have H0 : Hid (_ ∧ _) := ⟨Mm.nil w, Below.refl w.heap.size w⟩
 have C0 : Hid _ := c0
 have C1 : Hid _ := c1
 have C2 : Hid _ := c2
 have C3 : Hid _ := c3
 have C4 : Hid _ := c4
 have C5 : Hid _ := c5
 have C6 : Hid _ := c6
 have C7 : Hid _ := c7
 clear c0 c1 c2 c3 c4 c5 c6 c7
 go_enter Tryz.func139, Tryz.ntmps139
 refine wp_seq ?_
 refine zC 3 [.made (cel [a0, a1]) 33, .made (cel [b0, b1]) 33, .made (cel [0, 0, 0, 0]) 181] (sB H0) ?ho1 ?he1
 case ho1 => exact am (ex_boxA rfl rfl) (am (ex_boxA rfl rfl) (am (ex_madeW2 rfl) trivial))
 intro J w1 l hM hl
 have H1 : Hid (Mm w1 [(J 0, cel [a0, a1]), (J 1, cel [b0, b1]), (J 2, cel [0, 0, 0, 0])] ∧ _) := wB H0 hM hl [0, 1, 2]
 have o1_0 := vB H0 hM hl 0
 have o1_1 := vB H0 hM hl 1
 have o1_2 := vB H0 hM hl 2
 clear hM hl l
 generalize J 0 = J1_0 at H1 o1_0 ⊢
 generalize J 1 = J1_1 at H1 o1_1 ⊢
 generalize J 2 = J1_2 at H1 o1_2 ⊢
 clear J
 refine rN (wp_seq ?_)
 refine zP 14 [.q (PT J1_0 0), .q (N a0), .q (PT J1_1 0), .q (N b0), .call (V [f0, f1]), .q (PT J1_0 6), .q (N a1), .q (PT J1_1 6), .q (N b1), .call (V [g0, g1]), .made (cel [0, 0]) 179, .made (cel [0, 0]) 179, .laid 10 (cel [0, 0]) (cel [f0, f1]), .laid 11 (cel [0, 0]) (cel [g0, g1])] (sB H1) ?ho2 ?he2 (hL := ?hL2)
 case hL2 => exact ⟨⟨_, rfl⟩, ⟨_, rfl⟩, trivial⟩
 case ho2 => exact ag (aq (fun w' h => zO (i := 0) h 0 rfl rfl rfl rfl) (ag (aq (fun w' h => zO (i := 0) h 1 rfl rfl rfl rfl) (ac (fun w' h => eC call148 (C0.out w')) (ag (aq (fun w' h => zO (i := 1) h 0 rfl rfl rfl rfl) (ag (aq (fun w' h => zO (i := 1) h 1 rfl rfl rfl rfl) (ac (fun w' h => eC call148 (C1.out w')) (am (ex_madeWD rfl) (am (ex_madeWD rfl) (ak (fun J => ⟨rfl, rfl, rfl, fun w' h => ex_laidA h rfl As179 rfl rfl rfl⟩) (ak (fun J => ⟨rfl, rfl, rfl, fun w' h => ex_laidA h rfl As179 rfl rfl rfl⟩) trivial)))))))))))))
 intro J w2 l hM hl
 have H2 : Hid (Mm w2 ([(J 10, cel [f0, f1]), (J 11, cel [g0, g1])] ++ _) ∧ _) := wB H1 hM hl [10, 11]
 have o2_10 := vB H1 hM hl 10
 have o2_11 := vB H1 hM hl 11
 clear hM hl l H1
 generalize J 10 = J2_10 at H2 o2_10 ⊢
 generalize J 11 = J2_11 at H2 o2_11 ⊢
 clear J
 refine rN (wp_seq ?_)
 refine zP 13 [.q (PT J1_0 0), .q (N a0), .q (PT J1_0 6), .q (N a1), .call (N ta), .q (PT J1_1 0), .q (N b0), .q (PT J1_1 6), .q (N b1), .call (N tb), .call (V [t0, t1]), .made (cel [0, 0]) 179, .laid 11 (cel [0, 0]) (cel [t0, t1])] (sB H2) ?ho3 ?he3 (hL := ?hL3)
 case hL3 => exact ⟨⟨_, rfl⟩, trivial⟩
 case ho3 => exact ag (aq (fun w' h => zO (i := 0) h 2 rfl rfl rfl rfl) (ag (aq (fun w' h => zO (i := 1) h 2 rfl rfl rfl rfl) (ac (fun w' h => eC call137 (C2.out w')) (ag (aq (fun w' h => zO (i := 0) h 3 rfl rfl rfl rfl) (ag (aq (fun w' h => zO (i := 1) h 3 rfl rfl rfl rfl) (ac (fun w' h => eC call137 (C3.out w')) (ac (fun w' h => eC call148 (C4.out w')) (am (ex_madeWD rfl) (ak (fun J => ⟨rfl, rfl, rfl, fun w' h => ex_laidA h rfl As179 rfl rfl rfl⟩) trivial))))))))))))
 intro J w3 l hM hl
 have H3 : Hid (Mm w3 ([(J 11, cel [t0, t1])] ++ _) ∧ _) := wB H2 hM hl [11]
 have o3_11 := vB H2 hM hl 11
 clear hM hl l H2
 generalize J 11 = J3_11 at H3 o3_11 ⊢
 clear J
 refine rN (wp_seq ?_)
 refine zS 9 [.q (V [f0, f1]), .q (V [g0, g1]), .call (V [x0, x1]), .q (V [t0, t1]), .q (V [f0, f1]), .call (V [y0, y1]), .q (V [g0, g1]), .call (V [z0, z1]), .q (V [x0, x1, z0, z1])] H3 ?ho4 ?he4
 case ho4 => exact bA 0 2 1 Ai179 As179 (bA 0 2 2 Ai179 As179 (ac (fun w' h => eC call149 (C5.out w')) (bA 0 2 0 Ai179 As179 (bA 0 2 1 Ai179 As179 (ac (fun w' h => eC call149 (C6.out w')) (bA 0 2 2 Ai179 As179 (ac (fun w' h => eC call149 (C7.out w')) (ak (fun J => ⟨rfl, fun w' _ => ex_buildW2 rfl rfl rfl⟩) trivial))))))))
 intro _ w4 H4
 clear H3
 refine zH (l := [9]) rfl ?_
 refine sF 5 [x0, x1, z0, z1] [_, _, _, _, _, _] H4 o1_2 Tryz.sizeOf181 fun w5 H5 => ?_
 clear H4
 refine zE (zA (wp_ret ?_))
 repeat (first | refine zJ ?_ | refine zI ?_)
 have hf0 := cel_var (k := 4) H5.out.1 5 rfl Tryz.isAgg181 Tryz.sizeOf181 rfl
 refine bodyPost_ret (v := V [x0, x1, z0, z1]) (by simp [results, Tryz.results139, asAddr, hf0]) rfl ?_
 exact ⟨rfl, H5.out.2⟩
set_option maxHeartbeats 1000000 in
theorem rest2_gen (g n o s u0 u1 v0 v1 r0 r1 : Nat)
  (c0 : ∀ w, Mm w [(g, zN n o s)] → Calls Tryz.prog 147 #[.agg #[PT g 0], V [u0, u1]] w (Rt w (N r0)))
  (c1 : ∀ w, Mm w [(g, zN n o s)] → Calls Tryz.prog 147 #[.agg #[PT g 0], V [v0, v1]] w (Rt w (N r1))) (w : World) (hm : Mm w [(g, zN n o s)]) :
  Calls Tryz.prog 138 #[.agg #[PT g 0], V [u0, u1, v0, v1]] w (Rt w (V [r0, r1])) := by
 have H0 : Hid (_ ∧ _) := ⟨hm, Below.refl w.heap.size w⟩
 clear hm
 have C0 : Hid _ := c0
 have C1 : Hid _ := c1
 clear c0 c1
 go_enter Tryz.func138, Tryz.ntmps138
 refine wp_seq ?_
 refine zC 3 [.made [PT g 0] 156, .made (cel [u0, u1, v0, v1]) 181, .made (cel [0, 0]) 33] (sB H0) ?ho1 ?he1
 case ho1 => exact am (ex_boxF rfl rfl) (am (ex_boxA rfl rfl) (am (ex_madeE2 rfl) trivial))
 intro J w1 l hM hl
 have H1 : Hid (Mm w1 ([(J 0, [PT g 0]), (J 1, cel [u0, u1, v0, v1]), (J 2, cel [0, 0])] ++ _) ∧ _) := wB H0 hM hl [0, 1, 2]
 have o1_0 := vB H0 hM hl 0
 have o1_1 := vB H0 hM hl 1
 have o1_2 := vB H0 hM hl 2
 clear hM hl l
 generalize J 0 = J1_0 at H1 o1_0 ⊢
 generalize J 1 = J1_1 at H1 o1_1 ⊢
 generalize J 2 = J1_2 at H1 o1_2 ⊢
 clear J
 refine rN (wp_seq ?_)
 refine zS 9 [.q (.agg #[PT g 0]), .q (PT J1_1 0), .q (V [u0, u1]), .call (N r0), .q (.agg #[PT g 0]), .q (PT J1_1 12), .q (V [v0, v1]), .call (N r1), .q (V [r0, r1])] H1 ?ho2 ?he2
 case ho2 => exact aq (fun w' h => ex_loadF h 0 rfl rfl rfl rfl) (ag (bA 0 2 1 Ai179 As179 (ac (fun w' h => eC call147 (C0.out w' (h.one 3 rfl))) (aq (fun w' h => ex_loadF h 0 rfl rfl rfl rfl) (ag (bA 2 2 1 Ai179 As179 (ac (fun w' h => eC call147 (C1.out w' (h.one 3 rfl))) (ak (fun J => ⟨rfl, fun w' _ => ex_buildE2 rfl rfl rfl⟩) trivial))))))))
 intro _ w2 H2
 clear H1
 refine zH (l := [9]) rfl ?_
 refine sF 2 [r0, r1] [_, _, _, _] H2 o1_2 As33 fun w3 H3 => ?_
 clear H2
 refine zE (zA (wp_ret ?_))
 repeat (first | refine zJ ?_ | refine zI ?_)
 have hf0 := cel_var (k := 2) H3.out.1 2 rfl Ai33 As33 rfl
 refine bodyPost_ret (v := V [r0, r1]) (by simp [results, Tryz.results138, asAddr, hf0]) rfl ?_
 exact ⟨rfl, H3.out.2⟩
set_option maxHeartbeats 1000000 in
theorem mul2_gen (g n o s a0 a1 b0 b1 u0 u1 v0 v1 r0 r1 : Nat)
  (c0 : ∀ w, Calls Tryz.prog 139 #[V [a0, a1], V [b0, b1]] w (Rt w (V [u0, u1, v0, v1])))
  (c1 : ∀ w, Mm w [(g, zN n o s)] → Calls Tryz.prog 138 #[.agg #[PT g 0], V [u0, u1, v0, v1]] w (Rt w (V [r0, r1]))) (w : World) (hm : Mm w [(g, zN n o s)]) :
  Calls Tryz.prog 114 #[.agg #[PT g 0], V [a0, a1], V [b0, b1]] w (Rt w (V [r0, r1])) := by
 have H0 : Hid (_ ∧ _) := ⟨hm, Below.refl w.heap.size w⟩
 clear hm
 have C0 : Hid _ := c0
 have C1 : Hid _ := c1
 clear c0 c1
 go_enter Tryz.func114, Tryz.ntmps114
 refine wp_seq ?_
 refine zC 4 [.made [PT g 0] 156, .made (cel [a0, a1]) 33, .made (cel [b0, b1]) 33, .made (cel [0, 0]) 33] (sB H0) ?ho1 ?he1
 case ho1 => exact am (ex_boxF rfl rfl) (am (ex_boxA rfl rfl) (am (ex_boxA rfl rfl) (am (ex_madeE2 rfl) trivial)))
 intro J w1 l hM hl
 have H1 : Hid (Mm w1 ([(J 0, [PT g 0]), (J 1, cel [a0, a1]), (J 2, cel [b0, b1]), (J 3, cel [0, 0])] ++ _) ∧ _) := wB H0 hM hl [0, 1, 2, 3]
 have o1_0 := vB H0 hM hl 0
 have o1_1 := vB H0 hM hl 1
 have o1_2 := vB H0 hM hl 2
 have o1_3 := vB H0 hM hl 3
 clear hM hl l
 generalize J 0 = J1_0 at H1 o1_0 ⊢
 generalize J 1 = J1_1 at H1 o1_1 ⊢
 generalize J 2 = J1_2 at H1 o1_2 ⊢
 generalize J 3 = J1_3 at H1 o1_3 ⊢
 clear J
 refine rN (wp_seq ?_)
 refine zS 5 [.q (.agg #[PT g 0]), .q (V [a0, a1]), .q (V [b0, b1]), .call (V [u0, u1, v0, v1]), .call (V [r0, r1])] H1 ?ho2 ?he2
 case ho2 => exact aq (fun w' h => ex_loadF h 0 rfl rfl rfl rfl) (bA 0 2 1 Ai33 As33 (bA 0 2 2 Ai33 As33 (ac (fun w' h => eC call139 (C0.out w')) (ac (fun w' h => eC call138 (C1.out w' (h.one 4 rfl))) trivial))))
 intro _ w2 H2
 clear H1
 refine zH (l := [5]) rfl ?_
 refine sF 3 [r0, r1] [_, _, _, _, _] H2 o1_3 As33 fun w3 H3 => ?_
 clear H2
 refine zE (zA (wp_ret ?_))
 repeat (first | refine zJ ?_ | refine zI ?_)
 have hf0 := cel_var (k := 2) H3.out.1 3 rfl Ai33 As33 rfl
 refine bodyPost_ret (v := V [r0, r1]) (by simp [results, Tryz.results114, asAddr, hf0]) rfl ?_
 exact ⟨rfl, H3.out.2⟩
set_option maxHeartbeats 1000000 in
theorem left2_gen (a0 a1 r0 r1 : Nat)
  (c0 : ∀ w, Calls Tryz.prog 136 #[N a0] w (Rt w (N r0)))
  (c1 : ∀ w, Calls Tryz.prog 136 #[N a1] w (Rt w (N r1))) (w : World) :
  Calls Tryz.prog 110 #[V [a0, a1]] w (Rt w (V [r0, r1])) := by
 have H0 : Hid (_ ∧ _) := ⟨Mm.nil w, Below.refl w.heap.size w⟩
 have C0 : Hid _ := c0
 have C1 : Hid _ := c1
 clear c0 c1
 go_enter Tryz.func110, Tryz.ntmps110
 refine wp_seq ?_
 refine zC 2 [.made (cel [a0, a1]) 33, .made (cel [0, 0]) 33] (sB H0) ?ho1 ?he1
 case ho1 => exact am (ex_boxA rfl rfl) (am (ex_madeE2 rfl) trivial)
 intro J w1 l hM hl
 have H1 : Hid (Mm w1 [(J 0, cel [a0, a1]), (J 1, cel [0, 0])] ∧ _) := wB H0 hM hl [0, 1]
 have o1_0 := vB H0 hM hl 0
 have o1_1 := vB H0 hM hl 1
 clear hM hl l
 generalize J 0 = J1_0 at H1 o1_0 ⊢
 generalize J 1 = J1_1 at H1 o1_1 ⊢
 clear J
 refine rN (wp_seq ?_)
 refine zS 7 [.q (PT J1_0 0), .q (N a0), .call (N r0), .q (PT J1_0 6), .q (N a1), .call (N r1), .q (V [r0, r1])] H1 ?ho2 ?he2
 case ho2 => exact ag (aq (fun w' h => zO (i := 0) h 0 rfl rfl rfl rfl) (ac (fun w' h => eC call136 (C0.out w')) (ag (aq (fun w' h => zO (i := 1) h 0 rfl rfl rfl rfl) (ac (fun w' h => eC call136 (C1.out w')) (ak (fun J => ⟨rfl, fun w' _ => ex_buildE2 rfl rfl rfl⟩) trivial))))))
 intro _ w2 H2
 clear H1
 refine zH (l := [7]) rfl ?_
 refine sF 1 [r0, r1] [_, _] H2 o1_1 As33 fun w3 H3 => ?_
 clear H2
 refine zE (zA (wp_ret ?_))
 repeat (first | refine zJ ?_ | refine zI ?_)
 have hf0 := cel_var (k := 2) H3.out.1 1 rfl Ai33 As33 rfl
 refine bodyPost_ret (v := V [r0, r1]) (by simp [results, Tryz.results110, asAddr, hf0]) rfl ?_
 exact ⟨rfl, H3.out.2⟩
set_option maxHeartbeats 1000000 in
theorem add2_gen (a0 a1 b0 b1 m0 m1 q0 q1 r0 r1 : Nat)
  (c0 : ∀ w, Calls Tryz.prog 110 #[V [a0, a1]] w (Rt w (V [m0, m1])))
  (c1 : ∀ w, Calls Tryz.prog 110 #[V [b0, b1]] w (Rt w (V [q0, q1])))
  (c2 : ∀ w, Calls Tryz.prog 111 #[N m0, N q0] w (Rt w (N r0)))
  (c3 : ∀ w, Calls Tryz.prog 111 #[N m1, N q1] w (Rt w (N r1))) (w : World) :
  Calls Tryz.prog 77 #[V [a0, a1], V [b0, b1]] w (Rt w (V [r0, r1])) := by
 have H0 : Hid (_ ∧ _) := ⟨Mm.nil w, Below.refl w.heap.size w⟩
 have C0 : Hid _ := c0
 have C1 : Hid _ := c1
 have C2 : Hid _ := c2
 have C3 : Hid _ := c3
 clear c0 c1 c2 c3
 go_enter Tryz.func77, Tryz.ntmps77
 refine wp_seq ?_
 refine zC 3 [.made (cel [a0, a1]) 33, .made (cel [b0, b1]) 33, .made (cel [0, 0]) 33] (sB H0) ?ho1 ?he1
 case ho1 => exact am (ex_boxA rfl rfl) (am (ex_boxA rfl rfl) (am (ex_madeE2 rfl) trivial))
 intro J w1 l hM hl
 have H1 : Hid (Mm w1 [(J 0, cel [a0, a1]), (J 1, cel [b0, b1]), (J 2, cel [0, 0])] ∧ _) := wB H0 hM hl [0, 1, 2]
 have o1_0 := vB H0 hM hl 0
 have o1_1 := vB H0 hM hl 1
 have o1_2 := vB H0 hM hl 2
 clear hM hl l
 generalize J 0 = J1_0 at H1 o1_0 ⊢
 generalize J 1 = J1_1 at H1 o1_1 ⊢
 generalize J 2 = J1_2 at H1 o1_2 ⊢
 clear J
 refine rN (wp_seq ?_)
 refine walk_put (by kernel_rfl) 4 [] [.q (V [a0, a1]), .call (V [m0, m1]), .q (V [b0, b1]), .call (V [q0, q1])] _ ?pre2 ?F2 _ ?hpre2 (fun J => ?hF2) (by kernel_rfl) rfl trivial (sB H1) ?ho2 ?hla2 ?he2
 case hpre2 => simp only [tk, tz]; rfl
 case hF2 => simp only [zZ, Kind.val, Act.put, sa, sz, ss]; rfl
 case ho2 =>
  refine bA 0 2 0 Ai33 As33 ?_
  refine ak (fun J => ⟨rfl, fun w' h => eC call110 (C0.out w')⟩) ?_
  refine bA 0 2 1 Ai33 As33 ?_
  refine ak (fun J => ⟨rfl, fun w' h => eC call110 (C1.out w')⟩) ?_
  exact trivial
 case hla2 => exact trivial
 intro J w2 l hM hl
 have H2 := keepB H1 hM.below
 clear hM hl l H1 J
 refine ⟨_, ex_storeA (i := 0) (ms := [m0, m1]) H2.out.1 0 rfl rfl rfl rfl As33 (Nat.le_of_ble_eq_true rfl), ?_⟩
 have H3 : Hid (Mm (w2.setCells J1_0 (6 * 0) (cel [m0, m1])) [(J1_0, cel [m0, m1]), (J1_1, cel [b0, b1]), (J1_2, cel [0, 0])] ∧ Below w.heap.size w (w2.setCells J1_0 (6 * 0) (cel [m0, m1]))) := ⟨by
  have h := H2.out.1.put 0 (off := 6 * 0) (vs := cel [m0, m1]) rfl (by simp only [cel_len]; exact Nat.le_of_ble_eq_true rfl)
  rw [cel_patch] at h
  exact h, zV _ o1_0.out _ _ _ H2.out.2⟩
 clear H2
 generalize hgw : World.setCells _ _ _ _ = w3 at H3 ⊢
 clear hgw
 refine zH (l := [5]) rfl ?_
 refine sF 1 [q0, q1] [_, _, _] H3 o1_1 As33 fun w4 H4 => ?_
 clear H3
 refine zE (zA (wp_seq ?_))
 refine zS 11 [.q (PT J1_0 0), .q (N m0), .q (PT J1_1 0), .q (N q0), .call (N r0), .q (PT J1_0 6), .q (N m1), .q (PT J1_1 6), .q (N q1), .call (N r1), .q (V [r0, r1])] H4 ?ho3 ?he3
 case ho3 => exact ag (aq (fun w' h => zO (i := 0) h 0 rfl rfl rfl rfl) (ag (aq (fun w' h => zO (i := 0) h 1 rfl rfl rfl rfl) (ac (fun w' h => eC call111 (C2.out w')) (ag (aq (fun w' h => zO (i := 1) h 0 rfl rfl rfl rfl) (ag (aq (fun w' h => zO (i := 1) h 1 rfl rfl rfl rfl) (ac (fun w' h => eC call111 (C3.out w')) (ak (fun J => ⟨rfl, fun w' _ => ex_buildE2 rfl rfl rfl⟩) trivial))))))))))
 intro _ w5 H5
 clear H4
 refine zH (l := [11]) rfl ?_
 refine sF 2 [r0, r1] [_, _, _] H5 o1_2 As33 fun w6 H6 => ?_
 clear H5
 refine zE (zA (wp_ret ?_))
 repeat (first | refine zJ ?_ | refine zI ?_)
 have hf0 := cel_var (k := 2) H6.out.1 2 rfl Ai33 As33 rfl
 refine bodyPost_ret (v := V [r0, r1]) (by simp [results, Tryz.results77, asAddr, hf0]) rfl ?_
 exact ⟨rfl, H6.out.2⟩
set_option maxHeartbeats 1000000 in
theorem sub2_gen (a0 a1 b0 b1 m0 m1 q0 q1 r0 r1 : Nat)
  (c0 : ∀ w, Calls Tryz.prog 110 #[V [a0, a1]] w (Rt w (V [m0, m1])))
  (c1 : ∀ w, Calls Tryz.prog 110 #[V [b0, b1]] w (Rt w (V [q0, q1])))
  (c2 : ∀ w, Calls Tryz.prog 112 #[N m0, N q0] w (Rt w (N r0)))
  (c3 : ∀ w, Calls Tryz.prog 112 #[N m1, N q1] w (Rt w (N r1))) (w : World) :
  Calls Tryz.prog 78 #[V [a0, a1], V [b0, b1]] w (Rt w (V [r0, r1])) := by
 have H0 : Hid (_ ∧ _) := ⟨Mm.nil w, Below.refl w.heap.size w⟩
 have C0 : Hid _ := c0
 have C1 : Hid _ := c1
 have C2 : Hid _ := c2
 have C3 : Hid _ := c3
 clear c0 c1 c2 c3
 go_enter Tryz.func78, Tryz.ntmps78
 refine wp_seq ?_
 refine zC 3 [.made (cel [a0, a1]) 33, .made (cel [b0, b1]) 33, .made (cel [0, 0]) 33] (sB H0) ?ho1 ?he1
 case ho1 => exact am (ex_boxA rfl rfl) (am (ex_boxA rfl rfl) (am (ex_madeE2 rfl) trivial))
 intro J w1 l hM hl
 have H1 : Hid (Mm w1 [(J 0, cel [a0, a1]), (J 1, cel [b0, b1]), (J 2, cel [0, 0])] ∧ _) := wB H0 hM hl [0, 1, 2]
 have o1_0 := vB H0 hM hl 0
 have o1_1 := vB H0 hM hl 1
 have o1_2 := vB H0 hM hl 2
 clear hM hl l
 generalize J 0 = J1_0 at H1 o1_0 ⊢
 generalize J 1 = J1_1 at H1 o1_1 ⊢
 generalize J 2 = J1_2 at H1 o1_2 ⊢
 clear J
 refine rN (wp_seq ?_)
 refine walk_put (by kernel_rfl) 4 [] [.q (V [a0, a1]), .call (V [m0, m1]), .q (V [b0, b1]), .call (V [q0, q1])] _ ?pre2 ?F2 _ ?hpre2 (fun J => ?hF2) (by kernel_rfl) rfl trivial (sB H1) ?ho2 ?hla2 ?he2
 case hpre2 => simp only [tk, tz]; rfl
 case hF2 => simp only [zZ, Kind.val, Act.put, sa, sz, ss]; rfl
 case ho2 =>
  refine bA 0 2 0 Ai33 As33 ?_
  refine ak (fun J => ⟨rfl, fun w' h => eC call110 (C0.out w')⟩) ?_
  refine bA 0 2 1 Ai33 As33 ?_
  refine ak (fun J => ⟨rfl, fun w' h => eC call110 (C1.out w')⟩) ?_
  exact trivial
 case hla2 => exact trivial
 intro J w2 l hM hl
 have H2 := keepB H1 hM.below
 clear hM hl l H1 J
 refine ⟨_, ex_storeA (i := 0) (ms := [m0, m1]) H2.out.1 0 rfl rfl rfl rfl As33 (Nat.le_of_ble_eq_true rfl), ?_⟩
 have H3 : Hid (Mm (w2.setCells J1_0 (6 * 0) (cel [m0, m1])) [(J1_0, cel [m0, m1]), (J1_1, cel [b0, b1]), (J1_2, cel [0, 0])] ∧ Below w.heap.size w (w2.setCells J1_0 (6 * 0) (cel [m0, m1]))) := ⟨by
  have h := H2.out.1.put 0 (off := 6 * 0) (vs := cel [m0, m1]) rfl (by simp only [cel_len]; exact Nat.le_of_ble_eq_true rfl)
  rw [cel_patch] at h
  exact h, zV _ o1_0.out _ _ _ H2.out.2⟩
 clear H2
 generalize hgw : World.setCells _ _ _ _ = w3 at H3 ⊢
 clear hgw
 refine zH (l := [5]) rfl ?_
 refine sF 1 [q0, q1] [_, _, _] H3 o1_1 As33 fun w4 H4 => ?_
 clear H3
 refine zE (zA (wp_seq ?_))
 refine zS 11 [.q (PT J1_0 0), .q (N m0), .q (PT J1_1 0), .q (N q0), .call (N r0), .q (PT J1_0 6), .q (N m1), .q (PT J1_1 6), .q (N q1), .call (N r1), .q (V [r0, r1])] H4 ?ho3 ?he3
 case ho3 => exact ag (aq (fun w' h => zO (i := 0) h 0 rfl rfl rfl rfl) (ag (aq (fun w' h => zO (i := 0) h 1 rfl rfl rfl rfl) (ac (fun w' h => eC call112 (C2.out w')) (ag (aq (fun w' h => zO (i := 1) h 0 rfl rfl rfl rfl) (ag (aq (fun w' h => zO (i := 1) h 1 rfl rfl rfl rfl) (ac (fun w' h => eC call112 (C3.out w')) (ak (fun J => ⟨rfl, fun w' _ => ex_buildE2 rfl rfl rfl⟩) trivial))))))))))
 intro _ w5 H5
 clear H4
 refine zH (l := [11]) rfl ?_
 refine sF 2 [r0, r1] [_, _, _] H5 o1_2 As33 fun w6 H6 => ?_
 clear H5
 refine zE (zA (wp_ret ?_))
 repeat (first | refine zJ ?_ | refine zI ?_)
 have hf0 := cel_var (k := 2) H6.out.1 2 rfl Ai33 As33 rfl
 refine bodyPost_ret (v := V [r0, r1]) (by simp [results, Tryz.results78, asAddr, hf0]) rfl ?_
 exact ⟨rfl, H6.out.2⟩
set_option maxHeartbeats 1000000 in
theorem negated_gen (a r : Nat)
  (c0 : ∀ w, Calls Tryz.prog 112 #[N 0, N a] w (Rt w (N r))) (w : World) :
  Calls Tryz.prog 116 #[N a] w (Rt w (N r)) := by
 have H0 : Hid (_ ∧ _) := ⟨Mm.nil w, Below.refl w.heap.size w⟩
 have C0 : Hid _ := c0
 clear c0
 go_enter Tryz.func116, Tryz.ntmps116
 refine wp_seq ?_
 refine zC 2 [.made (zB a) 24, .made zero6 24] (sB H0) ?ho1 ?he1
 case ho1 => exact am (zU rfl rfl) (am (zG rfl) trivial)
 intro J w1 l hM hl
 have H1 : Hid (Mm w1 [(J 0, zB a), (J 1, zero6)] ∧ _) := wB H0 hM hl [0, 1]
 have o1_0 := vB H0 hM hl 0
 have o1_1 := vB H0 hM hl 1
 clear hM hl l
 generalize J 0 = J1_0 at H1 o1_0 ⊢
 generalize J 1 = J1_1 at H1 o1_1 ⊢
 clear J
 refine rN (wp_seq ?_)
 refine zD 3 [.q (N 0), .q (N a), .call (N r)] H1 ?ho2 ?he2
 case ho2 => exact ak (by refine fun J => ⟨rfl, fun w' h => ?_⟩; clear h; exact ex_zero6 rfl) (bN 0 (ac (fun w' h => eC call112 (C0.out w')) trivial))
 intro _ w2 H2
 clear H1
 refine zH (l := [3]) rfl ?_
 refine sG rfl (fun h => zL h 1 rfl rfl rfl rfl (Nat.le_of_ble_eq_true rfl)) 1 [_, (_, zB r)] H2 o1_1 fun w3 H3 => ?_
 clear H2
 refine zE (zA (wp_ret ?_))
 repeat (first | refine zJ ?_ | refine zI ?_)
 have c0 := H3.out.1.get 1 rfl 0 rfl
 have c1 := H3.out.1.get 1 rfl 1 rfl
 have c2 := H3.out.1.get 1 rfl 2 rfl
 have c3 := H3.out.1.get 1 rfl 3 rfl
 have c4 := H3.out.1.get 1 rfl 4 rfl
 have c5 := H3.out.1.get 1 rfl 5 rfl
 refine bodyPost_ret (v := N r) (by simp [results, Tryz.results116, go_sem, *]) rfl ?_
 exact ⟨rfl, H3.out.2⟩
set_option maxHeartbeats 1000000 in
theorem mulT_gen (n a0 a1 b0 b1 m0 m1 q0 q1 r0 r1 : Nat)
  (c0 : ∀ w, Calls Tryz.prog 113 #[] w fun e w' => Below w.heap.size w w' ∧ ∃ g, e = .returned (.agg #[PT g 0]) ∧ w.heap.size ≤ g ∧ g < w'.heap.size ∧ Blk w' g (zT n))
  (c1 : ∀ w, Calls Tryz.prog 110 #[V [a0, a1]] w (Rt w (V [m0, m1])))
  (c2 : ∀ w, Calls Tryz.prog 110 #[V [b0, b1]] w (Rt w (V [q0, q1])))
  (c3 : ∀ g w, Mm w [(g, zT n)] → Calls Tryz.prog 114 #[.agg #[PT g 0], V [m0, m1], V [q0, q1]] w (Rt w (V [r0, r1]))) (w : World) :
  Calls Tryz.prog 79 #[V [a0, a1], V [b0, b1]] w (Rt w (V [r0, r1])) := by
 have H0 : Hid (_ ∧ _) := ⟨Mm.nil w, Below.refl w.heap.size w⟩
 have C0 : Hid _ := c0
 have C1 : Hid _ := c1
 have C2 : Hid _ := c2
 have C3 : Hid _ := c3
 clear c0 c1 c2 c3
 go_enter Tryz.func79, Tryz.ntmps79
 refine wp_seq ?_
 refine zC 3 [.made (cel [a0, a1]) 33, .made (cel [b0, b1]) 33, .made (cel [0, 0]) 33] (sB H0) ?ho1 ?he1
 case ho1 => exact am (ex_boxA rfl rfl) (am (ex_boxA rfl rfl) (am (ex_madeE2 rfl) trivial))
 intro J w1 l hM hl
 have H1 : Hid (Mm w1 [(J 0, cel [a0, a1]), (J 1, cel [b0, b1]), (J 2, cel [0, 0])] ∧ _) := wB H0 hM hl [0, 1, 2]
 have o1_0 := vB H0 hM hl 0
 have o1_1 := vB H0 hM hl 1
 have o1_2 := vB H0 hM hl 2
 clear hM hl l
 generalize J 0 = J1_0 at H1 o1_0 ⊢
 generalize J 1 = J1_1 at H1 o1_1 ⊢
 generalize J 2 = J1_2 at H1 o1_2 ⊢
 clear J
 refine rN (wp_seq ?_)
 refine zP 6 [.born (fun g => .agg #[PT g 0]) (zT n), .q (V [a0, a1]), .call (V [m0, m1]), .q (V [b0, b1]), .call (V [q0, q1]), .over (V [r0, r1]) 0 (zT n)] (sB H1) ?ho2 ?he2 (hL := ?hL2)
 case hL2 => exact ⟨⟨_, rfl⟩, trivial⟩
 case ho2 => exact ak (fun J => ⟨rfl, fun w' h => eC call113 (C0.out w')⟩) (bA 0 2 0 Ai33 As33 (ak (fun J => ⟨rfl, fun w' h => eC call110 (C1.out w')⟩) (bA 0 2 1 Ai33 As33 (ak (fun J => ⟨rfl, fun w' h => eC call110 (C2.out w')⟩) (ak (fun J => ⟨rfl, fun u w' h0 hge h1 hb hlt => by have h := Mm.over h0 hge h1 hb hlt; exact eC call114 (C3.out _ w' (h.one 0 rfl))⟩) trivial)))))
 intro J w2 l hM hl
 have H2 : Hid (Mm w2 ([(J 0, zT n)] ++ _) ∧ _) := wB H1 hM hl [0]
 have o2_0 := vB H1 hM hl 0
 clear hM hl l H1
 generalize J 0 = J2_0 at H2 o2_0 ⊢
 clear J
 refine zH (l := [6]) rfl ?_
 refine sF 3 [r0, r1] [_, _, _, _] H2 o1_2 As33 fun w3 H3 => ?_
 clear H2
 refine zE (zA (wp_ret ?_))
 repeat (first | refine zJ ?_ | refine zI ?_)
 have hf0 := cel_var (k := 2) H3.out.1 3 rfl Ai33 As33 rfl
 refine bodyPost_ret (v := V [r0, r1]) (by simp [results, Tryz.results79, asAddr, hf0]) rfl ?_
 exact ⟨rfl, H3.out.2⟩
/-! Numbers by p stand for integers. -/
def pz (z : Int) : Nat := (z % (pB : Int)).toNat
theorem pBI : (0 : Int) < (pB : Int) := by have := pB_ok.pos; omega
theorem pz_cast (z : Int) : ((pz z : Nat) : Int) = z % (pB : Int) := Int.toNat_of_nonneg (Int.emod_nonneg _ (by have := pBI; omega))
theorem pz_lt (z : Int) : pz z < pB := by
 have h := pz_cast z
 have h2 := Int.emod_lt_of_pos z pBI
 omega
theorem pz_congr {x y : Int} (h : x % (pB : Int) = y % (pB : Int)) : pz x = pz y := by unfold pz; rw [h]
theorem pz_nat (n : Nat) : pz (n : Int) = n % pB := by
 have h := pz_cast (n : Int)
 rw [← Int.natCast_emod] at h
 omega
theorem pz_add (x y : Int) : pz ((pz x : Int) + (pz y : Int)) = pz (x + y) := pz_congr (by rw [pz_cast, pz_cast, ← Int.add_emod])
theorem pz_mul (x y : Int) : pz ((pz x : Int) * (pz y : Int)) = pz (x * y) := pz_congr (by rw [pz_cast, pz_cast, ← Int.mul_emod])
theorem pz_sub (x y : Int) : pz ((pz x : Int) - (pz y : Int)) = pz (x - y) := pz_congr (by rw [pz_cast, pz_cast, ← Int.sub_emod])
theorem pz_addmul (a b c d : Int) : pz ((pz a : Int) * (pz b : Int) + (pz c : Int) * (pz d : Int)) = pz (a * b + c * d) := by
 rw [← pz_add, pz_mul, pz_mul, pz_add]
theorem pz_submul (a b c d : Int) : pz ((pz a : Int) * (pz b : Int) - (pz c : Int) * (pz d : Int)) = pz (a * b - c * d) := by
 rw [← pz_sub, pz_mul, pz_mul, pz_sub]
theorem subm_pz (x y : Int) : subm pB (pz x) (pz y) = pz (x - y) := by
 have hy := pz_lt y
 rw [← pz_sub]
 unfold subm
 rw [Nat.mod_eq_of_lt hy, ← pz_nat]
 refine pz_congr ?_
 rw [show ((pz x + (pB - pz y) : Nat) : Int) = (pz x : Int) - (pz y : Int) + (pB : Int) by omega, Int.add_emod_right]
theorem nine_p : 9 * pB < big := by decide +kernel
theorem great_any (w : World) : Calls Tryz.prog 113 #[] w fun e w' => Below w.heap.size w w' ∧ ∃ g, e = .returned (.agg #[PT g 0]) ∧ w.heap.size ≤ g ∧ g < w'.heap.size ∧ Blk w' g (zT pB) :=
 great_gen pB base_pB (fun w => new_ok pB_ok w) w
/-- What rest takes: within twelve products. -/
def Wi (z : Int) : Prop := -(12 * ((pB : Int) * pB)) ≤ z ∧ z ≤ 12 * ((pB : Int) * pB)
theorem rest_num (z : Int) (h : Wi z) : (lo z + (hi z + 2 * pB) % big * big) % pB = pz z := by
 have hpos := pB_ok.pos
 have h9 := nine_p
 obtain ⟨h1, h2⟩ := h
 unfold pz
 generalize pB = p at *
 have e1 : wz z % big + (wz z / big + 2 * p) % big * big = (wz z + 2 * p * big) % bb := by
  unfold bb
  rw [Nat.mod_mul, Nat.add_mul_mod_self_right, Nat.add_mul_div_right _ _ big_pos, Nat.mul_comm big]
 have e2 : (((wz z + 2 * p * big) % bb : Nat) : Int) = z + 2 * p * big := by
  rw [Int.natCast_emod, Int.natCast_add, wz_cast, Int.natCast_mul, Int.natCast_mul, Int.emod_add_emod]
  refine Int.emod_eq_of_lt ?_ ?_
  ·have h3 : 6 * (p * p) ≤ p * big := by
    have : p * (6 * p) ≤ p * big := Nat.mul_le_mul (Nat.le_refl p) (by omega)
    rw [Nat.mul_left_comm] at this; exact this
   have h4 : 6 * ((p : Int) * p) ≤ (p : Int) * big := by
    have := Int.ofNat_le.2 h3
    simpa using this
   have h5 : ((2 : Nat) : Int) * (p : Int) * (big : Int) = 2 * ((p : Int) * big) := by rw [Int.mul_assoc]; rfl
   omega
  ·have h3 : 6 * (p * p) ≤ p * big := by
    have : p * (6 * p) ≤ p * big := Nat.mul_le_mul (Nat.le_refl p) (by omega)
    rw [Nat.mul_left_comm] at this; exact this
   have h4 : 6 * ((p : Int) * p) ≤ (p : Int) * big := by
    have := Int.ofNat_le.2 h3
    simpa using this
   have h6 : 4 * (p * big) < bb := by
    unfold bb
    rw [← Nat.mul_assoc]
    exact Nat.mul_lt_mul_of_pos_right (by omega) big_pos
   have h7 : 4 * ((p : Int) * big) < (bb : Int) := by
    have := Int.ofNat_lt.2 h6
    simpa using this
   have h5 : ((2 : Nat) : Int) * (p : Int) * (big : Int) = 2 * ((p : Int) * big) := by rw [Int.mul_assoc]; rfl
   omega
 have e3 : (((lo z + (hi z + 2 * p) % big * big) % p : Nat) : Int) = z % (p : Int) := by
  rw [e1, Int.natCast_emod, e2, show z + 2 * (p : Int) * big = z + (p : Int) * (2 * big) by rw [Int.mul_comm 2 (p : Int), Int.mul_assoc], Int.add_mul_emod_self_left]
 omega
theorem restF_any {g : Nat} (z : Int) (h : Wi z) (w : World) (hm : Mm w [(g, zT pB)]) : Calls Tryz.prog 147 #[.agg #[PT g 0], V [lo z, hi z]] w (Rt w (N (pz z))) := by
 have ok := pB_ok
 have h9 := nine_p
 have hr := rest_num z h
 have hlo : lo z < big := Nat.mod_lt _ big_pos
 have hhi : hi z < big := by
  have := wz_lt z
  unfold bb at this
  exact Nat.div_lt_of_lt_mul this
 have c1 := fun w hm => n_any (g := g) ok w hm
 have c2 := fun w => shift_up pB 1 (by decide) w
 have e2 : pB * 2 ^ 1 % big = 2 * pB := by rw [Nat.pow_one, Nat.mul_comm, Nat.mod_eq_of_lt (by omega)]
 rw [e2] at c2
 have c3 := fun w => add_any (hi z) (2 * pB) hhi (by omega) w
 have c4 := fun w hm => wide_any (g := g) ok hlo (Nat.mod_lt (hi z + 2 * pB) big_pos) w hm
 rw [hr] at c4
 exact rest_gen g pB _ _ (lo z) (hi z) _ _ _ _ c1 c2 c3 c4 w hm
theorem times2_any (a0 a1 b0 b1 : Nat) (ha : a0 + a1 < big) (hb : b0 + b1 < big) (w : World) : Calls Tryz.prog 139 #[V [a0, a1], V [b0, b1]] w (Rt w (V [lo ((a0 : Int) * b0 - (a1 : Int) * b1), hi ((a0 : Int) * b0 - (a1 : Int) * b1), lo ((a0 : Int) * b1 + (a1 : Int) * b0), hi ((a0 : Int) * b1 + (a1 : Int) * b0)])) := by
 have c8 := fun w => lessZ_any (((a0 + a1 : Nat) : Int) * ((b0 + b1 : Nat) : Int) - (a0 : Int) * b0) ((a1 : Int) * b1) w
 have e : ((a0 + a1 : Nat) : Int) * ((b0 + b1 : Nat) : Int) - (a0 : Int) * b0 - (a1 : Int) * b1 = (a0 : Int) * b1 + (a1 : Int) * b0 := by
  rw [Int.natCast_add, Int.natCast_add]
  grind
 rw [e] at c8
 exact times2_gen a0 a1 b0 b1 (a0 + a1) (b0 + b1) _ _ _ _ _ _ _ _ _ _ _ _ (fun w => timesZ_any a0 b0 (by omega) (by omega) w) (fun w => timesZ_any a1 b1 (by omega) (by omega) w) (fun w => together_any a0 a1 ha w) (fun w => together_any b0 b1 hb w) (fun w => timesZ_any (a0 + a1) (b0 + b1) ha hb w) (fun w => lessZ_any _ _ w) (fun w => lessZ_any _ _ w) c8 w
theorem mulF_any {g : Nat} (a0 a1 b0 b1 : Int) (w : World) (hm : Mm w [(g, zT pB)]) : Calls Tryz.prog 114 #[.agg #[PT g 0], V [pz a0, pz a1], V [pz b0, pz b1]] w (Rt w (V [pz (a0 * b0 - a1 * b1), pz (a0 * b1 + a1 * b0)])) := by
 have h9 := nine_p
 have la0 := pz_lt a0
 have la1 := pz_lt a1
 have lb0 := pz_lt b0
 have lb1 := pz_lt b1
 have hp : ∀ x y : Int, 0 ≤ (pz x : Int) * (pz y : Int) ∧ (pz x : Int) * (pz y : Int) ≤ (pB : Int) * pB := fun x y => by
  have h := Nat.mul_le_mul (Nat.le_of_lt (pz_lt x)) (Nat.le_of_lt (pz_lt y))
  rw [← Int.natCast_mul, ← Int.natCast_mul]
  omega
 have w0 : Wi ((pz a0 : Int) * pz b0 - (pz a1 : Int) * pz b1) := by have := hp a0 b0; have := hp a1 b1; unfold Wi; omega
 have w1 : Wi ((pz a0 : Int) * pz b1 + (pz a1 : Int) * pz b0) := by have := hp a0 b1; have := hp a1 b0; unfold Wi; omega
 have c2 := fun w hm => rest2_gen g pB (big % pB) (big * big % pB) _ _ _ _ _ _ (fun w hm => restF_any (g := g) _ w0 w hm) (fun w hm => restF_any (g := g) _ w1 w hm) w hm
 rw [pz_submul, pz_addmul] at c2
 exact mul2_gen g pB _ _ (pz a0) (pz a1) (pz b0) (pz b1) _ _ _ _ _ _ (fun w => times2_any (pz a0) (pz a1) (pz b0) (pz b1) (by omega) (by omega) w) c2 w hm
theorem left2_any (a0 a1 : Nat) (h0 : a0 < big) (h1 : a1 < big) (w : World) : Calls Tryz.prog 110 #[V [a0, a1]] w (Rt w (V [pz a0, pz a1])) := by
 rw [pz_nat, pz_nat]
 exact left2_gen a0 a1 _ _ (fun w => left_any a0 h0 w) (fun w => left_any a1 h1 w) w
theorem add2_any (a0 a1 b0 b1 : Nat) (h0 : a0 < big) (h1 : a1 < big) (k0 : b0 < big) (k1 : b1 < big) (w : World) : Calls Tryz.prog 77 #[V [a0, a1], V [b0, b1]] w (Rt w (V [pz ((a0 : Int) + b0), pz ((a1 : Int) + b1)])) := by
 have h9 := nine_p
 have s : ∀ x y : Int, ∀ w, Calls Tryz.prog 111 #[N (pz x), N (pz y)] w (Rt w (N (pz (x + y)))) := fun x y w => by
  have hx := pz_lt x
  have hy := pz_lt y
  have h := sumP_any (pz x) (pz y) (by omega) w
  rw [← pz_nat, Int.natCast_add, pz_add] at h
  exact h
 exact add2_gen a0 a1 b0 b1 _ _ _ _ _ _ (fun w => left2_any a0 a1 h0 h1 w) (fun w => left2_any b0 b1 k0 k1 w) (s _ _) (s _ _) w
theorem diffZ_any (x y : Int) (w : World) : Calls Tryz.prog 112 #[N (pz x), N (pz y)] w (Rt w (N (pz (x - y)))) := by
 have h := diffP_any (pz x) (pz y) (pz_lt x) (pz_lt y) w
 rw [subm_pz] at h
 exact h
theorem sub2_any (a0 a1 b0 b1 : Nat) (h0 : a0 < big) (h1 : a1 < big) (k0 : b0 < big) (k1 : b1 < big) (w : World) : Calls Tryz.prog 78 #[V [a0, a1], V [b0, b1]] w (Rt w (V [pz ((a0 : Int) - b0), pz ((a1 : Int) - b1)])) :=
 sub2_gen a0 a1 b0 b1 _ _ _ _ _ _ (fun w => left2_any a0 a1 h0 h1 w) (fun w => left2_any b0 b1 k0 k1 w) (fun w => diffZ_any _ _ w) (fun w => diffZ_any _ _ w) w
theorem pz_zero : pz 0 = 0 := by unfold pz; rw [Int.zero_emod]; rfl
theorem negated_any (x : Int) (w : World) : Calls Tryz.prog 116 #[N (pz x)] w (Rt w (N (pz (-x)))) := by
 have c := fun w => diffZ_any 0 x w
 rw [pz_zero, Int.zero_sub] at c
 exact negated_gen (pz x) _ c w
theorem mulT_any (a0 a1 b0 b1 : Nat) (h0 : a0 < big) (h1 : a1 < big) (k0 : b0 < big) (k1 : b1 < big) (w : World) : Calls Tryz.prog 79 #[V [a0, a1], V [b0, b1]] w (Rt w (V [pz ((a0 : Int) * b0 - (a1 : Int) * b1), pz ((a0 : Int) * b1 + (a1 : Int) * b0)])) :=
 mulT_gen pB a0 a1 b0 b1 _ _ _ _ _ _ great_any (fun w => left2_any a0 a1 h0 h1 w) (fun w => left2_any b0 b1 k0 k1 w) (fun g w hm => mulF_any (g := g) _ _ _ _ w hm) w
set_option maxHeartbeats 1000000 in
theorem norm_gen (g n o s a0 a1 f0 f1 q0 q1 z0 z1 r : Nat)
  (c0 : ∀ w, Calls Tryz.prog 148 #[N a0, N a0] w (Rt w (V [f0, f1])))
  (c1 : ∀ w, Calls Tryz.prog 148 #[N a1, N a1] w (Rt w (V [q0, q1])))
  (c2 : ∀ w, Calls Tryz.prog 150 #[V [f0, f1], V [q0, q1]] w (Rt w (V [z0, z1])))
  (c3 : ∀ w, Mm w [(g, zN n o s)] → Calls Tryz.prog 147 #[.agg #[PT g 0], V [z0, z1]] w (Rt w (N r))) (w : World) (hm : Mm w [(g, zN n o s)]) :
  Calls Tryz.prog 140 #[.agg #[PT g 0], V [a0, a1]] w (Rt w (N r)) := by
 have H0 : Hid (_ ∧ _) := ⟨hm, Below.refl w.heap.size w⟩
 clear hm
 have C0 : Hid _ := c0
 have C1 : Hid _ := c1
 have C2 : Hid _ := c2
 have C3 : Hid _ := c3
 clear c0 c1 c2 c3
 go_enter Tryz.func140, Tryz.ntmps140
 refine wp_seq ?_
 refine zC 3 [.made [PT g 0] 156, .made (cel [a0, a1]) 33, .made zero6 24] (sB H0) ?ho1 ?he1
 case ho1 => exact am (ex_boxF rfl rfl) (am (ex_boxA rfl rfl) (am (zG rfl) trivial))
 intro J w1 l hM hl
 have H1 : Hid (Mm w1 ([(J 0, [PT g 0]), (J 1, cel [a0, a1]), (J 2, zero6)] ++ _) ∧ _) := wB H0 hM hl [0, 1, 2]
 have o1_0 := vB H0 hM hl 0
 have o1_1 := vB H0 hM hl 1
 have o1_2 := vB H0 hM hl 2
 clear hM hl l
 generalize J 0 = J1_0 at H1 o1_0 ⊢
 generalize J 1 = J1_1 at H1 o1_1 ⊢
 generalize J 2 = J1_2 at H1 o1_2 ⊢
 clear J
 refine rN (wp_seq ?_)
 refine zS 13 [.q (.agg #[PT g 0]), .q (PT J1_1 0), .q (N a0), .q (PT J1_1 0), .q (N a0), .call (V [f0, f1]), .q (PT J1_1 6), .q (N a1), .q (PT J1_1 6), .q (N a1), .call (V [q0, q1]), .call (V [z0, z1]), .call (N r)] H1 ?ho2 ?he2
 case ho2 => exact aq (fun w' h => ex_loadF h 0 rfl rfl rfl rfl) (ag (aq (fun w' h => zO (i := 0) h 1 rfl rfl rfl rfl) (ag (aq (fun w' h => zO (i := 0) h 1 rfl rfl rfl rfl) (ac (fun w' h => eC call148 (C0.out w')) (ag (aq (fun w' h => zO (i := 1) h 1 rfl rfl rfl rfl) (ag (aq (fun w' h => zO (i := 1) h 1 rfl rfl rfl rfl) (ac (fun w' h => eC call148 (C1.out w')) (ac (fun w' h => eC call150 (C2.out w')) (ac (fun w' h => eC call147 (C3.out w' (h.one 3 rfl))) trivial))))))))))))
 intro _ w2 H2
 clear H1
 refine zH (l := [13]) rfl ?_
 refine sG rfl (fun h => zL h 2 rfl rfl rfl rfl (Nat.le_of_ble_eq_true rfl)) 2 [_, _, (_, zB r), _] H2 o1_2 fun w3 H3 => ?_
 clear H2
 refine zE (zA (wp_ret ?_))
 repeat (first | refine zJ ?_ | refine zI ?_)
 have c0 := H3.out.1.get 2 rfl 0 rfl
 have c1 := H3.out.1.get 2 rfl 1 rfl
 have c2 := H3.out.1.get 2 rfl 2 rfl
 have c3 := H3.out.1.get 2 rfl 3 rfl
 have c4 := H3.out.1.get 2 rfl 4 rfl
 have c5 := H3.out.1.get 2 rfl 5 rfl
 refine bodyPost_ret (v := N r) (by simp [results, Tryz.results140, go_sem, *]) rfl ?_
 exact ⟨rfl, H3.out.2⟩
set_option maxHeartbeats 1000000 in
theorem inv2_ok (g n o s a0 a1 q x d r0 r1 : Nat)
  (c0 : ∀ w, Mm w [(g, zN n o s)] → Calls Tryz.prog 140 #[.agg #[PT g 0], V [a0, a1]] w (Rt w (N q)))
  (c1 : ∀ w, Mm w [(g, zN n o s), (2, dtab)] → Calls Tryz.prog 71 #[PT g 0, N q] w (Rt w (.tuple #[N x, .int .i64 0])))
  (c2 : ∀ w, Mm w [(g, zN n o s)] → Calls Tryz.prog 70 #[PT g 0, N a0, N x] w (Rt w (N r0)))
  (c3 : ∀ w, Calls Tryz.prog 116 #[N a1] w (Rt w (N d)))
  (c4 : ∀ w, Mm w [(g, zN n o s)] → Calls Tryz.prog 70 #[PT g 0, N d, N x] w (Rt w (N r1))) (w : World) (hm : Mm w [(g, zN n o s), (2, dtab)]) :
  Calls Tryz.prog 115 #[.agg #[PT g 0], V [a0, a1]] w (Rt w (.tuple #[V [r0, r1], .int .i64 0])) := by
 have H0 : Hid (_ ∧ _) := ⟨hm, Below.refl w.heap.size w⟩
 clear hm
 have C0 : Hid _ := c0
 have C1 : Hid _ := c1
 have C2 : Hid _ := c2
 have C3 : Hid _ := c3
 have C4 : Hid _ := c4
 clear c0 c1 c2 c3 c4
 go_enter Tryz.func115, Tryz.ntmps115
 refine wp_seq ?_
 refine zC 4 [.made [PT g 0] 156, .made (cel [a0, a1]) 33, .made (cel [0, 0]) 33, .q (.int .i64 0)] (sB H0) ?ho1 ?he1
 case ho1 => exact am (ex_boxF rfl rfl) (am (ex_boxA rfl rfl) (am (ex_madeE2 rfl) (ar trivial)))
 intro J w1 l hM hl
 have H1 : Hid (Mm w1 ([(J 0, [PT g 0]), (J 1, cel [a0, a1]), (J 2, cel [0, 0])] ++ _) ∧ _) := wB H0 hM hl [0, 1, 2]
 have o1_0 := vB H0 hM hl 0
 have o1_1 := vB H0 hM hl 1
 have o1_2 := vB H0 hM hl 2
 clear hM hl l
 generalize J 0 = J1_0 at H1 o1_0 ⊢
 generalize J 1 = J1_1 at H1 o1_1 ⊢
 generalize J 2 = J1_2 at H1 o1_2 ⊢
 clear J
 refine rN (wp_seq ?_)
 refine zP 12 [.q (PT J1_0 0), .q (PT g 0), .q (.agg #[PT g 0]), .q (V [a0, a1]), .call (N q), .call (.tuple #[N x, .int .i64 0]), .q (.tuple #[N x, .int .i64 0]), .q (N x), .q (.int .i64 0), .made zero6 24, .laid 9 zero6 (zB x), .q (.int .i64 0)] (sB H1) ?ho2 ?he2 (hL := ?hL2)
 case hL2 => exact ⟨⟨_, rfl⟩, trivial⟩
 case ho2 => exact ag (aq (fun w' h => ex_loadQ h 0 rfl rfl rfl rfl) (aq (fun w' h => ex_loadF h 0 rfl rfl rfl rfl) (bA 0 2 1 Ai33 As33 (ac (fun w' h => eC call140 (C0.out w' (h.one 3 rfl))) (ac (fun w' h => eC call71 (C1.out w' (h.two 3 4 rfl rfl (by decide)))) (ar (ag (ag (am (zG rfl) (ak (fun J => ⟨rfl, rfl, rfl, fun w' h => zK h rfl rfl rfl⟩) (ar trivial)))))))))))
 intro J w2 l hM hl
 have H2 : Hid (Mm w2 ([(J 9, zB x)] ++ _) ∧ _) := wB H1 hM hl [9]
 have o2_9 := vB H1 hM hl 9
 clear hM hl l H1
 generalize J 9 = J2_9 at H2 o2_9 ⊢
 clear J
 refine rN (wp_seq (wp_seq ?_))
 refine zD 2 [.q (.int .i64 0), .q (.bool false)] H2 ?ho3 ?he3
 case ho3 => exact ar (ag trivial)
 intro _ w3 H3
 clear H2
 refine rN (wp_cond_false rfl ?_)
 refine wp_skip (zA (wp_seq ?_))
 refine zS 14 [.q (PT J1_0 0), .q (PT g 0), .q (PT J1_1 0), .q (N a0), .q (N x), .call (N r0), .q (PT J1_0 0), .q (PT g 0), .q (PT J1_1 6), .q (N a1), .call (N d), .q (N x), .call (N r1), .q (V [r0, r1])] H3 ?ho4 ?he4
 case ho4 => exact ag (aq (fun w' h => ex_loadQ h 1 rfl rfl rfl rfl) (ag (aq (fun w' h => zO (i := 0) h 2 rfl rfl rfl rfl) (bN 0 (ac (fun w' h => eC call70 (C2.out w' (h.one 4 rfl))) (ag (aq (fun w' h => ex_loadQ h 1 rfl rfl rfl rfl) (ag (aq (fun w' h => zO (i := 1) h 2 rfl rfl rfl rfl) (ac (fun w' h => eC call116 (C3.out w')) (bN 0 (ac (fun w' h => eC call70 (C4.out w' (h.one 4 rfl))) (ak (fun J => ⟨rfl, fun w' _ => ex_buildE2 rfl rfl rfl⟩) trivial)))))))))))))
 intro _ w4 H4
 clear H3
 refine zH (l := [14, 15]) rfl ?_
 refine sF 3 [r0, r1] [_, _, _, _, _, _] H4 o1_2 As33 fun w5 H5 => ?_
 clear H4
 refine zF (d := 5) rfl rfl rfl rfl ?_
 simp only [Act.put, sa, sz, ss]
 refine zE (zA (wp_ret ?_))
 repeat (first | refine zJ ?_ | refine zI ?_)
 have hf0 := cel_var (k := 2) H5.out.1 3 rfl Ai33 As33 rfl
 refine bodyPost_ret (v := .tuple #[V [r0, r1], .int .i64 0]) (by simp [results, Tryz.results115, asAddr, Act.eval, hf0]) rfl ?_
 exact ⟨rfl, H5.out.2⟩
set_option maxHeartbeats 1000000 in
theorem invT_ok (n a0 a1 m0 m1 r0 r1 : Nat)
  (c0 : ∀ w, Calls Tryz.prog 113 #[] w fun e w' => Below w.heap.size w w' ∧ ∃ g, e = .returned (.agg #[PT g 0]) ∧ w.heap.size ≤ g ∧ g < w'.heap.size ∧ Blk w' g (zT n))
  (c1 : ∀ w, Calls Tryz.prog 110 #[V [a0, a1]] w (Rt w (V [m0, m1])))
  (c2 : ∀ g w, Mm w [(g, zT n), (2, dtab)] → Calls Tryz.prog 115 #[.agg #[PT g 0], V [m0, m1]] w (Rt w (.tuple #[V [r0, r1], .int .i64 0]))) (w : World) (hm : Mm w [(2, dtab)]) :
  Calls Tryz.prog 80 #[V [a0, a1]] w (Rt w (.tuple #[V [r0, r1], .int .i64 0])) := by
 have H0 : Hid (_ ∧ _) := ⟨hm, Below.refl w.heap.size w⟩
 clear hm
 have C0 : Hid _ := c0
 have C1 : Hid _ := c1
 have C2 : Hid _ := c2
 clear c0 c1 c2
 go_enter Tryz.func80, Tryz.ntmps80
 refine wp_seq ?_
 refine zC 3 [.made (cel [a0, a1]) 33, .made (cel [0, 0]) 33, .q (.int .i64 0)] (sB H0) ?ho1 ?he1
 case ho1 => exact am (ex_boxA rfl rfl) (am (ex_madeE2 rfl) (ar trivial))
 intro J w1 l hM hl
 have H1 : Hid (Mm w1 ([(J 0, cel [a0, a1]), (J 1, cel [0, 0])] ++ _) ∧ _) := wB H0 hM hl [0, 1]
 have o1_0 := vB H0 hM hl 0
 have o1_1 := vB H0 hM hl 1
 clear hM hl l
 generalize J 0 = J1_0 at H1 o1_0 ⊢
 generalize J 1 = J1_1 at H1 o1_1 ⊢
 clear J
 refine rN (wp_seq ?_)
 refine zP 6 [.born (fun g => .agg #[PT g 0]) (zT n), .q (V [a0, a1]), .call (V [m0, m1]), .over (.tuple #[V [r0, r1], .int .i64 0]) 0 (zT n), .q (V [r0, r1]), .q (.int .i64 0)] (sB H1) ?ho2 ?he2 (hL := ?hL2)
 case hL2 => exact ⟨⟨_, rfl⟩, trivial⟩
 case ho2 => exact ak (fun J => ⟨rfl, fun w' h => eC call113 (C0.out w')⟩) (bA 0 2 0 Ai33 As33 (ak (fun J => ⟨rfl, fun w' h => eC call110 (C1.out w')⟩) (ak (fun J => ⟨rfl, fun u w' h0 hge h1 hb hlt => by have h := Mm.over h0 hge h1 hb hlt; exact eC call115 (C2.out _ w' (h.two 0 3 rfl rfl (by decide)))⟩) (ag (ag trivial)))))
 intro J w2 l hM hl
 have H2 : Hid (Mm w2 ([(J 0, zT n)] ++ _) ∧ _) := wB H1 hM hl [0]
 have o2_0 := vB H1 hM hl 0
 clear hM hl l H1
 generalize J 0 = J2_0 at H2 o2_0 ⊢
 clear J
 refine zH (l := [6, 7]) rfl ?_
 refine sF 2 [r0, r1] [_, _, _, _] H2 o1_1 As33 fun w3 H3 => ?_
 clear H2
 refine zF (d := 3) rfl rfl rfl rfl ?_
 simp only [Act.put, sa, sz, ss]
 refine zE (zA (wp_ret ?_))
 repeat (first | refine zJ ?_ | refine zI ?_)
 have hf0 := cel_var (k := 2) H3.out.1 2 rfl Ai33 As33 rfl
 refine bodyPost_ret (v := .tuple #[V [r0, r1], .int .i64 0]) (by simp [results, Tryz.results80, asAddr, Act.eval, hf0]) rfl ?_
 exact ⟨rfl, H3.out.2⟩
/-! Elements of twelve parts over the integers: number j of them is a j; w to the power 6 is 1 + i. -/
def m0 (a b : Nat → Int) (i j : Nat) : Int := a (2 * i) * b (2 * j) - a (2 * i + 1) * b (2 * j + 1)
def m1 (a b : Nat → Int) (i j : Nat) : Int := a (2 * i) * b (2 * j + 1) + a (2 * i + 1) * b (2 * j)
end Rg
end Go.Proofs.YtmanelnacifgcaaGreatDoor
end
section
namespace Go.Proofs.YtmanelnacifgcaaGreatDoor
open Go.RowKit
namespace Rg
open NT
/-! What p divides. -/
def Dv (x : Int) : Prop := (pB : Int) ∣ x
theorem pz_iff (x y : Int) : pz x = pz y ↔ Dv (x - y) := by
 have hx := pz_cast x
 have hy := pz_cast y
 constructor
 ·intro h
  exact Int.dvd_of_emod_eq_zero (Int.emod_eq_emod_iff_emod_sub_eq_zero.1 (by rw [← hx, ← hy, h]))
 ·intro h
  exact pz_congr (Int.emod_eq_emod_iff_emod_sub_eq_zero.2 (Int.emod_eq_zero_of_dvd h))
theorem pz_zero_iff (x : Int) : pz x = 0 ↔ Dv x := by
 rw [← pz_zero, pz_iff, Int.sub_zero]
theorem Dv.add {x y : Int} (h : Dv x) (k : Dv y) : Dv (x + y) := Int.dvd_add h k
theorem Dv.sub {x y : Int} (h : Dv x) (k : Dv y) : Dv (x - y) := Int.dvd_sub h k
theorem Dv.mul {x : Int} (h : Dv x) (y : Int) : Dv (y * x) := Int.dvd_trans h (Int.dvd_mul_left y x)
theorem Dv.mulr {x : Int} (h : Dv x) (y : Int) : Dv (x * y) := Int.dvd_trans h (Int.dvd_mul_right x y)
theorem Dv.of {x y : Int} (h : Dv x) (e : x = y) : Dv y := e ▸ h
theorem dv_zero : Dv 0 := Int.dvd_zero _
theorem pB_prm : Prm pB := prm_p
theorem dv_nat (x : Int) : Dv x ↔ pB ∣ x.natAbs := Int.ofNat_dvd_left
theorem Dv.prime {x y : Int} (h : Dv (x * y)) : Dv x ∨ Dv y := by
 rw [dv_nat, Int.natAbs_mul] at h
 rw [dv_nat, dv_nat]
 exact pB_prm.mul h
/-- A number for an integer, with the power that leaves 1. -/
theorem unit_pow {x : Int} (h : ¬ Dv x) : pz x ^ (pB - 1) % pB = 1 :=
 fermat1 pB_prm (pz x) (fun hd => h (by
  rw [← pz_zero_iff]
  obtain ⟨k, hk⟩ := hd
  have := pz_lt x
  rcases Nat.eq_zero_or_pos k with h0 | h0
  ·rw [hk, h0, Nat.mul_zero]
  ·have := Nat.mul_le_mul (Nat.le_refl pB) h0
   omega))
theorem pow_dv {x : Int} (h : Dv x) : ∀ n, 0 < n → pz x ^ n % pB = 0 := fun n hn => by
 rw [(pz_zero_iff x).2 h, Nat.zero_pow hn, Nat.zero_mod]
def eP : Nat := 1000602388805416848354447456433976039139220704984751971333014534031007912622709466110671907282253916009473568139946
theorem pB_four : pB - 1 = 2 * (2 * eP + 1) := by decide +kernel
theorem pz_mod (x y : Int) (h : Dv (x - y)) : pz x = pz y := (pz_iff x y).2 h
theorem pz_mulN (x y : Int) : pz (x * y) = pz x * pz y % pB := by
 rw [← pz_mul, ← Int.natCast_mul, pz_nat]
theorem pz_addN (x y : Int) : pz (x + y) = (pz x + pz y) % pB := by
 rw [← pz_add, ← Int.natCast_add, pz_nat]
/-- No sum of two squares is left without a rest. -/
theorem norm0 {x y : Int} (h : Dv (x * x + y * y)) : Dv x ∧ Dv y := by
 have hp := pB_prm
 by_cases hx : Dv x
 ·refine ⟨hx, ?_⟩
  have h2 : Dv (y * y) := (h.sub (hx.mul x)).of (by omega)
  rcases h2.prime with h3 | h3 <;> exact h3
 ·by_cases hy : Dv y
  ·have h2 : Dv (x * x) := (h.sub (hy.mul y)).of (by omega)
   rcases h2.prime with h3 | h3 <;> exact absurd h3 hx
  ·exfalso
   have ux := unit_pow hx
   have uy := unit_pow hy
   have e : (pz x * pz x + pz y * pz y) % pB = 0 := by
    have h1 := (pz_zero_iff _).2 h
    rw [pz_addN, pz_mulN, pz_mulN, ← Nat.add_mod] at h1
    exact h1
   have ev := even_pow e eP
   rw [pB_four, Nat.pow_mul, Nat.pow_succ, Nat.pow_two] at ux uy
   rw [Nat.mul_mod, ev, ← Nat.mul_mod] at ux
   have s : ((pz y * pz y) ^ (2 * eP) * (pz x * pz x) + (pz y * pz y) ^ (2 * eP) * (pz y * pz y)) % pB = 0 := by
    rw [← Nat.mul_add, Nat.mul_mod, e, Nat.mul_zero, Nat.zero_mod]
   rw [Nat.add_mod, ux, uy] at s
   revert s
   decide +kernel
def eT : Nat := 1334136518407222464472596608578634718852294273313002628444019378708010550163612621480895876376338554679298090853262
theorem pB_three : pB - 1 = 3 * eT := by decide +kernel
theorem two_third : 2 ^ eT % pB = 793479390729215512621379701633421447060886740281060493010456487427281649075476305620758731620350 := pm_eq (by decide +kernel)
/-- 2 is no cube. -/
theorem two_cb {m k : Int} (h : Dv (m * (m * m) - 2 * (k * (k * k)))) : Dv k := by
 by_cases hk : Dv k
 ·exact hk
 ·exfalso
  have uk := unit_pow hk
  have e : pz m * (pz m * pz m) % pB = 2 * (pz k * (pz k * pz k)) % pB := by
   have h1 := pz_mod _ _ h
   rw [pz_mulN, pz_mulN, pz_mulN, pz_mulN, pz_mulN, Nat.mul_mod_mod, Nat.mul_mod_mod] at h1
   rw [h1, show pz 2 = 2 by decide +kernel, Nat.mul_mod 2, Nat.mul_mod_mod (pz k), ← Nat.mul_mod 2]
  have c3 : ∀ x : Nat, x * (x * x) = x ^ 3 := fun x => by rw [Nat.pow_succ, Nat.pow_two, Nat.mul_assoc]
  rw [c3, c3] at e
  have e2 : (pz m ^ 3) ^ eT % pB = (2 * (pz k ^ 3)) ^ eT % pB := by rw [Nat.pow_mod, e, ← Nat.pow_mod]
  rw [Nat.mul_pow 2, Nat.mul_mod, two_third, ← Nat.pow_mul, ← Nat.pow_mul, ← pB_three, uk] at e2
  by_cases hm : Dv m
  ·rw [pow_dv hm _ (by decide +kernel)] at e2
   revert e2
   decide +kernel
  ·rw [unit_pow hm] at e2
   revert e2
   decide +kernel
/-! Pairs. -/
abbrev Z2 := Int × Int
def cm (a b : Z2) : Z2 := (a.1 * b.1 - a.2 * b.2, a.1 * b.2 + a.2 * b.1)
def ca (a b : Z2) : Z2 := (a.1 + b.1, a.2 + b.2)
def cs (a b : Z2) : Z2 := (a.1 - b.1, a.2 - b.2)
def cn (a : Z2) : Int := a.1 * a.1 + a.2 * a.2
def xi : Z2 := (1, 1)
def O2 (a : Z2) : Prop := Dv a.1 ∧ Dv a.2
theorem O2.mul {a : Z2} (h : O2 a) (b : Z2) : O2 (cm b a) := ⟨(h.1.mul b.1).sub (h.2.mul b.2), (h.2.mul b.1).add (h.1.mul b.2)⟩
theorem O2.add {a b : Z2} (h : O2 a) (k : O2 b) : O2 (ca a b) := ⟨h.1.add k.1, h.2.add k.2⟩
theorem O2.sub {a b : Z2} (h : O2 a) (k : O2 b) : O2 (cs a b) := ⟨h.1.sub k.1, h.2.sub k.2⟩
theorem O2.of {a b : Z2} (h : O2 a) (e : a = b) : O2 b := e ▸ h
theorem O2.cn {a : Z2} (h : O2 a) : Dv (cn a) := (h.1.mul a.1).add (h.2.mul a.2)
/-! Three parts: v v v is 1 + i. -/
def d0 (x y z : Z2) : Z2 := cs (cm x x) (cm xi (cm y z))
def d1 (x y z : Z2) : Z2 := cs (cm xi (cm z z)) (cm x y)
def d2 (x y z : Z2) : Z2 := cs (cm y y) (cm x z)
end Rg
end Go.Proofs.YtmanelnacifgcaaGreatDoor
end
section
namespace Go.Proofs.YtmanelnacifgcaaGreatDoor
open Go.RowKit
namespace Rg
theorem inv_ex {n a : Nat} (ok : Ok n) (hg : Nat.gcd n a = 1) : ∃ x, x < n ∧ x * a % n = 1 := by
 have key : ∀ (m : Nat) (z : WS), z.o + z.r = m → WI n a z → ∃ x, x < n ∧ x * a % n = 1 := by
  intro m
  induction m using Nat.strongRecOn with
  | _ m ih =>
   intro z hz I
   obtain ⟨o, r, u, v, h, t⟩ := z
   simp only at hz
   by_cases hr : r = 0
   ·subst hr
    have ho : o = 1 := by
     have h1 : Nat.gcd o 0 = Nat.gcd n a := I.gcd
     rw [Nat.gcd_zero_right] at h1
     rw [h1]; exact hg
    cases t with
    | true => exact ⟨_, Nat.mod_lt _ ok.pos, end_true ok I ho⟩
    | false => exact ⟨_, Nat.mod_lt _ ok.pos, end_false ok I ho⟩
   ·have hrb : r < big := by have h1 : r ≤ n := I.rn; have := ok.big; omega
    obtain ⟨k, r1, hk, er, hr1, _⟩ := trailing_any hrb hr
    obtain ⟨p1, p2, _⟩ := I.facts hr er
    obtain ⟨i1, i2⟩ := I.next hr er hr1
    have hle : r1 ≤ r := by rw [er]; exact Nat.le_mul_of_pos_right _ (Nat.two_pow_pos k)
    by_cases hl : r1 < o
    ·exact ih (r1 + (o - r1)) (by omega) _ rfl (i1 hl)
    ·exact ih (o + (r1 - o)) (by omega) _ rfl (i2 hl)
 exact key _ ⟨n, a % n, 0, 1, 0, false⟩ rfl (WI.start ok)
theorem invm_spec {n a : Nat} (ok : Ok n) (hg : Nat.gcd n a = 1) : invm n a < n ∧ invm n a * a % n = 1 := by
 obtain ⟨x, hx, h1⟩ := inv_ex ok hg
 rw [invm_eq hx h1]
 exact ⟨hx, h1⟩
end Rg
end Go.Proofs.YtmanelnacifgcaaGreatDoor
end
section
namespace Go.Proofs.YtmanelnacifgcaaGreatDoor
open Go.RowKit
namespace Rg
open NT
theorem pz_big (x : Int) : pz x < big := Nat.lt_trans (pz_lt x) pB_lt
theorem pz_pair (x y : Int) : 0 ≤ (pz x : Int) * (pz y : Int) ∧ (pz x : Int) * (pz y : Int) ≤ (pB : Int) * pB := by
 have h := Nat.mul_le_mul (Nat.le_of_lt (pz_lt x)) (Nat.le_of_lt (pz_lt y))
 rw [← Int.natCast_mul, ← Int.natCast_mul]
 omega
theorem pz_small {i : Nat} (h : i < pB) : pz (i : Int) = i := by rw [pz_nat, Nat.mod_eq_of_lt h]
theorem pz_times (x : Int) {i : Nat} (h : i < pB) : pz x * i % pB = pz (x * (i : Int)) := by rw [pz_mulN, pz_small h]
theorem norm_any {g : Nat} (x y : Int) (w : World) (hm : Mm w [(g, zT pB)]) : Calls Tryz.prog 140 #[.agg #[PT g 0], V [pz x, pz y]] w (Rt w (N (pz (x * x + y * y)))) := by
 have w0 : Wi ((pz x : Int) * pz x + (pz y : Int) * pz y) := by have := pz_pair x x; have := pz_pair y y; unfold Wi; omega
 have c4 := fun w hm => restF_any (g := g) _ w0 w hm
 rw [pz_addmul] at c4
 exact norm_gen g pB _ _ (pz x) (pz y) _ _ _ _ _ _ _ (fun w => timesZ_any (pz x) (pz x) (pz_big x) (pz_big x) w) (fun w => timesZ_any (pz y) (pz y) (pz_big y) (pz_big y) w) (fun w => plusZ_any _ _ w) c4 w hm
theorem unit_gcd {x : Int} (h : ¬ Dv x) : Nat.gcd pB (pz x) = 1 := by
 refine pB_prm.cop (fun hd => h ?_)
 rw [← pz_zero_iff]
 obtain ⟨k, hk⟩ := hd
 have := pz_lt x
 rcases Nat.eq_zero_or_pos k with h0 | h0
 ·rw [hk, h0, Nat.mul_zero]
 ·have := Nat.mul_le_mul (Nat.le_refl pB) h0
  omega
/-- The inverse of what is left of x. -/
def iv (x : Int) : Nat := invm pB (pz x)
theorem iv_lt {x : Int} (h : ¬ Dv x) : iv x < pB := (invm_spec pB_ok (unit_gcd h)).1
theorem inv2F_ok {g : Nat} (x y : Int) (h : ¬ Dv (x * x + y * y)) (w : World) (hm : Mm w [(g, zT pB), (2, dtab)]) : Calls Tryz.prog 115 #[.agg #[PT g 0], V [pz x, pz y]] w (Rt w (.tuple #[V [pz (x * (iv (x * x + y * y) : Int)), pz (-y * (iv (x * x + y * y) : Int))], .int .i64 0])) := by
 have hi := iv_lt h
 have c1 := fun w hm => inv_ok (g := g) pB_ok (pz_big (x * x + y * y)) (unit_gcd h) w hm
 have e1 : invm pB (pz (x * x + y * y)) = iv (x * x + y * y) := rfl
 rw [e1] at c1
 generalize iv (x * x + y * y) = i at *
 have c2 := fun w hm => mulm_any (g := g) pB_ok (pz_big x) (Nat.lt_trans hi pB_lt) w hm
 have c4 := fun w hm => mulm_any (g := g) pB_ok (pz_big (-y)) (Nat.lt_trans hi pB_lt) w hm
 rw [pz_times _ hi] at c2 c4
 exact inv2_ok g pB _ _ (pz x) (pz y) _ i _ _ _ (fun w hm => norm_any x y w hm) c1 c2 (fun w => negated_any y w) c4 w hm
theorem invT_good (a0 a1 : Nat) (h0 : a0 < big) (h1 : a1 < big) (h : ¬ Dv ((a0 : Int) * a0 + (a1 : Int) * a1)) (w : World) (hm : Mm w [(2, dtab)]) : Calls Tryz.prog 80 #[V [a0, a1]] w (Rt w (.tuple #[V [pz ((a0 : Int) * (iv ((a0 : Int) * a0 + (a1 : Int) * a1) : Int)), pz (-(a1 : Int) * (iv ((a0 : Int) * a0 + (a1 : Int) * a1) : Int))], .int .i64 0])) :=
 invT_ok pB a0 a1 _ _ _ _ great_any (fun w => left2_any a0 a1 h0 h1 w) (fun g w hm => inv2F_ok (g := g) _ _ h w hm) w hm
end Rg
end Go.Proofs.YtmanelnacifgcaaGreatDoor
end
section
namespace Go.Proofs.YtmanelnacifgcaaGreatDoor
open Go.RowKit
namespace Rg
open NT
/-- The power that is a root of x or of -x. -/
def rr (x : Int) : Nat := pz x ^ (eP + 1) % pB
theorem rr_lt (x : Int) : rr x < pB := Nat.mod_lt _ pB_ok.pos
def Sq (x : Int) : Prop := Dv ((rr x : Int) * (rr x : Int) - x)
theorem eP_four : pB + 1 = 4 * (eP + 1) := by decide +kernel
theorem sq_nat (x : Int) : (rr x * rr x % pB = pz x) ↔ Sq x := by
 unfold Sq
 rw [← pz_iff, ← Int.natCast_mul, pz_nat]
theorem zpow (j p : Nat) : 0 ^ (j + 1) % p = 0 := by rw [Nat.zero_pow (Nat.succ_pos j), Nat.zero_mod]
theorem rr_zero {x : Int} (h : pz x = 0) : rr x = 0 := by
 unfold rr
 rw [h]
 exact zpow eP pB
theorem rr_sq (a j p : Nat) : a ^ (j + 1) % p * (a ^ (j + 1) % p) % p = a ^ (2 * j + 2) % p := by
 rw [← Nat.mul_mod, ← Nat.pow_add, show j + 1 + (j + 1) = 2 * j + 2 by omega]
theorem rr_alt {x : Int} (h : ¬ Sq x) : Dv ((rr x : Int) * (rr x : Int) + x) := by
 by_cases hx : Dv x
 ·exfalso
  apply h
  have h0 := (pz_zero_iff x).2 hx
  rw [← sq_nat, h0, rr_zero h0, Nat.mul_zero, Nat.zero_mod]
 ·have hn : ¬ pB ∣ pz x := fun hd => by
   have h1 := unit_gcd hx
   have h2 := Nat.gcd_eq_left hd
   rw [h1] at h2
   have := pB_prm.1
   omega
  have e : rr x * rr x % pB = pz x ^ (2 * eP + 2) % pB := rr_sq (pz x) eP pB
  rcases half_pow pB_prm eP_four hn with h1 | h1
  ·exact absurd ((sq_nat x).1 (by rw [e, h1, Nat.mod_eq_of_lt (pz_lt x)])) h
  ·rw [← pz_zero_iff, pz_addN, ← Int.natCast_mul, pz_nat, e, Nat.mod_add_mod]
   exact h1
theorem sq_of {m x : Int} (h : Dv (m * m - x)) : Sq x := by
 by_cases hs : Sq x
 ·exact hs
 ·exfalso
  have h1 := rr_alt hs
  have h2 : Dv ((rr x : Int) * (rr x : Int) + m * m) := (h1.add h).of (by omega)
  have h3 := norm0 h2
  exact hs ((h3.1.mul (rr x : Int)).sub ((h3.2.mul m).sub h) |>.of (by omega))
theorem rtc_rr (n : Int) : rtc pB (pz n) = rr n := by
 unfold rtc rr
 rw [show (pB + 1) / 4 = eP + 1 by have := eP_four; omega]
theorem rt_cond (n : Int) : (rtc pB (pz n) * rtc pB (pz n) % pB = pz n % pB) ↔ Sq n := by
 rw [rtc_rr, Nat.mod_eq_of_lt (pz_lt n)]
 exact sq_nat n
theorem pB_mod4 : ¬ pB % 4 = 1 := by decide +kernel
end Rg
end Go.Proofs.YtmanelnacifgcaaGreatDoor
end
section
namespace Go.Proofs.YtmanelnacifgcaaGreatDoor
open Go.RowKit
namespace Rg
theorem greatP_gen (n : Nat) (cb : ∀ w, Calls Tryz.prog 67 #[] w (Rt w (N n))) (cn : ∀ w, Calls Tryz.prog 12 #[N n] w fun e w' => Below w.heap.size w w' ∧ ∃ g, e = .returned (.tuple #[PT g 0, .int .i64 0]) ∧ w.heap.size ≤ g ∧ g < w'.heap.size ∧ Blk w' g (zT n)) (w : World) :
  Calls Tryz.prog 93 #[] w fun e w' => Below w.heap.size w w' ∧ ∃ g, e = .returned (PT g 0) ∧ w.heap.size ≤ g ∧ g < w'.heap.size ∧ Blk w' g (zT n) := by
 have H0 : Hid (_ ∧ _) := ⟨Mm.nil w, Below.refl w.heap.size w⟩
 have CB : Hid _ := cb
 clear cb
 have CN : Hid _ := cn
 clear cn
 go_enter Tryz.func93, Tryz.ntmps93
 refine wp_seq ?_
 refine zD 1 [.q (.pointer none)] H0 ?ho1 ?he1
 case ho1 => exact ar trivial
 intro _ w1 H1
 refine rN (wp_seq ?_)
 refine zC 2 [.call (N n), .born (fun g => .tuple #[PT g 0, .int .i64 0]) (zT n)] (sB H1) ?ho2 ?he2
 case ho2 => exact ak (fun J => ⟨rfl, fun w' h => eC call67 (CB.out w')⟩) (ak (fun J => ⟨rfl, fun w' h => eC call12 (CN.out w')⟩) trivial)
 intro J w2 l hM hl
 have H2 : Hid (Mm w2 [(J 1, zT n)] ∧ _) := wB H1 hM hl [1]
 have o2_1 := vB H1 hM hl 1
 clear hM hl l H1
 generalize J 1 = J2_1 at H2 o2_1 ⊢
 clear J
 refine zH (l := [2, 3, 4, 5, 6]) rfl ?_
 refine zF (d := 3) rfl rfl rfl rfl ?_
 simp only [Act.put, sa, sz, ss]
 refine zF (d := 6) (v := PT J2_1 0) (w' := w2) rfl rfl rfl (by go_simp) ?_
 simp only [Act.put, sa, sz, ss]
 refine zF (d := 7) (v := .int .i64 0) (w' := w2) rfl rfl rfl (by go_simp) ?_
 simp only [Act.put, sa, sz, ss]
 refine zF (d := 1) rfl rfl rfl rfl ?_
 simp only [Act.put, sa, sz, ss]
 refine zF (d := 2) rfl rfl rfl rfl ?_
 simp only [Act.put, sa, sz, ss]
 refine zE (zA (wp_seq ?_))
 refine zD 2 [.q (PT J2_1 0), .q (PT J2_1 0)] H2 ?ho3 ?he3
 case ho3 => exact ar (ar trivial)
 intro _ w3 H3
 clear H2
 refine rN (wp_ret ?_)
 repeat (first | refine zJ ?_ | refine zI ?_)
 refine bodyPost_ret (v := PT J2_1 0) (by simp [results, Tryz.results93, go_sem, *]) rfl ?_
 exact ⟨H3.out.2, J2_1, rfl, o2_1.out, H3.out.1.blk _ (List.mem_of_getElem? (i := 0) rfl)⟩
set_option maxHeartbeats 2000000 in
theorem root1_ok (g n x q q3 four s y : Nat) (c0 : ∀ w, Mm w [(g, zT n)] → Calls Tryz.prog 70 #[PT g 0, N x, N x] w (Rt w (N q))) (c1 : ∀ w, Mm w [(g, zT n)] → Calls Tryz.prog 70 #[PT g 0, N x, N q] w (Rt w (N q3))) (c2 : ∀ w, Mm w [(g, zT n)] → Calls Tryz.prog 68 #[PT g 0, N q3, N four] w (Rt w (N s))) (c3 : ∀ w, Mm w [(g, zT n)] → Calls Tryz.prog 125 #[PT g 0, N s] w (Rt w (.tuple #[N y, .int .i64 0]))) (c4 : ∀ w, Calls Tryz.prog 17 #[.int .u64 4] w (Rt w (N four))) (w : World) (hm : Mm w [(g, zT n)]) :
  Calls Tryz.prog 94 #[PT g 0, N x] w (Rt w (.tuple #[N y, .bool true])) := by
 have H0 : Hid (_ ∧ _) := ⟨hm, Below.refl w.heap.size w⟩
 clear hm
 have C0 : Hid _ := c0
 clear c0
 have C1 : Hid _ := c1
 clear c1
 have C2 : Hid _ := c2
 clear c2
 have C3 : Hid _ := c3
 clear c3
 have C4 : Hid _ := c4
 clear c4
 go_enter Tryz.func94, Tryz.ntmps94
 refine wp_seq ?_
 refine zC 3 [.made (zB x) 24, .made zero6 24, .q (.bool false)] (sB H0) ?ho1 ?he1
 case ho1 => exact am (zU rfl rfl) (am (zG rfl) (ar trivial))
 intro J w1 l hM hl
 have H1 : Hid (Mm w1 ([(J 0, zB x), (J 1, zero6)] ++ _) ∧ _) := wB H0 hM hl [0, 1]
 have o1_0 := vB H0 hM hl 0
 have o1_1 := vB H0 hM hl 1
 clear hM hl l
 generalize J 0 = J1_0 at H1 o1_0 ⊢
 generalize J 1 = J1_1 at H1 o1_1 ⊢
 clear J
 refine rN (wp_seq ?_)
 refine zP 18 [.q (PT g 0), .q (PT g 0), .q (PT g 0), .q (N x), .q (PT g 0), .q (N x), .q (N x), .call (N q), .call (N q3), .call (N four), .call (N s), .call (.tuple #[N y, .int .i64 0]), .q (.tuple #[N y, .int .i64 0]), .q (N y), .q (.int .i64 0), .made zero6 24, .laid 15 zero6 (zB y), .q (.int .i64 0)] (sB H1) ?ho2 ?he2 (hL := ?hL2)
 case hL2 => exact ⟨⟨_, rfl⟩, trivial⟩
 case ho2 => exact ar (ar (ar (bN 0 (ar (bN 0 (bN 0 (ac (fun w' h => eC call70 (C0.out w' (h.one 2 rfl))) (ac (fun w' h => eC call70 (C1.out w' (h.one 2 rfl))) (ac (fun w' h => eC call17 (C4.out w')) (ac (fun w' h => eC call68 (C2.out w' (h.one 2 rfl))) (ac (fun w' h => eC call125 (C3.out w' (h.one 2 rfl))) (ar (ag (ag (am (zG rfl) (ak (fun J => ⟨rfl, rfl, rfl, fun w' h => zK h rfl rfl rfl⟩) (ar trivial)))))))))))))))))
 intro J w2 l hM hl
 have H2 : Hid (Mm w2 ([(J 15, zB y)] ++ _) ∧ _) := wB H1 hM hl [15]
 have o2_15 := vB H1 hM hl 15
 clear hM hl l H1
 generalize J 15 = J2_15 at H2 o2_15 ⊢
 clear J
 refine rN (wp_seq ?_)
 refine zD 3 [.q (N y), .q (.int .i64 0), .q (.bool true)] H2 ?ho3 ?he3
 case ho3 => exact bN 0 (ar (ag trivial))
 intro _ w3 H3
 clear H2
 refine zH (l := [3, 4]) rfl ?_
 refine sG rfl (fun h => zL h 2 rfl rfl rfl rfl (Nat.le_of_ble_eq_true rfl)) 2 [_, _, (_, zB y), _] H3 o1_1 fun w4 H4 => ?_
 clear H3
 refine zF (d := 5) rfl rfl rfl rfl ?_
 simp only [Act.put, sa, sz, ss]
 refine zE (zA (wp_ret ?_))
 repeat (first | refine zJ ?_ | refine zI ?_)
 have c0 := H4.out.1.get 2 rfl 0 rfl
 have c1 := H4.out.1.get 2 rfl 1 rfl
 have c2 := H4.out.1.get 2 rfl 2 rfl
 have c3 := H4.out.1.get 2 rfl 3 rfl
 have c4 := H4.out.1.get 2 rfl 4 rfl
 have c5 := H4.out.1.get 2 rfl 5 rfl
 refine bodyPost_ret (v := .tuple #[N y, .bool true]) (by simp [results, Tryz.results94, go_sem, *]) rfl ?_
 exact ⟨rfl, H4.out.2⟩
theorem greater1_gen (y n hf : Nat) (c : Int) (bl : Bool) (hr : decide (0 < c) = bl) (cb : ∀ w, Calls Tryz.prog 67 #[] w (Rt w (N n))) (cs : ∀ w, Calls Tryz.prog 61 #[N n, .int .i64 (-1)] w (Rt w (N hf))) (cc : ∀ w, Calls Tryz.prog 38 #[N y, N hf] w (Rt w (.int .i64 c))) (w : World) :
  Calls Tryz.prog 52 #[N y] w (Rt w (.bool bl)) := by
 have H0 : Hid (_ ∧ _) := ⟨Mm.nil w, Below.refl w.heap.size w⟩
 have HR : Hid _ := hr
 clear hr
 have CB : Hid _ := cb
 clear cb
 have CS : Hid _ := cs
 clear cs
 have CC : Hid _ := cc
 clear cc
 go_enter Tryz.func52, Tryz.ntmps52
 refine wp_seq ?_
 refine zC 2 [.made (zB y) 24, .q (.bool false)] (sB H0) ?ho1 ?he1
 case ho1 => exact am (zU rfl rfl) (ar trivial)
 intro J w1 l hM hl
 have H1 : Hid (Mm w1 [(J 0, zB y)] ∧ _) := wB H0 hM hl [0]
 have o1_0 := vB H0 hM hl 0
 clear hM hl l
 generalize J 0 = J1_0 at H1 o1_0 ⊢
 clear J
 refine rN (wp_seq ?_)
 refine zC 4 [.call (N n), .call (N hf), .made zero6 24, .laid 2 zero6 (zB hf)] (sB H1) ?ho2 ?he2 (hL := ?hL2)
 case hL2 => exact ⟨⟨_, rfl⟩, trivial⟩
 case ho2 => exact ac (fun w' h => eC call67 (CB.out w')) (ac (fun w' h => eC call61 (CS.out w')) (am (zG rfl) (ak (fun J => ⟨rfl, rfl, rfl, fun w' h => zK h rfl rfl rfl⟩) trivial)))
 intro J w2 l hM hl
 have H2 : Hid (Mm w2 ([(J 2, zB hf)] ++ _) ∧ _) := wB H1 hM hl [2]
 have o2_2 := vB H1 hM hl 2
 clear hM hl l H1
 generalize J 2 = J2_2 at H2 o2_2 ⊢
 clear J
 refine rN (wp_seq ?_)
 refine zD 5 [.q (N y), .q (N hf), .call (.int .i64 c), .q (.bool bl), .q (.bool bl)] H2 ?ho3 ?he3
 case ho3 => exact bN 1 (bN 0 (ac (fun w' h => eC call38 (CC.out w')) (ak (by refine fun J => ⟨rfl, fun w' h => ?_⟩; clear h; rw [← HR.out]; go_simp) (ar trivial))))
 intro _ w3 H3
 clear H2
 refine rN (wp_ret ?_)
 repeat (first | refine zJ ?_ | refine zI ?_)
 refine bodyPost_ret (v := .bool bl) (by simp [results, Tryz.results52, go_sem, *]) rfl ?_
 exact ⟨rfl, H3.out.2⟩
theorem greater2_T (y0 y1 : Nat) (bl : Bool) (e0 : ∀ w, (Op.equalIn 10000 24 (N y1) (N 0)).run Tryz.prog w = .ok true w) (cg : ∀ w, Calls Tryz.prog 52 #[N y0] w (Rt w (.bool bl))) (w : World) :
  Calls Tryz.prog 54 #[V [y0, y1]] w (Rt w (.bool bl)) := by
 have H0 : Hid (_ ∧ _) := ⟨Mm.nil w, Below.refl w.heap.size w⟩
 have E0 : Hid _ := e0
 clear e0
 have CG : Hid _ := cg
 clear cg
 go_enter Tryz.func54, Tryz.ntmps54
 refine wp_seq ?_
 refine zC 2 [.made (cel [y0, y1]) 33, .q (.bool false)] (sB H0) ?ho1 ?he1
 case ho1 => exact am (ex_boxA rfl rfl) (ar trivial)
 intro J w1 l hM hl
 have H1 : Hid (Mm w1 [(J 0, cel [y0, y1])] ∧ _) := wB H0 hM hl [0]
 have o1_0 := vB H0 hM hl 0
 clear hM hl l
 generalize J 0 = J1_0 at H1 o1_0 ⊢
 clear J
 refine rN (wp_seq (wp_seq ?_))
 refine zD 4 [.q (PT J1_0 6), .q (N y1), .q (N 0), .q (.bool true)] H1 ?ho2 ?he2
 case ho2 => exact ag (aq (fun w' h => zO (i := 1) h 0 rfl rfl rfl rfl) (ak (by refine fun J => ⟨rfl, fun w' h => ?_⟩; clear h; exact ex_zero6 rfl) (ak (fun J => ⟨rfl, fun w' _ => exec_eq6 E0.out rfl rfl rfl⟩) trivial)))
 intro _ w2 H2
 clear H1
 refine rN (wp_cond_true rfl (wp_seq ?_))
 refine zD 4 [.q (PT J1_0 0), .q (N y0), .call (.bool bl), .q (.bool bl)] H2 ?ho3 ?he3
 case ho3 => exact ag (aq (fun w' h => zO (i := 0) h 0 rfl rfl rfl rfl) (ac (fun w' h => eC call52 (CG.out w')) (ar trivial)))
 intro _ w3 H3
 clear H2
 refine rN (wp_ret ?_)
 repeat (first | refine zJ ?_ | refine zI ?_)
 refine bodyPost_ret (v := .bool bl) (by simp [results, Tryz.results54, go_sem, *]) rfl ?_
 exact ⟨rfl, H3.out.2⟩
theorem greater2_F (y0 y1 : Nat) (bl : Bool) (e0 : ∀ w, (Op.equalIn 10000 24 (N y1) (N 0)).run Tryz.prog w = .ok false w) (cg : ∀ w, Calls Tryz.prog 52 #[N y1] w (Rt w (.bool bl))) (w : World) :
  Calls Tryz.prog 54 #[V [y0, y1]] w (Rt w (.bool bl)) := by
 have H0 : Hid (_ ∧ _) := ⟨Mm.nil w, Below.refl w.heap.size w⟩
 have E0 : Hid _ := e0
 clear e0
 have CG : Hid _ := cg
 clear cg
 go_enter Tryz.func54, Tryz.ntmps54
 refine wp_seq ?_
 refine zC 2 [.made (cel [y0, y1]) 33, .q (.bool false)] (sB H0) ?ho1 ?he1
 case ho1 => exact am (ex_boxA rfl rfl) (ar trivial)
 intro J w1 l hM hl
 have H1 : Hid (Mm w1 [(J 0, cel [y0, y1])] ∧ _) := wB H0 hM hl [0]
 have o1_0 := vB H0 hM hl 0
 clear hM hl l
 generalize J 0 = J1_0 at H1 o1_0 ⊢
 clear J
 refine rN (wp_seq (wp_seq ?_))
 refine zD 4 [.q (PT J1_0 6), .q (N y1), .q (N 0), .q (.bool false)] H1 ?ho2 ?he2
 case ho2 => exact ag (aq (fun w' h => zO (i := 1) h 0 rfl rfl rfl rfl) (ak (by refine fun J => ⟨rfl, fun w' h => ?_⟩; clear h; exact ex_zero6 rfl) (ak (fun J => ⟨rfl, fun w' _ => exec_eq6 E0.out rfl rfl rfl⟩) trivial)))
 intro _ w2 H2
 clear H1
 refine rN (wp_cond_false rfl ?_)
 refine wp_skip (zA (wp_seq ?_))
 refine zD 4 [.q (PT J1_0 6), .q (N y1), .call (.bool bl), .q (.bool bl)] H2 ?ho3 ?he3
 case ho3 => exact ag (aq (fun w' h => zO (i := 1) h 0 rfl rfl rfl rfl) (ac (fun w' h => eC call52 (CG.out w')) (ar trivial)))
 intro _ w3 H3
 clear H2
 refine rN (wp_ret ?_)
 repeat (first | refine zJ ?_ | refine zI ?_)
 refine bodyPost_ret (v := .bool bl) (by simp [results, Tryz.results54, go_sem, *]) rfl ?_
 exact ⟨rfl, H3.out.2⟩
theorem number_lt (g m x n : Nat) (f : Nat → Int) (sv : Value) (cr : ∀ w, Mm w [(g, by8 f m)] → Calls Tryz.prog 124 #[sv] w (Rt w (.tuple #[N x, .int .i64 0]))) (cb : ∀ w, Calls Tryz.prog 67 #[] w (Rt w (N n))) (cc : ∀ w, Calls Tryz.prog 38 #[N x, N n] w (Rt w (.int .i64 (-1)))) (w : World) (hm : Mm w [(g, by8 f m)]) :
  Calls Tryz.prog 92 #[sv] w (Rt w (.tuple #[N x, .bool true])) := by
 have H0 : Hid (_ ∧ _) := ⟨hm, Below.refl w.heap.size w⟩
 clear hm
 have CR : Hid _ := cr
 clear cr
 have CB : Hid _ := cb
 clear cb
 have CC : Hid _ := cc
 clear cc
 go_enter Tryz.func92, Tryz.ntmps92
 refine wp_seq ?_
 refine zC 2 [.made zero6 24, .q (.bool false)] (sB H0) ?ho1 ?he1
 case ho1 => exact am (zG rfl) (ar trivial)
 intro J w1 l hM hl
 have H1 : Hid (Mm w1 ([(J 0, zero6)] ++ _) ∧ _) := wB H0 hM hl [0]
 have o1_0 := vB H0 hM hl 0
 clear hM hl l
 generalize J 0 = J1_0 at H1 o1_0 ⊢
 clear J
 refine rN (wp_seq ?_)
 refine zC 8 [.q (sv), .call (.tuple #[N x, .int .i64 0]), .q (.tuple #[N x, .int .i64 0]), .q (N x), .q (.int .i64 0), .made zero6 24, .laid 5 zero6 (zB x), .q (.int .i64 0)] (sB H1) ?ho2 ?he2 (hL := ?hL2)
 case hL2 => exact ⟨⟨_, rfl⟩, trivial⟩
 case ho2 => exact ar (ac (fun w' h => eC call124 (CR.out w' (h.one 1 rfl))) (ar (ag (ag (am (zG rfl) (ak (fun J => ⟨rfl, rfl, rfl, fun w' h => zK h rfl rfl rfl⟩) (ar trivial)))))))
 intro J w2 l hM hl
 have H2 : Hid (Mm w2 ([(J 5, zB x)] ++ _) ∧ _) := wB H1 hM hl [5]
 have o2_5 := vB H1 hM hl 5
 clear hM hl l H1
 generalize J 5 = J2_5 at H2 o2_5 ⊢
 clear J
 refine rN (wp_seq ?_)
 refine walk_put (by kernel_rfl) 9 [7, 8] [.q (N x), .q (.int .i64 0), .q (.bool true), .q (.bool true), .q (N x), .call (N n), .call (.int .i64 (-1)), .q (.bool true), .q (.bool true)] _ ?pre3 ?F3 _ ?hpre3 (fun J => ?hF3) (by kernel_rfl) rfl trivial (sB H2) ?ho3 ?hla3 ?he3
 case hpre3 => simp only [tk, tz]; rfl
 case hF3 => simp only [zZ, Kind.val, Act.put, sa, sz, ss]; rfl
 case ho3 =>
  refine bN 0 ?_
  refine ar ?_
  refine ag ?_
  refine ar ?_
  refine bN 0 ?_
  refine ak (fun J => ⟨rfl, fun w' h => eC call67 (CB.out w')⟩) ?_
  refine ak (fun J => ⟨rfl, fun w' h => eC call38 (CC.out w')⟩) ?_
  refine ag ?_
  refine ag ?_
  exact trivial
 case hla3 => exact ⟨⟨_, _, rfl, rfl, fun J => ⟨rfl, fun w' => by first | rfl | go_simp⟩⟩, ⟨_, _, rfl, rfl, fun J => ⟨rfl, fun w' => by first | rfl | go_simp⟩⟩, trivial⟩
 intro J w3 l hM hl
 have H3 := keepB H2 hM.below
 clear hM hl l H2 J
 refine ⟨_, zL H3.out.1 1 rfl rfl rfl rfl (Nat.le_of_ble_eq_true rfl), ?_⟩
 have H4 : Hid (Mm (w3.setCells J1_0 0 (zB x)) [(J2_5, zB x), (J1_0, zB x), (g, by8 f m)] ∧ Below w.heap.size w (w3.setCells J1_0 0 (zB x))) := ⟨H3.out.1.put 1 (off := 0) (vs := zB x) rfl (Nat.le_of_ble_eq_true rfl), zV _ o1_0.out _ _ _ H3.out.2⟩
 clear H3
 generalize hgw : World.setCells _ _ _ _ = w4 at H4 ⊢
 clear hgw
 refine zH (l := [10]) rfl ?_
 refine zF (d := 3) rfl rfl rfl rfl ?_
 simp only [Act.put, sa, sz, ss]
 refine zE (zA (wp_ret ?_))
 repeat (first | refine zJ ?_ | refine zI ?_)
 have c0 := H4.out.1.get 1 rfl 0 rfl
 have c1 := H4.out.1.get 1 rfl 1 rfl
 have c2 := H4.out.1.get 1 rfl 2 rfl
 have c3 := H4.out.1.get 1 rfl 3 rfl
 have c4 := H4.out.1.get 1 rfl 4 rfl
 have c5 := H4.out.1.get 1 rfl 5 rfl
 refine bodyPost_ret (v := .tuple #[N x, .bool true]) (by simp [results, Tryz.results92, go_sem, *]) rfl ?_
 exact ⟨rfl, H4.out.2⟩
/-- The first byte with a point's bits. -/
def fl8 (z u : Bool) (x : Int) : Int := let a := bits .or .u8 x 128; let b := if z then bits .or .u8 a 64 else a; if u then bits .or .u8 b 32 else b
theorem upd_at (f : Nat → Int) (v : Int) : upd f 0 v 0 = v := if_pos rfl
theorem upd_twice (f : Nat → Int) (a b : Int) (j : Nat) : upd (upd f 0 a) 0 b j = upd f 0 b j := by
 unfold upd
 split
 ·rfl
 ·rfl
theorem kp_set {g o : Nat} {a w : World} {v : Value} (h : Kp g a w) : Kp g a (w.setCell ⟨g, o, none⟩ v) := Kp.put (b := g) (off := o) (vs := [v]) h (Or.inl rfl)
set_option maxHeartbeats 2000000 in
theorem put_any (g n c : Nat) (f : Nat → Int) (z u : Bool) (hn : 0 < n) (w : World) (hr : Row8 w g n f) :
  Calls Tryz.prog 51 #[.slice (some ⟨g, 0, none⟩) n c, .bool z, .bool u] w fun e w' => e = .returned (.tuple #[]) ∧ Row8 w' g n (upd f 0 (fl8 z u (f 0))) ∧ Kp g w w' := by
 have h0 := (hr 0 hn).1
 have h1 := (hr 0 hn).2
 have d1 : (0 : Int) < n := by omega
 have HR : Hid (Row8 w g n f) := hr
 clear hr
 cases z <;> cases u
 all_goals
  go_enter Tryz.func51, Tryz.ntmps51
  go_wp2
  refine bodyPost_end (v := .tuple #[]) (by simp [results, Tryz.results51, go_sem]) rfl ⟨rfl, ?_, ?_⟩
 ·exact HR.out.set _
 ·exact kp_set (Kp.refl g w)
 ·exact ((HR.out.set _).set _).congr fun j hj => upd_twice f _ _ j
 ·exact kp_set (kp_set (Kp.refl g w))
 ·exact ((HR.out.set _).set _).congr fun j hj => upd_twice f _ _ j
 ·exact kp_set (kp_set (Kp.refl g w))
 ·exact (((HR.out.set _).set _).set _).congr fun j hj => by
   rw [upd_twice, upd_twice]
   rfl
 ·exact kp_set (kp_set (kp_set (Kp.refl g w)))
theorem zero_take : (zero6.drop 0).take 6 = zB 0 := by
 rw [show zB 0 = zero6 from cells_zero]
 rfl
abbrev G1 (g : Nat) (tn : Value) (u b : Nat) : List Value := [Value.func (.func 68) #[PT g 0] #[], Value.func (.func 69) #[PT g 0] #[], Value.func (.func 70) #[PT g 0] #[], Value.func (.func 71) #[PT g 0] #[], Value.func (.func 72) #[] #[]] ++ (cel [u, b] ++ [tn, Value.int .i64 2])
/-- What the functions of the first field do. -/
structure Fd1 (g : Nat) {α : Type} (en : α → Nat) (fa fs fm : α → α → α) (fi : α → α) (z : α) : Prop where
 ca : ∀ x y w, Mm w [(g, zT pB), (2, dtab)] → Calls Tryz.prog 68 #[PT g 0, N (en x), N (en y)] w (Rt w (N (en (fa x y))))
 cs : ∀ x y w, Mm w [(g, zT pB), (2, dtab)] → Calls Tryz.prog 69 #[PT g 0, N (en x), N (en y)] w (Rt w (N (en (fs x y))))
 cm : ∀ x y w, Mm w [(g, zT pB), (2, dtab)] → Calls Tryz.prog 70 #[PT g 0, N (en x), N (en y)] w (Rt w (N (en (fm x y))))
 cz : ∀ x w, Mm w [(g, zT pB), (2, dtab)] → Calls Tryz.prog 69 #[PT g 0, N 0, N (en x)] w (Rt w (N (en (fs z x))))
 ci : ∀ x w, x ≠ z → Mm w [(g, zT pB), (2, dtab)] → Calls Tryz.prog 71 #[PT g 0, N (en x)] w (Rt w (.tuple #[N (en (fi x)), .int .i64 0]))
theorem Fd1.ka {α : Type} {en : α → Nat} {fa fs fm : α → α → α} {fi : α → α} {z : α} {g : Nat} (C : Fd1 g en fa fs fm fi z) {x y r : α} (e : fa x y = r) (w : World) (hm : Mm w [(g, zT pB), (2, dtab)]) : Calls Tryz.prog 68 #[PT g 0, N (en x), N (en y)] w (Rt w (N (en r))) := by
 subst e
 exact C.ca x y w hm
theorem Fd1.ks {α : Type} {en : α → Nat} {fa fs fm : α → α → α} {fi : α → α} {z : α} {g : Nat} (C : Fd1 g en fa fs fm fi z) {x y r : α} (e : fs x y = r) (w : World) (hm : Mm w [(g, zT pB), (2, dtab)]) : Calls Tryz.prog 69 #[PT g 0, N (en x), N (en y)] w (Rt w (N (en r))) := by
 subst e
 exact C.cs x y w hm
theorem Fd1.km {α : Type} {en : α → Nat} {fa fs fm : α → α → α} {fi : α → α} {z : α} {g : Nat} (C : Fd1 g en fa fs fm fi z) {x y r : α} (e : fm x y = r) (w : World) (hm : Mm w [(g, zT pB), (2, dtab)]) : Calls Tryz.prog 70 #[PT g 0, N (en x), N (en y)] w (Rt w (N (en r))) := by
 subst e
 exact C.cm x y w hm
abbrev G2 (tn : Value) (u0 u1 b0 b1 : Nat) : List Value := [Value.func (.func 77) #[] #[], Value.func (.func 78) #[] #[], Value.func (.func 79) #[] #[], Value.func (.func 80) #[] #[], Value.func (.func 81) #[] #[]] ++ (cel [u0, u1, b0, b1] ++ [tn, Value.int .i64 1])
/-- What the functions of the second field do. -/
structure Fd2 {α : Type} (e0 e1 : α → Nat) (fa fs fm : α → α → α) (fi : α → α) (z : α) : Prop where
 ca : ∀ x y w, Mm w [(2, dtab)] → Calls Tryz.prog 77 #[V [e0 x, e1 x], V [e0 y, e1 y]] w (Rt w (V [e0 (fa x y), e1 (fa x y)]))
 cs : ∀ x y w, Mm w [(2, dtab)] → Calls Tryz.prog 78 #[V [e0 x, e1 x], V [e0 y, e1 y]] w (Rt w (V [e0 (fs x y), e1 (fs x y)]))
 cm : ∀ x y w, Mm w [(2, dtab)] → Calls Tryz.prog 79 #[V [e0 x, e1 x], V [e0 y, e1 y]] w (Rt w (V [e0 (fm x y), e1 (fm x y)]))
 cz : ∀ x w, Mm w [(2, dtab)] → Calls Tryz.prog 78 #[V [0, 0], V [e0 x, e1 x]] w (Rt w (V [e0 (fs z x), e1 (fs z x)]))
 ci : ∀ x w, x ≠ z → Mm w [(2, dtab)] → Calls Tryz.prog 80 #[V [e0 x, e1 x]] w (Rt w (.tuple #[V [e0 (fi x), e1 (fi x)], .int .i64 0]))
theorem Fd2.ka {α : Type} {e0 e1 : α → Nat} {fa fs fm : α → α → α} {fi : α → α} {z : α} (C : Fd2 e0 e1 fa fs fm fi z) {x y r : α} (e : fa x y = r) (w : World) (hm : Mm w [(2, dtab)]) : Calls Tryz.prog 77 #[V [e0 x, e1 x], V [e0 y, e1 y]] w (Rt w (V [e0 r, e1 r])) := by
 subst e
 exact C.ca x y w hm
theorem Fd2.ks {α : Type} {e0 e1 : α → Nat} {fa fs fm : α → α → α} {fi : α → α} {z : α} (C : Fd2 e0 e1 fa fs fm fi z) {x y r : α} (e : fs x y = r) (w : World) (hm : Mm w [(2, dtab)]) : Calls Tryz.prog 78 #[V [e0 x, e1 x], V [e0 y, e1 y]] w (Rt w (V [e0 r, e1 r])) := by
 subst e
 exact C.cs x y w hm
theorem Fd2.km {α : Type} {e0 e1 : α → Nat} {fa fs fm : α → α → α} {fi : α → α} {z : α} (C : Fd2 e0 e1 fa fs fm fi z) {x y r : α} (e : fm x y = r) (w : World) (hm : Mm w [(2, dtab)]) : Calls Tryz.prog 79 #[V [e0 x, e1 x], V [e0 y, e1 y]] w (Rt w (V [e0 r, e1 r])) := by
 subst e
 exact C.cm x y w hm
theorem double_1 {α : Type} {en : α → Nat} {fa fs fm : α → α → α} {fi : α → α} {z u b : α} {g : Nat} {tn : Value} (C : Fd1 g en fa fs fm fi z) (x : α) (w : World) (hm : Mm w [(g, zT pB), (2, dtab)]) :
  Calls Tryz.prog 135 #[.agg (G1 g tn (en u) (en b)).toArray, N (en x)] w (Rt w (N (en (fa x x)))) := by
 have H0 : Hid (_ ∧ _) := ⟨hm, Below.refl w.heap.size w⟩
 clear hm
 go_enter Tryz.func135, Tryz.ntmps135
 refine wp_seq ?_
 refine zC 3 [.made (G1 g tn (en u) (en b)) 82, .made (zB (en x)) 24, .made zero6 24] (sB H0) ?ho1 ?he1
 case ho1 => exact am (zQ rfl rfl) (am (zU rfl rfl) (am (zG rfl) trivial))
 intro J w1 l hM hl
 have H1 : Hid (Mm w1 ([(J 0, G1 g tn (en u) (en b)), (J 1, zB (en x)), (J 2, zero6)] ++ _) ∧ _) := wB H0 hM hl [0, 1, 2]
 have o1_0 := vB H0 hM hl 0
 have o1_1 := vB H0 hM hl 1
 have o1_2 := vB H0 hM hl 2
 clear hM hl l
 generalize J 0 = J1_0 at H1 o1_0 ⊢
 generalize J 1 = J1_1 at H1 o1_1 ⊢
 generalize J 2 = J1_2 at H1 o1_2 ⊢
 clear J
 refine rN (wp_seq ?_)
 refine zD 6 [.q (PT J1_0 0), .q (PT J1_0 0), .q (.func (.func 68) #[PT g 0] #[]), .q (N (en x)), .q (N (en x)), .call (N (en (fa x x)))] H1 ?ho2 ?he2
 case ho2 => exact ag (ag (bC 0 Ai76 (bN 1 (bN 1 (ac (fun w' h => ⟨68, #[PT g 0, N (en x), N (en x)], zM rfl call68 rfl (mpn rfl) rfl, C.ca _ _ w' (h.two 3 4 rfl rfl (by decide))⟩) trivial)))))
 intro _ w2 H2
 clear H1
 refine zH (l := [6]) rfl ?_
 refine sG rfl (fun h => zL h 2 rfl rfl rfl rfl (Nat.le_of_ble_eq_true rfl)) 2 [_, _, (_, zB (en (fa x x))), _, _] H2 o1_2 fun w3 H3 => ?_
 clear H2
 refine zE (zA (wp_ret ?_))
 repeat (first | refine zJ ?_ | refine zI ?_)
 have c0 := H3.out.1.get 2 rfl 0 rfl
 have c1 := H3.out.1.get 2 rfl 1 rfl
 have c2 := H3.out.1.get 2 rfl 2 rfl
 have c3 := H3.out.1.get 2 rfl 3 rfl
 have c4 := H3.out.1.get 2 rfl 4 rfl
 have c5 := H3.out.1.get 2 rfl 5 rfl
 refine bodyPost_ret (v := N (en (fa x x))) (by simp [results, Tryz.results135, go_sem, *]) rfl ?_
 exact ⟨rfl, H3.out.2⟩
theorem thrice_1 {α : Type} {en : α → Nat} {fa fs fm : α → α → α} {fi : α → α} {z u b : α} {g : Nat} {tn : Value} (C : Fd1 g en fa fs fm fi z) (x : α) (w : World) (hm : Mm w [(g, zT pB), (2, dtab)]) :
  Calls Tryz.prog 119 #[.agg (G1 g tn (en u) (en b)).toArray, N (en x)] w (Rt w (N (en (fa (fa x x) x)))) := by
 have H0 : Hid (_ ∧ _) := ⟨hm, Below.refl w.heap.size w⟩
 clear hm
 go_enter Tryz.func119, Tryz.ntmps119
 refine wp_seq ?_
 refine zC 3 [.made (G1 g tn (en u) (en b)) 82, .made (zB (en x)) 24, .made zero6 24] (sB H0) ?ho1 ?he1
 case ho1 => exact am (zQ rfl rfl) (am (zU rfl rfl) (am (zG rfl) trivial))
 intro J w1 l hM hl
 have H1 : Hid (Mm w1 ([(J 0, G1 g tn (en u) (en b)), (J 1, zB (en x)), (J 2, zero6)] ++ _) ∧ _) := wB H0 hM hl [0, 1, 2]
 have o1_0 := vB H0 hM hl 0
 have o1_1 := vB H0 hM hl 1
 have o1_2 := vB H0 hM hl 2
 clear hM hl l
 generalize J 0 = J1_0 at H1 o1_0 ⊢
 generalize J 1 = J1_1 at H1 o1_1 ⊢
 generalize J 2 = J1_2 at H1 o1_2 ⊢
 clear J
 refine rN (wp_seq ?_)
 refine zS 8 [.q (PT J1_0 0), .q (PT J1_0 0), .q (.func (.func 68) #[PT g 0] #[]), .q (.agg (G1 g tn (en u) (en b)).toArray), .q (N (en x)), .call (N (en (fa x x))), .q (N (en x)), .call (N (en (fa (fa x x) x)))] H1 ?ho2 ?he2
 case ho2 => exact ag (ag (bC 0 Ai76 (bT 0 Ai82 As82 (bN 1 (ac (fun w' h => eC call135 (double_1 C _ w' (h.two 3 4 rfl rfl (by decide)))) (bN 1 (ac (fun w' h => ⟨68, #[PT g 0, N (en (fa x x)), N (en x)], zM rfl call68 rfl (mpn rfl) rfl, C.ca _ _ w' (h.two 3 4 rfl rfl (by decide))⟩) trivial)))))))
 intro _ w2 H2
 clear H1
 refine zH (l := [8]) rfl ?_
 refine sG rfl (fun h => zL h 2 rfl rfl rfl rfl (Nat.le_of_ble_eq_true rfl)) 2 [_, _, (_, zB (en (fa (fa x x) x))), _, _] H2 o1_2 fun w3 H3 => ?_
 clear H2
 refine zE (zA (wp_ret ?_))
 repeat (first | refine zJ ?_ | refine zI ?_)
 have c0 := H3.out.1.get 2 rfl 0 rfl
 have c1 := H3.out.1.get 2 rfl 1 rfl
 have c2 := H3.out.1.get 2 rfl 2 rfl
 have c3 := H3.out.1.get 2 rfl 3 rfl
 have c4 := H3.out.1.get 2 rfl 4 rfl
 have c5 := H3.out.1.get 2 rfl 5 rfl
 refine bodyPost_ret (v := N (en (fa (fa x x) x))) (by simp [results, Tryz.results119, go_sem, *]) rfl ?_
 exact ⟨rfl, H3.out.2⟩
theorem doubleN_1 {α : Type} {en : α → Nat} {fa fs fm : α → α → α} {fi : α → α} {z u b : α} {g : Nat} {tn : Value} (C : Fd1 g en fa fs fm fi z) {x r : α} (e : fa x x = r) (w : World) (hm : Mm w [(g, zT pB), (2, dtab)]) : Calls Tryz.prog 135 #[.agg (G1 g tn (en u) (en b)).toArray, N (en x)] w (Rt w (N (en r))) := by
 subst e
 exact double_1 C x w hm
theorem thriceN_1 {α : Type} {en : α → Nat} {fa fs fm : α → α → α} {fi : α → α} {z u b : α} {g : Nat} {tn : Value} (C : Fd1 g en fa fs fm fi z) {x r : α} (e : fa (fa x x) x = r) (w : World) (hm : Mm w [(g, zT pB), (2, dtab)]) : Calls Tryz.prog 119 #[.agg (G1 g tn (en u) (en b)).toArray, N (en x)] w (Rt w (N (en r))) := by
 subst e
 exact thrice_1 C x w hm
theorem minus_1 {α : Type} {en : α → Nat} {fa fs fm : α → α → α} {fi : α → α} {z u b : α} {g : Nat} {tn : Value} (C : Fd1 g en fa fs fm fi z) (x : α) (w : World) (hm : Mm w [(g, zT pB), (2, dtab)]) :
  Calls Tryz.prog 76 #[.agg (G1 g tn (en u) (en b)).toArray, N (en x)] w (Rt w (N (en (fs z x)))) := by
 have H0 : Hid (_ ∧ _) := ⟨hm, Below.refl w.heap.size w⟩
 clear hm
 go_enter Tryz.func76, Tryz.ntmps76
 refine wp_seq ?_
 refine zC 3 [.made (G1 g tn (en u) (en b)) 82, .made (zB (en x)) 24, .made zero6 24] (sB H0) ?ho1 ?he1
 case ho1 => exact am (zQ rfl rfl) (am (zU rfl rfl) (am (zG rfl) trivial))
 intro J w1 l hM hl
 have H1 : Hid (Mm w1 ([(J 0, G1 g tn (en u) (en b)), (J 1, zB (en x)), (J 2, zero6)] ++ _) ∧ _) := wB H0 hM hl [0, 1, 2]
 have o1_0 := vB H0 hM hl 0
 have o1_1 := vB H0 hM hl 1
 have o1_2 := vB H0 hM hl 2
 clear hM hl l
 generalize J 0 = J1_0 at H1 o1_0 ⊢
 generalize J 1 = J1_1 at H1 o1_1 ⊢
 generalize J 2 = J1_2 at H1 o1_2 ⊢
 clear J
 refine rN (wp_seq ?_)
 refine zC 1 [.made zero6 24] (sB H1) ?ho2 ?he2
 case ho2 => exact am (zG rfl) trivial
 intro J w2 l hM hl
 have H2 : Hid (Mm w2 ([(J 0, zero6)] ++ _) ∧ _) := wB H1 hM hl [0]
 have o2_0 := vB H1 hM hl 0
 clear hM hl l H1
 generalize J 0 = J2_0 at H2 o2_0 ⊢
 clear J
 refine rN (wp_seq ?_)
 refine zD 6 [.q (PT J1_0 0), .q (PT J1_0 1), .q (.func (.func 69) #[PT g 0] #[]), .q (N 0), .q (N (en x)), .call (N (en (fs z x)))] H2 ?ho3 ?he3
 case ho3 => exact ag (ag (bC 1 Ai76 (aq (fun w' h => ex_load6 (v := 0) h 0 rfl rfl rfl zero_take) (bN 2 (ac (fun w' h => ⟨69, #[PT g 0, N 0, N (en x)], zM rfl call69 rfl (mpn rfl) rfl, C.cz _ w' (h.two 4 5 rfl rfl (by decide))⟩) trivial)))))
 intro _ w3 H3
 clear H2
 refine zH (l := [6]) rfl ?_
 refine sG rfl (fun h => zL h 3 rfl rfl rfl rfl (Nat.le_of_ble_eq_true rfl)) 3 [_, _, _, (_, zB (en (fs z x))), _, _] H3 o1_2 fun w4 H4 => ?_
 clear H3
 refine zE (zA (wp_ret ?_))
 repeat (first | refine zJ ?_ | refine zI ?_)
 have c0 := H4.out.1.get 3 rfl 0 rfl
 have c1 := H4.out.1.get 3 rfl 1 rfl
 have c2 := H4.out.1.get 3 rfl 2 rfl
 have c3 := H4.out.1.get 3 rfl 3 rfl
 have c4 := H4.out.1.get 3 rfl 4 rfl
 have c5 := H4.out.1.get 3 rfl 5 rfl
 refine bodyPost_ret (v := N (en (fs z x))) (by simp [results, Tryz.results76, go_sem, *]) rfl ?_
 exact ⟨rfl, H4.out.2⟩
theorem minus_2 {α : Type} {e0 e1 : α → Nat} {fa fs fm : α → α → α} {fi : α → α} {z u b : α} {tn : Value} (C : Fd2 e0 e1 fa fs fm fi z) (x : α) (w : World) (hm : Mm w [(2, dtab)]) :
  Calls Tryz.prog 86 #[.agg (G2 tn (e0 u) (e1 u) (e0 b) (e1 b)).toArray, V [e0 x, e1 x]] w (Rt w (V [e0 (fs z x), e1 (fs z x)])) := by
 have H0 : Hid (_ ∧ _) := ⟨hm, Below.refl w.heap.size w⟩
 clear hm
 go_enter Tryz.func86, Tryz.ntmps86
 refine wp_seq ?_
 refine zC 3 [.made (G2 tn (e0 u) (e1 u) (e0 b) (e1 b)) 93, .made (cel [e0 x, e1 x]) 33, .made (cel [0, 0]) 33] (sB H0) ?ho1 ?he1
 case ho1 => exact am (zQ rfl rfl) (am (ex_boxA rfl rfl) (am (ex_madeE2 rfl) trivial))
 intro J w1 l hM hl
 have H1 : Hid (Mm w1 ([(J 0, G2 tn (e0 u) (e1 u) (e0 b) (e1 b)), (J 1, cel [e0 x, e1 x]), (J 2, cel [0, 0])] ++ _) ∧ _) := wB H0 hM hl [0, 1, 2]
 have o1_0 := vB H0 hM hl 0
 have o1_1 := vB H0 hM hl 1
 have o1_2 := vB H0 hM hl 2
 clear hM hl l
 generalize J 0 = J1_0 at H1 o1_0 ⊢
 generalize J 1 = J1_1 at H1 o1_1 ⊢
 generalize J 2 = J1_2 at H1 o1_2 ⊢
 clear J
 refine rN (wp_seq ?_)
 refine zC 1 [.made (cel [0, 0]) 33] (sB H1) ?ho2 ?he2
 case ho2 => exact am (ex_madeE2 rfl) trivial
 intro J w2 l hM hl
 have H2 : Hid (Mm w2 ([(J 0, cel [0, 0])] ++ _) ∧ _) := wB H1 hM hl [0]
 have o2_0 := vB H1 hM hl 0
 clear hM hl l H1
 generalize J 0 = J2_0 at H2 o2_0 ⊢
 clear J
 refine rN (wp_seq ?_)
 refine zD 6 [.q (PT J1_0 0), .q (PT J1_0 1), .q (.func (.func 78) #[] #[]), .q (V [0, 0]), .q (V [e0 x, e1 x]), .call (V [e0 (fs z x), e1 (fs z x)])] H2 ?ho3 ?he3
 case ho3 => exact ag (ag (bC 1 Ai86 (bA 0 2 0 Ai33 As33 (bA 0 2 2 Ai33 As33 (ac (fun w' h => ⟨78, #[V [0, 0], V [e0 x, e1 x]], zM rfl call78 rfl (mpn rfl) rfl, C.cz _ w' (h.one 4 rfl)⟩) trivial)))))
 intro _ w3 H3
 clear H2
 refine zH (l := [6]) rfl ?_
 refine sF 3 [e0 (fs z x), e1 (fs z x)] [_, _, _, _, _] H3 o1_2 As33 fun w4 H4 => ?_
 clear H3
 refine zE (zA (wp_ret ?_))
 repeat (first | refine zJ ?_ | refine zI ?_)
 have hf0 := cel_var (k := 2) H4.out.1 3 rfl Ai33 As33 rfl
 refine bodyPost_ret (v := V [e0 (fs z x), e1 (fs z x)]) (by simp [results, Tryz.results86, asAddr, hf0]) rfl ?_
 exact ⟨rfl, H4.out.2⟩
theorem ex_madeQ {ρ : Operand → Value} {o : Oper} {w : World} (ho : o.op = .alloc 39) :
  (execOp ρ o).run Tryz.prog w = .ok (.value (.pointer (some ⟨w.heap.size, 0, none⟩))) (w.alloc (.cells ([Value.pointer none] : List Value).toArray 39)) := by
 simp only [execOp, ho]
 go_simp
theorem ex_storeQ {ρ : Operand → Value} {o : Oper} {x y : Operand} {g off g' : Nat} {cs : List Value} {w : World} {l : List (Nat × List Value)} (h : Mm w l) (k : Nat) (hk : l[k]? = some (g, cs)) (ho : o.op = .store 39 x y) (hx : ρ x = PT g off) (hy : ρ y = PT g' 0) (hc : off + 1 ≤ cs.length) :
  (execOp ρ o).run Tryz.prog w = .ok .skip (w.setCells g off [PT g' 0]) := by
 have hm := List.mem_of_getElem? hk
 have e : cs[off]? = some (cs[off]'(by omega)) := List.getElem?_eq_getElem _
 have c0 := h.cell hm e
 have f0 := h.free hm e
 clear h hm hk
 simp only [execOp, ho, hx, hy]
 go_simp
 simp [World.setCells]
theorem ex_buildFN {ρ : Operand → Value} {o : Oper} {x0 x1 x2 x3 x4 x5 : Operand} {f0 f1 f2 f3 f4 : Fn} {a0 a1 a2 a3 a4 b0 b1 b2 b3 b4 : Array Value} {u : Nat} {w : World} (ho : o.op = .build 79 #[(0, x0), (1, x1), (2, x2), (3, x3), (4, x4), (5, x5)]) (h0 : ρ x0 = .func f0 a0 b0) (h1 : ρ x1 = .func f1 a1 b1) (h2 : ρ x2 = .func f2 a2 b2) (h3 : ρ x3 = .func f3 a3 b3) (h4 : ρ x4 = .func f4 a4 b4) (h5 : ρ x5 = N u) : (execOp ρ o).run Tryz.prog w = .ok (.value (.agg ([Value.func f0 a0 b0, Value.func f1 a1 b1, Value.func f2 a2 b2, Value.func f3 a3 b3, Value.func f4 a4 b4] ++ cel [u]).toArray)) w := by
 simp only [execOp, ho, cel, List.cons_append, List.nil_append]
 go_simp
theorem ex_buildFE {ρ : Operand → Value} {o : Oper} {x0 x1 x2 x3 x4 x5 : Operand} {f0 f1 f2 f3 f4 : Fn} {a0 a1 a2 a3 a4 b0 b1 b2 b3 b4 : Array Value} {u0 u1 : Nat} {w : World} (ho : o.op = .build 90 #[(0, x0), (1, x1), (2, x2), (3, x3), (4, x4), (5, x5)]) (h0 : ρ x0 = .func f0 a0 b0) (h1 : ρ x1 = .func f1 a1 b1) (h2 : ρ x2 = .func f2 a2 b2) (h3 : ρ x3 = .func f3 a3 b3) (h4 : ρ x4 = .func f4 a4 b4) (h5 : ρ x5 = V [u0, u1]) : (execOp ρ o).run Tryz.prog w = .ok (.value (.agg ([Value.func f0 a0 b0, Value.func f1 a1 b1, Value.func f2 a2 b2, Value.func f3 a3 b3, Value.func f4 a4 b4] ++ cel [u0, u1]).toArray)) w := by
 simp only [V, cel, List.cons_append, List.nil_append] at h5
 simp only [execOp, ho, cel, List.cons_append, List.nil_append]
 go_simp
theorem ex_buildGN {ρ : Operand → Value} {o : Oper} {x0 x1 x2 x3 : Operand} {f0 f1 f2 f3 f4 f5 : Fn} {a0 a1 a2 a3 a4 a5 b0 b1 b2 b3 b4 b5 : Array Value} {u c : Nat} {k : Int} {w : World} (ho : o.op = .build 82 #[(0, x0), (1, x1), (2, x2), (3, x3)]) (h0 : ρ x0 = .agg ([Value.func f0 a0 b0, Value.func f1 a1 b1, Value.func f2 a2 b2, Value.func f3 a3 b3, Value.func f4 a4 b4] ++ cel [u]).toArray) (h1 : ρ x1 = N c) (h2 : ρ x2 = .func f5 a5 b5) (h3 : ρ x3 = .int .i64 k) : (execOp ρ o).run Tryz.prog w = .ok (.value (.agg ([Value.func f0 a0 b0, Value.func f1 a1 b1, Value.func f2 a2 b2, Value.func f3 a3 b3, Value.func f4 a4 b4] ++ (cel [u, c] ++ [Value.func f5 a5 b5, Value.int .i64 k])).toArray)) w := by
 simp only [cel, List.cons_append, List.nil_append] at h0
 simp only [execOp, ho, cel, List.cons_append, List.nil_append]
 go_simp
theorem ex_buildGE {ρ : Operand → Value} {o : Oper} {x0 x1 x2 x3 : Operand} {f0 f1 f2 f3 f4 f5 : Fn} {a0 a1 a2 a3 a4 a5 b0 b1 b2 b3 b4 b5 : Array Value} {u0 u1 c0 c1 : Nat} {k : Int} {w : World} (ho : o.op = .build 93 #[(0, x0), (1, x1), (2, x2), (3, x3)]) (h0 : ρ x0 = .agg ([Value.func f0 a0 b0, Value.func f1 a1 b1, Value.func f2 a2 b2, Value.func f3 a3 b3, Value.func f4 a4 b4] ++ cel [u0, u1]).toArray) (h1 : ρ x1 = V [c0, c1]) (h2 : ρ x2 = .func f5 a5 b5) (h3 : ρ x3 = .int .i64 k) : (execOp ρ o).run Tryz.prog w = .ok (.value (.agg ([Value.func f0 a0 b0, Value.func f1 a1 b1, Value.func f2 a2 b2, Value.func f3 a3 b3, Value.func f4 a4 b4] ++ (cel [u0, u1, c0, c1] ++ [Value.func f5 a5 b5, Value.int .i64 k])).toArray)) w := by
 simp only [V, cel, List.cons_append, List.nil_append] at h0 h1
 simp only [execOp, ho, cel, List.cons_append, List.nil_append]
 go_simp
theorem number_gen (sv : Value) (y : Nat) (ca : ∀ w, Calls Tryz.prog 58 #[sv] w (Rt w (.tuple #[N y, .int .i64 0]))) (w : World) :
  Calls Tryz.prog 32 #[sv] w (Rt w (N y)) := by
 have H0 : Hid (_ ∧ _) := ⟨Mm.nil w, Below.refl w.heap.size w⟩
 have CA : Hid _ := ca
 clear ca
 go_enter Tryz.func32, Tryz.ntmps32
 refine wp_seq ?_
 refine zC 1 [.made zero6 24] (sB H0) ?ho1 ?he1
 case ho1 => exact am (zG rfl) trivial
 intro J w1 l hM hl
 have H1 : Hid (Mm w1 [(J 0, zero6)] ∧ _) := wB H0 hM hl [0]
 have o1_0 := vB H0 hM hl 0
 clear hM hl l
 generalize J 0 = J1_0 at H1 o1_0 ⊢
 clear J
 refine rN (wp_seq ?_)
 refine zC 8 [.q (sv), .call (.tuple #[N y, .int .i64 0]), .q (.tuple #[N y, .int .i64 0]), .q (N y), .q (.int .i64 0), .made zero6 24, .laid 5 zero6 (zB y), .q (.int .i64 0)] (sB H1) ?ho2 ?he2 (hL := ?hL2)
 case hL2 => exact ⟨⟨_, rfl⟩, trivial⟩
 case ho2 => exact ar (ac (fun w' h => eC call58 (CA.out w')) (ar (ag (ag (am (zG rfl) (ak (fun J => ⟨rfl, rfl, rfl, fun w' h => zK h rfl rfl rfl⟩) (ar trivial)))))))
 intro J w2 l hM hl
 have H2 : Hid (Mm w2 ([(J 5, zB y)] ++ _) ∧ _) := wB H1 hM hl [5]
 have o2_5 := vB H1 hM hl 5
 clear hM hl l H1
 generalize J 5 = J2_5 at H2 o2_5 ⊢
 clear J
 refine rN (wp_seq ?_)
 refine zD 1 [.q (N y)] H2 ?ho3 ?he3
 case ho3 => exact bN 0 trivial
 intro _ w3 H3
 clear H2
 refine zH (l := [1]) rfl ?_
 refine sG rfl (fun h => zL h 1 rfl rfl rfl rfl (Nat.le_of_ble_eq_true rfl)) 1 [_, (_, zB y)] H3 o1_0 fun w4 H4 => ?_
 clear H3
 refine zE (zA (wp_ret ?_))
 repeat (first | refine zJ ?_ | refine zI ?_)
 have c0 := H4.out.1.get 1 rfl 0 rfl
 have c1 := H4.out.1.get 1 rfl 1 rfl
 have c2 := H4.out.1.get 1 rfl 2 rfl
 have c3 := H4.out.1.get 1 rfl 3 rfl
 have c4 := H4.out.1.get 1 rfl 4 rfl
 have c5 := H4.out.1.get 1 rfl 5 rfl
 refine bodyPost_ret (v := N y) (by simp [results, Tryz.results32, go_sem, *]) rfl ?_
 exact ⟨rfl, H4.out.2⟩
def bs_gx : ByteArray := ⟨#[49, 55, 102, 49, 100, 51, 97, 55, 51, 49, 57, 55, 100, 55, 57, 52, 50, 54, 57, 53, 54, 51, 56, 99, 52, 102, 97, 57, 97, 99, 48, 102, 99, 51, 54, 56, 56, 99, 52, 102, 57, 55, 55, 52, 98, 57, 48, 53, 97, 49, 52, 101, 51, 97, 51, 102, 49, 55, 49, 98, 97, 99, 53, 56, 54, 99, 53, 53, 101, 56, 51, 102, 102, 57, 55, 97, 49, 97, 101, 102, 102, 98, 51, 97, 102, 48, 48, 97, 100, 98, 50, 50, 99, 54, 98, 98]⟩
def gx : Nat := 3685416753713387016781088315183077757961620795782546409894578378688607592378376318836054947676345821548104185464507
theorem parse_gx (w : World) : Calls Tryz.prog 58 #[.string bs_gx] w (Rt w (.tuple #[N gx, .int .i64 0])) := by
 have h := parse_loop bs_gx (by decide +kernel) (by decide +kernel) (Or.inl (by decide +kernel)) w
 have e : prv bs_gx = .tuple #[N gx, .int .i64 0] := by
  unfold prv
  rw [if_pos (by decide +kernel), show pvv bs_gx bs_gx.size = gx by decide +kernel]
 rw [e] at h
 exact h
theorem numb_gx (w : World) : Calls Tryz.prog 32 #[.string bs_gx] w (Rt w (N gx)) := number_gen _ gx parse_gx w
def bs_gy : ByteArray := ⟨#[56, 98, 51, 102, 52, 56, 49, 101, 51, 97, 97, 97, 48, 102, 49, 97, 48, 57, 101, 51, 48, 101, 100, 55, 52, 49, 100, 56, 97, 101, 52, 102, 99, 102, 53, 101, 48, 57, 53, 100, 53, 100, 48, 48, 97, 102, 54, 48, 48, 100, 98, 49, 56, 99, 98, 50, 99, 48, 52, 98, 51, 101, 100, 100, 48, 51, 99, 99, 55, 52, 52, 97, 50, 56, 56, 56, 97, 101, 52, 48, 99, 97, 97, 50, 51, 50, 57, 52, 54, 99, 53, 101, 55, 101, 49]⟩
def gy : Nat := 1339506544944476473020471379941921221584933875938349620426543736416511423956333506472724655353366534992391756441569
theorem parse_gy (w : World) : Calls Tryz.prog 58 #[.string bs_gy] w (Rt w (.tuple #[N gy, .int .i64 0])) := by
 have h := parse_loop bs_gy (by decide +kernel) (by decide +kernel) (Or.inl (by decide +kernel)) w
 have e : prv bs_gy = .tuple #[N gy, .int .i64 0] := by
  unfold prv
  rw [if_pos (by decide +kernel), show pvv bs_gy bs_gy.size = gy by decide +kernel]
 rw [e] at h
 exact h
theorem numb_gy (w : World) : Calls Tryz.prog 32 #[.string bs_gy] w (Rt w (N gy)) := number_gen _ gy parse_gy w
def hx0 : Nat := 352701069587466618187139116011060144890029952792775240219908644239793785735715026873347600343865175952761926303160
def hx1 : Nat := 3059144344244213709971259814753781636986470325476647558659373206291635324768958432433509563104347017837885763365758
def hy0 : Nat := 1985150602287291935568054521177171638300868978215655730859378665066344726373823718423869104263333984641494340347905
def hy1 : Nat := 927553665492332455747201965776037880757740193453592970025027978793976877002675564980949289727957565575433344219582
def bs_tr : ByteArray := ⟨#[53, 102, 49, 57, 54, 55, 50, 102, 100, 102, 55, 54, 99, 101, 53, 49, 98, 97, 54, 57, 99, 54, 48, 55, 54, 97, 48, 102, 55, 55, 101, 97, 100, 100, 98, 51, 97, 57, 51, 98, 101, 54, 102, 56, 57, 54, 56, 56, 100, 101, 49, 55, 100, 56, 49, 51, 54, 50, 48, 97, 48, 48, 48, 50, 50, 101, 48, 49, 102, 102, 102, 102, 102, 102, 102, 101, 102, 102, 102, 101]⟩
def tr : Nat := 793479390729215512621379701633421447060886740281060493010456487427281649075476305620758731620350
theorem parse_tr (w : World) : Calls Tryz.prog 58 #[.string bs_tr] w (Rt w (.tuple #[N tr, .int .i64 0])) := by
 have h := parse_loop bs_tr (by decide +kernel) (by decide +kernel) (Or.inl (by decide +kernel)) w
 have e : prv bs_tr = .tuple #[N tr, .int .i64 0] := by
  unfold prv
  rw [if_pos (by decide +kernel), show pvv bs_tr bs_tr.size = tr by decide +kernel]
 rw [e] at h
 exact h
theorem numb_tr (w : World) : Calls Tryz.prog 32 #[.string bs_tr] w (Rt w (N tr)) := number_gen _ tr parse_tr w
def bs_tx1 : ByteArray := ⟨#[49, 97, 48, 49, 49, 49, 101, 97, 51, 57, 55, 102, 101, 54, 57, 57, 101, 99, 48, 50, 52, 48, 56, 54, 54, 51, 100, 52, 100, 101, 56, 53, 97, 97, 48, 100, 56, 53, 55, 100, 56, 57, 55, 53, 57, 97, 100, 52, 56, 57, 55, 100, 50, 57, 54, 53, 48, 102, 98, 56, 53, 102, 57, 98, 52, 48, 57, 52, 50, 55, 101, 98, 52, 102, 52, 57, 102, 102, 102, 100, 56, 98, 102, 100, 48, 48, 48, 48, 48, 48, 48, 48, 97, 97, 97, 100]⟩
def tx1 : Nat := 4002409555221667392624310435006688643935503118305586438271171395842971157480381377015405980053539358417135540939437
theorem parse_tx1 (w : World) : Calls Tryz.prog 58 #[.string bs_tx1] w (Rt w (.tuple #[N tx1, .int .i64 0])) := by
 have h := parse_loop bs_tx1 (by decide +kernel) (by decide +kernel) (Or.inl (by decide +kernel)) w
 have e : prv bs_tx1 = .tuple #[N tx1, .int .i64 0] := by
  unfold prv
  rw [if_pos (by decide +kernel), show pvv bs_tx1 bs_tx1.size = tx1 by decide +kernel]
 rw [e] at h
 exact h
theorem numb_tx1 (w : World) : Calls Tryz.prog 32 #[.string bs_tx1] w (Rt w (N tx1)) := number_gen _ tx1 parse_tx1 w
def bs_ty0 : ByteArray := ⟨#[49, 51, 53, 50, 48, 51, 101, 54, 48, 49, 56, 48, 97, 54, 56, 101, 101, 50, 101, 57, 99, 52, 52, 56, 100, 55, 55, 97, 50, 99, 100, 57, 49, 99, 51, 100, 101, 100, 100, 57, 51, 48, 98, 49, 99, 102, 54, 48, 101, 102, 51, 57, 54, 52, 56, 57, 102, 54, 49, 101, 98, 52, 53, 101, 51, 48, 52, 52, 54, 54, 99, 102, 51, 101, 54, 55, 102, 97, 48, 97, 102, 49, 101, 101, 55, 98, 48, 52, 49, 50, 49, 98, 100, 101, 97, 50]⟩
def ty0 : Nat := 2973677408986561043442465346520108879172042883009249989176415018091420807192182638567116318576472649347015917690530
theorem parse_ty0 (w : World) : Calls Tryz.prog 58 #[.string bs_ty0] w (Rt w (.tuple #[N ty0, .int .i64 0])) := by
 have h := parse_loop bs_ty0 (by decide +kernel) (by decide +kernel) (Or.inl (by decide +kernel)) w
 have e : prv bs_ty0 = .tuple #[N ty0, .int .i64 0] := by
  unfold prv
  rw [if_pos (by decide +kernel), show pvv bs_ty0 bs_ty0.size = ty0 by decide +kernel]
 rw [e] at h
 exact h
theorem numb_ty0 (w : World) : Calls Tryz.prog 32 #[.string bs_ty0] w (Rt w (N ty0)) := number_gen _ ty0 parse_ty0 w
def bs_ty1 : ByteArray := ⟨#[54, 97, 102, 48, 101, 48, 52, 51, 55, 102, 102, 52, 48, 48, 98, 54, 56, 51, 49, 101, 51, 54, 100, 54, 98, 100, 49, 55, 102, 102, 101, 52, 56, 51, 57, 53, 100, 97, 98, 99, 50, 100, 51, 52, 51, 53, 101, 55, 55, 102, 55, 54, 101, 49, 55, 48, 48, 57, 50, 52, 49, 99, 53, 101, 101, 54, 55, 57, 57, 50, 102, 55, 50, 101, 99, 48, 53, 102, 52, 99, 56, 49, 48, 56, 52, 102, 98, 101, 100, 101, 51, 99, 99, 48, 57]⟩
def ty1 : Nat := 1028732146235106349975324479215795277384839936929757896155643118032610843298655225875571310552543014690878354869257
theorem parse_ty1 (w : World) : Calls Tryz.prog 58 #[.string bs_ty1] w (Rt w (.tuple #[N ty1, .int .i64 0])) := by
 have h := parse_loop bs_ty1 (by decide +kernel) (by decide +kernel) (Or.inl (by decide +kernel)) w
 have e : prv bs_ty1 = .tuple #[N ty1, .int .i64 0] := by
  unfold prv
  rw [if_pos (by decide +kernel), show pvv bs_ty1 bs_ty1.size = ty1 by decide +kernel]
 rw [e] at h
 exact h
theorem numb_ty1 (w : World) : Calls Tryz.prog 32 #[.string bs_ty1] w (Rt w (N ty1)) := number_gen _ ty1 parse_ty1 w
theorem gen1_gen (qgx qgy : Nat) (cgx : ∀ w, Calls Tryz.prog 32 #[.string bs_gx] w (Rt w (N qgx))) (cgy : ∀ w, Calls Tryz.prog 32 #[.string bs_gy] w (Rt w (N qgy))) (w : World) :
  Calls Tryz.prog 9 #[] w (Rt w (.agg (zW qgx qgy false).toArray)) := by
 have H0 : Hid (_ ∧ _) := ⟨Mm.nil w, Below.refl w.heap.size w⟩
 have CGX : Hid _ := cgx
 clear cgx
 have CGY : Hid _ := cgy
 clear cgy
 go_enter Tryz.func9, Tryz.ntmps9
 refine wp_seq ?_
 refine zC 1 [.made (zW 0 0 false) 27] (sB H0) ?ho1 ?he1
 case ho1 => exact am (ex_madeP1 rfl) trivial
 intro J w1 l hM hl
 have H1 : Hid (Mm w1 [(J 0, zW 0 0 false)] ∧ _) := wB H0 hM hl [0]
 have o1_0 := vB H0 hM hl 0
 clear hM hl l
 generalize J 0 = J1_0 at H1 o1_0 ⊢
 clear J
 refine rN (wp_seq ?_)
 refine zD 3 [.call (N qgx), .call (N qgy), .q (.agg (zW qgx qgy false).toArray)] H1 ?ho2 ?he2
 case ho2 => exact ac (fun w' h => eC call32 (CGX.out w')) (ac (fun w' h => eC call32 (CGY.out w')) (ak (fun J => ⟨rfl, fun w' _ => ex_buildP1xy rfl rfl rfl⟩) trivial))
 intro _ w2 H2
 clear H1
 refine zH (l := [3]) rfl ?_
 refine sG rfl (fun h => ex_storeT (vs := zW qgx qgy false) h 0 rfl rfl rfl rfl As27 rfl (Nat.le_of_ble_eq_true rfl)) 0 [(_, zW qgx qgy false)] H2 o1_0 fun w3 H3 => ?_
 clear H2
 refine zE (zA (wp_ret ?_))
 repeat (first | refine zJ ?_ | refine zI ?_)
 have hf0 := var_T H3.out.1 0 rfl Ai27 As27 rfl
 refine bodyPost_ret (v := .agg (zW qgx qgy false).toArray) (by simp [results, Tryz.results9, asAddr, hf0]) rfl ?_
 exact ⟨rfl, H3.out.2⟩
theorem belowG_gen (a n : Nat) (r : Int) (cb : ∀ w, Calls Tryz.prog 67 #[] w (Rt w (N n))) (cc : ∀ w, Calls Tryz.prog 38 #[N a, N n] w (Rt w (.int .i64 r))) (bl : Bool) (hr : decide (r < 0) = bl) (w : World) :
  Calls Tryz.prog 72 #[N a] w (Rt w (.bool bl)) := by
 have H0 : Hid (_ ∧ _) := ⟨Mm.nil w, Below.refl w.heap.size w⟩
 have CB : Hid _ := cb
 clear cb
 have CC : Hid _ := cc
 clear cc
 have HR : Hid _ := hr
 clear hr
 go_enter Tryz.func72, Tryz.ntmps72
 refine wp_seq ?_
 refine zC 2 [.made (zB a) 24, .q (.bool false)] (sB H0) ?ho1 ?he1
 case ho1 => exact am (zU rfl rfl) (ar trivial)
 intro J w1 l hM hl
 have H1 : Hid (Mm w1 [(J 0, zB a)] ∧ _) := wB H0 hM hl [0]
 have o1_0 := vB H0 hM hl 0
 clear hM hl l
 generalize J 0 = J1_0 at H1 o1_0 ⊢
 clear J
 refine rN (wp_seq ?_)
 refine zS 5 [.q (N a), .call (N n), .call (.int .i64 r), .q (.bool bl), .q (.bool bl)] H1 ?ho2 ?he2
 case ho2 => exact bN 0 (ac (fun w' h => eC call67 (CB.out w')) (ac (fun w' h => eC call38 (CC.out w')) (ak (by refine fun J => ⟨rfl, fun w' h => ?_⟩; clear h; rw [← HR.out]; go_simp) (ar trivial))))
 intro _ w2 H2
 clear H1
 refine rN (wp_ret ?_)
 repeat (first | refine zJ ?_ | refine zI ?_)
 refine bodyPost_ret (v := .bool bl) (by simp [results, Tryz.results72, go_sem, *]) rfl ?_
 exact ⟨rfl, H2.out.2⟩
theorem belowF_gen (a0 a1 : Nat) (ca : ∀ w, Calls Tryz.prog 72 #[N a0] w (Rt w (.bool false))) (w : World) :
  Calls Tryz.prog 81 #[V [a0, a1]] w (Rt w (.bool false)) := by
 have H0 : Hid (_ ∧ _) := ⟨Mm.nil w, Below.refl w.heap.size w⟩
 have CA : Hid _ := ca
 clear ca
 go_enter Tryz.func81, Tryz.ntmps81
 refine wp_seq ?_
 refine zC 2 [.made (cel [a0, a1]) 33, .q (.bool false)] (sB H0) ?ho1 ?he1
 case ho1 => exact am (ex_boxA rfl rfl) (ar trivial)
 intro J w1 l hM hl
 have H1 : Hid (Mm w1 [(J 0, cel [a0, a1])] ∧ _) := wB H0 hM hl [0]
 have o1_0 := vB H0 hM hl 0
 clear hM hl l
 generalize J 0 = J1_0 at H1 o1_0 ⊢
 clear J
 refine rN (wp_seq ?_)
 refine zD 9 [.q (PT J1_0 0), .q (N a0), .call (.bool false), .q (.bool false), .gone, .gone, .gone, .q (.bool false), .q (.bool false)] H1 ?ho2 ?he2
 case ho2 => exact ag (aq (fun w' h => zO (i := 0) h 0 rfl rfl rfl rfl) (ac (fun w' h => eC call72 (CA.out w')) (ar (ak (fun J => rfl) (ak (fun J => rfl) (ak (fun J => rfl) (ag (ar trivial))))))))
 intro _ w2 H2
 clear H1
 refine rN (wp_ret ?_)
 repeat (first | refine zJ ?_ | refine zI ?_)
 refine bodyPost_ret (v := .bool false) (by simp [results, Tryz.results81, go_sem, *]) rfl ?_
 exact ⟨rfl, H2.out.2⟩
theorem belowT_gen (a0 a1 : Nat) (ca : ∀ w, Calls Tryz.prog 72 #[N a0] w (Rt w (.bool true))) (b1 : Bool) (cb : ∀ w, Calls Tryz.prog 72 #[N a1] w (Rt w (.bool b1))) (w : World) :
  Calls Tryz.prog 81 #[V [a0, a1]] w (Rt w (.bool b1)) := by
 have H0 : Hid (_ ∧ _) := ⟨Mm.nil w, Below.refl w.heap.size w⟩
 have CA : Hid _ := ca
 clear ca
 have CB : Hid _ := cb
 clear cb
 go_enter Tryz.func81, Tryz.ntmps81
 refine wp_seq ?_
 refine zC 2 [.made (cel [a0, a1]) 33, .q (.bool false)] (sB H0) ?ho1 ?he1
 case ho1 => exact am (ex_boxA rfl rfl) (ar trivial)
 intro J w1 l hM hl
 have H1 : Hid (Mm w1 [(J 0, cel [a0, a1])] ∧ _) := wB H0 hM hl [0]
 have o1_0 := vB H0 hM hl 0
 clear hM hl l
 generalize J 0 = J1_0 at H1 o1_0 ⊢
 clear J
 refine rN (wp_seq ?_)
 refine zD 9 [.q (PT J1_0 0), .q (N a0), .call (.bool true), .q (.bool true), .q (PT J1_0 6), .q (N a1), .call (.bool b1), .q (.bool b1), .q (.bool b1)] H1 ?ho2 ?he2
 case ho2 => exact ag (aq (fun w' h => zO (i := 0) h 0 rfl rfl rfl rfl) (ac (fun w' h => eC call72 (CA.out w')) (ar (ag (aq (fun w' h => zO (i := 1) h 0 rfl rfl rfl rfl) (ac (fun w' h => eC call72 (CB.out w')) (ag (ar trivial))))))))
 intro _ w2 H2
 clear H1
 refine rN (wp_ret ?_)
 repeat (first | refine zJ ?_ | refine zI ?_)
 refine bodyPost_ret (v := .bool b1) (by simp [results, Tryz.results81, go_sem, *]) rfl ?_
 exact ⟨rfl, H2.out.2⟩
set_option maxHeartbeats 2000000 in
theorem Check_1 (one four x y : Nat) (zb bz : Bool) (cf : ∀ w, Calls Tryz.prog 41 #[] w fun e w' => Below w.heap.size w w' ∧ ∃ g x y, e = .returned (.agg (G1 g (.func (.func 73) #[] #[PT x 0, PT y 0]) one four).toArray) ∧ w.heap.size ≤ g ∧ g < w'.heap.size ∧ Blk w' g (zT pB)) (cm : ∀ g tn w, Mm w [(g, zT pB), (2, dtab)] → Calls Tryz.prog 45 #[(.agg (G1 g tn one four).toArray), .agg (zW x y zb).toArray] w (Rt w (.bool bz))) (w : World) (hm : Mm w [(2, dtab)]) :
  Calls Tryz.prog 18 #[.agg (zW x y zb).toArray] w (Rt w (.bool bz)) := by
 have H0 : Hid (_ ∧ _) := ⟨hm, Below.refl w.heap.size w⟩
 clear hm
 have CF : Hid _ := cf
 clear cf
 have CM : Hid _ := cm
 clear cm
 go_enter Tryz.func18, Tryz.ntmps18
 refine wp_seq ?_
 refine zC 2 [.made (zW x y zb) 27, .q (.bool false)] (sB H0) ?ho1 ?he1
 case ho1 => exact am (zQ rfl rfl) (ar trivial)
 intro J w1 l hM hl
 have H1 : Hid (Mm w1 ([(J 0, zW x y zb)] ++ _) ∧ _) := wB H0 hM hl [0]
 have o1_0 := vB H0 hM hl 0
 clear hM hl l
 generalize J 0 = J1_0 at H1 o1_0 ⊢
 clear J
 refine rN (wp_seq ?_)
 refine zP 4 [.bornX (fun g x y => .agg (G1 g (.func (.func 73) #[] #[PT x 0, PT y 0]) one four).toArray) (zT pB), .q (.agg (zW x y zb).toArray), .over (.bool bz) 0 (zT pB), .q (.bool bz)] (sB H1) ?ho2 ?he2 (hL := ?hL2)
 case hL2 => exact ⟨⟨_, rfl⟩, trivial⟩
 case ho2 => exact ak (fun J => ⟨rfl, fun w' h => eC call41 (CF.out w')⟩) (bT 0 Ai27 As27 (ak (fun J => ⟨rfl, fun u w' h0 hge h1 hb hlt => by have h := Mm.over h0 hge h1 hb hlt; exact eC call45 (CM.out _ _ w' (h.two 0 2 rfl rfl (by decide)))⟩) (ar trivial)))
 intro J w2 l hM hl
 have H2 : Hid (Mm w2 ([(J 0, zT pB)] ++ _) ∧ _) := wB H1 hM hl [0]
 have o2_0 := vB H1 hM hl 0
 clear hM hl l H1
 generalize J 0 = J2_0 at H2 o2_0 ⊢
 generalize J 65536 = J2_65536
 generalize J 131072 = J2_131072
 clear J
 refine rN (wp_ret ?_)
 repeat (first | refine zJ ?_ | refine zI ?_)
 refine bodyPost_ret (v := .bool bz) (by simp [results, Tryz.results18, go_sem, *]) rfl ?_
 exact ⟨rfl, H2.out.2⟩
set_option maxHeartbeats 2000000 in
theorem Neg_1 (one four x y r k : Nat) (zb zr : Bool) (er : Int) (cf : ∀ w, Calls Tryz.prog 41 #[] w fun e w' => Below w.heap.size w w' ∧ ∃ g x y, e = .returned (.agg (G1 g (.func (.func 73) #[] #[PT x 0, PT y 0]) one four).toArray) ∧ w.heap.size ≤ g ∧ g < w'.heap.size ∧ Blk w' g (zT pB)) (cm : ∀ g tn w, Mm w [(g, zT pB), (2, dtab)] → Calls Tryz.prog 46 #[(.agg (G1 g tn one four).toArray), .agg (zW x y zb).toArray] w (Rt w (.tuple #[.agg (zW r k zr).toArray, .int .i64 er]))) (w : World) (hm : Mm w [(2, dtab)]) :
  Calls Tryz.prog 19 #[.agg (zW x y zb).toArray] w (Rt w (.tuple #[.agg (zW r k zr).toArray, .int .i64 er])) := by
 have H0 : Hid (_ ∧ _) := ⟨hm, Below.refl w.heap.size w⟩
 clear hm
 have CF : Hid _ := cf
 clear cf
 have CM : Hid _ := cm
 clear cm
 go_enter Tryz.func19, Tryz.ntmps19
 refine wp_seq ?_
 refine zC 3 [.made (zW x y zb) 27, .made (zW 0 0 false) 27, .q (.int .i64 0)] (sB H0) ?ho1 ?he1
 case ho1 => exact am (zQ rfl rfl) (am (ex_madeP1 rfl) (ar trivial))
 intro J w1 l hM hl
 have H1 : Hid (Mm w1 ([(J 0, zW x y zb), (J 1, zW 0 0 false)] ++ _) ∧ _) := wB H0 hM hl [0, 1]
 have o1_0 := vB H0 hM hl 0
 have o1_1 := vB H0 hM hl 1
 clear hM hl l
 generalize J 0 = J1_0 at H1 o1_0 ⊢
 generalize J 1 = J1_1 at H1 o1_1 ⊢
 clear J
 refine rN (wp_seq ?_)
 refine zP 9 [.bornX (fun g x y => .agg (G1 g (.func (.func 73) #[] #[PT x 0, PT y 0]) one four).toArray) (zT pB), .q (.agg (zW x y zb).toArray), .over (.tuple #[.agg (zW r k zr).toArray, .int .i64 er]) 0 (zT pB), .q (.tuple #[.agg (zW r k zr).toArray, .int .i64 er]), .q (.agg (zW r k zr).toArray), .q (.int .i64 er), .made (zW 0 0 false) 85, .laid 6 (zW 0 0 false) (zW r k zr), .q (.int .i64 er)] (sB H1) ?ho2 ?he2 (hL := ?hL2)
 case hL2 => exact ⟨⟨_, rfl⟩, ⟨_, rfl⟩, trivial⟩
 case ho2 => exact ak (fun J => ⟨rfl, fun w' h => eC call41 (CF.out w')⟩) (bT 0 Ai27 As27 (ak (fun J => ⟨rfl, fun u w' h0 hge h1 hb hlt => by have h := Mm.over h0 hge h1 hb hlt; exact eC call46 (CM.out _ _ w' (h.two 0 3 rfl rfl (by decide)))⟩) (ar (ag (ag (am (ex_madePN rfl) (ak (fun J => ⟨rfl, rfl, rfl, fun w' h => ex_laidT h rfl rfl As85 rfl rfl rfl⟩) (ar trivial))))))))
 intro J w2 l hM hl
 have H2 : Hid (Mm w2 ([(J 0, zT pB), (J 6, zW r k zr)] ++ _) ∧ _) := wB H1 hM hl [0, 6]
 have o2_0 := vB H1 hM hl 0
 have o2_6 := vB H1 hM hl 6
 clear hM hl l H1
 generalize J 0 = J2_0 at H2 o2_0 ⊢
 generalize J 6 = J2_6 at H2 o2_6 ⊢
 generalize J 65536 = J2_65536
 generalize J 131072 = J2_131072
 clear J
 refine rN (wp_seq ?_)
 refine zD 2 [.q (.agg (zW r k zr).toArray), .q (.int .i64 er)] H2 ?ho3 ?he3
 case ho3 => exact bT 1 Ai85 As85 (ar trivial)
 intro _ w3 H3
 clear H2
 refine zH (l := [2, 3]) rfl ?_
 refine sG rfl (fun h => ex_storeT (vs := zW r k zr) h 3 rfl rfl rfl rfl As27 rfl (Nat.le_of_ble_eq_true rfl)) 3 [_, _, _, (_, zW r k zr), _] H3 o1_1 fun w4 H4 => ?_
 clear H3
 refine zF (d := 3) rfl rfl rfl rfl ?_
 simp only [Act.put, sa, sz, ss]
 refine zE (zA (wp_ret ?_))
 repeat (first | refine zJ ?_ | refine zI ?_)
 have hf0 := var_T H4.out.1 3 rfl Ai27 As27 rfl
 refine bodyPost_ret (v := .tuple #[.agg (zW r k zr).toArray, .int .i64 er]) (by simp [results, Tryz.results19, asAddr, Act.eval, hf0]) rfl ?_
 exact ⟨rfl, H4.out.2⟩
set_option maxHeartbeats 2000000 in
theorem Check_2 (one four x0 x1 y0 y1 : Nat) (zb bz : Bool) (cf : ∀ w, Calls Tryz.prog 43 #[] w fun e w' => Below w.heap.size w w' ∧ ∃ g x, ∃ _y : Nat, e = .returned (.agg (G2 (.func (.func 82) #[] #[PT g 0, PT x 0]) one 0 four four).toArray) ∧ w.heap.size ≤ g ∧ g < w'.heap.size ∧ Blk w' g ([])) (cm : ∀ tn w, Mm w [(2, dtab)] → Calls Tryz.prog 57 #[(.agg (G2 tn one 0 four four).toArray), .agg (pc2 x0 x1 y0 y1 zb).toArray] w (Rt w (.bool bz))) (w : World) (hm : Mm w [(2, dtab)]) :
  Calls Tryz.prog 31 #[.agg (pc2 x0 x1 y0 y1 zb).toArray] w (Rt w (.bool bz)) := by
 have H0 : Hid (_ ∧ _) := ⟨hm, Below.refl w.heap.size w⟩
 clear hm
 have CF : Hid _ := cf
 clear cf
 have CM : Hid _ := cm
 clear cm
 go_enter Tryz.func31, Tryz.ntmps31
 refine wp_seq ?_
 refine zC 2 [.made (pc2 x0 x1 y0 y1 zb) 35, .q (.bool false)] (sB H0) ?ho1 ?he1
 case ho1 => exact am (zQ rfl rfl) (ar trivial)
 intro J w1 l hM hl
 have H1 : Hid (Mm w1 ([(J 0, pc2 x0 x1 y0 y1 zb)] ++ _) ∧ _) := wB H0 hM hl [0]
 have o1_0 := vB H0 hM hl 0
 clear hM hl l
 generalize J 0 = J1_0 at H1 o1_0 ⊢
 clear J
 refine rN (wp_seq ?_)
 refine zP 4 [.bornX (fun g x y => .agg (G2 (.func (.func 82) #[] #[PT g 0, PT x 0]) one 0 four four).toArray) ([]), .q (.agg (pc2 x0 x1 y0 y1 zb).toArray), .over (.bool bz) 0 ([]), .q (.bool bz)] (sB H1) ?ho2 ?he2 (hL := ?hL2)
 case hL2 => exact ⟨⟨_, rfl⟩, trivial⟩
 case ho2 => exact ak (fun J => ⟨rfl, fun w' h => eC call43 (CF.out w')⟩) (bT 0 Ai35 As35 (ak (fun J => ⟨rfl, fun u w' h0 hge h1 hb hlt => by have h := Mm.over h0 hge h1 hb hlt; exact eC call57 (CM.out _ w' (h.one 2 rfl))⟩) (ar trivial)))
 intro J w2 l hM hl
 have H2 : Hid (Mm w2 ([(J 0, [])] ++ _) ∧ _) := wB H1 hM hl [0]
 have o2_0 := vB H1 hM hl 0
 clear hM hl l H1
 generalize J 0 = J2_0 at H2 o2_0 ⊢
 generalize J 65536 = J2_65536
 clear J
 refine rN (wp_ret ?_)
 repeat (first | refine zJ ?_ | refine zI ?_)
 refine bodyPost_ret (v := .bool bz) (by simp [results, Tryz.results31, go_sem, *]) rfl ?_
 exact ⟨rfl, H2.out.2⟩
set_option maxHeartbeats 2000000 in
theorem Neg_2 (one four x0 x1 y0 y1 r0 r1 k0 k1 : Nat) (zb zr : Bool) (er : Int) (cf : ∀ w, Calls Tryz.prog 43 #[] w fun e w' => Below w.heap.size w w' ∧ ∃ g x, ∃ _y : Nat, e = .returned (.agg (G2 (.func (.func 82) #[] #[PT g 0, PT x 0]) one 0 four four).toArray) ∧ w.heap.size ≤ g ∧ g < w'.heap.size ∧ Blk w' g ([])) (cm : ∀ tn w, Mm w [(2, dtab)] → Calls Tryz.prog 56 #[(.agg (G2 tn one 0 four four).toArray), .agg (pc2 x0 x1 y0 y1 zb).toArray] w (Rt w (.tuple #[.agg (pc2 r0 r1 k0 k1 zr).toArray, .int .i64 er]))) (w : World) (hm : Mm w [(2, dtab)]) :
  Calls Tryz.prog 30 #[.agg (pc2 x0 x1 y0 y1 zb).toArray] w (Rt w (.tuple #[.agg (pc2 r0 r1 k0 k1 zr).toArray, .int .i64 er])) := by
 have H0 : Hid (_ ∧ _) := ⟨hm, Below.refl w.heap.size w⟩
 clear hm
 have CF : Hid _ := cf
 clear cf
 have CM : Hid _ := cm
 clear cm
 go_enter Tryz.func30, Tryz.ntmps30
 refine wp_seq ?_
 refine zC 3 [.made (pc2 x0 x1 y0 y1 zb) 35, .made (pc2 0 0 0 0 false) 35, .q (.int .i64 0)] (sB H0) ?ho1 ?he1
 case ho1 => exact am (zQ rfl rfl) (am (ex_madeP2 rfl) (ar trivial))
 intro J w1 l hM hl
 have H1 : Hid (Mm w1 ([(J 0, pc2 x0 x1 y0 y1 zb), (J 1, pc2 0 0 0 0 false)] ++ _) ∧ _) := wB H0 hM hl [0, 1]
 have o1_0 := vB H0 hM hl 0
 have o1_1 := vB H0 hM hl 1
 clear hM hl l
 generalize J 0 = J1_0 at H1 o1_0 ⊢
 generalize J 1 = J1_1 at H1 o1_1 ⊢
 clear J
 refine rN (wp_seq ?_)
 refine zP 9 [.bornX (fun g x y => .agg (G2 (.func (.func 82) #[] #[PT g 0, PT x 0]) one 0 four four).toArray) ([]), .q (.agg (pc2 x0 x1 y0 y1 zb).toArray), .over (.tuple #[.agg (pc2 r0 r1 k0 k1 zr).toArray, .int .i64 er]) 0 ([]), .q (.tuple #[.agg (pc2 r0 r1 k0 k1 zr).toArray, .int .i64 er]), .q (.agg (pc2 r0 r1 k0 k1 zr).toArray), .q (.int .i64 er), .made (pc2 0 0 0 0 false) 96, .laid 6 (pc2 0 0 0 0 false) (pc2 r0 r1 k0 k1 zr), .q (.int .i64 er)] (sB H1) ?ho2 ?he2 (hL := ?hL2)
 case hL2 => exact ⟨⟨_, rfl⟩, ⟨_, rfl⟩, trivial⟩
 case ho2 => exact ak (fun J => ⟨rfl, fun w' h => eC call43 (CF.out w')⟩) (bT 0 Ai35 As35 (ak (fun J => ⟨rfl, fun u w' h0 hge h1 hb hlt => by have h := Mm.over h0 hge h1 hb hlt; exact eC call56 (CM.out _ w' (h.one 3 rfl))⟩) (ar (ag (ag (am (ex_madePE rfl) (ak (fun J => ⟨rfl, rfl, rfl, fun w' h => ex_laidT h rfl rfl As96 rfl rfl rfl⟩) (ar trivial))))))))
 intro J w2 l hM hl
 have H2 : Hid (Mm w2 ([(J 0, []), (J 6, pc2 r0 r1 k0 k1 zr)] ++ _) ∧ _) := wB H1 hM hl [0, 6]
 have o2_0 := vB H1 hM hl 0
 have o2_6 := vB H1 hM hl 6
 clear hM hl l H1
 generalize J 0 = J2_0 at H2 o2_0 ⊢
 generalize J 6 = J2_6 at H2 o2_6 ⊢
 generalize J 65536 = J2_65536
 clear J
 refine rN (wp_seq ?_)
 refine zD 2 [.q (.agg (pc2 r0 r1 k0 k1 zr).toArray), .q (.int .i64 er)] H2 ?ho3 ?he3
 case ho3 => exact bT 1 Ai96 As96 (ar trivial)
 intro _ w3 H3
 clear H2
 refine zH (l := [2, 3]) rfl ?_
 refine sG rfl (fun h => ex_storeT (vs := pc2 r0 r1 k0 k1 zr) h 3 rfl rfl rfl rfl As35 rfl (Nat.le_of_ble_eq_true rfl)) 3 [_, _, _, (_, pc2 r0 r1 k0 k1 zr), _] H3 o1_1 fun w4 H4 => ?_
 clear H3
 refine zF (d := 3) rfl rfl rfl rfl ?_
 simp only [Act.put, sa, sz, ss]
 refine zE (zA (wp_ret ?_))
 repeat (first | refine zJ ?_ | refine zI ?_)
 have hf0 := var_T H4.out.1 3 rfl Ai35 As35 rfl
 refine bodyPost_ret (v := .tuple #[.agg (pc2 r0 r1 k0 k1 zr).toArray, .int .i64 er]) (by simp [results, Tryz.results30, asAddr, Act.eval, hf0]) rfl ?_
 exact ⟨rfl, H4.out.2⟩
theorem putM (g n c : Nat) (f : Nat → Int) (z u : Bool) (hn : 0 < n) (w : World) (hm : Mm w [(g, by8 f n)]) :
  Calls Tryz.prog 51 #[.slice (some ⟨g, 0, none⟩) n c, .bool z, .bool u] w fun e w' => e = .returned (.tuple #[]) ∧ Mm w' [(g, by8 (upd f 0 (fl8 z u (f 0))) n)] ∧ Kp g w w' :=
 (put_any g n c f z u hn w (row8_blk (hm.blk _ (List.mem_cons_self ..)).2)).mono fun e w' ⟨he, hr, hk⟩ => ⟨he, ⟨fun p hp => by
  rw [List.mem_singleton.1 hp]
  exact ⟨Nat.lt_of_lt_of_le (hm.blk _ (List.mem_cons_self ..)).1 hk.size, blk_row8 hr⟩, List.pairwise_singleton _ _⟩, hk⟩
set_option maxHeartbeats 2000000 in
theorem bytes1_ok (x y : Nat) (zb bl : Bool) (ck : ∀ w, Mm w [(2, dtab)] → Calls Tryz.prog 18 #[.agg (zW x y zb).toArray] w (Rt w (.bool true))) (cb : ∀ w, Calls Tryz.prog 50 #[N x] w fun e w' => Below w.heap.size w w' ∧ ∃ g, e = .returned (.slice (some ⟨g, 0, none⟩) 48 48) ∧ w.heap.size ≤ g ∧ g < w'.heap.size ∧ Blk w' g (by8 (nby x) 48)) (cg : ∀ w, Calls Tryz.prog 52 #[N y] w (Rt w (.bool bl))) (w : World) (hm : Mm w [(2, dtab)]) :
  Calls Tryz.prog 25 #[.agg (zW x y zb).toArray] w fun e w' => Below w.heap.size w w' ∧ ∃ g, e = .returned (.tuple #[.slice (some ⟨g, 0, none⟩) 48 48, .int .i64 0]) ∧ w.heap.size ≤ g ∧ g < w'.heap.size ∧ Blk w' g (by8 (upd (nby x) 0 (fl8 zb bl (nby x 0))) 48) := by
 have H0 : Hid (_ ∧ _) := ⟨hm, Below.refl w.heap.size w⟩
 clear hm
 have CK : Hid _ := ck
 clear ck
 have CB : Hid _ := cb
 clear cb
 have CG : Hid _ := cg
 clear cg
 go_enter Tryz.func25, Tryz.ntmps25
 refine wp_seq ?_
 refine zC 3 [.made (zW x y zb) 27, .q (.slice none 0 0), .q (.int .i64 0)] (sB H0) ?ho1 ?he1
 case ho1 => exact am (zQ rfl rfl) (ar (ar trivial))
 intro J w1 l hM hl
 have H1 : Hid (Mm w1 ([(J 0, zW x y zb)] ++ _) ∧ _) := wB H0 hM hl [0]
 have o1_0 := vB H0 hM hl 0
 clear hM hl l
 generalize J 0 = J1_0 at H1 o1_0 ⊢
 clear J
 refine rN (wp_seq (wp_seq ?_))
 refine zD 3 [.q (.agg (zW x y zb).toArray), .call (.bool true), .q (.bool false)] H1 ?ho2 ?he2
 case ho2 => exact bT 0 Ai27 As27 (ac (fun w' h => eC call18 (CK.out w' (h.one 1 rfl))) (ag trivial))
 intro _ w2 H2
 clear H1
 refine rN (wp_cond_false rfl ?_)
 refine wp_skip (zA (wp_seq ?_))
 refine zC 3 [.q (PT J1_0 0), .q (N x), .born (fun g => .slice (some ⟨g, 0, none⟩) 48 48) (by8 (nby x) 48)] (sB H2) ?ho3 ?he3
 case ho3 => exact ag (bN 0 (ak (fun J => ⟨rfl, fun w' h => eC call50 (CB.out w')⟩) trivial))
 intro J w3 l hM hl
 have H3 : Hid (Mm w3 ([(J 2, by8 (nby x) 48)] ++ _) ∧ _) := wB H2 hM hl [2]
 have o3_2 := vB H2 hM hl 2
 clear hM hl l H2
 generalize J 2 = J3_2 at H3 o3_2 ⊢
 clear J
 refine zH (l := [3]) rfl ?_
 refine zF (d := 4) rfl rfl rfl rfl ?_
 simp only [Act.put, sa, sz, ss]
 refine zE (zA (wp_seq ?_))
 refine zS 6 [.q (.slice (some ⟨J3_2, 0, none⟩) 48 48), .q (PT J1_0 12), .q (.bool zb), .q (PT J1_0 6), .q (N y), .call (.bool bl)] H3 ?ho4 ?he4
 case ho4 => exact ar (ag (bC 1 Ai4 (ag (bN 1 (ac (fun w' h => eC call52 (CG.out w')) trivial)))))
 intro _ w4 H4
 clear H3
 refine zH (l := [6]) rfl ?_
 refine rest_enter (d := 17) (R := fun vv w' => vv = .tuple #[] ∧ Mm w' [(J3_2, by8 (upd (nby x) 0 (fl8 zb bl (nby x 0))) 48)] ∧ Kp J3_2 w4 w') rfl rfl rfl (exec_call (args := #[.slice (some ⟨J3_2, 0, none⟩) 48 48, .bool zb, .bool bl]) rfl call51 rfl (mpn rfl)) (Calls.mono (putM J3_2 48 48 (nby x) zb bl (by decide) w4 (H4.out.1.one 0 rfl)) (fun e w2 hh => ⟨_, hh.1, rfl, hh.2⟩)) ?_
 rintro _ w5 ⟨rfl, hn, hp⟩
 have H5 : Hid (Mm w5 [(J3_2, by8 (upd (nby x) 0 (fl8 zb bl (nby x 0))) 48), (J1_0, zW x y zb), (2, dtab)] ∧ Below w.heap.size w w5) := ⟨H4.out.1.change 0 rfl hp hn, Below.kp H4.out.2 hp o3_2.out H4.out.2.size⟩
 clear hn hp H4
 simp only [Act.put, sa, sz, ss]
 refine zE (zA (wp_seq ?_))
 refine zD 3 [.q (.slice (some ⟨J3_2, 0, none⟩) 48 48), .q (.slice (some ⟨J3_2, 0, none⟩) 48 48), .q (.int .i64 0)] H5 ?ho5 ?he5
 case ho5 => exact ar (ar (ar trivial))
 intro _ w6 H6
 clear H5
 refine rN (wp_ret ?_)
 repeat (first | refine zJ ?_ | refine zI ?_)
 refine bodyPost_ret (v := .tuple #[.slice (some ⟨J3_2, 0, none⟩) 48 48, .int .i64 0]) (by simp [results, Tryz.results25, go_sem, *]) rfl ?_
 exact ⟨H6.out.2, J3_2, rfl, o3_2.out, H6.out.1.blk _ (List.mem_of_getElem? (i := 0) rfl)⟩
end Rg
end Go.Proofs.YtmanelnacifgcaaGreatDoor
end
