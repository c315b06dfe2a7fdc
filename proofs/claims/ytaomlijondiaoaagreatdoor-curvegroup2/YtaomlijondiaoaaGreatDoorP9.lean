/- Texts of the proof, joined. -/
import Derived.Test.YtaomlijondiaoaaGreatDoorP8
set_option maxRecDepth 100000
section
namespace Go.Proofs.YtaomlijondiaoaaGreatDoor
open Go.RowKit
namespace Rg
set_option maxHeartbeats 8000000 in
theorem byRow_1 {α : Type} {en : α → Nat} {fa fs fm : α → α → α} {fi : α → α} {z u b : α} {g : Nat} {tn : Value} (_C : Fd1 g en fa fs fm fi z) (f : Nat → Nat) (tw : EC.Tri α → EC.Tri α) (tg : EC.Tri α → Nat → EC.Tri α) (A : Nat → EC.Tri α) (wo : Nat → Int) (dg : Nat → Nat) (gt gr : Nat)
  (ctw : ∀ T w, Mm w [(g, zR pB), (0, dtab)] → Calls Tryz.prog 134 #[.agg (G1 g tn (en u) (en b)).toArray, V [en T.1, en T.2.1, en T.2.2]] w (Rt w (V [en ((tw T).1), en ((tw T).2.1), en ((tw T).2.2)])))
  (ctg : ∀ T d, d < 16 → ∀ w, Mm w [(g, zR pB), (0, dtab)] → Calls Tryz.prog 94 #[.agg (G1 g tn (en u) (en b)).toArray, V [en T.1, en T.2.1, en T.2.2], V [f (3 * d), f (3 * d + 1), f (3 * d + 2)]] w (Rt w (V [en ((tg T d).1), en ((tg T d).2.1), en ((tg T d).2.2)])))
  (hd : ∀ k, wo k / 2 ^ 60 = ((dg k : Nat) : Int)) (hdl : ∀ k, dg k < 16) (hw : ∀ k, IntKind.u64.wrap (wo k * 2 ^ 4) = wo (k + 1))
  (ha0 : ∀ k, dg k = 0 → tw (tw (tw (tw (A k)))) = A (k + 1)) (ha1 : ∀ k, 0 < dg k → tg (tw (tw (tw (tw (A k))))) (dg k) = A (k + 1)) (w : World) (hm : Mm w [(g, zR pB), (0, dtab), (gt, cel (tb1 f)), (gr, [Value.int .u64 (wo 0)])]) :
  Calls Tryz.prog 153 #[.agg (G1 g tn (en u) (en b)).toArray, V [en ((A 0).1), en ((A 0).2.1), en ((A 0).2.2)], .slice (some ⟨gt, 0, none⟩) 1 1, .slice (some ⟨gr, 0, none⟩) 1 1] w fun e w' => e = .returned (V [en ((A 16).1), en ((A 16).2.1), en ((A 16).2.2)]) ∧ Mm w' [(gr, [Value.int .u64 (wo 16)])] ∧ Kp gr w w' := by
 have H0 : Hid (_ ∧ _) := ⟨hm, Kp.refl gr w⟩
 clear hm
 have CTW : Hid _ := ctw
 clear ctw
 have CTG : Hid _ := ctg
 clear ctg
 have HD : Hid _ := hd
 clear hd
 have HDL : Hid _ := hdl
 clear hdl
 have HW : Hid _ := hw
 clear hw
 have HA0 : Hid _ := ha0
 clear ha0
 have HA1 : Hid _ := ha1
 clear ha1
 go_enter Tryz.func153, Tryz.ntmps153
 refine wp_seq ?_
 refine zD 3 [.made (G1 g tn (en u) (en b)) 81, .made (cel [en ((A 0).1), en ((A 0).2.1), en ((A 0).2.2)]) 124, .made (cel [0, 0, 0]) 124] (sB H0) ?ho1 ?he1
 case ho1 => exact ak (fun γ => ⟨rfl, fun w' => yA rfl rfl⟩) (ak (fun γ => ⟨rfl, fun w' => ex_boxA rfl rfl⟩) (ak (fun γ => ⟨rfl, fun w' => ex_madeTN rfl⟩) trivial))
 intro γ w1 l hM hl
 have H1 : Hid (Mm w1 [(γ 0, G1 g tn (en u) (en b)), (γ 1, cel [en ((A 0).1), en ((A 0).2.1), en ((A 0).2.2)]), (γ 2, cel [0, 0, 0]), (g, zR pB), (0, dtab), (gt, cel (tb1 f)), (gr, [Value.int .u64 (wo 0)])] ∧ _) := growK H0 hM (Nat.le_refl _) hl [0, 1, 2] rfl (by decide)
 have o1_0 := ownK H0 hM (Nat.le_refl _) hl (i := 0) rfl
 have o1_1 := ownK H0 hM (Nat.le_refl _) hl (i := 1) rfl
 have o1_2 := ownK H0 hM (Nat.le_refl _) hl (i := 2) rfl
 clear hM hl l
 generalize γ 0 = γ1_0 at H1 o1_0 ⊢
 generalize γ 1 = γ1_1 at H1 o1_1 ⊢
 generalize γ 2 = γ1_2 at H1 o1_2 ⊢
 clear γ
 refine zG rfl (zA (wp_seq (wp_seq ?_)))
 refine zD 1 [.quiet (.int .i64 0)] (sB H1) ?ho2 ?he2
 case ho2 => exact ar trivial
 intro γ w2 l hM hl
 have H2 := yE H1 hM.below
 clear hM hl l H1 γ
 refine zG rfl (zA (wp_block ?_))
 refine loop_ghost (α := Nat) (fun k a' w' => ∃ s0 : Nat → Value, a' = ⟨#[.agg (G1 g tn (en u) (en b)).toArray, V [en ((A 0).1), en ((A 0).2.1), en ((A 0).2.2)], .slice (some ⟨gt, 0, none⟩) 1 1, .slice (some ⟨gr, 0, none⟩) 1 1, PT γ1_0 0, PT γ1_1 0, ud, ud, PT γ1_2 0, s0 9, s0 10, s0 11, .int .i64 ((k : Nat) : Int), s0 13, s0 14, s0 15, s0 16, s0 17, s0 18, s0 19, s0 20, s0 21, s0 22, s0 23, s0 24, s0 25, s0 26, s0 27, s0 28, s0 29, s0 30, s0 31, s0 32, s0 33, s0 34, s0 35, s0 36, s0 37, s0 38, s0 39, s0 40, s0 41, s0 42, s0 43, s0 44, s0 45, s0 46, ud], []⟩ ∧ (Mm w' [(γ1_0, G1 g tn (en u) (en b)), (γ1_1, cel [en ((A k).1), en ((A k).2.1), en ((A k).2.2)]), (γ1_2, cel [0, 0, 0]), (g, zR pB), (0, dtab), (gt, cel (tb1 f)), (gr, [Value.int .u64 (wo k)])] ∧ Kp gr w w') ∧ k ≤ 16) (fun k => 16 - k) 0 ?st0 ?rd0
 case st0 => exact ⟨(slotfn [ud, ud, ud, ud, ud, ud, ud, ud, ud, ud, ud, ud, ud, ud, ud, ud, ud, ud, ud, ud, ud, ud, ud, ud, ud, ud, ud, ud, ud, ud, ud, ud, ud, ud, ud, ud, ud, ud, ud, ud, ud, ud, ud, ud, ud, ud, ud]), rfl, ⟨H2.out.1, H2.out.2⟩, by omega⟩
 intro k a' w3 hI
 obtain ⟨s0, rfl, hMB, hk0⟩ := hI
 have H3 : Hid (_ ∧ _) := hMB
 clear hMB H2
 by_cases hlt0 : k < 16
 ·have hrd : True := trivial
  clear hrd
  by_cases hdz : dg k = 0
  ·have hrd : True := trivial
   clear hrd
   have hlt : k < 16 := by omega
   refine wp_seq ?_
   refine zD 1 [.quiet (.bool true)] (sB H3) ?ho3 ?he3
   case ho3 => exact ak (by refine fun γ => ⟨rfl, fun w' h => ?_⟩; clear h; go_simp <;> omega) trivial
   intro γ w4 l hM hl
   have H4 := yE H3 hM.below
   clear hM hl l H3 γ
   refine zG rfl (zA (wp_seq ?_))
   refine wp_cond_true rfl (wp_skip ?_)
   refine zA (wp_seq ?_)
   refine wp_block (wp_seq (wp_seq ?_))
   refine zD 1 [.quiet (.int .i64 0)] (sB H4) ?ho4 ?he4
   case ho4 => exact ar trivial
   intro γ w5 l hM hl
   have H5 := yE H4 hM.below
   clear hM hl l H4 γ
   refine zG rfl (zA (wp_block ?_))
   refine wp_loop_rounds 5 ?_
   refine yD (n := 4) ?_
   refine wp_seq ?_
   refine zD 1 [.quiet (.bool true)] (sB H5) ?ho5 ?he5
   case ho5 => exact ag trivial
   intro γ w6 l hM hl
   have H6 := yE H5 hM.below
   clear hM hl l H5 γ
   refine zG rfl (zA (wp_seq ?_))
   refine wp_cond_true rfl (wp_skip ?_)
   refine zA (wp_seq (wp_block ?_))
   refine zD 3 [.quiet (.agg (G1 g tn (en u) (en b)).toArray), .quiet (V [en ((A k).1), en ((A k).2.1), en ((A k).2.2)]), .call (V [en ((tw (A k)).1), en ((tw (A k)).2.1), en ((tw (A k)).2.2)])] (sB H6) ?ho6 ?he6
   case ho6 => exact aq (fun w' h => lT h 0 Tryz.isAgg81 Tryz.sizeOf81) (aq (fun w' h => lA 0 3 h 1 Tryz.isAgg124 Tryz.sizeOf124) (ac (fun w' h => ⟨134, #[.agg (G1 g tn (en u) (en b)).toArray, V [en ((A k).1), en ((A k).2.1), en ((A k).2.2)]], zC rfl call134 rfl (zX rfl), CTW.out (A k) w' (h.two 3 4 rfl rfl (by decide))⟩) trivial))
   intro γ w7 l hM hl
   have H7 := yE H6 hM.below
   clear hM hl l H6 γ
   refine zJ (l := [3]) rfl ?_
   refine zI rfl rfl rfl (zT (i := 0) (ms := [en ((tw (A k)).1), en ((tw (A k)).2.1), en ((tw (A k)).2.2)]) H7.out.1 1 rfl rfl rfl rfl Tryz.sizeOf124 (Nat.le_of_ble_eq_true rfl)) ?_
   have H8 : Hid (Mm (w7.setCells γ1_1 (6 * 0) (cel [en ((tw (A k)).1), en ((tw (A k)).2.1), en ((tw (A k)).2.2)])) [(γ1_0, G1 g tn (en u) (en b)), (γ1_1, cel [en ((tw (A k)).1), en ((tw (A k)).2.1), en ((tw (A k)).2.2)]), (γ1_2, cel [0, 0, 0]), (g, zR pB), (0, dtab), (gt, cel (tb1 f)), (gr, [Value.int .u64 (wo k)])] ∧ Kp gr w (w7.setCells γ1_1 (6 * 0) (cel [en ((tw (A k)).1), en ((tw (A k)).2.1), en ((tw (A k)).2.2)]))) := ⟨by
    have h := H7.out.1.put 1 (off := 6 * 0) (vs := cel [en ((tw (A k)).1), en ((tw (A k)).2.1), en ((tw (A k)).2.2)]) rfl (by simp only [cel_len]; exact Nat.le_of_ble_eq_true rfl)
    rw [zU] at h
    exact h, H7.out.2.put (Or.inr o1_1.out)⟩
   clear H7
   generalize hgw : World.setCells _ _ _ _ = w8 at H8 ⊢
   clear hgw
   refine zH (zQ (zA ?_))
   refine zD 1 [.quiet (.int .i64 1)] (sB H8) ?ho7 ?he7
   case ho7 => exact ak (fun γ => ⟨rfl, fun w' _ => by kernel_rfl⟩) trivial
   intro γ w9 l hM hl
   have H9 := yE H8 hM.below
   clear hM hl l H8 γ
   refine zJ (l := [1]) rfl ?_
   refine zN (d := 14) rfl rfl rfl rfl ?_
   simp only [Act.put, sa, sz, ss]
   refine zH (zA ?_)
   refine yD (n := 3) ?_
   refine wp_seq ?_
   refine zD 1 [.quiet (.bool true)] (sB H9) ?ho8 ?he8
   case ho8 => exact ag trivial
   intro γ w10 l hM hl
   have H10 := yE H9 hM.below
   clear hM hl l H9 γ
   refine zG rfl (zA (wp_seq ?_))
   refine wp_cond_true rfl (wp_skip ?_)
   refine zA (wp_seq (wp_block ?_))
   refine zD 3 [.quiet (.agg (G1 g tn (en u) (en b)).toArray), .quiet (V [en ((tw (A k)).1), en ((tw (A k)).2.1), en ((tw (A k)).2.2)]), .call (V [en ((tw (tw (A k))).1), en ((tw (tw (A k))).2.1), en ((tw (tw (A k))).2.2)])] (sB H10) ?ho9 ?he9
   case ho9 => exact aq (fun w' h => lT h 0 Tryz.isAgg81 Tryz.sizeOf81) (aq (fun w' h => lA 0 3 h 1 Tryz.isAgg124 Tryz.sizeOf124) (ac (fun w' h => ⟨134, #[.agg (G1 g tn (en u) (en b)).toArray, V [en ((tw (A k)).1), en ((tw (A k)).2.1), en ((tw (A k)).2.2)]], zC rfl call134 rfl (zX rfl), CTW.out (tw (A k)) w' (h.two 3 4 rfl rfl (by decide))⟩) trivial))
   intro γ w11 l hM hl
   have H11 := yE H10 hM.below
   clear hM hl l H10 γ
   refine zJ (l := [3]) rfl ?_
   refine zI rfl rfl rfl (zT (i := 0) (ms := [en ((tw (tw (A k))).1), en ((tw (tw (A k))).2.1), en ((tw (tw (A k))).2.2)]) H11.out.1 1 rfl rfl rfl rfl Tryz.sizeOf124 (Nat.le_of_ble_eq_true rfl)) ?_
   have H12 : Hid (Mm (w11.setCells γ1_1 (6 * 0) (cel [en ((tw (tw (A k))).1), en ((tw (tw (A k))).2.1), en ((tw (tw (A k))).2.2)])) [(γ1_0, G1 g tn (en u) (en b)), (γ1_1, cel [en ((tw (tw (A k))).1), en ((tw (tw (A k))).2.1), en ((tw (tw (A k))).2.2)]), (γ1_2, cel [0, 0, 0]), (g, zR pB), (0, dtab), (gt, cel (tb1 f)), (gr, [Value.int .u64 (wo k)])] ∧ Kp gr w (w11.setCells γ1_1 (6 * 0) (cel [en ((tw (tw (A k))).1), en ((tw (tw (A k))).2.1), en ((tw (tw (A k))).2.2)]))) := ⟨by
    have h := H11.out.1.put 1 (off := 6 * 0) (vs := cel [en ((tw (tw (A k))).1), en ((tw (tw (A k))).2.1), en ((tw (tw (A k))).2.2)]) rfl (by simp only [cel_len]; exact Nat.le_of_ble_eq_true rfl)
    rw [zU] at h
    exact h, H11.out.2.put (Or.inr o1_1.out)⟩
   clear H11
   generalize hgw : World.setCells _ _ _ _ = w12 at H12 ⊢
   clear hgw
   refine zH (zQ (zA ?_))
   refine zD 1 [.quiet (.int .i64 2)] (sB H12) ?ho10 ?he10
   case ho10 => exact ak (fun γ => ⟨rfl, fun w' _ => by kernel_rfl⟩) trivial
   intro γ w13 l hM hl
   have H13 := yE H12 hM.below
   clear hM hl l H12 γ
   refine zJ (l := [1]) rfl ?_
   refine zN (d := 14) rfl rfl rfl rfl ?_
   simp only [Act.put, sa, sz, ss]
   refine zH (zA ?_)
   refine yD (n := 2) ?_
   refine wp_seq ?_
   refine zD 1 [.quiet (.bool true)] (sB H13) ?ho11 ?he11
   case ho11 => exact ag trivial
   intro γ w14 l hM hl
   have H14 := yE H13 hM.below
   clear hM hl l H13 γ
   refine zG rfl (zA (wp_seq ?_))
   refine wp_cond_true rfl (wp_skip ?_)
   refine zA (wp_seq (wp_block ?_))
   refine zD 3 [.quiet (.agg (G1 g tn (en u) (en b)).toArray), .quiet (V [en ((tw (tw (A k))).1), en ((tw (tw (A k))).2.1), en ((tw (tw (A k))).2.2)]), .call (V [en ((tw (tw (tw (A k)))).1), en ((tw (tw (tw (A k)))).2.1), en ((tw (tw (tw (A k)))).2.2)])] (sB H14) ?ho12 ?he12
   case ho12 => exact aq (fun w' h => lT h 0 Tryz.isAgg81 Tryz.sizeOf81) (aq (fun w' h => lA 0 3 h 1 Tryz.isAgg124 Tryz.sizeOf124) (ac (fun w' h => ⟨134, #[.agg (G1 g tn (en u) (en b)).toArray, V [en ((tw (tw (A k))).1), en ((tw (tw (A k))).2.1), en ((tw (tw (A k))).2.2)]], zC rfl call134 rfl (zX rfl), CTW.out (tw (tw (A k))) w' (h.two 3 4 rfl rfl (by decide))⟩) trivial))
   intro γ w15 l hM hl
   have H15 := yE H14 hM.below
   clear hM hl l H14 γ
   refine zJ (l := [3]) rfl ?_
   refine zI rfl rfl rfl (zT (i := 0) (ms := [en ((tw (tw (tw (A k)))).1), en ((tw (tw (tw (A k)))).2.1), en ((tw (tw (tw (A k)))).2.2)]) H15.out.1 1 rfl rfl rfl rfl Tryz.sizeOf124 (Nat.le_of_ble_eq_true rfl)) ?_
   have H16 : Hid (Mm (w15.setCells γ1_1 (6 * 0) (cel [en ((tw (tw (tw (A k)))).1), en ((tw (tw (tw (A k)))).2.1), en ((tw (tw (tw (A k)))).2.2)])) [(γ1_0, G1 g tn (en u) (en b)), (γ1_1, cel [en ((tw (tw (tw (A k)))).1), en ((tw (tw (tw (A k)))).2.1), en ((tw (tw (tw (A k)))).2.2)]), (γ1_2, cel [0, 0, 0]), (g, zR pB), (0, dtab), (gt, cel (tb1 f)), (gr, [Value.int .u64 (wo k)])] ∧ Kp gr w (w15.setCells γ1_1 (6 * 0) (cel [en ((tw (tw (tw (A k)))).1), en ((tw (tw (tw (A k)))).2.1), en ((tw (tw (tw (A k)))).2.2)]))) := ⟨by
    have h := H15.out.1.put 1 (off := 6 * 0) (vs := cel [en ((tw (tw (tw (A k)))).1), en ((tw (tw (tw (A k)))).2.1), en ((tw (tw (tw (A k)))).2.2)]) rfl (by simp only [cel_len]; exact Nat.le_of_ble_eq_true rfl)
    rw [zU] at h
    exact h, H15.out.2.put (Or.inr o1_1.out)⟩
   clear H15
   generalize hgw : World.setCells _ _ _ _ = w16 at H16 ⊢
   clear hgw
   refine zH (zQ (zA ?_))
   refine zD 1 [.quiet (.int .i64 3)] (sB H16) ?ho13 ?he13
   case ho13 => exact ak (fun γ => ⟨rfl, fun w' _ => by kernel_rfl⟩) trivial
   intro γ w17 l hM hl
   have H17 := yE H16 hM.below
   clear hM hl l H16 γ
   refine zJ (l := [1]) rfl ?_
   refine zN (d := 14) rfl rfl rfl rfl ?_
   simp only [Act.put, sa, sz, ss]
   refine zH (zA ?_)
   refine yD (n := 1) ?_
   refine wp_seq ?_
   refine zD 1 [.quiet (.bool true)] (sB H17) ?ho14 ?he14
   case ho14 => exact ag trivial
   intro γ w18 l hM hl
   have H18 := yE H17 hM.below
   clear hM hl l H17 γ
   refine zG rfl (zA (wp_seq ?_))
   refine wp_cond_true rfl (wp_skip ?_)
   refine zA (wp_seq (wp_block ?_))
   refine zD 3 [.quiet (.agg (G1 g tn (en u) (en b)).toArray), .quiet (V [en ((tw (tw (tw (A k)))).1), en ((tw (tw (tw (A k)))).2.1), en ((tw (tw (tw (A k)))).2.2)]), .call (V [en ((tw (tw (tw (tw (A k))))).1), en ((tw (tw (tw (tw (A k))))).2.1), en ((tw (tw (tw (tw (A k))))).2.2)])] (sB H18) ?ho15 ?he15
   case ho15 => exact aq (fun w' h => lT h 0 Tryz.isAgg81 Tryz.sizeOf81) (aq (fun w' h => lA 0 3 h 1 Tryz.isAgg124 Tryz.sizeOf124) (ac (fun w' h => ⟨134, #[.agg (G1 g tn (en u) (en b)).toArray, V [en ((tw (tw (tw (A k)))).1), en ((tw (tw (tw (A k)))).2.1), en ((tw (tw (tw (A k)))).2.2)]], zC rfl call134 rfl (zX rfl), CTW.out (tw (tw (tw (A k)))) w' (h.two 3 4 rfl rfl (by decide))⟩) trivial))
   intro γ w19 l hM hl
   have H19 := yE H18 hM.below
   clear hM hl l H18 γ
   refine zJ (l := [3]) rfl ?_
   refine zI rfl rfl rfl (zT (i := 0) (ms := [en ((tw (tw (tw (tw (A k))))).1), en ((tw (tw (tw (tw (A k))))).2.1), en ((tw (tw (tw (tw (A k))))).2.2)]) H19.out.1 1 rfl rfl rfl rfl Tryz.sizeOf124 (Nat.le_of_ble_eq_true rfl)) ?_
   have H20 : Hid (Mm (w19.setCells γ1_1 (6 * 0) (cel [en ((tw (tw (tw (tw (A k))))).1), en ((tw (tw (tw (tw (A k))))).2.1), en ((tw (tw (tw (tw (A k))))).2.2)])) [(γ1_0, G1 g tn (en u) (en b)), (γ1_1, cel [en ((tw (tw (tw (tw (A k))))).1), en ((tw (tw (tw (tw (A k))))).2.1), en ((tw (tw (tw (tw (A k))))).2.2)]), (γ1_2, cel [0, 0, 0]), (g, zR pB), (0, dtab), (gt, cel (tb1 f)), (gr, [Value.int .u64 (wo k)])] ∧ Kp gr w (w19.setCells γ1_1 (6 * 0) (cel [en ((tw (tw (tw (tw (A k))))).1), en ((tw (tw (tw (tw (A k))))).2.1), en ((tw (tw (tw (tw (A k))))).2.2)]))) := ⟨by
    have h := H19.out.1.put 1 (off := 6 * 0) (vs := cel [en ((tw (tw (tw (tw (A k))))).1), en ((tw (tw (tw (tw (A k))))).2.1), en ((tw (tw (tw (tw (A k))))).2.2)]) rfl (by simp only [cel_len]; exact Nat.le_of_ble_eq_true rfl)
    rw [zU] at h
    exact h, H19.out.2.put (Or.inr o1_1.out)⟩
   clear H19
   generalize hgw : World.setCells _ _ _ _ = w20 at H20 ⊢
   clear hgw
   refine zH (zQ (zA ?_))
   refine zD 1 [.quiet (.int .i64 4)] (sB H20) ?ho16 ?he16
   case ho16 => exact ak (fun γ => ⟨rfl, fun w' _ => by kernel_rfl⟩) trivial
   intro γ w21 l hM hl
   have H21 := yE H20 hM.below
   clear hM hl l H20 γ
   refine zJ (l := [1]) rfl ?_
   refine zN (d := 14) rfl rfl rfl rfl ?_
   simp only [Act.put, sa, sz, ss]
   refine zH (zA ?_)
   refine yD (n := 0) ?_
   refine wp_seq ?_
   refine zD 1 [.quiet (.bool false)] (sB H21) ?ho17 ?he17
   case ho17 => exact ag trivial
   intro γ w22 l hM hl
   have H22 := yE H21 hM.below
   clear hM hl l H21 γ
   refine zG rfl (zA (wp_seq (wp_cond_false rfl ?_)))
   refine wp_exit ?_
   repeat refine then_exit ?_
   refine yH ?_
   refine zA (wp_seq ?_)
   refine zD 3 [.quiet (.slice (some ⟨gr, 0, none⟩) 1 1), .quiet (.int .i64 1), .quiet (.int .i64 0)] (sB H22) ?ho18 ?he18
   case ho18 => exact ar (ag (ar trivial))
   intro γ w23 l hM hl
   have H23 := yE H22 hM.below
   clear hM hl l H22 γ
   refine zG rfl (zA (wp_block ?_))
   refine wp_loop_rounds 2 ?_
   refine yD (n := 1) ?_
   refine wp_seq ?_
   refine zD 1 [.quiet (.bool true)] (sB H23) ?ho19 ?he19
   case ho19 => exact ag trivial
   intro γ w24 l hM hl
   have H24 := yE H23 hM.below
   clear hM hl l H23 γ
   refine zG rfl (zA (wp_seq ?_))
   refine wp_cond_true rfl (wp_skip ?_)
   refine zA (wp_seq ?_)
   refine wp_block (wp_seq ?_)
   refine zD 5 [.quiet (.int .i64 0), .quiet (PT gr 0), .quiet (.int .u64 (wo k)), .quiet (.int .i64 0), .quiet (.int .u64 (wo k))] (sB H24) ?ho20 ?he20
   case ho20 => exact ar (ag (aq (fun w' h => lC h 6 Tryz.isAgg22) (ar (ar trivial))))
   intro γ w25 l hM hl
   have H25 := yE H24 hM.below
   clear hM hl l H24 γ
   refine zG rfl (zA (wp_seq (wp_seq ?_)))
   refine zD 3 [.quiet (.int .u64 (wo k)), .quiet (.int .u64 ((dg k : Nat) : Int)), .quiet (.int .u64 ((dg k : Nat) : Int))] (sB H25) ?ho21 ?he21
   case ho21 => exact ar (ak (fun γ => ⟨rfl, fun w' _ => by rw [← HD.out k]; exact ex_shr60 rfl rfl rfl⟩) (ar trivial))
   intro γ w26 l hM hl
   have H26 := yE H25 hM.below
   clear hM hl l H25 γ
   refine zG rfl (zA (wp_seq ?_))
   refine zD 2 [.quiet (.int .u64 ((dg k : Nat) : Int)), .quiet (.bool false)] (sB H26) ?ho22 ?he22
   case ho22 => exact ar (ak (by refine fun γ => ⟨rfl, fun w' h => ?_⟩; clear h; go_simp <;> omega) trivial)
   intro γ w27 l hM hl
   have H27 := yE H26 hM.below
   clear hM hl l H26 γ
   refine zG rfl (zA (wp_cond_false rfl ?_))
   refine wp_skip (zA ?_)
   refine zD 5 [.quiet (.slice (some ⟨gr, 0, none⟩) 1 1), .quiet (.int .i64 0), .quiet (.int .u64 (wo k)), .quiet (.int .u64 (IntKind.u64.wrap (wo k * 2 ^ 4))), .quiet (PT gr 0)] (sB H27) ?ho23 ?he23
   case ho23 => exact ar (ar (ar (ak (fun γ => ⟨rfl, fun w' _ => ex_shl4 rfl rfl rfl⟩) (ag trivial))))
   intro γ w28 l hM hl
   have H28 := yE H27 hM.below
   clear hM hl l H27 γ
   refine zJ (l := [5]) rfl ?_
   refine zI rfl rfl rfl (ex_storeI H28.out.1 6 rfl rfl Tryz.sizeOf22 rfl rfl (Nat.le_of_ble_eq_true rfl)) ?_
   have H29 : Hid (Mm (w28.setCells gr 0 [Value.int .u64 (IntKind.u64.wrap (wo k * 2 ^ 4))]) [(γ1_0, G1 g tn (en u) (en b)), (γ1_1, cel [en ((tw (tw (tw (tw (A k))))).1), en ((tw (tw (tw (tw (A k))))).2.1), en ((tw (tw (tw (tw (A k))))).2.2)]), (γ1_2, cel [0, 0, 0]), (g, zR pB), (0, dtab), (gt, cel (tb1 f)), (gr, [Value.int .u64 (IntKind.u64.wrap (wo k * 2 ^ 4))])] ∧ Kp gr w (w28.setCells gr 0 [Value.int .u64 (IntKind.u64.wrap (wo k * 2 ^ 4))])) := ⟨H28.out.1.put 6 (off := 0) (vs := [Value.int .u64 (IntKind.u64.wrap (wo k * 2 ^ 4))]) rfl (Nat.le_of_ble_eq_true rfl), H28.out.2.put (Or.inl rfl)⟩
   clear H28
   generalize hgw : World.setCells _ _ _ _ = w29 at H29 ⊢
   clear hgw
   refine zH (zQ (zA ?_))
   refine zD 1 [.quiet (.int .i64 1)] (sB H29) ?ho24 ?he24
   case ho24 => exact ak (fun γ => ⟨rfl, fun w' _ => by kernel_rfl⟩) trivial
   intro γ w30 l hM hl
   have H30 := yE H29 hM.below
   clear hM hl l H29 γ
   refine zJ (l := [1]) rfl ?_
   refine zN (d := 22) rfl rfl rfl rfl ?_
   simp only [Act.put, sa, sz, ss]
   refine zH (zA ?_)
   refine yD (n := 0) ?_
   refine wp_seq ?_
   refine zD 1 [.quiet (.bool false)] (sB H30) ?ho25 ?he25
   case ho25 => exact ag trivial
   intro γ w31 l hM hl
   have H31 := yE H30 hM.below
   clear hM hl l H30 γ
   refine zG rfl (zA (wp_seq (wp_cond_false rfl ?_)))
   refine wp_exit ?_
   repeat refine then_exit ?_
   refine yH ?_
   refine zQ (zA ?_)
   refine zD 1 [.quiet (.int .i64 ((k + 1 : Nat) : Int))] (sB H31) ?ho26 ?he26
   case ho26 => exact ak (by refine fun γ => ⟨rfl, fun w' h => ?_⟩; clear h; go_simp; rw [IntKind.wrap_i64]; omega) trivial
   intro γ w32 l hM hl
   have H32 := yE H31 hM.below
   clear hM hl l H31 γ
   refine zJ (l := [1]) rfl ?_
   refine zN (d := 12) rfl rfl rfl rfl ?_
   simp only [Act.put, sa, sz, ss]
   refine zH (zA ?_)
   exact ⟨k + 1, ⟨(slotfn [ud, ud, ud, ud, ud, ud, ud, ud, ud, .int .i64 0, .int .u64 (wo k), .int .u64 ((dg k : Nat) : Int), ud, .bool true, .int .i64 4, .bool false, .agg (G1 g tn (en u) (en b)).toArray, V [en ((tw (tw (tw (A k)))).1), en ((tw (tw (tw (A k)))).2.1), en ((tw (tw (tw (A k)))).2.2)], V [en ((tw (tw (tw (tw (A k))))).1), en ((tw (tw (tw (tw (A k))))).2.1), en ((tw (tw (tw (tw (A k))))).2.2)], .int .i64 4, .slice (some ⟨gr, 0, none⟩) 1 1, .int .i64 1, .int .i64 1, .bool false, .int .i64 0, PT gr 0, .int .u64 (wo k), .int .u64 (wo k), .int .u64 ((dg k : Nat) : Int), .int .u64 ((dg k : Nat) : Int), .bool false, s0 31, s0 32, s0 33, s0 34, s0 35, s0 36, s0 37, s0 38, s0 39, .slice (some ⟨gr, 0, none⟩) 1 1, .int .i64 0, .int .u64 (wo k), .int .u64 (IntKind.u64.wrap (wo k * 2 ^ 4)), PT gr 0, .int .i64 1, .int .i64 ((k + 1 : Nat) : Int)]), rfl, ⟨(H32.out.1).atk (by rw [HA0.out k hdz, HW.out]), H32.out.2⟩, by omega⟩, by omega⟩
  ·have hrd : True := trivial
   clear hrd
   have hdz := Nat.pos_of_ne_zero hdz
   have hlt : k < 16 := by omega
   refine wp_seq ?_
   refine zD 1 [.quiet (.bool true)] (sB H3) ?ho27 ?he27
   case ho27 => exact ak (by refine fun γ => ⟨rfl, fun w' h => ?_⟩; clear h; go_simp <;> omega) trivial
   intro γ w33 l hM hl
   have H33 := yE H3 hM.below
   clear hM hl l H3 γ
   refine zG rfl (zA (wp_seq ?_))
   refine wp_cond_true rfl (wp_skip ?_)
   refine zA (wp_seq ?_)
   refine wp_block (wp_seq (wp_seq ?_))
   refine zD 1 [.quiet (.int .i64 0)] (sB H33) ?ho28 ?he28
   case ho28 => exact ar trivial
   intro γ w34 l hM hl
   have H34 := yE H33 hM.below
   clear hM hl l H33 γ
   refine zG rfl (zA (wp_block ?_))
   refine wp_loop_rounds 5 ?_
   refine yD (n := 4) ?_
   refine wp_seq ?_
   refine zD 1 [.quiet (.bool true)] (sB H34) ?ho29 ?he29
   case ho29 => exact ag trivial
   intro γ w35 l hM hl
   have H35 := yE H34 hM.below
   clear hM hl l H34 γ
   refine zG rfl (zA (wp_seq ?_))
   refine wp_cond_true rfl (wp_skip ?_)
   refine zA (wp_seq (wp_block ?_))
   refine zD 3 [.quiet (.agg (G1 g tn (en u) (en b)).toArray), .quiet (V [en ((A k).1), en ((A k).2.1), en ((A k).2.2)]), .call (V [en ((tw (A k)).1), en ((tw (A k)).2.1), en ((tw (A k)).2.2)])] (sB H35) ?ho30 ?he30
   case ho30 => exact aq (fun w' h => lT h 0 Tryz.isAgg81 Tryz.sizeOf81) (aq (fun w' h => lA 0 3 h 1 Tryz.isAgg124 Tryz.sizeOf124) (ac (fun w' h => ⟨134, #[.agg (G1 g tn (en u) (en b)).toArray, V [en ((A k).1), en ((A k).2.1), en ((A k).2.2)]], zC rfl call134 rfl (zX rfl), CTW.out (A k) w' (h.two 3 4 rfl rfl (by decide))⟩) trivial))
   intro γ w36 l hM hl
   have H36 := yE H35 hM.below
   clear hM hl l H35 γ
   refine zJ (l := [3]) rfl ?_
   refine zI rfl rfl rfl (zT (i := 0) (ms := [en ((tw (A k)).1), en ((tw (A k)).2.1), en ((tw (A k)).2.2)]) H36.out.1 1 rfl rfl rfl rfl Tryz.sizeOf124 (Nat.le_of_ble_eq_true rfl)) ?_
   have H37 : Hid (Mm (w36.setCells γ1_1 (6 * 0) (cel [en ((tw (A k)).1), en ((tw (A k)).2.1), en ((tw (A k)).2.2)])) [(γ1_0, G1 g tn (en u) (en b)), (γ1_1, cel [en ((tw (A k)).1), en ((tw (A k)).2.1), en ((tw (A k)).2.2)]), (γ1_2, cel [0, 0, 0]), (g, zR pB), (0, dtab), (gt, cel (tb1 f)), (gr, [Value.int .u64 (wo k)])] ∧ Kp gr w (w36.setCells γ1_1 (6 * 0) (cel [en ((tw (A k)).1), en ((tw (A k)).2.1), en ((tw (A k)).2.2)]))) := ⟨by
    have h := H36.out.1.put 1 (off := 6 * 0) (vs := cel [en ((tw (A k)).1), en ((tw (A k)).2.1), en ((tw (A k)).2.2)]) rfl (by simp only [cel_len]; exact Nat.le_of_ble_eq_true rfl)
    rw [zU] at h
    exact h, H36.out.2.put (Or.inr o1_1.out)⟩
   clear H36
   generalize hgw : World.setCells _ _ _ _ = w37 at H37 ⊢
   clear hgw
   refine zH (zQ (zA ?_))
   refine zD 1 [.quiet (.int .i64 1)] (sB H37) ?ho31 ?he31
   case ho31 => exact ak (fun γ => ⟨rfl, fun w' _ => by kernel_rfl⟩) trivial
   intro γ w38 l hM hl
   have H38 := yE H37 hM.below
   clear hM hl l H37 γ
   refine zJ (l := [1]) rfl ?_
   refine zN (d := 14) rfl rfl rfl rfl ?_
   simp only [Act.put, sa, sz, ss]
   refine zH (zA ?_)
   refine yD (n := 3) ?_
   refine wp_seq ?_
   refine zD 1 [.quiet (.bool true)] (sB H38) ?ho32 ?he32
   case ho32 => exact ag trivial
   intro γ w39 l hM hl
   have H39 := yE H38 hM.below
   clear hM hl l H38 γ
   refine zG rfl (zA (wp_seq ?_))
   refine wp_cond_true rfl (wp_skip ?_)
   refine zA (wp_seq (wp_block ?_))
   refine zD 3 [.quiet (.agg (G1 g tn (en u) (en b)).toArray), .quiet (V [en ((tw (A k)).1), en ((tw (A k)).2.1), en ((tw (A k)).2.2)]), .call (V [en ((tw (tw (A k))).1), en ((tw (tw (A k))).2.1), en ((tw (tw (A k))).2.2)])] (sB H39) ?ho33 ?he33
   case ho33 => exact aq (fun w' h => lT h 0 Tryz.isAgg81 Tryz.sizeOf81) (aq (fun w' h => lA 0 3 h 1 Tryz.isAgg124 Tryz.sizeOf124) (ac (fun w' h => ⟨134, #[.agg (G1 g tn (en u) (en b)).toArray, V [en ((tw (A k)).1), en ((tw (A k)).2.1), en ((tw (A k)).2.2)]], zC rfl call134 rfl (zX rfl), CTW.out (tw (A k)) w' (h.two 3 4 rfl rfl (by decide))⟩) trivial))
   intro γ w40 l hM hl
   have H40 := yE H39 hM.below
   clear hM hl l H39 γ
   refine zJ (l := [3]) rfl ?_
   refine zI rfl rfl rfl (zT (i := 0) (ms := [en ((tw (tw (A k))).1), en ((tw (tw (A k))).2.1), en ((tw (tw (A k))).2.2)]) H40.out.1 1 rfl rfl rfl rfl Tryz.sizeOf124 (Nat.le_of_ble_eq_true rfl)) ?_
   have H41 : Hid (Mm (w40.setCells γ1_1 (6 * 0) (cel [en ((tw (tw (A k))).1), en ((tw (tw (A k))).2.1), en ((tw (tw (A k))).2.2)])) [(γ1_0, G1 g tn (en u) (en b)), (γ1_1, cel [en ((tw (tw (A k))).1), en ((tw (tw (A k))).2.1), en ((tw (tw (A k))).2.2)]), (γ1_2, cel [0, 0, 0]), (g, zR pB), (0, dtab), (gt, cel (tb1 f)), (gr, [Value.int .u64 (wo k)])] ∧ Kp gr w (w40.setCells γ1_1 (6 * 0) (cel [en ((tw (tw (A k))).1), en ((tw (tw (A k))).2.1), en ((tw (tw (A k))).2.2)]))) := ⟨by
    have h := H40.out.1.put 1 (off := 6 * 0) (vs := cel [en ((tw (tw (A k))).1), en ((tw (tw (A k))).2.1), en ((tw (tw (A k))).2.2)]) rfl (by simp only [cel_len]; exact Nat.le_of_ble_eq_true rfl)
    rw [zU] at h
    exact h, H40.out.2.put (Or.inr o1_1.out)⟩
   clear H40
   generalize hgw : World.setCells _ _ _ _ = w41 at H41 ⊢
   clear hgw
   refine zH (zQ (zA ?_))
   refine zD 1 [.quiet (.int .i64 2)] (sB H41) ?ho34 ?he34
   case ho34 => exact ak (fun γ => ⟨rfl, fun w' _ => by kernel_rfl⟩) trivial
   intro γ w42 l hM hl
   have H42 := yE H41 hM.below
   clear hM hl l H41 γ
   refine zJ (l := [1]) rfl ?_
   refine zN (d := 14) rfl rfl rfl rfl ?_
   simp only [Act.put, sa, sz, ss]
   refine zH (zA ?_)
   refine yD (n := 2) ?_
   refine wp_seq ?_
   refine zD 1 [.quiet (.bool true)] (sB H42) ?ho35 ?he35
   case ho35 => exact ag trivial
   intro γ w43 l hM hl
   have H43 := yE H42 hM.below
   clear hM hl l H42 γ
   refine zG rfl (zA (wp_seq ?_))
   refine wp_cond_true rfl (wp_skip ?_)
   refine zA (wp_seq (wp_block ?_))
   refine zD 3 [.quiet (.agg (G1 g tn (en u) (en b)).toArray), .quiet (V [en ((tw (tw (A k))).1), en ((tw (tw (A k))).2.1), en ((tw (tw (A k))).2.2)]), .call (V [en ((tw (tw (tw (A k)))).1), en ((tw (tw (tw (A k)))).2.1), en ((tw (tw (tw (A k)))).2.2)])] (sB H43) ?ho36 ?he36
   case ho36 => exact aq (fun w' h => lT h 0 Tryz.isAgg81 Tryz.sizeOf81) (aq (fun w' h => lA 0 3 h 1 Tryz.isAgg124 Tryz.sizeOf124) (ac (fun w' h => ⟨134, #[.agg (G1 g tn (en u) (en b)).toArray, V [en ((tw (tw (A k))).1), en ((tw (tw (A k))).2.1), en ((tw (tw (A k))).2.2)]], zC rfl call134 rfl (zX rfl), CTW.out (tw (tw (A k))) w' (h.two 3 4 rfl rfl (by decide))⟩) trivial))
   intro γ w44 l hM hl
   have H44 := yE H43 hM.below
   clear hM hl l H43 γ
   refine zJ (l := [3]) rfl ?_
   refine zI rfl rfl rfl (zT (i := 0) (ms := [en ((tw (tw (tw (A k)))).1), en ((tw (tw (tw (A k)))).2.1), en ((tw (tw (tw (A k)))).2.2)]) H44.out.1 1 rfl rfl rfl rfl Tryz.sizeOf124 (Nat.le_of_ble_eq_true rfl)) ?_
   have H45 : Hid (Mm (w44.setCells γ1_1 (6 * 0) (cel [en ((tw (tw (tw (A k)))).1), en ((tw (tw (tw (A k)))).2.1), en ((tw (tw (tw (A k)))).2.2)])) [(γ1_0, G1 g tn (en u) (en b)), (γ1_1, cel [en ((tw (tw (tw (A k)))).1), en ((tw (tw (tw (A k)))).2.1), en ((tw (tw (tw (A k)))).2.2)]), (γ1_2, cel [0, 0, 0]), (g, zR pB), (0, dtab), (gt, cel (tb1 f)), (gr, [Value.int .u64 (wo k)])] ∧ Kp gr w (w44.setCells γ1_1 (6 * 0) (cel [en ((tw (tw (tw (A k)))).1), en ((tw (tw (tw (A k)))).2.1), en ((tw (tw (tw (A k)))).2.2)]))) := ⟨by
    have h := H44.out.1.put 1 (off := 6 * 0) (vs := cel [en ((tw (tw (tw (A k)))).1), en ((tw (tw (tw (A k)))).2.1), en ((tw (tw (tw (A k)))).2.2)]) rfl (by simp only [cel_len]; exact Nat.le_of_ble_eq_true rfl)
    rw [zU] at h
    exact h, H44.out.2.put (Or.inr o1_1.out)⟩
   clear H44
   generalize hgw : World.setCells _ _ _ _ = w45 at H45 ⊢
   clear hgw
   refine zH (zQ (zA ?_))
   refine zD 1 [.quiet (.int .i64 3)] (sB H45) ?ho37 ?he37
   case ho37 => exact ak (fun γ => ⟨rfl, fun w' _ => by kernel_rfl⟩) trivial
   intro γ w46 l hM hl
   have H46 := yE H45 hM.below
   clear hM hl l H45 γ
   refine zJ (l := [1]) rfl ?_
   refine zN (d := 14) rfl rfl rfl rfl ?_
   simp only [Act.put, sa, sz, ss]
   refine zH (zA ?_)
   refine yD (n := 1) ?_
   refine wp_seq ?_
   refine zD 1 [.quiet (.bool true)] (sB H46) ?ho38 ?he38
   case ho38 => exact ag trivial
   intro γ w47 l hM hl
   have H47 := yE H46 hM.below
   clear hM hl l H46 γ
   refine zG rfl (zA (wp_seq ?_))
   refine wp_cond_true rfl (wp_skip ?_)
   refine zA (wp_seq (wp_block ?_))
   refine zD 3 [.quiet (.agg (G1 g tn (en u) (en b)).toArray), .quiet (V [en ((tw (tw (tw (A k)))).1), en ((tw (tw (tw (A k)))).2.1), en ((tw (tw (tw (A k)))).2.2)]), .call (V [en ((tw (tw (tw (tw (A k))))).1), en ((tw (tw (tw (tw (A k))))).2.1), en ((tw (tw (tw (tw (A k))))).2.2)])] (sB H47) ?ho39 ?he39
   case ho39 => exact aq (fun w' h => lT h 0 Tryz.isAgg81 Tryz.sizeOf81) (aq (fun w' h => lA 0 3 h 1 Tryz.isAgg124 Tryz.sizeOf124) (ac (fun w' h => ⟨134, #[.agg (G1 g tn (en u) (en b)).toArray, V [en ((tw (tw (tw (A k)))).1), en ((tw (tw (tw (A k)))).2.1), en ((tw (tw (tw (A k)))).2.2)]], zC rfl call134 rfl (zX rfl), CTW.out (tw (tw (tw (A k)))) w' (h.two 3 4 rfl rfl (by decide))⟩) trivial))
   intro γ w48 l hM hl
   have H48 := yE H47 hM.below
   clear hM hl l H47 γ
   refine zJ (l := [3]) rfl ?_
   refine zI rfl rfl rfl (zT (i := 0) (ms := [en ((tw (tw (tw (tw (A k))))).1), en ((tw (tw (tw (tw (A k))))).2.1), en ((tw (tw (tw (tw (A k))))).2.2)]) H48.out.1 1 rfl rfl rfl rfl Tryz.sizeOf124 (Nat.le_of_ble_eq_true rfl)) ?_
   have H49 : Hid (Mm (w48.setCells γ1_1 (6 * 0) (cel [en ((tw (tw (tw (tw (A k))))).1), en ((tw (tw (tw (tw (A k))))).2.1), en ((tw (tw (tw (tw (A k))))).2.2)])) [(γ1_0, G1 g tn (en u) (en b)), (γ1_1, cel [en ((tw (tw (tw (tw (A k))))).1), en ((tw (tw (tw (tw (A k))))).2.1), en ((tw (tw (tw (tw (A k))))).2.2)]), (γ1_2, cel [0, 0, 0]), (g, zR pB), (0, dtab), (gt, cel (tb1 f)), (gr, [Value.int .u64 (wo k)])] ∧ Kp gr w (w48.setCells γ1_1 (6 * 0) (cel [en ((tw (tw (tw (tw (A k))))).1), en ((tw (tw (tw (tw (A k))))).2.1), en ((tw (tw (tw (tw (A k))))).2.2)]))) := ⟨by
    have h := H48.out.1.put 1 (off := 6 * 0) (vs := cel [en ((tw (tw (tw (tw (A k))))).1), en ((tw (tw (tw (tw (A k))))).2.1), en ((tw (tw (tw (tw (A k))))).2.2)]) rfl (by simp only [cel_len]; exact Nat.le_of_ble_eq_true rfl)
    rw [zU] at h
    exact h, H48.out.2.put (Or.inr o1_1.out)⟩
   clear H48
   generalize hgw : World.setCells _ _ _ _ = w49 at H49 ⊢
   clear hgw
   refine zH (zQ (zA ?_))
   refine zD 1 [.quiet (.int .i64 4)] (sB H49) ?ho40 ?he40
   case ho40 => exact ak (fun γ => ⟨rfl, fun w' _ => by kernel_rfl⟩) trivial
   intro γ w50 l hM hl
   have H50 := yE H49 hM.below
   clear hM hl l H49 γ
   refine zJ (l := [1]) rfl ?_
   refine zN (d := 14) rfl rfl rfl rfl ?_
   simp only [Act.put, sa, sz, ss]
   refine zH (zA ?_)
   refine yD (n := 0) ?_
   refine wp_seq ?_
   refine zD 1 [.quiet (.bool false)] (sB H50) ?ho41 ?he41
   case ho41 => exact ag trivial
   intro γ w51 l hM hl
   have H51 := yE H50 hM.below
   clear hM hl l H50 γ
   refine zG rfl (zA (wp_seq (wp_cond_false rfl ?_)))
   refine wp_exit ?_
   repeat refine then_exit ?_
   refine yH ?_
   refine zA (wp_seq ?_)
   refine zD 3 [.quiet (.slice (some ⟨gr, 0, none⟩) 1 1), .quiet (.int .i64 1), .quiet (.int .i64 0)] (sB H51) ?ho42 ?he42
   case ho42 => exact ar (ag (ar trivial))
   intro γ w52 l hM hl
   have H52 := yE H51 hM.below
   clear hM hl l H51 γ
   refine zG rfl (zA (wp_block ?_))
   refine wp_loop_rounds 2 ?_
   refine yD (n := 1) ?_
   refine wp_seq ?_
   refine zD 1 [.quiet (.bool true)] (sB H52) ?ho43 ?he43
   case ho43 => exact ag trivial
   intro γ w53 l hM hl
   have H53 := yE H52 hM.below
   clear hM hl l H52 γ
   refine zG rfl (zA (wp_seq ?_))
   refine wp_cond_true rfl (wp_skip ?_)
   refine zA (wp_seq ?_)
   refine wp_block (wp_seq ?_)
   refine zD 5 [.quiet (.int .i64 0), .quiet (PT gr 0), .quiet (.int .u64 (wo k)), .quiet (.int .i64 0), .quiet (.int .u64 (wo k))] (sB H53) ?ho44 ?he44
   case ho44 => exact ar (ag (aq (fun w' h => lC h 6 Tryz.isAgg22) (ar (ar trivial))))
   intro γ w54 l hM hl
   have H54 := yE H53 hM.below
   clear hM hl l H53 γ
   refine zG rfl (zA (wp_seq (wp_seq ?_)))
   refine zD 3 [.quiet (.int .u64 (wo k)), .quiet (.int .u64 ((dg k : Nat) : Int)), .quiet (.int .u64 ((dg k : Nat) : Int))] (sB H54) ?ho45 ?he45
   case ho45 => exact ar (ak (fun γ => ⟨rfl, fun w' _ => by rw [← HD.out k]; exact ex_shr60 rfl rfl rfl⟩) (ar trivial))
   intro γ w55 l hM hl
   have H55 := yE H54 hM.below
   clear hM hl l H54 γ
   refine zG rfl (zA (wp_seq ?_))
   refine zD 2 [.quiet (.int .u64 ((dg k : Nat) : Int)), .quiet (.bool true)] (sB H55) ?ho46 ?he46
   case ho46 => exact ar (ak (by refine fun γ => ⟨rfl, fun w' h => ?_⟩; clear h; go_simp <;> omega) trivial)
   intro γ w56 l hM hl
   have H56 := yE H55 hM.below
   clear hM hl l H55 γ
   refine zG rfl (zA (wp_cond_true rfl ?_))
   refine zY 9 [.quiet (.agg (G1 g tn (en u) (en b)).toArray), .quiet (V [en ((tw (tw (tw (tw (A k))))).1), en ((tw (tw (tw (tw (A k))))).2.1), en ((tw (tw (tw (tw (A k))))).2.2)]), .quiet (.slice (some ⟨gt, 0, none⟩) 1 1), .quiet (.int .i64 0), .quiet (.int .u64 ((dg k : Nat) : Int)), .quiet (PT gt 0), .quiet (PT gt (6 * (3 * (dg k)))), .quiet (V [f (3 * dg k), f (3 * dg k + 1), f (3 * dg k + 2)]), .call (V [en ((tg (tw (tw (tw (tw (A k))))) (dg k)).1), en ((tg (tw (tw (tw (tw (A k))))) (dg k)).2.1), en ((tg (tw (tw (tw (tw (A k))))) (dg k)).2.2)])] (sB H56) ?ho47 ?he47
   case ho47 => exact aq (fun w' h => lT h 0 Tryz.isAgg81 Tryz.sizeOf81) (aq (fun w' h => lA 0 3 h 1 Tryz.isAgg124 Tryz.sizeOf124) (ar (ar (ar (ag (ak (fun γ => ⟨rfl, fun w' _ => ex_idxTB1 rfl rfl rfl (HDL.out _)⟩) (aq (fun w' h => ex_loadA (i := 3 * (dg k)) (k := 3) h 5 rfl rfl rfl Tryz.isAgg124 Tryz.sizeOf124 (tb1_ld f (HDL.out k)) rfl) (ac (fun w' h => ⟨94, #[.agg (G1 g tn (en u) (en b)).toArray, V [en ((tw (tw (tw (tw (A k))))).1), en ((tw (tw (tw (tw (A k))))).2.1), en ((tw (tw (tw (tw (A k))))).2.2)], V [f (3 * dg k), f (3 * dg k + 1), f (3 * dg k + 2)]], zC rfl call94 rfl (zX rfl), CTG.out (tw (tw (tw (tw (A k))))) _ (HDL.out k) w' (h.two 3 4 rfl rfl (by decide))⟩) trivial))))))))
   intro γ w57 l hM hl
   have H57 := yE H56 hM.below
   clear hM hl l H56 γ
   refine zJ (l := [9]) rfl ?_
   refine zI rfl rfl rfl (zT (i := 0) (ms := [en ((tg (tw (tw (tw (tw (A k))))) (dg k)).1), en ((tg (tw (tw (tw (tw (A k))))) (dg k)).2.1), en ((tg (tw (tw (tw (tw (A k))))) (dg k)).2.2)]) H57.out.1 1 rfl rfl rfl rfl Tryz.sizeOf124 (Nat.le_of_ble_eq_true rfl)) ?_
   have H58 : Hid (Mm (w57.setCells γ1_1 (6 * 0) (cel [en ((tg (tw (tw (tw (tw (A k))))) (dg k)).1), en ((tg (tw (tw (tw (tw (A k))))) (dg k)).2.1), en ((tg (tw (tw (tw (tw (A k))))) (dg k)).2.2)])) [(γ1_0, G1 g tn (en u) (en b)), (γ1_1, cel [en ((tg (tw (tw (tw (tw (A k))))) (dg k)).1), en ((tg (tw (tw (tw (tw (A k))))) (dg k)).2.1), en ((tg (tw (tw (tw (tw (A k))))) (dg k)).2.2)]), (γ1_2, cel [0, 0, 0]), (g, zR pB), (0, dtab), (gt, cel (tb1 f)), (gr, [Value.int .u64 (wo k)])] ∧ Kp gr w (w57.setCells γ1_1 (6 * 0) (cel [en ((tg (tw (tw (tw (tw (A k))))) (dg k)).1), en ((tg (tw (tw (tw (tw (A k))))) (dg k)).2.1), en ((tg (tw (tw (tw (tw (A k))))) (dg k)).2.2)]))) := ⟨by
    have h := H57.out.1.put 1 (off := 6 * 0) (vs := cel [en ((tg (tw (tw (tw (tw (A k))))) (dg k)).1), en ((tg (tw (tw (tw (tw (A k))))) (dg k)).2.1), en ((tg (tw (tw (tw (tw (A k))))) (dg k)).2.2)]) rfl (by simp only [cel_len]; exact Nat.le_of_ble_eq_true rfl)
    rw [zU] at h
    exact h, H57.out.2.put (Or.inr o1_1.out)⟩
   clear H57
   generalize hgw : World.setCells _ _ _ _ = w58 at H58 ⊢
   clear hgw
   refine zH (zA ?_)
   refine zD 5 [.quiet (.slice (some ⟨gr, 0, none⟩) 1 1), .quiet (.int .i64 0), .quiet (.int .u64 (wo k)), .quiet (.int .u64 (IntKind.u64.wrap (wo k * 2 ^ 4))), .quiet (PT gr 0)] (sB H58) ?ho48 ?he48
   case ho48 => exact ar (ar (ar (ak (fun γ => ⟨rfl, fun w' _ => ex_shl4 rfl rfl rfl⟩) (ag trivial))))
   intro γ w59 l hM hl
   have H59 := yE H58 hM.below
   clear hM hl l H58 γ
   refine zJ (l := [5]) rfl ?_
   refine zI rfl rfl rfl (ex_storeI H59.out.1 6 rfl rfl Tryz.sizeOf22 rfl rfl (Nat.le_of_ble_eq_true rfl)) ?_
   have H60 : Hid (Mm (w59.setCells gr 0 [Value.int .u64 (IntKind.u64.wrap (wo k * 2 ^ 4))]) [(γ1_0, G1 g tn (en u) (en b)), (γ1_1, cel [en ((tg (tw (tw (tw (tw (A k))))) (dg k)).1), en ((tg (tw (tw (tw (tw (A k))))) (dg k)).2.1), en ((tg (tw (tw (tw (tw (A k))))) (dg k)).2.2)]), (γ1_2, cel [0, 0, 0]), (g, zR pB), (0, dtab), (gt, cel (tb1 f)), (gr, [Value.int .u64 (IntKind.u64.wrap (wo k * 2 ^ 4))])] ∧ Kp gr w (w59.setCells gr 0 [Value.int .u64 (IntKind.u64.wrap (wo k * 2 ^ 4))])) := ⟨H59.out.1.put 6 (off := 0) (vs := [Value.int .u64 (IntKind.u64.wrap (wo k * 2 ^ 4))]) rfl (Nat.le_of_ble_eq_true rfl), H59.out.2.put (Or.inl rfl)⟩
   clear H59
   generalize hgw : World.setCells _ _ _ _ = w60 at H60 ⊢
   clear hgw
   refine zH (zQ (zA ?_))
   refine zD 1 [.quiet (.int .i64 1)] (sB H60) ?ho49 ?he49
   case ho49 => exact ak (fun γ => ⟨rfl, fun w' _ => by kernel_rfl⟩) trivial
   intro γ w61 l hM hl
   have H61 := yE H60 hM.below
   clear hM hl l H60 γ
   refine zJ (l := [1]) rfl ?_
   refine zN (d := 22) rfl rfl rfl rfl ?_
   simp only [Act.put, sa, sz, ss]
   refine zH (zA ?_)
   refine yD (n := 0) ?_
   refine wp_seq ?_
   refine zD 1 [.quiet (.bool false)] (sB H61) ?ho50 ?he50
   case ho50 => exact ag trivial
   intro γ w62 l hM hl
   have H62 := yE H61 hM.below
   clear hM hl l H61 γ
   refine zG rfl (zA (wp_seq (wp_cond_false rfl ?_)))
   refine wp_exit ?_
   repeat refine then_exit ?_
   refine yH ?_
   refine zQ (zA ?_)
   refine zD 1 [.quiet (.int .i64 ((k + 1 : Nat) : Int))] (sB H62) ?ho51 ?he51
   case ho51 => exact ak (by refine fun γ => ⟨rfl, fun w' h => ?_⟩; clear h; go_simp; rw [IntKind.wrap_i64]; omega) trivial
   intro γ w63 l hM hl
   have H63 := yE H62 hM.below
   clear hM hl l H62 γ
   refine zJ (l := [1]) rfl ?_
   refine zN (d := 12) rfl rfl rfl rfl ?_
   simp only [Act.put, sa, sz, ss]
   refine zH (zA ?_)
   exact ⟨k + 1, ⟨(slotfn [ud, ud, ud, ud, ud, ud, ud, ud, ud, .int .i64 0, .int .u64 (wo k), .int .u64 ((dg k : Nat) : Int), ud, .bool true, .int .i64 4, .bool false, .agg (G1 g tn (en u) (en b)).toArray, V [en ((tw (tw (tw (A k)))).1), en ((tw (tw (tw (A k)))).2.1), en ((tw (tw (tw (A k)))).2.2)], V [en ((tw (tw (tw (tw (A k))))).1), en ((tw (tw (tw (tw (A k))))).2.1), en ((tw (tw (tw (tw (A k))))).2.2)], .int .i64 4, .slice (some ⟨gr, 0, none⟩) 1 1, .int .i64 1, .int .i64 1, .bool false, .int .i64 0, PT gr 0, .int .u64 (wo k), .int .u64 (wo k), .int .u64 ((dg k : Nat) : Int), .int .u64 ((dg k : Nat) : Int), .bool true, .agg (G1 g tn (en u) (en b)).toArray, V [en ((tw (tw (tw (tw (A k))))).1), en ((tw (tw (tw (tw (A k))))).2.1), en ((tw (tw (tw (tw (A k))))).2.2)], .slice (some ⟨gt, 0, none⟩) 1 1, .int .i64 0, .int .u64 ((dg k : Nat) : Int), PT gt 0, PT gt (6 * (3 * (dg k))), V [f (3 * dg k), f (3 * dg k + 1), f (3 * dg k + 2)], V [en ((tg (tw (tw (tw (tw (A k))))) (dg k)).1), en ((tg (tw (tw (tw (tw (A k))))) (dg k)).2.1), en ((tg (tw (tw (tw (tw (A k))))) (dg k)).2.2)], .slice (some ⟨gr, 0, none⟩) 1 1, .int .i64 0, .int .u64 (wo k), .int .u64 (IntKind.u64.wrap (wo k * 2 ^ 4)), PT gr 0, .int .i64 1, .int .i64 ((k + 1 : Nat) : Int)]), rfl, ⟨(H63.out.1).atk (by rw [HA1.out k hdz, HW.out]), H63.out.2⟩, by omega⟩, by omega⟩
 have hk16 : k = 16 := by omega
 subst hk16
 refine wp_seq ?_
 refine zD 1 [.quiet (.bool false)] (sB H3) ?ho52 ?he52
 case ho52 => exact ak (by refine fun γ => ⟨rfl, fun w' h => ?_⟩; clear h; go_simp <;> omega) trivial
 intro γ w64 l hM hl
 have H64 := yE H3 hM.below
 clear hM hl l H3 γ
 refine zG rfl (zA (wp_seq (wp_cond_false rfl ?_)))
 refine wp_exit ?_
 repeat refine then_exit ?_
 refine yH ?_
 refine zA (wp_seq ?_)
 refine zD 1 [.quiet (V [en ((A 16).1), en ((A 16).2.1), en ((A 16).2.2)])] (sB H64) ?ho53 ?he53
 case ho53 => exact aq (fun w' h => lA 0 3 h 1 Tryz.isAgg124 Tryz.sizeOf124) trivial
 intro γ w65 l hM hl
 have H65 := yE H64 hM.below
 clear hM hl l H64 γ
 refine zJ (l := [1]) rfl ?_
 refine zI rfl rfl rfl (zT (i := 0) (ms := [en ((A 16).1), en ((A 16).2.1), en ((A 16).2.2)]) H65.out.1 2 rfl rfl rfl rfl Tryz.sizeOf124 (Nat.le_of_ble_eq_true rfl)) ?_
 have H66 : Hid (Mm (w65.setCells γ1_2 (6 * 0) (cel [en ((A 16).1), en ((A 16).2.1), en ((A 16).2.2)])) [(γ1_0, G1 g tn (en u) (en b)), (γ1_1, cel [en ((A 16).1), en ((A 16).2.1), en ((A 16).2.2)]), (γ1_2, cel [en ((A 16).1), en ((A 16).2.1), en ((A 16).2.2)]), (g, zR pB), (0, dtab), (gt, cel (tb1 f)), (gr, [Value.int .u64 (wo 16)])] ∧ Kp gr w (w65.setCells γ1_2 (6 * 0) (cel [en ((A 16).1), en ((A 16).2.1), en ((A 16).2.2)]))) := ⟨by
  have h := H65.out.1.put 2 (off := 6 * 0) (vs := cel [en ((A 16).1), en ((A 16).2.1), en ((A 16).2.2)]) rfl (by simp only [cel_len]; exact Nat.le_of_ble_eq_true rfl)
  rw [zU] at h
  exact h, H65.out.2.put (Or.inr o1_2.out)⟩
 clear H65
 generalize hgw : World.setCells _ _ _ _ = w66 at H66 ⊢
 clear hgw
 refine zH (zA (wp_ret ?_))
 repeat (first | refine zM ?_ | refine zK ?_)
 have hf0 := cel_var (k := 3) H66.out.1 2 rfl Tryz.isAgg124 Tryz.sizeOf124 rfl
 refine bodyPost_ret (v := V [en ((A 16).1), en ((A 16).2.1), en ((A 16).2.2)]) (by simp [results, Tryz.results153, asAddr, hf0]) rfl ?_
 exact ⟨rfl, H66.out.1.one 6 rfl, H66.out.2⟩
end Rg
end Go.Proofs.YtaomlijondiaoaaGreatDoor
end
section
namespace Go.Proofs.YtaomlijondiaoaaGreatDoor
open Go.RowKit
namespace Rg
theorem ex_bs63 {ρ : Operand → Value} {o : Oper} {x : Operand} {a b : Nat} {z : Bool} {w : World} (ho : o.op = .buildSlice 63 1 #[(0, x)]) (hx : ρ x = .agg (cel [a, b] ++ [Value.bool z]).toArray) :
  (execOp ρ o).run Tryz.prog w = .ok (.value (.slice (some ⟨w.heap.size, 0, none⟩) 1 1)) (w.alloc (.cells (cel [a, b] ++ [Value.bool z] : List Value).toArray 26)) := by
 simp only [execOp, ho, List.map_toArray, List.map_cons, List.map_nil, hx]
 kernel_rfl
theorem ex_bs65 {ρ : Operand → Value} {o : Oper} {x : Operand} {a : Nat} {w : World} (ho : o.op = .buildSlice 65 1 #[(0, x)]) (hx : ρ x = N a) :
  (execOp ρ o).run Tryz.prog w = .ok (.value (.slice (some ⟨w.heap.size, 0, none⟩) 1 1)) (w.alloc (.cells (zB a : List Value).toArray 24)) := by
 simp only [execOp, ho, List.map_toArray, List.map_cons, List.map_nil, hx]
 kernel_rfl
end Rg
end Go.Proofs.YtaomlijondiaoaaGreatDoor
end
section
namespace Go.Proofs.YtaomlijondiaoaaGreatDoor
open Go.RowKit
namespace Rg
set_option maxHeartbeats 8000000 in
theorem some_1 {α : Type} {en : α → Nat} {fa fs fm : α → α → α} {fi : α → α} {z u b : α} {g : Nat} {tn : Value} (_C : Fd1 g en fa fs fm fi z) (f : Nat → Nat) (S : Nat → EC.Tri α) (x y nn gp gn : Nat) (zb : Bool) (cz : ∀ w, Mm w [(g, zR pB), (0, dtab)] → Calls Tryz.prog 117 #[.agg (G1 g tn (en u) (en b)).toArray] w (Rt w (V [en ((S 0).1), en ((S 0).2.1), en ((S 0).2.2)]))) (ct : ∀ w, Mm w [(g, zR pB), (0, dtab)] → Calls Tryz.prog 152 #[.agg (G1 g tn (en u) (en b)).toArray, .agg (cel [x, y] ++ [Value.bool zb]).toArray] w (Rt w (V (tb1 f)))) (c0 : ∀ gt gr w, Mm w [(g, zR pB), (0, dtab), (gt, cel (tb1 f)), (gr, [Value.int .u64 (wd nn 5)])] → Calls Tryz.prog 153 #[.agg (G1 g tn (en u) (en b)).toArray, V [en ((S 0).1), en ((S 0).2.1), en ((S 0).2.2)], .slice (some ⟨gt, 0, none⟩) 1 1, .slice (some ⟨gr, 0, none⟩) 1 1] w fun e w' => e = .returned (V [en ((S 1).1), en ((S 1).2.1), en ((S 1).2.2)]) ∧ Mm w' [(gr, [Value.int .u64 0])] ∧ Kp gr w w') (c1 : ∀ gt gr w, Mm w [(g, zR pB), (0, dtab), (gt, cel (tb1 f)), (gr, [Value.int .u64 (wd nn 4)])] → Calls Tryz.prog 153 #[.agg (G1 g tn (en u) (en b)).toArray, V [en ((S 1).1), en ((S 1).2.1), en ((S 1).2.2)], .slice (some ⟨gt, 0, none⟩) 1 1, .slice (some ⟨gr, 0, none⟩) 1 1] w fun e w' => e = .returned (V [en ((S 2).1), en ((S 2).2.1), en ((S 2).2.2)]) ∧ Mm w' [(gr, [Value.int .u64 0])] ∧ Kp gr w w') (c2 : ∀ gt gr w, Mm w [(g, zR pB), (0, dtab), (gt, cel (tb1 f)), (gr, [Value.int .u64 (wd nn 3)])] → Calls Tryz.prog 153 #[.agg (G1 g tn (en u) (en b)).toArray, V [en ((S 2).1), en ((S 2).2.1), en ((S 2).2.2)], .slice (some ⟨gt, 0, none⟩) 1 1, .slice (some ⟨gr, 0, none⟩) 1 1] w fun e w' => e = .returned (V [en ((S 3).1), en ((S 3).2.1), en ((S 3).2.2)]) ∧ Mm w' [(gr, [Value.int .u64 0])] ∧ Kp gr w w') (c3 : ∀ gt gr w, Mm w [(g, zR pB), (0, dtab), (gt, cel (tb1 f)), (gr, [Value.int .u64 (wd nn 2)])] → Calls Tryz.prog 153 #[.agg (G1 g tn (en u) (en b)).toArray, V [en ((S 3).1), en ((S 3).2.1), en ((S 3).2.2)], .slice (some ⟨gt, 0, none⟩) 1 1, .slice (some ⟨gr, 0, none⟩) 1 1] w fun e w' => e = .returned (V [en ((S 4).1), en ((S 4).2.1), en ((S 4).2.2)]) ∧ Mm w' [(gr, [Value.int .u64 0])] ∧ Kp gr w w') (c4 : ∀ gt gr w, Mm w [(g, zR pB), (0, dtab), (gt, cel (tb1 f)), (gr, [Value.int .u64 (wd nn 1)])] → Calls Tryz.prog 153 #[.agg (G1 g tn (en u) (en b)).toArray, V [en ((S 4).1), en ((S 4).2.1), en ((S 4).2.2)], .slice (some ⟨gt, 0, none⟩) 1 1, .slice (some ⟨gr, 0, none⟩) 1 1] w fun e w' => e = .returned (V [en ((S 5).1), en ((S 5).2.1), en ((S 5).2.2)]) ∧ Mm w' [(gr, [Value.int .u64 0])] ∧ Kp gr w w') (c5 : ∀ gt gr w, Mm w [(g, zR pB), (0, dtab), (gt, cel (tb1 f)), (gr, [Value.int .u64 (wd nn 0)])] → Calls Tryz.prog 153 #[.agg (G1 g tn (en u) (en b)).toArray, V [en ((S 5).1), en ((S 5).2.1), en ((S 5).2.2)], .slice (some ⟨gt, 0, none⟩) 1 1, .slice (some ⟨gr, 0, none⟩) 1 1] w fun e w' => e = .returned (V [en ((S 6).1), en ((S 6).2.1), en ((S 6).2.2)]) ∧ Mm w' [(gr, [Value.int .u64 0])] ∧ Kp gr w w') (w : World) (hm : Mm w [(g, zR pB), (0, dtab), (gp, cel [x, y] ++ [Value.bool zb]), (gn, zB nn)]) :
  Calls Tryz.prog 118 #[.agg (G1 g tn (en u) (en b)).toArray, .slice (some ⟨gp, 0, none⟩) 1 1, .slice (some ⟨gn, 0, none⟩) 1 1] w (Rt w (V [en ((S 6).1), en ((S 6).2.1), en ((S 6).2.2)])) := by
 have H0 : Hid (_ ∧ _) := ⟨hm, Below.refl w.heap.size w⟩
 clear hm
 have CZ : Hid _ := cz
 clear cz
 have CT : Hid _ := ct
 clear ct
 have C0 : Hid _ := c0
 clear c0
 have C1 : Hid _ := c1
 clear c1
 have C2 : Hid _ := c2
 clear c2
 have C3 : Hid _ := c3
 clear c3
 have C4 : Hid _ := c4
 clear c4
 have C5 : Hid _ := c5
 clear c5
 go_enter Tryz.func118, Tryz.ntmps118
 refine wp_seq ?_
 refine zD 2 [.made (G1 g tn (en u) (en b)) 81, .made (cel [0, 0, 0]) 124] (sB H0) ?ho1 ?he1
 case ho1 => exact ak (fun γ => ⟨rfl, fun w' => yA rfl rfl⟩) (ak (fun γ => ⟨rfl, fun w' => ex_madeTN rfl⟩) trivial)
 intro γ w1 l hM hl
 have H1 : Hid (Mm w1 [(γ 0, G1 g tn (en u) (en b)), (γ 1, cel [0, 0, 0]), (g, zR pB), (0, dtab), (gp, cel [x, y] ++ [Value.bool zb]), (gn, zB nn)] ∧ _) := zS H0 hM (Nat.le_refl _) hl [0, 1] rfl (by decide)
 have o1_0 := zP H0 hM (Nat.le_refl _) hl (i := 0) rfl
 have o1_1 := zP H0 hM (Nat.le_refl _) hl (i := 1) rfl
 clear hM hl l
 generalize γ 0 = γ1_0 at H1 o1_0 ⊢
 generalize γ 1 = γ1_1 at H1 o1_1 ⊢
 clear γ
 refine zG rfl (zA (wp_seq ?_))
 refine zE 2 [.quiet (.slice (some ⟨gp, 0, none⟩) 1 1), .quiet (.int .i64 1)] H1 ?ho2 ?he2
 case ho2 => exact ar (ag trivial)
 intro _ w2 H2
 clear H1
 refine zJ (l := [2, 3]) rfl ?_
 refine zN (d := 16) (v := .slice (some ⟨w2.heap.size, 0, none⟩) 1 1) (w' := w2.alloc (.cells (cel [0, 0, 0, 0, 0, 0, 0, 0, 0, 0, 0, 0, 0, 0, 0, 0, 0, 0, 0, 0, 0, 0, 0, 0, 0, 0, 0, 0, 0, 0, 0, 0, 0, 0, 0, 0, 0, 0, 0, 0, 0, 0, 0, 0, 0, 0, 0, 0] : List Value).toArray 173)) rfl rfl rfl (ex_mkTN rfl rfl rfl) ?_
 simp only [Act.put, sa, sz, ss]
 have o_γs3 : Hid (w.heap.size ≤ w2.heap.size) := H2.out.2.size
 have H3 : Hid (Mm (w2.alloc (.cells (cel [0, 0, 0, 0, 0, 0, 0, 0, 0, 0, 0, 0, 0, 0, 0, 0, 0, 0, 0, 0, 0, 0, 0, 0, 0, 0, 0, 0, 0, 0, 0, 0, 0, 0, 0, 0, 0, 0, 0, 0, 0, 0, 0, 0, 0, 0, 0, 0] : List Value).toArray 173)) ((w2.heap.size, cel [0, 0, 0, 0, 0, 0, 0, 0, 0, 0, 0, 0, 0, 0, 0, 0, 0, 0, 0, 0, 0, 0, 0, 0, 0, 0, 0, 0, 0, 0, 0, 0, 0, 0, 0, 0, 0, 0, 0, 0, 0, 0, 0, 0, 0, 0, 0, 0]) :: [(γ1_0, G1 g tn (en u) (en b)), (γ1_1, cel [0, 0, 0]), (g, zR pB), (0, dtab), (gp, cel [x, y] ++ [Value.bool zb]), (gn, zB nn)]) ∧ Below w.heap.size w (w2.alloc (.cells (cel [0, 0, 0, 0, 0, 0, 0, 0, 0, 0, 0, 0, 0, 0, 0, 0, 0, 0, 0, 0, 0, 0, 0, 0, 0, 0, 0, 0, 0, 0, 0, 0, 0, 0, 0, 0, 0, 0, 0, 0, 0, 0, 0, 0, 0, 0, 0, 0] : List Value).toArray 173))) := ⟨H2.out.1.alloc _ 173 rfl, H2.out.2.alloc H2.out.2.size _⟩
 clear H2
 generalize hgw : w2.alloc (.cells (cel [0, 0, 0, 0, 0, 0, 0, 0, 0, 0, 0, 0, 0, 0, 0, 0, 0, 0, 0, 0, 0, 0, 0, 0, 0, 0, 0, 0, 0, 0, 0, 0, 0, 0, 0, 0, 0, 0, 0, 0, 0, 0, 0, 0, 0, 0, 0, 0] : List Value).toArray 173) = w3 at H3 ⊢
 clear hgw
 generalize w2.heap.size = γs3 at o_γs3 H3 ⊢
 refine zN (d := 7) rfl rfl rfl rfl ?_
 simp only [Act.put, sa, sz, ss]
 refine zH (zA ?_)
 refine wp_seq (wp_seq ?_)
 refine zE 3 [.quiet (.slice (some ⟨gp, 0, none⟩) 1 1), .quiet (.int .i64 1), .quiet (.int .i64 0)] H3 ?ho3 ?he3
 case ho3 => exact ar (ag (ar trivial))
 intro _ w4 H4
 clear H3
 refine zG rfl (zA (wp_block ?_))
 refine wp_loop_rounds 2 ?_
 refine yD (n := 1) ?_
 refine wp_seq ?_
 refine zE 1 [.quiet (.bool true)] H4 ?ho4 ?he4
 case ho4 => exact ag trivial
 intro _ w5 H5
 clear H4
 refine zG rfl (zA (wp_seq ?_))
 refine wp_cond_true rfl (wp_skip ?_)
 refine zA (wp_seq ?_)
 refine wp_block (wp_seq ?_)
 refine zD 6 [.quiet (.int .i64 0), .quiet (PT gp 0), .quiet (.agg (cel [x, y] ++ [Value.bool zb]).toArray), .made (cel [0, 0] ++ [Value.bool false]) 84, .quiet (.int .i64 0), .laid 3 (cel [0, 0] ++ [Value.bool false]) (cel [x, y] ++ [Value.bool zb])] (sB H5) ?ho5 ?he5 (hL := ?hL5)
 case hL5 => exact ⟨⟨_, rfl⟩, trivial⟩
 case ho5 => exact ar (ag (aq (fun w' h => lT h 5 Tryz.isAgg84 Tryz.sizeOf84) (ak (fun γ => ⟨rfl, fun w' => ex_madePN rfl⟩) (ar (ak (fun γ => ⟨rfl, rfl, rfl, fun w' h => ex_laidT h rfl rfl Tryz.sizeOf84 rfl rfl rfl⟩) trivial)))))
 intro γ w6 l hM hl
 have H6 : Hid (Mm w6 [(γ 3, cel [x, y] ++ [Value.bool zb]), (γs3, cel [0, 0, 0, 0, 0, 0, 0, 0, 0, 0, 0, 0, 0, 0, 0, 0, 0, 0, 0, 0, 0, 0, 0, 0, 0, 0, 0, 0, 0, 0, 0, 0, 0, 0, 0, 0, 0, 0, 0, 0, 0, 0, 0, 0, 0, 0, 0, 0]), (γ1_0, G1 g tn (en u) (en b)), (γ1_1, cel [0, 0, 0]), (g, zR pB), (0, dtab), (gp, cel [x, y] ++ [Value.bool zb]), (gn, zB nn)] ∧ _) := zS H5 hM (Nat.le_refl _) hl [3] rfl (by decide)
 have o5_3 := zP H5 hM (Nat.le_refl _) hl (i := 3) rfl
 clear hM hl l H5
 generalize γ 3 = γ5_3 at H6 o5_3 ⊢
 clear γ
 refine zG rfl (zA ?_)
 refine zE 6 [.quiet (.slice (some ⟨γs3, 0, none⟩) 1 1), .quiet (.int .i64 0), .quiet (.agg (G1 g tn (en u) (en b)).toArray), .quiet (.agg (cel [x, y] ++ [Value.bool zb]).toArray), .call (V (tb1 f)), .quiet (PT γs3 0)] H6 ?ho6 ?he6
 case ho6 => exact ar (ar (aq (fun w' h => lT h 2 Tryz.isAgg81 Tryz.sizeOf81) (aq (fun w' h => lT h 0 Tryz.isAgg84 Tryz.sizeOf84) (ac (fun w' h => ⟨152, #[.agg (G1 g tn (en u) (en b)).toArray, .agg (cel [x, y] ++ [Value.bool zb]).toArray], zC rfl call152 rfl (zX rfl), CT.out w' (h.two 4 5 rfl rfl (by decide))⟩) (ag trivial)))))
 intro _ w7 H7
 clear H6
 refine zJ (l := [6]) rfl ?_
 refine zI rfl rfl rfl (zT (i := 0) (ms := [f 0, f 1, f 2, f 3, f 4, f 5, f 6, f 7, f 8, f 9, f 10, f 11, f 12, f 13, f 14, f 15, f 16, f 17, f 18, f 19, f 20, f 21, f 22, f 23, f 24, f 25, f 26, f 27, f 28, f 29, f 30, f 31, f 32, f 33, f 34, f 35, f 36, f 37, f 38, f 39, f 40, f 41, f 42, f 43, f 44, f 45, f 46, f 47]) H7.out.1 1 rfl rfl rfl rfl Tryz.sizeOf173 (Nat.le_of_ble_eq_true rfl)) ?_
 have H8 : Hid (Mm (w7.setCells γs3 (6 * 0) (cel [f 0, f 1, f 2, f 3, f 4, f 5, f 6, f 7, f 8, f 9, f 10, f 11, f 12, f 13, f 14, f 15, f 16, f 17, f 18, f 19, f 20, f 21, f 22, f 23, f 24, f 25, f 26, f 27, f 28, f 29, f 30, f 31, f 32, f 33, f 34, f 35, f 36, f 37, f 38, f 39, f 40, f 41, f 42, f 43, f 44, f 45, f 46, f 47])) [(γ5_3, cel [x, y] ++ [Value.bool zb]), (γs3, cel (tb1 f)), (γ1_0, G1 g tn (en u) (en b)), (γ1_1, cel [0, 0, 0]), (g, zR pB), (0, dtab), (gp, cel [x, y] ++ [Value.bool zb]), (gn, zB nn)] ∧ Below w.heap.size w (w7.setCells γs3 (6 * 0) (cel [f 0, f 1, f 2, f 3, f 4, f 5, f 6, f 7, f 8, f 9, f 10, f 11, f 12, f 13, f 14, f 15, f 16, f 17, f 18, f 19, f 20, f 21, f 22, f 23, f 24, f 25, f 26, f 27, f 28, f 29, f 30, f 31, f 32, f 33, f 34, f 35, f 36, f 37, f 38, f 39, f 40, f 41, f 42, f 43, f 44, f 45, f 46, f 47]))) := ⟨by
  have h := H7.out.1.put 1 (off := 6 * 0) (vs := cel [f 0, f 1, f 2, f 3, f 4, f 5, f 6, f 7, f 8, f 9, f 10, f 11, f 12, f 13, f 14, f 15, f 16, f 17, f 18, f 19, f 20, f 21, f 22, f 23, f 24, f 25, f 26, f 27, f 28, f 29, f 30, f 31, f 32, f 33, f 34, f 35, f 36, f 37, f 38, f 39, f 40, f 41, f 42, f 43, f 44, f 45, f 46, f 47]) rfl (by simp only [cel_len]; exact Nat.le_of_ble_eq_true rfl)
  rw [zU] at h
  exact h, zF _ o_γs3.out _ _ _ H7.out.2⟩
 clear H7
 generalize hgw : World.setCells _ _ _ _ = w8 at H8 ⊢
 clear hgw
 refine zH (zQ (zA ?_))
 refine zE 1 [.quiet (.int .i64 1)] H8 ?ho7 ?he7
 case ho7 => exact ak (fun γ => ⟨rfl, fun w' _ => by kernel_rfl⟩) trivial
 intro _ w9 H9
 clear H8
 refine zJ (l := [1]) rfl ?_
 refine zN (d := 19) rfl rfl rfl rfl ?_
 simp only [Act.put, sa, sz, ss]
 refine zH (zA ?_)
 refine yD (n := 0) ?_
 refine wp_seq ?_
 refine zE 1 [.quiet (.bool false)] H9 ?ho8 ?he8
 case ho8 => exact ag trivial
 intro _ w10 H10
 clear H9
 refine zG rfl (zA (wp_seq (wp_cond_false rfl ?_)))
 refine wp_exit ?_
 repeat refine then_exit ?_
 refine yH ?_
 refine zA (wp_seq ?_)
 refine zD 4 [.quiet (.agg (G1 g tn (en u) (en b)).toArray), .call (V [en ((S 0).1), en ((S 0).2.1), en ((S 0).2.2)]), .made (cel [0, 0, 0]) 124, .laid 2 (cel [0, 0, 0]) (cel [en ((S 0).1), en ((S 0).2.1), en ((S 0).2.2)])] (sB H10) ?ho9 ?he9 (hL := ?hL9)
 case hL9 => exact ⟨⟨_, rfl⟩, trivial⟩
 case ho9 => exact aq (fun w' h => lT h 2 Tryz.isAgg81 Tryz.sizeOf81) (ac (fun w' h => ⟨117, #[.agg (G1 g tn (en u) (en b)).toArray], zC rfl call117 rfl (zX rfl), CZ.out w' (h.two 4 5 rfl rfl (by decide))⟩) (ak (fun γ => ⟨rfl, fun w' => ex_madeTN rfl⟩) (ak (fun γ => ⟨rfl, rfl, rfl, fun w' h => ex_laidA h rfl Tryz.sizeOf124 rfl rfl rfl⟩) trivial)))
 intro γ w11 l hM hl
 have H11 : Hid (Mm w11 [(γ 2, cel [en ((S 0).1), en ((S 0).2.1), en ((S 0).2.2)]), (γ5_3, cel [x, y] ++ [Value.bool zb]), (γs3, cel (tb1 f)), (γ1_0, G1 g tn (en u) (en b)), (γ1_1, cel [0, 0, 0]), (g, zR pB), (0, dtab), (gp, cel [x, y] ++ [Value.bool zb]), (gn, zB nn)] ∧ _) := zS H10 hM (Nat.le_refl _) hl [2] rfl (by decide)
 have o9_2 := zP H10 hM (Nat.le_refl _) hl (i := 2) rfl
 clear hM hl l H10
 generalize γ 2 = γ9_2 at H11 o9_2 ⊢
 clear γ
 refine zG rfl (zA (wp_seq ?_))
 refine zE 2 [.quiet (.slice (some ⟨gn, 0, none⟩) 1 1), .quiet (.int .i64 1)] H11 ?ho10 ?he10
 case ho10 => exact ar (ag trivial)
 intro _ w12 H12
 clear H11
 refine zJ (l := [2, 3]) rfl ?_
 refine zN (d := 35) (v := .slice (some ⟨w12.heap.size, 0, none⟩) 1 1) (w' := w12.alloc (.cells ([Value.int .u64 0] : List Value).toArray 22)) rfl rfl rfl (ex_mkU rfl rfl rfl) ?_
 simp only [Act.put, sa, sz, ss]
 have o_γs13 : Hid (w.heap.size ≤ w12.heap.size) := H12.out.2.size
 have H13 : Hid (Mm (w12.alloc (.cells ([Value.int .u64 0] : List Value).toArray 22)) ((w12.heap.size, [Value.int .u64 0]) :: [(γ9_2, cel [en ((S 0).1), en ((S 0).2.1), en ((S 0).2.2)]), (γ5_3, cel [x, y] ++ [Value.bool zb]), (γs3, cel (tb1 f)), (γ1_0, G1 g tn (en u) (en b)), (γ1_1, cel [0, 0, 0]), (g, zR pB), (0, dtab), (gp, cel [x, y] ++ [Value.bool zb]), (gn, zB nn)]) ∧ Below w.heap.size w (w12.alloc (.cells ([Value.int .u64 0] : List Value).toArray 22))) := ⟨H12.out.1.alloc _ 22 rfl, H12.out.2.alloc H12.out.2.size _⟩
 clear H12
 generalize hgw : w12.alloc (.cells ([Value.int .u64 0] : List Value).toArray 22) = w13 at H13 ⊢
 clear hgw
 generalize w12.heap.size = γs13 at o_γs13 H13 ⊢
 refine zN (d := 11) rfl rfl rfl rfl ?_
 simp only [Act.put, sa, sz, ss]
 refine zH (zA ?_)
 refine wp_seq (wp_seq ?_)
 refine zE 1 [.quiet (.int .i64 5)] H13 ?ho11 ?he11
 case ho11 => exact ar trivial
 intro _ w14 H14
 clear H13
 refine zG rfl (zA (wp_block ?_))
 refine wp_loop_rounds 7 ?_
 refine yD (n := 6) ?_
 refine wp_seq (wp_seq ?_)
 refine zE 2 [.quiet (.int .i64 5), .quiet (.bool true)] H14 ?ho12 ?he12
 case ho12 => exact ar (ag trivial)
 intro _ w15 H15
 clear H14
 refine zG rfl (zA (wp_cond_true rfl ?_))
 refine wp_skip (zA ?_)
 refine wp_seq (wp_block ?_)
 refine wp_seq (wp_seq ?_)
 refine zE 3 [.quiet (.slice (some ⟨gn, 0, none⟩) 1 1), .quiet (.int .i64 1), .quiet (.int .i64 0)] H15 ?ho13 ?he13
 case ho13 => exact ar (ag (ar trivial))
 intro _ w16 H16
 clear H15
 refine zG rfl (zA (wp_block ?_))
 refine wp_loop_rounds 2 ?_
 refine yD (n := 1) ?_
 refine wp_seq ?_
 refine zE 1 [.quiet (.bool true)] H16 ?ho14 ?he14
 case ho14 => exact ag trivial
 intro _ w17 H17
 clear H16
 refine zG rfl (zA (wp_seq ?_))
 refine wp_cond_true rfl (wp_skip ?_)
 refine zA (wp_seq ?_)
 refine wp_block (wp_seq ?_)
 refine zE 2 [.quiet (.int .i64 0), .quiet (.int .i64 0)] H17 ?ho15 ?he15
 case ho15 => exact ar (ar trivial)
 intro _ w18 H18
 clear H17
 refine zG rfl (zA ?_)
 refine zE 9 [.quiet (.slice (some ⟨γs13, 0, none⟩) 1 1), .quiet (.int .i64 0), .quiet (.slice (some ⟨gn, 0, none⟩) 1 1), .quiet (.int .i64 0), .quiet (.int .i64 5), .quiet (PT gn 0), .quiet (PT gn 5), .quiet (.int .u64 (wd nn 5)), .quiet (PT γs13 0)] H18 ?ho16 ?he16
 case ho16 => exact ar (ar (ar (ar (ar (ag (ag (aq (fun w' h => ex_load1 h 9 rfl rfl rfl rfl) (ag trivial))))))))
 intro _ w19 H19
 clear H18
 refine zJ (l := [9]) rfl ?_
 refine zI rfl rfl rfl (ex_storeI H19.out.1 0 rfl rfl Tryz.sizeOf22 rfl rfl (Nat.le_of_ble_eq_true rfl)) ?_
 have H20 : Hid (Mm (w19.setCells γs13 0 [Value.int .u64 (wd nn 5)]) [(γs13, [Value.int .u64 (wd nn 5)]), (γ9_2, cel [en ((S 0).1), en ((S 0).2.1), en ((S 0).2.2)]), (γ5_3, cel [x, y] ++ [Value.bool zb]), (γs3, cel (tb1 f)), (γ1_0, G1 g tn (en u) (en b)), (γ1_1, cel [0, 0, 0]), (g, zR pB), (0, dtab), (gp, cel [x, y] ++ [Value.bool zb]), (gn, zB nn)] ∧ Below w.heap.size w (w19.setCells γs13 0 [Value.int .u64 (wd nn 5)])) := ⟨H19.out.1.put 0 (off := 0) (vs := [Value.int .u64 (wd nn 5)]) rfl (Nat.le_of_ble_eq_true rfl), zF _ o_γs13.out _ _ _ H19.out.2⟩
 clear H19
 generalize hgw : World.setCells _ _ _ _ = w20 at H20 ⊢
 clear hgw
 refine zH (zQ (zA ?_))
 refine zE 1 [.quiet (.int .i64 1)] H20 ?ho17 ?he17
 case ho17 => exact ak (fun γ => ⟨rfl, fun w' _ => by kernel_rfl⟩) trivial
 intro _ w21 H21
 clear H20
 refine zJ (l := [1]) rfl ?_
 refine zN (d := 42) rfl rfl rfl rfl ?_
 simp only [Act.put, sa, sz, ss]
 refine zH (zA ?_)
 refine yD (n := 0) ?_
 refine wp_seq ?_
 refine zE 1 [.quiet (.bool false)] H21 ?ho18 ?he18
 case ho18 => exact ag trivial
 intro _ w22 H22
 clear H21
 refine zG rfl (zA (wp_seq (wp_cond_false rfl ?_)))
 refine wp_exit ?_
 repeat refine then_exit ?_
 refine yH ?_
 refine zA ?_
 refine zE 4 [.quiet (.agg (G1 g tn (en u) (en b)).toArray), .quiet (V [en ((S 0).1), en ((S 0).2.1), en ((S 0).2.2)]), .quiet (.slice (some ⟨γs3, 0, none⟩) 1 1), .quiet (.slice (some ⟨γs13, 0, none⟩) 1 1)] H22 ?ho19 ?he19
 case ho19 => exact aq (fun w' h => lT h 4 Tryz.isAgg81 Tryz.sizeOf81) (aq (fun w' h => lA 0 3 h 1 Tryz.isAgg124 Tryz.sizeOf124) (ar (ar trivial)))
 intro _ w23 H23
 clear H22
 refine zJ (l := [4, 5]) rfl ?_
 refine rest_enter (d := 59) (R := fun vv w' => vv = V [en ((S 1).1), en ((S 1).2.1), en ((S 1).2.2)] ∧ Mm w' [(γs13, [Value.int .u64 0])] ∧ Kp γs13 w23 w') rfl rfl rfl (zC (args := #[.agg (G1 g tn (en u) (en b)).toArray, V [en ((S 0).1), en ((S 0).2.1), en ((S 0).2.2)], .slice (some ⟨γs3, 0, none⟩) 1 1, .slice (some ⟨γs13, 0, none⟩) 1 1]) rfl call153 rfl (zX rfl)) (Calls.mono (C0.out γs3 γs13 w23 (H23.out.1.pick [6, 7, 3, 0] rfl (by decide))) (fun e w2 hh => ⟨_, hh.1, rfl, hh.2⟩)) ?_
 rintro _ w24 ⟨rfl, hn, hp⟩
 have H24 : Hid (Mm w24 [(γs13, [Value.int .u64 0]), (γ9_2, cel [en ((S 0).1), en ((S 0).2.1), en ((S 0).2.2)]), (γ5_3, cel [x, y] ++ [Value.bool zb]), (γs3, cel (tb1 f)), (γ1_0, G1 g tn (en u) (en b)), (γ1_1, cel [0, 0, 0]), (g, zR pB), (0, dtab), (gp, cel [x, y] ++ [Value.bool zb]), (gn, zB nn)] ∧ Below w.heap.size w w24) := ⟨H23.out.1.change 0 rfl hp hn, Below.kp H23.out.2 hp o_γs13.out H23.out.2.size⟩
 clear hn hp H23
 simp only [Act.put, sa, sz, ss]
 refine zI rfl rfl rfl (zT (i := 0) (ms := [en ((S 1).1), en ((S 1).2.1), en ((S 1).2.2)]) H24.out.1 1 rfl rfl rfl rfl Tryz.sizeOf124 (Nat.le_of_ble_eq_true rfl)) ?_
 have H25 : Hid (Mm (w24.setCells γ9_2 (6 * 0) (cel [en ((S 1).1), en ((S 1).2.1), en ((S 1).2.2)])) [(γs13, [Value.int .u64 0]), (γ9_2, cel [en ((S 1).1), en ((S 1).2.1), en ((S 1).2.2)]), (γ5_3, cel [x, y] ++ [Value.bool zb]), (γs3, cel (tb1 f)), (γ1_0, G1 g tn (en u) (en b)), (γ1_1, cel [0, 0, 0]), (g, zR pB), (0, dtab), (gp, cel [x, y] ++ [Value.bool zb]), (gn, zB nn)] ∧ Below w.heap.size w (w24.setCells γ9_2 (6 * 0) (cel [en ((S 1).1), en ((S 1).2.1), en ((S 1).2.2)]))) := ⟨by
  have h := H24.out.1.put 1 (off := 6 * 0) (vs := cel [en ((S 1).1), en ((S 1).2.1), en ((S 1).2.2)]) rfl (by simp only [cel_len]; exact Nat.le_of_ble_eq_true rfl)
  rw [zU] at h
  exact h, zF _ o9_2.out _ _ _ H24.out.2⟩
 clear H24
 generalize hgw : World.setCells _ _ _ _ = w25 at H25 ⊢
 clear hgw
 refine zH (zQ (zA ?_))
 refine zE 2 [.quiet (.int .i64 5), .quiet (.int .i64 4)] H25 ?ho20 ?he20
 case ho20 => exact ar (ak (fun γ => ⟨rfl, fun w' _ => by kernel_rfl⟩) trivial)
 intro _ w26 H26
 clear H25
 refine zJ (l := [2]) rfl ?_
 refine zN (d := 12) rfl rfl rfl rfl ?_
 simp only [Act.put, sa, sz, ss]
 refine zH (zA ?_)
 refine yD (n := 5) ?_
 refine wp_seq (wp_seq ?_)
 refine zE 2 [.quiet (.int .i64 4), .quiet (.bool true)] H26 ?ho21 ?he21
 case ho21 => exact ar (ag trivial)
 intro _ w27 H27
 clear H26
 refine zG rfl (zA (wp_cond_true rfl ?_))
 refine wp_skip (zA ?_)
 refine wp_seq (wp_block ?_)
 refine wp_seq (wp_seq ?_)
 refine zE 3 [.quiet (.slice (some ⟨gn, 0, none⟩) 1 1), .quiet (.int .i64 1), .quiet (.int .i64 0)] H27 ?ho22 ?he22
 case ho22 => exact ar (ag (ar trivial))
 intro _ w28 H28
 clear H27
 refine zG rfl (zA (wp_block ?_))
 refine wp_loop_rounds 2 ?_
 refine yD (n := 1) ?_
 refine wp_seq ?_
 refine zE 1 [.quiet (.bool true)] H28 ?ho23 ?he23
 case ho23 => exact ag trivial
 intro _ w29 H29
 clear H28
 refine zG rfl (zA (wp_seq ?_))
 refine wp_cond_true rfl (wp_skip ?_)
 refine zA (wp_seq ?_)
 refine wp_block (wp_seq ?_)
 refine zE 2 [.quiet (.int .i64 0), .quiet (.int .i64 0)] H29 ?ho24 ?he24
 case ho24 => exact ar (ar trivial)
 intro _ w30 H30
 clear H29
 refine zG rfl (zA ?_)
 refine zE 9 [.quiet (.slice (some ⟨γs13, 0, none⟩) 1 1), .quiet (.int .i64 0), .quiet (.slice (some ⟨gn, 0, none⟩) 1 1), .quiet (.int .i64 0), .quiet (.int .i64 4), .quiet (PT gn 0), .quiet (PT gn 4), .quiet (.int .u64 (wd nn 4)), .quiet (PT γs13 0)] H30 ?ho25 ?he25
 case ho25 => exact ar (ar (ar (ar (ar (ag (ag (aq (fun w' h => ex_load1 h 9 rfl rfl rfl rfl) (ag trivial))))))))
 intro _ w31 H31
 clear H30
 refine zJ (l := [9]) rfl ?_
 refine zI rfl rfl rfl (ex_storeI H31.out.1 0 rfl rfl Tryz.sizeOf22 rfl rfl (Nat.le_of_ble_eq_true rfl)) ?_
 have H32 : Hid (Mm (w31.setCells γs13 0 [Value.int .u64 (wd nn 4)]) [(γs13, [Value.int .u64 (wd nn 4)]), (γ9_2, cel [en ((S 1).1), en ((S 1).2.1), en ((S 1).2.2)]), (γ5_3, cel [x, y] ++ [Value.bool zb]), (γs3, cel (tb1 f)), (γ1_0, G1 g tn (en u) (en b)), (γ1_1, cel [0, 0, 0]), (g, zR pB), (0, dtab), (gp, cel [x, y] ++ [Value.bool zb]), (gn, zB nn)] ∧ Below w.heap.size w (w31.setCells γs13 0 [Value.int .u64 (wd nn 4)])) := ⟨H31.out.1.put 0 (off := 0) (vs := [Value.int .u64 (wd nn 4)]) rfl (Nat.le_of_ble_eq_true rfl), zF _ o_γs13.out _ _ _ H31.out.2⟩
 clear H31
 generalize hgw : World.setCells _ _ _ _ = w32 at H32 ⊢
 clear hgw
 refine zH (zQ (zA ?_))
 refine zE 1 [.quiet (.int .i64 1)] H32 ?ho26 ?he26
 case ho26 => exact ak (fun γ => ⟨rfl, fun w' _ => by kernel_rfl⟩) trivial
 intro _ w33 H33
 clear H32
 refine zJ (l := [1]) rfl ?_
 refine zN (d := 42) rfl rfl rfl rfl ?_
 simp only [Act.put, sa, sz, ss]
 refine zH (zA ?_)
 refine yD (n := 0) ?_
 refine wp_seq ?_
 refine zE 1 [.quiet (.bool false)] H33 ?ho27 ?he27
 case ho27 => exact ag trivial
 intro _ w34 H34
 clear H33
 refine zG rfl (zA (wp_seq (wp_cond_false rfl ?_)))
 refine wp_exit ?_
 repeat refine then_exit ?_
 refine yH ?_
 refine zA ?_
 refine zE 4 [.quiet (.agg (G1 g tn (en u) (en b)).toArray), .quiet (V [en ((S 1).1), en ((S 1).2.1), en ((S 1).2.2)]), .quiet (.slice (some ⟨γs3, 0, none⟩) 1 1), .quiet (.slice (some ⟨γs13, 0, none⟩) 1 1)] H34 ?ho28 ?he28
 case ho28 => exact aq (fun w' h => lT h 4 Tryz.isAgg81 Tryz.sizeOf81) (aq (fun w' h => lA 0 3 h 1 Tryz.isAgg124 Tryz.sizeOf124) (ar (ar trivial)))
 intro _ w35 H35
 clear H34
 refine zJ (l := [4, 5]) rfl ?_
 refine rest_enter (d := 59) (R := fun vv w' => vv = V [en ((S 2).1), en ((S 2).2.1), en ((S 2).2.2)] ∧ Mm w' [(γs13, [Value.int .u64 0])] ∧ Kp γs13 w35 w') rfl rfl rfl (zC (args := #[.agg (G1 g tn (en u) (en b)).toArray, V [en ((S 1).1), en ((S 1).2.1), en ((S 1).2.2)], .slice (some ⟨γs3, 0, none⟩) 1 1, .slice (some ⟨γs13, 0, none⟩) 1 1]) rfl call153 rfl (zX rfl)) (Calls.mono (C1.out γs3 γs13 w35 (H35.out.1.pick [6, 7, 3, 0] rfl (by decide))) (fun e w2 hh => ⟨_, hh.1, rfl, hh.2⟩)) ?_
 rintro _ w36 ⟨rfl, hn, hp⟩
 have H36 : Hid (Mm w36 [(γs13, [Value.int .u64 0]), (γ9_2, cel [en ((S 1).1), en ((S 1).2.1), en ((S 1).2.2)]), (γ5_3, cel [x, y] ++ [Value.bool zb]), (γs3, cel (tb1 f)), (γ1_0, G1 g tn (en u) (en b)), (γ1_1, cel [0, 0, 0]), (g, zR pB), (0, dtab), (gp, cel [x, y] ++ [Value.bool zb]), (gn, zB nn)] ∧ Below w.heap.size w w36) := ⟨H35.out.1.change 0 rfl hp hn, Below.kp H35.out.2 hp o_γs13.out H35.out.2.size⟩
 clear hn hp H35
 simp only [Act.put, sa, sz, ss]
 refine zI rfl rfl rfl (zT (i := 0) (ms := [en ((S 2).1), en ((S 2).2.1), en ((S 2).2.2)]) H36.out.1 1 rfl rfl rfl rfl Tryz.sizeOf124 (Nat.le_of_ble_eq_true rfl)) ?_
 have H37 : Hid (Mm (w36.setCells γ9_2 (6 * 0) (cel [en ((S 2).1), en ((S 2).2.1), en ((S 2).2.2)])) [(γs13, [Value.int .u64 0]), (γ9_2, cel [en ((S 2).1), en ((S 2).2.1), en ((S 2).2.2)]), (γ5_3, cel [x, y] ++ [Value.bool zb]), (γs3, cel (tb1 f)), (γ1_0, G1 g tn (en u) (en b)), (γ1_1, cel [0, 0, 0]), (g, zR pB), (0, dtab), (gp, cel [x, y] ++ [Value.bool zb]), (gn, zB nn)] ∧ Below w.heap.size w (w36.setCells γ9_2 (6 * 0) (cel [en ((S 2).1), en ((S 2).2.1), en ((S 2).2.2)]))) := ⟨by
  have h := H36.out.1.put 1 (off := 6 * 0) (vs := cel [en ((S 2).1), en ((S 2).2.1), en ((S 2).2.2)]) rfl (by simp only [cel_len]; exact Nat.le_of_ble_eq_true rfl)
  rw [zU] at h
  exact h, zF _ o9_2.out _ _ _ H36.out.2⟩
 clear H36
 generalize hgw : World.setCells _ _ _ _ = w37 at H37 ⊢
 clear hgw
 refine zH (zQ (zA ?_))
 refine zE 2 [.quiet (.int .i64 4), .quiet (.int .i64 3)] H37 ?ho29 ?he29
 case ho29 => exact ar (ak (fun γ => ⟨rfl, fun w' _ => by kernel_rfl⟩) trivial)
 intro _ w38 H38
 clear H37
 refine zJ (l := [2]) rfl ?_
 refine zN (d := 12) rfl rfl rfl rfl ?_
 simp only [Act.put, sa, sz, ss]
 refine zH (zA ?_)
 refine yD (n := 4) ?_
 refine wp_seq (wp_seq ?_)
 refine zE 2 [.quiet (.int .i64 3), .quiet (.bool true)] H38 ?ho30 ?he30
 case ho30 => exact ar (ag trivial)
 intro _ w39 H39
 clear H38
 refine zG rfl (zA (wp_cond_true rfl ?_))
 refine wp_skip (zA ?_)
 refine wp_seq (wp_block ?_)
 refine wp_seq (wp_seq ?_)
 refine zE 3 [.quiet (.slice (some ⟨gn, 0, none⟩) 1 1), .quiet (.int .i64 1), .quiet (.int .i64 0)] H39 ?ho31 ?he31
 case ho31 => exact ar (ag (ar trivial))
 intro _ w40 H40
 clear H39
 refine zG rfl (zA (wp_block ?_))
 refine wp_loop_rounds 2 ?_
 refine yD (n := 1) ?_
 refine wp_seq ?_
 refine zE 1 [.quiet (.bool true)] H40 ?ho32 ?he32
 case ho32 => exact ag trivial
 intro _ w41 H41
 clear H40
 refine zG rfl (zA (wp_seq ?_))
 refine wp_cond_true rfl (wp_skip ?_)
 refine zA (wp_seq ?_)
 refine wp_block (wp_seq ?_)
 refine zE 2 [.quiet (.int .i64 0), .quiet (.int .i64 0)] H41 ?ho33 ?he33
 case ho33 => exact ar (ar trivial)
 intro _ w42 H42
 clear H41
 refine zG rfl (zA ?_)
 refine zE 9 [.quiet (.slice (some ⟨γs13, 0, none⟩) 1 1), .quiet (.int .i64 0), .quiet (.slice (some ⟨gn, 0, none⟩) 1 1), .quiet (.int .i64 0), .quiet (.int .i64 3), .quiet (PT gn 0), .quiet (PT gn 3), .quiet (.int .u64 (wd nn 3)), .quiet (PT γs13 0)] H42 ?ho34 ?he34
 case ho34 => exact ar (ar (ar (ar (ar (ag (ag (aq (fun w' h => ex_load1 h 9 rfl rfl rfl rfl) (ag trivial))))))))
 intro _ w43 H43
 clear H42
 refine zJ (l := [9]) rfl ?_
 refine zI rfl rfl rfl (ex_storeI H43.out.1 0 rfl rfl Tryz.sizeOf22 rfl rfl (Nat.le_of_ble_eq_true rfl)) ?_
 have H44 : Hid (Mm (w43.setCells γs13 0 [Value.int .u64 (wd nn 3)]) [(γs13, [Value.int .u64 (wd nn 3)]), (γ9_2, cel [en ((S 2).1), en ((S 2).2.1), en ((S 2).2.2)]), (γ5_3, cel [x, y] ++ [Value.bool zb]), (γs3, cel (tb1 f)), (γ1_0, G1 g tn (en u) (en b)), (γ1_1, cel [0, 0, 0]), (g, zR pB), (0, dtab), (gp, cel [x, y] ++ [Value.bool zb]), (gn, zB nn)] ∧ Below w.heap.size w (w43.setCells γs13 0 [Value.int .u64 (wd nn 3)])) := ⟨H43.out.1.put 0 (off := 0) (vs := [Value.int .u64 (wd nn 3)]) rfl (Nat.le_of_ble_eq_true rfl), zF _ o_γs13.out _ _ _ H43.out.2⟩
 clear H43
 generalize hgw : World.setCells _ _ _ _ = w44 at H44 ⊢
 clear hgw
 refine zH (zQ (zA ?_))
 refine zE 1 [.quiet (.int .i64 1)] H44 ?ho35 ?he35
 case ho35 => exact ak (fun γ => ⟨rfl, fun w' _ => by kernel_rfl⟩) trivial
 intro _ w45 H45
 clear H44
 refine zJ (l := [1]) rfl ?_
 refine zN (d := 42) rfl rfl rfl rfl ?_
 simp only [Act.put, sa, sz, ss]
 refine zH (zA ?_)
 refine yD (n := 0) ?_
 refine wp_seq ?_
 refine zE 1 [.quiet (.bool false)] H45 ?ho36 ?he36
 case ho36 => exact ag trivial
 intro _ w46 H46
 clear H45
 refine zG rfl (zA (wp_seq (wp_cond_false rfl ?_)))
 refine wp_exit ?_
 repeat refine then_exit ?_
 refine yH ?_
 refine zA ?_
 refine zE 4 [.quiet (.agg (G1 g tn (en u) (en b)).toArray), .quiet (V [en ((S 2).1), en ((S 2).2.1), en ((S 2).2.2)]), .quiet (.slice (some ⟨γs3, 0, none⟩) 1 1), .quiet (.slice (some ⟨γs13, 0, none⟩) 1 1)] H46 ?ho37 ?he37
 case ho37 => exact aq (fun w' h => lT h 4 Tryz.isAgg81 Tryz.sizeOf81) (aq (fun w' h => lA 0 3 h 1 Tryz.isAgg124 Tryz.sizeOf124) (ar (ar trivial)))
 intro _ w47 H47
 clear H46
 refine zJ (l := [4, 5]) rfl ?_
 refine rest_enter (d := 59) (R := fun vv w' => vv = V [en ((S 3).1), en ((S 3).2.1), en ((S 3).2.2)] ∧ Mm w' [(γs13, [Value.int .u64 0])] ∧ Kp γs13 w47 w') rfl rfl rfl (zC (args := #[.agg (G1 g tn (en u) (en b)).toArray, V [en ((S 2).1), en ((S 2).2.1), en ((S 2).2.2)], .slice (some ⟨γs3, 0, none⟩) 1 1, .slice (some ⟨γs13, 0, none⟩) 1 1]) rfl call153 rfl (zX rfl)) (Calls.mono (C2.out γs3 γs13 w47 (H47.out.1.pick [6, 7, 3, 0] rfl (by decide))) (fun e w2 hh => ⟨_, hh.1, rfl, hh.2⟩)) ?_
 rintro _ w48 ⟨rfl, hn, hp⟩
 have H48 : Hid (Mm w48 [(γs13, [Value.int .u64 0]), (γ9_2, cel [en ((S 2).1), en ((S 2).2.1), en ((S 2).2.2)]), (γ5_3, cel [x, y] ++ [Value.bool zb]), (γs3, cel (tb1 f)), (γ1_0, G1 g tn (en u) (en b)), (γ1_1, cel [0, 0, 0]), (g, zR pB), (0, dtab), (gp, cel [x, y] ++ [Value.bool zb]), (gn, zB nn)] ∧ Below w.heap.size w w48) := ⟨H47.out.1.change 0 rfl hp hn, Below.kp H47.out.2 hp o_γs13.out H47.out.2.size⟩
 clear hn hp H47
 simp only [Act.put, sa, sz, ss]
 refine zI rfl rfl rfl (zT (i := 0) (ms := [en ((S 3).1), en ((S 3).2.1), en ((S 3).2.2)]) H48.out.1 1 rfl rfl rfl rfl Tryz.sizeOf124 (Nat.le_of_ble_eq_true rfl)) ?_
 have H49 : Hid (Mm (w48.setCells γ9_2 (6 * 0) (cel [en ((S 3).1), en ((S 3).2.1), en ((S 3).2.2)])) [(γs13, [Value.int .u64 0]), (γ9_2, cel [en ((S 3).1), en ((S 3).2.1), en ((S 3).2.2)]), (γ5_3, cel [x, y] ++ [Value.bool zb]), (γs3, cel (tb1 f)), (γ1_0, G1 g tn (en u) (en b)), (γ1_1, cel [0, 0, 0]), (g, zR pB), (0, dtab), (gp, cel [x, y] ++ [Value.bool zb]), (gn, zB nn)] ∧ Below w.heap.size w (w48.setCells γ9_2 (6 * 0) (cel [en ((S 3).1), en ((S 3).2.1), en ((S 3).2.2)]))) := ⟨by
  have h := H48.out.1.put 1 (off := 6 * 0) (vs := cel [en ((S 3).1), en ((S 3).2.1), en ((S 3).2.2)]) rfl (by simp only [cel_len]; exact Nat.le_of_ble_eq_true rfl)
  rw [zU] at h
  exact h, zF _ o9_2.out _ _ _ H48.out.2⟩
 clear H48
 generalize hgw : World.setCells _ _ _ _ = w49 at H49 ⊢
 clear hgw
 refine zH (zQ (zA ?_))
 refine zE 2 [.quiet (.int .i64 3), .quiet (.int .i64 2)] H49 ?ho38 ?he38
 case ho38 => exact ar (ak (fun γ => ⟨rfl, fun w' _ => by kernel_rfl⟩) trivial)
 intro _ w50 H50
 clear H49
 refine zJ (l := [2]) rfl ?_
 refine zN (d := 12) rfl rfl rfl rfl ?_
 simp only [Act.put, sa, sz, ss]
 refine zH (zA ?_)
 refine yD (n := 3) ?_
 refine wp_seq (wp_seq ?_)
 refine zE 2 [.quiet (.int .i64 2), .quiet (.bool true)] H50 ?ho39 ?he39
 case ho39 => exact ar (ag trivial)
 intro _ w51 H51
 clear H50
 refine zG rfl (zA (wp_cond_true rfl ?_))
 refine wp_skip (zA ?_)
 refine wp_seq (wp_block ?_)
 refine wp_seq (wp_seq ?_)
 refine zE 3 [.quiet (.slice (some ⟨gn, 0, none⟩) 1 1), .quiet (.int .i64 1), .quiet (.int .i64 0)] H51 ?ho40 ?he40
 case ho40 => exact ar (ag (ar trivial))
 intro _ w52 H52
 clear H51
 refine zG rfl (zA (wp_block ?_))
 refine wp_loop_rounds 2 ?_
 refine yD (n := 1) ?_
 refine wp_seq ?_
 refine zE 1 [.quiet (.bool true)] H52 ?ho41 ?he41
 case ho41 => exact ag trivial
 intro _ w53 H53
 clear H52
 refine zG rfl (zA (wp_seq ?_))
 refine wp_cond_true rfl (wp_skip ?_)
 refine zA (wp_seq ?_)
 refine wp_block (wp_seq ?_)
 refine zE 2 [.quiet (.int .i64 0), .quiet (.int .i64 0)] H53 ?ho42 ?he42
 case ho42 => exact ar (ar trivial)
 intro _ w54 H54
 clear H53
 refine zG rfl (zA ?_)
 refine zE 9 [.quiet (.slice (some ⟨γs13, 0, none⟩) 1 1), .quiet (.int .i64 0), .quiet (.slice (some ⟨gn, 0, none⟩) 1 1), .quiet (.int .i64 0), .quiet (.int .i64 2), .quiet (PT gn 0), .quiet (PT gn 2), .quiet (.int .u64 (wd nn 2)), .quiet (PT γs13 0)] H54 ?ho43 ?he43
 case ho43 => exact ar (ar (ar (ar (ar (ag (ag (aq (fun w' h => ex_load1 h 9 rfl rfl rfl rfl) (ag trivial))))))))
 intro _ w55 H55
 clear H54
 refine zJ (l := [9]) rfl ?_
 refine zI rfl rfl rfl (ex_storeI H55.out.1 0 rfl rfl Tryz.sizeOf22 rfl rfl (Nat.le_of_ble_eq_true rfl)) ?_
 have H56 : Hid (Mm (w55.setCells γs13 0 [Value.int .u64 (wd nn 2)]) [(γs13, [Value.int .u64 (wd nn 2)]), (γ9_2, cel [en ((S 3).1), en ((S 3).2.1), en ((S 3).2.2)]), (γ5_3, cel [x, y] ++ [Value.bool zb]), (γs3, cel (tb1 f)), (γ1_0, G1 g tn (en u) (en b)), (γ1_1, cel [0, 0, 0]), (g, zR pB), (0, dtab), (gp, cel [x, y] ++ [Value.bool zb]), (gn, zB nn)] ∧ Below w.heap.size w (w55.setCells γs13 0 [Value.int .u64 (wd nn 2)])) := ⟨H55.out.1.put 0 (off := 0) (vs := [Value.int .u64 (wd nn 2)]) rfl (Nat.le_of_ble_eq_true rfl), zF _ o_γs13.out _ _ _ H55.out.2⟩
 clear H55
 generalize hgw : World.setCells _ _ _ _ = w56 at H56 ⊢
 clear hgw
 refine zH (zQ (zA ?_))
 refine zE 1 [.quiet (.int .i64 1)] H56 ?ho44 ?he44
 case ho44 => exact ak (fun γ => ⟨rfl, fun w' _ => by kernel_rfl⟩) trivial
 intro _ w57 H57
 clear H56
 refine zJ (l := [1]) rfl ?_
 refine zN (d := 42) rfl rfl rfl rfl ?_
 simp only [Act.put, sa, sz, ss]
 refine zH (zA ?_)
 refine yD (n := 0) ?_
 refine wp_seq ?_
 refine zE 1 [.quiet (.bool false)] H57 ?ho45 ?he45
 case ho45 => exact ag trivial
 intro _ w58 H58
 clear H57
 refine zG rfl (zA (wp_seq (wp_cond_false rfl ?_)))
 refine wp_exit ?_
 repeat refine then_exit ?_
 refine yH ?_
 refine zA ?_
 refine zE 4 [.quiet (.agg (G1 g tn (en u) (en b)).toArray), .quiet (V [en ((S 3).1), en ((S 3).2.1), en ((S 3).2.2)]), .quiet (.slice (some ⟨γs3, 0, none⟩) 1 1), .quiet (.slice (some ⟨γs13, 0, none⟩) 1 1)] H58 ?ho46 ?he46
 case ho46 => exact aq (fun w' h => lT h 4 Tryz.isAgg81 Tryz.sizeOf81) (aq (fun w' h => lA 0 3 h 1 Tryz.isAgg124 Tryz.sizeOf124) (ar (ar trivial)))
 intro _ w59 H59
 clear H58
 refine zJ (l := [4, 5]) rfl ?_
 refine rest_enter (d := 59) (R := fun vv w' => vv = V [en ((S 4).1), en ((S 4).2.1), en ((S 4).2.2)] ∧ Mm w' [(γs13, [Value.int .u64 0])] ∧ Kp γs13 w59 w') rfl rfl rfl (zC (args := #[.agg (G1 g tn (en u) (en b)).toArray, V [en ((S 3).1), en ((S 3).2.1), en ((S 3).2.2)], .slice (some ⟨γs3, 0, none⟩) 1 1, .slice (some ⟨γs13, 0, none⟩) 1 1]) rfl call153 rfl (zX rfl)) (Calls.mono (C3.out γs3 γs13 w59 (H59.out.1.pick [6, 7, 3, 0] rfl (by decide))) (fun e w2 hh => ⟨_, hh.1, rfl, hh.2⟩)) ?_
 rintro _ w60 ⟨rfl, hn, hp⟩
 have H60 : Hid (Mm w60 [(γs13, [Value.int .u64 0]), (γ9_2, cel [en ((S 3).1), en ((S 3).2.1), en ((S 3).2.2)]), (γ5_3, cel [x, y] ++ [Value.bool zb]), (γs3, cel (tb1 f)), (γ1_0, G1 g tn (en u) (en b)), (γ1_1, cel [0, 0, 0]), (g, zR pB), (0, dtab), (gp, cel [x, y] ++ [Value.bool zb]), (gn, zB nn)] ∧ Below w.heap.size w w60) := ⟨H59.out.1.change 0 rfl hp hn, Below.kp H59.out.2 hp o_γs13.out H59.out.2.size⟩
 clear hn hp H59
 simp only [Act.put, sa, sz, ss]
 refine zI rfl rfl rfl (zT (i := 0) (ms := [en ((S 4).1), en ((S 4).2.1), en ((S 4).2.2)]) H60.out.1 1 rfl rfl rfl rfl Tryz.sizeOf124 (Nat.le_of_ble_eq_true rfl)) ?_
 have H61 : Hid (Mm (w60.setCells γ9_2 (6 * 0) (cel [en ((S 4).1), en ((S 4).2.1), en ((S 4).2.2)])) [(γs13, [Value.int .u64 0]), (γ9_2, cel [en ((S 4).1), en ((S 4).2.1), en ((S 4).2.2)]), (γ5_3, cel [x, y] ++ [Value.bool zb]), (γs3, cel (tb1 f)), (γ1_0, G1 g tn (en u) (en b)), (γ1_1, cel [0, 0, 0]), (g, zR pB), (0, dtab), (gp, cel [x, y] ++ [Value.bool zb]), (gn, zB nn)] ∧ Below w.heap.size w (w60.setCells γ9_2 (6 * 0) (cel [en ((S 4).1), en ((S 4).2.1), en ((S 4).2.2)]))) := ⟨by
  have h := H60.out.1.put 1 (off := 6 * 0) (vs := cel [en ((S 4).1), en ((S 4).2.1), en ((S 4).2.2)]) rfl (by simp only [cel_len]; exact Nat.le_of_ble_eq_true rfl)
  rw [zU] at h
  exact h, zF _ o9_2.out _ _ _ H60.out.2⟩
 clear H60
 generalize hgw : World.setCells _ _ _ _ = w61 at H61 ⊢
 clear hgw
 refine zH (zQ (zA ?_))
 refine zE 2 [.quiet (.int .i64 2), .quiet (.int .i64 1)] H61 ?ho47 ?he47
 case ho47 => exact ar (ak (fun γ => ⟨rfl, fun w' _ => by kernel_rfl⟩) trivial)
 intro _ w62 H62
 clear H61
 refine zJ (l := [2]) rfl ?_
 refine zN (d := 12) rfl rfl rfl rfl ?_
 simp only [Act.put, sa, sz, ss]
 refine zH (zA ?_)
 refine yD (n := 2) ?_
 refine wp_seq (wp_seq ?_)
 refine zE 2 [.quiet (.int .i64 1), .quiet (.bool true)] H62 ?ho48 ?he48
 case ho48 => exact ar (ag trivial)
 intro _ w63 H63
 clear H62
 refine zG rfl (zA (wp_cond_true rfl ?_))
 refine wp_skip (zA ?_)
 refine wp_seq (wp_block ?_)
 refine wp_seq (wp_seq ?_)
 refine zE 3 [.quiet (.slice (some ⟨gn, 0, none⟩) 1 1), .quiet (.int .i64 1), .quiet (.int .i64 0)] H63 ?ho49 ?he49
 case ho49 => exact ar (ag (ar trivial))
 intro _ w64 H64
 clear H63
 refine zG rfl (zA (wp_block ?_))
 refine wp_loop_rounds 2 ?_
 refine yD (n := 1) ?_
 refine wp_seq ?_
 refine zE 1 [.quiet (.bool true)] H64 ?ho50 ?he50
 case ho50 => exact ag trivial
 intro _ w65 H65
 clear H64
 refine zG rfl (zA (wp_seq ?_))
 refine wp_cond_true rfl (wp_skip ?_)
 refine zA (wp_seq ?_)
 refine wp_block (wp_seq ?_)
 refine zE 2 [.quiet (.int .i64 0), .quiet (.int .i64 0)] H65 ?ho51 ?he51
 case ho51 => exact ar (ar trivial)
 intro _ w66 H66
 clear H65
 refine zG rfl (zA ?_)
 refine zE 9 [.quiet (.slice (some ⟨γs13, 0, none⟩) 1 1), .quiet (.int .i64 0), .quiet (.slice (some ⟨gn, 0, none⟩) 1 1), .quiet (.int .i64 0), .quiet (.int .i64 1), .quiet (PT gn 0), .quiet (PT gn 1), .quiet (.int .u64 (wd nn 1)), .quiet (PT γs13 0)] H66 ?ho52 ?he52
 case ho52 => exact ar (ar (ar (ar (ar (ag (ag (aq (fun w' h => ex_load1 h 9 rfl rfl rfl rfl) (ag trivial))))))))
 intro _ w67 H67
 clear H66
 refine zJ (l := [9]) rfl ?_
 refine zI rfl rfl rfl (ex_storeI H67.out.1 0 rfl rfl Tryz.sizeOf22 rfl rfl (Nat.le_of_ble_eq_true rfl)) ?_
 have H68 : Hid (Mm (w67.setCells γs13 0 [Value.int .u64 (wd nn 1)]) [(γs13, [Value.int .u64 (wd nn 1)]), (γ9_2, cel [en ((S 4).1), en ((S 4).2.1), en ((S 4).2.2)]), (γ5_3, cel [x, y] ++ [Value.bool zb]), (γs3, cel (tb1 f)), (γ1_0, G1 g tn (en u) (en b)), (γ1_1, cel [0, 0, 0]), (g, zR pB), (0, dtab), (gp, cel [x, y] ++ [Value.bool zb]), (gn, zB nn)] ∧ Below w.heap.size w (w67.setCells γs13 0 [Value.int .u64 (wd nn 1)])) := ⟨H67.out.1.put 0 (off := 0) (vs := [Value.int .u64 (wd nn 1)]) rfl (Nat.le_of_ble_eq_true rfl), zF _ o_γs13.out _ _ _ H67.out.2⟩
 clear H67
 generalize hgw : World.setCells _ _ _ _ = w68 at H68 ⊢
 clear hgw
 refine zH (zQ (zA ?_))
 refine zE 1 [.quiet (.int .i64 1)] H68 ?ho53 ?he53
 case ho53 => exact ak (fun γ => ⟨rfl, fun w' _ => by kernel_rfl⟩) trivial
 intro _ w69 H69
 clear H68
 refine zJ (l := [1]) rfl ?_
 refine zN (d := 42) rfl rfl rfl rfl ?_
 simp only [Act.put, sa, sz, ss]
 refine zH (zA ?_)
 refine yD (n := 0) ?_
 refine wp_seq ?_
 refine zE 1 [.quiet (.bool false)] H69 ?ho54 ?he54
 case ho54 => exact ag trivial
 intro _ w70 H70
 clear H69
 refine zG rfl (zA (wp_seq (wp_cond_false rfl ?_)))
 refine wp_exit ?_
 repeat refine then_exit ?_
 refine yH ?_
 refine zA ?_
 refine zE 4 [.quiet (.agg (G1 g tn (en u) (en b)).toArray), .quiet (V [en ((S 4).1), en ((S 4).2.1), en ((S 4).2.2)]), .quiet (.slice (some ⟨γs3, 0, none⟩) 1 1), .quiet (.slice (some ⟨γs13, 0, none⟩) 1 1)] H70 ?ho55 ?he55
 case ho55 => exact aq (fun w' h => lT h 4 Tryz.isAgg81 Tryz.sizeOf81) (aq (fun w' h => lA 0 3 h 1 Tryz.isAgg124 Tryz.sizeOf124) (ar (ar trivial)))
 intro _ w71 H71
 clear H70
 refine zJ (l := [4, 5]) rfl ?_
 refine rest_enter (d := 59) (R := fun vv w' => vv = V [en ((S 5).1), en ((S 5).2.1), en ((S 5).2.2)] ∧ Mm w' [(γs13, [Value.int .u64 0])] ∧ Kp γs13 w71 w') rfl rfl rfl (zC (args := #[.agg (G1 g tn (en u) (en b)).toArray, V [en ((S 4).1), en ((S 4).2.1), en ((S 4).2.2)], .slice (some ⟨γs3, 0, none⟩) 1 1, .slice (some ⟨γs13, 0, none⟩) 1 1]) rfl call153 rfl (zX rfl)) (Calls.mono (C4.out γs3 γs13 w71 (H71.out.1.pick [6, 7, 3, 0] rfl (by decide))) (fun e w2 hh => ⟨_, hh.1, rfl, hh.2⟩)) ?_
 rintro _ w72 ⟨rfl, hn, hp⟩
 have H72 : Hid (Mm w72 [(γs13, [Value.int .u64 0]), (γ9_2, cel [en ((S 4).1), en ((S 4).2.1), en ((S 4).2.2)]), (γ5_3, cel [x, y] ++ [Value.bool zb]), (γs3, cel (tb1 f)), (γ1_0, G1 g tn (en u) (en b)), (γ1_1, cel [0, 0, 0]), (g, zR pB), (0, dtab), (gp, cel [x, y] ++ [Value.bool zb]), (gn, zB nn)] ∧ Below w.heap.size w w72) := ⟨H71.out.1.change 0 rfl hp hn, Below.kp H71.out.2 hp o_γs13.out H71.out.2.size⟩
 clear hn hp H71
 simp only [Act.put, sa, sz, ss]
 refine zI rfl rfl rfl (zT (i := 0) (ms := [en ((S 5).1), en ((S 5).2.1), en ((S 5).2.2)]) H72.out.1 1 rfl rfl rfl rfl Tryz.sizeOf124 (Nat.le_of_ble_eq_true rfl)) ?_
 have H73 : Hid (Mm (w72.setCells γ9_2 (6 * 0) (cel [en ((S 5).1), en ((S 5).2.1), en ((S 5).2.2)])) [(γs13, [Value.int .u64 0]), (γ9_2, cel [en ((S 5).1), en ((S 5).2.1), en ((S 5).2.2)]), (γ5_3, cel [x, y] ++ [Value.bool zb]), (γs3, cel (tb1 f)), (γ1_0, G1 g tn (en u) (en b)), (γ1_1, cel [0, 0, 0]), (g, zR pB), (0, dtab), (gp, cel [x, y] ++ [Value.bool zb]), (gn, zB nn)] ∧ Below w.heap.size w (w72.setCells γ9_2 (6 * 0) (cel [en ((S 5).1), en ((S 5).2.1), en ((S 5).2.2)]))) := ⟨by
  have h := H72.out.1.put 1 (off := 6 * 0) (vs := cel [en ((S 5).1), en ((S 5).2.1), en ((S 5).2.2)]) rfl (by simp only [cel_len]; exact Nat.le_of_ble_eq_true rfl)
  rw [zU] at h
  exact h, zF _ o9_2.out _ _ _ H72.out.2⟩
 clear H72
 generalize hgw : World.setCells _ _ _ _ = w73 at H73 ⊢
 clear hgw
 refine zH (zQ (zA ?_))
 refine zE 2 [.quiet (.int .i64 1), .quiet (.int .i64 0)] H73 ?ho56 ?he56
 case ho56 => exact ar (ak (fun γ => ⟨rfl, fun w' _ => by kernel_rfl⟩) trivial)
 intro _ w74 H74
 clear H73
 refine zJ (l := [2]) rfl ?_
 refine zN (d := 12) rfl rfl rfl rfl ?_
 simp only [Act.put, sa, sz, ss]
 refine zH (zA ?_)
 refine yD (n := 1) ?_
 refine wp_seq (wp_seq ?_)
 refine zE 2 [.quiet (.int .i64 0), .quiet (.bool true)] H74 ?ho57 ?he57
 case ho57 => exact ar (ag trivial)
 intro _ w75 H75
 clear H74
 refine zG rfl (zA (wp_cond_true rfl ?_))
 refine wp_skip (zA ?_)
 refine wp_seq (wp_block ?_)
 refine wp_seq (wp_seq ?_)
 refine zE 3 [.quiet (.slice (some ⟨gn, 0, none⟩) 1 1), .quiet (.int .i64 1), .quiet (.int .i64 0)] H75 ?ho58 ?he58
 case ho58 => exact ar (ag (ar trivial))
 intro _ w76 H76
 clear H75
 refine zG rfl (zA (wp_block ?_))
 refine wp_loop_rounds 2 ?_
 refine yD (n := 1) ?_
 refine wp_seq ?_
 refine zE 1 [.quiet (.bool true)] H76 ?ho59 ?he59
 case ho59 => exact ag trivial
 intro _ w77 H77
 clear H76
 refine zG rfl (zA (wp_seq ?_))
 refine wp_cond_true rfl (wp_skip ?_)
 refine zA (wp_seq ?_)
 refine wp_block (wp_seq ?_)
 refine zE 2 [.quiet (.int .i64 0), .quiet (.int .i64 0)] H77 ?ho60 ?he60
 case ho60 => exact ar (ar trivial)
 intro _ w78 H78
 clear H77
 refine zG rfl (zA ?_)
 refine zE 9 [.quiet (.slice (some ⟨γs13, 0, none⟩) 1 1), .quiet (.int .i64 0), .quiet (.slice (some ⟨gn, 0, none⟩) 1 1), .quiet (.int .i64 0), .quiet (.int .i64 0), .quiet (PT gn 0), .quiet (PT gn 0), .quiet (.int .u64 (wd nn 0)), .quiet (PT γs13 0)] H78 ?ho61 ?he61
 case ho61 => exact ar (ar (ar (ar (ar (ag (ag (aq (fun w' h => ex_load1 h 9 rfl rfl rfl rfl) (ag trivial))))))))
 intro _ w79 H79
 clear H78
 refine zJ (l := [9]) rfl ?_
 refine zI rfl rfl rfl (ex_storeI H79.out.1 0 rfl rfl Tryz.sizeOf22 rfl rfl (Nat.le_of_ble_eq_true rfl)) ?_
 have H80 : Hid (Mm (w79.setCells γs13 0 [Value.int .u64 (wd nn 0)]) [(γs13, [Value.int .u64 (wd nn 0)]), (γ9_2, cel [en ((S 5).1), en ((S 5).2.1), en ((S 5).2.2)]), (γ5_3, cel [x, y] ++ [Value.bool zb]), (γs3, cel (tb1 f)), (γ1_0, G1 g tn (en u) (en b)), (γ1_1, cel [0, 0, 0]), (g, zR pB), (0, dtab), (gp, cel [x, y] ++ [Value.bool zb]), (gn, zB nn)] ∧ Below w.heap.size w (w79.setCells γs13 0 [Value.int .u64 (wd nn 0)])) := ⟨H79.out.1.put 0 (off := 0) (vs := [Value.int .u64 (wd nn 0)]) rfl (Nat.le_of_ble_eq_true rfl), zF _ o_γs13.out _ _ _ H79.out.2⟩
 clear H79
 generalize hgw : World.setCells _ _ _ _ = w80 at H80 ⊢
 clear hgw
 refine zH (zQ (zA ?_))
 refine zE 1 [.quiet (.int .i64 1)] H80 ?ho62 ?he62
 case ho62 => exact ak (fun γ => ⟨rfl, fun w' _ => by kernel_rfl⟩) trivial
 intro _ w81 H81
 clear H80
 refine zJ (l := [1]) rfl ?_
 refine zN (d := 42) rfl rfl rfl rfl ?_
 simp only [Act.put, sa, sz, ss]
 refine zH (zA ?_)
 refine yD (n := 0) ?_
 refine wp_seq ?_
 refine zE 1 [.quiet (.bool false)] H81 ?ho63 ?he63
 case ho63 => exact ag trivial
 intro _ w82 H82
 clear H81
 refine zG rfl (zA (wp_seq (wp_cond_false rfl ?_)))
 refine wp_exit ?_
 repeat refine then_exit ?_
 refine yH ?_
 refine zA ?_
 refine zE 4 [.quiet (.agg (G1 g tn (en u) (en b)).toArray), .quiet (V [en ((S 5).1), en ((S 5).2.1), en ((S 5).2.2)]), .quiet (.slice (some ⟨γs3, 0, none⟩) 1 1), .quiet (.slice (some ⟨γs13, 0, none⟩) 1 1)] H82 ?ho64 ?he64
 case ho64 => exact aq (fun w' h => lT h 4 Tryz.isAgg81 Tryz.sizeOf81) (aq (fun w' h => lA 0 3 h 1 Tryz.isAgg124 Tryz.sizeOf124) (ar (ar trivial)))
 intro _ w83 H83
 clear H82
 refine zJ (l := [4, 5]) rfl ?_
 refine rest_enter (d := 59) (R := fun vv w' => vv = V [en ((S 6).1), en ((S 6).2.1), en ((S 6).2.2)] ∧ Mm w' [(γs13, [Value.int .u64 0])] ∧ Kp γs13 w83 w') rfl rfl rfl (zC (args := #[.agg (G1 g tn (en u) (en b)).toArray, V [en ((S 5).1), en ((S 5).2.1), en ((S 5).2.2)], .slice (some ⟨γs3, 0, none⟩) 1 1, .slice (some ⟨γs13, 0, none⟩) 1 1]) rfl call153 rfl (zX rfl)) (Calls.mono (C5.out γs3 γs13 w83 (H83.out.1.pick [6, 7, 3, 0] rfl (by decide))) (fun e w2 hh => ⟨_, hh.1, rfl, hh.2⟩)) ?_
 rintro _ w84 ⟨rfl, hn, hp⟩
 have H84 : Hid (Mm w84 [(γs13, [Value.int .u64 0]), (γ9_2, cel [en ((S 5).1), en ((S 5).2.1), en ((S 5).2.2)]), (γ5_3, cel [x, y] ++ [Value.bool zb]), (γs3, cel (tb1 f)), (γ1_0, G1 g tn (en u) (en b)), (γ1_1, cel [0, 0, 0]), (g, zR pB), (0, dtab), (gp, cel [x, y] ++ [Value.bool zb]), (gn, zB nn)] ∧ Below w.heap.size w w84) := ⟨H83.out.1.change 0 rfl hp hn, Below.kp H83.out.2 hp o_γs13.out H83.out.2.size⟩
 clear hn hp H83
 simp only [Act.put, sa, sz, ss]
 refine zI rfl rfl rfl (zT (i := 0) (ms := [en ((S 6).1), en ((S 6).2.1), en ((S 6).2.2)]) H84.out.1 1 rfl rfl rfl rfl Tryz.sizeOf124 (Nat.le_of_ble_eq_true rfl)) ?_
 have H85 : Hid (Mm (w84.setCells γ9_2 (6 * 0) (cel [en ((S 6).1), en ((S 6).2.1), en ((S 6).2.2)])) [(γs13, [Value.int .u64 0]), (γ9_2, cel [en ((S 6).1), en ((S 6).2.1), en ((S 6).2.2)]), (γ5_3, cel [x, y] ++ [Value.bool zb]), (γs3, cel (tb1 f)), (γ1_0, G1 g tn (en u) (en b)), (γ1_1, cel [0, 0, 0]), (g, zR pB), (0, dtab), (gp, cel [x, y] ++ [Value.bool zb]), (gn, zB nn)] ∧ Below w.heap.size w (w84.setCells γ9_2 (6 * 0) (cel [en ((S 6).1), en ((S 6).2.1), en ((S 6).2.2)]))) := ⟨by
  have h := H84.out.1.put 1 (off := 6 * 0) (vs := cel [en ((S 6).1), en ((S 6).2.1), en ((S 6).2.2)]) rfl (by simp only [cel_len]; exact Nat.le_of_ble_eq_true rfl)
  rw [zU] at h
  exact h, zF _ o9_2.out _ _ _ H84.out.2⟩
 clear H84
 generalize hgw : World.setCells _ _ _ _ = w85 at H85 ⊢
 clear hgw
 refine zH (zQ (zA ?_))
 refine zE 2 [.quiet (.int .i64 0), .quiet (.int .i64 (-1))] H85 ?ho65 ?he65
 case ho65 => exact ar (ak (fun γ => ⟨rfl, fun w' _ => by kernel_rfl⟩) trivial)
 intro _ w86 H86
 clear H85
 refine zJ (l := [2]) rfl ?_
 refine zN (d := 12) rfl rfl rfl rfl ?_
 simp only [Act.put, sa, sz, ss]
 refine zH (zA ?_)
 refine yD (n := 0) ?_
 refine wp_seq (wp_seq ?_)
 refine zE 2 [.quiet (.int .i64 (-1)), .quiet (.bool false)] H86 ?ho66 ?he66
 case ho66 => exact ar (ag trivial)
 intro _ w87 H87
 clear H86
 refine zG rfl (zA (wp_cond_false rfl ?_))
 refine wp_exit ?_
 repeat refine then_exit ?_
 refine yH ?_
 refine zA (wp_seq ?_)
 refine zE 1 [.quiet (V [en ((S 6).1), en ((S 6).2.1), en ((S 6).2.2)])] H87 ?ho67 ?he67
 case ho67 => exact aq (fun w' h => lA 0 3 h 1 Tryz.isAgg124 Tryz.sizeOf124) trivial
 intro _ w88 H88
 clear H87
 refine zJ (l := [1]) rfl ?_
 refine zI rfl rfl rfl (zT (i := 0) (ms := [en ((S 6).1), en ((S 6).2.1), en ((S 6).2.2)]) H88.out.1 5 rfl rfl rfl rfl Tryz.sizeOf124 (Nat.le_of_ble_eq_true rfl)) ?_
 have H89 : Hid (Mm (w88.setCells γ1_1 (6 * 0) (cel [en ((S 6).1), en ((S 6).2.1), en ((S 6).2.2)])) [(γs13, [Value.int .u64 0]), (γ9_2, cel [en ((S 6).1), en ((S 6).2.1), en ((S 6).2.2)]), (γ5_3, cel [x, y] ++ [Value.bool zb]), (γs3, cel (tb1 f)), (γ1_0, G1 g tn (en u) (en b)), (γ1_1, cel [en ((S 6).1), en ((S 6).2.1), en ((S 6).2.2)]), (g, zR pB), (0, dtab), (gp, cel [x, y] ++ [Value.bool zb]), (gn, zB nn)] ∧ Below w.heap.size w (w88.setCells γ1_1 (6 * 0) (cel [en ((S 6).1), en ((S 6).2.1), en ((S 6).2.2)]))) := ⟨by
  have h := H88.out.1.put 5 (off := 6 * 0) (vs := cel [en ((S 6).1), en ((S 6).2.1), en ((S 6).2.2)]) rfl (by simp only [cel_len]; exact Nat.le_of_ble_eq_true rfl)
  rw [zU] at h
  exact h, zF _ o1_1.out _ _ _ H88.out.2⟩
 clear H88
 generalize hgw : World.setCells _ _ _ _ = w89 at H89 ⊢
 clear hgw
 refine zH (zA (wp_ret ?_))
 repeat (first | refine zM ?_ | refine zK ?_)
 have hf0 := cel_var (k := 3) H89.out.1 5 rfl Tryz.isAgg124 Tryz.sizeOf124 rfl
 refine bodyPost_ret (v := V [en ((S 6).1), en ((S 6).2.1), en ((S 6).2.2)]) (by simp [results, Tryz.results118, asAddr, hf0]) rfl ?_
 exact ⟨rfl, H89.out.2⟩
set_option maxHeartbeats 4000000 in
theorem sumY_1 {α : Type} {en : α → Nat} {fa fs fm : α → α → α} {fi : α → α} {z u b : α} {g : Nat} {tn : Value} (_C : Fd1 g en fa fs fm fi z) (O T U : EC.Tri α) (x y r k nn gp gn : Nat) (zb zr : Bool) (ck : ∀ w, Mm w [(g, zR pB), (0, dtab)] → Calls Tryz.prog 48 #[.agg (G1 g tn (en u) (en b)).toArray, .agg (cel [x, y] ++ [Value.bool zb]).toArray] w (Rt w (.bool true))) (cz : ∀ w, Mm w [(g, zR pB), (0, dtab)] → Calls Tryz.prog 117 #[.agg (G1 g tn (en u) (en b)).toArray] w (Rt w (V [en O.1, en O.2.1, en O.2.2]))) (cs : ∀ w, Mm w [(g, zR pB), (0, dtab), (gp, cel [x, y] ++ [Value.bool zb]), (gn, zB nn)] → Calls Tryz.prog 118 #[.agg (G1 g tn (en u) (en b)).toArray, .slice (some ⟨gp, 0, none⟩) 1 1, .slice (some ⟨gn, 0, none⟩) 1 1] w (Rt w (V [en T.1, en T.2.1, en T.2.2]))) (ct : ∀ w, Mm w [(g, zR pB), (0, dtab)] → Calls Tryz.prog 94 #[.agg (G1 g tn (en u) (en b)).toArray, V [en O.1, en O.2.1, en O.2.2], V [en T.1, en T.2.1, en T.2.2]] w (Rt w (V [en U.1, en U.2.1, en U.2.2]))) (cw : ∀ w, Mm w [(g, zR pB), (0, dtab)] → Calls Tryz.prog 93 #[.agg (G1 g tn (en u) (en b)).toArray, V [en U.1, en U.2.1, en U.2.2]] w (Rt w (.agg (cel [r, k] ++ [Value.bool zr]).toArray))) (w : World) (hm : Mm w [(g, zR pB), (0, dtab), (gp, cel [x, y] ++ [Value.bool zb]), (gn, zB nn)]) :
  Calls Tryz.prog 76 #[.agg (G1 g tn (en u) (en b)).toArray, .slice (some ⟨gp, 0, none⟩) 1 1, .slice (some ⟨gn, 0, none⟩) 1 1] w (Rt w (.tuple #[.agg (cel [r, k] ++ [Value.bool zr]).toArray, .int .i64 0])) := by
 have H0 : Hid (_ ∧ _) := ⟨hm, Below.refl w.heap.size w⟩
 clear hm
 have CK : Hid _ := ck
 clear ck
 have CZ : Hid _ := cz
 clear cz
 have CS : Hid _ := cs
 clear cs
 have CT : Hid _ := ct
 clear ct
 have CW : Hid _ := cw
 clear cw
 go_enter Tryz.func76, Tryz.ntmps76
 refine wp_seq ?_
 refine zD 3 [.made (G1 g tn (en u) (en b)) 81, .made (cel [0, 0] ++ [Value.bool false]) 84, .quiet (.int .i64 0)] (sB H0) ?ho1 ?he1
 case ho1 => exact ak (fun γ => ⟨rfl, fun w' => yA rfl rfl⟩) (ak (fun γ => ⟨rfl, fun w' => ex_madePN rfl⟩) (ar trivial))
 intro γ w1 l hM hl
 have H1 : Hid (Mm w1 [(γ 0, G1 g tn (en u) (en b)), (γ 1, cel [0, 0] ++ [Value.bool false]), (g, zR pB), (0, dtab), (gp, cel [x, y] ++ [Value.bool zb]), (gn, zB nn)] ∧ _) := zS H0 hM (Nat.le_refl _) hl [0, 1] rfl (by decide)
 have o1_0 := zP H0 hM (Nat.le_refl _) hl (i := 0) rfl
 have o1_1 := zP H0 hM (Nat.le_refl _) hl (i := 1) rfl
 clear hM hl l
 generalize γ 0 = γ1_0 at H1 o1_0 ⊢
 generalize γ 1 = γ1_1 at H1 o1_1 ⊢
 clear γ
 refine zG rfl (zA (wp_seq (wp_seq ?_)))
 refine zE 5 [.quiet (.slice (some ⟨gp, 0, none⟩) 1 1), .quiet (.int .i64 1), .quiet (.slice (some ⟨gn, 0, none⟩) 1 1), .quiet (.int .i64 1), .quiet (.bool false)] H1 ?ho2 ?he2
 case ho2 => exact ar (ag (ar (ag (ag trivial))))
 intro _ w2 H2
 clear H1
 refine zG rfl (zA (wp_cond_false rfl ?_))
 refine wp_skip (zA ?_)
 refine wp_seq (wp_seq ?_)
 refine zE 3 [.quiet (.slice (some ⟨gp, 0, none⟩) 1 1), .quiet (.int .i64 1), .quiet (.int .i64 0)] H2 ?ho3 ?he3
 case ho3 => exact ar (ag (ar trivial))
 intro _ w3 H3
 clear H2
 refine zG rfl (zA (wp_block ?_))
 refine wp_loop_rounds 2 ?_
 refine yD (n := 1) ?_
 refine wp_seq ?_
 refine zE 1 [.quiet (.bool true)] H3 ?ho4 ?he4
 case ho4 => exact ag trivial
 intro _ w4 H4
 clear H3
 refine zG rfl (zA (wp_seq ?_))
 refine wp_cond_true rfl (wp_skip ?_)
 refine zA (wp_seq ?_)
 refine wp_block (wp_seq ?_)
 refine zD 4 [.quiet (PT gp 0), .quiet (.agg (cel [x, y] ++ [Value.bool zb]).toArray), .made (cel [0, 0] ++ [Value.bool false]) 84, .laid 2 (cel [0, 0] ++ [Value.bool false]) (cel [x, y] ++ [Value.bool zb])] (sB H4) ?ho5 ?he5 (hL := ?hL5)
 case hL5 => exact ⟨⟨_, rfl⟩, trivial⟩
 case ho5 => exact ag (aq (fun w' h => lT h 4 Tryz.isAgg84 Tryz.sizeOf84) (ak (fun γ => ⟨rfl, fun w' => ex_madePN rfl⟩) (ak (fun γ => ⟨rfl, rfl, rfl, fun w' h => ex_laidT h rfl rfl Tryz.sizeOf84 rfl rfl rfl⟩) trivial)))
 intro γ w5 l hM hl
 have H5 : Hid (Mm w5 [(γ 2, cel [x, y] ++ [Value.bool zb]), (γ1_0, G1 g tn (en u) (en b)), (γ1_1, cel [0, 0] ++ [Value.bool false]), (g, zR pB), (0, dtab), (gp, cel [x, y] ++ [Value.bool zb]), (gn, zB nn)] ∧ _) := zS H4 hM (Nat.le_refl _) hl [2] rfl (by decide)
 have o5_2 := zP H4 hM (Nat.le_refl _) hl (i := 2) rfl
 clear hM hl l H4
 generalize γ 2 = γ5_2 at H5 o5_2 ⊢
 clear γ
 refine zG rfl (zA (wp_seq ?_))
 refine zE 4 [.quiet (.agg (G1 g tn (en u) (en b)).toArray), .quiet (.agg (cel [x, y] ++ [Value.bool zb]).toArray), .call (.bool true), .quiet (.bool false)] H5 ?ho6 ?he6
 case ho6 => exact aq (fun w' h => lT h 1 Tryz.isAgg81 Tryz.sizeOf81) (aq (fun w' h => lT h 0 Tryz.isAgg84 Tryz.sizeOf84) (ac (fun w' h => ⟨48, #[.agg (G1 g tn (en u) (en b)).toArray, .agg (cel [x, y] ++ [Value.bool zb]).toArray], zC rfl call48 rfl (zX rfl), CK.out w' (h.two 3 4 rfl rfl (by decide))⟩) (ag trivial)))
 intro _ w6 H6
 clear H5
 refine zG rfl (zA (wp_cond_false rfl ?_))
 refine wp_skip (zQ (zA ?_))
 refine zE 1 [.quiet (.int .i64 1)] H6 ?ho7 ?he7
 case ho7 => exact ak (fun γ => ⟨rfl, fun w' _ => by kernel_rfl⟩) trivial
 intro _ w7 H7
 clear H6
 refine zJ (l := [1]) rfl ?_
 refine zN (d := 21) rfl rfl rfl rfl ?_
 simp only [Act.put, sa, sz, ss]
 refine zH (zA ?_)
 refine yD (n := 0) ?_
 refine wp_seq ?_
 refine zE 1 [.quiet (.bool false)] H7 ?ho8 ?he8
 case ho8 => exact ag trivial
 intro _ w8 H8
 clear H7
 refine zG rfl (zA (wp_seq (wp_cond_false rfl ?_)))
 refine wp_exit ?_
 repeat refine then_exit ?_
 refine yH ?_
 refine zA (wp_seq ?_)
 refine zD 4 [.quiet (.agg (G1 g tn (en u) (en b)).toArray), .call (V [en O.1, en O.2.1, en O.2.2]), .made (cel [0, 0, 0]) 124, .laid 2 (cel [0, 0, 0]) (cel [en O.1, en O.2.1, en O.2.2])] (sB H8) ?ho9 ?he9 (hL := ?hL9)
 case hL9 => exact ⟨⟨_, rfl⟩, trivial⟩
 case ho9 => exact aq (fun w' h => lT h 1 Tryz.isAgg81 Tryz.sizeOf81) (ac (fun w' h => ⟨117, #[.agg (G1 g tn (en u) (en b)).toArray], zC rfl call117 rfl (zX rfl), CZ.out w' (h.two 3 4 rfl rfl (by decide))⟩) (ak (fun γ => ⟨rfl, fun w' => ex_madeTN rfl⟩) (ak (fun γ => ⟨rfl, rfl, rfl, fun w' h => ex_laidA h rfl Tryz.sizeOf124 rfl rfl rfl⟩) trivial)))
 intro γ w9 l hM hl
 have H9 : Hid (Mm w9 [(γ 2, cel [en O.1, en O.2.1, en O.2.2]), (γ5_2, cel [x, y] ++ [Value.bool zb]), (γ1_0, G1 g tn (en u) (en b)), (γ1_1, cel [0, 0] ++ [Value.bool false]), (g, zR pB), (0, dtab), (gp, cel [x, y] ++ [Value.bool zb]), (gn, zB nn)] ∧ _) := zS H8 hM (Nat.le_refl _) hl [2] rfl (by decide)
 have o9_2 := zP H8 hM (Nat.le_refl _) hl (i := 2) rfl
 clear hM hl l H8
 generalize γ 2 = γ9_2 at H9 o9_2 ⊢
 clear γ
 refine zG rfl (zA (wp_seq (wp_seq ?_)))
 refine zE 1 [.quiet (.int .i64 0)] H9 ?ho10 ?he10
 case ho10 => exact ar trivial
 intro _ w10 H10
 clear H9
 refine zG rfl (zA (wp_block ?_))
 refine wp_loop_rounds 2 ?_
 refine yD (n := 1) ?_
 refine wp_seq (wp_seq ?_)
 refine zE 4 [.quiet (.int .i64 0), .quiet (.slice (some ⟨gp, 0, none⟩) 1 1), .quiet (.int .i64 1), .quiet (.bool true)] H10 ?ho11 ?he11
 case ho11 => exact ar (ar (ag (ag trivial)))
 intro _ w11 H11
 clear H10
 refine zG rfl (zA (wp_cond_true rfl ?_))
 refine wp_skip (zA ?_)
 refine wp_seq (wp_block (wp_seq ?_))
 refine zE 6 [.quiet (.int .i64 0), .quiet (.int .i64 32), .quiet (.slice (some ⟨gp, 0, none⟩) 1 1), .quiet (.int .i64 1), .quiet (.int .i64 1), .quiet (.int .i64 1)] H11 ?ho12 ?he12
 case ho12 => exact ar (ak (fun γ => ⟨rfl, fun w' _ => by kernel_rfl⟩) (ar (ag (ak (by refine fun γ => ⟨rfl, fun w' h => ?_⟩; clear h; go_simp; rfl) (ar trivial)))))
 intro _ w12 H12
 clear H11
 refine zG rfl (zA ?_)
 refine yC 13 [.quiet (.agg (G1 g tn (en u) (en b)).toArray), .quiet (V [en O.1, en O.2.1, en O.2.2]), .quiet (.agg (G1 g tn (en u) (en b)).toArray), .quiet (.slice (some ⟨gp, 0, none⟩) 1 1), .quiet (.int .i64 0), .quiet (.int .i64 1), .quiet (.slice (some ⟨gp, 0, none⟩) 1 1), .quiet (.slice (some ⟨gn, 0, none⟩) 1 1), .quiet (.int .i64 0), .quiet (.int .i64 1), .quiet (.slice (some ⟨gn, 0, none⟩) 1 1), .call (V [en T.1, en T.2.1, en T.2.2]), .call (V [en U.1, en U.2.1, en U.2.2])] H12 ?ho13 ?he13
 case ho13 => exact aq (fun w' h => lT h 2 Tryz.isAgg81 Tryz.sizeOf81) (aq (fun w' h => lA 0 3 h 0 Tryz.isAgg124 Tryz.sizeOf124) (aq (fun w' h => lT h 2 Tryz.isAgg81 Tryz.sizeOf81) (ar (ar (ar (ak (fun γ => ⟨rfl, fun w' _ => ex_slice115 rfl rfl rfl rfl⟩) (ar (ar (ar (ak (fun γ => ⟨rfl, fun w' _ => ex_slice65 rfl rfl rfl rfl⟩) (ac (fun w' h => ⟨118, #[.agg (G1 g tn (en u) (en b)).toArray, .slice (some ⟨gp, 0, none⟩) 1 1, .slice (some ⟨gn, 0, none⟩) 1 1], zC rfl call118 rfl (zX rfl), CS.out w' (h.pick [4, 5, 6, 7] rfl (by decide))⟩) (ac (fun w' h => ⟨94, #[.agg (G1 g tn (en u) (en b)).toArray, V [en O.1, en O.2.1, en O.2.2], V [en T.1, en T.2.1, en T.2.2]], zC rfl call94 rfl (zX rfl), CT.out w' (h.two 4 5 rfl rfl (by decide))⟩) trivial))))))))))))
 intro _ w13 H13
 clear H12
 refine zJ (l := [13]) rfl ?_
 refine zI rfl rfl rfl (zT (i := 0) (ms := [en U.1, en U.2.1, en U.2.2]) H13.out.1 0 rfl rfl rfl rfl Tryz.sizeOf124 (Nat.le_of_ble_eq_true rfl)) ?_
 have H14 : Hid (Mm (w13.setCells γ9_2 (6 * 0) (cel [en U.1, en U.2.1, en U.2.2])) [(γ9_2, cel [en U.1, en U.2.1, en U.2.2]), (γ5_2, cel [x, y] ++ [Value.bool zb]), (γ1_0, G1 g tn (en u) (en b)), (γ1_1, cel [0, 0] ++ [Value.bool false]), (g, zR pB), (0, dtab), (gp, cel [x, y] ++ [Value.bool zb]), (gn, zB nn)] ∧ Below w.heap.size w (w13.setCells γ9_2 (6 * 0) (cel [en U.1, en U.2.1, en U.2.2]))) := ⟨by
  have h := H13.out.1.put 0 (off := 6 * 0) (vs := cel [en U.1, en U.2.1, en U.2.2]) rfl (by simp only [cel_len]; exact Nat.le_of_ble_eq_true rfl)
  rw [zU] at h
  exact h, zF _ o9_2.out _ _ _ H13.out.2⟩
 clear H13
 generalize hgw : World.setCells _ _ _ _ = w14 at H14 ⊢
 clear hgw
 refine zH (zQ (zA ?_))
 refine zE 2 [.quiet (.int .i64 0), .quiet (.int .i64 32)] H14 ?ho14 ?he14
 case ho14 => exact ar (ak (fun γ => ⟨rfl, fun w' _ => by kernel_rfl⟩) trivial)
 intro _ w15 H15
 clear H14
 refine zJ (l := [2]) rfl ?_
 refine zN (d := 11) rfl rfl rfl rfl ?_
 simp only [Act.put, sa, sz, ss]
 refine zH (zA ?_)
 refine yD (n := 0) ?_
 refine wp_seq (wp_seq ?_)
 refine zE 4 [.quiet (.int .i64 32), .quiet (.slice (some ⟨gp, 0, none⟩) 1 1), .quiet (.int .i64 1), .quiet (.bool false)] H15 ?ho15 ?he15
 case ho15 => exact ar (ar (ag (ag trivial)))
 intro _ w16 H16
 clear H15
 refine zG rfl (zA (wp_cond_false rfl ?_))
 refine wp_exit ?_
 repeat refine then_exit ?_
 refine yH ?_
 refine zA (wp_seq ?_)
 refine zE 3 [.quiet (.agg (G1 g tn (en u) (en b)).toArray), .quiet (V [en U.1, en U.2.1, en U.2.2]), .call (.agg (cel [r, k] ++ [Value.bool zr]).toArray)] H16 ?ho16 ?he16
 case ho16 => exact aq (fun w' h => lT h 2 Tryz.isAgg81 Tryz.sizeOf81) (aq (fun w' h => lA 0 3 h 0 Tryz.isAgg124 Tryz.sizeOf124) (ac (fun w' h => ⟨93, #[.agg (G1 g tn (en u) (en b)).toArray, V [en U.1, en U.2.1, en U.2.2]], zC rfl call93 rfl (zX rfl), CW.out w' (h.two 4 5 rfl rfl (by decide))⟩) trivial))
 intro _ w17 H17
 clear H16
 refine zJ (l := [3, 4]) rfl ?_
 refine zI rfl rfl rfl (ex_storeT (vs := cel [r, k] ++ [Value.bool zr]) H17.out.1 3 rfl rfl rfl rfl Tryz.sizeOf84 rfl (Nat.le_of_ble_eq_true rfl)) ?_
 have H18 : Hid (Mm (w17.setCells γ1_1 0 (cel [r, k] ++ [Value.bool zr])) [(γ9_2, cel [en U.1, en U.2.1, en U.2.2]), (γ5_2, cel [x, y] ++ [Value.bool zb]), (γ1_0, G1 g tn (en u) (en b)), (γ1_1, cel [r, k] ++ [Value.bool zr]), (g, zR pB), (0, dtab), (gp, cel [x, y] ++ [Value.bool zb]), (gn, zB nn)] ∧ Below w.heap.size w (w17.setCells γ1_1 0 (cel [r, k] ++ [Value.bool zr]))) := ⟨H17.out.1.put 3 (off := 0) (vs := cel [r, k] ++ [Value.bool zr]) rfl (Nat.le_of_ble_eq_true rfl), zF _ o1_1.out _ _ _ H17.out.2⟩
 clear H17
 generalize hgw : World.setCells _ _ _ _ = w18 at H18 ⊢
 clear hgw
 refine zN (d := 7) rfl rfl rfl rfl ?_
 simp only [Act.put, sa, sz, ss]
 refine zH (zA (wp_ret ?_))
 repeat (first | refine zM ?_ | refine zK ?_)
 have hf0 := var_T H18.out.1 3 rfl Tryz.isAgg84 Tryz.sizeOf84 rfl
 refine bodyPost_ret (v := .tuple #[.agg (cel [r, k] ++ [Value.bool zr]).toArray, .int .i64 0]) (by simp [results, Tryz.results76, asAddr, Act.eval, hf0]) rfl ?_
 exact ⟨rfl, H18.out.2⟩
end Rg
end Go.Proofs.YtaomlijondiaoaaGreatDoor
end
section
namespace Go.Proofs.YtaomlijondiaoaaGreatDoor
open Go.RowKit
namespace Rg
set_option maxHeartbeats 4000000 in
theorem Sum_1 (one four x y r k nn gl gn : Nat) (zb zr : Bool) (er : Int) (cf : ∀ w, Calls Tryz.prog 47 #[] w fun e w' => Below w.heap.size w w' ∧ ∃ g x y, e = .returned (.agg (G1 g (.func (.func 88) #[] #[PT x 0, PT y 0]) one four).toArray) ∧ w.heap.size ≤ g ∧ g < w'.heap.size ∧ Blk w' g (zR pB)) (cs : ∀ g tn gp w, Mm w [(g, zR pB), (0, dtab), (gp, cel [x, y] ++ [Value.bool zb]), (gn, zB nn)] → Calls Tryz.prog 76 #[(.agg (G1 g tn one four).toArray), .slice (some ⟨gp, 0, none⟩) 1 1, .slice (some ⟨gn, 0, none⟩) 1 1] w (Rt w (.tuple #[.agg (cel [r, k] ++ [Value.bool zr]).toArray, .int .i64 er]))) (w : World) (hm : Mm w [(0, dtab), (gl, cel [x, y] ++ [Value.bool zb]), (gn, zB nn)]) :
  Calls Tryz.prog 39 #[.slice (some ⟨gl, 0, none⟩) 1 1, .slice (some ⟨gn, 0, none⟩) 1 1] w (Rt w (.tuple #[.agg (cel [r, k] ++ [Value.bool zr]).toArray, .int .i64 er])) := by
 have H0 : Hid (_ ∧ _) := ⟨hm, Below.refl w.heap.size w⟩
 clear hm
 have CF : Hid _ := cf
 clear cf
 have CS : Hid _ := cs
 clear cs
 go_enter Tryz.func39, Tryz.ntmps39
 refine wp_seq ?_
 refine zD 2 [.made (cel [0, 0] ++ [Value.bool false]) 26, .quiet (.int .i64 0)] (sB H0) ?ho1 ?he1
 case ho1 => exact ak (fun γ => ⟨rfl, fun w' => ex_madeP1 rfl⟩) (ar trivial)
 intro γ w1 l hM hl
 have H1 : Hid (Mm w1 [(γ 0, cel [0, 0] ++ [Value.bool false]), (0, dtab), (gl, cel [x, y] ++ [Value.bool zb]), (gn, zB nn)] ∧ _) := zS H0 hM (Nat.le_refl _) hl [0] rfl (by decide)
 have o1_0 := zP H0 hM (Nat.le_refl _) hl (i := 0) rfl
 clear hM hl l
 generalize γ 0 = γ1_0 at H1 o1_0 ⊢
 clear γ
 refine zG rfl (zA (wp_seq ?_))
 refine zE 2 [.quiet (.slice (some ⟨gl, 0, none⟩) 1 1), .quiet (.int .i64 1)] H1 ?ho2 ?he2
 case ho2 => exact ar (ag trivial)
 intro _ w2 H2
 clear H1
 refine zJ (l := [2, 3]) rfl ?_
 refine zN (d := 13) (v := .slice (some ⟨w2.heap.size, 0, none⟩) 1 1) (w' := w2.alloc (.cells (cel [0, 0] ++ [Value.bool false] : List Value).toArray 84)) rfl rfl rfl (ex_mkPN rfl rfl rfl) ?_
 simp only [Act.put, sa, sz, ss]
 have o_γs3 : Hid (w.heap.size ≤ w2.heap.size) := H2.out.2.size
 have H3 : Hid (Mm (w2.alloc (.cells (cel [0, 0] ++ [Value.bool false] : List Value).toArray 84)) ((w2.heap.size, cel [0, 0] ++ [Value.bool false]) :: [(γ1_0, cel [0, 0] ++ [Value.bool false]), (0, dtab), (gl, cel [x, y] ++ [Value.bool zb]), (gn, zB nn)]) ∧ Below w.heap.size w (w2.alloc (.cells (cel [0, 0] ++ [Value.bool false] : List Value).toArray 84))) := ⟨H2.out.1.alloc _ 84 rfl, H2.out.2.alloc H2.out.2.size _⟩
 clear H2
 generalize hgw : w2.alloc (.cells (cel [0, 0] ++ [Value.bool false] : List Value).toArray 84) = w3 at H3 ⊢
 clear hgw
 generalize w2.heap.size = γs3 at o_γs3 H3 ⊢
 refine zN (d := 6) rfl rfl rfl rfl ?_
 simp only [Act.put, sa, sz, ss]
 refine zH (zA ?_)
 refine wp_seq (wp_seq ?_)
 refine zE 3 [.quiet (.slice (some ⟨gl, 0, none⟩) 1 1), .quiet (.int .i64 1), .quiet (.int .i64 0)] H3 ?ho3 ?he3
 case ho3 => exact ar (ag (ar trivial))
 intro _ w4 H4
 clear H3
 refine zG rfl (zA (wp_block ?_))
 refine wp_loop_rounds 2 ?_
 refine yD (n := 1) ?_
 refine wp_seq ?_
 refine zE 1 [.quiet (.bool true)] H4 ?ho4 ?he4
 case ho4 => exact ag trivial
 intro _ w5 H5
 clear H4
 refine zG rfl (zA (wp_seq ?_))
 refine wp_cond_true rfl (wp_skip ?_)
 refine zA (wp_seq ?_)
 refine wp_block (wp_seq ?_)
 refine zD 6 [.quiet (.int .i64 0), .quiet (PT gl 0), .quiet (.agg (cel [x, y] ++ [Value.bool zb]).toArray), .made (cel [0, 0] ++ [Value.bool false]) 26, .quiet (.int .i64 0), .laid 3 (cel [0, 0] ++ [Value.bool false]) (cel [x, y] ++ [Value.bool zb])] (sB H5) ?ho5 ?he5 (hL := ?hL5)
 case hL5 => exact ⟨⟨_, rfl⟩, trivial⟩
 case ho5 => exact ar (ag (aq (fun w' h => lT h 3 Tryz.isAgg26 Tryz.sizeOf26) (ak (fun γ => ⟨rfl, fun w' => ex_madeP1 rfl⟩) (ar (ak (fun γ => ⟨rfl, rfl, rfl, fun w' h => ex_laidT h rfl rfl Tryz.sizeOf26 rfl rfl rfl⟩) trivial)))))
 intro γ w6 l hM hl
 have H6 : Hid (Mm w6 [(γ 3, cel [x, y] ++ [Value.bool zb]), (γs3, cel [0, 0] ++ [Value.bool false]), (γ1_0, cel [0, 0] ++ [Value.bool false]), (0, dtab), (gl, cel [x, y] ++ [Value.bool zb]), (gn, zB nn)] ∧ _) := zS H5 hM (Nat.le_refl _) hl [3] rfl (by decide)
 have o5_3 := zP H5 hM (Nat.le_refl _) hl (i := 3) rfl
 clear hM hl l H5
 generalize γ 3 = γ5_3 at H6 o5_3 ⊢
 clear γ
 refine zG rfl (zA ?_)
 refine zE 4 [.quiet (.slice (some ⟨γs3, 0, none⟩) 1 1), .quiet (.int .i64 0), .quiet (.agg (cel [x, y] ++ [Value.bool zb]).toArray), .quiet (PT γs3 0)] H6 ?ho6 ?he6
 case ho6 => exact ar (ar (aq (fun w' h => lT h 0 Tryz.isAgg26 Tryz.sizeOf26) (ag trivial)))
 intro _ w7 H7
 clear H6
 refine zJ (l := [4]) rfl ?_
 refine zI rfl rfl rfl (ex_storeT (vs := cel [x, y] ++ [Value.bool zb]) H7.out.1 1 rfl rfl rfl rfl Tryz.sizeOf84 rfl (Nat.le_of_ble_eq_true rfl)) ?_
 have H8 : Hid (Mm (w7.setCells γs3 0 (cel [x, y] ++ [Value.bool zb])) [(γ5_3, cel [x, y] ++ [Value.bool zb]), (γs3, cel [x, y] ++ [Value.bool zb]), (γ1_0, cel [0, 0] ++ [Value.bool false]), (0, dtab), (gl, cel [x, y] ++ [Value.bool zb]), (gn, zB nn)] ∧ Below w.heap.size w (w7.setCells γs3 0 (cel [x, y] ++ [Value.bool zb]))) := ⟨H7.out.1.put 1 (off := 0) (vs := cel [x, y] ++ [Value.bool zb]) rfl (Nat.le_of_ble_eq_true rfl), zF _ o_γs3.out _ _ _ H7.out.2⟩
 clear H7
 generalize hgw : World.setCells _ _ _ _ = w8 at H8 ⊢
 clear hgw
 refine zH (zQ (zA ?_))
 refine zE 1 [.quiet (.int .i64 1)] H8 ?ho7 ?he7
 case ho7 => exact ak (fun γ => ⟨rfl, fun w' _ => by kernel_rfl⟩) trivial
 intro _ w9 H9
 clear H8
 refine zJ (l := [1]) rfl ?_
 refine zN (d := 16) rfl rfl rfl rfl ?_
 simp only [Act.put, sa, sz, ss]
 refine zH (zA ?_)
 refine yD (n := 0) ?_
 refine wp_seq ?_
 refine zE 1 [.quiet (.bool false)] H9 ?ho8 ?he8
 case ho8 => exact ag trivial
 intro _ w10 H10
 clear H9
 refine zG rfl (zA (wp_seq (wp_cond_false rfl ?_)))
 refine wp_exit ?_
 repeat refine then_exit ?_
 refine yH ?_
 refine zA (wp_seq ?_)
 refine zD 10 [.bornX (fun g x y => .agg (G1 g (.func (.func 88) #[] #[PT x 0, PT y 0]) one four).toArray) (zR pB), .quiet (.slice (some ⟨γs3, 0, none⟩) 1 1), .quiet (.slice (some ⟨gn, 0, none⟩) 1 1), .over (.tuple #[.agg (cel [r, k] ++ [Value.bool zr]).toArray, .int .i64 er]) 0 (zR pB), .quiet (.tuple #[.agg (cel [r, k] ++ [Value.bool zr]).toArray, .int .i64 er]), .quiet (.agg (cel [r, k] ++ [Value.bool zr]).toArray), .quiet (.int .i64 er), .made (cel [0, 0] ++ [Value.bool false]) 84, .laid 7 (cel [0, 0] ++ [Value.bool false]) (cel [r, k] ++ [Value.bool zr]), .quiet (.int .i64 er)] (sB H10) ?ho9 ?he9 (hL := ?hL9)
 case hL9 => exact ⟨⟨_, rfl⟩, ⟨_, rfl⟩, trivial⟩
 case ho9 => exact ak (fun γ => ⟨rfl, fun w' h => ⟨47, #[], zC rfl call47 rfl (zX rfl), CF.out w'⟩⟩) (ar (ar (ak (fun γ => ⟨rfl, fun u w' h0 hge h1 hb hlt => by have h := Mm.over h0 hge h1 hb hlt; exact ⟨76, #[.agg (G1 (γ 0) (.func (.func 88) #[] #[PT (γ 65536) 0, PT (γ 131072) 0]) one four).toArray, .slice (some ⟨γs3, 0, none⟩) 1 1, .slice (some ⟨gn, 0, none⟩) 1 1], zC rfl call76 rfl (zX rfl), CS.out _ _ _ w' (h.pick [0, 4, 2, 6] rfl (by decide))⟩⟩) (ar (ag (ag (ak (fun γ => ⟨rfl, fun w' => ex_madePN rfl⟩) (ak (fun γ => ⟨rfl, rfl, rfl, fun w' h => ex_laidT h rfl rfl Tryz.sizeOf84 rfl rfl rfl⟩) (ar trivial)))))))))
 intro γ w11 l hM hl
 have H11 : Hid (Mm w11 [(γ 0, zR pB), (γ 7, cel [r, k] ++ [Value.bool zr]), (γ5_3, cel [x, y] ++ [Value.bool zb]), (γs3, cel [x, y] ++ [Value.bool zb]), (γ1_0, cel [0, 0] ++ [Value.bool false]), (0, dtab), (gl, cel [x, y] ++ [Value.bool zb]), (gn, zB nn)] ∧ _) := zS H10 hM (Nat.le_refl _) hl [0, 7] rfl (by decide)
 have o9_0 := zP H10 hM (Nat.le_refl _) hl (i := 0) rfl
 have o9_7 := zP H10 hM (Nat.le_refl _) hl (i := 7) rfl
 clear hM hl l H10
 generalize γ 0 = γ9_0 at H11 o9_0 ⊢
 generalize γ 7 = γ9_7 at H11 o9_7 ⊢
 generalize γ 65536 = γ9_65536
 generalize γ 131072 = γ9_131072
 clear γ
 refine zG rfl (zA (wp_seq ?_))
 refine zE 2 [.quiet (.agg (cel [r, k] ++ [Value.bool zr]).toArray), .quiet (.int .i64 er)] H11 ?ho10 ?he10
 case ho10 => exact aq (fun w' h => lT h 1 Tryz.isAgg84 Tryz.sizeOf84) (ar trivial)
 intro _ w12 H12
 clear H11
 refine zJ (l := [2, 3]) rfl ?_
 refine zI rfl rfl rfl (ex_storeT (vs := cel [r, k] ++ [Value.bool zr]) H12.out.1 4 rfl rfl rfl rfl Tryz.sizeOf26 rfl (Nat.le_of_ble_eq_true rfl)) ?_
 have H13 : Hid (Mm (w12.setCells γ1_0 0 (cel [r, k] ++ [Value.bool zr])) [(γ9_0, zR pB), (γ9_7, cel [r, k] ++ [Value.bool zr]), (γ5_3, cel [x, y] ++ [Value.bool zb]), (γs3, cel [x, y] ++ [Value.bool zb]), (γ1_0, cel [r, k] ++ [Value.bool zr]), (0, dtab), (gl, cel [x, y] ++ [Value.bool zb]), (gn, zB nn)] ∧ Below w.heap.size w (w12.setCells γ1_0 0 (cel [r, k] ++ [Value.bool zr]))) := ⟨H12.out.1.put 4 (off := 0) (vs := cel [r, k] ++ [Value.bool zr]) rfl (Nat.le_of_ble_eq_true rfl), zF _ o1_0.out _ _ _ H12.out.2⟩
 clear H12
 generalize hgw : World.setCells _ _ _ _ = w13 at H13 ⊢
 clear hgw
 refine zN (d := 5) rfl rfl rfl rfl ?_
 simp only [Act.put, sa, sz, ss]
 refine zH (zA (wp_ret ?_))
 repeat (first | refine zM ?_ | refine zK ?_)
 have hf0 := var_T H13.out.1 4 rfl Tryz.isAgg26 Tryz.sizeOf26 rfl
 refine bodyPost_ret (v := .tuple #[.agg (cel [r, k] ++ [Value.bool zr]).toArray, .int .i64 er]) (by simp [results, Tryz.results39, asAddr, Act.eval, hf0]) rfl ?_
 exact ⟨rfl, H13.out.2⟩
set_option maxHeartbeats 4000000 in
theorem Mul_1 (x y r k nn : Nat) (zb zr : Bool) (er : Int) (cs : ∀ gl gn w, Mm w [(0, dtab), (gl, cel [x, y] ++ [Value.bool zb]), (gn, zB nn)] → Calls Tryz.prog 39 #[.slice (some ⟨gl, 0, none⟩) 1 1, .slice (some ⟨gn, 0, none⟩) 1 1] w (Rt w (.tuple #[.agg (cel [r, k] ++ [Value.bool zr]).toArray, .int .i64 er]))) (w : World) (hm : Mm w [(0, dtab)]) :
  Calls Tryz.prog 17 #[.agg (cel [x, y] ++ [Value.bool zb]).toArray, N nn] w (Rt w (.tuple #[.agg (cel [r, k] ++ [Value.bool zr]).toArray, .int .i64 er])) := by
 have H0 : Hid (_ ∧ _) := ⟨hm, Below.refl w.heap.size w⟩
 clear hm
 have CS : Hid _ := cs
 clear cs
 go_enter Tryz.func17, Tryz.ntmps17
 refine wp_seq ?_
 refine zD 4 [.made (cel [x, y] ++ [Value.bool zb]) 26, .made (zB nn) 24, .made (cel [0, 0] ++ [Value.bool false]) 26, .quiet (.int .i64 0)] (sB H0) ?ho1 ?he1
 case ho1 => exact ak (fun γ => ⟨rfl, fun w' => yA rfl rfl⟩) (ak (fun γ => ⟨rfl, fun w' => ex_box6 rfl rfl⟩) (ak (fun γ => ⟨rfl, fun w' => ex_madeP1 rfl⟩) (ar trivial)))
 intro γ w1 l hM hl
 have H1 : Hid (Mm w1 [(γ 0, cel [x, y] ++ [Value.bool zb]), (γ 1, zB nn), (γ 2, cel [0, 0] ++ [Value.bool false]), (0, dtab)] ∧ _) := zS H0 hM (Nat.le_refl _) hl [0, 1, 2] rfl (by decide)
 have o1_0 := zP H0 hM (Nat.le_refl _) hl (i := 0) rfl
 have o1_1 := zP H0 hM (Nat.le_refl _) hl (i := 1) rfl
 have o1_2 := zP H0 hM (Nat.le_refl _) hl (i := 2) rfl
 clear hM hl l
 generalize γ 0 = γ1_0 at H1 o1_0 ⊢
 generalize γ 1 = γ1_1 at H1 o1_1 ⊢
 generalize γ 2 = γ1_2 at H1 o1_2 ⊢
 clear γ
 refine zG rfl (zA (wp_seq ?_))
 refine zE 1 [.quiet (.agg (cel [x, y] ++ [Value.bool zb]).toArray)] H1 ?ho2 ?he2
 case ho2 => exact aq (fun w' h => lT h 0 Tryz.isAgg26 Tryz.sizeOf26) trivial
 intro _ w2 H2
 clear H1
 refine zJ (l := [1, 2, 3, 4, 5, 6, 7, 8]) rfl ?_
 refine zN (d := 7) (v := .slice (some ⟨w2.heap.size, 0, none⟩) 1 1) (w' := w2.alloc (.cells (cel [x, y] ++ [Value.bool zb] : List Value).toArray 26)) rfl rfl rfl (ex_bs63 rfl rfl) ?_
 simp only [Act.put, sa, sz, ss]
 have o_γs3 : Hid (w.heap.size ≤ w2.heap.size) := H2.out.2.size
 have H3 : Hid (Mm (w2.alloc (.cells (cel [x, y] ++ [Value.bool zb] : List Value).toArray 26)) ((w2.heap.size, cel [x, y] ++ [Value.bool zb]) :: [(γ1_0, cel [x, y] ++ [Value.bool zb]), (γ1_1, zB nn), (γ1_2, cel [0, 0] ++ [Value.bool false]), (0, dtab)]) ∧ Below w.heap.size w (w2.alloc (.cells (cel [x, y] ++ [Value.bool zb] : List Value).toArray 26))) := ⟨H2.out.1.alloc _ 26 rfl, H2.out.2.alloc H2.out.2.size _⟩
 clear H2
 generalize hgw : w2.alloc (.cells (cel [x, y] ++ [Value.bool zb] : List Value).toArray 26) = w3 at H3 ⊢
 clear hgw
 generalize w2.heap.size = γs3 at o_γs3 H3 ⊢
 refine zN (d := 8) (v := N nn) rfl rfl rfl (ex_load6 H3.out.1 2 rfl rfl rfl rfl) ?_
 simp only [Act.put, sa, sz, ss]
 refine zN (d := 9) (v := .slice (some ⟨w3.heap.size, 0, none⟩) 1 1) (w' := w3.alloc (.cells (zB nn : List Value).toArray 24)) rfl rfl rfl (ex_bs65 rfl rfl) ?_
 simp only [Act.put, sa, sz, ss]
 have o_γs4 : Hid (w.heap.size ≤ w3.heap.size) := H3.out.2.size
 have H4 : Hid (Mm (w3.alloc (.cells (zB nn : List Value).toArray 24)) ((w3.heap.size, zB nn) :: [(γs3, cel [x, y] ++ [Value.bool zb]), (γ1_0, cel [x, y] ++ [Value.bool zb]), (γ1_1, zB nn), (γ1_2, cel [0, 0] ++ [Value.bool false]), (0, dtab)]) ∧ Below w.heap.size w (w3.alloc (.cells (zB nn : List Value).toArray 24))) := ⟨H3.out.1.alloc _ 24 rfl, H3.out.2.alloc H3.out.2.size _⟩
 clear H3
 generalize hgw : w3.alloc (.cells (zB nn : List Value).toArray 24) = w4 at H4 ⊢
 clear hgw
 generalize w3.heap.size = γs4 at o_γs4 H4 ⊢
 refine rest_enter (d := 10) (R := fun vv w' => vv = .tuple #[.agg (cel [r, k] ++ [Value.bool zr]).toArray, .int .i64 er] ∧ Below w4.heap.size w4 w') rfl rfl rfl (zC (args := #[.slice (some ⟨γs3, 0, none⟩) 1 1, .slice (some ⟨γs4, 0, none⟩) 1 1]) rfl call39 rfl (zX rfl)) (Calls.mono (CS.out _ _ w4 (H4.out.1.pick [5, 1, 0] rfl (by decide))) (fun e w2 hh => ⟨_, hh.1, rfl, hh.2⟩)) ?_
 rintro _ w5 ⟨rfl, hb⟩
 have H5 : Hid (_ ∧ _) := ⟨H4.out.1.below hb, H4.out.2.trans (hb.mono H4.out.2.size)⟩
 clear hb H4
 simp only [Act.put, sa, sz, ss]
 refine zN (d := 11) (v := .agg (cel [r, k] ++ [Value.bool zr]).toArray) (w' := w5) rfl rfl rfl (by go_simp) ?_
 simp only [Act.put, sa, sz, ss]
 refine zN (d := 12) (v := .int .i64 er) (w' := w5) rfl rfl rfl (by go_simp) ?_
 simp only [Act.put, sa, sz, ss]
 refine zI rfl rfl rfl (ex_storeT (vs := cel [r, k] ++ [Value.bool zr]) H5.out.1 4 rfl rfl rfl rfl Tryz.sizeOf26 rfl (Nat.le_of_ble_eq_true rfl)) ?_
 have H6 : Hid (Mm (w5.setCells γ1_2 0 (cel [r, k] ++ [Value.bool zr])) [(γs4, zB nn), (γs3, cel [x, y] ++ [Value.bool zb]), (γ1_0, cel [x, y] ++ [Value.bool zb]), (γ1_1, zB nn), (γ1_2, cel [r, k] ++ [Value.bool zr]), (0, dtab)] ∧ Below w.heap.size w (w5.setCells γ1_2 0 (cel [r, k] ++ [Value.bool zr]))) := ⟨H5.out.1.put 4 (off := 0) (vs := cel [r, k] ++ [Value.bool zr]) rfl (Nat.le_of_ble_eq_true rfl), zF _ o1_2.out _ _ _ H5.out.2⟩
 clear H5
 generalize hgw : World.setCells _ _ _ _ = w6 at H6 ⊢
 clear hgw
 refine zN (d := 5) rfl rfl rfl rfl ?_
 simp only [Act.put, sa, sz, ss]
 refine zH (zA (wp_ret ?_))
 repeat (first | refine zM ?_ | refine zK ?_)
 have hf0 := var_T H6.out.1 4 rfl Tryz.isAgg26 Tryz.sizeOf26 rfl
 refine bodyPost_ret (v := .tuple #[.agg (cel [r, k] ++ [Value.bool zr]).toArray, .int .i64 er]) (by simp [results, Tryz.results17, asAddr, Act.eval, hf0]) rfl ?_
 exact ⟨rfl, H6.out.2⟩
end Rg
end Go.Proofs.YtaomlijondiaoaaGreatDoor
end
section
namespace Go.Proofs.YtaomlijondiaoaaGreatDoor
open Go.RowKit
namespace Rg
open NT
def dgt (v k : Nat) : Nat := v * 16 ^ k % 18446744073709551616 / 1152921504606846976
def wof (v k : Nat) : Int := ((v * 16 ^ k % 18446744073709551616 : Nat) : Int)
theorem dgt_lt (v k : Nat) : dgt v k < 16 := by
 unfold dgt
 have := Nat.mod_lt (v * 16 ^ k) (show 0 < 18446744073709551616 by decide)
 omega
theorem wof_0 {v : Nat} (h : v < 18446744073709551616) : wof v 0 = ((v : Nat) : Int) := by
 unfold wof
 rw [Nat.pow_zero, Nat.mul_one, Nat.mod_eq_of_lt h]
theorem wof_16 (v : Nat) : wof v 16 = 0 := by
 unfold wof
 rw [show (16 : Nat) ^ 16 = 18446744073709551616 by decide, Nat.mul_mod_left]
 rfl
theorem wof_d (v k : Nat) : wof v k / 2 ^ 60 = ((dgt v k : Nat) : Int) := by
 unfold wof dgt
 rw [show (2 : Int) ^ 60 = ((1152921504606846976 : Nat) : Int) by decide, ← Int.natCast_ediv]
theorem wof_w (v k : Nat) : IntKind.u64.wrap (wof v k * 2 ^ 4) = wof v (k + 1) := by
 unfold wof
 rw [IntKind.wrap_u64, Nat.pow_succ, ← Nat.mul_assoc, show (2 : Int) ^ 4 = ((16 : Nat) : Int) by decide, ← Int.natCast_mul, show (18446744073709551616 : Int) = ((18446744073709551616 : Nat) : Int) from rfl, ← Int.natCast_emod, Nat.mod_mul_mod]
theorem hi_next (v k : Nat) : v * 16 ^ (k + 1) / 18446744073709551616 = 16 * (v * 16 ^ k / 18446744073709551616) + dgt v k := by
 unfold dgt
 rw [Nat.pow_succ, ← Nat.mul_assoc]
 generalize v * 16 ^ k = X
 omega
theorem hi_word (nn j : Nat) : nn / 2 ^ (64 * (j + 1)) * 18446744073709551616 + wn nn j = nn / 2 ^ (64 * j) := by
 unfold wn
 rw [Nat.mul_add, Nat.pow_add, ← Nat.div_div_eq_div_mul]
 generalize nn / 2 ^ (64 * j) = X
 rw [show 2 ^ (64 * 1) = 18446744073709551616 by decide]
 omega
theorem hi_top {nn : Nat} (h : nn < big) : nn / 2 ^ (64 * (6 - 0)) = 0 := by
 obtain ⟨m, hm, hb⟩ := big_pow
 rw [show 6 - 0 = m by omega, ← hb]
 exact Nat.div_eq_of_lt h
def tab1 {I : Fp → Fp} (hI : Inv1 I) (P : Option (Fp × Fp)) : Nat → EC.Tri Fp
 | 0 => (K1 hI).lift none
 | 1 => (K1 hI).lift P
 | 2 => (K1 hI).twice ((K1 hI).lift P)
 | 3 => (K1 hI).tog ((K1 hI).twice ((K1 hI).lift P)) ((K1 hI).lift P)
 | 4 => (K1 hI).twice ((K1 hI).twice ((K1 hI).lift P))
 | 5 => (K1 hI).tog ((K1 hI).twice ((K1 hI).twice ((K1 hI).lift P))) ((K1 hI).lift P)
 | 6 => (K1 hI).twice ((K1 hI).tog ((K1 hI).twice ((K1 hI).lift P)) ((K1 hI).lift P))
 | 7 => (K1 hI).tog ((K1 hI).twice ((K1 hI).tog ((K1 hI).twice ((K1 hI).lift P)) ((K1 hI).lift P))) ((K1 hI).lift P)
 | 8 => (K1 hI).twice ((K1 hI).twice ((K1 hI).twice ((K1 hI).lift P)))
 | 9 => (K1 hI).tog ((K1 hI).twice ((K1 hI).twice ((K1 hI).twice ((K1 hI).lift P)))) ((K1 hI).lift P)
 | 10 => (K1 hI).twice ((K1 hI).tog ((K1 hI).twice ((K1 hI).twice ((K1 hI).lift P))) ((K1 hI).lift P))
 | 11 => (K1 hI).tog ((K1 hI).twice ((K1 hI).tog ((K1 hI).twice ((K1 hI).twice ((K1 hI).lift P))) ((K1 hI).lift P))) ((K1 hI).lift P)
 | 12 => (K1 hI).twice ((K1 hI).twice ((K1 hI).tog ((K1 hI).twice ((K1 hI).lift P)) ((K1 hI).lift P)))
 | 13 => (K1 hI).tog ((K1 hI).twice ((K1 hI).twice ((K1 hI).tog ((K1 hI).twice ((K1 hI).lift P)) ((K1 hI).lift P)))) ((K1 hI).lift P)
 | 14 => (K1 hI).twice ((K1 hI).tog ((K1 hI).twice ((K1 hI).tog ((K1 hI).twice ((K1 hI).lift P)) ((K1 hI).lift P))) ((K1 hI).lift P))
 | 15 => (K1 hI).tog ((K1 hI).twice ((K1 hI).tog ((K1 hI).twice ((K1 hI).tog ((K1 hI).twice ((K1 hI).lift P)) ((K1 hI).lift P))) ((K1 hI).lift P))) ((K1 hI).lift P)
 | _ => (K1 hI).lift none
def fn1 {I : Fp → Fp} (hI : Inv1 I) (P : Option (Fp × Fp)) (k : Nat) : Nat :=
 match k % 3 with
 | 0 => p0 (tab1 hI P (k / 3)).1
 | 1 => p0 (tab1 hI P (k / 3)).2.1
 | _ => p0 (tab1 hI P (k / 3)).2.2
theorem fn1_0 {I : Fp → Fp} (hI : Inv1 I) (P : Option (Fp × Fp)) (d : Nat) : fn1 hI P (3 * d) = p0 (tab1 hI P d).1 := by
 unfold fn1
 rw [show (3 * d) % 3 = 0 by omega, show (3 * d) / 3 = d by omega]
 rfl
theorem fn1_1 {I : Fp → Fp} (hI : Inv1 I) (P : Option (Fp × Fp)) (d : Nat) : fn1 hI P (3 * d + 1) = p0 (tab1 hI P d).2.1 := by
 unfold fn1
 rw [show (3 * d + 1) % 3 = 1 by omega, show (3 * d + 1) / 3 = d by omega]
 rfl
theorem fn1_2 {I : Fp → Fp} (hI : Inv1 I) (P : Option (Fp × Fp)) (d : Nat) : fn1 hI P (3 * d + 2) = p0 (tab1 hI P d).2.2 := by
 unfold fn1
 rw [show (3 * d + 2) % 3 = 2 by omega, show (3 * d + 2) / 3 = d by omega]
 rfl
theorem tabrep1 {I : Fp → Fp} (hI : Inv1 I) {P : Option (Fp × Fp)} (h : (K1 hI).on P) : ∀ j, j < 16 → (K1 hI).rep (tab1 hI P j) ((K1 hI).times P j) := by
 have o := fun k => (K1 hI).times_on h k
 have rp : (K1 hI).rep ((K1 hI).lift P) P := (K1 hI).rep_lift P
 have r1 : (K1 hI).rep ((K1 hI).lift P) ((K1 hI).times P 1) := by rw [(K1 hI).times_one h]; exact rp
 have two : ∀ k (A : EC.Tri Fp), (K1 hI).rep A ((K1 hI).times P k) → (K1 hI).rep ((K1 hI).twice A) ((K1 hI).times P (2 * k)) := fun k A hk => by
  rw [← (K1 hI).times_two h]
  exact (K1 hI).rep_twice hk (o k)
 have odd : ∀ k (A : EC.Tri Fp), (K1 hI).rep A ((K1 hI).times P k) → (K1 hI).rep ((K1 hI).tog A ((K1 hI).lift P)) ((K1 hI).times P (k + 1)) := fun k A hk => (K1 hI).rep_tog hk rp (o k) h
 have r2 : (K1 hI).rep (tab1 hI P 2) ((K1 hI).times P 2) := two 1 _ r1
 have r3 : (K1 hI).rep (tab1 hI P 3) ((K1 hI).times P 3) := odd 2 _ r2
 have r4 : (K1 hI).rep (tab1 hI P 4) ((K1 hI).times P 4) := two 2 _ r2
 have r5 : (K1 hI).rep (tab1 hI P 5) ((K1 hI).times P 5) := odd 4 _ r4
 have r6 : (K1 hI).rep (tab1 hI P 6) ((K1 hI).times P 6) := two 3 _ r3
 have r7 : (K1 hI).rep (tab1 hI P 7) ((K1 hI).times P 7) := odd 6 _ r6
 have r8 : (K1 hI).rep (tab1 hI P 8) ((K1 hI).times P 8) := two 4 _ r4
 have r9 : (K1 hI).rep (tab1 hI P 9) ((K1 hI).times P 9) := odd 8 _ r8
 have r10 : (K1 hI).rep (tab1 hI P 10) ((K1 hI).times P 10) := two 5 _ r5
 have r11 : (K1 hI).rep (tab1 hI P 11) ((K1 hI).times P 11) := odd 10 _ r10
 have r12 : (K1 hI).rep (tab1 hI P 12) ((K1 hI).times P 12) := two 6 _ r6
 have r13 : (K1 hI).rep (tab1 hI P 13) ((K1 hI).times P 13) := odd 12 _ r12
 have r14 : (K1 hI).rep (tab1 hI P 14) ((K1 hI).times P 14) := two 7 _ r7
 have r15 : (K1 hI).rep (tab1 hI P 15) ((K1 hI).times P 15) := odd 14 _ r14
 intro j hj
 match j, hj with
 | 0, _ => exact (K1 hI).rep_lift none
 | 1, _ => exact r1
 | 2, _ => exact r2
 | 3, _ => exact r3
 | 4, _ => exact r4
 | 5, _ => exact r5
 | 6, _ => exact r6
 | 7, _ => exact r7
 | 8, _ => exact r8
 | 9, _ => exact r9
 | 10, _ => exact r10
 | 11, _ => exact r11
 | 12, _ => exact r12
 | 13, _ => exact r13
 | 14, _ => exact r14
 | 15, _ => exact r15
 | _ + 16, h => exact absurd h (by omega)
theorem fnl1 {I : Fp → Fp} (hI : Inv1 I) (P : Option (Fp × Fp)) (d : Nat) : [fn1 hI P (3 * d), fn1 hI P (3 * d + 1), fn1 hI P (3 * d + 2)] = t1 (tab1 hI P d) := by rw [fn1_0, fn1_1, fn1_2]
theorem fl1_0 {I : Fp → Fp} (hI : Inv1 I) (P : Option (Fp × Fp)) : [fn1 hI P 0, fn1 hI P 1, fn1 hI P 2] = t1 (tab1 hI P 0) := fnl1 hI P 0
theorem fl1_1 {I : Fp → Fp} (hI : Inv1 I) (P : Option (Fp × Fp)) : [fn1 hI P 3, fn1 hI P 4, fn1 hI P 5] = t1 (tab1 hI P 1) := fnl1 hI P 1
theorem fl1_2 {I : Fp → Fp} (hI : Inv1 I) (P : Option (Fp × Fp)) : [fn1 hI P 6, fn1 hI P 7, fn1 hI P 8] = t1 (tab1 hI P 2) := fnl1 hI P 2
theorem fl1_3 {I : Fp → Fp} (hI : Inv1 I) (P : Option (Fp × Fp)) : [fn1 hI P 9, fn1 hI P 10, fn1 hI P 11] = t1 (tab1 hI P 3) := fnl1 hI P 3
theorem fl1_4 {I : Fp → Fp} (hI : Inv1 I) (P : Option (Fp × Fp)) : [fn1 hI P 12, fn1 hI P 13, fn1 hI P 14] = t1 (tab1 hI P 4) := fnl1 hI P 4
theorem fl1_5 {I : Fp → Fp} (hI : Inv1 I) (P : Option (Fp × Fp)) : [fn1 hI P 15, fn1 hI P 16, fn1 hI P 17] = t1 (tab1 hI P 5) := fnl1 hI P 5
theorem fl1_6 {I : Fp → Fp} (hI : Inv1 I) (P : Option (Fp × Fp)) : [fn1 hI P 18, fn1 hI P 19, fn1 hI P 20] = t1 (tab1 hI P 6) := fnl1 hI P 6
theorem fl1_7 {I : Fp → Fp} (hI : Inv1 I) (P : Option (Fp × Fp)) : [fn1 hI P 21, fn1 hI P 22, fn1 hI P 23] = t1 (tab1 hI P 7) := fnl1 hI P 7
theorem fl1_8 {I : Fp → Fp} (hI : Inv1 I) (P : Option (Fp × Fp)) : [fn1 hI P 24, fn1 hI P 25, fn1 hI P 26] = t1 (tab1 hI P 8) := fnl1 hI P 8
theorem fl1_9 {I : Fp → Fp} (hI : Inv1 I) (P : Option (Fp × Fp)) : [fn1 hI P 27, fn1 hI P 28, fn1 hI P 29] = t1 (tab1 hI P 9) := fnl1 hI P 9
theorem fl1_10 {I : Fp → Fp} (hI : Inv1 I) (P : Option (Fp × Fp)) : [fn1 hI P 30, fn1 hI P 31, fn1 hI P 32] = t1 (tab1 hI P 10) := fnl1 hI P 10
theorem fl1_11 {I : Fp → Fp} (hI : Inv1 I) (P : Option (Fp × Fp)) : [fn1 hI P 33, fn1 hI P 34, fn1 hI P 35] = t1 (tab1 hI P 11) := fnl1 hI P 11
theorem fl1_12 {I : Fp → Fp} (hI : Inv1 I) (P : Option (Fp × Fp)) : [fn1 hI P 36, fn1 hI P 37, fn1 hI P 38] = t1 (tab1 hI P 12) := fnl1 hI P 12
theorem fl1_13 {I : Fp → Fp} (hI : Inv1 I) (P : Option (Fp × Fp)) : [fn1 hI P 39, fn1 hI P 40, fn1 hI P 41] = t1 (tab1 hI P 13) := fnl1 hI P 13
theorem fl1_14 {I : Fp → Fp} (hI : Inv1 I) (P : Option (Fp × Fp)) : [fn1 hI P 42, fn1 hI P 43, fn1 hI P 44] = t1 (tab1 hI P 14) := fnl1 hI P 14
theorem fl1_15 {I : Fp → Fp} (hI : Inv1 I) (P : Option (Fp × Fp)) : [fn1 hI P 45, fn1 hI P 46, fn1 hI P 47] = t1 (tab1 hI P 15) := fnl1 hI P 15
theorem ts1_2 {I : Fp → Fp} (hI : Inv1 I) (P : Option (Fp × Fp)) : tab1 hI P 2 = (K1 hI).twice (tab1 hI P 1) := rfl
theorem ts1_3 {I : Fp → Fp} (hI : Inv1 I) (P : Option (Fp × Fp)) : tab1 hI P 3 = (K1 hI).tog (tab1 hI P 2) (tab1 hI P 1) := rfl
theorem ts1_4 {I : Fp → Fp} (hI : Inv1 I) (P : Option (Fp × Fp)) : tab1 hI P 4 = (K1 hI).twice (tab1 hI P 2) := rfl
theorem ts1_5 {I : Fp → Fp} (hI : Inv1 I) (P : Option (Fp × Fp)) : tab1 hI P 5 = (K1 hI).tog (tab1 hI P 4) (tab1 hI P 1) := rfl
theorem ts1_6 {I : Fp → Fp} (hI : Inv1 I) (P : Option (Fp × Fp)) : tab1 hI P 6 = (K1 hI).twice (tab1 hI P 3) := rfl
theorem ts1_7 {I : Fp → Fp} (hI : Inv1 I) (P : Option (Fp × Fp)) : tab1 hI P 7 = (K1 hI).tog (tab1 hI P 6) (tab1 hI P 1) := rfl
theorem ts1_8 {I : Fp → Fp} (hI : Inv1 I) (P : Option (Fp × Fp)) : tab1 hI P 8 = (K1 hI).twice (tab1 hI P 4) := rfl
theorem ts1_9 {I : Fp → Fp} (hI : Inv1 I) (P : Option (Fp × Fp)) : tab1 hI P 9 = (K1 hI).tog (tab1 hI P 8) (tab1 hI P 1) := rfl
theorem ts1_10 {I : Fp → Fp} (hI : Inv1 I) (P : Option (Fp × Fp)) : tab1 hI P 10 = (K1 hI).twice (tab1 hI P 5) := rfl
theorem ts1_11 {I : Fp → Fp} (hI : Inv1 I) (P : Option (Fp × Fp)) : tab1 hI P 11 = (K1 hI).tog (tab1 hI P 10) (tab1 hI P 1) := rfl
theorem ts1_12 {I : Fp → Fp} (hI : Inv1 I) (P : Option (Fp × Fp)) : tab1 hI P 12 = (K1 hI).twice (tab1 hI P 6) := rfl
theorem ts1_13 {I : Fp → Fp} (hI : Inv1 I) (P : Option (Fp × Fp)) : tab1 hI P 13 = (K1 hI).tog (tab1 hI P 12) (tab1 hI P 1) := rfl
theorem ts1_14 {I : Fp → Fp} (hI : Inv1 I) (P : Option (Fp × Fp)) : tab1 hI P 14 = (K1 hI).twice (tab1 hI P 7) := rfl
theorem ts1_15 {I : Fp → Fp} (hI : Inv1 I) (P : Option (Fp × Fp)) : tab1 hI P 15 = (K1 hI).tog (tab1 hI P 14) (tab1 hI P 1) := rfl
theorem tableE_1 {I : Fp → Fp} (hI : Inv1 I) {g : Nat} {tn : Value} (P : Option (Fp × Fp)) (w : World) (hm : Mm w [(g, zR pB), (0, dtab)]) : Calls Tryz.prog 152 #[(GV1 g tn), enc1 P] w (Rt w (V (tb1 (fn1 hI P)))) :=
 tableOf_1 (u := (K1 hI).R.one) (b := (K1 hI).b) (tn := tn) (fd1 hI g) (fn1 hI P) (c1x P) (c1y P) (c1z P) (fun w hm => by rw [fl1_0 hI P]; exact zeroE_1 hI w hm) (fun w hm => by rw [fl1_1 hI P]; exact liftE_1 hI P w hm)
  (fun w hm => by rw [fl1_1 hI P, fl1_2 hI P, ts1_2]; exact twiceE_1 hI (tab1 hI P 1) w hm)
  (fun w hm => by rw [fl1_2 hI P, fl1_1 hI P, fl1_3 hI P, ts1_3]; exact togE_1 hI (tab1 hI P 2) (tab1 hI P 1) w hm)
  (fun w hm => by rw [fl1_2 hI P, fl1_4 hI P, ts1_4]; exact twiceE_1 hI (tab1 hI P 2) w hm)
  (fun w hm => by rw [fl1_4 hI P, fl1_1 hI P, fl1_5 hI P, ts1_5]; exact togE_1 hI (tab1 hI P 4) (tab1 hI P 1) w hm)
  (fun w hm => by rw [fl1_3 hI P, fl1_6 hI P, ts1_6]; exact twiceE_1 hI (tab1 hI P 3) w hm)
  (fun w hm => by rw [fl1_6 hI P, fl1_1 hI P, fl1_7 hI P, ts1_7]; exact togE_1 hI (tab1 hI P 6) (tab1 hI P 1) w hm)
  (fun w hm => by rw [fl1_4 hI P, fl1_8 hI P, ts1_8]; exact twiceE_1 hI (tab1 hI P 4) w hm)
  (fun w hm => by rw [fl1_8 hI P, fl1_1 hI P, fl1_9 hI P, ts1_9]; exact togE_1 hI (tab1 hI P 8) (tab1 hI P 1) w hm)
  (fun w hm => by rw [fl1_5 hI P, fl1_10 hI P, ts1_10]; exact twiceE_1 hI (tab1 hI P 5) w hm)
  (fun w hm => by rw [fl1_10 hI P, fl1_1 hI P, fl1_11 hI P, ts1_11]; exact togE_1 hI (tab1 hI P 10) (tab1 hI P 1) w hm)
  (fun w hm => by rw [fl1_6 hI P, fl1_12 hI P, ts1_12]; exact twiceE_1 hI (tab1 hI P 6) w hm)
  (fun w hm => by rw [fl1_12 hI P, fl1_1 hI P, fl1_13 hI P, ts1_13]; exact togE_1 hI (tab1 hI P 12) (tab1 hI P 1) w hm)
  (fun w hm => by rw [fl1_7 hI P, fl1_14 hI P, ts1_14]; exact twiceE_1 hI (tab1 hI P 7) w hm)
  (fun w hm => by rw [fl1_14 hI P, fl1_1 hI P, fl1_15 hI P, ts1_15]; exact togE_1 hI (tab1 hI P 14) (tab1 hI P 1) w hm) w hm
def rowA1 {I : Fp → Fp} (hI : Inv1 I) (P : Option (Fp × Fp)) (A : EC.Tri Fp) (v : Nat) : Nat → EC.Tri Fp
 | 0 => A
 | k + 1 => if dgt v k = 0 then (K1 hI).twice ((K1 hI).twice ((K1 hI).twice ((K1 hI).twice (rowA1 hI P A v k)))) else (K1 hI).tog ((K1 hI).twice ((K1 hI).twice ((K1 hI).twice ((K1 hI).twice (rowA1 hI P A v k))))) (tab1 hI P (dgt v k))
theorem rowrep1 {I : Fp → Fp} (hI : Inv1 I) {P : Option (Fp × Fp)} (h : (K1 hI).on P) {A : EC.Tri Fp} {m : Nat} (hA : (K1 hI).rep A ((K1 hI).times P m)) {v : Nat} (hv : v < 18446744073709551616) : ∀ k, (K1 hI).rep (rowA1 hI P A v k) ((K1 hI).times P (m * 16 ^ k + v * 16 ^ k / 18446744073709551616))
 | 0 => by
  rw [Nat.pow_zero, Nat.mul_one, Nat.mul_one, Nat.div_eq_of_lt hv, Nat.add_zero]
  exact hA
 | k + 1 => by
  have ih := (K1 hI).times_sixteen h _ (rowrep1 hI h hA hv k)
  have e : m * 16 ^ (k + 1) + v * 16 ^ (k + 1) / 18446744073709551616 = 16 * (m * 16 ^ k + v * 16 ^ k / 18446744073709551616) + dgt v k := by
   rw [hi_next, Nat.pow_succ]
   generalize v * 16 ^ k / 18446744073709551616 = Y
   rw [← Nat.mul_assoc]
   omega
  rw [e]
  show (K1 hI).rep (if dgt v k = 0 then _ else _) _
  split
  ·next hz =>
   rw [hz, Nat.add_zero]
   exact ih
  ·rw [← (K1 hI).times_step h]
   exact (K1 hI).rep_tog ih (tabrep1 hI h _ (dgt_lt v k)) ((K1 hI).times_on h _) ((K1 hI).times_on h _)
theorem rowE_1 {I : Fp → Fp} (hI : Inv1 I) {g : Nat} {tn : Value} (P : Option (Fp × Fp)) (A : EC.Tri Fp) {v : Nat} (hv : v < 18446744073709551616) (gt gr : Nat) (w : World) (hm : Mm w [(g, zR pB), (0, dtab), (gt, cel (tb1 (fn1 hI P))), (gr, [Value.int .u64 ((v : Nat) : Int)])]) :
  Calls Tryz.prog 153 #[(GV1 g tn), V (t1 A), .slice (some ⟨gt, 0, none⟩) 1 1, .slice (some ⟨gr, 0, none⟩) 1 1] w fun e w' => e = .returned (V (t1 (rowA1 hI P A v 16))) ∧ Mm w' [(gr, [Value.int .u64 0])] ∧ Kp gr w w' := by
 rw [← wof_0 hv] at hm
 have h := byRow_1 (u := (K1 hI).R.one) (b := (K1 hI).b) (tn := tn) (fd1 hI g) (fn1 hI P) (K1 hI).twice (fun T d => (K1 hI).tog T (tab1 hI P d)) (rowA1 hI P A v) (wof v) (dgt v) gt gr
  (fun T w hm => twiceE_1 hI T w hm)
  (fun T d _ w hm => by
   rw [fn1_0, fn1_1, fn1_2]
   exact togE_1 hI T (tab1 hI P d) w hm)
  (wof_d v) (dgt_lt v) (wof_w v) (fun k hk => (if_pos hk).symm) (fun k hk => (if_neg (by omega)).symm) w hm
 rw [wof_16] at h
 exact h
def sumS1 {I : Fp → Fp} (hI : Inv1 I) (P : Option (Fp × Fp)) (nn : Nat) : Nat → EC.Tri Fp
 | 0 => (K1 hI).lift none
 | r + 1 => rowA1 hI P (sumS1 hI P nn r) (wn nn (5 - r)) 16
theorem sumrep1 {I : Fp → Fp} (hI : Inv1 I) {P : Option (Fp × Fp)} (h : (K1 hI).on P) {nn : Nat} (hn : nn < big) : ∀ r, r ≤ 6 → (K1 hI).rep (sumS1 hI P nn r) ((K1 hI).times P (nn / 2 ^ (64 * (6 - r))))
 | 0, _ => by
  rw [hi_top hn]
  exact (K1 hI).rep_lift none
 | r + 1, hr => by
  have h1 := rowrep1 hI h (sumrep1 hI h hn r (by omega)) (wn_lt nn (5 - r)) 16
  rw [show (16 : Nat) ^ 16 = 18446744073709551616 by decide, Nat.mul_div_cancel _ (by decide), show 6 - r = 5 - r + 1 by omega, hi_word] at h1
  rw [show 6 - (r + 1) = 5 - r by omega]
  exact h1
theorem someE_1 {I : Fp → Fp} (hI : Inv1 I) {g : Nat} {tn : Value} (P : Option (Fp × Fp)) {nn gp gn : Nat} (w : World) (hm : Mm w [(g, zR pB), (0, dtab), (gp, cel [c1x P, c1y P] ++ [Value.bool (c1z P)]), (gn, zB nn)]) :
  Calls Tryz.prog 118 #[(GV1 g tn), .slice (some ⟨gp, 0, none⟩) 1 1, .slice (some ⟨gn, 0, none⟩) 1 1] w (Rt w (V (t1 (sumS1 hI P nn 6)))) :=
 some_1 (u := (K1 hI).R.one) (b := (K1 hI).b) (tn := tn) (fd1 hI g) (fn1 hI P) (sumS1 hI P nn) (c1x P) (c1y P) nn gp gn (c1z P) (fun w hm => zeroE_1 hI w hm) (fun w hm => tableE_1 hI P w hm)
  (fun gt gr w hm => rowE_1 hI P (sumS1 hI P nn 0) (wn_lt nn 5) gt gr w hm) (fun gt gr w hm => rowE_1 hI P (sumS1 hI P nn 1) (wn_lt nn 4) gt gr w hm) (fun gt gr w hm => rowE_1 hI P (sumS1 hI P nn 2) (wn_lt nn 3) gt gr w hm) (fun gt gr w hm => rowE_1 hI P (sumS1 hI P nn 3) (wn_lt nn 2) gt gr w hm) (fun gt gr w hm => rowE_1 hI P (sumS1 hI P nn 4) (wn_lt nn 1) gt gr w hm) (fun gt gr w hm => rowE_1 hI P (sumS1 hI P nn 5) (wn_lt nn 0) gt gr w hm) w hm
theorem total1 {I : Fp → Fp} (hI : Inv1 I) {P : Option (Fp × Fp)} (h : (K1 hI).on P) {nn : Nat} (hn : nn < big) : (K1 hI).lower ((K1 hI).tog ((K1 hI).lift none) (sumS1 hI P nn 6)) = (K1 hI).times P nn := by
 have h6 := sumrep1 hI h hn 6 (Nat.le_refl 6)
 rw [Nat.sub_self, Nat.mul_zero, Nat.pow_zero, Nat.div_one] at h6
 have e := (K1 hI).rep_lower ((K1 hI).rep_tog ((K1 hI).rep_lift none) h6 trivial ((K1 hI).times_on h nn))
 rw [e, (K1 hI).zero_add ((K1 hI).times_on h nn)]
theorem sumE_1 {I : Fp → Fp} (hI : Inv1 I) {g : Nat} {tn : Value} {P : Option (Fp × Fp)} (h : (K1 hI).on P) {nn gp gn : Nat} (hn : nn < big) (w : World) (hm : Mm w [(g, zR pB), (0, dtab), (gp, cel [c1x P, c1y P] ++ [Value.bool (c1z P)]), (gn, zB nn)]) :
  Calls Tryz.prog 76 #[(GV1 g tn), .slice (some ⟨gp, 0, none⟩) 1 1, .slice (some ⟨gn, 0, none⟩) 1 1] w (Rt w (.tuple #[enc1 ((K1 hI).times P nn), .int .i64 0])) :=
 sumY_1 (u := (K1 hI).R.one) (b := (K1 hI).b) (tn := tn) (fd1 hI g) ((K1 hI).lift none) (sumS1 hI P nn 6) ((K1 hI).tog ((K1 hI).lift none) (sumS1 hI P nn 6)) (c1x P) (c1y P) (c1x ((K1 hI).times P nn)) (c1y ((K1 hI).times P nn)) nn gp gn (c1z P) (c1z ((K1 hI).times P nn))
  (fun w hm => ckE_1 hI h w hm) (fun w hm => zeroE_1 hI w hm) (fun w hm => someE_1 hI P w hm) (fun w hm => togE_1 hI _ _ w hm) (fun w hm => by
   have e := lowerE_1 hI (tn := tn) ((K1 hI).tog ((K1 hI).lift none) (sumS1 hI P nn 6)) w hm
   rw [total1 hI h hn] at e
   exact e) w hm
theorem MulE_1 {I : Fp → Fp} (hI : Inv1 I) {P : Option (Fp × Fp)} (h : (K1 hI).on P) {nn : Nat} (hn : nn < big) (w : World) (hm : Mm w [(0, dtab)]) : Calls Tryz.prog 17 #[enc1 P, N nn] w (Rt w (.tuple #[enc1 ((K1 hI).times P nn), .int .i64 0])) :=
 Mul_1 (c1x P) (c1y P) (c1x ((K1 hI).times P nn)) (c1y ((K1 hI).times P nn)) nn (c1z P) (c1z ((K1 hI).times P nn)) 0 (fun gl gn w hm =>
  Sum_1 1 4 (c1x P) (c1y P) (c1x ((K1 hI).times P nn)) (c1y ((K1 hI).times P nn)) nn gl gn (c1z P) (c1z ((K1 hI).times P nn)) 0 firstE (fun g tn _ w hm => sumE_1 hI (g := g) (tn := tn) h hn w hm) w hm) w hm
end Rg
end Go.Proofs.YtaomlijondiaoaaGreatDoor
end
section
namespace Go.Proofs.YtaomlijondiaoaaGreatDoor
open Go.RowKit
namespace Rg
open NT
theorem refl_P1 (a b : Nat) (z : Bool) (ha : a < big) (hb : b < big) : ∀ w, (Op.equalIn 10000 26 (pv1 a b z) (pv1 a b z)).run Tryz.prog w = .ok true w := fun w => by
 have h := run_eqP1 a b a b z z ha hb ha hb w
 refine h.trans (congrArg (fun q => Result.ok q w) ?_)
 simp
theorem refl_P2 (a b c d : Nat) (z : Bool) (ha : a < big) (hb : b < big) (hc : c < big) (hd : d < big) : ∀ w, (Op.equalIn 10000 42 (pv2 a b c d z) (pv2 a b c d z)).run Tryz.prog w = .ok true w := fun w => by
 have h := run_eqP2 a b c d a b c d z z ha hb hc hd ha hb hc hd w
 refine h.trans (congrArg (fun q => Result.ok q w) ?_)
 simp
theorem gx_lt : gx < pB := by decide +kernel
theorem gy_lt : gy < pB := by decide +kernel
theorem hx0_lt : hx0 < pB := by decide +kernel
theorem hx1_lt : hx1 < pB := by decide +kernel
theorem hy0_lt : hy0 < pB := by decide +kernel
theorem hy1_lt : hy1 < pB := by decide +kernel
/-- The generators. -/
def Q1 : Option (Fp × Fp) := some (⟨gx, gx_lt⟩, ⟨gy, gy_lt⟩)
def Q2 : Option (Fq × Fq) := some ((⟨hx0, hx0_lt⟩, ⟨hx1, hx1_lt⟩), (⟨hy0, hy0_lt⟩, ⟨hy1, hy1_lt⟩))
theorem on_Q1 {I : Fp → Fp} (hI : Inv1 I) : (K1 hI).on Q1 := by
 refine Subtype.ext ?_
 show gy * gy % pB = (gx * (gx * gx % pB) % pB + 4) % pB
 decide +kernel
theorem on_Q2 {I : Fp → Fp} (hI : Inv1 I) : (K2 hI).on Q2 := by
 refine Prod.ext (Subtype.ext ?_) (Subtype.ext ?_)
 ·show (hy0 * hy0 % pB + (pB - hy1 * hy1 % pB) % pB) % pB = (((hx0 * ((hx0 * hx0 % pB + (pB - hx1 * hx1 % pB) % pB) % pB) % pB + (pB - hx1 * ((hx0 * hx1 % pB + hx1 * hx0 % pB) % pB) % pB) % pB) % pB) + 4) % pB
  decide +kernel
 ·show (hy0 * hy1 % pB + hy1 * hy0 % pB) % pB = (((hx0 * ((hx0 * hx1 % pB + hx1 * hx0 % pB) % pB) % pB + hx1 * ((hx0 * hx0 % pB + (pB - hx1 * hx1 % pB) % pB) % pB) % pB) % pB) + 4) % pB
  decide +kernel
theorem GenE_1 (w : World) : Calls Tryz.prog 13 #[] w (Rt w (enc1 Q1)) := gen1_gen gx gy numb_gx numb_gy w
theorem GenE_2 (w : World) : Calls Tryz.prog 26 #[] w (Rt w (enc2 Q2)) := gen2_gen hx0 hx1 hy0 hy1 numb_hx0 numb_hx1 numb_hy0 numb_hy1 w
theorem two_times {I : Fp → Fp} (hI : Inv1 I) : (K1 hI).times Q1 2 = (K1 hI).add Q1 Q1 := by
 show (K1 hI).add ((K1 hI).add none Q1) Q1 = _
 rw [(K1 hI).zero_add (on_Q1 hI)]
theorem two_Q1 {I : Fp → Fp} (hI : Inv1 I) : c1z ((K1 hI).add Q1 Q1) = false := by
 have h := (K1 hI).twice_ne (on_Q1 hI)
 have e : (K1 hI).add Q1 Q1 ≠ none := h
 generalize (K1 hI).add Q1 Q1 = D at e ⊢
 cases D with
 | none => exact absurd rfl e
 | some q => rfl
theorem awakeE (w : World) (hm : Mm w [(0, dtab)]) : Calls Tryz.prog 35 #[] w (Rt w (.bool true)) := by
 obtain ⟨I, hI⟩ := inv1_ex
 have hz := two_Q1 hI
 have ca := fun w hm => AddE_1 hI (on_Q1 hI) (on_Q1 hI) w hm
 have cm := fun w hm => MulE_1 hI (on_Q1 hI) (small_big 2 (by decide)) w hm
 rw [two_times hI] at cm
 have er := refl_P1 (c1x ((K1 hI).add Q1 Q1)) (c1y ((K1 hI).add Q1 Q1)) false (c1x_big _) (c1y_big _)
 unfold enc1 at ca cm
 rw [hz] at ca cm
 exact awake_gen (c1x Q1) (c1y Q1) (c1x ((K1 hI).add Q1 Q1)) (c1y ((K1 hI).add Q1 Q1)) (c2x0 Q2) (c2x1 Q2) (c2y0 Q2) (c2y1 Q2) 2 (c1z Q1) (c2z Q2)
  GenE_1 ca (fun w => of_any 2 (by decide) w) cm (fun w hm => CkE_1 hI (on_Q1 hI) w hm) GenE_2 (fun w hm => CkE_2 hI (on_Q2 hI) w hm) er w hm
end Rg
end Go.Proofs.YtaomlijondiaoaaGreatDoor
end
