/- Texts of the proof, joined. -/
import Derived.Test.YtmanelnacifgcaaGreatDoorP4
import Derived.WalkKit
set_option maxRecDepth 100000
section
namespace Go.Proofs.YtmanelnacifgcaaGreatDoor
open Go.RowKit
namespace Rg
/-- The rounds of down. -/
def drun (n wr a : Nat) : Nat → Nat
 | 0 => a
 | k + 1 => (drun n wr a k + mt (drun n wr a k) wr * n) / 18446744073709551616
theorem drun_bd (n wr a : Nat) : ∀ k, drun n wr a k ≤ a / 2 ^ (64 * k) + n
 | 0 => by rw [Nat.mul_zero, Nat.pow_zero, Nat.div_one]; exact Nat.le_add_right _ _
 | k + 1 => by
  have ih := drun_bd n wr a k
  have ht := mt_lt (drun n wr a k) wr
  show (drun n wr a k + mt (drun n wr a k) wr * n) / 18446744073709551616 ≤ _
  rw [pow_step, ← Nat.div_div_eq_div_mul]
  have h1 : mt (drun n wr a k) wr * n ≤ 18446744073709551615 * n := Nat.mul_le_mul (by omega) (Nat.le_refl n)
  generalize mt (drun n wr a k) wr * n = p at h1
  omega
theorem drun_lt (n wr a : Nat) (ha : a < big) (hn : n < big) : ∀ k, drun n wr a k < big
 | 0 => ha
 | k + 1 => by
  have ih := drun_lt n wr a ha hn k
  have ht := mt_lt (drun n wr a k) wr
  show (drun n wr a k + mt (drun n wr a k) wr * n) / 18446744073709551616 < _
  rw [Nat.div_lt_iff_lt_mul (by decide)]
  have h1 : mt (drun n wr a k) wr * n ≤ 18446744073709551615 * n := Nat.mul_le_mul (by omega) (Nat.le_refl n)
  omega
theorem drun_cg (n wr a : Nat) (h : wr * n % 18446744073709551616 = 18446744073709551615) : ∀ k, Cg n (drun n wr a k * 2 ^ (64 * k)) a
 | 0 => by rw [Nat.mul_zero, Nat.pow_zero, Nat.mul_one]; exact Cg.refl _ _
 | k + 1 => by
  have ih := drun_cg n wr a h k
  have he := mt_even n wr (drun n wr a k) h
  have e : drun n wr a (k + 1) * 18446744073709551616 = drun n wr a k + mt (drun n wr a k) wr * n := by
   show (drun n wr a k + mt (drun n wr a k) wr * n) / 18446744073709551616 * 18446744073709551616 = _
   omega
  rw [pow_step, ← Nat.mul_assoc, Nat.mul_right_comm, e, Nat.add_mul]
  refine Cg.trans (b := drun n wr a k * 2 ^ (64 * k) + 0) (Cg.addL _ ?_) (by rw [Nat.add_zero]; exact ih)
  rw [Nat.mul_right_comm]
  exact Cg.zero n _
theorem drun_top (n S t : Nat) (hS : S < big) (hn : n < big) : cc S t n 6 = wn ((S + t * n) / 18446744073709551616) 5 ∨ ¬ (S + t * n) / 18446744073709551616 < big := by
 by_cases hr : (S + t * n) / 18446744073709551616 < big
 ·left
  obtain ⟨j, hj⟩ : ∃ j, j = 5 := ⟨5, rfl⟩
  have hb := big_j j hj
  have e6 : cc S t n 6 = cc S t n (j + 1) := by rw [hj]
  rw [← hj, e6]
  have h := wd_last ((S + t * n) / 18446744073709551616) j (by rw [← hb]; exact hr)
  rw [wd_wn] at h
  have h' : wn ((S + t * n) / 18446744073709551616) j = (S + t * n) / 18446744073709551616 / 2 ^ (64 * j) := by omega
  rw [h', Nat.div_div_eq_div_mul, Nat.mul_comm 18446744073709551616, ← pow_step]
  unfold cc
  rw [← hb, Nat.mod_eq_of_lt hS, Nat.mod_eq_of_lt hn]
 ·exact Or.inr hr
theorem d_word (Y k : Nat) : wd (Y / 18446744073709551616) k = wd Y (k + 1) := by
 unfold wd
 rw [Nat.div_div_eq_div_mul, Nat.mul_comm 18446744073709551616, ← pow_step]
set_option maxHeartbeats 2000000 in
theorem down_any (g n o s a : Nat) (ok : Ok n) (ha : a < big) (w : World) (hm : Mm w [(g, zN n o s)]) :
  Calls Tryz.prog 159 #[PT g 0, N a] w (Rt w (N (drun n (wrapN n) a 6))) := by
 have H0 : Hid (_ ∧ _) := ⟨hm, Below.refl w.heap.size w⟩
 clear hm
 have HA : Hid _ := ha
 clear ha
 go_enter Tryz.func159, Tryz.ntmps159
 refine wp_seq ?_
 refine zC 2 [.made (zB a) 24, .made zero6 24] (sB H0) ?ho1 ?he1
 case ho1 => exact am (zU rfl rfl) (am (zG rfl) trivial)
 intro J w1 l hM hl
 have H1 : Hid (Mm w1 ([(J 0, zB a), (J 1, zero6)] ++ _) ∧ _) := wB H0 hM hl [0, 1]
 have o1_0 := vB H0 hM hl 0
 have o1_1 := vB H0 hM hl 1
 clear hM hl l
 generalize J 0 = J1_0 at H1 o1_0 ⊢
 generalize J 1 = J1_1 at H1 o1_1 ⊢
 clear J
 refine rN (wp_seq (wp_seq ?_))
 refine zD 1 [.q (.int .i64 0)] H1 ?ho2 ?he2
 case ho2 => exact ar trivial
 intro _ w2 H2
 clear H1
 refine rN (wp_block ?_)
 refine loop_ghost (α := Nat) (fun i a' w' => ∃ s0 : Nat → Value, a' = ⟨#[PT g 0, N a, undef, PT J1_0 0, PT J1_1 0, s0 5, s0 6, s0 7, s0 8, .int .i64 ((i : Nat) : Int), s0 10, s0 11, s0 12, s0 13, s0 14, s0 15, s0 16, s0 17, s0 18, s0 19, s0 20, s0 21, s0 22, s0 23, s0 24, s0 25, s0 26, s0 27, s0 28, s0 29, s0 30, s0 31, s0 32, s0 33, s0 34, s0 35, s0 36, s0 37, s0 38, s0 39, s0 40, s0 41, s0 42, s0 43, s0 44, s0 45, s0 46, s0 47, s0 48, s0 49, s0 50, s0 51, s0 52, s0 53, s0 54, undef], []⟩ ∧ (Mm w' [(J1_0, zB (drun n (wrapN n) a i)), (J1_1, zero6), (g, zN n o s)] ∧ Below w.heap.size w w') ∧ i ≤ 6) (fun i => 6 - i) 0 ?st0 ?rd0
 case st0 => exact ⟨(slotfn [ud, ud, ud, ud, ud, ud, ud, ud, ud, ud, ud, ud, ud, ud, ud, ud, ud, ud, ud, ud, ud, ud, ud, ud, ud, ud, ud, ud, ud, ud, ud, ud, ud, ud, ud, ud, ud, ud, ud, ud, ud, ud, ud, ud, ud, ud, ud, ud, ud, ud, ud, ud, ud, ud, ud]), rfl, ⟨H2.out.1.at0 rfl, H2.out.2⟩, by omega⟩
 intro i a' w3 hI
 obtain ⟨s0, rfl, hMB, hk0⟩ := hI
 have H3 : Hid (_ ∧ _) := hMB
 clear hMB H2
 by_cases hlt : i < 6
 ·have hrd : True := trivial
  clear hrd
  have hS2 := drun_lt n (wrapN n) a HA.out ok.big i
  have hZ2 := drun_lt n (wrapN n) a HA.out ok.big (i + 1)
  obtain ⟨S, hS⟩ : ∃ S, S = drun n (wrapN n) a i := ⟨_, rfl⟩
  obtain ⟨t, ht⟩ : ∃ t, t = mt S (wrapN n) := ⟨_, rfl⟩
  obtain ⟨Y, hY⟩ : ∃ Y, Y = S + t * n := ⟨_, rfl⟩
  obtain ⟨Z, hZ⟩ : ∃ Z, Z = drun n (wrapN n) a (i + 1) := ⟨_, rfl⟩
  have hZ1 : Z = Y / 18446744073709551616 := by rw [hZ, hY, ht, hS]; rfl
  have htl : t < 18446744073709551616 := by rw [ht]; exact mt_lt _ _
  rw [← hS] at hS2
  rw [← hZ] at hZ2
  have e3 : IntKind.u64.wrap (wd S 0 * wrapZ (wd n 0)) = (t : Nat) := by
   rw [IntKind.wrap_u64, ← wrapN_cast, ht, wd_wn]
   unfold mt wn
   rw [Nat.mul_zero, Nat.pow_zero, Nat.div_one, ← Int.natCast_mul]; rfl
  have e5 : ((cc S t n 6 : Nat) : Int) = wd Z 5 := by
   rcases drun_top n S t hS2 ok.big with h | h
   ·rw [← hY, ← hZ1] at h
    rw [wd_wn, ← h]
   ·rw [← hY, ← hZ1] at h
    exact absurd hZ2 h
  have e6 : ∀ k, k < 5 → wd Z k = wd Y (k + 1) := fun k _ => by rw [hZ1, d_word]
  have cB : ∀ m, ∀ w, Calls Tryz.prog 65 #[.int .u64 ((t : Nat) : Int), .int .u64 (wd n m), .int .u64 (wd S m), .int .u64 ((cc S t n m : Nat) : Int)] w (Rt w (.tuple #[.int .u64 (wd Y m), .int .u64 ((cc S t n (m + 1) : Nat) : Int)])) := fun m w => by
   have h := mulAddM_any ((t : Nat) : Int) (wd n m) (wd S m) ((cc S t n m : Nat) : Int) (Int.natCast_nonneg _) (by omega) (wd_bd _ _).1 (wd_bd _ _).2 (wd_bd _ _).1 (wd_bd _ _).2 (Int.natCast_nonneg _) (by have := cc_lt S t n m htl; omega) w
   rw [cc_lo, cc_hi, ← hY] at h
   exact h.mono fun e w2 ⟨h1, h2⟩ => ⟨h1, h2 ▸ Below.refl _ _⟩
  have cB0 := cB 0
  rw [cc_zero, Int.natCast_zero] at cB0
  have CB : Hid _ := cB
  have CB0 : Hid _ := cB0
  have E6 : Hid _ := e6
  have E5 : Hid _ := e5
  have HZ : Hid _ := hZ
  rw [← hS] at H3
  clear cB cB0 e6 e5 hZ hZ1 hZ2 hS hS2 ht hY htl
  refine wp_seq ?_
  refine zD 1 [.q (.bool true)] H3 ?ho3 ?he3
  case ho3 => exact ak (by refine fun J => ⟨rfl, fun w' h => ?_⟩; clear h; go_simp <;> omega) trivial
  intro _ w4 H4
  clear H3
  refine rN (wp_seq ?_)
  refine wp_cond_true rfl (wp_skip ?_)
  refine zA (wp_seq ?_)
  refine wp_block (wp_seq ?_)
  refine zS 8 [.q (PT J1_0 0), .q (.int .u64 (wd S 0)), .q (PT g 0), .q (PT g 0), .q (PT g 6), .q (.int .u64 (wrapZ (wd n 0))), .q (.int .u64 ((t : Nat) : Int)), .q (.int .u64 ((t : Nat) : Int))] H4 ?ho4 ?he4
  case ho4 => exact ag (aq (fun w' h => ex_load1 h 0 rfl rfl rfl rfl) (ar (ag (ag (aq (fun w' h => ex_load1 h 2 rfl rfl rfl rfl) (ag (ar trivial)))))))
  intro _ w5 H5
  clear H4
  refine rN (wp_seq ?_)
  refine zS 14 [.q (.int .u64 ((t : Nat) : Int)), .q (PT g 0), .q (PT g 0), .q (PT g 0), .q (PT g 0), .q (.int .u64 (wd n 0)), .q (PT J1_0 0), .q (.int .u64 (wd S 0)), .call (.tuple #[.int .u64 (wd Y 0), .int .u64 ((cc S t n (0 + 1) : Nat) : Int)]), .q (.tuple #[.int .u64 (wd Y 0), .int .u64 ((cc S t n (0 + 1) : Nat) : Int)]), .q (.int .u64 (wd Y 0)), .q (.int .u64 ((cc S t n (0 + 1) : Nat) : Int)), .q (.int .u64 (wd Y 0)), .q (.int .u64 ((cc S t n (0 + 1) : Nat) : Int))] H5 ?ho5 ?he5
  case ho5 => exact ar (ar (ag (ag (ag (aq (fun w' h => ex_load1 h 2 rfl rfl rfl rfl) (ag (aq (fun w' h => ex_load1 h 0 rfl rfl rfl rfl) (ac (fun w' h => eC call65 (CB0.out w')) (ar (ag (ag (ar (ar trivial)))))))))))))
  intro _ w6 H6
  clear H5
  refine rN (wp_seq (wp_seq ?_))
  refine zD 1 [.q (.int .i64 1)] H6 ?ho6 ?he6
  case ho6 => exact ar trivial
  intro _ w7 H7
  clear H6
  refine rN (wp_block ?_)
  refine loop_ghost (α := Nat) (fun m a' w' => ∃ s2 : Nat → Value, a' = ⟨#[PT g 0, N a, undef, PT J1_0 0, PT J1_1 0, .int .u64 ((t : Nat) : Int), .int .u64 (wd Y 0), .int .u64 ((cc S t n (m + 1) : Nat) : Int), .int .i64 ((m + 1 : Nat) : Int), .int .i64 ((i : Nat) : Int), .bool true, PT J1_0 0, .int .u64 (wd S 0), PT g 0, PT g 0, PT g 6, .int .u64 (wrapZ (wd n 0)), .int .u64 ((t : Nat) : Int), .tuple #[.int .u64 (wd Y 0), .int .u64 ((cc S t n (0 + 1) : Nat) : Int)], .int .u64 ((t : Nat) : Int), PT g 0, PT g 0, PT g 0, PT g 0, .int .u64 (wd n 0), PT J1_0 0, .int .u64 (wd S 0), .tuple #[.int .u64 (wd Y 0), .int .u64 ((cc S t n (0 + 1) : Nat) : Int)], .int .u64 (wd Y 0), .int .u64 ((cc S t n (0 + 1) : Nat) : Int), s2 30, s2 31, s2 32, s2 33, s2 34, s2 35, s2 36, s2 37, s2 38, s2 39, s2 40, s2 41, s2 42, s2 43, s2 44, s2 45, s2 46, s2 47, s2 48, s2 49, s2 50, s2 51, s0 52, s0 53, s0 54, undef], []⟩ ∧ (Mm w' [(J1_0, rowc (inn S Y (m + 1))), (J1_1, zero6), (g, zN n o s)] ∧ Below w.heap.size w w') ∧ m ≤ 5) (fun m => 5 - m) 0 ?st2 ?rd2
  case st2 => exact ⟨(slotfn [ud, ud, ud, ud, ud, ud, ud, ud, ud, ud, ud, ud, ud, ud, ud, ud, ud, ud, ud, ud, ud, ud, ud, ud, ud, ud, ud, ud, ud, ud, s0 30, s0 31, s0 32, s0 33, s0 34, s0 35, s0 36, s0 37, s0 38, s0 39, s0 40, s0 41, s0 42, s0 43, s0 44, s0 45, s0 46, s0 47, s0 48, s0 49, s0 50, s0 51]), rfl, ⟨H7.out.1, H7.out.2⟩, by omega⟩
  intro m a' w8 hI
  obtain ⟨s2, rfl, hMB, hk2⟩ := hI
  have H8 : Hid (_ ∧ _) := hMB
  clear hMB H7
  by_cases hlt2 : m < 5
  ·have hrd : True := trivial
   clear hrd
   have hm6 : m + 1 < 6 := by omega
   refine wp_seq (wp_seq ?_)
   refine zD 2 [.q (.int .i64 ((m + 1 : Nat) : Int)), .q (.bool true)] H8 ?ho7 ?he7
   case ho7 => exact ar (ak (by refine fun J => ⟨rfl, fun w' h => ?_⟩; clear h; go_simp <;> omega) trivial)
   intro _ w9 H9
   clear H8
   refine rN (wp_cond_true rfl ?_)
   refine wp_skip (zA ?_)
   refine wp_seq (wp_block ?_)
   refine walk_put (by kernel_rfl) 18 [16] [.q (.int .i64 ((m + 1 : Nat) : Int)), .q (.int .i64 ((m : Nat) : Int)), .q (.int .u64 ((t : Nat) : Int)), .q (PT g 0), .q (.int .i64 ((m + 1 : Nat) : Int)), .q (PT g 0), .q (PT g 0), .q (PT g (0 + (m + 1))), .q (.int .u64 (wd n (m + 1))), .q (.int .i64 ((m + 1 : Nat) : Int)), .q (PT J1_0 (0 + (m + 1))), .q (.int .u64 (wd S (m + 1))), .q (.int .u64 ((cc S t n (m + 1) : Nat) : Int)), .call (.tuple #[.int .u64 (wd Y (m + 1)), .int .u64 ((cc S t n (m + 1 + 1) : Nat) : Int)]), .q (.tuple #[.int .u64 (wd Y (m + 1)), .int .u64 ((cc S t n (m + 1 + 1) : Nat) : Int)]), .q (.int .u64 (wd Y (m + 1))), .q (.int .u64 ((cc S t n (m + 1 + 1) : Nat) : Int)), .q (PT J1_0 (0 + m))] _ ?pre8 ?F8 _ ?hpre8 (fun J => ?hF8) (by kernel_rfl) rfl trivial (sB H9) ?ho8 ?hla8 ?he8
   case hpre8 => simp only [tk, tz]; rfl
   case hF8 => simp only [zZ, Kind.val, Act.put, sa, sz, ss]; rfl
   case ho8 =>
    refine ar ?_
    refine ak (by refine fun J => ⟨rfl, fun w' h => ?_⟩; clear h; go_simp; rw [IntKind.wrap_i64]; omega) ?_
    refine ar ?_
    refine ar ?_
    refine ar ?_
    refine ag ?_
    refine ag ?_
    refine ak (fun J => ⟨rfl, fun w' _ => zX rfl rfl rfl hm6⟩) ?_
    refine aq (fun w' h => ex_load1 h 2 rfl rfl rfl (modn_at hm6)) ?_
    refine ar ?_
    refine ak (fun J => ⟨rfl, fun w' _ => zX rfl rfl rfl hm6⟩) ?_
    refine aq (fun w' h => ex_load1 h 0 rfl rfl rfl (inn_at hm6)) ?_
    refine ar ?_
    refine ak (fun J => ⟨rfl, fun w' h => eC call65 (CB.out (m + 1) w')⟩) ?_
    refine ar ?_
    refine ag ?_
    refine ag ?_
    refine ak (fun J => ⟨rfl, fun w' _ => zX rfl rfl rfl (Nat.lt_of_succ_lt hm6)⟩) ?_
    exact trivial
   case hla8 => exact ⟨⟨_, _, rfl, rfl, fun J => ⟨rfl, fun w' => by first | rfl | go_simp⟩⟩, trivial⟩
   intro J w10 l hM hl
   have H10 := keepB H9 hM.below
   clear hM hl l H9 J
   refine ⟨_, ex_storeI H10.out.1 0 rfl rfl As22 rfl rfl (row_bd (Nat.lt_of_succ_lt hm6)), ?_⟩
   have H11 : Hid (Mm (w10.setCells J1_0 (0 + m) [.int .u64 (wd Y (m + 1))]) [(J1_0, rowc (inn S Y (m + 1 + 1))), (J1_1, zero6), (g, zN n o s)] ∧ Below w.heap.size w (w10.setCells J1_0 (0 + m) [.int .u64 (wd Y (m + 1))])) := ⟨by
    have h := H10.out.1.put 0 (off := (0 + m)) (vs := [.int .u64 (wd Y (m + 1))]) rfl (row_bd (Nat.lt_of_succ_lt hm6))
    rw [patch_row (Nat.lt_of_succ_lt hm6), inn_step rfl] at h
    exact h, zV _ o1_0.out _ _ _ H10.out.2⟩
   clear H10
   generalize hgw : World.setCells _ _ _ _ = w11 at H11 ⊢
   clear hgw
   refine zH (l := [19]) rfl ?_
   refine zF (d := 7) rfl rfl rfl rfl ?_
   simp only [Act.put, sa, sz, ss]
   refine zE (zY (zA ?_))
   refine zD 2 [.q (.int .i64 ((m + 1 : Nat) : Int)), .q (.int .i64 ((m + 1 + 1 : Nat) : Int))] H11 ?ho9 ?he9
   case ho9 => exact ar (ak (by refine fun J => ⟨rfl, fun w' h => ?_⟩; clear h; go_simp; rw [IntKind.wrap_i64]; omega) trivial)
   intro _ w12 H12
   clear H11
   refine zH (l := [2]) rfl ?_
   refine zF (d := 8) rfl rfl rfl rfl ?_
   simp only [Act.put, sa, sz, ss]
   refine zE (zA ?_)
   exact ⟨m + 1, ⟨(slotfn [ud, ud, ud, ud, ud, ud, ud, ud, ud, ud, ud, ud, ud, ud, ud, ud, ud, ud, ud, ud, ud, ud, ud, ud, ud, ud, ud, ud, ud, ud, .int .i64 ((m + 1 : Nat) : Int), .bool true, .int .i64 ((m + 1 : Nat) : Int), .int .i64 ((m + 1 + 1 : Nat) : Int), .tuple #[.int .u64 (wd Y (m + 1)), .int .u64 ((cc S t n (m + 1 + 1) : Nat) : Int)], .int .i64 ((m + 1 : Nat) : Int), .int .i64 ((m : Nat) : Int), .int .u64 ((t : Nat) : Int), PT g 0, .int .i64 ((m + 1 : Nat) : Int), PT g 0, PT g 0, PT g (0 + (m + 1)), .int .u64 (wd n (m + 1)), .int .i64 ((m + 1 : Nat) : Int), PT J1_0 (0 + (m + 1)), .int .u64 (wd S (m + 1)), .int .u64 ((cc S t n (m + 1) : Nat) : Int), .tuple #[.int .u64 (wd Y (m + 1)), .int .u64 ((cc S t n (m + 1 + 1) : Nat) : Int)], .int .u64 (wd Y (m + 1)), .int .u64 ((cc S t n (m + 1 + 1) : Nat) : Int), PT J1_0 (0 + m)]), rfl, ⟨H12.out.1, H12.out.2⟩, by omega⟩, by omega⟩
  have hm5 : m = 5 := by omega
  subst hm5
  refine wp_seq (wp_seq ?_)
  refine zD 2 [.q (.int .i64 ((5 + 1 : Nat) : Int)), .q (.bool false)] H8 ?ho10 ?he10
  case ho10 => exact ar (ak (by refine fun J => ⟨rfl, fun w' h => ?_⟩; clear h; go_simp <;> omega) trivial)
  intro _ w13 H13
  clear H8
  refine rN (wp_cond_false rfl ?_)
  refine wp_exit ?_
  repeat refine then_exit ?_
  refine block_exit ?_
  refine zA ?_
  refine zD 2 [.q (.int .u64 ((cc S t n (5 + 1) : Nat) : Int)), .q (PT J1_0 5)] H13 ?ho11 ?he11
  case ho11 => exact ar (ag trivial)
  intro _ w14 H14
  clear H13
  refine zH (l := [2]) rfl ?_
  refine rest_store rfl rfl rfl (ex_storeI H14.out.1 0 rfl rfl As22 rfl rfl (Nat.le_of_ble_eq_true rfl)) ?_
  have H15 : Hid (Mm (w14.setCells J1_0 5 [.int .u64 ((cc S t n (5 + 1) : Nat) : Int)]) [(J1_0, zB Z), (J1_1, zero6), (g, zN n o s)] ∧ Below w.heap.size w (w14.setCells J1_0 5 [.int .u64 ((cc S t n (5 + 1) : Nat) : Int)])) := ⟨by
   have h := H14.out.1.put 0 (off := 5) (vs := [.int .u64 ((cc S t n (5 + 1) : Nat) : Int)]) rfl (Nat.le_of_ble_eq_true rfl)
   rw [patch_row5, inn_end E5.out E6.out] at h
   exact h, zV _ o1_0.out _ _ _ H14.out.2⟩
  clear H14
  generalize hgw : World.setCells _ _ _ _ = w15 at H15 ⊢
  clear hgw
  refine zE (zY (zA ?_))
  refine zD 1 [.q (.int .i64 ((i + 1 : Nat) : Int))] H15 ?ho12 ?he12
  case ho12 => exact ak (by refine fun J => ⟨rfl, fun w' h => ?_⟩; clear h; go_simp; rw [IntKind.wrap_i64]; omega) trivial
  intro _ w16 H16
  clear H15
  refine zH (l := [1]) rfl ?_
  refine zF (d := 9) rfl rfl rfl rfl ?_
  simp only [Act.put, sa, sz, ss]
  refine zE (zA ?_)
  exact ⟨i + 1, ⟨(slotfn [ud, ud, ud, ud, ud, .int .u64 ((t : Nat) : Int), .int .u64 (wd Y 0), .int .u64 ((cc S t n (5 + 1) : Nat) : Int), .int .i64 ((5 + 1 : Nat) : Int), ud, .bool true, PT J1_0 0, .int .u64 (wd S 0), PT g 0, PT g 0, PT g 6, .int .u64 (wrapZ (wd n 0)), .int .u64 ((t : Nat) : Int), .tuple #[.int .u64 (wd Y 0), .int .u64 ((cc S t n (0 + 1) : Nat) : Int)], .int .u64 ((t : Nat) : Int), PT g 0, PT g 0, PT g 0, PT g 0, .int .u64 (wd n 0), PT J1_0 0, .int .u64 (wd S 0), .tuple #[.int .u64 (wd Y 0), .int .u64 ((cc S t n (0 + 1) : Nat) : Int)], .int .u64 (wd Y 0), .int .u64 ((cc S t n (0 + 1) : Nat) : Int), .int .i64 ((5 + 1 : Nat) : Int), .bool false, s2 32, s2 33, s2 34, s2 35, s2 36, s2 37, s2 38, s2 39, s2 40, s2 41, s2 42, s2 43, s2 44, s2 45, s2 46, s2 47, s2 48, s2 49, s2 50, s2 51, .int .u64 ((cc S t n (5 + 1) : Nat) : Int), PT J1_0 5, .int .i64 ((i + 1 : Nat) : Int)]), rfl, by rw [← HZ.out]; exact H16.out, by omega⟩, by omega⟩
 have hi6 : i = 6 := by omega
 subst hi6
 refine wp_seq ?_
 refine zD 1 [.q (.bool false)] H3 ?ho13 ?he13
 case ho13 => exact ak (by refine fun J => ⟨rfl, fun w' h => ?_⟩; clear h; go_simp <;> omega) trivial
 intro _ w17 H17
 clear H3
 refine rN (wp_seq (wp_cond_false rfl ?_))
 refine wp_exit ?_
 repeat refine then_exit ?_
 refine block_exit ?_
 refine zA (wp_seq ?_)
 refine zD 1 [.q (N (drun n (wrapN n) a 6))] H17 ?ho14 ?he14
 case ho14 => exact bN 0 trivial
 intro _ w18 H18
 clear H17
 refine zH (l := [1]) rfl ?_
 refine sG rfl (fun h => zL h 1 rfl rfl rfl rfl (Nat.le_of_ble_eq_true rfl)) 1 [_, (_, zB (drun n (wrapN n) a 6)), _] H18 o1_1 fun w19 H19 => ?_
 clear H18
 refine zE (zA (wp_ret ?_))
 repeat (first | refine zJ ?_ | refine zI ?_)
 have c0 := H19.out.1.get 1 rfl 0 rfl
 have c1 := H19.out.1.get 1 rfl 1 rfl
 have c2 := H19.out.1.get 1 rfl 2 rfl
 have c3 := H19.out.1.get 1 rfl 3 rfl
 have c4 := H19.out.1.get 1 rfl 4 rfl
 have c5 := H19.out.1.get 1 rfl 5 rfl
 refine bodyPost_ret (v := N (drun n (wrapN n) a 6)) (by simp [results, Tryz.results159, go_sem, *]) rfl ?_
 exact ⟨rfl, H19.out.2⟩
set_option maxHeartbeats 1000000 in
theorem wide_1 (g n o s a b d u r : Nat)
  (c0 : ∀ w, Mm w [(g, zN n o s)] → Calls Tryz.prog 37 #[PT g 0] w (Rt w (.bool true)))
  (c1 : ∀ w, Mm w [(g, zN n o s)] → Calls Tryz.prog 159 #[PT g 0, N a] w (Rt w (N d)))
  (c2 : ∀ w, Calls Tryz.prog 21 #[N b, N d] w (Rt w (.tuple #[N u, .bool false])))
  (c3 : ∀ w, Mm w [(g, zN n o s)] → Calls Tryz.prog 40 #[PT g 0, N u, N s] w (Rt w (N r))) (w : World) (hm : Mm w [(g, zN n o s)]) :
  Calls Tryz.prog 157 #[PT g 0, N a, N b] w (Rt w (N r)) := by
 have H0 : Hid (_ ∧ _) := ⟨hm, Below.refl w.heap.size w⟩
 clear hm
 have C0 : Hid _ := c0
 have C1 : Hid _ := c1
 have C2 : Hid _ := c2
 have C3 : Hid _ := c3
 clear c0 c1 c2 c3
 go_enter Tryz.func157, Tryz.ntmps157
 refine wp_seq ?_
 refine zC 3 [.made (zB a) 24, .made (zB b) 24, .made zero6 24] (sB H0) ?ho1 ?he1
 case ho1 => exact am (zU rfl rfl) (am (zU rfl rfl) (am (zG rfl) trivial))
 intro J w1 l hM hl
 have H1 : Hid (Mm w1 ([(J 0, zB a), (J 1, zB b), (J 2, zero6)] ++ _) ∧ _) := wB H0 hM hl [0, 1, 2]
 have o1_0 := vB H0 hM hl 0
 have o1_1 := vB H0 hM hl 1
 have o1_2 := vB H0 hM hl 2
 clear hM hl l
 generalize J 0 = J1_0 at H1 o1_0 ⊢
 generalize J 1 = J1_1 at H1 o1_1 ⊢
 generalize J 2 = J1_2 at H1 o1_2 ⊢
 clear J
 refine rN (wp_seq (wp_seq ?_))
 refine zD 3 [.q (PT g 0), .call (.bool true), .q (.bool false)] H1 ?ho2 ?he2
 case ho2 => exact ar (ac (fun w' h => eC call37 (C0.out w' (h.one 3 rfl))) (ag trivial))
 intro _ w2 H2
 clear H1
 refine rN (wp_cond_false rfl ?_)
 refine wp_skip (zA (wp_seq ?_))
 refine zP 11 [.q (N b), .q (PT g 0), .q (N a), .call (N d), .call (.tuple #[N u, .bool false]), .q (.tuple #[N u, .bool false]), .q (N u), .q (.bool false), .made zero6 24, .laid 8 zero6 (zB u), .q (.bool false)] (sB H2) ?ho3 ?he3 (hL := ?hL3)
 case hL3 => exact ⟨⟨_, rfl⟩, trivial⟩
 case ho3 => exact bN 1 (ar (bN 0 (ac (fun w' h => eC call159 (C1.out w' (h.one 3 rfl))) (ac (fun w' h => eC call21 (C2.out w')) (ar (ag (ag (am (zG rfl) (ak (fun J => ⟨rfl, rfl, rfl, fun w' h => zK h rfl rfl rfl⟩) (ar trivial))))))))))
 intro J w3 l hM hl
 have H3 : Hid (Mm w3 ([(J 8, zB u)] ++ _) ∧ _) := wB H2 hM hl [8]
 have o3_8 := vB H2 hM hl 8
 clear hM hl l H2
 generalize J 8 = J3_8 at H3 o3_8 ⊢
 clear J
 refine rN (wp_seq (wp_seq ?_))
 refine zD 1 [.q (.bool false)] H3 ?ho4 ?he4
 case ho4 => exact ar trivial
 intro _ w4 H4
 clear H3
 refine rN (wp_cond_false rfl ?_)
 refine wp_skip (zA (wp_seq ?_))
 refine zS 7 [.q (PT g 0), .q (N u), .q (PT g 0), .q (PT g 0), .q (PT g 13), .q (N s), .call (N r)] H4 ?ho5 ?he5
 case ho5 => exact ar (bN 0 (ar (ag (ag (bN 4 (ac (fun w' h => eC call40 (C3.out w' (h.one 4 rfl))) trivial))))))
 intro _ w5 H5
 clear H4
 refine zH (l := [7]) rfl ?_
 refine sG rfl (fun h => zL h 3 rfl rfl rfl rfl (Nat.le_of_ble_eq_true rfl)) 3 [_, _, _, (_, zB r), _] H5 o1_2 fun w6 H6 => ?_
 clear H5
 refine zE (zA (wp_ret ?_))
 repeat (first | refine zJ ?_ | refine zI ?_)
 have c0 := H6.out.1.get 3 rfl 0 rfl
 have c1 := H6.out.1.get 3 rfl 1 rfl
 have c2 := H6.out.1.get 3 rfl 2 rfl
 have c3 := H6.out.1.get 3 rfl 3 rfl
 have c4 := H6.out.1.get 3 rfl 4 rfl
 have c5 := H6.out.1.get 3 rfl 5 rfl
 refine bodyPost_ret (v := N r) (by simp [results, Tryz.results157, go_sem, *]) rfl ?_
 exact ⟨rfl, H6.out.2⟩
set_option maxHeartbeats 1000000 in
theorem wide_2 (g n o s a b d u r x : Nat) (cx : Bool)
  (c0 : ∀ w, Mm w [(g, zN n o s)] → Calls Tryz.prog 37 #[PT g 0] w (Rt w (.bool true)))
  (c1 : ∀ w, Mm w [(g, zN n o s)] → Calls Tryz.prog 159 #[PT g 0, N a] w (Rt w (N d)))
  (c2 : ∀ w, Calls Tryz.prog 21 #[N b, N d] w (Rt w (.tuple #[N u, .bool true])))
  (c3 : ∀ w, Calls Tryz.prog 39 #[N u, N n] w (Rt w (.tuple #[N x, .bool cx])))
  (c4 : ∀ w, Mm w [(g, zN n o s)] → Calls Tryz.prog 40 #[PT g 0, N x, N s] w (Rt w (N r))) (w : World) (hm : Mm w [(g, zN n o s)]) :
  Calls Tryz.prog 157 #[PT g 0, N a, N b] w (Rt w (N r)) := by
 have H0 : Hid (_ ∧ _) := ⟨hm, Below.refl w.heap.size w⟩
 clear hm
 have C0 : Hid _ := c0
 have C1 : Hid _ := c1
 have C2 : Hid _ := c2
 have C3 : Hid _ := c3
 have C4 : Hid _ := c4
 clear c0 c1 c2 c3 c4
 go_enter Tryz.func157, Tryz.ntmps157
 refine wp_seq ?_
 refine zC 3 [.made (zB a) 24, .made (zB b) 24, .made zero6 24] (sB H0) ?ho1 ?he1
 case ho1 => exact am (zU rfl rfl) (am (zU rfl rfl) (am (zG rfl) trivial))
 intro J w1 l hM hl
 have H1 : Hid (Mm w1 ([(J 0, zB a), (J 1, zB b), (J 2, zero6)] ++ _) ∧ _) := wB H0 hM hl [0, 1, 2]
 have o1_0 := vB H0 hM hl 0
 have o1_1 := vB H0 hM hl 1
 have o1_2 := vB H0 hM hl 2
 clear hM hl l
 generalize J 0 = J1_0 at H1 o1_0 ⊢
 generalize J 1 = J1_1 at H1 o1_1 ⊢
 generalize J 2 = J1_2 at H1 o1_2 ⊢
 clear J
 refine rN (wp_seq (wp_seq ?_))
 refine zD 3 [.q (PT g 0), .call (.bool true), .q (.bool false)] H1 ?ho2 ?he2
 case ho2 => exact ar (ac (fun w' h => eC call37 (C0.out w' (h.one 3 rfl))) (ag trivial))
 intro _ w2 H2
 clear H1
 refine rN (wp_cond_false rfl ?_)
 refine wp_skip (zA (wp_seq ?_))
 refine zP 11 [.q (N b), .q (PT g 0), .q (N a), .call (N d), .call (.tuple #[N u, .bool true]), .q (.tuple #[N u, .bool true]), .q (N u), .q (.bool true), .made zero6 24, .laid 8 zero6 (zB u), .q (.bool true)] (sB H2) ?ho3 ?he3 (hL := ?hL3)
 case hL3 => exact ⟨⟨_, rfl⟩, trivial⟩
 case ho3 => exact bN 1 (ar (bN 0 (ac (fun w' h => eC call159 (C1.out w' (h.one 3 rfl))) (ac (fun w' h => eC call21 (C2.out w')) (ar (ag (ag (am (zG rfl) (ak (fun J => ⟨rfl, rfl, rfl, fun w' h => zK h rfl rfl rfl⟩) (ar trivial))))))))))
 intro J w3 l hM hl
 have H3 : Hid (Mm w3 ([(J 8, zB u)] ++ _) ∧ _) := wB H2 hM hl [8]
 have o3_8 := vB H2 hM hl 8
 clear hM hl l H2
 generalize J 8 = J3_8 at H3 o3_8 ⊢
 clear J
 refine rN (wp_seq (wp_seq ?_))
 refine zD 1 [.q (.bool true)] H3 ?ho4 ?he4
 case ho4 => exact ar trivial
 intro _ w4 H4
 clear H3
 refine rN (wp_cond_true rfl ?_)
 refine walk_put (by kernel_rfl) 9 [8] [.q (N u), .q (PT g 0), .q (PT g 0), .q (PT g 0), .q (N n), .call (.tuple #[N x, .bool cx]), .q (.tuple #[N x, .bool cx]), .q (N x), .q (.bool cx)] _ ?pre5 ?F5 _ ?hpre5 (fun J => ?hF5) (by kernel_rfl) rfl trivial (sB H4) ?ho5 ?hla5 ?he5
 case hpre5 => simp only [tk, tz]; rfl
 case hF5 => simp only [zZ, Kind.val, Act.put, sa, sz, ss]; rfl
 case ho5 =>
  refine bN 0 ?_
  refine ar ?_
  refine ag ?_
  refine ag ?_
  refine bN 4 ?_
  refine ak (fun J => ⟨rfl, fun w' h => eC call39 (C3.out w')⟩) ?_
  refine ar ?_
  refine ag ?_
  refine ag ?_
  exact trivial
 case hla5 => exact ⟨⟨_, _, rfl, rfl, fun J => ⟨rfl, fun w' => by first | rfl | go_simp⟩⟩, trivial⟩
 intro J w5 l hM hl
 have H5 := keepB H4 hM.below
 clear hM hl l H4 J
 refine ⟨_, zL H5.out.1 0 rfl rfl rfl rfl (Nat.le_of_ble_eq_true rfl), ?_⟩
 have H6 : Hid (Mm (w5.setCells J3_8 0 (zB x)) [(J3_8, zB x), (J1_0, zB a), (J1_1, zB b), (J1_2, zero6), (g, zN n o s)] ∧ Below w.heap.size w (w5.setCells J3_8 0 (zB x))) := ⟨H5.out.1.put 0 (off := 0) (vs := zB x) rfl (Nat.le_of_ble_eq_true rfl), zV _ o3_8.out _ _ _ H5.out.2⟩
 clear H5
 generalize hgw : World.setCells _ _ _ _ = w6 at H6 ⊢
 clear hgw
 refine rN (wp_seq ?_)
 refine zS 7 [.q (PT g 0), .q (N x), .q (PT g 0), .q (PT g 0), .q (PT g 13), .q (N s), .call (N r)] H6 ?ho6 ?he6
 case ho6 => exact ar (bN 0 (ar (ag (ag (bN 4 (ac (fun w' h => eC call40 (C4.out w' (h.one 4 rfl))) trivial))))))
 intro _ w7 H7
 clear H6
 refine zH (l := [7]) rfl ?_
 refine sG rfl (fun h => zL h 3 rfl rfl rfl rfl (Nat.le_of_ble_eq_true rfl)) 3 [_, _, _, (_, zB r), _] H7 o1_2 fun w8 H8 => ?_
 clear H7
 refine zE (zA (wp_ret ?_))
 repeat (first | refine zJ ?_ | refine zI ?_)
 have c0 := H8.out.1.get 3 rfl 0 rfl
 have c1 := H8.out.1.get 3 rfl 1 rfl
 have c2 := H8.out.1.get 3 rfl 2 rfl
 have c3 := H8.out.1.get 3 rfl 3 rfl
 have c4 := H8.out.1.get 3 rfl 4 rfl
 have c5 := H8.out.1.get 3 rfl 5 rfl
 refine bodyPost_ret (v := N r) (by simp [results, Tryz.results157, go_sem, *]) rfl ?_
 exact ⟨rfl, H8.out.2⟩
theorem wideM {n : Nat} (ok : Ok n) {a b x : Nat} (hx : Cg n x (b + drun n (wrapN n) a 6)) : mont n x (big * big % n) = (a + b * big) % n := by
 rw [mont_big ok]
 have h1 := drun_cg n (wrapN n) a (wrapN_spec n ok.odd) 6
 rw [← big_eq] at h1
 have h2 := hx.mulR big
 refine h2.trans ?_
 rw [Nat.add_mul, Nat.add_comm]
 exact h1.addR _
theorem wide_any {g n : Nat} (ok : Ok n) {a b : Nat} (ha : a < big) (hb : b < big) (w : World) (hm : Mm w [(g, zT n)]) : Calls Tryz.prog 157 #[PT g 0, N a, N b] w (Rt w (N ((a + b * big) % n))) := by
 have hd := drun_bd n (wrapN n) a 6
 rw [← big_eq, Nat.div_eq_of_lt ha, Nat.zero_add] at hd
 have cd := fun w hm => down_any g n (big % n) (big * big % n) a ok ha w hm
 have hM := fun x hx => wideM (x := x) (a := a) (b := b) ok hx
 have hdl : drun n (wrapN n) a 6 < big := by have := ok.big; omega
 generalize drun n (wrapN n) a 6 = d at hd cd hM hdl
 have c := fun w => add_any b d hb hdl w
 have hsq : big * big % n < n := Nat.mod_lt _ ok.pos
 have h3 := ok.top
 by_cases h : big ≤ b + d
 ·rw [decide_eq_true h, Nat.mod_eq_sub_mod h, Nat.mod_eq_of_lt (show b + d - big < big by omega)] at c
  have cs := fun w => sub_any (b + d - big) n (by omega) ok.big w
  have e : (b + d - big + big - n) % big = b + d - n := by
   rw [show b + d - big + big - n = b + d - n by omega, Nat.mod_eq_of_lt (by omega)]
  rw [e] at cs
  have cp := fun w hm => product_any g n (big % n) (big * big % n) (b + d - n) (big * big % n) ok (by omega) hsq w hm
  rw [hM (b + d - n) (by
   have : b + d = b + d - n + 1 * n := by omega
   rw [this]
   unfold Cg
   rw [Nat.add_mul_mod_self_right, show b + d - n + 1 * n - n = b + d - n by omega])] at cp
  exact wide_2 g n _ _ a b d _ _ _ _ (fun w hm => madeC ok w hm) cd c cs cp w hm
 ·rw [decide_eq_false h, Nat.mod_eq_of_lt (show b + d < big by omega)] at c
  have cp := fun w hm => product_any g n (big % n) (big * big % n) (b + d) (big * big % n) ok (by omega) hsq w hm
  rw [hM (b + d) (Cg.refl _ _)] at cp
  exact wide_1 g n _ _ a b d _ _ (fun w hm => madeC ok w hm) cd c cp w hm
set_option maxHeartbeats 1000000 in
theorem root_1 (g n o s a : Nat) (hr : (wd n 0).tmod 4 = 1)
  (c0 : ∀ w, Mm w [(g, zN n o s)] → Calls Tryz.prog 37 #[PT g 0] w (Rt w (.bool true))) (w : World) (hm : Mm w [(g, zN n o s)]) :
  Calls Tryz.prog 125 #[PT g 0, N a] w (Rt w (.tuple #[N 0, .int .i64 2])) := by
 have H0 : Hid (_ ∧ _) := ⟨hm, Below.refl w.heap.size w⟩
 clear hm
 have C0 : Hid _ := c0
 clear c0
 go_enter Tryz.func125, Tryz.ntmps125
 refine wp_seq ?_
 refine zC 3 [.made (zB a) 24, .made zero6 24, .q (.int .i64 0)] (sB H0) ?ho1 ?he1
 case ho1 => exact am (zU rfl rfl) (am (zG rfl) (ar trivial))
 intro J w1 l hM hl
 have H1 : Hid (Mm w1 ([(J 0, zB a), (J 1, zero6)] ++ _) ∧ _) := wB H0 hM hl [0, 1]
 have o1_0 := vB H0 hM hl 0
 have o1_1 := vB H0 hM hl 1
 clear hM hl l
 generalize J 0 = J1_0 at H1 o1_0 ⊢
 generalize J 1 = J1_1 at H1 o1_1 ⊢
 clear J
 refine rN (wp_seq (wp_seq ?_))
 refine zD 3 [.q (PT g 0), .call (.bool true), .q (.bool false)] H1 ?ho2 ?he2
 case ho2 => exact ar (ac (fun w' h => eC call37 (C0.out w' (h.one 2 rfl))) (ag trivial))
 intro _ w2 H2
 clear H1
 refine rN (wp_cond_false rfl ?_)
 refine wp_skip (zA ?_)
 refine wp_seq (wp_seq ?_)
 refine zD 7 [.q (PT g 0), .q (PT g 0), .q (PT g 0), .q (PT g 0), .q (.int .u64 (wd n 0)), .q (.int .u64 1), .q (.bool true)] H2 ?ho3 ?he3
 case ho3 => exact ar (ag (ag (ag (aq (fun w' h => ex_load1 h 2 rfl rfl rfl rfl) (ag (ag trivial))))))
 intro _ w3 H3
 clear H2
 refine rN (wp_cond_true rfl (wp_seq ?_))
 refine zD 1 [.q (N 0)] H3 ?ho4 ?he4
 case ho4 => exact ak (by refine fun J => ⟨rfl, fun w' h => ?_⟩; clear h; exact ex_zero6 rfl) trivial
 intro _ w4 H4
 clear H3
 refine zH (l := [1, 2]) rfl ?_
 refine sG rfl (fun h => zL h 1 rfl rfl rfl rfl (Nat.le_of_ble_eq_true rfl)) 1 [_, (_, zB 0), _] H4 o1_1 fun w5 H5 => ?_
 clear H4
 refine zF (d := 5) rfl rfl rfl rfl ?_
 simp only [Act.put, sa, sz, ss]
 refine zE (zA (wp_ret ?_))
 repeat (first | refine zJ ?_ | refine zI ?_)
 have c0 := H5.out.1.get 1 rfl 0 rfl
 have c1 := H5.out.1.get 1 rfl 1 rfl
 have c2 := H5.out.1.get 1 rfl 2 rfl
 have c3 := H5.out.1.get 1 rfl 3 rfl
 have c4 := H5.out.1.get 1 rfl 4 rfl
 have c5 := H5.out.1.get 1 rfl 5 rfl
 refine bodyPost_ret (v := .tuple #[N 0, .int .i64 2]) (by simp [results, Tryz.results125, go_sem, *]) rfl ?_
 exact ⟨rfl, H5.out.2⟩
set_option maxHeartbeats 1000000 in
theorem root_2 (g n o s a x ee c q r : Nat) (hr : (wd n 0).tmod 4 = 3) (cx : Bool) (e1 : ∀ w, (Op.equalIn 10000 24 (N q) (N r)).run Tryz.prog w = .ok false w)
  (c0 : ∀ w, Mm w [(g, zN n o s)] → Calls Tryz.prog 37 #[PT g 0] w (Rt w (.bool true)))
  (c1 : ∀ w, Calls Tryz.prog 17 #[.int .u64 1] w (Rt w (N 1)))
  (c2 : ∀ w, Calls Tryz.prog 21 #[N n, N 1] w (Rt w (.tuple #[N x, .bool cx])))
  (c3 : ∀ w, Calls Tryz.prog 61 #[N x, .int .i64 (-2)] w (Rt w (N ee)))
  (c4 : ∀ w, Mm w [(g, zN n o s)] → Calls Tryz.prog 142 #[PT g 0, N a, N ee] w (Rt w (N c)))
  (c5 : ∀ w, Mm w [(g, zN n o s)] → Calls Tryz.prog 70 #[PT g 0, N c, N c] w (Rt w (N q)))
  (c6 : ∀ w, Mm w [(g, zN n o s)] → Calls Tryz.prog 14 #[PT g 0, N a] w (Rt w (N r))) (w : World) (hm : Mm w [(g, zN n o s)]) :
  Calls Tryz.prog 125 #[PT g 0, N a] w (Rt w (.tuple #[N 0, .int .i64 6])) := by
 have H0 : Hid (_ ∧ _) := ⟨hm, Below.refl w.heap.size w⟩
 clear hm
 have C0 : Hid _ := c0
 have C1 : Hid _ := c1
 have C2 : Hid _ := c2
 have C3 : Hid _ := c3
 have C4 : Hid _ := c4
 have C5 : Hid _ := c5
 have C6 : Hid _ := c6
 clear c0 c1 c2 c3 c4 c5 c6
 go_enter Tryz.func125, Tryz.ntmps125
 refine wp_seq ?_
 refine zC 3 [.made (zB a) 24, .made zero6 24, .q (.int .i64 0)] (sB H0) ?ho1 ?he1
 case ho1 => exact am (zU rfl rfl) (am (zG rfl) (ar trivial))
 intro J w1 l hM hl
 have H1 : Hid (Mm w1 ([(J 0, zB a), (J 1, zero6)] ++ _) ∧ _) := wB H0 hM hl [0, 1]
 have o1_0 := vB H0 hM hl 0
 have o1_1 := vB H0 hM hl 1
 clear hM hl l
 generalize J 0 = J1_0 at H1 o1_0 ⊢
 generalize J 1 = J1_1 at H1 o1_1 ⊢
 clear J
 refine rN (wp_seq (wp_seq ?_))
 refine zD 3 [.q (PT g 0), .call (.bool true), .q (.bool false)] H1 ?ho2 ?he2
 case ho2 => exact ar (ac (fun w' h => eC call37 (C0.out w' (h.one 2 rfl))) (ag trivial))
 intro _ w2 H2
 clear H1
 refine rN (wp_cond_false rfl ?_)
 refine wp_skip (zA ?_)
 refine wp_seq (wp_seq ?_)
 refine zD 7 [.q (PT g 0), .q (PT g 0), .q (PT g 0), .q (PT g 0), .q (.int .u64 (wd n 0)), .q (.int .u64 3), .q (.bool false)] H2 ?ho3 ?he3
 case ho3 => exact ar (ag (ag (ag (aq (fun w' h => ex_load1 h 2 rfl rfl rfl rfl) (ag (ag trivial))))))
 intro _ w3 H3
 clear H2
 refine rN (wp_cond_false rfl ?_)
 refine wp_skip (zA (wp_seq ?_))
 refine zP 12 [.q (PT g 0), .q (PT g 0), .q (PT g 0), .q (N n), .call (N 1), .call (.tuple #[N x, .bool cx]), .q (.tuple #[N x, .bool cx]), .q (N x), .q (.bool cx), .made zero6 24, .laid 9 zero6 (zB x), .q (.bool cx)] (sB H3) ?ho4 ?he4 (hL := ?hL4)
 case hL4 => exact ⟨⟨_, rfl⟩, trivial⟩
 case ho4 => exact ar (ag (ag (bN 2 (ac (fun w' h => eC call17 (C1.out w')) (ac (fun w' h => eC call21 (C2.out w')) (ar (ag (ag (am (zG rfl) (ak (fun J => ⟨rfl, rfl, rfl, fun w' h => zK h rfl rfl rfl⟩) (ar trivial)))))))))))
 intro J w4 l hM hl
 have H4 : Hid (Mm w4 ([(J 9, zB x)] ++ _) ∧ _) := wB H3 hM hl [9]
 have o4_9 := vB H3 hM hl 9
 clear hM hl l H3
 generalize J 9 = J4_9 at H4 o4_9 ⊢
 clear J
 refine rN (wp_seq ?_)
 refine zP 7 [.q (PT g 0), .q (N a), .q (N x), .call (N ee), .call (N c), .made zero6 24, .laid 5 zero6 (zB c)] (sB H4) ?ho5 ?he5 (hL := ?hL5)
 case hL5 => exact ⟨⟨_, rfl⟩, trivial⟩
 case ho5 => exact ar (bN 1 (bN 0 (ac (fun w' h => eC call61 (C3.out w')) (ac (fun w' h => eC call142 (C4.out w' (h.one 3 rfl))) (am (zG rfl) (ak (fun J => ⟨rfl, rfl, rfl, fun w' h => zK h rfl rfl rfl⟩) trivial))))))
 intro J w5 l hM hl
 have H5 : Hid (Mm w5 ([(J 5, zB c)] ++ _) ∧ _) := wB H4 hM hl [5]
 have o5_5 := vB H4 hM hl 5
 clear hM hl l H4
 generalize J 5 = J5_5 at H5 o5_5 ⊢
 clear J
 refine rN (wp_seq (wp_seq ?_))
 refine zS 8 [.q (PT g 0), .q (N c), .q (N c), .call (N q), .q (PT g 0), .q (N a), .call (N r), .q (.bool true)] H5 ?ho6 ?he6
 case ho6 => exact ar (bN 0 (bN 0 (ac (fun w' h => eC call70 (C5.out w' (h.one 4 rfl))) (ar (bN 2 (ac (fun w' h => eC call14 (C6.out w' (h.one 4 rfl))) (ak (fun J => ⟨rfl, fun w' _ => exec_neq6 e1 rfl rfl rfl⟩) trivial)))))))
 intro _ w6 H6
 clear H5
 refine rN (wp_cond_true rfl (wp_seq ?_))
 refine zD 1 [.q (N 0)] H6 ?ho7 ?he7
 case ho7 => exact ak (by refine fun J => ⟨rfl, fun w' h => ?_⟩; clear h; exact ex_zero6 rfl) trivial
 intro _ w7 H7
 clear H6
 refine zH (l := [1, 2]) rfl ?_
 refine sG rfl (fun h => zL h 3 rfl rfl rfl rfl (Nat.le_of_ble_eq_true rfl)) 3 [_, _, _, (_, zB 0), _] H7 o1_1 fun w8 H8 => ?_
 clear H7
 refine zF (d := 5) rfl rfl rfl rfl ?_
 simp only [Act.put, sa, sz, ss]
 refine zE (zA (wp_ret ?_))
 repeat (first | refine zJ ?_ | refine zI ?_)
 have c0 := H8.out.1.get 3 rfl 0 rfl
 have c1 := H8.out.1.get 3 rfl 1 rfl
 have c2 := H8.out.1.get 3 rfl 2 rfl
 have c3 := H8.out.1.get 3 rfl 3 rfl
 have c4 := H8.out.1.get 3 rfl 4 rfl
 have c5 := H8.out.1.get 3 rfl 5 rfl
 refine bodyPost_ret (v := .tuple #[N 0, .int .i64 6]) (by simp [results, Tryz.results125, go_sem, *]) rfl ?_
 exact ⟨rfl, H8.out.2⟩
set_option maxHeartbeats 1000000 in
theorem root_3 (g n o s a x ee c q r d : Nat) (hr : (wd n 0).tmod 4 = 3) (cx : Bool) (e1 : ∀ w, (Op.equalIn 10000 24 (N q) (N r)).run Tryz.prog w = .ok true w) (z : Int) (hz : z < 0)
  (c0 : ∀ w, Mm w [(g, zN n o s)] → Calls Tryz.prog 37 #[PT g 0] w (Rt w (.bool true)))
  (c1 : ∀ w, Calls Tryz.prog 17 #[.int .u64 1] w (Rt w (N 1)))
  (c2 : ∀ w, Calls Tryz.prog 21 #[N n, N 1] w (Rt w (.tuple #[N x, .bool cx])))
  (c3 : ∀ w, Calls Tryz.prog 61 #[N x, .int .i64 (-2)] w (Rt w (N ee)))
  (c4 : ∀ w, Mm w [(g, zN n o s)] → Calls Tryz.prog 142 #[PT g 0, N a, N ee] w (Rt w (N c)))
  (c5 : ∀ w, Mm w [(g, zN n o s)] → Calls Tryz.prog 70 #[PT g 0, N c, N c] w (Rt w (N q)))
  (c6 : ∀ w, Mm w [(g, zN n o s)] → Calls Tryz.prog 14 #[PT g 0, N a] w (Rt w (N r)))
  (c7 : ∀ w, Mm w [(g, zN n o s)] → Calls Tryz.prog 95 #[PT g 0, N c] w (Rt w (N d)))
  (c8 : ∀ w, Calls Tryz.prog 38 #[N d, N c] w (Rt w (.int .i64 z))) (w : World) (hm : Mm w [(g, zN n o s)]) :
  Calls Tryz.prog 125 #[PT g 0, N a] w (Rt w (.tuple #[N d, .int .i64 0])) := by
 have H0 : Hid (_ ∧ _) := ⟨hm, Below.refl w.heap.size w⟩
 clear hm
 have C0 : Hid _ := c0
 have C1 : Hid _ := c1
 have C2 : Hid _ := c2
 have C3 : Hid _ := c3
 have C4 : Hid _ := c4
 have C5 : Hid _ := c5
 have C6 : Hid _ := c6
 have C7 : Hid _ := c7
 have C8 : Hid _ := c8
 clear c0 c1 c2 c3 c4 c5 c6 c7 c8
 go_enter Tryz.func125, Tryz.ntmps125
 refine wp_seq ?_
 refine zC 3 [.made (zB a) 24, .made zero6 24, .q (.int .i64 0)] (sB H0) ?ho1 ?he1
 case ho1 => exact am (zU rfl rfl) (am (zG rfl) (ar trivial))
 intro J w1 l hM hl
 have H1 : Hid (Mm w1 ([(J 0, zB a), (J 1, zero6)] ++ _) ∧ _) := wB H0 hM hl [0, 1]
 have o1_0 := vB H0 hM hl 0
 have o1_1 := vB H0 hM hl 1
 clear hM hl l
 generalize J 0 = J1_0 at H1 o1_0 ⊢
 generalize J 1 = J1_1 at H1 o1_1 ⊢
 clear J
 refine rN (wp_seq (wp_seq ?_))
 refine zD 3 [.q (PT g 0), .call (.bool true), .q (.bool false)] H1 ?ho2 ?he2
 case ho2 => exact ar (ac (fun w' h => eC call37 (C0.out w' (h.one 2 rfl))) (ag trivial))
 intro _ w2 H2
 clear H1
 refine rN (wp_cond_false rfl ?_)
 refine wp_skip (zA ?_)
 refine wp_seq (wp_seq ?_)
 refine zD 7 [.q (PT g 0), .q (PT g 0), .q (PT g 0), .q (PT g 0), .q (.int .u64 (wd n 0)), .q (.int .u64 3), .q (.bool false)] H2 ?ho3 ?he3
 case ho3 => exact ar (ag (ag (ag (aq (fun w' h => ex_load1 h 2 rfl rfl rfl rfl) (ag (ag trivial))))))
 intro _ w3 H3
 clear H2
 refine rN (wp_cond_false rfl ?_)
 refine wp_skip (zA (wp_seq ?_))
 refine zP 12 [.q (PT g 0), .q (PT g 0), .q (PT g 0), .q (N n), .call (N 1), .call (.tuple #[N x, .bool cx]), .q (.tuple #[N x, .bool cx]), .q (N x), .q (.bool cx), .made zero6 24, .laid 9 zero6 (zB x), .q (.bool cx)] (sB H3) ?ho4 ?he4 (hL := ?hL4)
 case hL4 => exact ⟨⟨_, rfl⟩, trivial⟩
 case ho4 => exact ar (ag (ag (bN 2 (ac (fun w' h => eC call17 (C1.out w')) (ac (fun w' h => eC call21 (C2.out w')) (ar (ag (ag (am (zG rfl) (ak (fun J => ⟨rfl, rfl, rfl, fun w' h => zK h rfl rfl rfl⟩) (ar trivial)))))))))))
 intro J w4 l hM hl
 have H4 : Hid (Mm w4 ([(J 9, zB x)] ++ _) ∧ _) := wB H3 hM hl [9]
 have o4_9 := vB H3 hM hl 9
 clear hM hl l H3
 generalize J 9 = J4_9 at H4 o4_9 ⊢
 clear J
 refine rN (wp_seq ?_)
 refine zP 7 [.q (PT g 0), .q (N a), .q (N x), .call (N ee), .call (N c), .made zero6 24, .laid 5 zero6 (zB c)] (sB H4) ?ho5 ?he5 (hL := ?hL5)
 case hL5 => exact ⟨⟨_, rfl⟩, trivial⟩
 case ho5 => exact ar (bN 1 (bN 0 (ac (fun w' h => eC call61 (C3.out w')) (ac (fun w' h => eC call142 (C4.out w' (h.one 3 rfl))) (am (zG rfl) (ak (fun J => ⟨rfl, rfl, rfl, fun w' h => zK h rfl rfl rfl⟩) trivial))))))
 intro J w5 l hM hl
 have H5 : Hid (Mm w5 ([(J 5, zB c)] ++ _) ∧ _) := wB H4 hM hl [5]
 have o5_5 := vB H4 hM hl 5
 clear hM hl l H4
 generalize J 5 = J5_5 at H5 o5_5 ⊢
 clear J
 refine rN (wp_seq (wp_seq ?_))
 refine zS 8 [.q (PT g 0), .q (N c), .q (N c), .call (N q), .q (PT g 0), .q (N a), .call (N r), .q (.bool false)] H5 ?ho6 ?he6
 case ho6 => exact ar (bN 0 (bN 0 (ac (fun w' h => eC call70 (C5.out w' (h.one 4 rfl))) (ar (bN 2 (ac (fun w' h => eC call14 (C6.out w' (h.one 4 rfl))) (ak (fun J => ⟨rfl, fun w' _ => exec_neq6 e1 rfl rfl rfl⟩) trivial)))))))
 intro _ w6 H6
 clear H5
 refine rN (wp_cond_false rfl ?_)
 refine wp_skip (zA (wp_seq ?_))
 refine zC 5 [.q (PT g 0), .q (N c), .call (N d), .made zero6 24, .laid 3 zero6 (zB d)] (sB H6) ?ho7 ?he7 (hL := ?hL7)
 case hL7 => exact ⟨⟨_, rfl⟩, trivial⟩
 case ho7 => exact ar (bN 0 (ac (fun w' h => eC call95 (C7.out w' (h.one 4 rfl))) (am (zG rfl) (ak (fun J => ⟨rfl, rfl, rfl, fun w' h => zK h rfl rfl rfl⟩) trivial))))
 intro J w7 l hM hl
 have H7 : Hid (Mm w7 ([(J 3, zB d)] ++ _) ∧ _) := wB H6 hM hl [3]
 have o7_3 := vB H6 hM hl 3
 clear hM hl l H6
 generalize J 3 = J7_3 at H7 o7_3 ⊢
 clear J
 refine rN (wp_seq (wp_seq ?_))
 refine zD 4 [.q (N d), .q (N c), .call (.int .i64 z), .q (.bool true)] H7 ?ho8 ?he8
 case ho8 => exact bN 0 (bN 1 (ac (fun w' h => eC call38 (C8.out w')) (ak (by refine fun J => ⟨rfl, fun w' h => ?_⟩; clear h; go_simp <;> omega) trivial)))
 intro _ w8 H8
 clear H7
 refine rN (wp_cond_true rfl (wp_seq ?_))
 refine zD 1 [.q (N d)] H8 ?ho9 ?he9
 case ho9 => exact bN 0 trivial
 intro _ w9 H9
 clear H8
 refine zH (l := [1, 2]) rfl ?_
 refine sG rfl (fun h => zL h 4 rfl rfl rfl rfl (Nat.le_of_ble_eq_true rfl)) 4 [_, _, _, _, (_, zB d), _] H9 o1_1 fun w10 H10 => ?_
 clear H9
 refine zF (d := 5) rfl rfl rfl rfl ?_
 simp only [Act.put, sa, sz, ss]
 refine zE (zA (wp_ret ?_))
 repeat (first | refine zJ ?_ | refine zI ?_)
 have c0 := H10.out.1.get 4 rfl 0 rfl
 have c1 := H10.out.1.get 4 rfl 1 rfl
 have c2 := H10.out.1.get 4 rfl 2 rfl
 have c3 := H10.out.1.get 4 rfl 3 rfl
 have c4 := H10.out.1.get 4 rfl 4 rfl
 have c5 := H10.out.1.get 4 rfl 5 rfl
 refine bodyPost_ret (v := .tuple #[N d, .int .i64 0]) (by simp [results, Tryz.results125, go_sem, *]) rfl ?_
 exact ⟨rfl, H10.out.2⟩
set_option maxHeartbeats 1000000 in
theorem root_4 (g n o s a x ee c q r d : Nat) (hr : (wd n 0).tmod 4 = 3) (cx : Bool) (e1 : ∀ w, (Op.equalIn 10000 24 (N q) (N r)).run Tryz.prog w = .ok true w) (z : Int) (hz : ¬ z < 0)
  (c0 : ∀ w, Mm w [(g, zN n o s)] → Calls Tryz.prog 37 #[PT g 0] w (Rt w (.bool true)))
  (c1 : ∀ w, Calls Tryz.prog 17 #[.int .u64 1] w (Rt w (N 1)))
  (c2 : ∀ w, Calls Tryz.prog 21 #[N n, N 1] w (Rt w (.tuple #[N x, .bool cx])))
  (c3 : ∀ w, Calls Tryz.prog 61 #[N x, .int .i64 (-2)] w (Rt w (N ee)))
  (c4 : ∀ w, Mm w [(g, zN n o s)] → Calls Tryz.prog 142 #[PT g 0, N a, N ee] w (Rt w (N c)))
  (c5 : ∀ w, Mm w [(g, zN n o s)] → Calls Tryz.prog 70 #[PT g 0, N c, N c] w (Rt w (N q)))
  (c6 : ∀ w, Mm w [(g, zN n o s)] → Calls Tryz.prog 14 #[PT g 0, N a] w (Rt w (N r)))
  (c7 : ∀ w, Mm w [(g, zN n o s)] → Calls Tryz.prog 95 #[PT g 0, N c] w (Rt w (N d)))
  (c8 : ∀ w, Calls Tryz.prog 38 #[N d, N c] w (Rt w (.int .i64 z))) (w : World) (hm : Mm w [(g, zN n o s)]) :
  Calls Tryz.prog 125 #[PT g 0, N a] w (Rt w (.tuple #[N c, .int .i64 0])) := by
 have H0 : Hid (_ ∧ _) := ⟨hm, Below.refl w.heap.size w⟩
 clear hm
 have C0 : Hid _ := c0
 have C1 : Hid _ := c1
 have C2 : Hid _ := c2
 have C3 : Hid _ := c3
 have C4 : Hid _ := c4
 have C5 : Hid _ := c5
 have C6 : Hid _ := c6
 have C7 : Hid _ := c7
 have C8 : Hid _ := c8
 clear c0 c1 c2 c3 c4 c5 c6 c7 c8
 go_enter Tryz.func125, Tryz.ntmps125
 refine wp_seq ?_
 refine zC 3 [.made (zB a) 24, .made zero6 24, .q (.int .i64 0)] (sB H0) ?ho1 ?he1
 case ho1 => exact am (zU rfl rfl) (am (zG rfl) (ar trivial))
 intro J w1 l hM hl
 have H1 : Hid (Mm w1 ([(J 0, zB a), (J 1, zero6)] ++ _) ∧ _) := wB H0 hM hl [0, 1]
 have o1_0 := vB H0 hM hl 0
 have o1_1 := vB H0 hM hl 1
 clear hM hl l
 generalize J 0 = J1_0 at H1 o1_0 ⊢
 generalize J 1 = J1_1 at H1 o1_1 ⊢
 clear J
 refine rN (wp_seq (wp_seq ?_))
 refine zD 3 [.q (PT g 0), .call (.bool true), .q (.bool false)] H1 ?ho2 ?he2
 case ho2 => exact ar (ac (fun w' h => eC call37 (C0.out w' (h.one 2 rfl))) (ag trivial))
 intro _ w2 H2
 clear H1
 refine rN (wp_cond_false rfl ?_)
 refine wp_skip (zA ?_)
 refine wp_seq (wp_seq ?_)
 refine zD 7 [.q (PT g 0), .q (PT g 0), .q (PT g 0), .q (PT g 0), .q (.int .u64 (wd n 0)), .q (.int .u64 3), .q (.bool false)] H2 ?ho3 ?he3
 case ho3 => exact ar (ag (ag (ag (aq (fun w' h => ex_load1 h 2 rfl rfl rfl rfl) (ag (ag trivial))))))
 intro _ w3 H3
 clear H2
 refine rN (wp_cond_false rfl ?_)
 refine wp_skip (zA (wp_seq ?_))
 refine zP 12 [.q (PT g 0), .q (PT g 0), .q (PT g 0), .q (N n), .call (N 1), .call (.tuple #[N x, .bool cx]), .q (.tuple #[N x, .bool cx]), .q (N x), .q (.bool cx), .made zero6 24, .laid 9 zero6 (zB x), .q (.bool cx)] (sB H3) ?ho4 ?he4 (hL := ?hL4)
 case hL4 => exact ⟨⟨_, rfl⟩, trivial⟩
 case ho4 => exact ar (ag (ag (bN 2 (ac (fun w' h => eC call17 (C1.out w')) (ac (fun w' h => eC call21 (C2.out w')) (ar (ag (ag (am (zG rfl) (ak (fun J => ⟨rfl, rfl, rfl, fun w' h => zK h rfl rfl rfl⟩) (ar trivial)))))))))))
 intro J w4 l hM hl
 have H4 : Hid (Mm w4 ([(J 9, zB x)] ++ _) ∧ _) := wB H3 hM hl [9]
 have o4_9 := vB H3 hM hl 9
 clear hM hl l H3
 generalize J 9 = J4_9 at H4 o4_9 ⊢
 clear J
 refine rN (wp_seq ?_)
 refine zP 7 [.q (PT g 0), .q (N a), .q (N x), .call (N ee), .call (N c), .made zero6 24, .laid 5 zero6 (zB c)] (sB H4) ?ho5 ?he5 (hL := ?hL5)
 case hL5 => exact ⟨⟨_, rfl⟩, trivial⟩
 case ho5 => exact ar (bN 1 (bN 0 (ac (fun w' h => eC call61 (C3.out w')) (ac (fun w' h => eC call142 (C4.out w' (h.one 3 rfl))) (am (zG rfl) (ak (fun J => ⟨rfl, rfl, rfl, fun w' h => zK h rfl rfl rfl⟩) trivial))))))
 intro J w5 l hM hl
 have H5 : Hid (Mm w5 ([(J 5, zB c)] ++ _) ∧ _) := wB H4 hM hl [5]
 have o5_5 := vB H4 hM hl 5
 clear hM hl l H4
 generalize J 5 = J5_5 at H5 o5_5 ⊢
 clear J
 refine rN (wp_seq (wp_seq ?_))
 refine zS 8 [.q (PT g 0), .q (N c), .q (N c), .call (N q), .q (PT g 0), .q (N a), .call (N r), .q (.bool false)] H5 ?ho6 ?he6
 case ho6 => exact ar (bN 0 (bN 0 (ac (fun w' h => eC call70 (C5.out w' (h.one 4 rfl))) (ar (bN 2 (ac (fun w' h => eC call14 (C6.out w' (h.one 4 rfl))) (ak (fun J => ⟨rfl, fun w' _ => exec_neq6 e1 rfl rfl rfl⟩) trivial)))))))
 intro _ w6 H6
 clear H5
 refine rN (wp_cond_false rfl ?_)
 refine wp_skip (zA (wp_seq ?_))
 refine zC 5 [.q (PT g 0), .q (N c), .call (N d), .made zero6 24, .laid 3 zero6 (zB d)] (sB H6) ?ho7 ?he7 (hL := ?hL7)
 case hL7 => exact ⟨⟨_, rfl⟩, trivial⟩
 case ho7 => exact ar (bN 0 (ac (fun w' h => eC call95 (C7.out w' (h.one 4 rfl))) (am (zG rfl) (ak (fun J => ⟨rfl, rfl, rfl, fun w' h => zK h rfl rfl rfl⟩) trivial))))
 intro J w7 l hM hl
 have H7 : Hid (Mm w7 ([(J 3, zB d)] ++ _) ∧ _) := wB H6 hM hl [3]
 have o7_3 := vB H6 hM hl 3
 clear hM hl l H6
 generalize J 3 = J7_3 at H7 o7_3 ⊢
 clear J
 refine rN (wp_seq (wp_seq ?_))
 refine zD 4 [.q (N d), .q (N c), .call (.int .i64 z), .q (.bool false)] H7 ?ho8 ?he8
 case ho8 => exact bN 0 (bN 1 (ac (fun w' h => eC call38 (C8.out w')) (ak (by refine fun J => ⟨rfl, fun w' h => ?_⟩; clear h; go_simp <;> omega) trivial)))
 intro _ w8 H8
 clear H7
 refine rN (wp_cond_false rfl ?_)
 refine wp_skip (zA (wp_seq ?_))
 refine zD 1 [.q (N c)] H8 ?ho9 ?he9
 case ho9 => exact bN 1 trivial
 intro _ w9 H9
 clear H8
 refine zH (l := [1, 2]) rfl ?_
 refine sG rfl (fun h => zL h 4 rfl rfl rfl rfl (Nat.le_of_ble_eq_true rfl)) 4 [_, _, _, _, (_, zB c), _] H9 o1_1 fun w10 H10 => ?_
 clear H9
 refine zF (d := 5) rfl rfl rfl rfl ?_
 simp only [Act.put, sa, sz, ss]
 refine zE (zA (wp_ret ?_))
 repeat (first | refine zJ ?_ | refine zI ?_)
 have c0 := H10.out.1.get 4 rfl 0 rfl
 have c1 := H10.out.1.get 4 rfl 1 rfl
 have c2 := H10.out.1.get 4 rfl 2 rfl
 have c3 := H10.out.1.get 4 rfl 3 rfl
 have c4 := H10.out.1.get 4 rfl 4 rfl
 have c5 := H10.out.1.get 4 rfl 5 rfl
 refine bodyPost_ret (v := .tuple #[N c, .int .i64 0]) (by simp [results, Tryz.results125, go_sem, *]) rfl ?_
 exact ⟨rfl, H10.out.2⟩
/-- What Root tells: the number and the error. -/
def rtc (n a : Nat) : Nat := a ^ ((n + 1) / 4) % n
def rtv (n a : Nat) : Nat := if n % 4 = 1 then 0 else if rtc n a * rtc n a % n = a % n then (if subm n 0 (rtc n a) < rtc n a then subm n 0 (rtc n a) else rtc n a) else 0
def rte (n a : Nat) : Int := if n % 4 = 1 then 2 else if rtc n a * rtc n a % n = a % n then 0 else 6
theorem word_mod4 (n : Nat) : (wd n 0).tmod 4 = ((n % 4 : Nat) : Int) := by
 have h0 : wd n 0 = ((n % 18446744073709551616 : Nat) : Int) := by unfold wd; rw [Nat.mul_zero, Nat.pow_zero, Nat.div_one]
 rw [h0]
 rw [Int.tmod_eq_emod_of_nonneg (by omega)]; omega
theorem root_any {g n : Nat} (ok : Ok n) {a : Nat} (ha : a < big) (w : World) (hm : Mm w [(g, zT n)]) : Calls Tryz.prog 125 #[PT g 0, N a] w (Rt w (.tuple #[N (rtv n a), .int .i64 (rte n a)])) := by
 have hw := word_mod4 n
 have cm := fun w hm => madeC (g := g) ok w hm
 unfold rtv rte
 by_cases h : n % 4 = 1
 ·rw [if_pos h, if_pos h]
  rw [h] at hw
  exact root_1 g n _ _ a hw cm w hm
 ·rw [if_neg h, if_neg h]
  rw [show n % 4 = 3 by have := ok.odd; omega] at hw
  have ht := ok.top
  have ht3 := ok.three
  have ca := fun w => add_any n 1 ok.big (small_big 1 (by decide)) w
  rw [Nat.mod_eq_of_lt (show n + 1 < big by omega)] at ca
  have cs := fun w => shift_down (n + 1) (-2) (by omega) (by omega) (by omega) w
  have e4 : (n + 1) / 2 ^ (- (-2 : Int)).toNat = (n + 1) / 4 := rfl
  rw [e4] at cs
  have he : (n + 1) / 4 < big := by omega
  have cp := fun w hm => powm_any (g := g) ok ha he w hm
  have hc : rtc n a < n := Nat.mod_lt _ ok.pos
  have hcb : rtc n a < big := Nat.lt_trans hc ok.big
  have e5 : a ^ ((n + 1) / 4) % n = rtc n a := rfl
  rw [e5] at cp
  have cq := fun w hm => mulm_any (g := g) ok hcb hcb w hm
  have cr := fun w hm => reduce_any (g := g) ok ha w hm
  have cn := fun w hm => negm_any (g := g) ok hcb w hm
  have e1 := fun w => run_eqN (rtc n a * rtc n a % n) (a % n) (okLt ok _) (okLt ok _) w
  by_cases h2 : rtc n a * rtc n a % n = a % n
  ·rw [if_pos h2, if_pos h2]
   rw [decide_eq_true h2] at e1
   have cc := fun w => compare_any (subm n 0 (rtc n a)) (rtc n a) (Nat.lt_trans (subm_lt_n ok.pos _ _) ok.big) hcb w
   by_cases h3 : subm n 0 (rtc n a) < rtc n a
   ·rw [if_pos h3]
    rw [cmp_lt h3] at cc
    exact root_3 g n _ _ a _ _ _ _ _ _ hw _ e1 _ (by decide) cm (fun w => of_any 1 (by decide) w) ca cs cp cq cr cn cc w hm
   ·rw [if_neg h3]
    exact root_4 g n _ _ a _ _ _ _ _ _ hw _ e1 _ (cmp_ge h3) cm (fun w => of_any 1 (by decide) w) ca cs cp cq cr cn cc w hm
  ·rw [if_neg h2, if_neg h2]
   rw [decide_eq_false h2] at e1
   exact root_2 g n _ _ a _ _ _ _ _ hw _ e1 cm (fun w => of_any 1 (by decide) w) ca cs cp cq cr w hm
/-! Numbers side by side. -/
def cel : List Nat → List Value
  | [] => []
  | a :: l => zB a ++ cel l
abbrev V (l : List Nat) : Value := .agg (cel l).toArray
theorem cel_len : ∀ l : List Nat, (cel l).length = 6 * l.length
  | [] => rfl
  | a :: l => by
    show (zB a ++ cel l).length = _
    rw [List.length_append, cel_len l]
    show 6 + 6 * l.length = 6 * (l.length + 1)
    omega
theorem cel_app : ∀ l m : List Nat, cel (l ++ m) = cel l ++ cel m
  | [], _ => rfl
  | a :: l, m => by
    show zB a ++ cel (l ++ m) = zB a ++ cel l ++ cel m
    rw [cel_app l m, List.append_assoc]
theorem cel_drop : ∀ (i : Nat) (l : List Nat), (cel l).drop (6 * i) = cel (l.drop i)
  | 0, _ => by rw [Nat.mul_zero, List.drop_zero, List.drop_zero]
  | i + 1, [] => by simp [cel]
  | i + 1, a :: l => by
    show (zB a ++ cel l).drop (6 * (i + 1)) = cel (l.drop i)
    rw [← cel_drop i l, show 6 * (i + 1) = (zB a).length + 6 * i by show _ = 6 + 6 * i; omega, List.drop_length_add_append]
theorem cel_take : ∀ (i : Nat) (l : List Nat), (cel l).take (6 * i) = cel (l.take i)
  | 0, _ => by rw [Nat.mul_zero, List.take_zero, List.take_zero]; rfl
  | i + 1, [] => by simp [cel]
  | i + 1, a :: l => by
    show (zB a ++ cel l).take (6 * (i + 1)) = zB a ++ cel (l.take i)
    rw [← cel_take i l, show 6 * (i + 1) = (zB a).length + 6 * i by show _ = 6 + 6 * i; omega, List.take_length_add_append]
theorem cel_one (l : List Nat) : (cel l).all Value.oneCell' = true := by
  induction l with
  | nil => rfl
  | cons a l ih =>
    show (zB a ++ cel l).all Value.oneCell' = true
    rw [List.all_append, ih, Bool.and_true]
    rfl
theorem cel_patch (l m : List Nat) (i : Nat) : patch (cel l) (6 * i) (cel m) = cel (l.take i ++ m ++ l.drop (i + m.length)) := by
  unfold patch
  rw [cel_app, cel_app, cel_take, cel_len, ← Nat.mul_add, cel_drop]
theorem cel_zero (k : Nat) : cel (List.replicate k 0) = List.replicate (6 * k) (.int .u64 0) := by
  induction k with
  | zero => rfl
  | succ k ih =>
    rw [List.replicate_succ]
    show zB 0 ++ cel (List.replicate k 0) = _
    rw [ih, cells_zero, show 6 * (k + 1) = 6 + 6 * k by omega, ← List.replicate_append_replicate]
    rfl
theorem ex_loadA {ρ : Operand → Value} {o : Oper} {x : Operand} {g i k : Nat} {t : TypeId} {ns ms : List Nat} {w : World} {l : List (Nat × List Value)} (h : Mm w l) (q : Nat) (hk : l[q]? = some (g, cel ns)) (ho : o.op = .load t x) (hx : ρ x = PT g (6 * i)) (ha : ∀ w, (isAgg t).run Tryz.prog w = .ok true w) (hs : ∀ w, (sizeOf t).run Tryz.prog w = .ok (6 * k) w) (hc : (ns.drop i).take k = ms) (hl : ms.length = k) :
    (execOp ρ o).run Tryz.prog w = .ok (.value (V ms)) w := by
  have hm := List.mem_of_getElem? hk
  have hcell := run_loadCells_list (P := Tryz.prog) (w := w) ⟨g, 6 * i, none⟩ (cel ms) (fun j v hv => by
    have e : (cel ns)[6 * i + j]? = some v := by
      rw [← List.getElem?_drop, cel_drop]
      rw [← hc, ← cel_take, List.getElem?_take] at hv
      split at hv
      · exact hv
      · cases hv
    have e2 := h.cell hm e
    rw [show (⟨g, 6 * i, none⟩ : Addr).add j = ⟨g, 6 * i + j, none⟩ from by unfold Addr.add; split <;> simp_all]
    exact e2)
  rw [cel_len, hl] at hcell
  have hf : (loadCellsFrom ⟨g, 6 * i, none⟩ 0 (6 * k) #[]).run Tryz.prog w = .ok (cel ms).toArray w := hcell
  clear hcell hc hk hm h
  simp only [execOp, ho, hx]
  go_simp
theorem lA {ρ : Operand → Value} {o : Oper} {x : Operand} {g : Nat} {t : TypeId} {ns ms : List Nat} {w : World} {l : List (Nat × List Value)} (i k : Nat) (h : Mm w l) (q : Nat) (ha : ∀ w, (isAgg t).run Tryz.prog w = .ok true w) (hs : ∀ w, (sizeOf t).run Tryz.prog w = .ok (6 * k) w) (hk : l[q]? = some (g, cel ns) := by exact rfl) (ho : o.op = .load t x := by exact rfl) (hx : ρ x = PT g (6 * i) := by exact rfl) (hc : (ns.drop i).take k = ms := by exact rfl) (hl : ms.length = k := by exact rfl) : (execOp ρ o).run Tryz.prog w = .ok (.value (V ms)) w := ex_loadA h q hk ho hx ha hs hc hl
theorem bA {ops : Array Oper} {L : List (Nat × List Value)} {F : (Nat → Nat) → Act} {o : Oper} {os : List Oper} {ks : List Kind} {x : Operand} {g : Nat} {t : TypeId} {ns ms : List Nat} (i n k : Nat) (ha : ∀ w, (isAgg t).run Tryz.prog w = .ok true w) (hz : ∀ w, (sizeOf t).run Tryz.prog w = .ok (6 * n) w) (hs : AllOk Tryz.prog ops (fun w' => Mm w' L) F os ks) (hw : ∀ J, Region.wanted o (yielded ops (F J).tmps) = true := by exact fun _ => rfl) (hk : L[k]? = some (g, cel ns) := by exact rfl) (ho : o.op = .load t x := by exact rfl) (hx : ∀ J, (F J).eval x = PT g (6 * i) := by exact fun _ => rfl) (hc : (ns.drop i).take n = ms := by exact rfl) (hl : ms.length = n := by exact rfl) : AllOk Tryz.prog ops (fun w' => Mm w' L) F (o :: os) (.q (V ms) :: ks) := ⟨fun J => ⟨hw J, fun _ h => ex_loadA h k hk ho (hx J) ha hz hc hl⟩, hs⟩
theorem ex_boxA {ρ : Operand → Value} {o : Oper} {x : Operand} {t : TypeId} {ns : List Nat} {w : World} (ho : o.op = .box t x) (hx : ρ x = V ns) :
    (execOp ρ o).run Tryz.prog w = .ok (.value (.pointer (some ⟨w.heap.size, 0, none⟩))) (w.alloc (.cells (cel ns).toArray t)) := by
  simp only [execOp, ho, hx]
  go_simp
theorem ex_storeA {ρ : Operand → Value} {o : Oper} {x y : Operand} {g i : Nat} {t : TypeId} {ns ms : List Nat} {w : World} {l : List (Nat × List Value)} (h : Mm w l) (q : Nat) (hk : l[q]? = some (g, cel ns)) (ho : o.op = .store t x y) (hx : ρ x = PT g (6 * i)) (hy : ρ y = V ms) (hs : ∀ w, (sizeOf t).run Tryz.prog w = .ok (6 * ms.length) w) (hb : i + ms.length ≤ ns.length) :
    (execOp ρ o).run Tryz.prog w = .ok .skip (w.setCells g (6 * i) (cel ms)) := by
  have hm := List.mem_of_getElem? hk
  have hq : ∀ j, j < (cel ms).length → ∃ u, (cel ns)[6 * i + j]? = some u := fun j hj => by
    rw [cel_len] at hj
    exact ⟨_, List.getElem?_eq_getElem (by rw [cel_len]; omega)⟩
  have hst := run_storeCells_cells (P := Tryz.prog) g (6 * i) (cel ms) 0 w (fun j hj => by
    obtain ⟨u, hu⟩ := hq j hj
    rw [show 6 * i + 0 + j = 6 * i + j by omega, h.cell hm hu]; rfl) (fun j hj => by
    obtain ⟨u, hu⟩ := hq j hj
    rw [show 6 * i + 0 + j = 6 * i + j by omega]; exact h.free hm hu) (List.all_eq_true.1 (cel_one ms))
  have hl := cel_len ms
  clear h hm hq hb hk
  simp only [execOp, ho, hx, hy]
  go_simp
theorem sA {Q : Exit → Act → World → Prop} {full : Array Oper} {a : Act} {w w0 : World} {j B g : Nat} {r : List Nat} {o : Oper} {l : List (Nat × List Value)} {x y : Operand} {t : TypeId} {ns : List Nat} (k i : Nat) (ms : List Nat) (l' : List (Nat × List Value)) (H : Hid (Mm w l ∧ Below B w0 w)) (hg : Hid (B ≤ g)) (hs : ∀ w, (sizeOf t).run Tryz.prog w = .ok (6 * ms.length) w) (h : ∀ w', Hid (Mm w' l' ∧ Below B w0 w') → wpOps Tryz.prog full Q r a w') (ho : full[j]? = some o := by exact rfl) (hd : o.dst = none := by exact rfl) (hw : Region.wanted o (yielded full a.tmps) = true := by exact rfl) (hk : l[k]? = some (g, cel ns) := by exact rfl) (hp : o.op = .store t x y := by exact rfl) (hx : a.eval x = PT g (6 * i) := by exact rfl) (hy : a.eval y = V ms := by exact rfl) (hb : i + ms.length ≤ ns.length := by exact Nat.le_of_ble_eq_true rfl) (hl : l.set k (g, cel (ns.take i ++ ms ++ ns.drop (i + ms.length))) = l' := by exact rfl) : wpOps Tryz.prog full Q (j :: r) a w :=
 rest_store ho hd hw (ex_storeA H.out.1 k hk hp hx hy hs (by omega)) (h _ ⟨(hl ▸ by have h := H.out.1.put k (off := 6 * i) (vs := cel ms) hk (by simp only [cel_len]; omega); rw [cel_patch] at h; exact h), zV _ hg.out _ _ _ H.out.2⟩)
theorem sK {Q : Exit → Act → World → Prop} {full : Array Oper} {a : Act} {w w0 : World} {j q g : Nat} {r : List Nat} {o : Oper} {l : List (Nat × List Value)} {x y : Operand} {t : TypeId} {ns : List Nat} (k i : Nat) (ms : List Nat) (l' : List (Nat × List Value)) (H : Hid (Mm w l ∧ Kp q w0 w)) (hg : Hid (w0.heap.size ≤ g)) (hs : ∀ w, (sizeOf t).run Tryz.prog w = .ok (6 * ms.length) w) (h : ∀ w', Hid (Mm w' l' ∧ Kp q w0 w') → wpOps Tryz.prog full Q r a w') (ho : full[j]? = some o := by exact rfl) (hd : o.dst = none := by exact rfl) (hw : Region.wanted o (yielded full a.tmps) = true := by exact rfl) (hk : l[k]? = some (g, cel ns) := by exact rfl) (hp : o.op = .store t x y := by exact rfl) (hx : a.eval x = PT g (6 * i) := by exact rfl) (hy : a.eval y = V ms := by exact rfl) (hb : i + ms.length ≤ ns.length := by exact Nat.le_of_ble_eq_true rfl) (hl : l.set k (g, cel (ns.take i ++ ms ++ ns.drop (i + ms.length))) = l' := by exact rfl) : wpOps Tryz.prog full Q (j :: r) a w :=
 rest_store ho hd hw (ex_storeA H.out.1 k hk hp hx hy hs (by omega)) (h _ ⟨(hl ▸ by have h := H.out.1.put k (off := 6 * i) (vs := cel ms) hk (by simp only [cel_len]; omega); rw [cel_patch] at h; exact h), H.out.2.put (Or.inr hg.out)⟩)
theorem sF {Q : Exit → Act → World → Prop} {full : Array Oper} {a : Act} {w w0 : World} {j B g : Nat} {r : List Nat} {o : Oper} {l : List (Nat × List Value)} {x y : Operand} {t : TypeId} {ns : List Nat} (k : Nat) (ms : List Nat) (l' : List (Nat × List Value)) (H : Hid (Mm w l ∧ Below B w0 w)) (hg : Hid (B ≤ g)) (hs : ∀ w, (sizeOf t).run Tryz.prog w = .ok (6 * ms.length) w) (h : ∀ w', Hid (Mm w' l' ∧ Below B w0 w') → wpOps Tryz.prog full Q r a w') (ho : full[j]? = some o := by exact rfl) (hd : o.dst = none := by exact rfl) (hw : Region.wanted o (yielded full a.tmps) = true := by exact rfl) (hk : l[k]? = some (g, cel ns) := by exact rfl) (hp : o.op = .store t x y := by exact rfl) (hx : a.eval x = PT g (6 * 0) := by exact rfl) (hy : a.eval y = V ms := by exact rfl) (hb : ms.length = ns.length := by exact rfl) (hl : l.set k (g, cel ms) = l' := by exact rfl) : wpOps Tryz.prog full Q (j :: r) a w :=
 rest_store ho hd hw (ex_storeA H.out.1 k hk hp hx hy hs (by omega)) (h _ ⟨(hl ▸ by have h := H.out.1.put k (off := 6 * 0) (vs := cel ms) hk (by simp only [cel_len]; omega); rw [cel_patch] at h; simpa [hb] using h), zV _ hg.out _ _ _ H.out.2⟩)
theorem sL {Q : Exit → Act → World → Prop} {full : Array Oper} {a : Act} {w w0 : World} {j q g : Nat} {r : List Nat} {o : Oper} {l : List (Nat × List Value)} {x y : Operand} {t : TypeId} {ns : List Nat} (k : Nat) (ms : List Nat) (l' : List (Nat × List Value)) (H : Hid (Mm w l ∧ Kp q w0 w)) (hg : Hid (w0.heap.size ≤ g)) (hs : ∀ w, (sizeOf t).run Tryz.prog w = .ok (6 * ms.length) w) (h : ∀ w', Hid (Mm w' l' ∧ Kp q w0 w') → wpOps Tryz.prog full Q r a w') (ho : full[j]? = some o := by exact rfl) (hd : o.dst = none := by exact rfl) (hw : Region.wanted o (yielded full a.tmps) = true := by exact rfl) (hk : l[k]? = some (g, cel ns) := by exact rfl) (hp : o.op = .store t x y := by exact rfl) (hx : a.eval x = PT g (6 * 0) := by exact rfl) (hy : a.eval y = V ms := by exact rfl) (hb : ms.length = ns.length := by exact rfl) (hl : l.set k (g, cel ms) = l' := by exact rfl) : wpOps Tryz.prog full Q (j :: r) a w :=
 rest_store ho hd hw (ex_storeA H.out.1 k hk hp hx hy hs (by omega)) (h _ ⟨(hl ▸ by have h := H.out.1.put k (off := 6 * 0) (vs := cel ms) hk (by simp only [cel_len]; omega); rw [cel_patch] at h; simpa [hb] using h), H.out.2.put (Or.inr hg.out)⟩)
theorem ex_laidA {ρ : Operand → Value} {o : Oper} {x y : Operand} {g : Nat} {t : TypeId} {zs ms : List Nat} {w : World} (hb : Blk w g (cel zs)) (hz : zs.length = ms.length) (hs : ∀ w, (sizeOf t).run Tryz.prog w = .ok (6 * ms.length) w) (ho : o.op = .store t x y) (hx : ρ x = .pointer (some ⟨g, 0, none⟩)) (hy : ρ y = V ms) :
    (execOp ρ o).run Tryz.prog w = .ok .skip (w.setCells g 0 (cel ms)) :=
  ex_laidT hb (by rw [cel_len, cel_len, hz]) (cel_one ms) (by rw [cel_len]; exact hs) ho hx hy
theorem zO {ρ : Operand → Value} {o : Oper} {x : Operand} {g i v : Nat} {ns : List Nat} {w : World} {l : List (Nat × List Value)} (h : Mm w l) (q : Nat) (hk : l[q]? = some (g, cel ns)) (ho : o.op = .load 24 x) (hx : ρ x = PT g (6 * i)) (hc : ns[i]? = some v) :
    (execOp ρ o).run Tryz.prog w = .ok (.value (N v)) w := by
  refine ex_load6 h q hk ho hx ?_
  rw [cel_drop, show 6 = 6 * 1 from rfl, cel_take]
  obtain ⟨hlt, e⟩ := List.getElem?_eq_some_iff.1 hc
  rw [List.drop_eq_getElem_cons hlt, e]
  rfl
theorem ex_madeE2 {ρ : Operand → Value} {o : Oper} {w : World} (ho : o.op = .alloc 33) :
    (execOp ρ o).run Tryz.prog w = .ok (.value (.pointer (some ⟨w.heap.size, 0, none⟩))) (w.alloc (.cells (cel [0, 0]).toArray 33)) := by
  rw [show cel [0, 0] = [.int .u64 0, .int .u64 0, .int .u64 0, .int .u64 0, .int .u64 0, .int .u64 0, .int .u64 0, .int .u64 0, .int .u64 0, .int .u64 0, .int .u64 0, .int .u64 0] from cel_zero 2]
  simp only [execOp, ho]
  go_simp
theorem ex_madeWD {ρ : Operand → Value} {o : Oper} {w : World} (ho : o.op = .alloc 179) :
    (execOp ρ o).run Tryz.prog w = .ok (.value (.pointer (some ⟨w.heap.size, 0, none⟩))) (w.alloc (.cells (cel [0, 0]).toArray 179)) := by
  rw [show cel [0, 0] = [.int .u64 0, .int .u64 0, .int .u64 0, .int .u64 0, .int .u64 0, .int .u64 0, .int .u64 0, .int .u64 0, .int .u64 0, .int .u64 0, .int .u64 0, .int .u64 0] from cel_zero 2]
  simp only [execOp, ho]
  go_simp
theorem ex_madeW2 {ρ : Operand → Value} {o : Oper} {w : World} (ho : o.op = .alloc 181) :
    (execOp ρ o).run Tryz.prog w = .ok (.value (.pointer (some ⟨w.heap.size, 0, none⟩))) (w.alloc (.cells (cel [0, 0, 0, 0]).toArray 181)) := by
  rw [show cel [0, 0, 0, 0] = [.int .u64 0, .int .u64 0, .int .u64 0, .int .u64 0, .int .u64 0, .int .u64 0, .int .u64 0, .int .u64 0, .int .u64 0, .int .u64 0, .int .u64 0, .int .u64 0, .int .u64 0, .int .u64 0, .int .u64 0, .int .u64 0, .int .u64 0, .int .u64 0, .int .u64 0, .int .u64 0, .int .u64 0, .int .u64 0, .int .u64 0, .int .u64 0] from cel_zero 4]
  simp only [execOp, ho]
  go_simp
theorem ex_buildE2 {ρ : Operand → Value} {o : Oper} {x0 x1 : Operand} {a b : Nat} {w : World} (ho : o.op = .build 33 #[(0, x0), (1, x1)]) (h0 : ρ x0 = N a) (h1 : ρ x1 = N b) : (execOp ρ o).run Tryz.prog w = .ok (.value (V [a, b])) w := by
  simp only [execOp, ho, V, cel, List.cons_append, List.nil_append]
  go_simp
theorem ex_buildE2a {ρ : Operand → Value} {o : Oper} {x0 : Operand} {a : Nat} {w : World} (ho : o.op = .build 33 #[(0, x0)]) (h0 : ρ x0 = N a) : (execOp ρ o).run Tryz.prog w = .ok (.value (V [a, 0])) w := by
  simp only [execOp, ho, V, cel, List.cons_append, List.nil_append]
  go_simp
  simp [wd_zero]
theorem ex_buildE2z {ρ : Operand → Value} {o : Oper} {w : World} (ho : o.op = .build 33 #[])  : (execOp ρ o).run Tryz.prog w = .ok (.value (V [0, 0])) w := by
  simp only [execOp, ho, V, cel, List.cons_append, List.nil_append]
  go_simp
  simp [wd_zero]
theorem ex_buildWD {ρ : Operand → Value} {o : Oper} {x0 x1 : Operand} {a b : Nat} {w : World} (ho : o.op = .build 179 #[(0, x0), (1, x1)]) (h0 : ρ x0 = N a) (h1 : ρ x1 = N b) : (execOp ρ o).run Tryz.prog w = .ok (.value (V [a, b])) w := by
  simp only [execOp, ho, V, cel, List.cons_append, List.nil_append]
  go_simp
theorem ex_buildW2 {ρ : Operand → Value} {o : Oper} {x0 x1 : Operand} {a0 a1 b0 b1 : Nat} {w : World} (ho : o.op = .build 181 #[(0, x0), (1, x1)]) (h0 : ρ x0 = V [a0, a1]) (h1 : ρ x1 = V [b0, b1]) : (execOp ρ o).run Tryz.prog w = .ok (.value (V [a0, a1, b0, b1])) w := by
  simp only [V, cel, List.cons_append, List.nil_append] at h0
  simp only [V, cel, List.cons_append, List.nil_append] at h1
  simp only [execOp, ho, V, cel, List.cons_append, List.nil_append]
  go_simp
theorem cel_load {n g : Nat} {ns : List Nat} {w : World} {l : List (Nat × List Value)} (h : Mm w l) (q : Nat) (hk : l[q]? = some (g, cel ns)) (hn : 6 * ns.length = n) : (loadCellsFrom ⟨g, 0, none⟩ 0 n #[]).run Tryz.prog w = .ok (cel ns).toArray w := by
  have hm := List.mem_of_getElem? hk
  have hcell := run_loadCells_list (P := Tryz.prog) (w := w) ⟨g, 0, none⟩ (cel ns) (fun j v hv => by
    have e2 := h.cell hm hv
    rw [show (⟨g, 0, none⟩ : Addr).add j = ⟨g, j, none⟩ from by unfold Addr.add; split <;> simp_all]
    exact e2)
  rw [cel_len, hn] at hcell
  exact hcell
theorem cel_var {g k : Nat} {t : TypeId} {ns : List Nat} {w : World} {l : List (Nat × List Value)} (h : Mm w l) (q : Nat) (hk : l[q]? = some (g, cel ns)) (ha : ∀ w, (isAgg t).run Tryz.prog w = .ok true w) (hs : ∀ w, (sizeOf t).run Tryz.prog w = .ok (6 * k) w) (hn : ns.length = k) : (loadVar t ⟨g, 0, none⟩).run Tryz.prog w = .ok (V ns) w := by
  have hf := cel_load (n := 6 * k) h q hk (by rw [hn])
  clear h hk
  simp only [loadVar]
  go_simp
theorem ex_loadF {ρ : Operand → Value} {o : Oper} {x : Operand} {g h0 : Nat} {cs : List Value} {w : World} {l : List (Nat × List Value)} (h : Mm w l) (k : Nat) (hk : l[k]? = some (g, cs)) (ho : o.op = .load 156 x) (hx : ρ x = PT g 0) (hc : cs[0]? = some (PT h0 0)) :
    (execOp ρ o).run Tryz.prog w = .ok (.value (.agg #[PT h0 0])) w := by
  have c0 := h.cell (List.mem_of_getElem? hk) hc
  clear h hk hc
  simp only [execOp, ho, hx]
  go_simp
theorem ex_loadQ {ρ : Operand → Value} {o : Oper} {x : Operand} {g : Nat} {v : Value} {cs : List Value} {w : World} {l : List (Nat × List Value)} (h : Mm w l) (k : Nat) (hk : l[k]? = some (g, cs)) (ho : o.op = .load 39 x) (hx : ρ x = PT g 0) (hc : cs[0]? = some v) :
    (execOp ρ o).run Tryz.prog w = .ok (.value v) w := by
  have c0 := h.cell (List.mem_of_getElem? hk) hc
  clear h hk hc
  simp only [execOp, ho, hx]
  go_simp
theorem ex_boxF {ρ : Operand → Value} {o : Oper} {x : Operand} {g : Nat} {w : World} (ho : o.op = .box 156 x) (hx : ρ x = .agg #[PT g 0]) :
    (execOp ρ o).run Tryz.prog w = .ok (.value (.pointer (some ⟨w.heap.size, 0, none⟩))) (w.alloc (.cells [PT g 0].toArray 156)) := by
  simp only [execOp, ho, hx]
  go_simp
/-- A point's cells. -/
abbrev zW (a b : Nat) (z : Bool) : List Value := cel [a, b] ++ [Value.bool z]
abbrev pc2 (a b c d : Nat) (z : Bool) : List Value := cel [a, b, c, d] ++ [Value.bool z]
theorem ex_loadT {ρ : Operand → Value} {o : Oper} {x : Operand} {g off n : Nat} {t : TypeId} {cs ms : List Value} {w : World} {l : List (Nat × List Value)} (h : Mm w l) (q : Nat) (hk : l[q]? = some (g, cs)) (ho : o.op = .load t x) (hx : ρ x = PT g off) (ha : ∀ w, (isAgg t).run Tryz.prog w = .ok true w) (hs : ∀ w, (sizeOf t).run Tryz.prog w = .ok n w) (hc : (cs.drop off).take n = ms) (hl : ms.length = n) :
  (execOp ρ o).run Tryz.prog w = .ok (.value (.agg ms.toArray)) w := by
 have hm := List.mem_of_getElem? hk
 have hcell := run_loadCells_list (P := Tryz.prog) (w := w) ⟨g, off, none⟩ ms (fun j v hv => by
  have e : cs[off + j]? = some v := by
   rw [← List.getElem?_drop]
   rw [← hc, List.getElem?_take] at hv
   split at hv
   ·exact hv
   ·cases hv
  have e2 := h.cell hm e
  rw [show (⟨g, off, none⟩ : Addr).add j = ⟨g, off + j, none⟩ from by unfold Addr.add; split <;> simp_all]
  exact e2)
 rw [hl] at hcell
 have hf : (loadCellsFrom ⟨g, off, none⟩ 0 n #[]).run Tryz.prog w = .ok ms.toArray w := hcell
 clear hcell hc hk hm h
 simp only [execOp, ho, hx]
 go_simp
theorem ex_loadC {ρ : Operand → Value} {o : Oper} {x : Operand} {g off : Nat} {t : TypeId} {v : Value} {cs : List Value} {w : World} {l : List (Nat × List Value)} (h : Mm w l) (k : Nat) (hk : l[k]? = some (g, cs)) (ho : o.op = .load t x) (hx : ρ x = PT g off) (ha : ∀ w, (isAgg t).run Tryz.prog w = .ok false w) (hc : cs[off]? = some v) :
  (execOp ρ o).run Tryz.prog w = .ok (.value v) w := by
 have c0 := h.cell (List.mem_of_getElem? hk) hc
 clear h hk hc
 simp only [execOp, ho, hx]
 go_simp
theorem lC {ρ : Operand → Value} {o : Oper} {x : Operand} {g off : Nat} {t : TypeId} {v : Value} {cs : List Value} {w : World} {l : List (Nat × List Value)} (h : Mm w l) (k : Nat) (ha : ∀ w, (isAgg t).run Tryz.prog w = .ok false w) (hk : l[k]? = some (g, cs) := by exact rfl) (ho : o.op = .load t x := by exact rfl) (hx : ρ x = PT g off := by exact rfl) (hc : cs[off]? = some v := by exact rfl) : (execOp ρ o).run Tryz.prog w = .ok (.value v) w := ex_loadC h k hk ho hx ha hc
theorem lT {ρ : Operand → Value} {o : Oper} {x : Operand} {g off n : Nat} {t : TypeId} {cs ms : List Value} {w : World} {l : List (Nat × List Value)} (h : Mm w l) (q : Nat) (ha : ∀ w, (isAgg t).run Tryz.prog w = .ok true w) (hs : ∀ w, (sizeOf t).run Tryz.prog w = .ok n w) (hk : l[q]? = some (g, cs) := by exact rfl) (ho : o.op = .load t x := by exact rfl) (hx : ρ x = PT g off := by exact rfl) (hc : (cs.drop off).take n = ms := by exact rfl) (hl : ms.length = n := by exact rfl) : (execOp ρ o).run Tryz.prog w = .ok (.value (.agg ms.toArray)) w := ex_loadT h q hk ho hx ha hs hc hl
theorem bC {ops : Array Oper} {L : List (Nat × List Value)} {F : (Nat → Nat) → Act} {o : Oper} {os : List Oper} {ks : List Kind} {x : Operand} {g off : Nat} {cs : List Value} {t : TypeId} {v : Value} (k : Nat) (ha : ∀ w, (isAgg t).run Tryz.prog w = .ok false w) (hs : AllOk Tryz.prog ops (fun w' => Mm w' L) F os ks) (hw : ∀ J, Region.wanted o (yielded ops (F J).tmps) = true := by exact fun _ => rfl) (hk : L[k]? = some (g, cs) := by exact rfl) (ho : o.op = .load t x := by exact rfl) (hx : ∀ J, (F J).eval x = PT g off := by exact fun _ => rfl) (hc : cs[off]? = some v := by exact rfl) : AllOk Tryz.prog ops (fun w' => Mm w' L) F (o :: os) (.q v :: ks) := ⟨fun J => ⟨hw J, fun _ h => ex_loadC h k hk ho (hx J) ha hc⟩, hs⟩
theorem bT {ops : Array Oper} {L : List (Nat × List Value)} {F : (Nat → Nat) → Act} {o : Oper} {os : List Oper} {ks : List Kind} {x : Operand} {g off : Nat} {cs : List Value} {n : Nat} {t : TypeId} {ms : List Value} (k : Nat) (ha : ∀ w, (isAgg t).run Tryz.prog w = .ok true w) (hz : ∀ w, (sizeOf t).run Tryz.prog w = .ok n w) (hs : AllOk Tryz.prog ops (fun w' => Mm w' L) F os ks) (hw : ∀ J, Region.wanted o (yielded ops (F J).tmps) = true := by exact fun _ => rfl) (hk : L[k]? = some (g, cs) := by exact rfl) (ho : o.op = .load t x := by exact rfl) (hx : ∀ J, (F J).eval x = PT g off := by exact fun _ => rfl) (hc : (cs.drop off).take n = ms := by exact rfl) (hl : ms.length = n := by exact rfl) : AllOk Tryz.prog ops (fun w' => Mm w' L) F (o :: os) (.q (.agg ms.toArray) :: ks) := ⟨fun J => ⟨hw J, fun _ h => ex_loadT h k hk ho (hx J) ha hz hc hl⟩, hs⟩
theorem zQ {ρ : Operand → Value} {o : Oper} {x : Operand} {t : TypeId} {cs : List Value} {w : World} (ho : o.op = .box t x) (hx : ρ x = .agg cs.toArray) :
  (execOp ρ o).run Tryz.prog w = .ok (.value (.pointer (some ⟨w.heap.size, 0, none⟩))) (w.alloc (.cells cs.toArray t)) := by
 simp only [execOp, ho, hx]
 go_simp
theorem ex_storeT {ρ : Operand → Value} {o : Oper} {x y : Operand} {g off : Nat} {t : TypeId} {cs vs : List Value} {w : World} {l : List (Nat × List Value)} (h : Mm w l) (q : Nat) (hk : l[q]? = some (g, cs)) (ho : o.op = .store t x y) (hx : ρ x = PT g off) (hy : ρ y = .agg vs.toArray) (hs : ∀ w, (sizeOf t).run Tryz.prog w = .ok vs.length w) (h1 : vs.all Value.oneCell' = true) (hb : off + vs.length ≤ cs.length) :
  (execOp ρ o).run Tryz.prog w = .ok .skip (w.setCells g off vs) := by
 have hm := List.mem_of_getElem? hk
 have hq : ∀ j, j < vs.length → ∃ u, cs[off + j]? = some u := fun j hj => ⟨_, List.getElem?_eq_getElem (by omega)⟩
 have hst := run_storeCells_cells (P := Tryz.prog) g off vs 0 w (fun j hj => by
  obtain ⟨u, hu⟩ := hq j hj
  rw [show off + 0 + j = off + j by omega, h.cell hm hu]; rfl) (fun j hj => by
  obtain ⟨u, hu⟩ := hq j hj
  rw [show off + 0 + j = off + j by omega]; exact h.free hm hu) (List.all_eq_true.1 h1)
 clear h hm hq hb hk
 simp only [execOp, ho, hx, hy]
 go_simp
theorem var_T {g n : Nat} {t : TypeId} {cs : List Value} {w : World} {l : List (Nat × List Value)} (h : Mm w l) (q : Nat) (hk : l[q]? = some (g, cs)) (ha : ∀ w, (isAgg t).run Tryz.prog w = .ok true w) (hs : ∀ w, (sizeOf t).run Tryz.prog w = .ok n w) (hn : cs.length = n) : (loadVar t ⟨g, 0, none⟩).run Tryz.prog w = .ok (.agg cs.toArray) w := by
 have hm := List.mem_of_getElem? hk
 have hcell := run_loadCells_list (P := Tryz.prog) (w := w) ⟨g, 0, none⟩ cs (fun j v hv => by
  have e2 := h.cell hm hv
  rw [show (⟨g, 0, none⟩ : Addr).add j = ⟨g, j, none⟩ from by unfold Addr.add; split <;> simp_all]
  exact e2)
 rw [hn] at hcell
 have hf : (loadCellsFrom ⟨g, 0, none⟩ 0 n #[]).run Tryz.prog w = .ok cs.toArray w := hcell
 clear hcell h hk hm
 simp only [loadVar]
 go_simp
theorem ex_makeC {P : Program} {ρ : Operand → Value} {o : Oper} {f : FuncId} {xs : Array Operand} {vs : Array Value} {w : World} (ho : o.op = .makeFunc (.func f) #[] xs) (hx : xs.map ρ = vs) :
  (execOp ρ o).run P w = .ok (.value (.func (.func f) #[] vs)) w := by
 subst hx
 simp only [execOp, ho]
 simp [go_sem, Instr.makeFunc]
theorem ex_makeM {P : Program} {ρ : Operand → Value} {o : Oper} {f : FuncId} {xs : Array Operand} {vs : Array Value} {w : World} (ho : o.op = .makeFunc (.func f) xs #[]) (hx : xs.map ρ = vs) :
  (execOp ρ o).run P w = .ok (.value (.func (.func f) vs #[])) w := by
 subst hx
 simp only [execOp, ho]
 simp [go_sem, Instr.makeFunc]
theorem zM {P : Program} {ρ : Operand → Value} {o : Oper} {f : FuncId} {y : Operand} {xs : Array Operand} {ts : Array TypeId} {fs bs cs args : Array Value} {w : World} (ho : o.op = .call { callee := .value y, args := xs, argTypes := ts }) (hc : ∀ args w, (callFunc f args).run P w = .ok (.enter f args) w) (hf : ρ y = .func (.func f) fs cs) (hx : xs.map ρ = bs) (ha : fs ++ bs ++ cs = args) :
  (execOp ρ o).run P w = .ok (.enter f args) w := by
 subst ha
 simp only [execOp, ho, resolve, hf, hx]
 simp [go_sem, Deferred.ofValue, invoke, hc]
theorem ex_madeTN {ρ : Operand → Value} {o : Oper} {w : World} (ho : o.op = .alloc 124) :
  (execOp ρ o).run Tryz.prog w = .ok (.value (.pointer (some ⟨w.heap.size, 0, none⟩))) (w.alloc (.cells (cel [0, 0, 0]).toArray 124)) := by
 rw [show cel [0, 0, 0] = [.int .u64 0, .int .u64 0, .int .u64 0, .int .u64 0, .int .u64 0, .int .u64 0, .int .u64 0, .int .u64 0, .int .u64 0, .int .u64 0, .int .u64 0, .int .u64 0, .int .u64 0, .int .u64 0, .int .u64 0, .int .u64 0, .int .u64 0, .int .u64 0] from cel_zero 3]
 simp only [execOp, ho]
 go_simp
theorem ex_madeP1 {ρ : Operand → Value} {o : Oper} {w : World} (ho : o.op = .alloc 27) :
  (execOp ρ o).run Tryz.prog w = .ok (.value (.pointer (some ⟨w.heap.size, 0, none⟩))) (w.alloc (.cells (cel [0, 0] ++ [Value.bool false]).toArray 27)) := by
 rw [show cel [0, 0] = [.int .u64 0, .int .u64 0, .int .u64 0, .int .u64 0, .int .u64 0, .int .u64 0, .int .u64 0, .int .u64 0, .int .u64 0, .int .u64 0, .int .u64 0, .int .u64 0] from cel_zero 2]
 simp only [List.cons_append, List.nil_append]
 simp only [execOp, ho]
 go_simp
theorem ex_madePN {ρ : Operand → Value} {o : Oper} {w : World} (ho : o.op = .alloc 85) :
  (execOp ρ o).run Tryz.prog w = .ok (.value (.pointer (some ⟨w.heap.size, 0, none⟩))) (w.alloc (.cells (cel [0, 0] ++ [Value.bool false]).toArray 85)) := by
 rw [show cel [0, 0] = [.int .u64 0, .int .u64 0, .int .u64 0, .int .u64 0, .int .u64 0, .int .u64 0, .int .u64 0, .int .u64 0, .int .u64 0, .int .u64 0, .int .u64 0, .int .u64 0] from cel_zero 2]
 simp only [List.cons_append, List.nil_append]
 simp only [execOp, ho]
 go_simp
theorem ex_madeP2 {ρ : Operand → Value} {o : Oper} {w : World} (ho : o.op = .alloc 35) :
  (execOp ρ o).run Tryz.prog w = .ok (.value (.pointer (some ⟨w.heap.size, 0, none⟩))) (w.alloc (.cells (cel [0, 0, 0, 0] ++ [Value.bool false]).toArray 35)) := by
 rw [show cel [0, 0, 0, 0] = [.int .u64 0, .int .u64 0, .int .u64 0, .int .u64 0, .int .u64 0, .int .u64 0, .int .u64 0, .int .u64 0, .int .u64 0, .int .u64 0, .int .u64 0, .int .u64 0, .int .u64 0, .int .u64 0, .int .u64 0, .int .u64 0, .int .u64 0, .int .u64 0, .int .u64 0, .int .u64 0, .int .u64 0, .int .u64 0, .int .u64 0, .int .u64 0] from cel_zero 4]
 simp only [List.cons_append, List.nil_append]
 simp only [execOp, ho]
 go_simp
theorem ex_madePE {ρ : Operand → Value} {o : Oper} {w : World} (ho : o.op = .alloc 96) :
  (execOp ρ o).run Tryz.prog w = .ok (.value (.pointer (some ⟨w.heap.size, 0, none⟩))) (w.alloc (.cells (cel [0, 0, 0, 0] ++ [Value.bool false]).toArray 96)) := by
 rw [show cel [0, 0, 0, 0] = [.int .u64 0, .int .u64 0, .int .u64 0, .int .u64 0, .int .u64 0, .int .u64 0, .int .u64 0, .int .u64 0, .int .u64 0, .int .u64 0, .int .u64 0, .int .u64 0, .int .u64 0, .int .u64 0, .int .u64 0, .int .u64 0, .int .u64 0, .int .u64 0, .int .u64 0, .int .u64 0, .int .u64 0, .int .u64 0, .int .u64 0, .int .u64 0] from cel_zero 4]
 simp only [List.cons_append, List.nil_append]
 simp only [execOp, ho]
 go_simp
theorem ex_madeGN {ρ : Operand → Value} {o : Oper} {w : World} (ho : o.op = .alloc 82) :
  (execOp ρ o).run Tryz.prog w = .ok (.value (.pointer (some ⟨w.heap.size, 0, none⟩))) (w.alloc (.cells ([Value.nilFunc, Value.nilFunc, Value.nilFunc, Value.nilFunc, Value.nilFunc] ++ (cel [0, 0] ++ [Value.nilFunc, Value.int .i64 0])).toArray 82)) := by
 rw [show cel [0, 0] = [.int .u64 0, .int .u64 0, .int .u64 0, .int .u64 0, .int .u64 0, .int .u64 0, .int .u64 0, .int .u64 0, .int .u64 0, .int .u64 0, .int .u64 0, .int .u64 0] from cel_zero 2]
 simp only [List.cons_append, List.nil_append]
 simp only [execOp, ho]
 go_simp
theorem ex_madeGE {ρ : Operand → Value} {o : Oper} {w : World} (ho : o.op = .alloc 93) :
  (execOp ρ o).run Tryz.prog w = .ok (.value (.pointer (some ⟨w.heap.size, 0, none⟩))) (w.alloc (.cells ([Value.nilFunc, Value.nilFunc, Value.nilFunc, Value.nilFunc, Value.nilFunc] ++ (cel [0, 0, 0, 0] ++ [Value.nilFunc, Value.int .i64 0])).toArray 93)) := by
 rw [show cel [0, 0, 0, 0] = [.int .u64 0, .int .u64 0, .int .u64 0, .int .u64 0, .int .u64 0, .int .u64 0, .int .u64 0, .int .u64 0, .int .u64 0, .int .u64 0, .int .u64 0, .int .u64 0, .int .u64 0, .int .u64 0, .int .u64 0, .int .u64 0, .int .u64 0, .int .u64 0, .int .u64 0, .int .u64 0, .int .u64 0, .int .u64 0, .int .u64 0, .int .u64 0] from cel_zero 4]
 simp only [List.cons_append, List.nil_append]
 simp only [execOp, ho]
 go_simp
theorem exec_eqT85 {ρ : Operand → Value} {o : Oper} {i j : Tmp} {v v' : Array Value} {t : Bool} {w : World} (he : ∀ w, (Op.equalIn 10000 85 (.agg v) (.agg v')).run Tryz.prog w = .ok t w) (ho : o.op = .binOp .eql 85 (.tmp i) (.tmp j) 85) (hx : ρ (.tmp i) = .agg v) (hy : ρ (.tmp j) = .agg v') :
  (execOp ρ o).run Tryz.prog w = .ok (.value (.bool t)) w := by
 simp only [execOp, ho, hx, hy]
 clear hx hy
 go_simp
theorem exec_eqT27 {ρ : Operand → Value} {o : Oper} {i j : Tmp} {v v' : Array Value} {t : Bool} {w : World} (he : ∀ w, (Op.equalIn 10000 27 (.agg v) (.agg v')).run Tryz.prog w = .ok t w) (ho : o.op = .binOp .eql 27 (.tmp i) (.tmp j) 27) (hx : ρ (.tmp i) = .agg v) (hy : ρ (.tmp j) = .agg v') :
  (execOp ρ o).run Tryz.prog w = .ok (.value (.bool t)) w := by
 simp only [execOp, ho, hx, hy]
 clear hx hy
 go_simp
theorem exec_eqT96 {ρ : Operand → Value} {o : Oper} {i j : Tmp} {v v' : Array Value} {t : Bool} {w : World} (he : ∀ w, (Op.equalIn 10000 96 (.agg v) (.agg v')).run Tryz.prog w = .ok t w) (ho : o.op = .binOp .eql 96 (.tmp i) (.tmp j) 96) (hx : ρ (.tmp i) = .agg v) (hy : ρ (.tmp j) = .agg v') :
  (execOp ρ o).run Tryz.prog w = .ok (.value (.bool t)) w := by
 simp only [execOp, ho, hx, hy]
 clear hx hy
 go_simp
theorem exec_eqT33 {ρ : Operand → Value} {o : Oper} {i j : Tmp} {v v' : Array Value} {t : Bool} {w : World} (he : ∀ w, (Op.equalIn 10000 33 (.agg v) (.agg v')).run Tryz.prog w = .ok t w) (ho : o.op = .binOp .eql 33 (.tmp i) (.tmp j) 33) (hx : ρ (.tmp i) = .agg v) (hy : ρ (.tmp j) = .agg v') :
  (execOp ρ o).run Tryz.prog w = .ok (.value (.bool t)) w := by
 simp only [execOp, ho, hx, hy]
 clear hx hy
 go_simp
theorem exec_neqT33 {ρ : Operand → Value} {o : Oper} {i j : Tmp} {v v' : Array Value} {t : Bool} {w : World} (he : ∀ w, (Op.equalIn 10000 33 (.agg v) (.agg v')).run Tryz.prog w = .ok t w) (ho : o.op = .binOp .neq 33 (.tmp i) (.tmp j) 33) (hx : ρ (.tmp i) = .agg v) (hy : ρ (.tmp j) = .agg v') :
  (execOp ρ o).run Tryz.prog w = .ok (.value (.bool !t)) w := by
 simp only [execOp, ho, hx, hy]
 clear hx hy
 go_simp
theorem ex_buildPNz {ρ : Operand → Value} {o : Oper} {w : World} (ho : o.op = .build 85 #[])  : (execOp ρ o).run Tryz.prog w = .ok (.value (.agg (cel [0, 0] ++ [Value.bool false]).toArray)) w := by
 simp only [execOp, ho, cel, List.cons_append, List.nil_append]
 go_simp
 simp [wd_zero]
theorem ex_buildPNt {ρ : Operand → Value} {o : Oper} {x2 : Operand} {w : World} (ho : o.op = .build 85 #[(2, x2)]) (h2 : ρ x2 = .bool true) : (execOp ρ o).run Tryz.prog w = .ok (.value (.agg (cel [0, 0] ++ [Value.bool true]).toArray)) w := by
 simp only [execOp, ho, cel, List.cons_append, List.nil_append]
 go_simp
 simp [wd_zero]
theorem ex_buildPEz {ρ : Operand → Value} {o : Oper} {w : World} (ho : o.op = .build 96 #[])  : (execOp ρ o).run Tryz.prog w = .ok (.value (.agg (cel [0, 0, 0, 0] ++ [Value.bool false]).toArray)) w := by
 simp only [execOp, ho, cel, List.cons_append, List.nil_append]
 go_simp
 simp [wd_zero]
theorem ex_buildPEt {ρ : Operand → Value} {o : Oper} {x2 : Operand} {w : World} (ho : o.op = .build 96 #[(2, x2)]) (h2 : ρ x2 = .bool true) : (execOp ρ o).run Tryz.prog w = .ok (.value (.agg (cel [0, 0, 0, 0] ++ [Value.bool true]).toArray)) w := by
 simp only [execOp, ho, cel, List.cons_append, List.nil_append]
 go_simp
 simp [wd_zero]
theorem ex_buildP1xy {ρ : Operand → Value} {o : Oper} {x0 x1 : Operand} {a b : Nat} {w : World} (ho : o.op = .build 27 #[(0, x0), (1, x1)]) (h0 : ρ x0 = N a) (h1 : ρ x1 = N b) : (execOp ρ o).run Tryz.prog w = .ok (.value (.agg (cel [a, b] ++ [Value.bool false]).toArray)) w := by
 simp only [execOp, ho, cel, List.cons_append, List.nil_append]
 go_simp
theorem ex_buildTN {ρ : Operand → Value} {o : Oper} {x0 x1 x2 : Operand} {a b c : Nat} {w : World} (ho : o.op = .build 124 #[(0, x0), (1, x1), (2, x2)]) (h0 : ρ x0 = N a) (h1 : ρ x1 = N b) (h2 : ρ x2 = N c) : (execOp ρ o).run Tryz.prog w = .ok (.value (.agg (cel [a, b, c]).toArray)) w := by
 simp only [execOp, ho, cel, List.cons_append, List.nil_append]
 go_simp
theorem ex_buildTNy {ρ : Operand → Value} {o : Oper} {x1 : Operand} {a : Nat} {w : World} (ho : o.op = .build 124 #[(1, x1)]) (h1 : ρ x1 = N a) : (execOp ρ o).run Tryz.prog w = .ok (.value (.agg (cel [0, a, 0]).toArray)) w := by
 simp only [execOp, ho, cel, List.cons_append, List.nil_append]
 go_simp
 simp [wd_zero]
/-! Equality. -/
theorem run_eqGD (D a b : Nat) (ha : a < big) (hb : b < big) (w : World) : (Op.equalIn (D + 2) 24 (N a) (N b)).run Tryz.prog w = .ok (decide (a = b)) w := by
 have h := run_eq6' (D + 1) (fun a b w => run_equalIn_int w D 22 .u64 .u64 a b (by kernel_rfl)) (wd a 0) (wd a 1) (wd a 2) (wd a 3) (wd a 4) (wd a 5) (wd b 0) (wd b 1) (wd b 2) (wd b 3) (wd b 4) (wd b 5) w
 rw [num_eq a b ha hb] at h
 exact h
theorem run_eqG2' (d a0 a1 b0 b1 : Nat) (p0 p1 : Bool) (hi0 : ∀ w, (Op.equalIn d 24 (N a0) (N b0)).run Tryz.prog w = .ok p0 w) (hi1 : ∀ w, (Op.equalIn d 24 (N a1) (N b1)).run Tryz.prog w = .ok p1 w) (w : World) :
  (Op.equalIn (d + 1) 33 (V [a0, a1]) (V [b0, b1])).run Tryz.prog w = .ok (p0 && p1) w := by
 have h24 : Tryz.prog.underlying 33 = some (.array 2 24) := by kernel_rfl
 have hsz : ∀ w, (sizeOf 24).run Tryz.prog w = .ok 6 w := fun w => by kernel_rfl
 have hp : ∀ (a b : Nat) (w : World), (Go.part 24 (cel [a, b]).toArray 0).run Tryz.prog w = .ok (N a) w ∧ (Go.part 24 (cel [a, b]).toArray 6).run Tryz.prog w = .ok (N b) w := fun a b w => ⟨by kernel_rfl, by kernel_rfl⟩
 simp only [V, Op.equalIn, Sem.run_bind, run_underlying h24, Result.andThen_ok, hsz]
 simp [Std.Legacy.Range.forIn_eq_forIn_range', List.range', List.forIn_cons, hi0, hi1, hp]
 cases p0 <;> cases p1 <;> simp
theorem run_eqG2 (D a0 a1 b0 b1 : Nat) (ha0 : a0 < big) (ha1 : a1 < big) (hb0 : b0 < big) (hb1 : b1 < big) (w : World) : (Op.equalIn (D + 3) 33 (V [a0, a1]) (V [b0, b1])).run Tryz.prog w = .ok (decide (a0 = b0) && decide (a1 = b1)) w :=
 run_eqG2' (D + 2) a0 a1 b0 b1 _ _ (fun w => run_eqGD D a0 b0 ha0 hb0 w) (fun w => run_eqGD D a1 b1 ha1 hb1 w) w
theorem run_eqB (D : Nat) (a b : Bool) (w : World) : (Op.equalIn (D + 1) 4 (.bool a) (.bool b)).run Tryz.prog w = .ok (a == b) w := by
 simp only [Op.equalIn, Sem.run_bind, run_underlying (show Tryz.prog.underlying 4 = some .bool by kernel_rfl), Result.andThen_ok]
 rfl
theorem run_eqPN' (D a b a' b' : Nat) (z z' p0 p1 p2 : Bool) (hi0 : ∀ w, (Op.equalIn D 24 (N a) (N a')).run Tryz.prog w = .ok p0 w) (hi1 : ∀ w, (Op.equalIn D 24 (N b) (N b')).run Tryz.prog w = .ok p1 w) (hi2 : ∀ w, (Op.equalIn D 4 (.bool z) (.bool z')).run Tryz.prog w = .ok p2 w) (w : World) :
  (Op.equalIn (D + 1) 85 (.agg (cel [a, b] ++ [Value.bool z]).toArray) (.agg (cel [a', b'] ++ [Value.bool z']).toArray)).run Tryz.prog w = .ok (p0 && (p1 && p2)) w := by
 have hst : Tryz.prog.stoodInHeld 85 = false := by kernel_rfl
 have hp : ∀ (a b : Nat) (z : Bool) (w : World), (Go.part 24 (cel [a, b] ++ [Value.bool z]).toArray 0).run Tryz.prog w = .ok (N a) w ∧ (Go.part 24 (cel [a, b] ++ [Value.bool z]).toArray 6).run Tryz.prog w = .ok (N b) w ∧ (Go.part 4 (cel [a, b] ++ [Value.bool z]).toArray 12).run Tryz.prog w = .ok (.bool z) w := fun a b z w => ⟨by kernel_rfl, by kernel_rfl, by kernel_rfl⟩
 have q1 := hp a b z
 have q2 := hp a' b' z'
 clear hp
 generalize (cel [a, b] ++ [Value.bool z]).toArray = xs at *
 generalize (cel [a', b'] ++ [Value.bool z']).toArray = ys at *
 simp only [Op.equalIn, Sem.run_bind, run_underlying Tryz.underlying85, Result.andThen_ok]
 simp [hst, hi0, hi1, hi2, q1, q2]
 cases p0 <;> cases p1 <;> cases p2 <;> simp
theorem run_eqPN (a b a' b' : Nat) (z z' : Bool) (ha : a < big) (hb : b < big) (ha' : a' < big) (hb' : b' < big) (w : World) :
  (Op.equalIn 10000 85 (.agg (cel [a, b] ++ [Value.bool z]).toArray) (.agg (cel [a', b'] ++ [Value.bool z']).toArray)).run Tryz.prog w = .ok (decide (a = a') && (decide (b = b') && (z == z'))) w :=
 run_eqPN' 9999 a b a' b' z z' _ _ _ (fun w => run_eqGD 9997 a a' ha ha' w) (fun w => run_eqGD 9997 b b' hb hb' w) (fun w => run_eqB 9998 z z' w) w
theorem run_eqP1' (D a b a' b' : Nat) (z z' p0 p1 p2 : Bool) (hi0 : ∀ w, (Op.equalIn D 24 (N a) (N a')).run Tryz.prog w = .ok p0 w) (hi1 : ∀ w, (Op.equalIn D 24 (N b) (N b')).run Tryz.prog w = .ok p1 w) (hi2 : ∀ w, (Op.equalIn D 4 (.bool z) (.bool z')).run Tryz.prog w = .ok p2 w) (w : World) :
  (Op.equalIn (D + 1) 27 (.agg (cel [a, b] ++ [Value.bool z]).toArray) (.agg (cel [a', b'] ++ [Value.bool z']).toArray)).run Tryz.prog w = .ok (p0 && (p1 && p2)) w := by
 have hst : Tryz.prog.stoodInHeld 27 = false := by kernel_rfl
 have hp : ∀ (a b : Nat) (z : Bool) (w : World), (Go.part 24 (cel [a, b] ++ [Value.bool z]).toArray 0).run Tryz.prog w = .ok (N a) w ∧ (Go.part 24 (cel [a, b] ++ [Value.bool z]).toArray 6).run Tryz.prog w = .ok (N b) w ∧ (Go.part 4 (cel [a, b] ++ [Value.bool z]).toArray 12).run Tryz.prog w = .ok (.bool z) w := fun a b z w => ⟨by kernel_rfl, by kernel_rfl, by kernel_rfl⟩
 have q1 := hp a b z
 have q2 := hp a' b' z'
 clear hp
 generalize (cel [a, b] ++ [Value.bool z]).toArray = xs at *
 generalize (cel [a', b'] ++ [Value.bool z']).toArray = ys at *
 simp only [Op.equalIn, Sem.run_bind, run_underlying Tryz.underlying27, Result.andThen_ok]
 simp [hst, hi0, hi1, hi2, q1, q2]
 cases p0 <;> cases p1 <;> cases p2 <;> simp
theorem run_eqP1 (a b a' b' : Nat) (z z' : Bool) (ha : a < big) (hb : b < big) (ha' : a' < big) (hb' : b' < big) (w : World) :
  (Op.equalIn 10000 27 (.agg (cel [a, b] ++ [Value.bool z]).toArray) (.agg (cel [a', b'] ++ [Value.bool z']).toArray)).run Tryz.prog w = .ok (decide (a = a') && (decide (b = b') && (z == z'))) w :=
 run_eqP1' 9999 a b a' b' z z' _ _ _ (fun w => run_eqGD 9997 a a' ha ha' w) (fun w => run_eqGD 9997 b b' hb hb' w) (fun w => run_eqB 9998 z z' w) w
theorem run_eqPE' (D a b c d a' b' c' d' : Nat) (z z' p0 p1 p2 : Bool) (hi0 : ∀ w, (Op.equalIn D 33 (V [a, b]) (V [a', b'])).run Tryz.prog w = .ok p0 w) (hi1 : ∀ w, (Op.equalIn D 33 (V [c, d]) (V [c', d'])).run Tryz.prog w = .ok p1 w) (hi2 : ∀ w, (Op.equalIn D 4 (.bool z) (.bool z')).run Tryz.prog w = .ok p2 w) (w : World) :
  (Op.equalIn (D + 1) 96 (.agg (cel [a, b, c, d] ++ [Value.bool z]).toArray) (.agg (cel [a', b', c', d'] ++ [Value.bool z']).toArray)).run Tryz.prog w = .ok (p0 && (p1 && p2)) w := by
 have hst : Tryz.prog.stoodInHeld 96 = false := by kernel_rfl
 have hp : ∀ (a b c d : Nat) (z : Bool) (w : World), (Go.part 33 (cel [a, b, c, d] ++ [Value.bool z]).toArray 0).run Tryz.prog w = .ok (V [a, b]) w ∧ (Go.part 33 (cel [a, b, c, d] ++ [Value.bool z]).toArray 12).run Tryz.prog w = .ok (V [c, d]) w ∧ (Go.part 4 (cel [a, b, c, d] ++ [Value.bool z]).toArray 24).run Tryz.prog w = .ok (.bool z) w := fun a b c d z w => ⟨by kernel_rfl, by kernel_rfl, by kernel_rfl⟩
 have q1 := hp a b c d z
 have q2 := hp a' b' c' d' z'
 clear hp
 generalize (cel [a, b, c, d] ++ [Value.bool z]).toArray = xs at *
 generalize (cel [a', b', c', d'] ++ [Value.bool z']).toArray = ys at *
 simp only [Op.equalIn, Sem.run_bind, run_underlying Tryz.underlying96, Result.andThen_ok]
 simp [hst, hi0, hi1, hi2, q1, q2]
 cases p0 <;> cases p1 <;> cases p2 <;> simp
theorem run_eqPE (a b c d a' b' c' d' : Nat) (z z' : Bool) (ha : a < big) (hb : b < big) (hc : c < big) (hd : d < big) (ha' : a' < big) (hb' : b' < big) (hc' : c' < big) (hd' : d' < big) (w : World) :
  (Op.equalIn 10000 96 (.agg (cel [a, b, c, d] ++ [Value.bool z]).toArray) (.agg (cel [a', b', c', d'] ++ [Value.bool z']).toArray)).run Tryz.prog w = .ok ((decide (a = a') && decide (b = b')) && ((decide (c = c') && decide (d = d')) && (z == z'))) w :=
 run_eqPE' 9999 a b c d a' b' c' d' z z' _ _ _ (fun w => run_eqG2 9996 a b a' b' ha hb ha' hb' w) (fun w => run_eqG2 9996 c d c' d' hc hd hc' hd' w) (fun w => run_eqB 9998 z z' w) w
end Rg
end Go.Proofs.YtmanelnacifgcaaGreatDoor
end
section
namespace Go.Proofs.YtmanelnacifgcaaGreatDoor
open Go.RowKit
namespace Rg
def chained0 (full : Array Oper) (p : Nat) : Bool :=
 eachOp full (fun i o => o.after.all fun e => !Region.binds .any e || decide (e.on < i)) &&
 eachOp full (fun i o => decide (i < p) || (List.range i).all fun j => waits o j)
theorem waitsQ_of {full : Array Oper} {f : Nat} {o : Oper} {j : Nat} (h : waits o j = true) : waitsQ full f o j = true := by
 cases f with
 | zero => exact h
 | succ f => unfold waitsQ; rw [h]; rfl
section
variable {P : Program} {ops : Array Oper} {a₀ : Act} {Q : Exit → Act → World → Prop}
theorem quiet_step {full : Array Oper} {ks : List Kind} {n p : Nat} (hO : Orderly ops ks n) (hn : n = a₀.tmps.size) (hfull : ∀ i, i < p → full[i]? = ops[i]?) (hgd : ∀ {i : Nat} {o : Oper} {g : Nat} {b : Bool}, ops[i]? = some o → o.guard = some (g, b) → g < p)
  {K : Act → World → Prop} {l : Array Bool} {J : Nat → Nat} {a : Act} {w : World} (hA : Agree ops ks a₀ l J a) {i : Nat} {o : Oper} {v : Value} (hip : i < p) (ho : ops[i]? = some o) (hk : ks[i]? = some (.q v))
  (hedge : ∀ e ∈ o.after, Region.binds .any e = true → l.getD e.on false = true) (hok : Region.wanted o (yielded ops (zZ J 0 ops.toList ks a₀).tmps) = true ∧ (execOp (zZ J 0 ops.toList ks a₀).eval o).run P w = .ok (.value v) w)
  (hnext : Agree ops ks a₀ (l.setIfInBounds i true) J (a.put o.dst v) → K (a.put o.dst v) w) : wpOp P full Q i K a w := by
 obtain ⟨he, hw0⟩ := hA.sees hO ho hedge
 have hy : ∀ ts, Region.wanted o (yielded full ts) = Region.wanted o (yielded ops ts) := fun ts => by
  unfold Region.wanted
  cases hg : o.guard with
  | none => rfl
  | some gw =>
   obtain ⟨g, want⟩ := gw
   have : yielded full ts g = yielded ops ts g := by unfold yielded; rw [hfull g (hgd ho hg)]
   simp only [this]
 refine wpOp_step (by rw [hfull i hip]; exact ho) (fun K' hK => ?_)
 rw [hy, hw0, if_pos hok.1]
 unfold Oper.wp
 rw [he, hok.2]
 exact hK _ _ (hnext (hA.step hO hn ho hk (fun _ _ _ _ => rfl)))
theorem enter_step {full : Array Oper} {ks : List Kind} {n p : Nat} (hO : Orderly ops ks n) (hfull : ∀ i, i < p → full[i]? = ops[i]?) (hgd : ∀ {i : Nat} {o : Oper} {g : Nat} {b : Bool}, ops[i]? = some o → o.guard = some (g, b) → g < p)
  {K : Act → World → Prop} {l : Array Bool} {J : Nat → Nat} {a : Act} {w : World} (hA : Agree ops ks a₀ l J a) {i : Nat} {o : Oper} (hip : i < p) (ho : ops[i]? = some o)
  (hedge : ∀ e ∈ o.after, Region.binds .any e = true → l.getD e.on false = true) {f : FuncId} {args : Array Value} {R : Value → World → Prop} (hw : Region.wanted o (yielded ops (zZ J 0 ops.toList ks a₀).tmps) = true) (hx : (execOp (zZ J 0 ops.toList ks a₀).eval o).run P w = .ok (.enter f args) w)
  (hc : Calls P f args w (fun e w' => ∃ v, e = .returned v ∧ R v w')) (hnext : ∀ v w', R v w' → K (a.put o.dst v) w') : wpOp P full Q i K a w := by
 obtain ⟨he, hw0⟩ := hA.sees hO ho hedge
 have hy : ∀ ts, Region.wanted o (yielded full ts) = Region.wanted o (yielded ops ts) := fun ts => by
  unfold Region.wanted
  cases hg : o.guard with
  | none => rfl
  | some gw =>
   obtain ⟨g, want⟩ := gw
   have : yielded full ts g = yielded ops ts g := by unfold yielded; rw [hfull g (hgd ho hg)]
   simp only [this]
 refine wpOp_step (by rw [hfull i hip]; exact ho) (fun K' hK => ?_)
 rw [hy, hw0, if_pos hw]
 unfold Oper.wp
 rw [he, hx]
 refine Calls.mono hc ?_
 rintro e w' ⟨v, rfl, hr⟩
 exact hK _ _ (hnext v w' hr)
/-- Others than the first one do not hang on what it will answer. -/
theorem Agree.other {n : Nat} {v v' : Value} {qs : List Kind} (hO : Orderly ops (.call v :: qs) n) (hO' : Orderly ops (.call v' :: qs) n) (hn : n = a₀.tmps.size) {l : Array Bool} {J : Nat → Nat} {a : Act} (h : Agree ops (.call v :: qs) a₀ l J a) (h0 : l.getD 0 false = false) : Agree ops (.call v' :: qs) a₀ l J a := by
 refine ⟨h.defers, h.size, fun d hd => ?_⟩
 rw [h.slots d hd]
 by_cases hw : ∃ (j : Nat) (oj : Oper), ops[j]? = some oj ∧ oj.dst = some d
 ·obtain ⟨j, oj, hj, hdj⟩ := hw
  have hl := hd j oj hj hdj
  cases j with
  | zero => rw [h0] at hl; cases hl
  | succ j =>
   obtain ⟨kj, hkj⟩ := kind_at hO hj
   have hkj' : (Kind.call v' :: qs)[j + 1]? = some kj := by simpa using hkj
   rw [fill_one hO hn J hj hkj hdj, fill_one hO' hn J hj hkj' hdj]
 ·have hno : ∀ o' ∈ ops.toList, o'.dst ≠ some d := fun o' ho' hd' => by
   obtain ⟨j, hj, ej⟩ := List.getElem_of_mem ho'
   exact hw ⟨j, o', by rw [← Array.getElem?_toList, List.getElem?_eq_getElem hj, ej], hd'⟩
  rw [fill_other J d 0 _ _ _ hno, fill_other J d 0 _ _ _ hno]
theorem low_ready {full : Array Oper} {p x : Nat} (hwt : ∀ {i : Nat} {o : Oper}, full[i]? = some o → p ≤ i → ∀ j, j < i → waits o j = true) {l : Array Bool} (hx : x < p) (hxf : l.getD x false = false) : ∀ i ∈ Region.ready .any full l, i < p := fun i hi => by
 obtain ⟨_, o, ho, hedge⟩ := mem_ready.1 hi
 rcases Nat.lt_or_ge i p with h' | h'
 ·exact h'
 ·have := waits_spec (hwt ho h' x (by omega)) hedge
  rw [hxf] at this
  cases this
theorem some_ready {full : Array Oper} {x : Nat} (hup : ∀ {i : Nat} {o : Oper}, full[i]? = some o → ∀ e ∈ o.after, Region.binds .any e = true → e.on < i) {l : Array Bool} (hsz : l.size = full.size) (hx : x < full.size) (hxf : l.getD x false = false) : Region.ready .any full l ≠ [] := fun hr => by
 have : ∀ i, i < full.size → l.getD i false = true := by
  intro i
  induction i using Nat.strongRecOn with
  | _ i ih2 =>
   intro hi
   have hi' : i < l.size := by omega
   cases hl : l.getD i true with
   | true => simpa [hi'] using hl
   | false =>
    exfalso
    have : i ∈ Region.ready .any full l := mem_ready.2 ⟨hl, full[i], Array.getElem?_eq_getElem hi, fun e he hb => by
     have h1 := hup (Array.getElem?_eq_getElem hi) e he hb
     exact ih2 e.on h1 (by omega)⟩
    rw [hr] at this
    cases this
 rw [this x hx] at hxf
 cases hxf
theorem rest_count {full : Array Oper} {p : Nat} {l : Array Bool} (hs : l.size = full.size) (hl : ∀ i, p ≤ i → i < full.size → l.getD i true = false) : full.size - p ≤ l.toList.count false := by
 have h3 : ∀ (m : Nat) (l : Array Bool), l.size = full.size → m ≤ full.size - p → (∀ i, full.size - m ≤ i → i < full.size → l.getD i true = false) → m ≤ l.toList.count false := by
  intro m
  induction m with
  | zero => intro l _ _ _; omega
  | succ m ih =>
   intro l hs hm hl
   have h4 := count_set (hl (full.size - (m + 1)) (Nat.le_refl _) (by omega))
   have h5 := ih (l.setIfInBounds (full.size - (m + 1)) true) (by simp [hs]) (by omega) (fun i hi1 hi2 => by rw [getD_set_ne true (by omega)]; exact hl i (by omega) hi2)
   omega
 exact h3 (full.size - p) l hs (Nat.le_refl _) (fun i hi1 hi2 => hl i (by omega) hi2)
/-- Behind the call: the other ones, in no order, then the rest. -/
theorem open_after {full : Array Oper} {ks : List Kind} {n p : Nat} (hO : Orderly ops ks n) (hn : n = a₀.tmps.size) (hp : ops.size = p) (hpf : p ≤ full.size) (hfull : ∀ i, i < p → full[i]? = ops[i]?) (hgd : ∀ {i : Nat} {o : Oper} {g : Nat} {b : Bool}, ops[i]? = some o → o.guard = some (g, b) → g < p)
  (hup : ∀ {i : Nat} {o : Oper}, full[i]? = some o → ∀ e ∈ o.after, Region.binds .any e = true → e.on < i)
  (hwt : ∀ {i : Nat} {o : Oper}, full[i]? = some o → p ≤ i → ∀ j, j < i → waits o j = true) {J : Nat → Nat} {w : World}
  (hqs : ∀ {i : Nat} {o : Oper}, 0 < i → ops[i]? = some o → ∃ v, ks[i]? = some (.q v) ∧ Region.wanted o (yielded ops (zZ J 0 ops.toList ks a₀).tmps) = true ∧ (execOp (zZ J 0 ops.toList ks a₀).eval o).run P w = .ok (.value v) w)
  (hend : wpOps P full Q (List.range' p (full.size - p)) (zZ J 0 ops.toList ks a₀) w) :
  ∀ (fuel : Nat) (l : Array Bool) (a : Act), l.size = full.size → l.toList.count false ≤ fuel → l.getD 0 false = true → (∀ i, p ≤ i → i < full.size → l.getD i true = false) → Agree ops ks a₀ l J a → wpAny P .any full Q fuel l a w := by
 intro fuel
 induction fuel with
 | zero =>
  intro l a hsz hc h0 hu hA
  have hall : ∀ i, i < p → l.getD i false = true := fun i hi => by
   cases hb : l.getD i true with
   | false => have := count_set hb; omega
   | true =>
    have hi' : i < l.size := by omega
    simpa [hi'] using hb
  have := rest_count hsz hu
  rw [whole_of hp hA hall]
  exact rest_any p hup (fun ho hp j hj => waitsQ_of (hwt ho hp j hj)) (full.size - p) 0 p l _ w (by omega) (Nat.le_refl _) hsz (by omega) hall hu hend
 | succ fuel ih =>
  intro l a hsz hc h0 hu hA
  have hct := rest_count hsz hu
  by_cases hall : ∀ i, i < p → l.getD i false = true
  ·rw [whole_of hp hA hall]
   exact rest_any p hup (fun ho hp j hj => waitsQ_of (hwt ho hp j hj)) (full.size - p) (fuel + 1) p l _ w (by omega) (Nat.le_refl _) hsz (by omega) hall hu hend
  ·have hex : ∃ x, x < p ∧ l.getD x false = false := by
    apply Classical.byContradiction
    intro hno
    apply hall
    intro i hi
    cases hb : l.getD i false with
    | true => rfl
    | false => exact absurd ⟨i, hi, hb⟩ hno
   obtain ⟨x, hx, hxf⟩ := hex
   refine ⟨fun hr => absurd hr (some_ready hup hsz (by omega) hxf), fun i hi => ?_⟩
   have hip := low_ready hwt hx hxf i hi
   obtain ⟨hun, o, ho, hedge⟩ := mem_ready.1 hi
   have ho' : ops[i]? = some o := by rw [← hfull i hip]; exact ho
   have hc' := count_set hun
   have hi0 : 0 < i := by
    rcases Nat.eq_zero_or_pos i with h | h
    ·subst h
     rw [(getD_same hun).1] at h0
     cases h0
    ·exact h
   obtain ⟨v, hk, hok⟩ := hqs hi0 ho'
   exact quiet_step hO hn hfull hgd hA hip ho' hk hedge hok (fun hA' => ih _ _ (by simp [hsz]) (by omega) (by rw [getD_set_ne false (by omega)]; exact h0) (fun j hj hj2 => by rw [getD_set_ne true (by omega)]; exact hu j hj hj2) hA')
/-- **The law**: the first operation is a call; what it answers, and leaves, is known behind it alone. -/
theorem region_open {full : Array Oper} {id : Nat} {a : Act} {w : World} (hm : P.follows .mixedOrders = true) (p : Nat) (qs : List Kind) (pre : List Oper) (F : Value → Act) (R : Value → World → Prop) (hpre : full.toList.take p = pre)
  (hF : ∀ v J, zZ J 0 pre (.call v :: qs) a = F v) (hor : ∀ v, (orderly pre.toArray (.call v :: qs) a.tmps.size && guarded pre.toArray p && chained0 full p && decide (p ≤ full.size) && decide (0 < p)) = true)
  {o0 : Oper} (ho0 : pre[0]? = some o0) (hw0 : Region.wanted o0 (yielded pre.toArray (F undef).tmps) = true)
  (hx0 : ∀ w', Below w.heap.size w w' → ∃ f args, (execOp (F undef).eval o0).run P w' = .ok (.enter f args) w' ∧ Calls P f args w' (fun e w'' => ∃ v, e = .returned v ∧ Below w'.heap.size w' w'' ∧ R v w''))
  (hqs : ∀ v w', Below w.heap.size w w' → ∀ {i : Nat} {o : Oper}, 0 < i → pre[i]? = some o → ∃ u, (Kind.call v :: qs)[i]? = some (.q u) ∧ Region.wanted o (yielded pre.toArray (F v).tmps) = true ∧ (execOp (F v).eval o).run P w' = .ok (.value u) w')
  (hend : ∀ v w', Below w.heap.size w w' → R v w' → wpOps P full Q (List.range' p (full.size - p)) (F v) w') :
  (Code.region id full true).wp P Q a w := by
 subst hpre
 rw [← take_arr] at hor hw0 hqs
 have hor0 := hor undef
 simp only [Bool.and_eq_true, decide_eq_true_eq] at hor0
 obtain ⟨⟨⟨⟨_, h2⟩, h3⟩, h4⟩, hp0⟩ := hor0
 have hOr : ∀ v, Orderly (full.extract 0 p) (.call v :: qs) a.tmps.size := fun v => by
  have h := hor v
  simp only [Bool.and_eq_true, decide_eq_true_eq] at h
  exact Orderly.of h.1.1.1.1
 unfold chained0 at h3
 simp only [Bool.and_eq_true] at h3
 obtain ⟨h5, h6⟩ := h3
 have hup : ∀ {i : Nat} {o : Oper}, full[i]? = some o → ∀ e ∈ o.after, Region.binds .any e = true → e.on < i := fun ho e he hb => by
  have := Array.all_eq_true_iff_forall_mem.1 (zR h5 ho) e he
  simpa [hb] using this
 have hwt : ∀ {i : Nat} {o : Oper}, full[i]? = some o → p ≤ i → ∀ j, j < i → waits o j = true := fun ho hi j hj => by
  have := zR h6 ho
  simp only [Bool.or_eq_true, decide_eq_true_eq] at this
  rcases this with h7 | h7
  ·omega
  ·exact List.all_eq_true.1 h7 j (List.mem_range.2 hj)
 have hgd : ∀ {i : Nat} {o : Oper} {g : Nat} {b : Bool}, (full.extract 0 p)[i]? = some o → o.guard = some (g, b) → g < p := fun ho hg => guarded_spec h2 ho hg
 have hpl : (full.extract 0 p).toList = full.toList.take p := by rw [take_arr]
 have hFe : ∀ v J, zZ J 0 (full.extract 0 p).toList (.call v :: qs) a = F v := fun v J => by rw [hpl]; exact hF v J
 have at_ : ∀ {i : Nat} {o : Oper}, (full.extract 0 p)[i]? = some o → (full.toList.take p)[i]? = some o := fun {i o} h => by rw [← hpl, Array.getElem?_toList]; exact h
 have hsz : (full.extract 0 p).size = p := by simp; omega
 have main : ∀ (fuel : Nat) (l : Array Bool) (a' : Act) (w' : World), l.size = full.size → l.toList.count false ≤ fuel → l.getD 0 true = false → (∀ i, p ≤ i → i < full.size → l.getD i true = false) → Agree (full.extract 0 p) (.call undef :: qs) a l (fun _ => 0) a' → Below w.heap.size w w' → wpAny P .any full Q fuel l a' w' := by
  intro fuel
  induction fuel with
  | zero =>
   intro l a' w' hs hc h0 _ _ _
   have := count_set h0
   omega
  | succ fuel ih =>
   intro l a' w' hs hc h0 hu hA hB
   have hf0 : l.getD 0 false = false := (getD_same h0).1
   refine ⟨fun hr => absurd hr (some_ready hup hs (by omega) hf0), fun i hi => ?_⟩
   have hip := low_ready hwt hp0 hf0 i hi
   obtain ⟨hun, o, ho, hedge⟩ := mem_ready.1 hi
   have ho' : (full.extract 0 p)[i]? = some o := by rw [← first_full hip]; exact ho
   have hc' := count_set hun
   rcases Nat.eq_zero_or_pos i with hi0 | hi0
   ·subst hi0
    have e0 : o = o0 := by
     have := (at_ ho').symm.trans ho0
     injection this
    subst e0
    obtain ⟨f, args, hx, hcl⟩ := hx0 w' hB
    refine enter_step (hOr undef) (fun i hi => first_full hi) hgd hA hip ho' hedge (by rw [hFe]; exact hw0) (by rw [hFe]; exact hx) hcl (fun v w2 hR => ?_)
    have hB2 : Below w.heap.size w w2 := hB.trans (hR.1.mono hB.size)
    have hA2 := (hA.other (hOr undef) (hOr v) rfl hf0).step (hOr v) rfl ho' (k := .call v) rfl (J' := fun _ => 0) (fun _ _ _ _ => rfl)
    refine open_after (hOr v) rfl hsz h4 (fun i hi => first_full hi) hgd hup hwt (J := fun _ => 0) (fun {j oj} hj hoj => ?_) ?_ fuel _ _ (by simp [hs]) (by omega) ((getD_same hun).2) (fun j hj hj2 => by rw [getD_set_ne true (by omega)]; exact hu j hj hj2) hA2
    ·rw [hFe]
     exact hqs v w2 hB2 hj (at_ hoj)
    ·rw [hFe]
     exact hend v w2 hB2 hR.2
   ·obtain ⟨u, hk, hok⟩ := hqs undef w' hB hi0 (at_ ho')
    exact quiet_step (hOr undef) rfl (fun i hi => first_full hi) hgd hA hip ho' hk hedge (by rw [hFe]; exact hok) (fun hA' => ih _ _ w' (by simp [hs]) (by omega) (by rw [getD_set_ne true (by omega)]; exact h0) (fun j hj hj2 => by rw [getD_set_ne true (by omega)]; exact hu j hj hj2) hA' hB)
 exact wp_region_any hm (main full.size _ a w.drew (by simp) (by simp) (none_listed' (by omega)) (fun i _ hi => none_listed' hi) (start_agree _ _) (Below.refl _ _).drew)
end
end Rg
end Go.Proofs.YtmanelnacifgcaaGreatDoor
end
section
namespace Go.Proofs.YtmanelnacifgcaaGreatDoor
namespace NT
/-- A prime. -/
def Prm (p : Nat) : Prop := 1 < p ∧ ∀ d, d ∣ p → d = 1 ∨ d = p
theorem Prm.cop {p : Nat} (h : Prm p) {a : Nat} (ha : ¬ p ∣ a) : Nat.Coprime p a := by
 rcases h.2 (Nat.gcd p a) (Nat.gcd_dvd_left p a) with h1 | h1
 ·exact h1
 ·exact absurd (h1 ▸ Nat.gcd_dvd_right p a) ha
theorem Prm.mul {p a b : Nat} (h : Prm p) (hd : p ∣ a * b) : p ∣ a ∨ p ∣ b := by
 by_cases ha : p ∣ a
 ·exact Or.inl ha
 ·exact Or.inr ((h.cop ha).dvd_of_dvd_mul_left hd)
theorem Prm.pos {p : Nat} (h : Prm p) : 0 < p := by have := h.1; omega
/-- Each number above 1 has a prime that divides it. -/
theorem prm_dvd (n : Nat) (h : 1 < n) : ∃ q, Prm q ∧ q ∣ n := by
 induction n using Nat.strongRecOn with
 | ind n ih =>
  by_cases hp : ∃ d, d ∣ n ∧ d ≠ 1 ∧ d ≠ n
  ·obtain ⟨d, hd, h1, h2⟩ := hp
   have hle := Nat.le_of_dvd (by omega) hd
   have h0 : d ≠ 0 := by
    intro e; rw [e] at hd; have := Nat.eq_zero_of_zero_dvd hd; omega
   obtain ⟨q, hq, hqd⟩ := ih d (by omega) (by omega)
   exact ⟨q, hq, Nat.dvd_trans hqd hd⟩
  ·refine ⟨n, ⟨h, ?_⟩, Nat.dvd_refl n⟩
   intro d hd
   by_cases h1 : d = 1
   ·exact Or.inl h1
   ·by_cases h2 : d = n
    ·exact Or.inr h2
    ·exact absurd ⟨d, hd, h1, h2⟩ hp
/-! Binomials. -/
def ch : Nat → Nat → Nat
 | _, 0 => 1
 | 0, _ + 1 => 0
 | n + 1, k + 1 => ch n k + ch n (k + 1)
theorem ch_zero (n : Nat) : ch n 0 = 1 := by cases n <;> rfl
theorem ch_big (n : Nat) : ∀ k, n < k → ch n k = 0 := by
 induction n with
 | zero => intro k hk; cases k with
  | zero => omega
  | succ k => rfl
 | succ n ih => intro k hk; cases k with
  | zero => omega
  | succ k => show ch n k + ch n (k + 1) = 0; rw [ih k (by omega), ih (k + 1) (by omega)]
theorem ch_self (n : Nat) : ch n n = 1 := by
 induction n with
 | zero => rfl
 | succ n ih => show ch n n + ch n (n + 1) = 1; rw [ih, ch_big n (n + 1) (by omega)]
theorem ch_absorb (n : Nat) : ∀ k, (k + 1) * ch (n + 1) (k + 1) = (n + 1) * ch n k := by
 induction n with
 | zero =>
  intro k
  cases k with
  | zero => rfl
  | succ k =>
   rw [ch_big 1 (k + 1 + 1) (by omega), ch_big 0 (k + 1) (by omega)]; omega
 | succ n ih =>
  intro k
  cases k with
  | zero =>
   have h := ih 0
   show (0 + 1) * (ch (n + 1) 0 + ch (n + 1) (0 + 1)) = _
   rw [Nat.mul_add, h, ch_zero, ch_zero]; omega
  | succ k =>
   have h1 := ih k
   have h2 := ih (k + 1)
   show (k + 1 + 1) * (ch (n + 1) (k + 1) + ch (n + 1) (k + 1 + 1)) = (n + 1 + 1) * (ch (n + 1) (k + 1))
   rw [Nat.mul_add, h2]
   have e : ch (n + 1) (k + 1) = ch n k + ch n (k + 1) := rfl
   rw [Nat.add_mul (k + 1) 1, h1, Nat.add_mul (n + 1) 1 (ch (n + 1) (k + 1))]
   have e' : (n + 1) * ch (n + 1) (k + 1) = (n + 1) * ch n k + (n + 1) * ch n (k + 1) := by rw [e, Nat.mul_add]
   omega
theorem ch_dvd {p : Nat} (hp : Prm p) (k : Nat) (h0 : 0 < k) (hk : k < p) : p ∣ ch p k := by
 obtain ⟨k, rfl⟩ : ∃ j, k = j + 1 := ⟨k - 1, by omega⟩
 obtain ⟨n, rfl⟩ : ∃ j, p = j + 1 := ⟨p - 1, by omega⟩
 have h : n + 1 ∣ (k + 1) * ch (n + 1) (k + 1) := ⟨ch n k, ch_absorb n k⟩
 rcases hp.mul h with h1 | h1
 ·have := Nat.le_of_dvd (by omega) h1; omega
 ·exact h1
def sm (f : Nat → Nat) : Nat → Nat
 | 0 => 0
 | n + 1 => sm f n + f n
theorem sm_first (f : Nat → Nat) (n : Nat) : sm f (n + 1) = f 0 + sm (fun k => f (k + 1)) n := by
 induction n with
 | zero => simp [sm]
 | succ n ih => rw [sm, ih]; simp only [sm]; omega
theorem sm_add (f g : Nat → Nat) (n : Nat) : sm (fun k => f k + g k) n = sm f n + sm g n := by
 induction n with
 | zero => rfl
 | succ n ih => simp only [sm]; rw [ih]; omega
theorem sm_mul (f : Nat → Nat) (c n : Nat) : sm (fun k => c * f k) n = c * sm f n := by
 induction n with
 | zero => rfl
 | succ n ih => simp only [sm]; rw [ih, Nat.mul_add]
theorem sm_congr (f g : Nat → Nat) (n : Nat) (h : ∀ k, k < n → f k = g k) : sm f n = sm g n := by
 induction n with
 | zero => rfl
 | succ n ih => simp only [sm]; rw [ih (fun k hk => h k (by omega)), h n (by omega)]
theorem sm_dvd (f : Nat → Nat) (p n : Nat) (h : ∀ k, k < n → p ∣ f k) : p ∣ sm f n := by
 induction n with
 | zero => exact Nat.dvd_zero p
 | succ n ih => exact Nat.dvd_add (ih (fun k hk => h k (by omega))) (h n (by omega))
theorem binom (a n : Nat) : (a + 1) ^ n = sm (fun k => ch n k * a ^ k) (n + 1) := by
 induction n with
 | zero => simp [sm, ch]
 | succ n ih =>
  rw [Nat.pow_succ, ih, Nat.mul_add, Nat.mul_one]
  rw [sm_first (fun k => ch (n + 1) k * a ^ k) (n + 1)]
  have e : ∀ k, ch (n + 1) (k + 1) * a ^ (k + 1) = a * (ch n k * a ^ k) + ch n (k + 1) * a ^ (k + 1) := by
   intro k
   show (ch n k + ch n (k + 1)) * a ^ (k + 1) = _
   rw [Nat.add_mul, Nat.pow_succ]
   congr 1
   rw [Nat.mul_comm (a ^ k) a, Nat.mul_left_comm]
  have e1 : sm (fun k => ch (n + 1) (k + 1) * a ^ (k + 1)) (n + 1)
    = a * sm (fun k => ch n k * a ^ k) (n + 1) + sm (fun k => ch n (k + 1) * a ^ (k + 1)) (n + 1) := by
   rw [← sm_mul, ← sm_add]
   exact sm_congr _ _ _ (fun k _ => e k)
  rw [e1]
  have e2 : sm (fun k => ch n k * a ^ k) (n + 1) = 1 + sm (fun k => ch n (k + 1) * a ^ (k + 1)) (n + 1) := by
   rw [sm_first (fun k => ch n k * a ^ k) n]
   have : sm (fun k => ch n (k + 1) * a ^ (k + 1)) (n + 1) = sm (fun k => ch n (k + 1) * a ^ (k + 1)) n + ch n (n + 1) * a ^ (n + 1) := rfl
   rw [this, ch_big n (n + 1) (by omega), ch_zero]
   simp
  rw [ch_zero, Nat.pow_zero, Nat.mul_comm _ a]
  omega
theorem dream {p : Nat} (hp : Prm p) (a : Nat) : (a + 1) ^ p % p = (a ^ p + 1) % p := by
 obtain ⟨n, rfl⟩ : ∃ j, p = j + 1 := ⟨p - 1, by have := hp.1; omega⟩
 rw [binom, sm, sm_first]
 obtain ⟨c, hc⟩ := sm_dvd (fun k => ch (n + 1) (k + 1) * a ^ (k + 1)) (n + 1) n
  (fun k hk => Nat.dvd_trans (ch_dvd hp (k + 1) (by omega) (by omega)) (Nat.dvd_mul_right _ _))
 rw [hc, ch_self, ch_zero, Nat.pow_zero]
 have : 1 * 1 + (n + 1) * c + 1 * a ^ (n + 1) = (a ^ (n + 1) + 1) + (n + 1) * c := by omega
 rw [this, Nat.add_mul_mod_self_left]
theorem fermat {p : Nat} (hp : Prm p) (a : Nat) : a ^ p % p = a % p := by
 induction a with
 | zero => rw [Nat.zero_pow hp.pos]
 | succ a ih => rw [dream hp, Nat.add_mod, ih, ← Nat.add_mod]
theorem fermat1 {p : Nat} (hp : Prm p) (a : Nat) (ha : ¬ p ∣ a) : a ^ (p - 1) % p = 1 := by
 have h := fermat hp a
 obtain ⟨n, rfl⟩ : ∃ j, p = j + 1 := ⟨p - 1, by have := hp.1; omega⟩
 rw [Nat.add_sub_cancel]
 rw [Nat.pow_succ] at h
 have hn : 0 < n := by have := hp.1; omega
 have h1 : 1 ≤ a ^ n := Nat.one_le_iff_ne_zero.mpr (fun e => by
  rcases Nat.pow_eq_zero.mp e with ⟨e1, -⟩
  rw [e1] at ha; exact ha (Nat.dvd_zero _))
 have h2 : n + 1 ∣ (a ^ n - 1) * a := by
  rw [Nat.sub_mul, Nat.one_mul]
  exact Nat.dvd_of_mod_eq_zero (Nat.sub_mod_eq_zero_of_mod_eq h)
 rcases hp.mul h2 with h3 | h3
 ·obtain ⟨c, hc⟩ := h3
  have : a ^ n = 1 + (n + 1) * c := by omega
  rw [this, Nat.add_mul_mod_self_left, Nat.mod_eq_of_lt hp.1]
 ·exact absurd h3 ha
/-! Orders. -/
theorem least (P : Nat → Prop) (n : Nat) (h : P n) : ∃ m, P m ∧ ∀ k, k < m → ¬ P k := by
 induction n using Nat.strongRecOn with
 | ind n ih =>
  by_cases hk : ∃ k, k < n ∧ P k
  ·obtain ⟨k, h1, h2⟩ := hk
   exact ih k h1 h2
  ·exact ⟨n, h, fun k h1 h2 => hk ⟨k, h1, h2⟩⟩
theorem order {d : Nat} (hd : Prm d) (a : Nat) (ha : ¬ d ∣ a) :
  ∃ e, e ∣ d - 1 ∧ a ^ e % d = 1 ∧ ∀ m, a ^ m % d = 1 → e ∣ m := by
 obtain ⟨e, ⟨h0, h1⟩, h2⟩ := least (fun e => 0 < e ∧ a ^ e % d = 1) (d - 1) ⟨by have := hd.1; omega, fermat1 hd a ha⟩
 have h3 : ∀ m, a ^ m % d = 1 → e ∣ m := by
  intro m hm
  by_cases hr : m % e = 0
  ·exact Nat.dvd_of_mod_eq_zero hr
  ·exfalso
   refine h2 (m % e) (Nat.mod_lt _ h0) ⟨by omega, ?_⟩
   have e1 : a ^ m = (a ^ e) ^ (m / e) * a ^ (m % e) := by
    rw [← Nat.pow_mul, ← Nat.pow_add, Nat.div_add_mod]
   rw [e1, Nat.mul_mod, Nat.pow_mod, h1, Nat.one_pow, Nat.mod_eq_of_lt hd.1, Nat.one_mul, Nat.mod_mod] at hm
   exact hm
 exact ⟨e, h3 _ (fermat1 hd a ha), h1, h3⟩
/-- Pocklington: each prime that divides N leaves 1 by F. -/
theorem pock {N M F a d : Nat} (qs : List Nat) (hM : N = M + 1) (hF : F ∣ M) (hd : Prm d) (hdN : d ∣ N) (h1 : a ^ M % N = 1)
  (hc : ∀ t, (∀ q, q ∈ qs → Nat.Coprime q t) → Nat.Coprime F t)
  (hq : ∀ q, q ∈ qs → Prm q ∧ q ∣ M ∧ Nat.Coprime (a ^ (M / q) % N + M) N) : F ∣ d - 1 := by
 have hmod : ∀ x, x % N % d = x % d := fun x => Nat.mod_mod_of_dvd x hdN
 have h1d : a ^ M % d = 1 := by rw [← hmod, h1, Nat.mod_eq_of_lt hd.1]
 have hM0 : M ≠ 0 := by
  intro e; rw [e] at hM; rw [hM] at hdN; have := Nat.dvd_one.mp hdN; have := hd.1; omega
 have ha : ¬ d ∣ a := by
  intro h
  have h2 : d ∣ a ^ M := Nat.dvd_trans h (by
   obtain ⟨k, hk⟩ : ∃ k, M = k + 1 := ⟨M - 1, by omega⟩
   rw [hk, Nat.pow_succ]; exact Nat.dvd_mul_left _ _)
  have := Nat.mod_eq_zero_of_dvd h2
  omega
 obtain ⟨e, h2, h3, h4⟩ := order hd a ha
 obtain ⟨t, ht⟩ := h4 M h1d
 have hcop : Nat.Coprime F t := by
  refine hc t (fun q hqm => ?_)
  obtain ⟨g1, g2, g3⟩ := hq q hqm
  refine g1.cop (fun hqt => ?_)
  obtain ⟨s, hs⟩ := hqt
  have g4 : M / q = e * s := by
   rw [ht, hs, Nat.mul_left_comm, Nat.mul_div_cancel_left _ g1.pos]
  have g5 : a ^ (M / q) % d = 1 := by
   rw [g4, Nat.pow_mul, Nat.pow_mod, h3, Nat.one_pow, Nat.mod_eq_of_lt hd.1]
  have g6 : d ∣ a ^ (M / q) % N + M := by
   refine Nat.dvd_of_mod_eq_zero ?_
   rw [Nat.add_mod, hmod, g5, ← Nat.mod_eq_of_lt hd.1, ← Nat.add_mod, Nat.add_comm 1 M, ← hM]
   exact Nat.mod_eq_zero_of_dvd hdN
  have g7 := Nat.dvd_gcd g6 hdN
  rw [g3] at g7
  have := Nat.dvd_one.mp g7; have := hd.1; omega
 have h5 : F ∣ e := hcop.dvd_of_dvd_mul_right (ht ▸ hF)
 exact Nat.dvd_trans h5 h2
/-- A number whose prime divisors all leave 1 by F, F F above it, is prime. -/
theorem prm_of {N F : Nat} (hN : 1 < N) (hF : N < F * F) (h : ∀ d, Prm d → d ∣ N → F ∣ d - 1) : Prm N := by
 obtain ⟨d, hd, hdN⟩ := prm_dvd N hN
 by_cases e : d = N
 ·exact e ▸ hd
 ·exfalso
  obtain ⟨c, hc⟩ := hdN
  have hc1 : 1 < c := by
   rcases c with _ | _ | c
   ·omega
   ·omega
   ·omega
  obtain ⟨d', hd', hdc⟩ := prm_dvd c hc1
  have g1 : F ≤ d - 1 := Nat.le_of_dvd (by have := hd.1; omega) (h d hd ⟨c, hc⟩)
  have g2 : F ≤ d' - 1 := Nat.le_of_dvd (by have := hd'.1; omega) (h d' hd' (Nat.dvd_trans hdc ⟨d, by rw [hc, Nat.mul_comm]⟩))
  have g3 := Nat.le_of_dvd (by omega) hdc
  have g4 : F * F ≤ d * c := Nat.mul_le_mul (by omega) (by omega)
  omega
/-- All divisors leave 1 by F. -/
theorem all_one {N F : Nat} (h : ∀ d, Prm d → d ∣ N → F ∣ d - 1) : ∀ c, 0 < c → c ∣ N → F ∣ c - 1 := by
 intro c
 induction c using Nat.strongRecOn with
 | ind c ih =>
  intro h0 hc
  by_cases h1 : c = 1
  ·rw [h1]; exact Nat.dvd_zero F
  ·obtain ⟨d, hd, hdc⟩ := prm_dvd c (by omega)
   obtain ⟨b, hb⟩ := hdc
   have hb0 : 0 < b := by
    rcases b with _ | b
    ·omega
    ·omega
   have g1 := h d hd (Nat.dvd_trans ⟨b, hb⟩ hc)
   have hlt : b < c := by
    have := hd.1
    have : 2 * b ≤ d * b := Nat.mul_le_mul (by omega) (Nat.le_refl b)
    omega
   have g2 := ih b hlt hb0 (Nat.dvd_trans ⟨d, by rw [hb, Nat.mul_comm]⟩ hc)
   obtain ⟨x, hx⟩ := g1
   obtain ⟨y, hy⟩ := g2
   have ed : d = F * x + 1 := by have := hd.1; omega
   have eb : b = F * y + 1 := by omega
   refine ⟨F * x * y + x + y, ?_⟩
   have : (F * x + 1) * (F * y + 1) = F * (F * x * y + x + y) + 1 := by grind
   rw [hb, ed, eb, this, Nat.add_sub_cancel]
/-- Of a number below F F F: with c1, c2 its digits by F, and c1 c1 - 4 c2 no square, it is prime. -/
theorem prm_cube {N F c1 c2 s : Nat} (hN : 1 < N) (hF : 1 < F) (e : N = 1 + F * c1 + F * F * c2) (h1 : c1 < F) (h2 : c2 + 1 < F)
  (hs : s * s + 4 * c2 < c1 * c1) (hs2 : c1 * c1 < (s + 1) * (s + 1) + 4 * c2)
  (h : ∀ d, Prm d → d ∣ N → F ∣ d - 1) : Prm N := by
 have hall := all_one h
 refine ⟨hN, fun d hd => ?_⟩
 obtain ⟨c, hc⟩ := hd
 have hd0 : 0 < d := by
  rcases d with _ | d
  ·rw [Nat.zero_mul] at hc; omega
  ·omega
 have hc0 : 0 < c := by
  rcases c with _ | c
  ·rw [Nat.mul_zero] at hc; omega
  ·omega
 obtain ⟨x, hx⟩ := hall d hd0 ⟨c, hc⟩
 obtain ⟨y, hy⟩ := hall c hc0 ⟨d, by rw [hc, Nat.mul_comm]⟩
 have ed : d = F * x + 1 := by omega
 have ec : c = F * y + 1 := by omega
 by_cases hx0 : x = 0
 ·left; rw [ed, hx0]; omega
 by_cases hy0 : y = 0
 ·right; rw [hc, ec, hy0]; simp
 exfalso
 have e1 : 1 + F * c1 + F * F * c2 = 1 + F * (x + y) + F * F * (x * y) := by
  rw [← e, hc, ed, ec]
  grind
 have e2 : c1 + F * c2 = (x + y) + F * (x * y) := by
  have : F * (c1 + F * c2) = F * ((x + y) + F * (x * y)) := by
   grind
  exact Nat.eq_of_mul_eq_mul_left (by omega) this
 -- x y is at most c2 + something: bring both below F
 have hxy : x * y ≤ c2 := by
  rcases Nat.lt_or_ge c2 (x * y) with h5 | h5
  ·exfalso
   have : F * (c2 + 1) ≤ F * (x * y) := Nat.mul_le_mul (Nat.le_refl F) h5
   have : F * (c2 + 1) = F * c2 + F := by rw [Nat.mul_add, Nat.mul_one]
   omega
  ·exact h5
 have hsum : x + y ≤ x * y + 1 := by
  obtain ⟨x', rfl⟩ : ∃ k, x = k + 1 := ⟨x - 1, by omega⟩
  obtain ⟨y', rfl⟩ : ∃ k, y = k + 1 := ⟨y - 1, by omega⟩
  have : (x' + 1) * (y' + 1) = x' * y' + x' + y' + 1 := by grind
  omega
 have hxye : x * y = c2 := by
  rcases Nat.lt_or_ge (x * y) c2 with h5 | h5
  ·exfalso
   have : F * (x * y + 1) ≤ F * c2 := Nat.mul_le_mul (Nat.le_refl F) h5
   have : F * (x * y + 1) = F * (x * y) + F := by rw [Nat.mul_add, Nat.mul_one]
   omega
  ·omega
 have hs1 : x + y = c1 := by rw [hxye] at e2; omega
 -- (x - y)^2 = c1 c1 - 4 c2
 rcases Nat.le_total x y with hle | hle
 ·obtain ⟨k, hk⟩ : ∃ k, y = x + k := ⟨y - x, by omega⟩
  have hsq : c1 * c1 = k * k + 4 * c2 := by rw [← hs1, ← hxye, hk]; grind
  have a1 : s * s < k * k := by omega
  have a2 : k * k < (s + 1) * (s + 1) := by omega
  have b1 : s < k := Nat.mul_self_lt_mul_self_iff.mp a1
  have b2 : k < s + 1 := Nat.mul_self_lt_mul_self_iff.mp a2
  omega
 ·obtain ⟨k, hk⟩ : ∃ k, x = y + k := ⟨x - y, by omega⟩
  have hsq : c1 * c1 = k * k + 4 * c2 := by rw [← hs1, ← hxye, hk]; grind
  have a1 : s * s < k * k := by omega
  have a2 : k * k < (s + 1) * (s + 1) := by omega
  have b1 : s < k := Nat.mul_self_lt_mul_self_iff.mp a1
  have b2 : k < s + 1 := Nat.mul_self_lt_mul_self_iff.mp a2
  omega
/-! Powers by squaring, for the kernel. -/
def pm (N : Nat) : Nat → Nat → Nat → Nat → Nat
 | 0, _, _, acc => acc
 | f + 1, b, e, acc => pm N f (b * b % N) (e / 2) (if e % 2 = 1 then acc * b % N else acc)
theorem pm_spec (N : Nat) (f : Nat) : ∀ b e acc, e < 2 ^ f → pm N f b e acc % N = acc * b ^ e % N := by
 induction f with
 | zero =>
  intro b e acc h
  have : e = 0 := by simpa using h
  rw [this, Nat.pow_zero, Nat.mul_one]; rfl
 | succ f ih =>
  intro b e acc h
  show pm N f (b * b % N) (e / 2) (if e % 2 = 1 then acc * b % N else acc) % N = _
  rw [ih _ _ _ (by rw [Nat.pow_succ] at h; omega)]
  have h1 : (b * b % N) ^ (e / 2) % N = b ^ (2 * (e / 2)) % N := by
   rw [← Nat.pow_mod, Nat.pow_mul, Nat.pow_two]
  rw [Nat.mul_mod, h1, ← Nat.mul_mod]
  by_cases he : e % 2 = 1
  ·rw [if_pos he, Nat.mul_mod, Nat.mod_mod, ← Nat.mul_mod, Nat.mul_assoc, ← Nat.pow_add_one']
   have : 2 * (e / 2) + 1 = e := by omega
   rw [this]
  ·rw [if_neg he]
   have : 2 * (e / 2) = e := by omega
   rw [this]
theorem pm_spec2 (N g h b e acc : Nat) (hh : e < 2 ^ g * 2 ^ h) : pm N (g + h) b e acc % N = acc * b ^ e % N :=
 pm_spec N (g + h) b e acc (by rw [Nat.pow_add]; exact hh)
theorem pm_eq {N a e c : Nat} (h : e < 2 ^ 256 * 2 ^ 256 ∧ pm N 512 a e 1 % N = c) : a ^ e % N = c := by
 have := pm_spec2 N 256 256 a e 1 h.1
 rw [Nat.one_mul] at this
 rw [← this]; exact h.2
theorem cop_pm {N a e M : Nat} (h : e < 2 ^ 256 * 2 ^ 256 ∧ Nat.gcd (pm N 512 a e 1 % N + M) N = 1) : Nat.Coprime (a ^ e % N + M) N := by
 have := pm_eq (N := N) (a := a) (e := e) ⟨h.1, rfl⟩
 rw [this]; exact h.2
/-! Trial division. -/
def tr (n : Nat) : Nat → Nat → Bool
 | 0, _ => true
 | f + 1, d => if n % d = 0 then false else tr n f (d + 1)
theorem tr_spec (n : Nat) (f : Nat) : ∀ d, tr n f d = true → ∀ c, d ≤ c → c < d + f → ¬ c ∣ n := by
 induction f with
 | zero => intro d _ c h1 h2; omega
 | succ f ih =>
  intro d h c h1 h2 hc
  unfold tr at h
  by_cases h0 : n % d = 0
  ·rw [if_pos h0] at h; exact absurd h (by decide)
  ·rw [if_neg h0] at h
   by_cases e : c = d
   ·rw [e] at hc; exact h0 (Nat.mod_eq_zero_of_dvd hc)
   ·exact ih (d + 1) h c (by omega) (by omega) hc
theorem prm_trial (n f : Nat) (h1 : 1 < n) (h2 : n < (f + 2) * (f + 2)) (h : n < 4 ∨ tr n f 2 = true) : Prm n := by
 refine ⟨h1, fun d hd => ?_⟩
 obtain ⟨c, hc⟩ := hd
 rcases h with h | h
 ·have hd2 : d = 1 ∨ d = n := by
   have hle := Nat.le_of_dvd (by omega) (⟨c, hc⟩ : d ∣ n)
   have h0 : d ≠ 0 := by
    intro e; rw [e, Nat.zero_mul] at hc; omega
   rcases d with _ | _ | _ | d
   ·exact absurd rfl h0
   ·left; rfl
   ·right
    have : n = 2 ∨ n = 3 := by omega
    rcases this with e | e
    ·omega
    ·omega
   ·right; omega
  exact hd2
 ·have key : ∀ x y, n = x * y → x ≤ y → x = 1 ∨ x = 0 := by
   intro x y e hle
   rcases Nat.lt_or_ge x 2 with g | g
   ·omega
   ·exfalso
    refine tr_spec n f 2 h x g ?_ ⟨y, e⟩
    rcases Nat.lt_or_ge x (2 + f) with g2 | g2
    ·exact g2
    ·exfalso
     have : (f + 2) * (f + 2) ≤ x * y := Nat.mul_le_mul (by omega) (by omega)
     omega
  rcases Nat.le_total d c with hle | hle
  ·rcases key d c hc hle with e | e
   ·exact Or.inl e
   ·rw [e, Nat.zero_mul] at hc; omega
  ·rcases key c d (by rw [hc, Nat.mul_comm]) hle with e | e
   ·right; rw [hc, e, Nat.mul_one]
   ·rw [e, Nat.mul_zero] at hc; omega
theorem pockp {N M F a d : Nat} (qs : List Nat) (hM : N = M + 1) (hF : F ∣ M) (hd : Prm d) (hdN : d ∣ N) (h1 : M < 2 ^ 256 * 2 ^ 256 ∧ pm N 512 a M 1 % N = 1)
  (hc : ∀ t, (∀ q, q ∈ qs → Nat.Coprime q t) → Nat.Coprime F t)
  (hq : ∀ q, q ∈ qs → Prm q ∧ q ∣ M ∧ M / q < 2 ^ 256 * 2 ^ 256 ∧ Nat.gcd (pm N 512 a (M / q) 1 % N + M) N = 1) : F ∣ d - 1 :=
 pock qs hM hF hd hdN (pm_eq h1) hc (fun q h => ⟨(hq q h).1, (hq q h).2.1, cop_pm (hq q h).2.2⟩)
theorem prm_7577 : Prm 7577 := prm_trial 7577 88 (by decide) (by decide) (by decide +kernel)
theorem prm_582767 : Prm 582767 := prm_trial 582767 764 (by decide) (by decide) (by decide +kernel)
theorem fac_9272813673901 : ∀ d, Prm d → d ∣ 9272813673901 → 4415625559 ∣ d - 1 := by
 intro d hd hdN
 refine pockp (N := 9272813673901) (M := 9272813673900) (F := 4415625559) (a := 2) [7577, 582767] (by decide) (by decide +kernel) hd hdN (by decide +kernel) ?_ ?_
 ·intro t h
  have e : 4415625559 = (7577 * 582767) := by decide
  rw [e]
  exact Nat.Coprime.mul_left ((h 7577 (by decide))) ((h 582767 (by decide)))
 ·intro q hq
  simp only [List.mem_cons, List.not_mem_nil, or_false] at hq
  rcases hq with rfl | rfl
  ·exact ⟨prm_7577, by decide +kernel, by decide +kernel⟩
  ·exact ⟨prm_582767, by decide +kernel, by decide +kernel⟩
theorem prm_9272813673901 : Prm 9272813673901 := prm_of (by decide) (by decide) fac_9272813673901
theorem fac_1928745244171409 : ∀ d, Prm d → d ∣ 1928745244171409 → 9272813673901 ∣ d - 1 := by
 intro d hd hdN
 refine pockp (N := 1928745244171409) (M := 1928745244171408) (F := 9272813673901) (a := 2) [9272813673901] (by decide) (by decide +kernel) hd hdN (by decide +kernel) ?_ ?_
 ·intro t h
  have e : 9272813673901 = 9272813673901 := by decide
  rw [e]
  exact (h 9272813673901 (by decide))
 ·intro q hq
  simp only [List.mem_cons, List.not_mem_nil, or_false] at hq
  subst hq
  ·exact ⟨prm_9272813673901, by decide +kernel, by decide +kernel⟩
theorem prm_1928745244171409 : Prm 1928745244171409 := prm_of (by decide) (by decide) fac_1928745244171409
theorem fac_7259797099061183477 : ∀ d, Prm d → d ∣ 7259797099061183477 → 1928745244171409 ∣ d - 1 := by
 intro d hd hdN
 refine pockp (N := 7259797099061183477) (M := 7259797099061183476) (F := 1928745244171409) (a := 2) [1928745244171409] (by decide) (by decide +kernel) hd hdN (by decide +kernel) ?_ ?_
 ·intro t h
  have e : 1928745244171409 = 1928745244171409 := by decide
  rw [e]
  exact (h 1928745244171409 (by decide))
 ·intro q hq
  simp only [List.mem_cons, List.not_mem_nil, or_false] at hq
  subst hq
  ·exact ⟨prm_1928745244171409, by decide +kernel, by decide +kernel⟩
theorem prm_7259797099061183477 : Prm 7259797099061183477 := prm_of (by decide) (by decide) fac_7259797099061183477
theorem fac_2584487767265781317813 : ∀ d, Prm d → d ∣ 2584487767265781317813 → 7259797099061183477 ∣ d - 1 := by
 intro d hd hdN
 refine pockp (N := 2584487767265781317813) (M := 2584487767265781317812) (F := 7259797099061183477) (a := 2) [7259797099061183477] (by decide) (by decide +kernel) hd hdN (by decide +kernel) ?_ ?_
 ·intro t h
  have e : 7259797099061183477 = 7259797099061183477 := by decide
  rw [e]
  exact (h 7259797099061183477 (by decide))
 ·intro q hq
  simp only [List.mem_cons, List.not_mem_nil, or_false] at hq
  subst hq
  ·exact ⟨prm_7259797099061183477, by decide +kernel, by decide +kernel⟩
theorem prm_2584487767265781317813 : Prm 2584487767265781317813 := prm_of (by decide) (by decide) fac_2584487767265781317813
theorem prm_2 : Prm 2 := prm_trial 2 2 (by decide) (by decide) (by decide +kernel)
theorem prm_3 : Prm 3 := prm_trial 3 2 (by decide) (by decide) (by decide +kernel)
theorem prm_11 : Prm 11 := prm_trial 11 4 (by decide) (by decide) (by decide +kernel)
theorem prm_23 : Prm 23 := prm_trial 23 5 (by decide) (by decide) (by decide +kernel)
theorem prm_47 : Prm 47 := prm_trial 47 7 (by decide) (by decide) (by decide +kernel)
theorem prm_10177 : Prm 10177 := prm_trial 10177 101 (by decide) (by decide) (by decide +kernel)
theorem prm_859267 : Prm 859267 := prm_trial 859267 927 (by decide) (by decide) (by decide +kernel)
theorem prm_52437899 : Prm 52437899 := prm_trial 52437899 7242 (by decide) (by decide) (by decide +kernel)
theorem fac_p : ∀ d, Prm d → d ∣ 4002409555221667393417789825735904156556882819939007885332058136124031650490837864442687629129015664037894272559787 → 253663835868735594330404923636534084567099854 ∣ d - 1 := by
 intro d hd hdN
 refine pockp (N := 4002409555221667393417789825735904156556882819939007885332058136124031650490837864442687629129015664037894272559787) (M := 4002409555221667393417789825735904156556882819939007885332058136124031650490837864442687629129015664037894272559786) (F := 253663835868735594330404923636534084567099854) (a := 2) [2, 3, 11, 23, 47, 10177, 859267, 52437899, 2584487767265781317813] (by decide) (by decide +kernel) hd hdN (by decide +kernel) ?_ ?_
 ·intro t h
  have e : 253663835868735594330404923636534084567099854 = (2 * (3 ^ 2 * (11 * (23 * (47 * (10177 * (859267 * (52437899 * 2584487767265781317813)))))))) := by decide
  rw [e]
  exact Nat.Coprime.mul_left ((h 2 (by decide))) (Nat.Coprime.mul_left (Nat.Coprime.pow_left 2 (h 3 (by decide))) (Nat.Coprime.mul_left ((h 11 (by decide))) (Nat.Coprime.mul_left ((h 23 (by decide))) (Nat.Coprime.mul_left ((h 47 (by decide))) (Nat.Coprime.mul_left ((h 10177 (by decide))) (Nat.Coprime.mul_left ((h 859267 (by decide))) (Nat.Coprime.mul_left ((h 52437899 (by decide))) ((h 2584487767265781317813 (by decide))))))))))
 ·intro q hq
  simp only [List.mem_cons, List.not_mem_nil, or_false] at hq
  rcases hq with rfl | rfl | rfl | rfl | rfl | rfl | rfl | rfl | rfl
  ·exact ⟨prm_2, by decide +kernel, by decide +kernel⟩
  ·exact ⟨prm_3, by decide +kernel, by decide +kernel⟩
  ·exact ⟨prm_11, by decide +kernel, by decide +kernel⟩
  ·exact ⟨prm_23, by decide +kernel, by decide +kernel⟩
  ·exact ⟨prm_47, by decide +kernel, by decide +kernel⟩
  ·exact ⟨prm_10177, by decide +kernel, by decide +kernel⟩
  ·exact ⟨prm_859267, by decide +kernel, by decide +kernel⟩
  ·exact ⟨prm_52437899, by decide +kernel, by decide +kernel⟩
  ·exact ⟨prm_2584487767265781317813, by decide +kernel, by decide +kernel⟩
theorem prm_p : Prm 4002409555221667393417789825735904156556882819939007885332058136124031650490837864442687629129015664037894272559787 := prm_cube (F := 253663835868735594330404923636534084567099854) (c1 := 41045055325326579460269857981194636858402675) (c2 := 62202009562450627810769096) (s := 41045055325326579460269857981194636858402674) (by decide) (by decide) (by decide) (by decide) (by decide) (by decide) (by decide) fac_p
theorem sq_mod {p z : Nat} (hp : Prm p) (h : z * z % p = 1) : z % p = 1 ∨ (z + 1) % p = 0 := by
 have h1 : 1 ≤ z := by
  rcases Nat.eq_zero_or_pos z with e | e
  ·rw [e, Nat.mul_zero, Nat.zero_mod] at h; cases h
  ·exact e
 have h2 : p ∣ (z - 1) * (z + 1) := by
  have e : (z - 1) * (z + 1) = z * z - 1 := by
   obtain ⟨y, rfl⟩ : ∃ y, z = y + 1 := ⟨z - 1, by omega⟩
   rw [Nat.add_sub_cancel]
   have : (y + 1) * (y + 1) = y * (y + 1 + 1) + 1 := by grind
   omega
  rw [e]
  refine Nat.dvd_of_mod_eq_zero (Nat.sub_mod_eq_zero_of_mod_eq ?_)
  rw [h, Nat.mod_eq_of_lt hp.1]
 rcases hp.mul h2 with h3 | h3
 ·left
  obtain ⟨c, hc⟩ := h3
  rw [show z = 1 + p * c by omega, Nat.add_mul_mod_self_left, Nat.mod_eq_of_lt hp.1]
 ·right; exact Nat.mod_eq_zero_of_dvd h3
/-- By a prime that leaves 3 by 4 the power is the number or the negated one. -/
theorem half_pow {p a j : Nat} (hp : Prm p) (h4 : p + 1 = 4 * (j + 1)) (ha : ¬ p ∣ a) : a ^ (2 * j + 2) % p = a % p ∨ (a ^ (2 * j + 2) + a) % p = 0 := by
 have hz : a ^ (2 * j + 1) * a ^ (2 * j + 1) % p = 1 := by
  rw [← Nat.pow_add, show 2 * j + 1 + (2 * j + 1) = p - 1 by omega]
  exact fermat1 hp a ha
 have e : a ^ (2 * j + 2) = a ^ (2 * j + 1) * a := by rw [show 2 * j + 2 = 2 * j + 1 + 1 by omega, Nat.pow_succ]
 rw [e]
 rcases sq_mod hp hz with h | h
 ·left
  rw [Nat.mul_mod, h, Nat.one_mul, Nat.mod_mod]
 ·right
  rw [show a ^ (2 * j + 1) * a + a = (a ^ (2 * j + 1) + 1) * a by rw [Nat.add_mul, Nat.one_mul], Nat.mul_mod, h, Nat.zero_mul, Nat.zero_mod]
theorem even_pow {p a b : Nat} (h : (a + b) % p = 0) (k : Nat) : a ^ (2 * k) % p = b ^ (2 * k) % p := by
 rw [Nat.pow_mul, Nat.pow_mul, Nat.pow_mod, Nat.pow_mod (b ^ 2)]
 congr 2
 rw [Nat.pow_two, Nat.pow_two]
 have e : a * a + b * (a + b) = b * b + a * (a + b) := by grind
 have e1 : (a * a + b * (a + b)) % p = a * a % p := by rw [Nat.add_mod, Nat.mul_mod b, h, Nat.mul_zero, Nat.zero_mod, Nat.add_zero, Nat.mod_mod]
 have e2 : (b * b + a * (a + b)) % p = b * b % p := by rw [Nat.add_mod, Nat.mul_mod a, h, Nat.mul_zero, Nat.zero_mod, Nat.add_zero, Nat.mod_mod]
 rw [← e1, ← e2, e]
end NT
end Go.Proofs.YtmanelnacifgcaaGreatDoor
end
section
namespace Go.Proofs.YtmanelnacifgcaaGreatDoor
open Go.RowKit
namespace Rg
def pB : Nat := 4002409555221667393417789825735904156556882819939007885332058136124031650490837864442687629129015664037894272559787
theorem pB_0 : wd pB 0 = 13402431016077863595 := by decide +kernel
theorem pB_1 : wd pB 1 = 2210141511517208575 := by decide +kernel
theorem pB_2 : wd pB 2 = 7435674573564081700 := by decide +kernel
theorem pB_3 : wd pB 3 = 7239337960414712511 := by decide +kernel
theorem pB_4 : wd pB 4 = 5412103778470702295 := by decide +kernel
theorem pB_5 : wd pB 5 = 1873798617647539866 := by decide +kernel
theorem pB_lt : pB < big := by
 have h : 4 * pB < big := by decide +kernel
 omega
theorem pB_ok : Ok pB := ⟨by decide +kernel, by decide +kernel, by decide +kernel⟩
theorem ex_build_pB {ρ : Operand → Value} {o : Oper} {w : World} (ho : o.op = .build 24 #[(0, .const (.int .u64 13402431016077863595)), (1, .const (.int .u64 2210141511517208575)), (2, .const (.int .u64 7435674573564081700)), (3, .const (.int .u64 7239337960414712511)), (4, .const (.int .u64 5412103778470702295)), (5, .const (.int .u64 1873798617647539866))]) (h0 : ρ (.const (.int .u64 13402431016077863595)) = .int .u64 13402431016077863595) (h1 : ρ (.const (.int .u64 2210141511517208575)) = .int .u64 2210141511517208575) (h2 : ρ (.const (.int .u64 7435674573564081700)) = .int .u64 7435674573564081700) (h3 : ρ (.const (.int .u64 7239337960414712511)) = .int .u64 7239337960414712511) (h4 : ρ (.const (.int .u64 5412103778470702295)) = .int .u64 5412103778470702295) (h5 : ρ (.const (.int .u64 1873798617647539866)) = .int .u64 1873798617647539866) : (execOp ρ o).run Tryz.prog w = .ok (.value (N pB)) w := by
 have e : N pB = .agg #[.int .u64 13402431016077863595, .int .u64 2210141511517208575, .int .u64 7435674573564081700, .int .u64 7239337960414712511, .int .u64 5412103778470702295, .int .u64 1873798617647539866] := by simp only [N, pB_0, pB_1, pB_2, pB_3, pB_4, pB_5]
 rw [e]
 clear e
 simp only [execOp, ho]
 go_simp
theorem base_pB (w : World) :
  Calls Tryz.prog 67 #[] w (Rt w (N pB)) := by
 have H0 : Hid (_ ∧ _) := ⟨Mm.nil w, Below.refl w.heap.size w⟩
 go_enter Tryz.func67, Tryz.ntmps67
 refine wp_seq ?_
 refine zC 1 [.made zero6 24] (sB H0) ?ho1 ?he1
 case ho1 => exact am (zG rfl) trivial
 intro J w1 l hM hl
 have H1 : Hid (Mm w1 [(J 0, zero6)] ∧ _) := wB H0 hM hl [0]
 have o1_0 := vB H0 hM hl 0
 clear hM hl l
 generalize J 0 = J1_0 at H1 o1_0 ⊢
 clear J
 refine rN (wp_seq ?_)
 refine zD 1 [.q (N pB)] H1 ?ho2 ?he2
 case ho2 => exact ak (fun J => ⟨rfl, fun w' _ => ex_build_pB rfl rfl rfl rfl rfl rfl rfl ⟩) trivial
 intro _ w2 H2
 clear H1
 refine zH (l := [1]) rfl ?_
 refine sG rfl (fun h => zL h 0 rfl rfl rfl rfl (Nat.le_of_ble_eq_true rfl)) 0 [(_, zB pB)] H2 o1_0 fun w3 H3 => ?_
 clear H2
 refine zE (zA (wp_ret ?_))
 repeat (first | refine zJ ?_ | refine zI ?_)
 have c0 := H3.out.1.get 0 rfl 0 rfl
 have c1 := H3.out.1.get 0 rfl 1 rfl
 have c2 := H3.out.1.get 0 rfl 2 rfl
 have c3 := H3.out.1.get 0 rfl 3 rfl
 have c4 := H3.out.1.get 0 rfl 4 rfl
 have c5 := H3.out.1.get 0 rfl 5 rfl
 refine bodyPost_ret (v := N pB) (by simp [results, Tryz.results67, go_sem, *]) rfl ?_
 exact ⟨rfl, H3.out.2⟩
set_option maxHeartbeats 1000000 in
theorem left_gen (a p x K : Nat) (f : Nat → Nat) (f0 : f 0 = a)
  (cb : ∀ w, Calls Tryz.prog 67 #[] w (Rt w (N p)))
  (cs : ∀ k, k < K → ∀ w, Calls Tryz.prog 39 #[N (f k), N p] w (Rt w (.tuple #[N (f (k + 1)), .bool false])))
  (ct : ∀ w, Calls Tryz.prog 39 #[N (f K), N p] w (Rt w (.tuple #[N x, .bool true]))) (w : World) :
  Calls Tryz.prog 136 #[N a] w (Rt w (N (f K))) := by
 have H0 : Hid (_ ∧ _) := ⟨Mm.nil w, Below.refl w.heap.size w⟩
 have CB : Hid _ := cb
 have CS : Hid _ := cs
 have CT : Hid _ := ct
 have F0 : Hid _ := f0
 clear cb cs ct f0
 go_enter Tryz.func136, Tryz.ntmps136
 refine wp_seq ?_
 refine zC 2 [.made (zB a) 24, .made zero6 24] (sB H0) ?ho1 ?he1
 case ho1 => exact am (zU rfl rfl) (am (zG rfl) trivial)
 intro J w1 l hM hl
 have H1 : Hid (Mm w1 [(J 0, zB a), (J 1, zero6)] ∧ _) := wB H0 hM hl [0, 1]
 have o1_0 := vB H0 hM hl 0
 have o1_1 := vB H0 hM hl 1
 clear hM hl l
 generalize J 0 = J1_0 at H1 o1_0 ⊢
 generalize J 1 = J1_1 at H1 o1_1 ⊢
 clear J
 refine rN (wp_block ?_)
 refine loop_ghost (α := Nat) (fun k a' w' => ∃ s0 : Nat → Value, a' = ⟨#[N a, PT J1_0 0, PT J1_1 0, s0 3, s0 4, s0 5, s0 6, s0 7, s0 8, s0 9, s0 10, s0 11, s0 12, s0 13], []⟩ ∧ (Mm w' [(J1_0, zB (f k)), (J1_1, zero6)] ∧ Below w.heap.size w w') ∧ k ≤ K) (fun k => K - k) 0 ?st0 ?rd0
 case st0 => exact ⟨(slotfn [ud, ud, ud, ud, ud, ud, ud, ud, ud, ud, ud, ud, ud, ud]), rfl, ⟨H1.out.1.at0 (by rw [F0.out]), H1.out.2⟩, by omega⟩
 intro k a' w2 hI
 obtain ⟨s0, rfl, hMB, hk0⟩ := hI
 have H2 : Hid (_ ∧ _) := hMB
 clear hMB H1
 by_cases hkK : k = K
 ·have hrd : True := trivial
  clear hrd
  subst hkK
  have CX : Hid _ := CT.out
  refine wp_block (wp_seq ?_)
  refine zP 9 [.q (N (f k)), .call (N p), .call (.tuple #[N x, .bool true]), .q (.tuple #[N x, .bool true]), .q (N x), .q (.bool true), .made zero6 24, .laid 6 zero6 (zB x), .q (.bool true)] (sB H2) ?ho2 ?he2 (hL := ?hL2)
  case hL2 => exact ⟨⟨_, rfl⟩, trivial⟩
  case ho2 => exact bN 0 (ac (fun w' h => eC call67 (CB.out w')) (ac (fun w' h => eC call39 (CX.out w')) (ar (ag (ag (am (zG rfl) (ak (fun J => ⟨rfl, rfl, rfl, fun w' h => zK h rfl rfl rfl⟩) (ar trivial))))))))
  intro J w3 l hM hl
  have H3 : Hid (Mm w3 ([(J 6, zB x)] ++ _) ∧ _) := wB H2 hM hl [6]
  have o2_6 := vB H2 hM hl 6
  clear hM hl l H2
  generalize J 6 = J2_6 at H3 o2_6 ⊢
  clear J
  refine rN (wp_seq (wp_seq ?_))
  refine zD 1 [.q (.bool true)] H3 ?ho3 ?he3
  case ho3 => exact ar trivial
  intro _ w4 H4
  clear H3
  refine rN (wp_cond_true rfl (wp_seq ?_))
  refine zD 1 [.q (N (f k))] H4 ?ho4 ?he4
  case ho4 => exact bN 1 trivial
  intro _ w5 H5
  clear H4
  refine zH (l := [1]) rfl ?_
  refine sG rfl (fun h => zL h 2 rfl rfl rfl rfl (Nat.le_of_ble_eq_true rfl)) 2 [_, _, (_, zB (f k))] H5 o1_1 fun w6 H6 => ?_
  clear H5
  refine zE (zA (wp_ret ?_))
  repeat (first | refine zJ ?_ | refine zI ?_)
  have c0 := H6.out.1.get 2 rfl 0 rfl
  have c1 := H6.out.1.get 2 rfl 1 rfl
  have c2 := H6.out.1.get 2 rfl 2 rfl
  have c3 := H6.out.1.get 2 rfl 3 rfl
  have c4 := H6.out.1.get 2 rfl 4 rfl
  have c5 := H6.out.1.get 2 rfl 5 rfl
  refine bodyPost_ret (v := N (f k)) (by simp [results, Tryz.results136, go_sem, *]) rfl ?_
  exact ⟨rfl, H6.out.2⟩
 ·have hrd : True := trivial
  clear hrd
  have hlt : k < K := by omega
  have CX : Hid _ := CS.out k hlt
  refine wp_block (wp_seq ?_)
  refine zP 9 [.q (N (f k)), .call (N p), .call (.tuple #[N (f (k + 1)), .bool false]), .q (.tuple #[N (f (k + 1)), .bool false]), .q (N (f (k + 1))), .q (.bool false), .made zero6 24, .laid 6 zero6 (zB (f (k + 1))), .q (.bool false)] (sB H2) ?ho5 ?he5 (hL := ?hL5)
  case hL5 => exact ⟨⟨_, rfl⟩, trivial⟩
  case ho5 => exact bN 0 (ac (fun w' h => eC call67 (CB.out w')) (ac (fun w' h => eC call39 (CX.out w')) (ar (ag (ag (am (zG rfl) (ak (fun J => ⟨rfl, rfl, rfl, fun w' h => zK h rfl rfl rfl⟩) (ar trivial))))))))
  intro J w7 l hM hl
  have H7 : Hid (Mm w7 ([(J 6, zB (f (k + 1)))] ++ _) ∧ _) := wB H2 hM hl [6]
  have o5_6 := vB H2 hM hl 6
  clear hM hl l H2
  generalize J 6 = J5_6 at H7 o5_6 ⊢
  clear J
  refine rN (wp_seq (wp_seq ?_))
  refine zD 1 [.q (.bool false)] H7 ?ho6 ?he6
  case ho6 => exact ar trivial
  intro _ w8 H8
  clear H7
  refine rN (wp_cond_false rfl ?_)
  refine wp_skip (zA ?_)
  refine zD 1 [.q (N (f (k + 1)))] H8 ?ho7 ?he7
  case ho7 => exact bN 0 trivial
  intro _ w9 H9
  clear H8
  refine zH (l := [1]) rfl ?_
  refine sG rfl (fun h => zL h 1 rfl rfl rfl rfl (Nat.le_of_ble_eq_true rfl)) 1 [_, (_, zB (f (k + 1))), _] H9 o1_0 fun w10 H10 => ?_
  clear H9
  refine zE (zY (zA ?_))
  exact ⟨k + 1, ⟨(slotfn [ud, ud, ud, PT J5_6 0, .bool false, .tuple #[N (f (k + 1)), .bool false], N (f k), N p, .tuple #[N (f (k + 1)), .bool false], N (f (k + 1)), .bool false, .bool false, s0 12, N (f (k + 1))]), rfl, ⟨H10.out.1.tail, H10.out.2⟩, by omega⟩, by omega⟩
theorem together_gen (a b r : Nat) (cx : Bool)
  (c0 : ∀ w, Calls Tryz.prog 21 #[N a, N b] w (Rt w (.tuple #[N r, .bool cx]))) (w : World) :
  Calls Tryz.prog 137 #[N a, N b] w (Rt w (N r)) := by
 have H0 : Hid (_ ∧ _) := ⟨Mm.nil w, Below.refl w.heap.size w⟩
 have C0 : Hid _ := c0
 clear c0
 go_enter Tryz.func137, Tryz.ntmps137
 refine wp_seq ?_
 refine zC 3 [.made (zB a) 24, .made (zB b) 24, .made zero6 24] (sB H0) ?ho1 ?he1
 case ho1 => exact am (zU rfl rfl) (am (zU rfl rfl) (am (zG rfl) trivial))
 intro J w1 l hM hl
 have H1 : Hid (Mm w1 [(J 0, zB a), (J 1, zB b), (J 2, zero6)] ∧ _) := wB H0 hM hl [0, 1, 2]
 have o1_0 := vB H0 hM hl 0
 have o1_1 := vB H0 hM hl 1
 have o1_2 := vB H0 hM hl 2
 clear hM hl l
 generalize J 0 = J1_0 at H1 o1_0 ⊢
 generalize J 1 = J1_1 at H1 o1_1 ⊢
 generalize J 2 = J1_2 at H1 o1_2 ⊢
 clear J
 refine rN (wp_seq ?_)
 refine zC 9 [.q (N a), .q (N b), .call (.tuple #[N r, .bool cx]), .q (.tuple #[N r, .bool cx]), .q (N r), .q (.bool cx), .made zero6 24, .laid 6 zero6 (zB r), .q (.bool cx)] (sB H1) ?ho2 ?he2 (hL := ?hL2)
 case hL2 => exact ⟨⟨_, rfl⟩, trivial⟩
 case ho2 => exact bN 0 (bN 1 (ac (fun w' h => eC call21 (C0.out w')) (ar (ag (ag (am (zG rfl) (ak (fun J => ⟨rfl, rfl, rfl, fun w' h => zK h rfl rfl rfl⟩) (ar trivial))))))))
 intro J w2 l hM hl
 have H2 : Hid (Mm w2 ([(J 6, zB r)] ++ _) ∧ _) := wB H1 hM hl [6]
 have o2_6 := vB H1 hM hl 6
 clear hM hl l H1
 generalize J 6 = J2_6 at H2 o2_6 ⊢
 clear J
 refine rN (wp_seq ?_)
 refine zD 1 [.q (N r)] H2 ?ho3 ?he3
 case ho3 => exact bN 0 trivial
 intro _ w3 H3
 clear H2
 refine zH (l := [1]) rfl ?_
 refine sG rfl (fun h => zL h 3 rfl rfl rfl rfl (Nat.le_of_ble_eq_true rfl)) 3 [_, _, _, (_, zB r)] H3 o1_2 fun w4 H4 => ?_
 clear H3
 refine zE (zA (wp_ret ?_))
 repeat (first | refine zJ ?_ | refine zI ?_)
 have c0 := H4.out.1.get 3 rfl 0 rfl
 have c1 := H4.out.1.get 3 rfl 1 rfl
 have c2 := H4.out.1.get 3 rfl 2 rfl
 have c3 := H4.out.1.get 3 rfl 3 rfl
 have c4 := H4.out.1.get 3 rfl 4 rfl
 have c5 := H4.out.1.get 3 rfl 5 rfl
 refine bodyPost_ret (v := N r) (by simp [results, Tryz.results137, go_sem, *]) rfl ?_
 exact ⟨rfl, H4.out.2⟩
theorem sum_gen (a b r x : Nat)
  (c0 : ∀ w, Calls Tryz.prog 137 #[N a, N b] w (Rt w (N x)))
  (c1 : ∀ w, Calls Tryz.prog 136 #[N x] w (Rt w (N r))) (w : World) :
  Calls Tryz.prog 111 #[N a, N b] w (Rt w (N r)) := by
 have H0 : Hid (_ ∧ _) := ⟨Mm.nil w, Below.refl w.heap.size w⟩
 have C0 : Hid _ := c0
 have C1 : Hid _ := c1
 clear c0 c1
 go_enter Tryz.func111, Tryz.ntmps111
 refine wp_seq ?_
 refine zC 3 [.made (zB a) 24, .made (zB b) 24, .made zero6 24] (sB H0) ?ho1 ?he1
 case ho1 => exact am (zU rfl rfl) (am (zU rfl rfl) (am (zG rfl) trivial))
 intro J w1 l hM hl
 have H1 : Hid (Mm w1 [(J 0, zB a), (J 1, zB b), (J 2, zero6)] ∧ _) := wB H0 hM hl [0, 1, 2]
 have o1_0 := vB H0 hM hl 0
 have o1_1 := vB H0 hM hl 1
 have o1_2 := vB H0 hM hl 2
 clear hM hl l
 generalize J 0 = J1_0 at H1 o1_0 ⊢
 generalize J 1 = J1_1 at H1 o1_1 ⊢
 generalize J 2 = J1_2 at H1 o1_2 ⊢
 clear J
 refine rN (wp_seq ?_)
 refine zD 4 [.q (N a), .q (N b), .call (N x), .call (N r)] H1 ?ho2 ?he2
 case ho2 => exact bN 0 (bN 1 (ac (fun w' h => eC call137 (C0.out w')) (ac (fun w' h => eC call136 (C1.out w')) trivial)))
 intro _ w2 H2
 clear H1
 refine zH (l := [4]) rfl ?_
 refine sG rfl (fun h => zL h 2 rfl rfl rfl rfl (Nat.le_of_ble_eq_true rfl)) 2 [_, _, (_, zB r)] H2 o1_2 fun w3 H3 => ?_
 clear H2
 refine zE (zA (wp_ret ?_))
 repeat (first | refine zJ ?_ | refine zI ?_)
 have c0 := H3.out.1.get 2 rfl 0 rfl
 have c1 := H3.out.1.get 2 rfl 1 rfl
 have c2 := H3.out.1.get 2 rfl 2 rfl
 have c3 := H3.out.1.get 2 rfl 3 rfl
 have c4 := H3.out.1.get 2 rfl 4 rfl
 have c5 := H3.out.1.get 2 rfl 5 rfl
 refine bodyPost_ret (v := N r) (by simp [results, Tryz.results111, go_sem, *]) rfl ?_
 exact ⟨rfl, H3.out.2⟩
theorem diff_1 (a b r : Nat)
  (c0 : ∀ w, Calls Tryz.prog 39 #[N a, N b] w (Rt w (.tuple #[N r, .bool false]))) (w : World) :
  Calls Tryz.prog 112 #[N a, N b] w (Rt w (N r)) := by
 have H0 : Hid (_ ∧ _) := ⟨Mm.nil w, Below.refl w.heap.size w⟩
 have C0 : Hid _ := c0
 clear c0
 go_enter Tryz.func112, Tryz.ntmps112
 refine wp_seq ?_
 refine zC 3 [.made (zB a) 24, .made (zB b) 24, .made zero6 24] (sB H0) ?ho1 ?he1
 case ho1 => exact am (zU rfl rfl) (am (zU rfl rfl) (am (zG rfl) trivial))
 intro J w1 l hM hl
 have H1 : Hid (Mm w1 [(J 0, zB a), (J 1, zB b), (J 2, zero6)] ∧ _) := wB H0 hM hl [0, 1, 2]
 have o1_0 := vB H0 hM hl 0
 have o1_1 := vB H0 hM hl 1
 have o1_2 := vB H0 hM hl 2
 clear hM hl l
 generalize J 0 = J1_0 at H1 o1_0 ⊢
 generalize J 1 = J1_1 at H1 o1_1 ⊢
 generalize J 2 = J1_2 at H1 o1_2 ⊢
 clear J
 refine rN (wp_seq ?_)
 refine zC 9 [.q (N a), .q (N b), .call (.tuple #[N r, .bool false]), .q (.tuple #[N r, .bool false]), .q (N r), .q (.bool false), .made zero6 24, .laid 6 zero6 (zB r), .q (.bool false)] (sB H1) ?ho2 ?he2 (hL := ?hL2)
 case hL2 => exact ⟨⟨_, rfl⟩, trivial⟩
 case ho2 => exact bN 0 (bN 1 (ac (fun w' h => eC call39 (C0.out w')) (ar (ag (ag (am (zG rfl) (ak (fun J => ⟨rfl, rfl, rfl, fun w' h => zK h rfl rfl rfl⟩) (ar trivial))))))))
 intro J w2 l hM hl
 have H2 : Hid (Mm w2 ([(J 6, zB r)] ++ _) ∧ _) := wB H1 hM hl [6]
 have o2_6 := vB H1 hM hl 6
 clear hM hl l H1
 generalize J 6 = J2_6 at H2 o2_6 ⊢
 clear J
 refine rN (wp_seq (wp_seq ?_))
 refine zD 1 [.q (.bool false)] H2 ?ho3 ?he3
 case ho3 => exact ar trivial
 intro _ w3 H3
 clear H2
 refine rN (wp_cond_false rfl ?_)
 refine wp_skip (zA (wp_seq ?_))
 refine zD 1 [.q (N r)] H3 ?ho4 ?he4
 case ho4 => exact bN 0 trivial
 intro _ w4 H4
 clear H3
 refine zH (l := [1]) rfl ?_
 refine sG rfl (fun h => zL h 3 rfl rfl rfl rfl (Nat.le_of_ble_eq_true rfl)) 3 [_, _, _, (_, zB r)] H4 o1_2 fun w5 H5 => ?_
 clear H4
 refine zE (zA (wp_ret ?_))
 repeat (first | refine zJ ?_ | refine zI ?_)
 have c0 := H5.out.1.get 3 rfl 0 rfl
 have c1 := H5.out.1.get 3 rfl 1 rfl
 have c2 := H5.out.1.get 3 rfl 2 rfl
 have c3 := H5.out.1.get 3 rfl 3 rfl
 have c4 := H5.out.1.get 3 rfl 4 rfl
 have c5 := H5.out.1.get 3 rfl 5 rfl
 refine bodyPost_ret (v := N r) (by simp [results, Tryz.results112, go_sem, *]) rfl ?_
 exact ⟨rfl, H5.out.2⟩
theorem diff_2 (a b r x p : Nat) (cx : Bool)
  (c0 : ∀ w, Calls Tryz.prog 39 #[N a, N b] w (Rt w (.tuple #[N x, .bool true])))
  (c1 : ∀ w, Calls Tryz.prog 67 #[] w (Rt w (N p)))
  (c2 : ∀ w, Calls Tryz.prog 21 #[N x, N p] w (Rt w (.tuple #[N r, .bool cx]))) (w : World) :
  Calls Tryz.prog 112 #[N a, N b] w (Rt w (N r)) := by
 have H0 : Hid (_ ∧ _) := ⟨Mm.nil w, Below.refl w.heap.size w⟩
 have C0 : Hid _ := c0
 have C1 : Hid _ := c1
 have C2 : Hid _ := c2
 clear c0 c1 c2
 go_enter Tryz.func112, Tryz.ntmps112
 refine wp_seq ?_
 refine zC 3 [.made (zB a) 24, .made (zB b) 24, .made zero6 24] (sB H0) ?ho1 ?he1
 case ho1 => exact am (zU rfl rfl) (am (zU rfl rfl) (am (zG rfl) trivial))
 intro J w1 l hM hl
 have H1 : Hid (Mm w1 [(J 0, zB a), (J 1, zB b), (J 2, zero6)] ∧ _) := wB H0 hM hl [0, 1, 2]
 have o1_0 := vB H0 hM hl 0
 have o1_1 := vB H0 hM hl 1
 have o1_2 := vB H0 hM hl 2
 clear hM hl l
 generalize J 0 = J1_0 at H1 o1_0 ⊢
 generalize J 1 = J1_1 at H1 o1_1 ⊢
 generalize J 2 = J1_2 at H1 o1_2 ⊢
 clear J
 refine rN (wp_seq ?_)
 refine zC 9 [.q (N a), .q (N b), .call (.tuple #[N x, .bool true]), .q (.tuple #[N x, .bool true]), .q (N x), .q (.bool true), .made zero6 24, .laid 6 zero6 (zB x), .q (.bool true)] (sB H1) ?ho2 ?he2 (hL := ?hL2)
 case hL2 => exact ⟨⟨_, rfl⟩, trivial⟩
 case ho2 => exact bN 0 (bN 1 (ac (fun w' h => eC call39 (C0.out w')) (ar (ag (ag (am (zG rfl) (ak (fun J => ⟨rfl, rfl, rfl, fun w' h => zK h rfl rfl rfl⟩) (ar trivial))))))))
 intro J w2 l hM hl
 have H2 : Hid (Mm w2 ([(J 6, zB x)] ++ _) ∧ _) := wB H1 hM hl [6]
 have o2_6 := vB H1 hM hl 6
 clear hM hl l H1
 generalize J 6 = J2_6 at H2 o2_6 ⊢
 clear J
 refine rN (wp_seq (wp_seq ?_))
 refine zD 1 [.q (.bool true)] H2 ?ho3 ?he3
 case ho3 => exact ar trivial
 intro _ w3 H3
 clear H2
 refine rN (wp_cond_true rfl ?_)
 refine walk_put (by kernel_rfl) 6 [5] [.q (N x), .call (N p), .call (.tuple #[N r, .bool cx]), .q (.tuple #[N r, .bool cx]), .q (N r), .q (.bool cx)] _ ?pre4 ?F4 _ ?hpre4 (fun J => ?hF4) (by kernel_rfl) rfl trivial (sB H3) ?ho4 ?hla4 ?he4
 case hpre4 => simp only [tk, tz]; rfl
 case hF4 => simp only [zZ, Kind.val, Act.put, sa, sz, ss]; rfl
 case ho4 =>
  refine bN 0 ?_
  refine ak (fun J => ⟨rfl, fun w' h => eC call67 (C1.out w')⟩) ?_
  refine ak (fun J => ⟨rfl, fun w' h => eC call21 (C2.out w')⟩) ?_
  refine ar ?_
  refine ag ?_
  refine ag ?_
  exact trivial
 case hla4 => exact ⟨⟨_, _, rfl, rfl, fun J => ⟨rfl, fun w' => by first | rfl | go_simp⟩⟩, trivial⟩
 intro J w4 l hM hl
 have H4 := keepB H3 hM.below
 clear hM hl l H3 J
 refine ⟨_, zL H4.out.1 0 rfl rfl rfl rfl (Nat.le_of_ble_eq_true rfl), ?_⟩
 have H5 : Hid (Mm (w4.setCells J2_6 0 (zB r)) [(J2_6, zB r), (J1_0, zB a), (J1_1, zB b), (J1_2, zero6)] ∧ Below w.heap.size w (w4.setCells J2_6 0 (zB r))) := ⟨H4.out.1.put 0 (off := 0) (vs := zB r) rfl (Nat.le_of_ble_eq_true rfl), zV _ o2_6.out _ _ _ H4.out.2⟩
 clear H4
 generalize hgw : World.setCells _ _ _ _ = w5 at H5 ⊢
 clear hgw
 refine rN (wp_seq ?_)
 refine zD 1 [.q (N r)] H5 ?ho5 ?he5
 case ho5 => exact bN 0 trivial
 intro _ w6 H6
 clear H5
 refine zH (l := [1]) rfl ?_
 refine sG rfl (fun h => zL h 3 rfl rfl rfl rfl (Nat.le_of_ble_eq_true rfl)) 3 [_, _, _, (_, zB r)] H6 o1_2 fun w7 H7 => ?_
 clear H6
 refine zE (zA (wp_ret ?_))
 repeat (first | refine zJ ?_ | refine zI ?_)
 have c0 := H7.out.1.get 3 rfl 0 rfl
 have c1 := H7.out.1.get 3 rfl 1 rfl
 have c2 := H7.out.1.get 3 rfl 2 rfl
 have c3 := H7.out.1.get 3 rfl 3 rfl
 have c4 := H7.out.1.get 3 rfl 4 rfl
 have c5 := H7.out.1.get 3 rfl 5 rfl
 refine bodyPost_ret (v := N r) (by simp [results, Tryz.results112, go_sem, *]) rfl ?_
 exact ⟨rfl, H7.out.2⟩
theorem times_gen (a b u0 u1 : Nat)
  (c0 : ∀ w, Calls Tryz.prog 158 #[N a, N b] w (Rt w (.tuple #[N u0, N u1]))) (w : World) :
  Calls Tryz.prog 148 #[N a, N b] w (Rt w (V [u0, u1])) := by
 have H0 : Hid (_ ∧ _) := ⟨Mm.nil w, Below.refl w.heap.size w⟩
 have C0 : Hid _ := c0
 clear c0
 go_enter Tryz.func148, Tryz.ntmps148
 refine wp_seq ?_
 refine zC 3 [.made (zB a) 24, .made (zB b) 24, .made (cel [0, 0]) 179] (sB H0) ?ho1 ?he1
 case ho1 => exact am (zU rfl rfl) (am (zU rfl rfl) (am (ex_madeWD rfl) trivial))
 intro J w1 l hM hl
 have H1 : Hid (Mm w1 [(J 0, zB a), (J 1, zB b), (J 2, cel [0, 0])] ∧ _) := wB H0 hM hl [0, 1, 2]
 have o1_0 := vB H0 hM hl 0
 have o1_1 := vB H0 hM hl 1
 have o1_2 := vB H0 hM hl 2
 clear hM hl l
 generalize J 0 = J1_0 at H1 o1_0 ⊢
 generalize J 1 = J1_1 at H1 o1_1 ⊢
 generalize J 2 = J1_2 at H1 o1_2 ⊢
 clear J
 refine rN (wp_seq ?_)
 refine zC 10 [.q (N a), .q (N b), .call (.tuple #[N u0, N u1]), .q (.tuple #[N u0, N u1]), .q (N u0), .q (N u1), .made zero6 24, .made zero6 24, .laid 6 zero6 (zB u0), .laid 7 zero6 (zB u1)] (sB H1) ?ho2 ?he2 (hL := ?hL2)
 case hL2 => exact ⟨⟨_, rfl⟩, ⟨_, rfl⟩, trivial⟩
 case ho2 => exact bN 0 (bN 1 (ac (fun w' h => eC call158 (C0.out w')) (ar (ag (ag (am (zG rfl) (am (zG rfl) (ak (fun J => ⟨rfl, rfl, rfl, fun w' h => zK h rfl rfl rfl⟩) (ak (fun J => ⟨rfl, rfl, rfl, fun w' h => zK h rfl rfl rfl⟩) trivial)))))))))
 intro J w2 l hM hl
 have H2 : Hid (Mm w2 ([(J 6, zB u0), (J 7, zB u1)] ++ _) ∧ _) := wB H1 hM hl [6, 7]
 have o2_6 := vB H1 hM hl 6
 have o2_7 := vB H1 hM hl 7
 clear hM hl l H1
 generalize J 6 = J2_6 at H2 o2_6 ⊢
 generalize J 7 = J2_7 at H2 o2_7 ⊢
 clear J
 refine rN (wp_seq ?_)
 refine zD 3 [.q (N u0), .q (N u1), .q (V [u0, u1])] H2 ?ho3 ?he3
 case ho3 => exact bN 0 (bN 1 (ak (fun J => ⟨rfl, fun w' _ => ex_buildWD rfl rfl rfl⟩) trivial))
 intro _ w3 H3
 clear H2
 refine zH (l := [3]) rfl ?_
 refine sF 4 [u0, u1] [_, _, _, _, _] H3 o1_2 As179 fun w4 H4 => ?_
 clear H3
 refine zE (zA (wp_ret ?_))
 repeat (first | refine zJ ?_ | refine zI ?_)
 have hf0 := cel_var (k := 2) H4.out.1 4 rfl Ai179 As179 rfl
 refine bodyPost_ret (v := V [u0, u1]) (by simp [results, Tryz.results148, asAddr, hf0]) rfl ?_
 exact ⟨rfl, H4.out.2⟩
end Rg
end Go.Proofs.YtmanelnacifgcaaGreatDoor
end
